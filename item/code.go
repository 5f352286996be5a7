package item

import (
	"strings"

	"springhouse/api"
	"springhouse/scan"
)

// numberBytes is how many bytes a score's number has.
const numberBytes = 4

// writer of an item's bytes.
type writer struct{ strings.Builder }

// writeText writes how many bytes there are, and they.
func (w *writer) writeText(s string) {
	w.WriteByte(byte(len(s)))
	w.WriteString(s)
}

// writeNumber writes a score's number. MaxInt is added, so that none is below 0.
func (w *writer) writeNumber(n int) {
	for i := numberBytes - 1; i >= 0; i-- {
		w.WriteByte(byte((n + api.MaxInt) >> (8 * i)))
	}
}

// Encode an item.
func Encode(x api.Item) (string, api.Errno) {
	if e := Check(x); e != api.OK {
		return "", e
	}
	var w writer
	w.WriteByte(byte(x.Kind))
	if x.Kind == api.ItemText {
		w.WriteString(x.Text)
		return w.String(), api.OK
	}
	// Of these three lists an item has just one.
	w.WriteByte(byte(len(x.List) + len(x.Pairs) + len(x.Scores)))
	for _, s := range x.List {
		w.writeText(s)
	}
	for _, p := range x.Pairs {
		w.writeText(p.Field)
		w.writeText(p.Value)
	}
	for _, s := range x.Scores {
		w.writeNumber(s.N)
		w.writeText(s.Member)
	}
	return w.String(), api.OK
}

// Decode bytes.
func Decode(s string) (api.Item, api.Errno) {
	var x api.Item
	if e := scan.Run(func() { x = decodeAll(scan.Over(s)) }); e != api.OK {
		return api.Item{}, api.ErrForm // bytes that must come yet never come here
	}
	if e := Check(x); e != api.OK {
		return api.Item{}, e
	}
	return x, api.OK
}

func decodeAll(w *scan.Walk) api.Item {
	x := api.Item{Kind: int(w.Next())}
	switch x.Kind {
	case api.ItemText:
		x.Text = w.Take(len(w.Left()))
	case api.ItemList, api.ItemSet:
		x.List = decodeEach(w, decodeText)
	case api.ItemHash:
		x.Pairs = decodeEach(w, func(w *scan.Walk) api.Pair {
			return api.Pair{Field: decodeText(w), Value: decodeText(w)}
		})
	case api.ItemScore:
		x.Scores = decodeEach(w, func(w *scan.Walk) api.Score {
			return api.Score{N: decodeNumber(w), Member: decodeText(w)}
		})
	default:
		scan.GiveUp(api.ErrForm)
	}
	if !w.Done() {
		scan.GiveUp(api.ErrForm)
	}
	return x
}

// decodeEach decodes how many there are, and them.
func decodeEach[T any](w *scan.Walk, decode func(w *scan.Walk) T) []T {
	var l []T
	for range w.Next() {
		l = append(l, decode(w))
	}
	return l
}

func decodeText(w *scan.Walk) string { return w.Take(int(w.Next())) }

func decodeNumber(w *scan.Walk) int {
	n := 0
	for range numberBytes {
		n = n<<8 | int(w.Next())
	}
	return n - api.MaxInt
}
