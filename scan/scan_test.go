package scan

import (
	"testing"

	"springhouse/api"
)

func TestRunTellsWhyAWalkGaveUp(t *testing.T) {
	if e := Run(func() {}); e != api.OK {
		t.Errorf("a walk to its end: %d", e)
	}
	for _, want := range []api.Errno{api.ErrForm, api.ErrMany, api.ErrShort} {
		if e := Run(func() { GiveUp(want) }); e != want {
			t.Errorf("gave up with %d: %d", want, e)
		}
	}
}

func TestRunDoesNotHideOtherPanics(t *testing.T) {
	defer func() {
		if p := recover(); p != "other" {
			t.Errorf("recovered %v", p)
		}
	}()
	Run(func() { panic("other") })
	t.Error("a panic that is no Stop was hidden")
}

func TestStopIsAnError(t *testing.T) {
	var err error = Stop{api.ErrForm}
	if err.Error() != "the walk gave up: 1" {
		t.Errorf("%q", err.Error())
	}
}

func TestSteps(t *testing.T) {
	digit := func(c byte) bool { return '0' <= c && c <= '9' }
	for _, c := range []struct {
		name, text string
		step       func(w *Walk)
		want       api.Errno
		at         int
	}{
		{"next", "ab", func(w *Walk) { w.Next() }, api.OK, 1},
		{"next of none", "", func(w *Walk) { w.Next() }, api.ErrShort, 0},
		{"want", "7x", func(w *Walk) { w.Want(digit) }, api.OK, 1},
		{"want another", "x7", func(w *Walk) { w.Want(digit) }, api.ErrForm, 1},
		{"want of none", "", func(w *Walk) { w.Want(digit) }, api.ErrShort, 0},
		{"must", "\r\nx", func(w *Walk) { w.Must('\r', '\n') }, api.OK, 2},
		{"must nothing", "", func(w *Walk) { w.Must() }, api.OK, 0},
		{"must, one to come", "\r", func(w *Walk) { w.Must('\r', '\n') }, api.ErrShort, 1},
		{"must, a wrong one tells first", "x", func(w *Walk) { w.Must('\r', '\n') }, api.ErrForm, 1},
		{"take", "abc", func(w *Walk) { w.Take(2) }, api.OK, 2},
		{"take all", "abc", func(w *Walk) { w.Take(3) }, api.OK, 3},
		{"take too many", "abc", func(w *Walk) { w.Take(4) }, api.ErrShort, 0},
		{"till", "ab;", func(w *Walk) { w.Till(func(left string) bool { return left == ";" }) }, api.OK, 2},
		{"till the end", "ab", func(w *Walk) { w.Till(func(left string) bool { return left == "" }) }, api.OK, 2},
		{"till what is not there", "ab", func(w *Walk) { w.Till(func(left string) bool { return false }) }, api.ErrShort, 0},
	} {
		w := Over(c.text)
		e := Run(func() { c.step(w) })
		if e != c.want || w.At() != c.at || w.Done() != (c.at == len(c.text)) {
			t.Errorf("%s: %d at %d, want %d at %d", c.name, e, w.At(), c.want, c.at)
		}
	}
}

func TestWhatStepsAnswer(t *testing.T) {
	w := Over("a1bcd;e")
	if c := w.Next(); c != 'a' {
		t.Errorf("next: %q", c)
	}
	if c := w.Want(func(c byte) bool { return c == '1' }); c != '1' {
		t.Errorf("want: %q", c)
	}
	if s := w.Left(); s != "bcd;e" || w.At() != 2 {
		t.Errorf("left: %q at %d", s, w.At())
	}
	if s := w.Take(2); s != "bc" {
		t.Errorf("take: %q", s)
	}
	if s := w.Till(func(left string) bool { return left[0] == ';' }); s != "d" {
		t.Errorf("till: %q", s)
	}
	w.Must(';', 'e')
	if !w.Done() || w.Left() != "" {
		t.Error("bytes are left")
	}
}
