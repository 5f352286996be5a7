package letters

import "testing"

func TestK1Small(t *testing.T) {
	for s, want := range map[string]string{
		"":                  "",
		"get":               "get",
		"GET":               "get",
		"gEt 1":             "get 1",
		"AZaz@[`{":          "azaz@[`{",
		"\u212aeys":         "\u212aeys", // a sign that the library makes a k
		"\u017fet":          "\u017fet",  // and one that it takes for an s
		"\u00c4\xc1\x00A":   "\u00c4\xc1\x00a",
		"\xff\xfeB\x80\xe1": "\xff\xfeb\x80\xe1",
	} {
		if got := Small(s); got != want {
			t.Errorf("%q: %q, must be %q", s, got, want)
		}
	}
}

func TestK1SmallOfEachByte(t *testing.T) {
	const great, small = "ABCDEFGHIJKLMNOPQRSTUVWXYZ", "abcdefghijklmnopqrstuvwxyz"
	for c := range 256 {
		want := string([]byte{byte(c)})
		for i := range len(great) {
			if great[i] == byte(c) {
				want = small[i : i+1]
			}
		}
		if got := Small(string([]byte{byte(c)})); got != want {
			t.Errorf("%d: %q, must be %q", c, got, want)
		}
	}
}
