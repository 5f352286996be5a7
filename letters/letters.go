// Package letters: letters that may be small or not.
package letters

// Small: a text with its letters small. Letters are those of the document alone: other bytes stay, so the library, which knows more letters, won't do.
func Small(s string) string {
	b := []byte(s)
	for i, c := range b {
		if 'A' <= c && c <= 'Z' {
			b[i] = c - 'A' + 'a'
		}
	}
	return string(b)
}
