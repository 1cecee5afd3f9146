package chars

import "testing"

func TestIsText(t *testing.T) {
	for s, want := range map[string]bool{"": true, "a<é\t\n\r\U0010ffff": true, "\xff": false, "a\xc3": false, "\x00": false, "a\uffff": false, "\x0b": false} {
		if IsText(s) != want {
			t.Errorf("%q: %v", s, !want)
		}
	}
}

func TestNames(t *testing.T) {
	for s, want := range map[string]int{"": 0, "a": 1, "a b": 1, "é:_.-·9 x": 9, "1a": 0, "-": 0, " a": 0, "a\xff": 1, "\xff": 0, "ab×": 2, "a\uffff": 1} {
		if NameSize(s) != want || IsName(s) != (want == len(s) && want > 0) {
			t.Errorf("%q: %d, %v", s, NameSize(s), IsName(s))
		}
	}
}
