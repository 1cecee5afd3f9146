package hornbeam

import (
	"slices"
	"strconv"
	"strings"

	"hornbeam/api"
	"hornbeam/diag"
)

const (
	maxBytes = 200000 // of a script
	lineEnd  = "\n"
	blank    = " "
	remark   = "#"
	noBytes  = "-"
)

// isStep tells whether a step is one that may be done.
func isStep(s api.Step) bool {
	switch s.Word {
	case "load", "same":
		return len(s.Text) == 1 && isHex(s.Text[0])
	case "export":
		if len(s.Text) != 1 {
			return false
		}
		_, ok := kindNumber(s.Text[0])
		return ok
	case "score":
		return len(s.Text) <= api.MaxFields
	case "normal", "fields":
		return len(s.Text) == 0
	}
	return false
}

func isHex(s string) bool {
	_, ok := Unhex(s)
	return ok
}

// isWritten tells whether a step is one that a text says.
func isWritten(s api.Step) bool {
	return isStep(s) && !slices.ContainsFunc(s.Text, func(word string) bool {
		return word == "" || strings.ContainsAny(word, blank+lineEnd)
	})
}

// line is one of a text that says a step, and its number there.
type line struct {
	step   api.Step
	number int
}

// lines tells those lines of a text that say, or should say, a step.
func lines(text string) func(yield func(line) bool) {
	return func(yield func(line) bool) {
		number := 0
	reading:
		for s := range strings.SplitSeq(text, lineEnd) {
			number++
			words := slices.DeleteFunc(strings.Split(s, blank), func(word string) bool { return word == "" })
			if len(words) == 0 || strings.HasPrefix(s, remark) {
				continue reading
			}
			if !yield(line{api.Step{Word: words[0], Text: words[1:]}, number}) {
				break reading
			}
		}
	}
}

// Parse tells a script's steps; with an error its line.
func Parse(text string) ([]api.Step, api.Code, int) {
	if len(text) > maxBytes {
		return nil, api.ErrLimit, 0
	}
	var steps []api.Step
	beyond := 0 // the line of the first step that is one too many
	for l := range lines(text) {
		if !isStep(l.step) {
			return nil, api.ErrScript, l.number
		}
		steps = append(steps, l.step)
		if len(steps) == api.MaxScript+1 {
			beyond = l.number
		}
	}
	if beyond > 0 {
		return nil, api.ErrLimit, beyond
	}
	return steps, api.OK, 0
}

// lineOf tells a step that a text says as its line.
func lineOf(s api.Step) string {
	return strings.Join(append([]string{s.Word}, s.Text...), blank)
}

// Print tells a script as a text.
func Print(l ...api.Step) (string, api.Code) {
	var out strings.Builder
	for _, s := range l {
		if !isWritten(s) {
			return "", api.ErrScript
		}
		out.WriteString(lineOf(s) + lineEnd)
	}
	if len(l) > api.MaxScript || out.Len() > maxBytes {
		return "", api.ErrLimit
	}
	return out.String(), api.OK
}

// Run tells a script's transcript.
func Run(text string) string {
	steps, code, number := Parse(text)
	if code != api.OK {
		return "script error " + diag.Name(code) + " at " + strconv.Itoa(number) + lineEnd
	}
	w := New()
	var out strings.Builder
	for _, s := range steps {
		out.WriteString("> " + lineOf(s) + lineEnd)
		out.WriteString(w.Step(s) + lineEnd)
	}
	return out.String()
}

const digits = "0123456789abcdef"

// Hex tells bytes in hexadecimal digits.
func Hex(b string) string {
	if b == "" {
		return noBytes
	}
	var out strings.Builder
	for i := range len(b) {
		out.WriteByte(digits[b[i]>>4])
		out.WriteByte(digits[b[i]&15])
	}
	return out.String()
}

// Unhex tells the bytes of hexadecimal digits.
func Unhex(s string) (string, bool) {
	if s == noBytes {
		return "", true
	}
	if s == "" || len(s)%2 != 0 {
		return "", false
	}
	var out strings.Builder
	whole := true
reading:
	for i := 0; i < len(s); i += 2 {
		high, low := strings.IndexByte(digits, s[i]), strings.IndexByte(digits, s[i+1])
		if high < 0 || low < 0 {
			whole = false
			break reading
		}
		out.WriteByte(byte(high<<4 | low))
	}
	if !whole {
		return "", false
	}
	return out.String(), true
}
