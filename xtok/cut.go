package xtok

import (
	"strconv"
	"strings"

	"hornbeam/chars"
	"hornbeam/utf"
)

// cutter goes through a text of characters that XML takes. Its parts tell false where something is not so; wrong is the place then.
type cutter struct {
	s      string
	at     int
	tokens []Token
	wrong  int
}

func (c *cutter) fail(at int) bool {
	c.wrong = at
	return false
}

// begins tells whether the text goes on so.
func (c *cutter) begins(with string) bool { return strings.HasPrefix(c.s[c.at:], with) }

// take goes past what the text goes on with, if it does.
func (c *cutter) take(what string) bool {
	if !c.begins(what) {
		return false
	}
	c.at += len(what)
	return true
}

// until tells what stands ahead of an end, and goes past both.
func (c *cutter) until(end string) (string, bool) {
	within, _, ok := strings.Cut(c.s[c.at:], end)
	if ok {
		c.at += len(within) + len(end)
	}
	return within, ok
}

// blanks goes past blanks; it tells whether there are any.
func (c *cutter) blanks() bool {
	start := c.at
	for c.at < len(c.s) && utf.Space(int(c.s[c.at])) {
		c.at++
	}
	return c.at > start
}

// name goes past a name ("": there is none).
func (c *cutter) name() string {
	rest := c.s[c.at:]
	size := chars.NameSize(rest)
	c.at += size
	return rest[:size]
}

func (c *cutter) put(t Token) bool {
	if t.Kind != Text || t.Text != "" {
		c.tokens = append(c.tokens, t)
	}
	return true
}

// token goes past one token, or what is none; there is something left.
func (c *cutter) token() bool {
	start := c.at
	switch {
	case c.s[start] != '<':
		return c.text()
	case c.take("<!--"):
		return c.remark(start)
	case c.take("<![CDATA["):
		return c.raw(start)
	case c.take("<?"):
		return c.instruction(start)
	case c.take("</"):
		return c.closing(start)
	}
	c.at++
	return c.opening(start)
}

func (c *cutter) text() bool {
	start := c.at
	var out strings.Builder
reading:
	for c.at < len(c.s) {
		switch b := c.s[c.at]; {
		case b == '<':
			break reading
		case c.begins("]]>"):
			return c.fail(c.at)
		case b == '&':
			char, ok := c.reference()
			if !ok {
				return false
			}
			out.WriteString(char)
		case c.lineEnd():
			out.WriteByte('\n')
		default:
			out.WriteByte(b)
			c.at++
		}
	}
	return c.put(Token{Kind: Text, At: start, Text: out.String()})
}

// lineEnd goes past 13 10 or a 13 alone.
func (c *cutter) lineEnd() bool { return c.take("\r\n") || c.take("\r") }

// reference tells what a reference stands for.
func (c *cutter) reference() (string, bool) {
	start := c.at
	c.at++
	word, ok := c.until(";")
	if !ok {
		return "", c.fail(start)
	}
	switch word {
	case "lt":
		return "<", true
	case "gt":
		return ">", true
	case "amp":
		return "&", true
	case "apos":
		return "'", true
	case "quot":
		return "\"", true
	}
	char, ok := numbered(word)
	if !ok {
		return "", c.fail(start)
	}
	return char, true
}

// numbered tells the character of `#N` or `#xN`.
func numbered(word string) (string, bool) {
	digits, ok := strings.CutPrefix(word, "#")
	if !ok {
		return "", false
	}
	base, most := 10, 7
	if hex, ok := strings.CutPrefix(digits, "x"); ok {
		digits, base, most = hex, 16, 6
	}
	if len(digits) > most {
		return "", false
	}
	r, err := strconv.ParseUint(digits, base, 32) // takes neither signs nor underscores with a base of its own
	if err != nil || !utf.Char(int(r)) {
		return "", false
	}
	return utf.Put(int(r))
}

// raw is what stands in CDATA.
func (c *cutter) raw(start int) bool {
	within, ok := c.until("]]>")
	if !ok {
		return c.fail(start)
	}
	within = strings.ReplaceAll(within, "\r\n", "\n")
	return c.put(Token{Kind: Text, At: start, Text: strings.ReplaceAll(within, "\r", "\n")})
}

func (c *cutter) remark(start int) bool {
	if _, ok := c.until("--"); !ok {
		return c.fail(start)
	}
	if !c.take(">") {
		return c.fail(c.at - len("--"))
	}
	return true
}

func (c *cutter) instruction(start int) bool {
	name := c.name()
	if name == "" || strings.EqualFold(name, "xml") && start > 0 {
		return c.fail(start)
	}
	if _, ok := c.until("?>"); !ok {
		return c.fail(start)
	}
	return true
}

func (c *cutter) closing(start int) bool {
	name := c.name()
	c.blanks()
	if name == "" || !c.take(">") {
		return c.fail(start)
	}
	return c.put(Token{Kind: Close, At: start, Name: name})
}

func (c *cutter) opening(start int) bool {
	token := Token{Kind: Open, At: start, Name: c.name()}
	if token.Name == "" {
		return c.fail(start)
	}
	seen := map[string]struct{}{}
attributes:
	for {
		apart := c.blanks()
		switch {
		case c.take(">"):
			break attributes
		case c.take("/>"):
			token.Empty = true
			break attributes
		case !apart:
			return c.fail(start)
		}
		attr := Attr{At: c.at}
		attr.Name = c.name()
		if attr.Name == "" {
			return c.fail(start)
		}
		if _, twice := seen[attr.Name]; twice {
			return c.fail(attr.At)
		}
		seen[attr.Name] = struct{}{}
		value, ok := c.value(start)
		if !ok {
			return false
		}
		attr.Value = value
		token.Attrs = append(token.Attrs, attr)
	}
	return c.put(token)
}

// value tells that of an attribute whose name was just gone past.
func (c *cutter) value(start int) (string, bool) {
	c.blanks()
	named := c.take("=")
	c.blanks()
	if !named || !c.begins("\"") && !c.begins("'") {
		return "", c.fail(start)
	}
	quote := c.s[c.at]
	c.at++
	var out strings.Builder
	for c.at < len(c.s) {
		switch b := c.s[c.at]; {
		case b == quote:
			c.at++
			return out.String(), true
		case b == '<':
			return "", c.fail(start)
		case b == '&':
			char, ok := c.reference()
			if !ok {
				return "", false
			}
			out.WriteString(char)
		case c.lineEnd():
			out.WriteByte(' ')
		case utf.Space(int(b)):
			out.WriteByte(' ')
			c.at++
		default:
			out.WriteByte(b)
			c.at++
		}
	}
	return "", c.fail(start)
}
