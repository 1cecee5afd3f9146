package xout

import (
	"hornbeam/api"
	"hornbeam/xtok"
	"hornbeam/xtree"
)

// Writer writes a document.
type Writer struct {
	elems []xtree.Elem
	texts [][]byte // of each element: what is to be its Text
	open  []int    // from the root on
	code  api.Code // the first error
}

// Open opens an element.
func (w *Writer) Open(name string, pairs ...string) *Writer {
	if w == nil || w.code != api.OK {
		return w
	}
	if len(pairs)%2 != 0 {
		w.code = api.ErrArg
		return w
	}
	elem := xtree.Elem{Name: name, Up: -1}
	for i := 0; i < len(pairs); i += 2 {
		elem.Attrs = append(elem.Attrs, xtok.Attr{Name: pairs[i], Value: pairs[i+1]})
	}
	n := len(w.elems)
	if up, ok := w.inner(); ok {
		elem.Up = up
		w.elems[up].Kids = append(w.elems[up].Kids, n)
	}
	w.elems = append(w.elems, elem)
	w.texts = append(w.texts, nil)
	w.open = append(w.open, n)
	return w
}

// inner tells the open element.
func (w *Writer) inner() (int, bool) {
	if len(w.open) == 0 {
		return 0, false
	}
	return w.open[len(w.open)-1], true
}

// Text writes a text.
func (w *Writer) Text(s string) *Writer {
	if w == nil || w.code != api.OK {
		return w
	}
	n, ok := w.inner()
	if !ok {
		w.code = api.ErrArg
		return w
	}
	w.texts[n] = append(w.texts[n], s...)
	return w
}

// Close closes the open element.
func (w *Writer) Close() *Writer {
	if w == nil || w.code != api.OK {
		return w
	}
	if len(w.open) == 0 {
		w.code = api.ErrArg
		return w
	}
	w.open = w.open[:len(w.open)-1]
	return w
}

// Done tells the text.
func (w *Writer) Done() (string, api.Code) {
	switch {
	case w == nil:
		return "", api.ErrArg
	case w.code != api.OK:
		return "", w.code
	case len(w.open) > 0:
		return "", api.ErrArg
	}
	var d xtree.Doc
	for n, elem := range w.elems {
		elem.Text = string(w.texts[n])
		d.Elems = append(d.Elems, elem)
	}
	return Print(d) // which refuses none and two roots
}
