package pmmlout

import (
	"hornbeam/api"
	"hornbeam/chars"
	"hornbeam/dec"
	"hornbeam/logic"
	"hornbeam/model"
	"hornbeam/rat"
	"hornbeam/utf"
)

const maxDigits = 400 // those that a reader takes

// May tells whether a model may be written.
func May(m api.Model) api.Code {
	switch {
	case !model.Valid(m) || !isWritten(m):
		return api.ErrArg
	case m.Method == api.MinOf || m.Tag != "" || hasEdges(m):
		return api.ErrKind
	case !isExact(m):
		return api.ErrExact
	}
	return api.OK
}

// preds tells all predicates of a model, and those within them.
func preds(m api.Model) func(yield func(api.Pred) bool) {
	return func(yield func(api.Pred) bool) {
	telling:
		for _, s := range m.Segments {
			for p := range logic.Walk(s.Pred) {
				if !yield(p) {
					break telling
				}
			}
			for _, n := range s.Tree.Nodes {
				for p := range logic.Walk(n.Pred) {
					if !yield(p) {
						break telling
					}
				}
			}
		}
	}
}

// isWritten tells whether all texts of a model are such as XML takes.
func isWritten(m api.Model) bool {
	for _, f := range m.Fields {
		if !chars.IsText(f.Name) || !chars.IsText(f.Replace.Cat) {
			return false
		}
		for _, s := range f.Values {
			if !chars.IsText(s) {
				return false
			}
		}
	}
	for p := range preds(m) {
		for _, v := range p.Values {
			if !chars.IsText(v.Cat) {
				return false
			}
		}
	}
	return true
}

// hasEdges tells whether a category that stands alone in an attribute begins or ends with a blank.
func hasEdges(m api.Model) bool {
	for _, f := range m.Fields {
		if hasEdge(f.Replace.Cat) {
			return true
		}
	}
	for p := range preds(m) {
		if p.Op >= api.Less && p.Op <= api.Great && hasEdge(p.Values[0].Cat) {
			return true
		}
	}
	return false
}

func hasEdge(s string) bool {
	return s != "" && (utf.Space(int(s[0])) || utf.Space(int(s[len(s)-1])))
}

// isExact tells whether all numbers of a model are such as a literal has.
func isExact(m api.Model) bool {
	nums := []string{m.Target.Min, m.Target.Max, m.Target.Factor, m.Target.Constant}
	for _, f := range m.Fields {
		nums = append(nums, f.Replace.Num)
	}
	for _, s := range m.Segments {
		nums = append(nums, s.Weight)
		for _, n := range s.Tree.Nodes {
			nums = append(nums, n.Score, n.Count)
		}
	}
	for p := range preds(m) {
		for _, v := range p.Values {
			nums = append(nums, v.Num)
		}
	}
	for _, num := range nums {
		if num != "" && !fits(decimal(num)) {
			return false
		}
	}
	return true
}

// decimal tells the literal of a number ("": there is none).
func decimal(num string) string {
	r, _ := rat.Parse(num) // which a valid model has
	text, _ := dec.Text(r)
	return text
}

func fits(text string) bool {
	digits := 0
	for i := range len(text) {
		if text[i] >= '0' && text[i] <= '9' {
			digits++
		}
	}
	return digits > 0 && digits <= maxDigits
}
