package snap

import "orchard/api"

// coder puts the fields that it is given into a form, or fills them from one: so the form stands here once, for both ways. Its first error stays, and behind it nothing is put or taken.
type coder interface {
	int64s(l ...*int64)
	ints(l ...*int)
	errs(l ...*api.Errno)
	texts(l ...*string)
	flags(l ...*bool)
	data(l ...*[]byte)
	// length is how many members a list, that has many now, has in the form.
	length(many int) int
	failed() bool
}

// form goes through the fields of a state in the order of its form.
func form(c coder, s *api.Snap) {
	c.ints(&s.Site)
	c.int64s(&s.Applied)
	c.flags(&s.Booted)
	formEpoch(c, &s.Epoch)
	c.int64s(&s.Clock)
	formVectors(c, &s.Vector, &s.Last)
	formList(c, &s.Base, formNode)
	formList(c, &s.Log, formOp)
	c.int64s(&s.Frontier)
	formVectors(c, &s.Starts)
	for site := range s.Kept {
		formList(c, &s.Kept[site], formOp)
	}
	for site := range s.Known {
		formVectors(c, &s.Known[site])
	}
	formVectors(c, &s.Told, &s.Clocks, &s.Sure)
	formList(c, &s.Rows, formRow)
	formList(c, &s.Parts, formPart)
}

func formEpoch(c coder, e *api.Epoch) {
	c.int64s(&e.Number)
	for site := range e.States {
		c.ints(&e.States[site])
	}
	formVectors(c, &e.Seals)
	for site := range e.Sponsor {
		c.ints(&e.Sponsor[site])
	}
}

func formVectors(c coder, l ...*api.Vector) {
	for _, v := range l {
		for site := range v {
			c.int64s(&v[site])
		}
	}
}

func formNode(c coder, x *api.TreeNode) {
	c.int64s(&x.Node, &x.Parent)
	c.texts(&x.Name)
	formList(c, &x.Attrs, formAttr)
}

func formAttr(c coder, a *api.Attr) { c.texts(&a.Key, &a.Value) }

func formStamp(c coder, s *api.Stamp) {
	c.int64s(&s.Time)
	c.ints(&s.Site)
}

func formOp(c coder, op *api.Op) {
	formStamp(c, &op.Stamp)
	c.ints(&op.Kind)
	c.int64s(&op.Node, &op.Parent)
	c.texts(&op.Name, &op.Key, &op.Value)
}

func formRow(c coder, x *api.Row) {
	c.int64s(&x.Session, &x.Request)
	c.errs(&x.Reply.Err)
	formStamp(c, &x.Reply.Stamp)
	c.int64s(&x.Reply.Node)
}

func formPart(c coder, p *api.Part) {
	c.int64s(&p.Snap)
	c.ints(&p.Index, &p.Many)
	c.data(&p.Data)
}

// formList goes through a list. One that is read grows with what stands there: a length alone is no reason to make room.
func formList[T any](c coder, l *[]T, member func(c coder, x *T)) {
	for i := range c.length(len(*l)) {
		if c.failed() {
			return
		}
		if i == len(*l) {
			var none T
			*l = append(*l, none)
		}
		member(c, &(*l)[i])
	}
}
