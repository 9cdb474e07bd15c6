package snap

import (
	"bytes"
	"slices"

	"orchard/api"
	"orchard/tree"
)

// Same tells whether two states are the same.
func Same(a, b api.Snap) bool { return len(Differ(a, b)) == 0 }

// Differ are the names of the fields in which two states differ.
func Differ(a, b api.Snap) []string {
	var l []string
	for _, f := range []struct {
		name string
		same bool
	}{
		{"Site", a.Site == b.Site},
		{"Applied", a.Applied == b.Applied},
		{"Booted", a.Booted == b.Booted},
		{"Epoch", a.Epoch == b.Epoch},
		{"Clock", a.Clock == b.Clock},
		{"Vector", a.Vector == b.Vector},
		{"Last", a.Last == b.Last},
		{"Base", tree.Same(a.Base, b.Base)},
		{"Log", slices.Equal(a.Log, b.Log)},
		{"Frontier", a.Frontier == b.Frontier},
		{"Starts", a.Starts == b.Starts},
		{"Kept", slices.EqualFunc(a.Kept[:], b.Kept[:], slices.Equal[[]api.Op])},
		{"Known", a.Known == b.Known},
		{"Told", a.Told == b.Told},
		{"Clocks", a.Clocks == b.Clocks},
		{"Sure", a.Sure == b.Sure},
		{"Rows", slices.Equal(a.Rows, b.Rows)},
		{"Parts", slices.EqualFunc(a.Parts, b.Parts, samePart)},
	} {
		if !f.same {
			l = append(l, f.name)
		}
	}
	return l
}

func samePart(a, b api.Part) bool {
	return a.Snap == b.Snap && a.Index == b.Index && a.Many == b.Many && bytes.Equal(a.Data, b.Data)
}

// Clone is a state in memory of its own.
func Clone(s api.Snap) api.Snap {
	s.Base = copied(s.Base)
	for i, x := range s.Base {
		s.Base[i].Attrs = copied(x.Attrs)
	}
	s.Log = copied(s.Log)
	for site, l := range s.Kept {
		s.Kept[site] = copied(l)
	}
	s.Rows = copied(s.Rows)
	s.Parts = copied(s.Parts)
	for i, p := range s.Parts {
		s.Parts[i].Data = copied(p.Data)
	}
	return s
}

// copied has room for its members alone; of no list it is none.
func copied[T any](l []T) []T {
	if l == nil {
		return nil
	}
	c := make([]T, len(l))
	copy(c, l)
	return c
}
