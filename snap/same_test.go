package snap_test

import (
	"fmt"
	"reflect"
	"slices"
	"testing"

	"orchard/api"
	"orchard/snap"
)

// P14.1: Same, Differ, Clone; P14.4: Differ tells nothing just if they are the same.

// fields are the names of api.Snap's fields, in their order, which is that of the form.
func fields() []string {
	return []string{"Site", "Applied", "Booted", "Epoch", "Clock", "Vector", "Last", "Base", "Log", "Frontier", "Starts", "Kept", "Known", "Told", "Clocks", "Sure", "Rows", "Parts"}
}

func TestFieldsAreApis(t *testing.T) {
	var l []string
	for i := range reflect.TypeFor[api.Snap]().NumField() {
		l = append(l, reflect.TypeFor[api.Snap]().Field(i).Name)
	}
	if !slices.Equal(l, fields()) {
		t.Error("api.Snap has the fields", l)
	}
}

// wantDiffer: both ways round, and Same says the same.
func wantDiffer(t *testing.T, what string, a, b api.Snap, names ...string) {
	t.Helper()
	if l := snap.Differ(a, b); !slices.Equal(l, names) {
		t.Errorf("Differ: %s: %v, want %v", what, l, names)
	}
	if l := snap.Differ(b, a); !slices.Equal(l, names) {
		t.Errorf("Differ: %s, the other way round: %v, want %v", what, l, names)
	}
	if snap.Same(a, b) != (len(names) == 0) || snap.Same(b, a) != (len(names) == 0) {
		t.Errorf("Same: %s: %v, %v", what, snap.Same(a, b), snap.Same(b, a))
	}
}

func TestSameOfTheSame(t *testing.T) {
	wantDiffer(t, "zero states", api.Snap{}, api.Snap{})
	wantDiffer(t, "whole states", whole(), whole())
	s := whole()
	wantDiffer(t, "one state", s, s)
	for i, fault := range faults() {
		wantDiffer(t, fmt.Sprint("states with the fault ", i), changed(fault), changed(fault))
	}
}

// TestDifferAtEachPlace: each number, text and flag of a whole state in turn.
func TestDifferAtEachPlace(t *testing.T) {
	s := whole()
	seen := map[string]bool{}
	for i, p := range places(&s) {
		c := whole()
		places(&c)[i].turn()
		wantDiffer(t, p.path, whole(), c, p.field())
		seen[p.field()] = true
	}
	if len(seen) != len(fields()) {
		t.Error("of so many fields was something turned:", len(seen))
	}
}

// TestDifferAtFarPlaces: numbers that differ in their highest bit alone.
func TestDifferAtFarPlaces(t *testing.T) {
	s := whole()
	for i, p := range places(&s) {
		if p.v.CanInt() {
			c := whole()
			v := places(&c)[i].v
			v.SetInt(v.Int() ^ -1<<63)
			wantDiffer(t, p.path, whole(), c, p.field())
		}
	}
}

// TestDifferInLength: each list with a member more or less, at its beginning and at its end.
func TestDifferInLength(t *testing.T) {
	s := whole()
	for i, p := range lists(&s) {
		for _, change := range []func(v reflect.Value){
			func(v reflect.Value) { v.Set(v.Slice(0, v.Len()-1)) },
			func(v reflect.Value) { v.Set(v.Slice(1, v.Len())) },
			func(v reflect.Value) { v.Set(v.Slice(0, 0)) },
			func(v reflect.Value) { v.Set(reflect.Append(v, reflect.Zero(v.Type().Elem()))) },
			func(v reflect.Value) { v.Set(reflect.AppendSlice(v, v)) },
		} {
			c := whole()
			v := lists(&c)[i].v
			if v.Len() == 0 {
				continue
			}
			change(v)
			wantDiffer(t, p.path, whole(), c, p.field())
		}
	}
}

// TestDifferInOrder: each list with two members that have changed their places.
func TestDifferInOrder(t *testing.T) {
	s := whole()
	for i, p := range lists(&s) {
		c := whole()
		v := lists(&c)[i].v
		if v.Len() < 2 {
			continue
		}
		reflect.Swapper(v.Interface())(0, v.Len()-1)
		wantDiffer(t, p.path, whole(), c, p.field())
	}
}

// turnField turns something in one field of a state.
func turnField(s *api.Snap, name string) {
	for _, p := range places(s) {
		if p.field() == name {
			p.turn()
			return
		}
	}
}

// TestDifferInSeveral: every two fields, all but one, and all, in the order of api.Snap.
func TestDifferInSeveral(t *testing.T) {
	for i, one := range fields() {
		for _, other := range fields()[i+1:] {
			// The later one first: the order is not that in which they came to differ.
			wantDiffer(t, "two fields", whole(), changed(func(s *api.Snap) { turnField(s, other); turnField(s, one) }), one, other)
		}
		rest := slices.Delete(fields(), i, i+1)
		wantDiffer(t, "all but one", whole(), changed(func(s *api.Snap) {
			for _, name := range rest {
				turnField(s, name)
			}
		}), rest...)
	}
	var names []string
	for _, name := range fields() {
		names = append(names, name)
		wantDiffer(t, "the first ones", whole(), changed(func(s *api.Snap) {
			for _, name := range names {
				turnField(s, name)
			}
		}), names...)
	}
	all := slices.DeleteFunc(fields(), func(name string) bool { return name == "Booted" })
	wantDiffer(t, "a whole state that is not booted, and the zero state", changed(func(s *api.Snap) { s.Booted = false }), api.Snap{}, all...)
	wantDiffer(t, "a whole state and the zero one", whole(), api.Snap{}, fields()...)
}

// emptied is s with empty lists in the place of nil ones.
func emptied(s api.Snap) api.Snap {
	for _, p := range lists(&s) {
		if p.v.Len() == 0 {
			p.v.Set(reflect.MakeSlice(p.v.Type(), 0, 0))
		}
	}
	return s
}

// TestNilAndEmptyLists: R4, each list in turn and all at once.
func TestNilAndEmptyLists(t *testing.T) {
	thin := api.Snap{Base: []api.TreeNode{node(24, root, "a")}, Parts: []api.Part{{Many: 1}}}
	for i, p := range lists(&thin) {
		if p.v.Len() > 0 {
			continue
		}
		c := snap.Clone(thin)
		v := lists(&c)[i].v
		v.Set(reflect.MakeSlice(v.Type(), 0, 4))
		wantDiffer(t, "an empty list at "+p.path, thin, c)
		wantMayBe(t, "an empty list at "+p.path, c)
		wantBytes(t, "an empty list at "+p.path, formOf(t, c), formOf(t, thin))
	}
	for _, s := range []api.Snap{{}, thin} {
		wantDiffer(t, "empty lists", s, emptied(s))
		wantMayBe(t, "empty lists", emptied(s))
		wantSame(t, "Clone of empty lists", snap.Clone(emptied(s)), s)
	}
}

func TestClone(t *testing.T) {
	for name, s := range map[string]api.Snap{"the zero state": {}, "a whole state": whole(), "the one by hand": handState(), "empty lists": emptied(api.Snap{})} {
		c := snap.Clone(s)
		wantSame(t, "Clone of "+name, c, s)
		wantDiffer(t, "Clone of "+name, c, s)
		// More than R4 asks for: who holds states against each other by other means sees no difference either.
		if !reflect.DeepEqual(c, s) {
			t.Error("Clone of", name, "is not deeply equal")
		}
	}
	for i, fault := range faults() {
		s := changed(fault)
		wantSame(t, fmt.Sprint("Clone of a state with the fault ", i), snap.Clone(s), s)
	}
}

// TestCloneIsApart: each place of the one is changed, and the other one stays, at each list within lists.
func TestCloneIsApart(t *testing.T) {
	s := whole()
	for i, p := range places(&s) {
		given := whole()
		c := snap.Clone(given)
		places(&c)[i].turn()
		wantSame(t, "what was cloned, behind a change of the clone at "+p.path, given, whole())
		c = snap.Clone(given)
		places(&given)[i].turn()
		wantSame(t, "the clone, behind a change of what was cloned at "+p.path, c, whole())
	}
	for i, p := range lists(&s) {
		given := whole()
		c := snap.Clone(given)
		clearList(lists(&c)[i].v)
		wantSame(t, "what was cloned, behind a clearing at "+p.path, given, whole())
	}
}

func clearList(v reflect.Value) {
	for i := range v.Len() {
		v.Index(i).SetZero()
	}
}

// TestCloneHasNoRoomInCommon: what is put behind a clone's list does not come into the room behind the list that was cloned.
func TestCloneHasNoRoomInCommon(t *testing.T) {
	s := whole()
	for i, p := range lists(&s) {
		given, rest := whole(), whole()
		short, want := lists(&given)[i].v, lists(&rest)[i].v
		full := short.Slice(0, short.Len())
		for _, n := range []int{0, full.Len() - 1} {
			if n < 0 {
				continue
			}
			short.Set(full.Slice(0, n))
			c := snap.Clone(given)
			v := lists(&c)
			for _, x := range v {
				if x.path == p.path {
					x.v.Set(reflect.Append(x.v, reflect.Zero(x.v.Type().Elem())))
				}
			}
		}
		if !reflect.DeepEqual(full.Interface(), want.Interface()) {
			t.Error("what stood behind the list was written to:", p.path)
		}
	}
}
