package snap_test

import (
	"fmt"
	"reflect"
	"slices"
	"testing"

	"orchard/api"
	"orchard/snap"
)

// P14.3: there and back, and no two alike; P14.4: no beginning of a form is one.

func wantThereAndBack(t *testing.T, s api.Snap) {
	t.Helper()
	got, err := snap.Unmarshal(formOf(t, s))
	if err != api.OK || !snap.Same(got, s) || len(snap.Differ(got, s)) > 0 {
		t.Fatalf("written %s, read %s, error %d", tell(s), tell(got), err)
	}
	wantSame(t, "written and read", got, s)
}

// wantWrittenAgain: what is read of any bytes is written as just these; else nothing is answered. It tells whether they were a state's.
func wantWrittenAgain(t *testing.T, b []byte) bool {
	t.Helper()
	s, err := snap.Unmarshal(b)
	if err != api.OK {
		wantNone(t, "Unmarshal", s)
		return false
	}
	wantErr(t, "Check of what was read", snap.Check(s), api.OK)
	if len(b) <= mostForm {
		wantBytes(t, "a state, read and written", formOf(t, s), b)
	}
	return true
}

func TestWrittenIsRead(t *testing.T) {
	s := source(5)
	for range 2000 {
		wantThereAndBack(t, s.state())
	}
	for _, x := range unlike() {
		wantThereAndBack(t, x.s)
	}
}

func TestReadIsWritten(t *testing.T) {
	s := source(7)
	read := 0
	for i := range 20000 {
		b := modelForm(s.state())
		if i%5 == 0 {
			b = modelForm(api.Snap{})
		}
		for range s.below(3) {
			b[s.below(len(b))] = byte(s.next() >> s.below(31))
		}
		if wantWrittenAgain(t, b) {
			read++
		}
	}
	if read < 5000 || read > 19000 {
		t.Error("of all these bytes so many were a state's:", read)
	}
	for range 20000 {
		wantWrittenAgain(t, s.bytes(s.below(300)))
	}
	for n := range 200 {
		if wantWrittenAgain(t, make([]byte, n)) != (n == 154) {
			t.Error("bytes of 0:", n)
		}
	}
}

// one is a state that differs from the whole one in a field.
type one struct {
	field string
	s     api.Snap
}

// unlike are states that may be, which differ from the whole one, and from each other, in one field each; those whose Vector and Starts differ stand apart, since neither can differ alone.
func unlike() []one {
	var l []one
	s := whole()
	for i, p := range places(&s) {
		for _, set := range others(p.v) {
			c := whole()
			set(places(&c)[i].v)
			if mayBe(c) {
				l = append(l, one{p.field(), c})
			}
		}
	}
	for i, p := range lists(&s) {
		for n := range p.v.Len() {
			c := whole()
			v := lists(&c)[i].v
			v.Set(v.Slice(0, n))
			if mayBe(c) {
				l = append(l, one{p.field(), c})
			}
		}
	}
	return append(l, unlikeOps()...)
}

// others set a place to another value, each to another one.
func others(v reflect.Value) []func(v reflect.Value) {
	switch v.Kind() {
	case reflect.Bool:
		return []func(v reflect.Value){func(v reflect.Value) { v.SetBool(!v.Bool()) }}
	case reflect.Uint8:
		return []func(v reflect.Value){func(v reflect.Value) { v.SetUint(v.Uint() ^ 1) }}
	case reflect.String:
		return []func(v reflect.Value){
			func(v reflect.Value) { v.SetString(v.String() + "x") },
			func(v reflect.Value) { v.SetString("\x00" + v.String()) },
		}
	}
	var l []func(v reflect.Value)
	for _, n := range []int64{v.Int() - 1, v.Int() + 1, v.Int() + 64, v.Int() ^ 1<<39} {
		l = append(l, func(v reflect.Value) { v.SetInt(n) })
	}
	return l
}

// unlikeOps differ in an operation whose fields hang on one another.
func unlikeOps() []one {
	var l []one
	with := func(field string, change func(s *api.Snap)) {
		c := changed(change)
		if !mayBe(c) {
			panic("a state that may not be")
		}
		l = append(l, one{field, c})
	}
	for i, op := range someLog() {
		for _, x := range opsUnlike(op.Stamp) {
			with("Log", func(s *api.Snap) { s.Log[i] = x })
		}
	}
	for site := range sites {
		for i, op := range whole().Kept[site] {
			for _, x := range opsUnlike(op.Stamp) {
				with("Kept", func(s *api.Snap) { s.Kept[site][i] = x })
			}
		}
		with("Kept", func(s *api.Snap) { s.Kept[site][0] = anOp(0, 1, site) })
	}
	return l
}

// opsUnlike are operations with one stamp, each unlike those of a whole state.
func opsUnlike(s api.Stamp) []api.Op {
	return []api.Op{
		aMake(s.Time, s.Site, trash, "another"), aMake(s.Time, s.Site, 24, "another"), aMake(s.Time, s.Site, trash, "anothe"),
		aMove(s.Time, s.Site, 24, trash, "another"), aMove(s.Time, s.Site, 25, trash, "another"),
		anAttr(s.Time, s.Site, 24, "another", "value"), anAttr(s.Time, s.Site, 24, "anotherv", "alue"), anAttr(s.Time, s.Site, 24, "another", ""),
	}
}

// TestUnlikeInEachField: each field and each place of it, where it alone can differ: unlike forms, not Same, and Differ names just that field.
func TestUnlikeInEachField(t *testing.T) {
	fieldsOf := map[string]int{}
	was := formOf(t, whole())
	for _, x := range unlike() {
		fieldsOf[x.field]++
		wantDiffer(t, "a change of "+x.field, whole(), x.s, x.field)
		if slices.Equal(formOf(t, x.s), was) {
			t.Errorf("one form of the whole state and one with another %s: %s", x.field, tell(x.s))
		}
	}
	for _, name := range fields() {
		if fieldsOf[name] == 0 && name != "Vector" && name != "Starts" {
			t.Error("no state differs in", name)
		}
	}
}

// TestEachPlaceCanDiffer: the states that are told apart do differ in each place that can be another by itself.
func TestEachPlaceCanDiffer(t *testing.T) {
	s := whole()
	for i, p := range places(&s) {
		some := slices.ContainsFunc(others(p.v), func(set func(v reflect.Value)) bool {
			c := whole()
			set(places(&c)[i].v)
			return mayBe(c)
		})
		switch p.field() {
		case "Vector", "Starts", "Log", "Kept", "Base":
			continue
		}
		if !some {
			t.Error("no other value was found for", p.path)
		}
	}
}

// TestUnlikeInVectorAndStarts: both, or one of them and what is kept, site by site.
func TestUnlikeInVectorAndStarts(t *testing.T) {
	was := formOf(t, whole())
	for site := range sites {
		for _, x := range []struct {
			s     api.Snap
			names []string
		}{
			{changed(func(s *api.Snap) { s.Starts[site]++; s.Vector[site]++ }), []string{"Vector", "Starts"}},
			{changed(func(s *api.Snap) { keep(s, site, opsOf(site, 4, 9)) }), []string{"Vector", "Kept"}},
			{changed(func(s *api.Snap) { s.Starts[site]++; s.Kept[site] = s.Kept[site][1:] }), []string{"Starts", "Kept"}},
		} {
			wantMayBe(t, fmt.Sprint("another state of the site ", site), x.s)
			wantDiffer(t, fmt.Sprint("the site ", site), whole(), x.s, x.names...)
			if slices.Equal(formOf(t, x.s), was) {
				t.Errorf("one form of the whole state and one that differs in %v", x.names)
			}
		}
	}
}

// TestNoTwoAlike: of all those states no two have one form, unless they are the same.
func TestNoTwoAlike(t *testing.T) {
	forms := map[string]api.Snap{}
	put := func(s api.Snap) {
		form := string(formOf(t, s))
		if was, is := forms[form]; is && (!reflect.DeepEqual(was, s) || !snap.Same(was, s)) {
			t.Errorf("one form of %s and %s", tell(was), tell(s))
		}
		forms[form] = s
	}
	for _, x := range unlike() {
		put(x.s)
	}
	many := len(forms)
	if many < 500 {
		t.Error("so few states were held against each other:", many)
	}
	for _, s := range alikeButForLengths() {
		put(s)
	}
	if len(forms) != many+len(alikeButForLengths()) {
		t.Error("states that are alike but for lengths have one form")
	}
}

// alikeButForLengths are states whose forms would be the same in pairs, or more, without the lengths of texts and lists.
func alikeButForLengths() []api.Snap {
	base := func(l ...api.TreeNode) api.Snap { return api.Snap{Base: l} }
	two := opsOf(3, 2, 9)
	return []api.Snap{
		base(node(24, root, "ab", attr("c", "d"))), base(node(24, root, "a", attr("bc", "d"))), base(node(24, root, "a", attr("b", "cd"))), base(node(24, root, "abcd")),
		base(node(24, root, "a", attr("b", "c"), attr("d", "e"))), base(node(24, root, "a", attr("bcd", "e"))),
		withLog(0, anAttr(1, 0, root, "a", "bc")), withLog(0, anAttr(1, 0, root, "ab", "c")), withLog(0, anAttr(1, 0, root, "abc", "")),
		{Log: two}, withKept(3, two...), withKept(3, two[0]), {Log: two[:1]}, bare(func(s *api.Snap) { keep(s, 3, two[:1]); s.Log = two[:1] }),
		{Parts: []api.Part{{Many: 1, Data: []byte{0, 0, 2, 0}}}}, {Parts: []api.Part{{Many: 1}, {Many: 1}}},
		{Rows: rowsOf(1)}, {Rows: rowsOf(2)},
	}
}

// TestNoBeginningIsAForm: of random states, at each place; and no form is the beginning of another one.
func TestNoBeginningIsAForm(t *testing.T) {
	s := source(8)
	for range 40 {
		b := formOf(t, s.state())
		for n := range b {
			wantUnmarshalErr(t, fmt.Sprint("the first ", n, " of ", len(b), " bytes"), b[:n], api.ErrEnds)
		}
		wantUnmarshalErr(t, "a form and more", append(b, byte(s.next())), api.ErrMore)
	}
}

func FuzzSnap(f *testing.F) {
	f.Add(modelForm(api.Snap{}))
	f.Add(modelForm(whole()))
	f.Add(modelForm(handState()))
	for _, x := range unlikeOps() {
		f.Add(modelForm(x.s))
	}
	f.Fuzz(func(t *testing.T, b []byte) {
		if wantWrittenAgain(t, b) {
			s, _ := snap.Unmarshal(b)
			wantState(t, "what was read", s, mayBe(s))
		}
	})
}
