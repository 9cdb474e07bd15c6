package snap_test

import (
	"encoding/binary"
	"fmt"
	"reflect"
	"regexp"
	"slices"

	"orchard/api"
	"orchard/record"
	"orchard/stamp"
	"orchard/tree"
)

// The chapter's form and its word of which state may be, once more. The form's fields stand in the order of api's structs, each list behind its length, so it is told by going through these.

// What a piece of a form is, and so what is told of a wrong one.
const (
	value  = iota // an int: a wrong one is told when all is read
	flag          // wire tells of a wrong one
	early         // a list's length: a wrong one is told at once
	length        // the length of a text or of bytes: wire tells of a wrong one
	raw           // the bytes of a text, or of a list of bytes
)

type piece struct {
	what int
	b    []byte
}

type pieces []piece

func intForm(n int64) []byte { return binary.AppendVarint(nil, n) }

func (p *pieces) put(what int, b []byte) { *p = append(*p, piece{what, b}) }

func (p *pieces) text(b []byte) {
	p.put(length, intForm(int64(len(b))))
	p.put(raw, b)
}

func (p *pieces) value(v reflect.Value) {
	switch v.Kind() {
	case reflect.Bool:
		n := int64(0)
		if v.Bool() {
			n = 1
		}
		p.put(flag, intForm(n))
	case reflect.Int, reflect.Int64:
		p.put(value, intForm(v.Int()))
	case reflect.String:
		p.text([]byte(v.String()))
	case reflect.Struct:
		for i := range v.NumField() {
			p.value(v.Field(i))
		}
	case reflect.Slice, reflect.Array:
		p.list(v)
	}
}

func (p *pieces) list(v reflect.Value) {
	if v.Type().Elem().Kind() == reflect.Uint8 {
		p.text(v.Bytes())
		return
	}
	if v.Kind() == reflect.Slice {
		p.put(early, intForm(int64(v.Len())))
	}
	for i := range v.Len() {
		p.value(v.Index(i))
	}
}

func piecesOf(s api.Snap) pieces {
	var p pieces
	p.value(reflect.ValueOf(s))
	return p
}

func (p pieces) bytes() []byte {
	var b []byte
	for _, x := range p {
		b = append(b, x.b...)
	}
	return b
}

// with is p with other bytes in the place of one piece.
func (p pieces) with(at int, b []byte) pieces {
	c := slices.Clone(p)
	c[at].b = b
	return c
}

func modelForm(s api.Snap) []byte { return piecesOf(s).bytes() }

// place is a number, a text or a flag within a state, which can be set.
type place struct {
	path string
	v    reflect.Value
}

// field is the name of the field of api.Snap in which it stands.
func (p place) field() string { return regexp.MustCompile(`^[A-Za-z]+`).FindString(p.path) }

// pattern is its path, whichever member of a list it is in.
func (p place) pattern() string { return regexp.MustCompile(`\[\d+\]`).ReplaceAllString(p.path, "[*]") }

// places are all of a state, lists the lists.
func places(s *api.Snap) []place {
	all, _ := walk(s)
	return all
}

func lists(s *api.Snap) []place {
	_, all := walk(s)
	return all
}

func walk(s *api.Snap) (leaves, lists []place) {
	var look func(path string, v reflect.Value)
	look = func(path string, v reflect.Value) {
		switch v.Kind() {
		case reflect.Struct:
			for i := range v.NumField() {
				name := v.Type().Field(i).Name
				if path != "" {
					name = path + "." + name
				}
				look(name, v.Field(i))
			}
		case reflect.Slice, reflect.Array:
			if v.Kind() == reflect.Slice {
				lists = append(lists, place{path, v})
			}
			for i := range v.Len() {
				look(fmt.Sprintf("%s[%d]", path, i), v.Index(i))
			}
		default:
			leaves = append(leaves, place{path, v})
		}
	}
	look("", reflect.ValueOf(s).Elem())
	return leaves, lists
}

// turn gives a place another value.
func (p place) turn() {
	switch p.v.Kind() {
	case reflect.Bool:
		p.v.SetBool(!p.v.Bool())
	case reflect.String:
		p.v.SetString(p.v.String() + "x")
	case reflect.Uint8:
		p.v.SetUint(p.v.Uint() ^ 1)
	default:
		p.v.SetInt(p.v.Int() + 1)
	}
}

func counts(l ...int64) bool {
	return !slices.ContainsFunc(l, func(n int64) bool { return n < 0 || n > latest })
}

// mayBe is the chapter's word, as plainly as it says it.
func mayBe(s api.Snap) bool {
	if s.Site < 0 || s.Site > 7 || record.CheckEpoch(s.Epoch) != api.OK || !counts(s.Applied, s.Clock, s.Frontier) {
		return false
	}
	for i := range sites {
		if !counts(s.Vector[i], s.Last[i], s.Starts[i], s.Told[i], s.Clocks[i], s.Sure[i]) || !counts(s.Known[i][:]...) || !mayKeep(s, i) {
			return false
		}
	}
	if _, err := tree.From(s.Base); err != api.OK || len(s.Base) > members || len(s.Log) > members || len(s.Parts) > members {
		return false
	}
	for _, x := range s.Base {
		if x.Node > mostNode {
			return false
		}
	}
	for i, op := range s.Log {
		if stamp.CheckOp(op) != api.OK || op.Stamp.Time <= s.Frontier || i > 0 && stamp.Compare(s.Log[i-1].Stamp, op.Stamp) >= 0 {
			return false
		}
	}
	for _, p := range s.Parts {
		if !counts(p.Snap) || p.Many < 1 || p.Many > mostMany || p.Index < 0 || p.Index >= p.Many || len(p.Data) > data {
			return false
		}
	}
	return mayRemember(s.Rows)
}

func mayKeep(s api.Snap, site int) bool {
	for i, op := range s.Kept[site] {
		if stamp.CheckOp(op) != api.OK || op.Stamp.Site != site || i > 0 && s.Kept[site][i-1].Stamp.Time >= op.Stamp.Time {
			return false
		}
	}
	return len(s.Kept[site]) <= members && s.Starts[site]+int64(len(s.Kept[site])) == s.Vector[site]
}

func mayRemember(l []api.Row) bool {
	for i, x := range l {
		r := x.Reply
		if x.Session < 1 || x.Request < 1 || !counts(x.Session, x.Request, r.Stamp.Time) || r.Err < 0 || r.Err > 999 {
			return false
		}
		if r.Stamp.Site < 0 || r.Stamp.Site > 7 || r.Node < 0 || r.Node > mostNode || i > 0 && l[i-1].Session >= x.Session {
			return false
		}
	}
	return len(l) <= sessions
}
