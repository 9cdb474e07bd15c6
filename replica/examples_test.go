package replica_test

import (
	"testing"

	"orchard/api"
)

// The chapter's examples.

func TestExampleOneAlone(t *testing.T) {
	o := fresh(t, 0, 1)
	for range 3 {
		o.tick()
		o.wantRole(api.RoleFollow)
	}
	o.tick()
	o.wantRole(api.RoleLead)
	o.propose(named(7))
	o.wantNext(0, named(7))
}

func TestExampleThree(t *testing.T) {
	o := fresh(t, 0, 3)
	b := ballot(1, 0)
	o.quiet(3)
	o.tick(o.out(1, prepare(b, 0)), o.out(2, prepare(b, 0)))
	o.step(o.in(1, promise(b, 0)), o.out(1, beat(b, 0)), o.out(2, beat(b, 0)))
	o.wantRole(api.RoleLead)
	o.propose(named(7), o.out(1, accept(b, 0, named(7))), o.out(2, accept(b, 0, named(7))))
	told := chosen(with(0, b, named(7)))
	o.step(o.in(2, accepted(b, 0)), o.out(1, told), o.out(2, told))
	o.wantNext(0, named(7))
}
