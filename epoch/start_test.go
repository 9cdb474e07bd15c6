package epoch_test

import (
	"fmt"
	"slices"
	"testing"

	"orchard/api"
	"orchard/epoch"
)

// P17.1: Start, and New, which answers its error; Members. And the numbers of the chapter.

func TestNumbers(t *testing.T) {
	if api.ErrLast != errLast || api.ErrState != errState || api.MaxEpochs != maxEpochs || api.MaxSites != sites || api.MaxTime != latest {
		t.Error("ErrLast, ErrState, MaxEpochs, MaxSites and MaxTime are", api.ErrLast, api.ErrState, api.MaxEpochs, api.MaxSites, api.MaxTime)
	}
	if got := [...]int{api.EnNone, api.EnJoin, api.EnLeave, api.EnSealed}; got != [...]int{enNone, enJoin, enLeave, enSealed} {
		t.Error("the kinds of entries are", got)
	}
	if got := [...]int{api.SiteNone, api.SiteMember, api.SiteLeaving, api.SiteRetired}; got != [...]int{none, member, leaving, retired} {
		t.Error("the states of sites are", got)
	}
}

func wantStart(t *testing.T, members []int, want api.Epoch) {
	t.Helper()
	what := fmt.Sprintf("Start of %v", members)
	e, err := epoch.Start(members...)
	wantErr(t, what, err, api.OK)
	wantEpoch(t, what, e, want)
	m, err := epoch.New(members...)
	if m == nil || err != api.OK {
		t.Fatalf("New of %v: %v, error %d", members, m, err)
	}
	wantMachine(t, what, m, []api.Epoch{want})
}

func wantNoStart(t *testing.T, members []int, want api.Errno) {
	t.Helper()
	what := fmt.Sprintf("Start of %v", members)
	e, err := epoch.Start(members...)
	wantErr(t, what, err, want)
	wantEpoch(t, what, e, api.Epoch{})
	m, err := epoch.New(members...)
	if m != nil || err != want {
		t.Errorf("New of %v: %v, error %d, want none and %d", members, m, err, want)
	}
}

// subset are the sites whose bits are set, rising.
func subset(bits int) []int {
	var l []int
	for site := range sites {
		if bits>>site&1 == 1 {
			l = append(l, site)
		}
	}
	return l
}

func TestStartOfAnySites(t *testing.T) {
	s := source(1)
	for bits := 1; bits < 1<<sites; bits++ {
		l := subset(bits)
		want := epochOf(0)
		for _, site := range l {
			want = with(want, site, isMember)
		}
		wantStart(t, l, want)
		slices.Reverse(l)
		wantStart(t, l, want)
		for i := range l {
			j := i + s.below(len(l)-i)
			l[i], l[j] = l[j], l[i]
		}
		wantStart(t, l, want)
	}
}

func TestStartOfNone(t *testing.T) {
	wantNoStart(t, nil, errArg)
	wantNoStart(t, []int{}, errArg)
}

func TestStartOfNoSite(t *testing.T) {
	for _, site := range siteNumbers() {
		if isSite(site) {
			continue
		}
		wantNoStart(t, []int{site}, errArg)
		wantNoStart(t, []int{site, site}, errArg)
		for at := range 4 {
			wantNoStart(t, slices.Insert([]int{0, 5, 7}, at, site), errArg)
			// One that stands twice, ahead of it or behind it, is told less than that.
			wantNoStart(t, slices.Insert([]int{2, 2, 7}, at, site), errArg)
			wantNoStart(t, slices.Insert([]int{7, 2, 2}, at, site), errArg)
		}
		wantNoStart(t, []int{0, 1, 2, 3, 4, 5, 6, 7, 0, site}, errArg)
	}
}

func TestStartOfOneTwice(t *testing.T) {
	for site := range sites {
		wantNoStart(t, []int{site, site}, errTwice)
		for at := range sites + 1 {
			wantNoStart(t, slices.Insert([]int{0, 1, 2, 3, 4, 5, 6, 7}, at, site), errTwice)
			wantNoStart(t, slices.Insert([]int{7, 6, 5, 4, 3, 2, 1, 0}, at, site), errTwice)
		}
	}
	wantNoStart(t, []int{3, 3, 3}, errTwice)
	wantNoStart(t, []int{1, 2, 1, 2}, errTwice)
}

func wantMembers(t *testing.T, e api.Epoch, want []int) {
	t.Helper()
	if got := epoch.Members(e); !slices.Equal(got, want) {
		t.Errorf("Members of %v: %v, want %v", e, got, want)
	}
}

func TestMembers(t *testing.T) {
	wantMembers(t, epochOf(0, isMember), []int{0})
	wantMembers(t, epochOf(4, isLeaving, isMember, retiredAt(3, 0), isNone, by(member, 1)), []int{0, 1, 4})
	wantMembers(t, ofAll(), []int{0, 1, 2, 3, 7})
	wantMembers(t, api.Epoch{}, nil)
}

// TestMembersOfAnyStates: also of epochs that may not be.
func TestMembersOfAnyStates(t *testing.T) {
	for n := range 1 << (2 * sites) {
		e := unlikely()[14]
		var want []int
		for site := range sites {
			e.States[site] = n >> (2 * site) & 3
			if e.States[site] == 1 || e.States[site] == 2 {
				want = append(want, site)
			}
		}
		wantMembers(t, e, want)
	}
	for _, state := range []int{-1 << 63, -2, -1, 4, 5, 1 << 33} {
		for site := range sites {
			wantMembers(t, with(ofAll(), site, place{state: state}), slices.DeleteFunc([]int{0, 1, 2, 3, 7}, func(x int) bool { return x == site }))
		}
	}
}
