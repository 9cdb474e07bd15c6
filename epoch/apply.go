package epoch

import "orchard/api"

// Apply is the epoch that an entry of the configuration's log makes of e.
func Apply(e api.Epoch, x api.Entry) (api.Epoch, api.Errno) {
	err := mayApply(e, x)
	if err == api.OK {
		// e is a copy of the caller's.
		err = change(&e, x)
	}
	if err != api.OK {
		return api.Epoch{}, err
	}
	e.Number++
	return e, api.OK
}

// mayApply is what is asked of every entry, whatever its kind is.
func mayApply(e api.Epoch, x api.Entry) api.Errno {
	switch {
	case !Check(e) || !makesEpochs(x.Kind) || !areSites(x.Site):
		return api.ErrArg
	case e.Number == api.MaxEpochs-1:
		return api.ErrLong
	}
	return api.OK
}

func makesEpochs(kind int) bool {
	return kind == api.EnJoin || kind == api.EnLeave || kind == api.EnSealed
}

func change(e *api.Epoch, x api.Entry) api.Errno {
	switch x.Kind {
	case api.EnJoin:
		return join(e, x.Site, x.Sponsor)
	case api.EnLeave:
		return leave(e, x.Site)
	}
	return retire(e, x.Site, x.Length)
}

func join(e *api.Epoch, site, sponsor int) api.Errno {
	switch {
	case e.States[site] != api.SiteNone:
		return api.ErrState
	case !areSites(sponsor):
		return api.ErrArg
	case e.States[sponsor] != api.SiteMember:
		return api.ErrState
	}
	e.States[site] = api.SiteMember
	e.Sponsor[site] = sponsor
	return api.OK
}

func leave(e *api.Epoch, site int) api.Errno {
	switch {
	case e.States[site] != api.SiteMember:
		return api.ErrState
	case isLast(e, site):
		return api.ErrLast
	}
	e.States[site] = api.SiteLeaving
	return api.OK
}

// isLast is whether no other site takes writes.
func isLast(e *api.Epoch, site int) bool {
	for other, state := range e.States {
		if other != site && state == api.SiteMember {
			return false
		}
	}
	return true
}

func retire(e *api.Epoch, site int, length int64) api.Errno {
	switch {
	case e.States[site] != api.SiteLeaving:
		return api.ErrState
	case !isLength(length):
		return api.ErrArg
	}
	e.States[site] = api.SiteRetired
	e.Seals[site] = length
	return api.OK
}

// Follows is whether some entry makes b of a.
func Follows(a, b api.Epoch) bool {
	next, err := Apply(a, between(a, b))
	return err == api.OK && next == b
}

// between is the entry that makes b of a, if there is one: each entry changes one site's state, and what else it changes is that site's, and can be seen in b.
func between(a, b api.Epoch) api.Entry {
	for site, state := range b.States {
		if state != a.States[site] {
			return api.Entry{Kind: kindTo(state), Site: site, Sponsor: b.Sponsor[site], Length: b.Seals[site]}
		}
	}
	return api.Entry{}
}

// kindTo is the kind of the entries that bring a site to a state, EnNone if none does.
func kindTo(state int) int {
	switch state {
	case api.SiteMember:
		return api.EnJoin
	case api.SiteLeaving:
		return api.EnLeave
	case api.SiteRetired:
		return api.EnSealed
	}
	return api.EnNone
}
