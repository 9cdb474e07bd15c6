package ckpt_test

import (
	"testing"

	"orchard/api"
	"orchard/ckpt"
)

// The examples of the chapter.

func TestExampleOfNothing(t *testing.T) {
	b, err := ckpt.Encode(0, nil)
	wantErr(t, "Encode of 0 and nothing", err, api.OK)
	if len(b) != 7 || b[0] != 4 || b[1] != 0 || b[2] != 0 {
		t.Errorf("Encode of 0 and nothing: %d", b)
	}
	wantPoint(t, "Load of an empty disk", load(made(t, 100)), wrong(api.ErrNone))
}

func TestExampleFall(t *testing.T) {
	d := made(t, 1000)
	wantErr(t, "Save of 5", ckpt.Save(d, 5, []byte("x")), api.OK)
	wantErr(t, "SetFuse", d.SetFuse(3, 9), api.OK)
	wantErr(t, "Save of 9", ckpt.Save(d, 9, []byte("y")), api.ErrDown)
	wantErr(t, "Restart", d.Restart(), api.OK)
	wantPoint(t, "Load", load(d), point{5, "x", api.OK})
}
