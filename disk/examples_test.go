package disk_test

import (
	"testing"

	"orchard/api"
)

// The examples of the chapter, as they stand there.

func TestExampleOne(t *testing.T) {
	d := made(t, 10)
	wantErr(t, "Append of hello", d.Append("a", []byte("hello")), api.OK)
	wantErr(t, "Append of worlds", d.Append("b", []byte("worlds")), api.ErrFull)
	wantErr(t, "Sync", d.Sync("a"), api.OK)
	wantErr(t, "Append of xyz", d.Append("a", []byte("xyz")), api.OK)
	wantErr(t, "Crash", d.Crash(1), api.OK)
	wantErr(t, "Restart", d.Restart(), api.OK)
	b, err := d.Read("a")
	if string(b) != "hellox" || err != api.OK {
		t.Errorf("a has %q, error %d", b, err)
	}
}

func TestExampleTwo(t *testing.T) {
	d := made(t, 10)
	wantErr(t, "SetFuse", d.SetFuse(2, 0), api.OK)
	wantErr(t, "Append", d.Append("a", []byte("1")), api.OK)
	wantErr(t, "Sync", d.Sync("a"), api.ErrDown)
	wantErr(t, "Restart", d.Restart(), api.OK)
	b, err := d.Read("a")
	if len(b) != 0 || err != api.OK {
		t.Errorf("a has %q, error %d", b, err)
	}
}

func TestExampleThree(t *testing.T) {
	d := laid(t, plain{"a", "hello", 5})
	wantErr(t, "SetFuse", d.SetFuse(1, 9), api.OK)
	wantErr(t, "Rename", d.Rename("a", "b"), api.ErrDown)
	wantErr(t, "Restart", d.Restart(), api.OK)
	wantFiles(t, "behind Restart", d, plain{"a", "hello", 5})
}
