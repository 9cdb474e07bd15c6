package wire_test

import (
	"bytes"
	"hash/crc32"
	"math"
	"testing"

	"orchard/api"
	"orchard/wire"
)

// P1.3: sums and frames; P1.5: what follows of frames.

func TestSum(t *testing.T) {
	cases := []struct {
		l    [][]byte
		want uint32
	}{
		{nil, 0},
		{[][]byte{nil}, 0},
		{[][]byte{{}, nil, {}}, 0},
		{[][]byte{[]byte("123456789")}, 0xcbf43926},
		{[][]byte{[]byte("123"), []byte("456789")}, 0xcbf43926},
		{[][]byte{nil, []byte("12345"), {}, []byte("6789"), nil}, 0xcbf43926},
		{[][]byte{{0}}, 0xd202ef8d},
		{[][]byte{{255}}, 0xff000000},
		{[][]byte{[]byte("a")}, 0xe8b7be43},
	}
	for _, c := range cases {
		if got := wire.Sum(c.l...); got != c.want {
			t.Errorf("Sum of %q: %x, want %x", c.l, got, c.want)
		}
	}
}

func TestSumOfAnyBytes(t *testing.T) {
	s := source(1)
	for n := range 300 {
		b := s.bytes(n)
		want := crc32.ChecksumIEEE(b)
		cut := int(s.next()) % (n + 1)
		if wire.Sum(b) != want || wire.Sum(b[:cut], b[cut:]) != want {
			t.Errorf("Sum of %v, cut at %d", b, cut)
		}
	}
}

func TestFrame(t *testing.T) {
	cases := []struct{ b, want []byte }{
		{nil, []byte{0, 0, 0, 0, 0}},
		{[]byte{}, []byte{0, 0, 0, 0, 0}},
		{[]byte("a"), []byte{2, 97, 0x43, 0xbe, 0xb7, 0xe8}},
		{[]byte("123456789"), append([]byte("\x12123456789"), 0x26, 0x39, 0xf4, 0xcb)},
	}
	for _, c := range cases {
		wantBytes(t, "Frame", frame(t, c.b), c.want)
	}
	long := source(5)
	b := long.bytes(64)
	sum := crc32.ChecksumIEEE(b)
	want := append(append([]byte{128, 1}, b...), byte(sum), byte(sum>>8), byte(sum>>16), byte(sum>>24))
	wantBytes(t, "Frame of 64", frame(t, b), want)
}

func TestFrameMaxBytes(t *testing.T) {
	b := make([]byte, api.MaxBytes+1)
	b[77] = 7
	f := frame(t, b[:api.MaxBytes])
	if len(f) != 4+api.MaxBytes+4 {
		t.Error("the longest frame has", len(f))
	}
	got, n, err := wire.Unframe(f)
	if !bytes.Equal(got, b[:api.MaxBytes]) || n != len(f) || err != api.OK {
		t.Error("Unframe of the longest frame", len(got), n, err)
	}
	f, err = wire.Frame(b)
	if len(f) != 0 || err != api.ErrLong {
		t.Error("Frame of one more", len(f), err)
	}
}

func wantUnframed(t *testing.T, b []byte, want api.Errno) {
	t.Helper()
	got, n, err := wire.Unframe(b)
	if err != want {
		t.Errorf("Unframe of %v: error %d, want %d", b[:min(len(b), 20)], err, want)
	}
	if err != api.OK && (len(got) != 0 || n != 0) {
		t.Error("with the error", err, "Unframe answers", got, n)
	}
}

func TestUnframeWrongLength(t *testing.T) {
	for _, c := range wrongInts() {
		wantUnframed(t, c.b, c.err)
	}
	lengths := []struct {
		n   int64
		err api.Errno
	}{
		{-1, api.ErrForm},
		{math.MinInt64, api.ErrForm},
		{1, api.ErrEnds},
		{api.MaxBytes, api.ErrEnds},
		{api.MaxBytes + 1, api.ErrLong},
		{1 << 32, api.ErrLong},
		{math.MaxInt64, api.ErrLong},
	}
	for _, c := range lengths {
		b := written(t, func(w *wire.Writer) api.Errno { return w.Int(c.n) })
		wantUnframed(t, b, c.err)
		wantUnframed(t, append(b, 1, 2, 3, 4), c.err)
	}
	long := written(t, func(w *wire.Writer) api.Errno { return w.Int(api.MaxBytes + 1) })
	body := make([]byte, api.MaxBytes+1)
	sum := crc32.ChecksumIEEE(body)
	long = append(append(long, body...), byte(sum), byte(sum>>8), byte(sum>>16), byte(sum>>24))
	wantUnframed(t, long, api.ErrLong)
}

func TestUnframeErrEndsAheadOfErrCheck(t *testing.T) {
	wantUnframed(t, []byte{2, 97, 1, 1, 1}, api.ErrEnds)
	wantUnframed(t, []byte{2, 97, 1, 1, 1, 1}, api.ErrCheck)
}

// framed are lists whose frames are looked at bit by bit, with lengths on both sides of two bytes.
func framed() [][]byte {
	s := source(3)
	var l [][]byte
	for _, n := range []int{0, 1, 2, 4, 31, 63, 64, 65, 200} {
		l = append(l, s.bytes(n), make([]byte, n))
	}
	return l
}

func TestUnframeOfFrame(t *testing.T) {
	for _, b := range framed() {
		f := frame(t, b)
		for _, behind := range [][]byte{nil, {0}, {255, 255}, f, bytes.Repeat([]byte{128}, 30)} {
			got, n, err := wire.Unframe(append(bytes.Clone(f), behind...))
			if !bytes.Equal(got, b) || n != len(f) || err != api.OK {
				t.Errorf("Unframe of a frame of %d bytes: %v %d %d", len(b), got, n, err)
			}
		}
	}
}

func TestUnframeOfBeginnings(t *testing.T) {
	for _, b := range framed() {
		f := frame(t, b)
		for n := range len(f) {
			wantUnframed(t, f[:n], api.ErrEnds)
		}
	}
	f := frame(t, make([]byte, api.MaxBytes))
	for _, n := range []int{3, 4, 5, 1000, len(f) - 5, len(f) - 4, len(f) - 1} {
		wantUnframed(t, f[:n], api.ErrEnds)
	}
}

func TestUnframeOfTurnedBits(t *testing.T) {
	for _, b := range framed() {
		f := frame(t, b)
		head := len(f) - 4 - len(b)
		for i := head * 8; i < len(f)*8; i++ {
			f[i/8] ^= 1 << (i % 8)
			wantUnframed(t, f, api.ErrCheck)
			f[i/8] ^= 1 << (i % 8)
		}
	}
}

// TestUnframeOfTurnedLength: whatever stands in the length's place, what is answered is a frame that stands there.
func TestUnframeOfTurnedLength(t *testing.T) {
	for _, b := range framed() {
		f := frame(t, b)
		head := len(f) - 4 - len(b)
		for i := range head * 8 {
			f[i/8] ^= 1 << (i % 8)
			got, n, err := wire.Unframe(f)
			if err == api.OK && !bytes.Equal(frame(t, got), f[:n]) {
				t.Errorf("Unframe of %v: %v %d", f, got, n)
			}
			if err == api.OK && n == len(f) {
				t.Errorf("a frame with another length passes: %v", f)
			}
			f[i/8] ^= 1 << (i % 8)
		}
	}
}
