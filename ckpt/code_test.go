package ckpt_test

import (
	"fmt"
	"math"
	"strings"
	"testing"

	"orchard/api"
	"orchard/ckpt"
)

// P6.1: a checkpoint as bytes, and bytes as a checkpoint.

func wantEncoded(t *testing.T, slot int64, data, want string) {
	t.Helper()
	b, err := ckpt.Encode(slot, []byte(data))
	if err != api.OK || string(b) != want {
		t.Errorf("Encode of %d and %s: %s, error %d, want %s", slot, short(data), short(string(b)), err, short(want))
	}
	wantPoint(t, "Decode of what Encode answered", decode(string(b)), point{slot, data, api.OK})
}

func goodSlots() []int64 {
	slots := []int64{0, 1, 2, 5, latest - 2, latest - 1, latest}
	for i := range 40 {
		slots = append(slots, 1<<i-1, 1<<i, 1<<i+1)
	}
	return slots
}

func badSlots() []int64 {
	return []int64{-1, -2, -64, -latest, math.MinInt64, latest + 1, latest + 2, 1 << 41, 1 << 62, math.MaxInt64}
}

// TestEncodeWrittenOut: bytes whose sums another program worked out.
func TestEncodeWrittenOut(t *testing.T) {
	wantEncoded(t, 0, "", "\x04\x00\x00\xff\x12\xd9\x41")
	wantEncoded(t, 5, "x", "\x06\x0a\x02x\x48\xc7\x3e\x9e")
	wantEncoded(t, 64, "ab", "\x0a\x80\x01\x04ab\xa4\xd2\x2b\x17")
	wantEncoded(t, latest, "", "\x0e\x80\x80\x80\x80\x80\x40\x00\x78\x73\x39\x46")
}

func TestEncodeOfSlots(t *testing.T) {
	for _, slot := range goodSlots() {
		for _, data := range []string{"", "x", "\x00", "hello", strings.Repeat("\xff", 70)} {
			wantEncoded(t, slot, data, encoded(slot, data))
		}
	}
}

func TestEncodeOfEachLength(t *testing.T) {
	s := source(1)
	for n := range 300 {
		data := s.text(n)
		wantEncoded(t, int64(n), data, encoded(int64(n), data))
	}
	for _, n := range []int{8190, 8191, 8192, 8193, 1 << 16, longest - 1, longest} {
		data := s.text(n)
		wantEncoded(t, latest, data, encoded(latest, data))
	}
}

func TestEncodeOfEachByte(t *testing.T) {
	all := ""
	for i := range 256 {
		sign := string([]byte{byte(i)})
		wantEncoded(t, 3, sign, encoded(3, sign))
		all += sign
	}
	wantEncoded(t, 3, all, encoded(3, all))
}

func wantNotEncoded(t *testing.T, what string, slot int64, data []byte, want api.Errno) {
	t.Helper()
	b, err := ckpt.Encode(slot, data)
	wantErr(t, what, err, want)
	if b != nil {
		t.Errorf("%s: beside the error %d there are %d bytes", what, err, len(b))
	}
}

func TestEncodeOfWrongSlots(t *testing.T) {
	for _, slot := range badSlots() {
		for _, n := range []int{0, 1, longest, longest + 1, api.MaxBytes + 1} {
			wantNotEncoded(t, fmt.Sprintf("Encode of %d and %d bytes", slot, n), slot, make([]byte, n), api.ErrArg)
		}
	}
}

func TestEncodeOfTooMuch(t *testing.T) {
	for _, n := range []int{longest + 1, longest + 2, api.MaxBytes - 20, api.MaxBytes, api.MaxBytes + 1} {
		for _, slot := range []int64{0, 1, latest} {
			wantNotEncoded(t, fmt.Sprintf("Encode of %d and %d bytes", slot, n), slot, make([]byte, n), api.ErrLong)
		}
	}
}

// wantSpoilt: no checkpoint is encoded so.
func wantSpoilt(t *testing.T, what, b string) {
	t.Helper()
	wantPoint(t, "Decode of "+what, decode(b), wrong(api.ErrCkpt))
}

func someEncoded() []string {
	return []string{
		encoded(0, ""), encoded(5, "x"), encoded(latest, ""), encoded(64, "hello"), encoded(1, "\x00\x00\x00\x00"),
		encoded(0, encoded(0, "")), encoded(3, strings.Repeat("a", 60)), encoded(3, strings.Repeat("a", 61)), encoded(8191, strings.Repeat("\x00", 200)),
	}
}

func TestDecodeOfBeginnings(t *testing.T) {
	for _, b := range someEncoded() {
		for n := range len(b) {
			wantSpoilt(t, fmt.Sprintf("%d of %s", n, short(b)), b[:n])
			wantSpoilt(t, fmt.Sprintf("what is behind %d of %s", n+1, short(b)), b[n+1:])
		}
	}
}

func TestDecodeOfMore(t *testing.T) {
	for _, b := range someEncoded() {
		for i := range 256 {
			wantSpoilt(t, "one byte more", b+string([]byte{byte(i)}))
			wantSpoilt(t, "one byte ahead", string([]byte{byte(i)})+b)
		}
		wantSpoilt(t, "two of them", b+b)
		wantSpoilt(t, "much more", b+strings.Repeat("\x00", 5000))
	}
}

func TestDecodeOfTurnedBits(t *testing.T) {
	for _, b := range someEncoded() {
		for i := range len(b) {
			for bit := range 8 {
				turned := []byte(b)
				turned[i] ^= 1 << bit
				wantSpoilt(t, fmt.Sprintf("%s with the bit %d of the byte %d turned", short(b), bit, i), string(turned))
			}
		}
	}
}

func TestDecodeOfBytesInOtherPlaces(t *testing.T) {
	b := encoded(77, "hello, and more")
	for i := range len(b) {
		for j := range i {
			moved := []byte(b)
			moved[i], moved[j] = moved[j], moved[i]
			if string(moved) != b {
				wantSpoilt(t, fmt.Sprintf("the bytes %d and %d changed for each other", i, j), string(moved))
			}
		}
	}
}

// TestDecodeOfWrongSlots: the frame is whole, and the slot is one that Encode refuses.
func TestDecodeOfWrongSlots(t *testing.T) {
	for _, slot := range badSlots() {
		for _, data := range []string{"", "x"} {
			wantSpoilt(t, fmt.Sprintf("a slot %d", slot), encoded(slot, data))
		}
	}
	wantPoint(t, "Decode of the last slot", decode(encoded(latest, "x")), point{latest, "x", api.OK})
}

// TestDecodeOfTooMuch: the frame is whole, and there is more data than Encode takes.
func TestDecodeOfTooMuch(t *testing.T) {
	for _, n := range []int{longest + 1, longest + 2, api.MaxBytes - 4, api.MaxBytes, api.MaxBytes + 1} {
		wantSpoilt(t, fmt.Sprintf("%d bytes of data", n), encoded(0, strings.Repeat("x", n)))
	}
	most := strings.Repeat("x", longest)
	wantPoint(t, "Decode of the most data", decode(encoded(0, most)), point{0, most, api.OK})
}

// TestDecodeOfOtherParts: frames that are whole, of something else.
func TestDecodeOfOtherParts(t *testing.T) {
	for _, body := range []string{
		"",     // nothing
		"\x00", // a slot alone
		"\x0a", // another one
		"\x80", // a slot that does not end
		"\x80\x80\x80\x80\x80\x80\x80\x80\x80\x02\x00", // one of too many bits
		"\x80\x00\x00",                    // one that has fewer bytes
		"\x8a\x00\x02x",                   // likewise
		"\x0a\x80",                        // a length that does not end
		"\x0a\x80\x00",                    // one that has fewer bytes
		"\x0a\x82\x00x",                   // likewise
		"\x0a\x01",                        // one below 0
		"\x0a\x01x",                       // likewise
		"\x0a\x02",                        // a byte too few
		"\x0a\x04x",                       // likewise
		"\x0a\x00x",                       // a byte too many
		"\x0a\x02xy",                      // likewise
		"\x0a\x02x\x00",                   // an int behind it
		"\x02x\x0a",                       // the parts in the other order
		"\x0a\x02\x02x\x02y",              // three parts
		"\x0a" + framed("x"),              // a slot, and a frame
		number(5) + number(1<<40) + "x",   // far too few
		number(5) + number(math.MaxInt64), // likewise
	} {
		wantSpoilt(t, fmt.Sprintf("a frame of %q", body), framed(body))
		wantSpoilt(t, fmt.Sprintf("%q without a frame", body), body)
	}
	wantSpoilt(t, "a frame in a frame", framed(encoded(5, "x")))
}

// TestDecodeOfOtherFrames: the bytes in them are a checkpoint's, but the frame is not its one.
func TestDecodeOfOtherFrames(t *testing.T) {
	body := "\x0a\x02x"
	sum := framed(body)[1+len(body):]
	wantPoint(t, "Decode of the frame as it is", decode("\x06"+body+sum), point{5, "x", api.OK})
	wantSpoilt(t, "a length of more bytes", "\x86\x00"+body+sum)
	wantSpoilt(t, "a length below 0", "\x05"+body+sum)
	wantSpoilt(t, "a length that is greater", "\x08"+body+sum)
	wantSpoilt(t, "a length that is less", "\x04"+body+sum)
	wantSpoilt(t, "a length that is the greatest", number(math.MaxInt64)+body+sum)
	wantSpoilt(t, "a sum of zeros", "\x06"+body+"\x00\x00\x00\x00")
	wantSpoilt(t, "a sum with its highest byte first", "\x06"+body+string([]byte{sum[3], sum[2], sum[1], sum[0]}))
	wantSpoilt(t, "a sum of all but the last byte", "\x06"+body+framed(body[:2])[3:])
}

func TestDecodeOfNothing(t *testing.T) {
	for _, b := range [][]byte{nil, {}} {
		slot, data, err := ckpt.Decode(b)
		if slot != 0 || data != nil || err != api.ErrCkpt {
			t.Errorf("Decode of nothing: %d, %v, error %d", slot, data, err)
		}
	}
	wantSpoilt(t, "the frame of nothing", "\x00\x00\x00\x00\x00")
}

// TestDecodeOfShortBytes: of all lists of so many bytes none is a checkpoint's: the shortest one has 7.
func TestDecodeOfShortBytes(t *testing.T) {
	for i := range 1 << 16 {
		wantSpoilt(t, "two bytes", string([]byte{byte(i), byte(i >> 8)}))
	}
	s := source(4)
	for range 20_000 {
		wantSpoilt(t, "bytes at random", s.text(s.below(7)))
	}
}

// FuzzDecode: what is read of any bytes is, encoded again, just these bytes; else the answer is ErrCkpt.
func FuzzDecode(f *testing.F) {
	for _, b := range someEncoded() {
		f.Add([]byte(b))
	}
	f.Add([]byte(framed("\x80\x00\x00")))
	f.Fuzz(func(t *testing.T, b []byte) {
		for _, b := range []string{string(b), framed(string(b))} {
			p := decode(b)
			if p.err != api.OK {
				wantPoint(t, "Decode", p, wrong(api.ErrCkpt))
				continue
			}
			if encoded(p.slot, p.data) != b {
				t.Errorf("Decode of %s: %v", short(b), p)
			}
			wantEncoded(t, p.slot, p.data, b)
		}
	})
}
