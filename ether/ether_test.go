package ether

import (
	"bytes"
	"fmt"
	"strings"
	"testing"

	"weighbridge/api"
)

// frame tells n bytes that differ from their neighbours.
func frame(n int) []byte {
	b := make([]byte, n)
	for i := range b {
		b[i] = byte(i*7 + 1 + i/256)
	}
	return b
}

// P2.1: what is ahead, byte by byte, and the payload behind it.
func TestRead(t *testing.T) {
	b := []byte{1, 2, 3, 4, 5, 6, 11, 12, 13, 14, 15, 16, 0x86, 0xdd, 'x', 'y', 'z'}
	e, p, f := Read(b)
	want := api.Ether{Dst: [6]byte{1, 2, 3, 4, 5, 6}, Src: [6]byte{11, 12, 13, 14, 15, 16}, Type: 0x86dd}
	if f != api.OK || e != want || string(p) != "xyz" {
		t.Errorf("Read = %v, %q, %d", e, p, f)
	}
	e, p, f = Read(b[:14])
	if f != api.OK || e != want || len(p) != 0 {
		t.Errorf("Read of no payload = %v, %q, %d", e, p, f)
	}
}

// P2.1: the type's higher byte comes first, and a type that is not ours is read, too.
func TestReadType(t *testing.T) {
	b := frame(20)
	for kind := range 65536 {
		b[12], b[13] = byte(kind>>8), byte(kind)
		if e, _, f := Read(b); f != api.OK || int(e.Type) != kind {
			t.Fatalf("Read of type %04x = %04x, %d", kind, e.Type, f)
		}
	}
}

// P2.1: at each length that there may be, and beyond both ends, beside which errors there is nothing.
func TestReadLengths(t *testing.T) {
	for n := range 3300 {
		b := frame(n)
		e, p, f := Read(b)
		if n >= 14 && n <= 1600 {
			if f != api.OK || !bytes.Equal(p, b[14:]) || !bytes.Equal(e.Dst[:], b[:6]) || !bytes.Equal(e.Src[:], b[6:12]) {
				t.Errorf("Read of %d bytes = %v, %d bytes, %d", n, e, len(p), f)
			}
			continue
		}
		want := api.ErrShort
		if n > 1600 {
			want = api.ErrLong
		}
		if f != want || e != (api.Ether{}) || len(p) != 0 {
			t.Errorf("Read of %d bytes = %v, %d bytes, %d; want error %d alone", n, e, len(p), f, want)
		}
	}
	if e, p, f := Read(nil); f != api.ErrShort || e != (api.Ether{}) || len(p) != 0 {
		t.Errorf("Read(nil) = %v, %v, %d", e, p, f)
	}
}

// P2.1: the payload is in memory of its own, also where it is lengthened.
func TestReadMemory(t *testing.T) {
	for _, n := range []int{14, 15, 60, 1600} {
		b := append(frame(n), make([]byte, 30)...)
		kept := bytes.Clone(b)
		_, p, _ := Read(b[:n])
		for i := range p {
			p[i] ^= 0xff
		}
		_ = append(p, 0xee)
		if !bytes.Equal(b, kept) {
			t.Errorf("%d bytes: the frame changes with its payload", n)
		}
		_, p, _ = Read(b[:n])
		for i := range b {
			b[i] = 0
		}
		if !bytes.Equal(p, kept[14:n]) {
			t.Errorf("%d bytes: the payload changes with its frame", n)
		}
	}
}

// P2.1: a frame byte by byte.
func TestWrite(t *testing.T) {
	e := api.Ether{Dst: [6]byte{1, 2, 3, 4, 5, 6}, Src: [6]byte{11, 12, 13, 14, 15, 16}, Type: 0x0806}
	ahead := []byte{1, 2, 3, 4, 5, 6, 11, 12, 13, 14, 15, 16, 8, 6}
	for _, p := range []string{"", "x", "xyz"} {
		if b, f := Write(e, []byte(p)); f != api.OK || string(b) != string(ahead)+p {
			t.Errorf("Write of %q = % x, %d", p, b, f)
		}
	}
	if b, f := Write(e, nil); f != api.OK || !bytes.Equal(b, ahead) {
		t.Errorf("Write of nil = % x, %d", b, f)
	}
	if b, f := Write(api.Ether{}, nil); f != api.OK || !bytes.Equal(b, make([]byte, 14)) {
		t.Errorf("Write of nothing = % x, %d", b, f)
	}
}

// P2.1: a frame of MaxEmit bytes is written, one more is not, beside which error there is nothing.
func TestWriteLengths(t *testing.T) {
	for n := range 3300 {
		p := frame(n)
		b, f := Write(api.Ether{Type: api.TypeIP4}, p)
		if n+14 > 1660 {
			if f != api.ErrLong || len(b) != 0 {
				t.Errorf("Write of %d bytes = %d bytes, %d", n, len(b), f)
			}
		} else if f != api.OK || len(b) != n+14 || !bytes.Equal(b[14:], p) {
			t.Errorf("Write of %d bytes = %d bytes, %d", n, len(b), f)
		}
	}
}

// P2.1: the frame is in memory of its own.
func TestWriteMemory(t *testing.T) {
	for _, n := range []int{0, 1, 46, 1646} {
		p := append(frame(n), make([]byte, 30)...)
		kept := bytes.Clone(p)
		b, _ := Write(api.Ether{}, p[:n])
		for i := range b {
			b[i] ^= 0xff
		}
		_ = append(b, 0xee)
		if !bytes.Equal(p, kept) {
			t.Errorf("%d bytes: the payload changes with the frame", n)
		}
		b, _ = Write(api.Ether{}, p[:n])
		for i := range p {
			p[i] = 0
		}
		if !bytes.Equal(b[14:], kept[:n]) {
			t.Errorf("%d bytes: the frame changes with the payload", n)
		}
	}
}

// P2.1: a frame that is read and written is the same.
func TestReadWrite(t *testing.T) {
	for n := 14; n <= 1600; n++ {
		b := frame(n)
		e, p, f := Read(b)
		c, g := Write(e, p)
		if f != api.OK || g != api.OK || !bytes.Equal(b, c) {
			t.Fatalf("%d bytes: read %d, written %d", n, f, g)
		}
	}
}

// P2.1: of all types two are ours.
func TestOurs(t *testing.T) {
	for kind := range 65536 {
		if got, want := Ours(uint16(kind)), kind == 0x0800 || kind == 0x86dd; got != want {
			t.Errorf("Ours(%04x) = %v", kind, got)
		}
	}
}

// P2.2: texts by hand.
func TestText(t *testing.T) {
	for _, x := range []struct {
		a    [6]byte
		want string
	}{
		{[6]byte{2, 0, 0, 0, 0, 171}, "02:00:00:00:00:ab"},
		{[6]byte{}, "00:00:00:00:00:00"},
		{[6]byte{255, 255, 255, 255, 255, 255}, "ff:ff:ff:ff:ff:ff"},
		{[6]byte{0x01, 0x23, 0x45, 0x67, 0x89, 0xab}, "01:23:45:67:89:ab"},
		{[6]byte{0xcd, 0xef, 0xf0, 0x0f, 0x10, 0xa0}, "cd:ef:f0:0f:10:a0"},
	} {
		if got := Text(x.a); got != x.want {
			t.Errorf("Text(%v) = %q, want %q", x.a, got, x.want)
		}
		if a, f := Parse(x.want); f != api.OK || a != x.a {
			t.Errorf("Parse(%q) = %v, %d", x.want, a, f)
		}
	}
}

// P2.2: each byte at each place, there and back.
func TestTextParse(t *testing.T) {
	for i := range 6 {
		for x := range 256 {
			a := [6]byte{0x1e, 0x2d, 0x3c, 0x4b, 0x5a, 0x69}
			a[i] = byte(x)
			want := fmt.Sprintf("%02x:%02x:%02x:%02x:%02x:%02x", a[0], a[1], a[2], a[3], a[4], a[5])
			if got := Text(a); got != want {
				t.Errorf("Text(%v) = %q, want %q", a, got, want)
			}
			if got, f := Parse(want); f != api.OK || got != a {
				t.Errorf("Parse(%q) = %v, %d", want, got, f)
			}
		}
	}
}

// P2.2: at each place of a text each byte that may not stand there, beside which error there is no address.
func TestParseEachByte(t *testing.T) {
	const good = "02:1b:3c:4d:5e:ff"
	for i := range len(good) {
		for c := range 256 {
			s := good[:i] + string([]byte{byte(c)}) + good[i+1:]
			fits := c == ':'
			if i%3 != 2 {
				fits = c >= '0' && c <= '9' || c >= 'a' && c <= 'f'
			}
			a, f := Parse(s)
			if fits && (f != api.OK || Text(a) != s) || !fits && (f != api.ErrForm || a != [6]byte{}) {
				t.Errorf("Parse(%q) = %v, %d", s, a, f)
			}
		}
	}
}

// P2.2: texts that are no address's.
func TestParseWrong(t *testing.T) {
	const good = "02:1b:3c:4d:5e:ff"
	wrong := []string{
		good + ":", ":" + good, good + "0", "0" + good, good + " ", " " + good, good + "\n", good + "\x00", good + ":00", good + good,
		"2:1b:3c:4d:5e:ff", "2:1b:3c:4d:5e:fff", "02:1b:3c:4d:5ef:f", "021:b:3c:4d:5e:ff", "02::1b:3c:4d:5eff", "021b3c4d5eff", "021b3c4d5eff:::::",
		"02-1b-3c-4d-5e-ff", "02.1b.3c.4d.5e.ff", "021b.3c4d.5eff", "02:1B:3c:4d:5e:ff", "02:1b:3c:4d:5e:FF", "0x:1b:3c:4d:5e:ff", "+2:1b:3c:4d:5e:ff", "-2:1b:3c:4d:5e:ff", " 2:1b:3c:4d:5e:ff",
		"02:1b:3c:4d:5e:f\u0662", "02:1b:3c:4d:5e:\u0662", "\uff10\uff12:1b:3c:4d:5e", "02:1b:3c:4d:5e:\xff\xff", strings.Repeat(":", 17), strings.Repeat("0", 17), strings.Repeat("00:", 1<<16),
	}
	for i := range len(good) {
		wrong = append(wrong, good[:i], good[:i]+good[i+1:], good[:i]+":"+good[i:], good[:i]+"0"+good[i:])
	}
	for _, s := range wrong {
		if a, f := Parse(s); f != api.ErrForm || a != [6]byte{} {
			t.Errorf("Parse(%.40q) = %v, %d", s, a, f)
		}
	}
}
