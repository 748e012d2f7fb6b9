package ip4

import (
	"bytes"
	"testing"

	"weighbridge/api"
)

// bare is a header of no options and no payload; the chapter's example.
const bare = "\x45\x00\x00\x14\x00\x00\x00\x00\x40\x11\x66\xd7\x0a\x00\x00\x01\x0a\x00\x00\x02"

// mixed tells n bytes that differ, the same ones each time.
func mixed(n int, seed uint32) []byte {
	b := make([]byte, n)
	for i := range b {
		seed = seed*1664525 + 1013904223
		b[i] = byte(seed >> 24)
	}
	return b
}

// onesSum tells what a header's sum must be, of all the words but its own: a way of its own to hold the package's sums against.
func onesSum(head []byte) uint16 {
	total := 0
	for i := 0; i+1 < len(head); i += 2 {
		if i != 10 {
			total += int(head[i])*256 + int(head[i+1])
		}
	}
	return uint16(65535 - ((total-1)%65535 + 1))
}

// mend lays the sum of a header anew.
func mend(b []byte) []byte {
	if n := int(b[0]&15) * 4; n >= 12 && n <= len(b) {
		s := onesSum(b[:n])
		b[10], b[11] = byte(s>>8), byte(s)
	}
	return b
}

// raw tells a packet byte by byte, without the package: of these options, words of flags and payload.
func raw(flags uint16, options, payload []byte) []byte {
	total := 20 + len(options) + len(payload)
	b := []byte{byte(0x45 + len(options)/4), 0xb8, byte(total >> 8), byte(total), 0x12, 0x34, byte(flags >> 8), byte(flags), 63, 17, 0, 0, 10, 1, 2, 3, 192, 168, 4, 5}
	b = append(append(b, options...), payload...)
	return mend(b)
}

// rawHead is what stands ahead in packets of raw.
func rawHead(df bool, options []byte) api.IP4 {
	return api.IP4{TOS: 0xb8, ID: 0x1234, DF: df, TTL: 63, Proto: 17, Src: [16]byte{10, 1, 2, 3}, Dst: [16]byte{192, 168, 4, 5}, Options: options}
}

// same tells whether two headers are one.
func same(a, b api.IP4) bool {
	return a.TOS == b.TOS && a.ID == b.ID && a.DF == b.DF && a.TTL == b.TTL && a.Proto == b.Proto && a.Src == b.Src && a.Dst == b.Dst && bytes.Equal(a.Options, b.Options)
}

// reads fails the test unless Read tells this header and payload.
func reads(t *testing.T, name string, b []byte, h api.IP4, payload []byte) {
	t.Helper()
	got, p, e := Read(b)
	if e != api.OK || !same(got, h) || !bytes.Equal(p, payload) {
		t.Fatalf("%q: Read = %v, %d bytes, %d; want %v, %d bytes", name, got, len(p), e, h, len(payload))
	}
}

// refuses fails the test unless Read tells this error, and nothing beside it.
func refuses(t *testing.T, name string, b []byte, want api.Errno) {
	t.Helper()
	h, p, e := Read(b)
	if e != want || !same(h, api.IP4{}) || h.Options != nil || p != nil {
		t.Fatalf("%q: Read = %v, %v, %d; want error %d alone", name, h, p, e, want)
	}
}

// with tells a packet with one byte in another way, its sum mended.
func with(b []byte, at int, x byte) []byte {
	c := bytes.Clone(b)
	c[at] = x
	return mend(c)
}

// P3.1: options by hand.
func TestOptions(t *testing.T) {
	for _, x := range []struct {
		s    string
		want api.Errno
	}{
		{"", api.OK},
		{"\x00\x00\x00\x00", api.OK},
		{"\x01\x01\x01\x01", api.OK},
		{"\x01\x01\x01\x00", api.OK},
		{"\x07\x04\x00\x00", api.OK},
		{"\x07\x02\x07\x02", api.OK},
		{"\x07\x03\x83\x01", api.OK}, // a route's number within another option is none
		{"\x01\x07\x02\x00", api.OK},
		{"\x82\x04\x89\x83", api.OK},
		{"\xff\x04\x00\x00", api.OK},
		{"\x07\x08\x04\x0a\x00\x00\x01\x00", api.OK},
		{"\x00\x83\x03\x00", api.OK}, // behind the end nothing is looked at
		{"\x00\x07\x01\x00", api.OK},
		{"\x00\x07\xff\xff", api.OK},
		{"\x01\x01\x00\x89", api.OK},
		{"\x07\x03\x00\x00\x83\x03\x04\x00", api.OK},

		{"\x83\x03\x00\x00", api.ErrRoute},
		{"\x89\x03\x04\x00", api.ErrRoute},
		{"\x83\x02\x89\x02", api.ErrRoute},
		{"\x83\x04\x00\x00", api.ErrRoute},
		{"\x01\x01\x83\x02", api.ErrRoute},
		{"\x01\x89\x03\x04", api.ErrRoute},
		{"\x07\x02\x89\x02", api.ErrRoute},
		{"\x83\x07\x04\x0a\x00\x00\x01\x00", api.ErrRoute},
		{"\x83\x03\x04\x00\x07\x01\x00\x00", api.ErrRoute}, // what has no form is behind the end
		{"\x83\x03\x04\x01\x01\x01\x01\x01", api.ErrRoute},
		{"\x83\x03\x04\x07\x05\x01\x02\x03", api.ErrRoute}, // an option behind the route

		{"\x01", api.ErrForm},
		{"\x00", api.ErrForm},
		{"\x01\x01", api.ErrForm},
		{"\x00\x00\x00", api.ErrForm},
		{"\x01\x01\x01\x01\x01", api.ErrForm},
		{"\x83\x03\x04", api.ErrForm},
		{"\x07\x05\x00\x00", api.ErrForm},
		{"\x07\xff\x00\x00", api.ErrForm},
		{"\x07\x00\x00\x00", api.ErrForm},
		{"\x07\x01\x00\x00", api.ErrForm},
		{"\x01\x01\x01\x07", api.ErrForm}, // no room for a length
		{"\x01\x01\x01\x83", api.ErrForm},
		{"\x01\x01\x07\x03", api.ErrForm},
		{"\x83\x05\x04\x00", api.ErrForm},
		{"\x89\x01\x04\x00", api.ErrForm},
		{"\x83\x00\x00\x00", api.ErrForm},
		{"\x89\x03\x04\x07", api.ErrForm}, // a route, and what has no form behind it
		{"\x83\x02\x07\x01", api.ErrForm},
		{"\x83\x02\x07\x03", api.ErrForm},
		{"\x83\x03\x04\x01\x89\x05\x00\x00", api.ErrForm},
	} {
		if e := Options([]byte(x.s)); e != x.want {
			t.Fatalf("Options(% x) = %d, want %d", x.s, e, x.want)
		}
	}
	if e := Options(nil); e != api.OK {
		t.Fatalf("Options(nil) = %d", e)
	}
}

// P3.1: at each number of bytes, whatever they are: at most 40, in whole words.
func TestOptionsLengths(t *testing.T) {
	for n := range 300 {
		for _, fill := range []byte{0, 1} {
			want := api.OK
			if n > 40 || n%4 != 0 {
				want = api.ErrForm
			}
			b := bytes.Repeat([]byte{fill}, n)
			if e := Options(b); e != want {
				t.Fatalf("Options of %d times %d = %d, want %d", n, fill, e, want)
			}
		}
		if n > 40 || n%4 != 0 {
			b := append([]byte{131, 2}, make([]byte, n)...)[:n]
			if e := Options(b); e != api.ErrForm {
				t.Fatalf("Options of a route in %d bytes = %d", n, e)
			}
		}
	}
}

// P3.1: each kind with each length, at the beginning and behind others.
func TestOptionsKinds(t *testing.T) {
	for kind := range 256 {
		for length := range 256 {
			for _, ahead := range []int{0, 3, 36} {
				b := append(bytes.Repeat([]byte{1}, ahead), byte(kind), byte(length))
				for len(b)%4 != 0 || len(b) < 8 {
					b = append(b, 1)
				}
				if e, want := Options(b), plain(b); e != want {
					t.Fatalf("Options(% x) = %d, want %d", b, e, want)
				}
			}
		}
	}
}

// plain tells what Options must, another way: where each option begins is marked first.
func plain(b []byte) api.Errno {
	if len(b) > 40 || len(b)%4 != 0 {
		return api.ErrForm
	}
	routes, i := 0, 0
	for i < len(b) && b[i] != 0 {
		step := 1
		if b[i] != 1 {
			if i+1 == len(b) {
				return api.ErrForm
			}
			step = int(b[i+1])
			if step == 0 || step == 1 {
				return api.ErrForm
			}
		}
		if b[i] == 131 || b[i] == 137 {
			routes++
		}
		i += step
	}
	if i > len(b) {
		return api.ErrForm
	}
	if routes > 0 {
		return api.ErrRoute
	}
	return api.OK
}

// P3.1, P1: all rows of bytes of few kinds, which have routes, ends and lengths at all places.
func TestOptionsAll(t *testing.T) {
	kinds := []byte{0, 1, 2, 3, 4, 131, 137, 255}
	b := make([]byte, 8)
	for n := range 1 << 18 { // six bytes of eight kinds each
		for i := range 6 {
			b[i] = kinds[n>>(3*i)&7]
		}
		if e, want := Options(b), plain(b); e != want {
			t.Fatalf("Options(% x) = %d, want %d", b, e, want)
		}
	}
}

// P3.1: what is handed in is not changed.
func TestOptionsLeave(t *testing.T) {
	b := []byte("\x01\x83\x03\x04\x07\x04\x00\x00")
	kept := bytes.Clone(b)
	Options(b)
	if !bytes.Equal(b, kept) {
		t.Fatalf("% x became % x", kept, b)
	}
}

// P3.2: packets by hand.
func TestRead(t *testing.T) {
	reads(t, "bare", []byte(bare), api.IP4{TTL: 64, Proto: 17, Src: [16]byte{10, 0, 0, 1}, Dst: [16]byte{10, 0, 0, 2}}, nil)
	reads(t, "payload", raw(0, nil, []byte("abc")), rawHead(false, nil), []byte("abc"))
	reads(t, "not to be cut", raw(0x4000, nil, []byte("abc")), rawHead(true, nil), []byte("abc"))
	reads(t, "options", raw(0, []byte("\x07\x03\x04\x00"), []byte("abc")), rawHead(false, []byte("\x07\x03\x04\x00")), []byte("abc"))
	reads(t, "options without payload", raw(0, []byte("\x01\x01\x01\x01"), nil), rawHead(false, []byte("\x01\x01\x01\x01")), nil)
	reads(t, "behind the end", raw(0x4000, []byte("\x00\x83\x01\x02"), []byte("a")), rawHead(true, []byte("\x00\x83\x01\x02")), []byte("a"))
}

// P3.2: each byte of a header that is free to be any, at each value.
func TestReadEachByte(t *testing.T) {
	good := raw(0, nil, []byte("abcd"))
	for _, at := range []int{1, 4, 5, 8, 9, 12, 13, 14, 15, 16, 17, 18, 19} {
		for x := range 256 {
			v := byte(x)
			h := rawHead(false, nil)
			switch {
			case at == 1:
				h.TOS = v
			case at == 4:
				h.ID = h.ID&0x00ff | uint16(v)<<8
			case at == 5:
				h.ID = h.ID&0xff00 | uint16(v)
			case at == 8:
				h.TTL = v
			case at == 9:
				h.Proto = v
			case at < 16:
				h.Src[at-12] = v
			default:
				h.Dst[at-16] = v
			}
			reads(t, "a byte", with(good, at, v), h, []byte("abcd"))
		}
	}
}

// P3.2: each version and number of words; where both are wrong, and the header is not whole, the form goes ahead.
func TestReadFirstByte(t *testing.T) {
	for x := range 256 {
		version, words := x>>4, x&15
		for _, n := range []int{20, 24, 59, 60, 80} {
			b := make([]byte, n)
			b[0], b[2], b[3] = byte(x), byte(n>>8), byte(n)
			mend(b)
			switch {
			case version != 4 || words < 5:
				refuses(t, "first byte", b, api.ErrForm)
			case words*4 > n:
				refuses(t, "first byte", b, api.ErrShort)
			default:
				reads(t, "first byte", b, api.IP4{Options: make([]byte, words*4-20)}, make([]byte, n-words*4))
			}
		}
	}
}

// P3.2: at each number of bytes; of fewer than 20 nothing else is looked at.
func TestReadShort(t *testing.T) {
	whole := raw(0, []byte("\x01\x01\x01\x00\x01\x01\x01\x01"), []byte("abcdef"))
	for n := range whole {
		refuses(t, "cut", whole[:n], api.ErrShort)
	}
	for n := range 20 {
		refuses(t, "noughts", make([]byte, n), api.ErrShort)
		refuses(t, "ones", bytes.Repeat([]byte{0xff}, n), api.ErrShort)
	}
	refuses(t, "nil", nil, api.ErrShort)
	refuses(t, "noughts", make([]byte, 20), api.ErrForm)
}

// P3.2: any other sum is wrong; FFFF is one where 0000 is, for both are nought.
func TestReadSum(t *testing.T) {
	for _, good := range [][]byte{[]byte(bare), raw(0x4000, []byte("\x07\x04\x01\x02"), []byte("abc"))} {
		head := int(good[0]&15) * 4
		right := onesSum(good[:head])
		for s := range 65536 {
			b := bytes.Clone(good)
			b[10], b[11] = byte(s>>8), byte(s)
			if uint16(s) == right {
				if _, _, e := Read(b); e != api.OK {
					t.Fatalf("sum %04x: Read = %d", s, e)
				}
			} else {
				refuses(t, "sum", b, api.ErrSum)
			}
		}
	}
	nought := []byte(bare)
	s := onesSum(nought[:20])
	nought[4], nought[5] = byte(s>>8), byte(s) // so that the other words come to FFFF
	for _, x := range []byte{0, 0xff} {
		nought[10], nought[11] = x, x
		if _, _, e := Read(nought); e != api.OK {
			t.Fatalf("sum %02x%02x where it is nought: Read = %d", x, x, e)
		}
	}
}

// P3.2: the sum is of the header alone, options and all.
func TestReadSumOfWhat(t *testing.T) {
	b := raw(0, []byte("\x07\x04\x01\x02"), []byte("abc"))
	for at := range b {
		c := bytes.Clone(b)
		c[at] ^= 0x10
		switch {
		case at == 0:
			refuses(t, "the version", c, api.ErrForm)
		case at < 24:
			refuses(t, "the header", c, api.ErrSum)
		default:
			reads(t, "the payload", c, rawHead(false, []byte("\x07\x04\x01\x02")), c[24:])
		}
	}
}

// P3.2: each total length about the header's, and about what there is.
func TestReadTotal(t *testing.T) {
	for _, options := range []string{"", "\x01\x01\x01\x01", string(make([]byte, 40))} {
		head := 20 + len(options)
		b := raw(0, []byte(options), []byte("abcdefgh"))
		for total := range 65536 {
			b[2], b[3] = byte(total>>8), byte(total)
			mend(b)
			switch {
			case total < head:
				refuses(t, "below the header", b, api.ErrForm)
			case total > len(b):
				refuses(t, "beyond the bytes", b, api.ErrShort)
			default:
				reads(t, "total", b, rawHead(false, []byte(options)), b[head:total])
			}
		}
	}
}

// P3.2: the longest packet there is.
func TestReadLong(t *testing.T) {
	p := mixed(65535-60, 4)
	options := bytes.Repeat([]byte{1}, 40)
	b := raw(0, options, p)
	reads(t, "65535 bytes", b, rawHead(false, options), p)
	reads(t, "with padding", append(b, 1, 2, 3), rawHead(false, options), p)
	refuses(t, "one byte fewer", b[:65534], api.ErrShort)
}

// P3.2: all words of flags: the reserved one, one that is free, and what is a fragment.
func TestReadFlags(t *testing.T) {
	for f := range 65536 {
		b := raw(uint16(f), nil, []byte("ab"))
		switch {
		case f >= 0x8000:
			refuses(t, "reserved", b, api.ErrForm)
		case f != 0 && f != 0x4000:
			refuses(t, "fragment", b, api.ErrPiece)
		default:
			reads(t, "whole", b, rawHead(f == 0x4000, nil), []byte("ab"))
		}
	}
}

// P3.2: options that may not be are told, as Options tells them.
func TestReadOptions(t *testing.T) {
	for _, s := range []string{"\x83\x03\x00\x00", "\x89\x03\x04\x00", "\x07\x05\x00\x00", "\x07\x01\x00\x00", "\x01\x01\x01\x07", "\x83\x02\x07\x01", "\x83\x03\x04\x01\x89\x05\x00\x00"} {
		b := raw(0, []byte(s), []byte("a"))
		refuses(t, s, b, Options([]byte(s)))
		if Options([]byte(s)) == api.OK {
			t.Fatalf("% x may be", s)
		}
	}
	for words := range 11 {
		options := bytes.Repeat([]byte{7, 4, 9, 9}, words)
		reads(t, "words of options", raw(0, options, []byte("ab")), rawHead(false, options), []byte("ab"))
	}
}

// P3.2: where two things are wrong the first one of the row is told.
func TestReadOrder(t *testing.T) {
	// Each fault is laid into a packet of 24 bytes of header and 4 of payload; later ones do not undo earlier ones.
	fresh := func() []byte { return raw(0, []byte("\x01\x01\x01\x01"), []byte("abcd")) }
	faults := []struct {
		name string
		want api.Errno
		lay  func(b []byte) []byte
	}{
		{"form of options", api.ErrForm, func(b []byte) []byte { b[20], b[21] = 7, 1; return mend(b) }},
		{"route", api.ErrRoute, func(b []byte) []byte { b[20], b[21] = 131, 4; return mend(b) }},
		{"reserved", api.ErrForm, func(b []byte) []byte { b[6] |= 0x80; return mend(b) }},
		{"total beyond", api.ErrShort, func(b []byte) []byte { b[3] = 29; return mend(b) }},
		{"total below", api.ErrForm, func(b []byte) []byte { b[3] = 23; return mend(b) }},
		{"sum", api.ErrSum, func(b []byte) []byte { b[11] ^= 1; return b }},
		{"header not whole", api.ErrShort, func(b []byte) []byte { b[0] = 0x48; return b }},
		{"version", api.ErrForm, func(b []byte) []byte { b[0] = 0x58; return b }},
		{"words", api.ErrForm, func(b []byte) []byte { b[0] = 0x44; return b }},
		{"few bytes", api.ErrShort, func(b []byte) []byte { return b[:19] }},
	}
	for _, piece := range []uint16{0, 0x2000, 1} { // a fragment is told last of all
		for i, late := range faults {
			one := fresh()
			one[6], one[7] = byte(piece>>8), byte(piece)
			refuses(t, late.name, late.lay(mend(one)), late.want)
			for _, soon := range faults[i+1:] {
				b := fresh()
				b[6], b[7] = byte(piece>>8), byte(piece)
				refuses(t, soon.name+" ahead of "+late.name, soon.lay(late.lay(mend(b))), soon.want)
			}
		}
	}
}

// P3.2: the payload and the options are in memory of their own, also where they are lengthened.
func TestReadMemory(t *testing.T) {
	b := append(raw(0, []byte("\x07\x04\x01\x02"), []byte("abcd")), make([]byte, 8)...)
	kept := bytes.Clone(b)
	h, p, _ := Read(b)
	for i := range p {
		p[i] ^= 0xff
	}
	for i := range h.Options {
		h.Options[i] ^= 0xff
	}
	_, _ = append(p, 0xee), append(h.Options, 0xee)
	if !bytes.Equal(b, kept) {
		t.Fatal("the packet changes with what was read of it")
	}
	h, p, _ = Read(b)
	_ = append(h.Options, 0xee, 0xee)
	for i := range b {
		b[i] = 0xdd
	}
	if string(p) != "abcd" || string(h.Options) != "\x07\x04\x01\x02" {
		t.Fatalf("what was read changes with the packet, or with one another: % x, % x", p, h.Options)
	}
}

// P3.3: a packet byte by byte.
func TestWrite(t *testing.T) {
	h := api.IP4{TTL: 64, Proto: 17, Src: [16]byte{10, 0, 0, 1}, Dst: [16]byte{10, 0, 0, 2}}
	if b, e := Write(h, nil); e != api.OK || string(b) != bare {
		t.Fatalf("Write = % x, %d", b, e)
	}
	for _, df := range []bool{false, true} {
		flags := uint16(0)
		if df {
			flags = 0x4000
		}
		for _, options := range []string{"", "\x01\x01\x01\x00", "\x00\x83\x01\x02", string(bytes.Repeat([]byte{7, 4, 9, 9}, 10))} {
			for _, payload := range []string{"", "a", "ab", "abcdefg"} {
				b, e := Write(rawHead(df, []byte(options)), []byte(payload))
				if want := raw(flags, []byte(options), []byte(payload)); e != api.OK || !bytes.Equal(b, want) {
					t.Fatalf("Write = % x, %d; want % x", b, e, want)
				}
			}
		}
	}
	empty := "\x45\x00\x00\x14\x00\x00\x00\x00\x00\x00\xba\xeb\x00\x00\x00\x00\x00\x00\x00\x00"
	if b, e := Write(api.IP4{}, nil); e != api.OK || string(b) != empty {
		t.Fatalf("Write of nothing = % x, %d", b, e)
	}
}

// P3.3: the sum is 0000 where the other words come to FFFF.
func TestWriteSum(t *testing.T) {
	h := api.IP4{TTL: 64, Proto: 17, Src: [16]byte{10, 0, 0, 1}, Dst: [16]byte{10, 0, 0, 2}}
	for id := range 65536 {
		h.ID = uint16(id)
		b, e := Write(h, nil)
		if e != api.OK || uint16(b[10])<<8|uint16(b[11]) != onesSum(b) {
			t.Fatalf("Write of identification %04x: % x, %d", id, b, e)
		}
	}
}

// P3.3: options that may not be are told, ahead of all else.
func TestWriteOptions(t *testing.T) {
	long := make([]byte, api.MaxEmit)
	for _, s := range []string{"\x01", "\x01\x01", string(make([]byte, 41)), string(make([]byte, 44)), string(make([]byte, 1<<17)), "\x83\x03\x00\x00", "\x89\x03\x04\x00", "\x07\x05\x00\x00", "\x83\x02\x07\x01"} {
		want := Options([]byte(s))
		if want == api.OK {
			t.Fatalf("% x may be", s)
		}
		h := rawHead(true, []byte(s))
		wrong := h
		wrong.Dst[9] = 1
		for _, x := range []struct {
			h api.IP4
			p []byte
		}{{h, nil}, {wrong, nil}, {h, long}, {wrong, long}} {
			if b, e := Write(x.h, x.p); e != want || b != nil {
				t.Fatalf("Write of options % x = % x, %d; want error %d alone", s, b, e, want)
			}
		}
	}
}

// P3.3: an address with more than its four bytes, ahead of a packet that is too long.
func TestWriteAddress(t *testing.T) {
	for i := range 16 {
		for _, x := range []byte{1, 0x80, 0xff} {
			for _, p := range [][]byte{nil, make([]byte, api.MaxEmit)} {
				src, dst := rawHead(false, nil), rawHead(false, nil)
				src.Src[i], dst.Dst[i] = x, x
				want := api.OK
				if i >= 4 {
					want = api.ErrArg
				} else if p != nil {
					want = api.ErrLong
				}
				for _, h := range []api.IP4{src, dst} {
					if b, e := Write(h, p); e != want || e != api.OK && b != nil {
						t.Fatalf("Write of addresses %v, %v = %d bytes, %d; want %d", h.Src, h.Dst, len(b), e, want)
					}
				}
			}
		}
	}
}

// P3.3: a packet of MaxEmit bytes is written, one more is not, beside which error there is nothing.
func TestWriteLengths(t *testing.T) {
	for words := range 11 {
		options := bytes.Repeat([]byte{1}, 4*words)
		for n := range 1700 {
			p := mixed(n, uint32(n))
			b, e := Write(rawHead(false, options), p)
			if 20+len(options)+n > 1660 {
				if e != api.ErrLong || b != nil {
					t.Fatalf("Write of %d and %d bytes = %d bytes, %d", len(options), n, len(b), e)
				}
			} else if e != api.OK || !bytes.Equal(b, raw(0, options, p)) {
				t.Fatalf("Write of %d and %d bytes = %d bytes, %d", len(options), n, len(b), e)
			}
		}
	}
	for _, n := range []int{65516, 65536, 1 << 20} { // lengths that are small again, in two bytes
		if b, e := Write(rawHead(false, nil), make([]byte, n)); e != api.ErrLong || b != nil {
			t.Fatalf("Write of %d bytes = %d bytes, %d", n, len(b), e)
		}
	}
}

// P3.3: the packet is in memory of its own, and what is handed in is not changed.
func TestWriteMemory(t *testing.T) {
	options := append([]byte("\x07\x04\x01\x02"), make([]byte, 8)...)
	payload := append([]byte("abcd"), make([]byte, 8)...)
	keptOptions, keptPayload := bytes.Clone(options), bytes.Clone(payload)
	b, _ := Write(rawHead(false, options[:4]), payload[:4])
	kept := bytes.Clone(b)
	for i := range b {
		b[i] ^= 0xff
	}
	_ = append(b, 0xee)
	if !bytes.Equal(options, keptOptions) || !bytes.Equal(payload, keptPayload) {
		t.Fatal("what was handed in changes with the packet")
	}
	b, _ = Write(rawHead(false, options[:4]), payload[:4])
	clear(options)
	clear(payload)
	if !bytes.Equal(b, kept) {
		t.Fatal("the packet changes with what was handed in")
	}
}

// P3.2, P3.3: what is written is read as it was, with padding behind it or without.
func TestWriteRead(t *testing.T) {
	for n := range 1600 {
		m := mixed(32, uint32(n))
		h := api.IP4{TOS: m[0], ID: uint16(m[1])<<8 | uint16(m[2]), DF: m[3]&1 == 1, TTL: m[4], Proto: m[5], Options: bytes.Repeat([]byte{7, 4, m[6], m[7]}, n%11)}
		copy(h.Src[:], m[8:12])
		copy(h.Dst[:], m[12:16])
		p := mixed(n, uint32(n)+9)
		b, e := Write(h, p)
		if e != api.OK {
			t.Fatalf("Write of %v, %d bytes = %d", h, n, e)
		}
		reads(t, "as it was", b, h, p)
		reads(t, "with padding", append(b, m...), h, p)
	}
}

// P3.2, P3.3: what is read is written as it was, but for padding behind it.
func TestReadWrite(t *testing.T) {
	for n := range 1601 {
		for _, flags := range []uint16{0, 0x4000} {
			b := raw(flags, bytes.Repeat([]byte{1, 7, 3, 9}, n%11), mixed(n, uint32(n)))
			h, p, e := Read(append(bytes.Clone(b), mixed(n%47, 5)...))
			c, f := Write(h, p)
			if e != api.OK || f != api.OK || !bytes.Equal(b, c) {
				t.Fatalf("%d bytes: read %d, written %d", n, e, f)
			}
		}
	}
}

// P1: no call panics, whatever bytes there are; and what is handed in is not changed.
func TestReadAny(t *testing.T) {
	read := 0
	for n := range 200000 {
		m := mixed(100, uint32(n)*2654435761)
		b := m[8 : 8+int(m[0])%93]
		if len(b) > 0 && m[1]&3 > 0 { // most of them like a packet, so that the late faults come, too
			b[0] = 0x40 | b[0]&15
		}
		if len(b) > 7 && m[1]&4 > 0 {
			b[2], b[3], b[6], b[7] = 0, b[3]%100, b[6]&0x60, 0
		}
		if len(b) >= 20 && m[1]&24 > 0 {
			mend(b)
		}
		kept := bytes.Clone(b)
		h, p, e := Read(b)
		if !bytes.Equal(b, kept) {
			t.Fatalf("% x became % x", kept, b)
		}
		if e != api.OK {
			refuses(t, "any", b, e)
			continue
		}
		read++
		c, f := Write(h, p)
		if f != api.OK || !bytes.HasPrefix(b, c) {
			t.Fatalf("% x is written as % x, %d", b, c, f)
		}
	}
	if read == 0 {
		t.Fatal("none was read")
	}
}
