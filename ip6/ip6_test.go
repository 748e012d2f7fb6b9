package ip6

import (
	"bytes"
	"testing"

	"weighbridge/api"
)

// zero is six noughts: what an extension header of one unit has behind its two bytes.
const zero = "\x00\x00\x00\x00\x00\x00"

// exts are the kinds of extension headers.
var exts = []byte{0, 43, 44, 60}

// mixed tells n bytes that differ, the same ones each time.
func mixed(n int, seed uint32) []byte {
	b := make([]byte, n)
	for i := range b {
		seed = seed*1664525 + 1013904223
		b[i] = byte(seed >> 24)
	}
	return b
}

// chainOf tells headers of one unit each, of OptionsIn but the first, and the protocol behind the last one.
func chainOf(n int, proto byte) []byte {
	var b []byte
	for i := range n {
		next := byte(60)
		if i == n-1 {
			next = proto
		}
		b = append(b, next, 0, 1, 4, 0, 0, 0, 0)
	}
	return b
}

// raw tells a packet byte by byte, without the package: of this next header, and these bytes behind the header.
func raw(next byte, body []byte) []byte {
	b := []byte{0x61, 0x2a, 0xbc, 0xde, byte(len(body) >> 8), byte(len(body)), next, 63}
	for i := range 32 {
		b = append(b, byte(0x20+i*3))
	}
	return append(b, body...)
}

// rawHead is what stands ahead in packets of raw.
func rawHead(next, proto byte, chain []byte) api.IP6 {
	h := api.IP6{Class: 0x12, Label: 0xabcde, Next: next, Proto: proto, Hops: 63, Chain: chain}
	for i := range 16 {
		h.Src[i], h.Dst[i] = byte(0x20+i*3), byte(0x50+i*3)
	}
	return h
}

// same tells whether two headers are one.
func same(a, b api.IP6) bool {
	return a.Class == b.Class && a.Label == b.Label && a.Next == b.Next && a.Proto == b.Proto && a.Hops == b.Hops && a.Src == b.Src && a.Dst == b.Dst && bytes.Equal(a.Chain, b.Chain)
}

// reads fails the test unless Read tells this header and payload.
func reads(t *testing.T, name string, b []byte, h api.IP6, payload []byte) {
	t.Helper()
	got, p, e := Read(b)
	if e != api.OK || !same(got, h) || !bytes.Equal(p, payload) {
		t.Fatalf("%q: Read = %v, %d bytes, %d; want %v, %d bytes", name, got, len(p), e, h, len(payload))
	}
}

// refuses fails the test unless Read tells this error, and nothing beside it.
func refuses(t *testing.T, name string, b []byte, want api.Errno) {
	t.Helper()
	h, p, e := Read(b)
	if e != want || !same(h, api.IP6{}) || h.Chain != nil || p != nil {
		t.Fatalf("%q: Read = %v, %v, %d; want error %d alone", name, h, p, e, want)
	}
}

// writes fails the test unless Write tells these bytes.
func writes(t *testing.T, name string, h api.IP6, payload, want []byte) {
	t.Helper()
	if b, e := Write(h, payload); e != api.OK || !bytes.Equal(b, want) {
		t.Fatalf("%q: Write = % x, %d; want % x", name, b, e, want)
	}
}

// declines fails the test unless Write tells this error, and nothing beside it.
func declines(t *testing.T, name string, h api.IP6, payload []byte, want api.Errno) {
	t.Helper()
	if b, e := Write(h, payload); e != want || b != nil {
		t.Fatalf("%q: Write = %d bytes, %d; want error %d alone", name, len(b), e, want)
	}
}

// tells fails the test unless Chain tells this; with an error nothing may stand beside it.
func tells(t *testing.T, next byte, b []byte, proto byte, n int, e api.Errno) {
	t.Helper()
	gotProto, gotN, gotE := Chain(next, b)
	if gotProto != proto || gotN != n || gotE != e {
		t.Fatalf("Chain(%d, % x) = %d, %d, %d; want %d, %d, %d", next, b, gotProto, gotN, gotE, proto, n, e)
	}
}

// fails fails the test unless Chain tells this error, and nothing beside it.
func fails(t *testing.T, next byte, b []byte, e api.Errno) {
	t.Helper()
	tells(t, next, b, 0, 0, e)
}

// plain tells what Chain must, another way: one header, and then what is behind it.
func plain(next byte, b []byte, place int) (byte, int, api.Errno) {
	switch {
	case next != 0 && next != 43 && next != 44 && next != 60:
		return next, 0, api.OK
	case place > 8:
		return 0, 0, api.ErrLong
	case next == 0 && place != 1:
		return 0, 0, api.ErrForm
	case len(b) < 2:
		return 0, 0, api.ErrShort
	}
	size := 8
	if next != 44 {
		size += int(b[1]) * 8
	}
	if size > len(b) {
		return 0, 0, api.ErrShort
	}
	if next == 43 && b[3] != 0 {
		return 0, 0, api.ErrRoute
	}
	offset := (int(b[2])*256 + int(b[3])) / 8
	if next == 44 && (offset > 0 || b[3]%2 == 1) {
		return 0, 0, api.ErrPiece
	}
	proto, n, e := plain(b[0], b[size:], place+1)
	if e != api.OK {
		return 0, 0, e
	}
	return proto, size + n, api.OK
}

// P4.1: the chapter's examples, and others by hand.
func TestChain(t *testing.T) {
	const route = "\x06\x00\x00\x01\x00\x00\x00\x00"
	for _, x := range []struct {
		next  byte
		b     string
		proto byte
		n     int
		e     api.Errno
	}{
		{17, "", 17, 0, api.OK},
		{60, "\x11\x00" + zero, 17, 8, api.OK},
		{44, "\x06\x00\x00\x01\x00\x00\x00\x00", 0, 0, api.ErrPiece},

		{6, "\x3c\x00" + zero, 6, 0, api.OK}, // what stands behind no chain is not looked at
		{0, "\x06\x00" + zero + "rest", 6, 8, api.OK},
		{0, "\x3c\x01" + zero + zero + "12" + "\x11\x00" + zero, 17, 24, api.OK},
		{0, "\x2b\x00" + zero + "\x2c\x00" + zero + "\x3c\xaa\x00\x00abcd" + "\x11\x00" + zero + "rest", 17, 32, api.OK},
		{43, "\x2b\x00" + zero + "\x11\x00" + zero, 17, 16, api.OK}, // twice of a kind
		{44, "\x2c\x00" + zero + "\x3a\x00" + zero, 58, 16, api.OK},
		{60, "\x3b\x00" + zero, 59, 8, api.OK}, // other kinds of headers are protocols
		{60, "\x32\x00" + zero, 50, 8, api.OK},
		{60, "\x33\x00" + zero, 51, 8, api.OK},
		{60, "\x87\x00" + zero, 135, 8, api.OK},

		{0, "\x00\x00" + zero + "\x06\x00" + zero, 0, 0, api.ErrForm},
		{60, "\x00\x00" + zero + "\x06\x00" + zero, 0, 0, api.ErrForm},
		{60, "\x00\x00" + zero, 0, 0, api.ErrForm}, // and of one that is not whole, too
		{60, "\x00\x00" + zero + "\x06\x01" + zero, 0, 0, api.ErrForm},
		{43, "\x00\x00" + zero, 0, 0, api.ErrForm},
		{44, "\x00\x00" + zero, 0, 0, api.ErrForm},

		{43, route, 0, 0, api.ErrRoute},
		{60, "\x2b\x00" + zero + route, 0, 0, api.ErrRoute},
		{43, "\x00\x00\x00\x01\x00\x00\x00\x00", 0, 0, api.ErrRoute}, // header by header: the first one's fault
		{43, "\x06\x01\x00\x01\x00\x00\x00\x00", 0, 0, api.ErrShort},
		{60, "\x06\x00\x00\x01\x00\x00\x00\x00", 6, 8, api.OK}, // its fourth byte, but no Routing
		{44, "\x2b\x00\x00\x08\x00\x00\x00\x00" + route, 0, 0, api.ErrPiece},
		{43, "\x2c\x00\x00\x01\x00\x00\x00\x00" + "\x06\x00\x00\x01\x00\x00\x00\x00", 0, 0, api.ErrRoute},
		{43, "\x2c\x00" + zero + "\x06\x00\x00\x01\x00\x00\x00\x00", 0, 0, api.ErrPiece},
	} {
		tells(t, x.next, []byte(x.b), x.proto, x.n, x.e)
	}
	tells(t, 17, nil, 17, 0, api.OK)
	fails(t, 60, nil, api.ErrShort)
}

// P4.1: each number as the next header, ahead of all and behind one: four are extension headers.
func TestChainKinds(t *testing.T) {
	for kind := range 256 {
		next := byte(kind)
		behind := append([]byte{next, 0}, zero...)
		if !bytes.Contains(exts, []byte{next}) {
			tells(t, next, []byte("\x3c\x00"+zero), next, 0, api.OK)
			tells(t, 60, behind, next, 8, api.OK)
			tells(t, 44, behind, next, 8, api.OK)
			continue
		}
		tells(t, next, []byte("\x11\x00"+zero), 17, 8, api.OK)
		fails(t, next, nil, api.ErrShort)
		if next != 0 {
			fails(t, 60, behind, api.ErrShort)
		}
	}
}

// P4.1: each length of a header, and each number of bytes about it; a Fragment's second byte is none.
func TestChainLengths(t *testing.T) {
	for _, next := range []byte{0, 43, 60} {
		for words := range 256 {
			size := (words + 1) * 8
			b := make([]byte, size+9)
			b[0], b[1] = 6, byte(words)
			for n := range b {
				if n < size {
					fails(t, next, b[:n], api.ErrShort)
				} else {
					tells(t, next, b[:n], 6, size, api.OK)
				}
			}
			fails(t, next, b[:1], api.ErrShort)
		}
	}
	for second := range 256 {
		b := make([]byte, 30)
		b[0], b[1] = 6, byte(second)
		for n := range b {
			if n < 8 {
				fails(t, 44, b[:n], api.ErrShort)
			} else {
				tells(t, 44, b[:n], 6, 8, api.OK)
			}
		}
	}
}

// P4.1: each number of segments left, of each type of route.
func TestChainRoute(t *testing.T) {
	for left := range 256 {
		for _, kind := range []byte{0, 2, 3, 4, 255} {
			b := append([]byte{6, 2, kind, byte(left)}, make([]byte, 20)...)
			if left > 0 {
				fails(t, 43, b, api.ErrRoute)
				fails(t, 43, b[:23], api.ErrShort) // one that is not whole is that first
			} else {
				tells(t, 43, b, 6, 24, api.OK)
			}
		}
	}
}

// P4.1: all offsets, with more and without; two bits between them, and the other bytes, are free.
func TestChainPiece(t *testing.T) {
	for word := range 65536 {
		b := []byte{6, 0xff, byte(word >> 8), byte(word), 0xde, 0xad, 0xbe, 0xef}
		if word>>3 != 0 || word&1 != 0 {
			fails(t, 44, b, api.ErrPiece)
			fails(t, 44, b[:7], api.ErrShort)
		} else {
			tells(t, 44, b, 6, 8, api.OK)
		}
	}
}

// P4.1: eight headers at most; the ninth one is too many, whatever else it is.
func TestChainNinth(t *testing.T) {
	for n := 1; n <= 8; n++ {
		tells(t, 60, chainOf(n, 6), 6, n*8, api.OK)
		tells(t, 60, append(chainOf(n, 6), "rest"...), 6, n*8, api.OK)
	}
	for _, ninth := range exts {
		b := chainOf(8, ninth)
		fails(t, 60, b, api.ErrLong) // of which nothing is there
		fails(t, 60, append(bytes.Clone(b), 6), api.ErrLong)
		fails(t, 60, append(bytes.Clone(b), 6, 0, 0, 1, 0, 0, 0, 0), api.ErrLong)
		fails(t, 60, append(bytes.Clone(b), ninth, 0, 0, 0, 0, 0, 0, 0, 6, 0, 0, 0, 0, 0, 0, 0), api.ErrLong)
	}
	fails(t, 60, chainOf(9, 6), api.ErrLong)
	fails(t, 60, chainOf(3000, 6), api.ErrLong)
	fails(t, 60, chainOf(8, 60)[:63], api.ErrShort) // the eighth one's fault is ahead of the ninth
	b := chainOf(8, 60)
	b[48] = 43 // so the eighth one is a Routing header
	b[59] = 1
	fails(t, 60, b, api.ErrRoute)
	b[48] = 44
	fails(t, 60, b, api.ErrPiece)
	b[48] = 0
	fails(t, 60, b, api.ErrForm)
}

// P4.1: HopByHop at each place.
func TestChainHopByHop(t *testing.T) {
	tells(t, 0, chainOf(8, 6), 6, 64, api.OK)
	fails(t, 0, chainOf(8, 60), api.ErrLong)
	for place := 1; place < 8; place++ {
		for n := place; n <= 8; n++ {
			b := chainOf(n, 6)
			b[(place-1)*8] = 0
			fails(t, 60, b, api.ErrForm)
			fails(t, 0, b, api.ErrForm)
			fails(t, 60, b[:place*8], api.ErrForm)
		}
	}
}

// P4.1: the longest chain there is.
func TestChainLong(t *testing.T) {
	var b []byte
	for i := range 8 {
		head := make([]byte, 2048)
		head[0], head[1] = 60, 255
		if i == 7 {
			head[0] = 6
		}
		b = append(b, head...)
	}
	tells(t, 0, b, 6, 8*2048, api.OK)
	fails(t, 0, b[:len(b)-1], api.ErrShort)
}

// P4.1, P1: many rows of headers of few kinds, whose lengths, offsets and segments are at all places.
func TestChainAll(t *testing.T) {
	kinds := []byte{0, 43, 44, 60, 6, 60, 44, 43}
	told := map[api.Errno]int{}
	for n := range uint32(200000) {
		r := mixed(48, n)
		b := make([]byte, int(r[47])%81)
		for i := 0; i < len(b); i += 8 {
			at := i / 8 * 4
			copy(b[i:], []byte{kinds[r[at]>>5], r[at+1] >> 5 / 7, 0, r[at+2] >> 4 / 15, r[at+3]})
		}
		next := kinds[r[46]>>5]
		proto, size, e := plain(next, b, 1)
		tells(t, next, b, proto, size, e)
		told[e]++
	}
	for _, e := range []api.Errno{api.OK, api.ErrLong, api.ErrForm, api.ErrShort, api.ErrRoute, api.ErrPiece} {
		if told[e] < 100 {
			t.Errorf("error %d was told but %d times", e, told[e])
		}
	}
}

// P4.1: what is handed in is not changed.
func TestChainLeaves(t *testing.T) {
	b := append(chainOf(8, 6), "rest"...)
	kept := bytes.Clone(b)
	Chain(60, b)
	if !bytes.Equal(b, kept) {
		t.Fatalf("% x became % x", kept, b)
	}
}

// P4.2: packets by hand.
func TestRead(t *testing.T) {
	reads(t, "bare", raw(17, nil), rawHead(17, 17, nil), nil)
	reads(t, "payload", raw(6, []byte("abc")), rawHead(6, 6, nil), []byte("abc"))
	reads(t, "chain", raw(60, []byte("\x11\x00\x01\x04\x00\x00\x00\x00abcd")), rawHead(60, 17, []byte("\x11\x00\x01\x04\x00\x00\x00\x00")), []byte("abcd"))
	reads(t, "chain without payload", raw(0, chainOf(3, 6)), rawHead(0, 6, chainOf(3, 6)), nil)
	reads(t, "eight", raw(60, append(chainOf(8, 58), "ab"...)), rawHead(60, 58, chainOf(8, 58)), []byte("ab"))
	reads(t, "whole though of a Fragment", raw(44, []byte("\x06\x00\x00\x00\x01\x02\x03\x04ab")), rawHead(44, 6, []byte("\x06\x00\x00\x00\x01\x02\x03\x04")), []byte("ab"))
	reads(t, "no next header", raw(59, []byte("ab")), rawHead(59, 59, nil), []byte("ab"))
}

// P4.2: each byte of a header that is free to be any, at each value.
func TestReadEachByte(t *testing.T) {
	good := raw(6, []byte("abcd"))
	for at := range 40 {
		for x := range 256 {
			b, v := bytes.Clone(good), byte(x)
			h := rawHead(6, 6, nil)
			switch {
			case at == 0:
				v = 0x60 | v>>4
				h.Class = h.Class&15 | v<<4
			case at == 1:
				h.Class = h.Class&0xf0 | v>>4
				h.Label = h.Label&0xffff | uint32(v&15)<<16
			case at == 2:
				h.Label = h.Label&0xf00ff | uint32(v)<<8
			case at == 3:
				h.Label = h.Label&0xfff00 | uint32(v)
			case at < 6:
				continue
			case at == 6:
				if bytes.Contains(exts, []byte{v}) {
					continue
				}
				h.Next, h.Proto = v, v
			case at == 7:
				h.Hops = v
			case at < 24:
				h.Src[at-8] = v
			default:
				h.Dst[at-24] = v
			}
			b[at] = v
			reads(t, "a byte", b, h, []byte("abcd"))
		}
	}
}

// P4.2: each version: it is looked at ahead of the payload's length and the chain.
func TestReadVersion(t *testing.T) {
	for x := range 256 {
		b := raw(6, []byte("abc"))
		b[0] = byte(x)
		if x>>4 == 6 {
			h := rawHead(6, 6, nil)
			h.Class = byte(x<<4) | 2
			reads(t, "version", b, h, []byte("abc"))
			continue
		}
		refuses(t, "version", b, api.ErrForm)
		refuses(t, "version ahead of the length", b[:41], api.ErrForm)
		b[6] = 43
		refuses(t, "version ahead of the chain", b, api.ErrForm)
	}
}

// P4.2: at each number of bytes; of fewer than 40 nothing else is looked at.
func TestReadShort(t *testing.T) {
	whole := raw(60, append(chainOf(2, 17), "abcdef"...))
	for n := range whole {
		refuses(t, "cut", whole[:n], api.ErrShort)
	}
	for n := range 40 {
		refuses(t, "noughts", make([]byte, n), api.ErrShort)
		refuses(t, "ones", bytes.Repeat([]byte{0xff}, n), api.ErrShort)
	}
	refuses(t, "nil", nil, api.ErrShort)
	refuses(t, "noughts", make([]byte, 40), api.ErrForm)
}

// P4.2: each payload's length about what there is: more is short, fewer leaves padding behind.
func TestReadLength(t *testing.T) {
	body := []byte("abcdefgh")
	b := raw(6, body)
	for length := range 65536 {
		b[4], b[5] = byte(length>>8), byte(length)
		if length > len(body) {
			refuses(t, "beyond the bytes", b, api.ErrShort)
		} else {
			reads(t, "length", b, rawHead(6, 6, nil), body[:length])
		}
	}
}

// P4.2: the length goes ahead of what Chain tells.
func TestReadLengthFirst(t *testing.T) {
	for _, s := range []string{"\x00\x00" + zero, "\x06\x00\x00\x01\x00\x00\x00\x00"} {
		for _, next := range exts {
			b := raw(next, []byte(s))
			b[5]++
			refuses(t, "length ahead of the chain", b, api.ErrShort)
		}
	}
}

// P4.2: the longest packet there is.
func TestReadLong(t *testing.T) {
	p := mixed(65535, 4)
	b := raw(6, p)
	reads(t, "65575 bytes", b, rawHead(6, 6, nil), p)
	refuses(t, "one byte fewer", b[:65574], api.ErrShort)
	reads(t, "with padding", append(b, 1, 2, 3), rawHead(6, 6, nil), p)
}

// P4.2: what Chain tells; a chain does not go on in padding.
func TestReadChain(t *testing.T) {
	for _, x := range []struct {
		next byte
		s    string
		e    api.Errno
	}{
		{60, string(chainOf(9, 6)), api.ErrLong},
		{0, "\x00\x00" + zero + "\x06\x00" + zero, api.ErrForm},
		{60, "\x06\x01" + zero, api.ErrShort},
		{60, "", api.ErrShort},
		{43, "\x06\x00\x00\x01\x00\x00\x00\x00", api.ErrRoute},
		{44, "\x06\x00\x00\x01\x00\x00\x00\x00", api.ErrPiece},
		{44, "\x06\x00\x00\x08\x00\x00\x00\x00", api.ErrPiece},
		{44, "\x06\x00\x80\x00\x00\x00\x00\x00", api.ErrPiece},
	} {
		refuses(t, "chain", raw(x.next, []byte(x.s)), x.e)
		if x.e != api.ErrShort {
			refuses(t, "chain and payload", raw(x.next, []byte(x.s+"abc")), x.e)
		}
	}
	b := append(raw(60, chainOf(1, 60)), chainOf(1, 6)...)
	refuses(t, "the second one in padding", b, api.ErrShort)
	b = append(raw(60, chainOf(2, 6)[:12]), chainOf(2, 6)[12:]...)
	refuses(t, "its end in padding", b, api.ErrShort)
	b = append(raw(60, nil), chainOf(1, 6)...)
	refuses(t, "all of it in padding", b, api.ErrShort)
}

// P4.2: padding is left away, whatever it is.
func TestReadPadding(t *testing.T) {
	body := append(chainOf(1, 17), "abc"...)
	for n := range 100 {
		b := append(raw(60, body), mixed(n, 9)...)
		reads(t, "padding", b, rawHead(60, 17, chainOf(1, 17)), []byte("abc"))
	}
}

// P4.2: what is handed in is not changed, and what is told shares none of it, nor does one list of it share another's.
func TestReadOwn(t *testing.T) {
	b := append(raw(60, append(chainOf(1, 17), "abcdef"...)), "pad"...)
	kept := bytes.Clone(b)
	h, p, _ := Read(b)
	if !bytes.Equal(b, kept) {
		t.Fatalf("% x became % x", kept, b)
	}
	clear(b)
	h.Chain = append(h.Chain, 1, 2, 3, 4)
	if !bytes.Equal(h.Chain[:8], chainOf(1, 17)) || string(p) != "abcdef" {
		t.Fatalf("told % x, %q", h.Chain, p)
	}
	b = bytes.Clone(kept)
	h, p, _ = Read(b)
	clear(h.Chain)
	clear(p)
	if p = append(p, 0, 0, 0); !bytes.Equal(b, kept) {
		t.Fatalf("% x became % x", kept, b)
	}
}

// P4.3: packets by hand.
func TestWrite(t *testing.T) {
	writes(t, "bare", rawHead(17, 17, nil), nil, raw(17, nil))
	writes(t, "an empty chain", rawHead(17, 17, []byte{}), []byte{}, raw(17, nil))
	writes(t, "payload", rawHead(6, 6, nil), []byte("abc"), raw(6, []byte("abc")))
	writes(t, "chain", rawHead(60, 17, chainOf(1, 17)), []byte("abc"), raw(60, append(chainOf(1, 17), "abc"...)))
	writes(t, "eight", rawHead(0, 17, chainOf(8, 17)), []byte("a"), raw(0, append(chainOf(8, 17), 'a')))
	writes(t, "zero", api.IP6{Next: 6, Proto: 6}, nil, append([]byte{0x60, 0, 0, 0, 0, 0, 6, 0}, make([]byte, 32)...))
	declines(t, "zero", api.IP6{}, nil, api.ErrArg) // HopByHop, of which nothing is there
}

// P4.3: labels about their bound.
func TestWriteLabel(t *testing.T) {
	for _, label := range []uint32{0, 1, 0xff, 0x100, 0xffff, 0x10000, 0x80000, 0xffffe, 0xfffff} {
		h := rawHead(6, 6, nil)
		h.Label = label
		b := raw(6, []byte("ab"))
		b[1], b[2], b[3] = 0x20|byte(label>>16), byte(label>>8), byte(label)
		writes(t, "label", h, []byte("ab"), b)
	}
	for _, label := range []uint32{0x100000, 0x100001, 0x1fffff, 0x80000000, 0xffffffff} {
		h := rawHead(6, 6, nil)
		h.Label = label
		declines(t, "label", h, []byte("ab"), api.ErrArg)
	}
}

// P4.3: each class, hop limit and protocol.
func TestWriteEachByte(t *testing.T) {
	for x := range 256 {
		v := byte(x)
		h := rawHead(6, 6, nil)
		b := raw(6, []byte("ab"))
		h.Class = v
		b[0], b[1] = 0x60|v>>4, v<<4|0xa
		writes(t, "class", h, []byte("ab"), b)
		h, b = rawHead(6, 6, nil), raw(6, []byte("ab"))
		h.Hops, b[7] = v, v
		writes(t, "hops", h, []byte("ab"), b)
		if bytes.Contains(exts, []byte{v}) {
			declines(t, "a header that is not there", rawHead(v, v, nil), nil, api.ErrArg)
			continue
		}
		writes(t, "protocol", rawHead(v, v, nil), []byte("ab"), raw(v, []byte("ab")))
		writes(t, "protocol behind a chain", rawHead(60, v, chainOf(2, v)), nil, raw(60, chainOf(2, v)))
	}
}

// P4.3: chains that may not be, or that do not tell the protocol, or all their bytes.
func TestWriteChain(t *testing.T) {
	for _, x := range []struct {
		name        string
		next, proto byte
		s           string
	}{
		{"a ninth one", 60, 6, string(chainOf(9, 6))},
		{"HopByHop behind", 60, 6, "\x00\x00" + zero + "\x06\x00" + zero},
		{"not whole", 60, 6, "\x06\x01" + zero},
		{"none", 60, 6, ""},
		{"a route", 43, 6, "\x06\x00\x00\x01\x00\x00\x00\x00"},
		{"more", 44, 6, "\x06\x00\x00\x01\x00\x00\x00\x00"},
		{"an offset", 44, 6, "\x06\x00\x00\x08\x00\x00\x00\x00"},
		{"another protocol", 60, 17, "\x06\x00" + zero},
		{"another protocol without a chain", 6, 17, ""},
		{"the next header as protocol", 60, 60, "\x06\x00" + zero},
		{"no protocol", 60, 0, "\x06\x00" + zero},
		{"bytes behind", 60, 6, "\x06\x00" + zero + "a"},
		{"a header behind", 60, 6, "\x06\x00" + zero + "\x06\x00" + zero},
		{"bytes without a chain", 6, 6, "a"},
		{"headers without a chain", 6, 6, "\x06\x00" + zero},
	} {
		declines(t, x.name, rawHead(x.next, x.proto, []byte(x.s)), []byte("abc"), api.ErrArg)
		declines(t, x.name, rawHead(x.next, x.proto, []byte(x.s)), make([]byte, api.MaxEmit), api.ErrArg) // ahead of ErrLong
	}
	declines(t, "the payload is no part of the chain", rawHead(60, 6, chainOf(2, 6)[:8]), chainOf(1, 6), api.ErrArg)
	declines(t, "the payload is no part of the chain", rawHead(60, 6, chainOf(1, 6)[:6]), []byte("\x00\x00"), api.ErrArg)
}

// P4.3: about the bound, with chains of all lengths; a chain alone may be beyond it.
func TestWriteLong(t *testing.T) {
	for n := range 9 {
		chain, next := chainOf(n, 6), byte(60)
		if n == 0 {
			next = 6
		}
		room := api.MaxEmit - 40 - n*8
		h := rawHead(next, 6, chain)
		p := mixed(room+300, 5)
		for _, size := range []int{0, 1, 255, 256, room - 1, room} {
			writes(t, "fits", h, p[:size], raw(next, append(bytes.Clone(chain), p[:size]...)))
		}
		for size := room + 1; size <= len(p); size++ {
			declines(t, "long", h, p[:size], api.ErrLong)
		}
		declines(t, "very long", h, make([]byte, 1<<20), api.ErrLong)
		h.Label = 1 << 20
		declines(t, "label ahead of the bound", h, p, api.ErrArg)
	}
	for words := range 256 {
		chain := append([]byte{6, byte(words)}, make([]byte, words*8+6)...)
		if len(chain)+40 > api.MaxEmit {
			declines(t, "a chain alone", rawHead(0, 6, chain), nil, api.ErrLong)
		} else {
			writes(t, "a chain alone", rawHead(0, 6, chain), nil, raw(0, chain))
		}
	}
}

// P4.3: what is handed in is not changed, and what is told shares none of it.
func TestWriteOwn(t *testing.T) {
	room := append(chainOf(1, 17), "behind"...)
	p := []byte("abc")
	h := rawHead(60, 17, room[:8])
	b, _ := Write(h, p)
	if string(room[8:]) != "behind" || !bytes.Equal(room[:8], chainOf(1, 17)) || string(p) != "abc" {
		t.Fatalf("changed: % x, %q", room, p)
	}
	clear(room)
	clear(p)
	if want := raw(60, append(chainOf(1, 17), "abc"...)); !bytes.Equal(b, want) {
		t.Fatalf("% x became % x", want, b)
	}
}

// P4.2, P4.3: what is written is read as it was, whatever stands behind it.
func TestWriteRead(t *testing.T) {
	for n := range uint32(20000) {
		r := mixed(64, n)
		h := api.IP6{Class: r[0], Label: uint32(r[1]&15)<<16 | uint32(r[2])<<8 | uint32(r[3]), Hops: r[4], Src: [16]byte(r[5:21]), Dst: [16]byte(r[21:37]), Proto: 61 + r[37]>>1}
		h.Next = h.Proto
		for range r[38] >> 5 {
			head := append([]byte{h.Next, r[39] >> 6}, mixed(8*int(r[39]>>6)+6, n)...)
			h.Chain = append(head, h.Chain...)
			h.Next = 60
		}
		p := mixed(int(r[40])*4, n+1)
		b, e := Write(h, p)
		if e != api.OK {
			t.Fatalf("Write of %v, %d bytes = %d", h, len(p), e)
		}
		reads(t, "written", b, h, p)
		reads(t, "written, and padding", append(b, r...), h, p)
	}
}

// P4.2, P4.3, P1: what is read is written as it was, but for what stands behind it; all else is refused.
func TestReadWrite(t *testing.T) {
	kinds := []byte{0, 43, 44, 60, 6, 17, 58, 59}
	read := 0
	for n := range uint32(100000) {
		b := mixed(30+int(mixed(1, n)[0]), n)
		b[0] = 0x60 | b[0]&15
		if len(b) > 47 {
			b[4], b[5] = 0, byte(len(b)-40)-b[5]>>4
			b[6] = kinds[b[6]&7]
			b[40], b[41], b[42], b[43] = kinds[b[40]>>5], b[41]>>6, 0, b[43]>>7
		}
		h, p, e := Read(b)
		if e != api.OK {
			refuses(t, "any bytes", b, e)
			continue
		}
		read++
		if w, e := Write(h, p); e != api.OK || !bytes.HasPrefix(b, w) || len(w) != 40+int(b[4])*256+int(b[5]) {
			t.Fatalf("% x was read, and written as % x, %d", b, w, e)
		}
	}
	if read < 10000 {
		t.Fatalf("but %d were read", read)
	}
}
