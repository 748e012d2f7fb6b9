package encap

import (
	"bytes"
	"encoding/hex"
	"strings"
	"testing"

	"weighbridge/api"
)

// Ends of IPv4 and of IPv6, that packets go between.
var (
	src4 = [16]byte{192, 0, 2, 1}
	dst4 = [16]byte{198, 51, 100, 7}
	src6 = [16]byte{0x20, 1, 0x0d, 0xb8, 15: 1}
	dst6 = [16]byte{0x20, 1, 0x0d, 0xb8, 0, 0xff, 13: 0xab, 0xcd, 0xef}
)

// both are the two versions, modes the two modes.
var (
	both  = []bool{false, true}
	modes = []uint8{api.ModeIPIP, api.ModeGUE}
)

// sizes are how many bytes inner packets of the tests have: each small one, and some about the bounds.
var sizes = []int{1, 2, 3, 4, 5, 19, 20, 21, 40, 41, 576, 1500, 1585, 1586}

// octets tells the bytes that a text spells.
func octets(t *testing.T, text string) []byte {
	t.Helper()
	b, err := hex.DecodeString(strings.ReplaceAll(text, " ", ""))
	if err != nil {
		t.Fatal(err)
	}
	return b
}

// mixed tells n bytes that differ, the same ones each time.
func mixed(n int, seed uint32) []byte {
	b := make([]byte, n)
	for i := range b {
		seed = seed*1664525 + 1013904223
		b[i] = byte(seed >> 24)
	}
	return b
}

// inside tells an inner packet of n bytes, by its version's first four bits.
func inside(version byte, n int) []byte {
	b := mixed(n, uint32(n))
	b[0] = version<<4 | b[0]&15
	return b
}

// residue tells what the words of bytes leave out to 65535, not to be 0 but 65535 if they come to nothing.
func residue(parts ...[]byte) uint16 {
	t := 0
	for _, part := range parts {
		for i, x := range part {
			t += int(x) << (8 * (1 - i%2))
		}
	}
	return uint16(65535 - (t-1)%65535 - 1)
}

// outerOf tells an outer of a version and a mode that may be.
func outerOf(v6 bool, mode uint8) api.Outer {
	o := api.Outer{V6: v6, Mode: mode, Src: src4, Dst: dst4}
	if v6 {
		o.Src, o.Dst = src6, dst6
	}
	if mode == api.ModeGUE {
		o.SPort = 0xc0de
	}
	return o
}

// outers tells one outer of each version and mode.
func outers() []api.Outer {
	var all []api.Outer
	for _, v6 := range both {
		for _, mode := range modes {
			all = append(all, outerOf(v6, mode))
		}
	}
	return all
}

// summed4 gives an IPv4 packet a right sum, and tells it.
func summed4(b []byte) []byte {
	head := b[:min(len(b), int(b[0]&15)*4)]
	b[10], b[11] = 0, 0
	s := residue(head)
	b[10], b[11] = byte(s>>8), byte(s)
	return b
}

// pack tells an IP packet byte by byte, without the packages.
func pack(o api.Outer, proto byte, payload []byte) []byte {
	n := len(payload)
	if o.V6 {
		b := []byte{0x60, 0, 0, 0, byte(n >> 8), byte(n), proto, 64}
		return append(append(append(b, o.Src[:]...), o.Dst[:]...), payload...)
	}
	n += 20
	b := []byte{0x45, 0, byte(n >> 8), byte(n), 0, 0, 0, 0, 64, proto, 0, 0}
	return append(summed4(append(append(b, o.Src[:4]...), o.Dst[:4]...)), payload...)
}

// udp tells a datagram byte by byte, without the packages, with a right sum.
func udp(o api.Outer, dport uint16, payload []byte) []byte {
	n := 8 + len(payload)
	b := []byte{byte(o.SPort >> 8), byte(o.SPort), byte(dport >> 8), byte(dport), byte(n >> 8), byte(n), 0, 0}
	b = append(b, payload...)
	s := residue(o.Src[:], o.Dst[:], []byte{0, 0, byte(n >> 8), byte(n), 0, 0, 0, 17}, b)
	if s == 0 {
		s = 65535
	}
	b[6], b[7] = byte(s>>8), byte(s)
	return b
}

// gue tells a datagram of GUE: its four bytes, and the inner packet.
func gue(o api.Outer, head [4]byte, inner []byte) []byte {
	return udp(o, 6080, append(head[:], inner...))
}

// kindOf tells an inner packet's kind, by its first byte.
func kindOf(inner []byte) byte {
	return map[byte]byte{4: 4, 6: 41}[inner[0]>>4]
}

// wrapped tells a packet wrapped, byte by byte, without the packages.
func wrapped(o api.Outer, inner []byte) []byte {
	kind := kindOf(inner)
	if o.Mode == api.ModeIPIP {
		return pack(o, kind, inner)
	}
	return pack(o, 17, gue(o, [4]byte{1: kind}, inner))
}

// wraps fails the test unless Wrap tells these bytes.
func wraps(t *testing.T, o api.Outer, inner, want []byte) {
	t.Helper()
	if b, e := Wrap(o, inner); e != api.OK || !bytes.Equal(b, want) {
		t.Fatalf("Wrap(%+v, % x) = % x, %d; want % x", o, inner, b, e, want)
	}
}

// declines fails the test unless Wrap tells this error, and nothing beside it.
func declines(t *testing.T, o api.Outer, inner []byte, want api.Errno) {
	t.Helper()
	if b, e := Wrap(o, inner); e != want || b != nil {
		t.Fatalf("Wrap(%+v, %d bytes) = % x, %d; want error %d alone", o, len(inner), b, e, want)
	}
}

// opens fails the test unless Unwrap tells this outer and inner packet.
func opens(t *testing.T, b []byte, o api.Outer, inner []byte) {
	t.Helper()
	got, in, e := Unwrap(o.V6, b)
	if e != api.OK || got != o || !bytes.Equal(in, inner) {
		t.Fatalf("Unwrap(%v, % x) = %+v, % x, %d; want %+v, % x", o.V6, b, got, in, e, o, inner)
	}
}

// refuses fails the test unless Unwrap tells this error, and nothing beside it.
func refuses(t *testing.T, v6 bool, b []byte, want api.Errno) {
	t.Helper()
	if o, in, e := Unwrap(v6, b); e != want || o != (api.Outer{}) || in != nil {
		t.Fatalf("Unwrap(%v, % x) = %+v, % x, %d; want error %d alone", v6, b, o, in, e, want)
	}
}

// P8.1: each first byte of an inner packet, be there more behind it or not, and none.
func TestKind(t *testing.T) {
	for x := range 256 {
		want := uint8(0)
		switch x / 16 {
		case 4:
			want = 4
		case 6:
			want = 41
		}
		for _, b := range [][]byte{{byte(x)}, {byte(x), 0x45}, {byte(x), 0x60, 0, 0}, append([]byte{byte(x)}, mixed(2000, 1)...)} {
			if got := Kind(b); got != want {
				t.Errorf("Kind(%x of %d) = %d", b[0], len(b), got)
			}
		}
	}
	if Kind(nil) != 0 || Kind([]byte{}) != 0 {
		t.Error("none has a kind")
	}
}

// P8.1: each mode, with each port.
func TestMayPorts(t *testing.T) {
	for _, v6 := range both {
		for mode := range 256 {
			for port := range 65536 {
				want := mode == 1 && port == 0 || mode == 2 && port >= 49152
				o := outerOf(v6, uint8(mode))
				o.SPort = uint16(port)
				if May(o) != want {
					t.Fatalf("May(%+v) = %v", o, !want)
				}
			}
		}
	}
	if May(api.Outer{}) {
		t.Error("a zero outer may be")
	}
}

// P8.1: each bit of the addresses: IPv4's have nothing behind their four bytes, IPv6's have any.
func TestMayAddresses(t *testing.T) {
	for _, mode := range modes {
		for bit := range 256 {
			for _, v6 := range both {
				o := outerOf(v6, mode)
				ends := append(append([]byte{}, o.Src[:]...), o.Dst[:]...)
				ends[bit/8] ^= 1 << (bit % 8)
				o.Src, o.Dst = [16]byte(ends[:16]), [16]byte(ends[16:])
				want := v6 || bit%128 < 32
				if May(o) != want {
					t.Errorf("May(%+v) = %v", o, !want)
				}
				if !want {
					declines(t, o, []byte{0x45}, api.ErrArg)
				}
			}
		}
		if !May(api.Outer{Mode: mode, SPort: 49152 * uint16(mode-1)}) || !May(api.Outer{V6: true, Mode: mode, SPort: 49152 * uint16(mode-1)}) {
			t.Error("addresses that are noughts may not be")
		}
	}
}

// P8.1: ports of hashes: their lowest 14 bits alone.
func TestPort(t *testing.T) {
	for low := range 1 << 14 {
		want := uint16(49152 + low)
		for _, high := range []uint64{0, 1, 2, 3, 1 << 30, 1<<50 - 1} {
			if got := Port(high<<14 | uint64(low)); got != want {
				t.Fatalf("Port(%x) = %d", high<<14|uint64(low), got)
			}
		}
	}
	for bit := range 64 {
		want := uint16(49152)
		if bit < 14 {
			want += 1 << bit
		}
		if got := Port(1 << bit); got != want {
			t.Errorf("Port(1<<%d) = %d", bit, got)
		}
	}
	if Port(1<<64-1) != 65535 {
		t.Error("the last hash's port")
	}
}

// P8.1: packets by hand.
func TestWrapByHand(t *testing.T) {
	o := outerOf(false, api.ModeIPIP)
	wraps(t, o, octets(t, "45010203"), octets(t, "45000018 00000000 4004 8ea6 c0000201 c6336407 45010203"))
	o = outerOf(false, api.ModeGUE)
	wraps(t, o, octets(t, "6009"), octets(t, "45000022 00000000 4011 8e8f c0000201 c6336407"+
		"c0de 17c0 000e dac4 00290000 6009"))
	o = outerOf(true, api.ModeIPIP)
	wraps(t, o, octets(t, "45010203"), octets(t, "60000000 0004 04 40"+
		"20010db8000000000000000000000001 20010db800ff00000000000000abcdef 45010203"))
	o = outerOf(true, api.ModeGUE)
	wraps(t, o, octets(t, "6009"), octets(t, "60000000 000e 11 40"+
		"20010db8000000000000000000000001 20010db800ff00000000000000abcdef"+
		"c0de 17c0 000e 9bf4 00290000 6009"))
}

// P8.1, P8.2: what is wrapped, byte for byte, and unwrapped.
func TestWrapUnwrap(t *testing.T) {
	for _, o := range outers() {
		for _, version := range []byte{4, 6} {
			for _, n := range sizes {
				inner := inside(version, n)
				want := wrapped(o, inner)
				wraps(t, o, inner, want)
				opens(t, want, o, inner)
			}
		}
	}
}

// P8.1: the chapter's examples.
func TestWrapExamples(t *testing.T) {
	for _, x := range []struct {
		v6   bool
		mode uint8
		more int
	}{
		{false, api.ModeIPIP, 20},
		{true, api.ModeIPIP, 40},
		{false, api.ModeGUE, 32},
		{true, api.ModeGUE, 52},
	} {
		for _, n := range sizes {
			if b, e := Wrap(outerOf(x.v6, x.mode), inside(4, n)); e != api.OK || len(b) != n+x.more {
				t.Errorf("v6 %v, mode %d: %d bytes more, %d", x.v6, x.mode, len(b)-n, e)
			}
		}
	}
}

// P8.1: each bit of the addresses, and each port, stands at its place.
func TestWrapParts(t *testing.T) {
	for _, o := range outers() {
		inner := inside(6, 9)
		for bit := range 256 {
			x := o
			if !o.V6 && bit%128 >= 32 {
				continue
			}
			ends := append(append([]byte{}, o.Src[:]...), o.Dst[:]...)
			ends[bit/8] ^= 1 << (bit % 8)
			x.Src, x.Dst = [16]byte(ends[:16]), [16]byte(ends[16:])
			wraps(t, x, inner, wrapped(x, inner))
			opens(t, wrapped(x, inner), x, inner)
		}
		if o.Mode != api.ModeGUE {
			continue
		}
		for port := 49152; port < 65536; port++ {
			o.SPort = uint16(port)
			wraps(t, o, inner, wrapped(o, inner))
			opens(t, wrapped(o, inner), o, inner)
		}
	}
}

// P8.1: a datagram whose sum would be 0 has 65535.
func TestWrapNoughtSum(t *testing.T) {
	for _, v6 := range both {
		o := outerOf(v6, api.ModeGUE)
		b := wrapped(o, []byte{0x45, 0, 0, 0})
		at := len(b) - 8 - 2
		inner := []byte{0x45, 0, b[at], b[at+1]} // what was left out makes the rest whole
		want := wrapped(o, inner)
		if want[at] != 0xff || want[at+1] != 0xff {
			t.Fatal("not such a datagram")
		}
		wraps(t, o, inner, want)
		opens(t, want, o, inner)
	}
}

// P8.1: the longest packets, and those that are longer, to beyond the layers' bounds below.
func TestWrapLengths(t *testing.T) {
	for _, o := range outers() {
		more := len(wrapped(o, []byte{0x45})) - 1
		for n := 1640 - more; n <= 1680; n++ {
			inner := inside(4, n)
			if n+more > 1646 {
				declines(t, o, inner, api.ErrLong)
				continue
			}
			wraps(t, o, inner, wrapped(o, inner))
			opens(t, wrapped(o, inner), o, inner)
		}
		for _, n := range []int{65515, 65535, 65536, 70000, 131072 + 100} {
			declines(t, o, inside(6, n), api.ErrLong)
		}
	}
}

// P8.1: an outer that may not be goes ahead of an inner packet that has no kind, and that ahead of one that is too long.
func TestWrapOrder(t *testing.T) {
	long := make([]byte, 2000)
	for _, o := range outers() {
		for _, x := range [][]byte{nil, {}, {0x50}, {0x05}, long} {
			declines(t, o, x, api.ErrForm)
		}
		for x := range 256 {
			long[0] = byte(x)
			want := api.ErrForm
			if x/16 == 4 || x/16 == 6 {
				want = api.ErrLong
			}
			declines(t, o, long, want)
		}
		for _, x := range [][]byte{nil, {0x50}, {0x45}, long, inside(4, 2000)} {
			bad := o
			bad.Mode = 3
			declines(t, bad, x, api.ErrArg)
			bad.Mode = 0
			declines(t, bad, x, api.ErrArg)
			bad.Mode = 255
			declines(t, bad, x, api.ErrArg)
			bad = o
			bad.SPort = 49151
			declines(t, bad, x, api.ErrArg)
			if !o.V6 {
				bad = o
				bad.Dst[4] = 1
				declines(t, bad, x, api.ErrArg)
			}
		}
	}
}

// P8.2: what layer 3 tells, ahead of what the protocol says.
func TestUnwrapFaults4(t *testing.T) {
	for _, proto := range []byte{4, 41, 17, 6} {
		for _, x := range []struct {
			why  string
			mend func(b []byte) []byte
			want api.Errno
		}{
			{"version 6", func(b []byte) []byte { b[0] = 0x65; return summed4(b) }, api.ErrForm},
			{"four words", func(b []byte) []byte { b[0] = 0x44; return summed4(b) }, api.ErrForm},
			{"words that are not there", func(b []byte) []byte { b[0] = 0x4f; return b }, api.ErrShort},
			{"a wrong sum", func(b []byte) []byte { b[8]--; return b }, api.ErrSum},
			{"a length below the header's", func(b []byte) []byte { b[3] = 19; return summed4(b) }, api.ErrForm},
			{"a length beyond the end", func(b []byte) []byte { b[3]++; return summed4(b) }, api.ErrShort},
			{"the reserved flag", func(b []byte) []byte { b[6] |= 0x80; return summed4(b) }, api.ErrForm},
			{"more fragments", func(b []byte) []byte { b[6] = 0x20; return summed4(b) }, api.ErrPiece},
			{"an offset", func(b []byte) []byte { b[7] = 1; return summed4(b) }, api.ErrPiece},
			{"a route", func(b []byte) []byte { b[0] = 0x46; b[20] = 0x83; b[21] = 3; return summed4(b) }, api.ErrRoute},
		} {
			b := x.mend(pack(outerOf(false, 1), proto, make([]byte, 8)))
			if o, in, e := Unwrap(false, b); e != x.want || o != (api.Outer{}) || in != nil {
				t.Errorf("%s, protocol %d: %+v, % x, %d; want %d", x.why, proto, o, in, e, x.want)
			}
		}
	}
}

// P8.2: what layer 4 tells, ahead of what the protocol says.
func TestUnwrapFaults6(t *testing.T) {
	for _, proto := range []byte{4, 41, 17, 6} {
		o := outerOf(true, 1)
		eight := make([]byte, 8)
		for _, first := range []byte{0x40, 0x50, 0x70, 0} {
			b := pack(o, proto, eight)
			b[0] = first
			refuses(t, true, b, api.ErrForm)
		}
		b := pack(o, proto, eight)
		b[5]++
		refuses(t, true, b, api.ErrShort)
		refuses(t, true, pack(o, 44, []byte{proto, 0, 0, 8, 0, 0, 0, 1}), api.ErrPiece)
		refuses(t, true, pack(o, 44, []byte{proto, 0, 0, 1, 0, 0, 0, 1}), api.ErrPiece)
		refuses(t, true, pack(o, 43, []byte{proto, 0, 0, 1, 0, 0, 0, 0}), api.ErrRoute)
		refuses(t, true, pack(o, 60, []byte{proto, 2, 0, 0, 0, 0, 0, 0}), api.ErrShort)
		refuses(t, true, pack(o, 60, []byte{0, 0, 0, 0, 0, 0, 0, 0}), api.ErrForm)
		long := bytes.Repeat([]byte{60, 0, 0, 0, 0, 0, 0, 0}, 9)
		long[64] = proto
		refuses(t, true, pack(o, 60, long), api.ErrLong)
	}
}

// P8.2: a packet that is cut anywhere is too short; with more behind it, it is the same; as one of the other version it is none.
func TestUnwrapLengths(t *testing.T) {
	for _, o := range outers() {
		for _, n := range []int{1, 5, 60} {
			inner := inside(4, n)
			whole := wrapped(o, inner)
			for cut := range whole {
				refuses(t, o.V6, whole[:cut], api.ErrShort)
			}
			for more := range 100 {
				opens(t, append(bytes.Clone(whole), make([]byte, more)...), o, inner)
				opens(t, append(bytes.Clone(whole), mixed(more, 7)...), o, inner)
			}
			if len(whole) < 40 {
				refuses(t, !o.V6, whole, api.ErrShort)
			} else {
				refuses(t, !o.V6, whole, api.ErrForm)
			}
		}
		refuses(t, o.V6, nil, api.ErrShort)
	}
}

// P8.2: packets that are longer than one that is wrapped may be are unwrapped all the same.
func TestUnwrapLong(t *testing.T) {
	for _, o := range outers() {
		for _, n := range []int{1647, 1660, 1700, 65000} {
			inner := inside(4, n)
			opens(t, wrapped(o, inner), o, inner)
		}
	}
}

// P8.2: each protocol, with an inner packet of each kind, and with none.
func TestUnwrapProtocols(t *testing.T) {
	for _, v6 := range both {
		o := outerOf(v6, api.ModeIPIP)
		for proto := range 256 {
			for _, inner := range [][]byte{inside(4, 30), inside(6, 30), inside(5, 30), inside(0, 30), {}} {
				b := pack(o, byte(proto), inner)
				switch {
				case proto == 4 || proto == 41:
					if len(inner) > 0 && kindOf(inner) == byte(proto) {
						opens(t, b, o, inner)
					} else {
						refuses(t, v6, b, api.ErrForm)
					}
				case proto == 17 && len(inner) == 0:
					refuses(t, v6, b, api.ErrShort)
				case proto == 17:
					refuses(t, v6, b, api.ErrForm)
				case v6 && (proto == 0 || proto == 43 || proto == 44 || proto == 60):
					// a chain: layer 4 tells of it
				default:
					refuses(t, v6, b, api.ErrKind)
				}
			}
		}
	}
}

// P8.2: options, and chains, ahead of the inner packet are none of it.
func TestUnwrapBehindMore(t *testing.T) {
	for _, mode := range modes {
		for _, version := range []byte{4, 6} {
			inner := inside(version, 30)
			o := outerOf(false, mode)
			whole := wrapped(o, inner)
			for words := 1; words <= 10; words++ {
				b := append(append(bytes.Clone(whole[:20]), bytes.Repeat([]byte{1}, 4*words)...), whole[20:]...)
				b[0] += byte(words)
				b[3] += byte(4 * words)
				opens(t, summed4(b), o, inner)
			}
			o = outerOf(true, mode)
			whole = wrapped(o, inner)
			for n := 1; n <= 8; n++ {
				chain := bytes.Repeat([]byte{60, 0, 1, 4, 0, 0, 0, 0}, n)
				chain[8*n-8] = whole[6]
				b := append(append(bytes.Clone(whole[:40]), chain...), whole[40:]...)
				b[5] += byte(8 * n)
				b[6] = 60
				opens(t, b, o, inner)
			}
		}
	}
}

// P8.2: what else stands in a header around is not told.
func TestUnwrapOtherParts(t *testing.T) {
	for _, mode := range modes {
		inner := inside(6, 30)
		o := outerOf(false, mode)
		b := wrapped(o, inner)
		b[1], b[4], b[5], b[6], b[8] = 0xff, 0xab, 0xcd, 0x40, 1
		opens(t, summed4(b), o, inner)
		o = outerOf(true, mode)
		b = wrapped(o, inner)
		b[0], b[1], b[2], b[3], b[7] = 0x6f, 0xff, 0xab, 0xcd, 0
		opens(t, b, o, inner)
	}
}

// P8.2: what layer 5 tells of a datagram, ahead of where it goes and of what it has within.
func TestUnwrapFaultsUDP(t *testing.T) {
	for _, v6 := range both {
		o := outerOf(v6, api.ModeGUE)
		for _, dport := range []uint16{6080, 53} {
			for _, whole := range [][]byte{udp(o, dport, nil), udp(o, dport, []byte{0, 4, 0, 0, 0x45})} {
				for n := range 8 {
					refuses(t, v6, pack(o, 17, whole[:n]), api.ErrShort)
				}
				for n := range 100 {
					if n == len(whole) {
						continue
					}
					b := bytes.Clone(whole)
					b[4], b[5] = 0, byte(n)
					refuses(t, v6, pack(o, 17, b), api.ErrForm)
				}
				for bit := range 16 {
					b := bytes.Clone(whole)
					b[6+bit/8] ^= 1 << (bit % 8)
					refuses(t, v6, pack(o, 17, b), api.ErrSum)
				}
			}
		}
		b := gue(o, [4]byte{0, 4, 0, 0}, []byte{0x45})
		b[6], b[7] = 0, 0
		if v6 {
			refuses(t, v6, pack(o, 17, b), api.ErrSum)
		} else { // of IPv4 there may be none
			opens(t, pack(o, 17, b), o, []byte{0x45})
		}
	}
}

// P8.2: each port: the destination's is one, and goes ahead of the payload; the source's is any.
func TestUnwrapPorts(t *testing.T) {
	for _, v6 := range both {
		o := outerOf(v6, api.ModeGUE)
		for port := range 65536 {
			for _, payload := range [][]byte{{0, 4, 0, 0, 0x45}, {1, 4, 0, 0, 0x45}, nil} {
				if port != 6080 {
					refuses(t, v6, pack(o, 17, udp(o, uint16(port), payload)), api.ErrKind)
				}
			}
		}
		for port := range 65536 {
			o.SPort = uint16(port)
			opens(t, wrapped(o, []byte{0x45}), o, []byte{0x45})
		}
	}
}

// P8.2: the four bytes ahead of the inner packet: how many there are, and each value of each.
func TestUnwrapHead(t *testing.T) {
	for _, v6 := range both {
		o := outerOf(v6, api.ModeGUE)
		for n := range 4 {
			for _, first := range []byte{0, 1} {
				refuses(t, v6, pack(o, 17, udp(o, 6080, []byte{first, 4, 1, 1}[:n])), api.ErrShort)
			}
		}
		for x := 1; x < 256; x++ {
			for _, at := range []int{0, 2, 3} {
				head := [4]byte{1: 4}
				head[at] = byte(x)
				refuses(t, v6, pack(o, 17, gue(o, head, []byte{0x45})), api.ErrForm)
			}
		}
		for kind := range 256 {
			head := [4]byte{1: byte(kind)}
			for first := range 256 {
				inner := []byte{byte(first), 1, 2}
				b := pack(o, 17, gue(o, head, inner))
				if kindOf(inner) == byte(kind) {
					opens(t, b, o, inner)
				} else {
					refuses(t, v6, b, api.ErrForm)
				}
			}
			if kind > 0 { // there is nothing behind
				refuses(t, v6, pack(o, 17, gue(o, head, nil)), api.ErrForm)
			}
		}
		opens(t, pack(o, 17, gue(o, [4]byte{}, nil)), o, nil)
	}
}

// P8.1, P8.2: what is handed in is not changed, and not kept; what is told has memory of its own.
func TestMemory(t *testing.T) {
	for _, o := range outers() {
		for _, version := range []byte{4, 6} {
			given := append(inside(version, 30), 9, 9, 9)
			inner, kept := given[:30], bytes.Clone(given)
			a, _ := Wrap(o, inner)
			b, _ := Wrap(o, inner)
			if !bytes.Equal(given, kept) {
				t.Fatal("what was handed in was changed")
			}
			want := wrapped(o, inner)
			clear(given)
			clear(b)
			if !bytes.Equal(a, want) {
				t.Fatal("what was wrapped hangs on what was handed in, or told besides")
			}
			x, p, _ := Unwrap(o.V6, a)
			_, q, _ := Unwrap(o.V6, a)
			if !bytes.Equal(a, want) {
				t.Fatal("what was handed in was changed")
			}
			clear(a)
			clear(q)
			if x != o || !bytes.Equal(p, kept[:30]) {
				t.Fatal("what was unwrapped hangs on what was handed in, or told besides")
			}
		}
	}
}

// P1: any bytes, and wrapped packets with any byte of them changed: an error alone, or an inner packet that is there.
func TestAny(t *testing.T) {
	check := func(v6 bool, b []byte) {
		t.Helper()
		o, in, e := Unwrap(v6, b)
		if e != api.OK && (o != (api.Outer{}) || in != nil) {
			t.Fatalf("Unwrap(%v, % x) = %+v, % x beside %d", v6, b, o, in, e)
		}
		if e == api.OK && (!bytes.Contains(b, in) || o.V6 != v6) {
			t.Fatalf("Unwrap(%v, % x) = %+v, % x", v6, b, o, in)
		}
	}
	for n := range 1700 {
		b := mixed(n, uint32(n))
		check(false, b)
		check(true, b)
		for _, o := range outers() {
			for _, proto := range []byte{4, 41, 17} {
				check(o.V6, pack(o, proto, b))
			}
			check(o.V6, pack(o, 17, udp(o, 6080, b)))
			if w, e := Wrap(o, b); e == api.OK {
				opens(t, w, o, b)
			}
		}
	}
	for _, o := range outers() {
		whole := append(wrapped(o, inside(6, 12)), 0, 0)
		for at := range whole {
			for value := range 256 {
				b := bytes.Clone(whole)
				b[at] = byte(value)
				check(o.V6, b)
				if !o.V6 {
					check(o.V6, summed4(b))
				}
			}
		}
	}
}
