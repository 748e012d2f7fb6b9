package icmp

import (
	"bytes"
	"encoding/hex"
	"strings"
	"testing"

	"weighbridge/api"
)

// Ends of IPv4 and of IPv6, that messages go between.
var (
	src4 = [16]byte{192, 0, 2, 1}
	dst4 = [16]byte{198, 51, 100, 7}
	src6 = [16]byte{0x20, 1, 0x0d, 0xb8, 15: 1}
	dst6 = [16]byte{0x20, 1, 0x0d, 0xb8, 0, 0xff, 13: 0xab, 0xcd, 0xef}
)

// Ends of packets within.
var (
	near4 = [16]byte{10, 0, 0, 9}
	far4  = [16]byte{1, 2, 3, 4}
	near6 = [16]byte{0x20, 1, 0x0d, 0xb8, 15: 0x50}
	far6  = [16]byte{0x20, 1, 0x0d, 0xb8, 14: 0xab, 0xcd}
)

// both are the two versions.
var both = []bool{false, true}

// kinds are the errors' types of a version, in order.
func kinds(v6 bool) []byte {
	if v6 {
		return []byte{1, 2, 3, 4}
	}
	return []byte{3, 4, 5, 11, 12}
}

// ends tells the addresses of a version.
func ends(v6 bool) (src, dst [16]byte) {
	if v6 {
		return src6, dst6
	}
	return src4, dst4
}

// octets tells the bytes that a text spells.
func octets(t *testing.T, text string) []byte {
	t.Helper()
	b, err := hex.DecodeString(strings.ReplaceAll(text, " ", ""))
	if err != nil {
		t.Fatal(err)
	}
	return b
}

// mixed tells n bytes that differ, the same ones each time.
func mixed(n int, seed uint32) []byte {
	b := make([]byte, n)
	for i := range b {
		seed = seed*1664525 + 1013904223
		b[i] = byte(seed >> 24)
	}
	return b
}

// total tells what the words of a message come to, of IPv6 behind its pseudo header, without the packages: the number itself.
func total(v6 bool, src, dst [16]byte, proto byte, b []byte) int {
	var head []byte
	if v6 {
		n := len(b)
		head = append(append(head, src[:]...), dst[:]...)
		head = append(head, byte(n>>24), byte(n>>16), byte(n>>8), byte(n), 0, 0, 0, proto)
	}
	t := 0
	for _, part := range [][]byte{head, b} {
		for i, x := range part {
			t += int(x) << (8 * (1 - i%2))
		}
	}
	return t
}

// summed tells a copy of b with a right sum, another way than the package: by the residue to 65535.
func summed(v6 bool, b []byte) []byte {
	src, dst := ends(v6)
	b = bytes.Clone(b)
	b[2], b[3] = 0, 0
	s := 65535 - (total(v6, src, dst, 58, b)-1)%65535 - 1
	b[2], b[3] = byte(s>>8), byte(s)
	return b
}

// message tells an error byte by byte, without the package, with a right sum.
func message(v6 bool, kind, code byte, rest [4]byte, within []byte) []byte {
	b := append([]byte{kind, code, 0, 0}, rest[:]...)
	return summed(v6, append(b, within...))
}

// ports are 80 and 5555, and four bytes more of a segment.
var ports = []byte{0, 80, 0x15, 0xb3, 0xde, 0xad, 0xbe, 0xef}

// packet4 tells an IPv4 packet of a protocol, from near4 to far4, that has these options, and tail behind them.
func packet4(proto byte, options, tail []byte) []byte {
	b := []byte{0x40 | byte(5+len(options)/4), 0, 0, 20, 0, 0, 0, 0, 64, proto, 0, 0}
	b = append(append(b, near4[:4]...), far4[:4]...)
	return append(append(b, options...), tail...)
}

// packet6 tells an IPv6 packet from near6 to far6, whose header says that it is of this next header, with tail behind it.
func packet6(next byte, tail []byte) []byte {
	b := []byte{0x60, 0, 0, 0, 0, 0, next, 64}
	b = append(append(b, near6[:]...), far6[:]...)
	return append(b, tail...)
}

// plain tells a packet of a version and protocol, as short as may be, with tail behind its header.
func plain(v6 bool, proto byte, tail []byte) []byte {
	if v6 {
		return packet6(proto, tail)
	}
	return packet4(proto, nil, tail)
}

// flow tells what plain's packets, with ports behind their header, tell of.
func flow(v6 bool, proto byte) api.Tuple {
	if v6 {
		return api.Tuple{V6: true, Proto: proto, Src: far6, Dst: near6, SPort: 5555, DPort: 80}
	}
	return api.Tuple{Proto: proto, Src: far4, Dst: near4, SPort: 5555, DPort: 80}
}

// finds fails the test unless Within tells this flow.
func finds(t *testing.T, v6 bool, b []byte, want api.Tuple) {
	t.Helper()
	if x, e := Within(v6, b); e != api.OK || x != want {
		t.Fatalf("v6 %v: Within(% x) = %v, %d; want %v", v6, b, x, e, want)
	}
}

// misses fails the test unless Within tells this error, and nothing beside it.
func misses(t *testing.T, v6 bool, b []byte, want api.Errno) {
	t.Helper()
	if x, e := Within(v6, b); e != want || x != (api.Tuple{}) {
		t.Fatalf("v6 %v: Within(% x) = %v, %d; want error %d alone", v6, b, x, e, want)
	}
}

// reads fails the test unless Read tells this report.
func reads(t *testing.T, v6 bool, b []byte, want api.Report) {
	t.Helper()
	src, dst := ends(v6)
	if r, e := Read(v6, src, dst, b); e != api.OK || r != want {
		t.Fatalf("v6 %v: Read(% x) = %v, %d; want %v", v6, b, r, e, want)
	}
}

// refuses fails the test unless Read tells this error, and nothing beside it.
func refuses(t *testing.T, v6 bool, src, dst [16]byte, b []byte, want api.Errno) {
	t.Helper()
	if r, e := Read(v6, src, dst, b); e != want || r != (api.Report{}) {
		t.Fatalf("v6 %v: Read(% x) = %v, %d; want error %d alone", v6, b, r, e, want)
	}
}

// writes fails the test unless Write tells these bytes.
func writes(t *testing.T, v6 bool, kind, code byte, rest [4]byte, within, want []byte) {
	t.Helper()
	src, dst := ends(v6)
	if b, e := Write(v6, src, dst, kind, code, rest, within); e != api.OK || !bytes.Equal(b, want) {
		t.Fatalf("v6 %v: Write(%d, %d, % x, % x) = % x, %d; want % x", v6, kind, code, rest, within, b, e, want)
	}
}

// declines fails the test unless Write tells this error, and nothing beside it.
func declines(t *testing.T, v6 bool, kind byte, within []byte, want api.Errno) {
	t.Helper()
	src, dst := ends(v6)
	if b, e := Write(v6, src, dst, kind, 0, [4]byte{}, within); e != want || b != nil {
		t.Fatalf("v6 %v: Write(%d, %d bytes) = %d bytes, %d; want error %d alone", v6, kind, len(within), len(b), e, want)
	}
}

// P6.1: each type.
func TestIsError(t *testing.T) {
	for _, v6 := range both {
		for kind := range 256 {
			want := bytes.IndexByte(kinds(v6), byte(kind)) >= 0
			if got := IsError(v6, byte(kind)); got != want {
				t.Errorf("IsError(%v, %d) = %v", v6, kind, got)
			}
		}
	}
}

// P6.1: packets by hand, of both versions, with and without what may stand between header and ports.
func TestWithinByHand(t *testing.T) {
	tail4 := api.Tuple{Proto: 17, Src: [16]byte{198, 51, 100, 7}, Dst: [16]byte{192, 0, 2, 1}, SPort: 49152, DPort: 53}
	tail6 := flow(true, 17)
	tail6.SPort, tail6.DPort = 49152, 53
	six := "20010db8000000000000000000000050 20010db800000000000000000000abcd"
	for _, x := range []struct {
		v6   bool
		b    string
		want api.Tuple
	}{
		{false, "45000034 beef4000 40060000 0a000009 01020304 0050 15b3 deadbeef", flow(false, 6)},
		{false, "45000034 beef4000 40060000 0a000009 01020304 0050 15b3", flow(false, 6)},
		{false, "46100020 00012000 0111ffff c0000201 c6336407 83040404 0035 c000 000d 0f90", tail4},
		{true, "60012345 0014 06 3f" + six + "0050 15b3 deadbeef", flow(true, 6)},
		{true, "60012345 0014 06 3f" + six + "0050 15b3", flow(true, 6)},
		{true, "6fffffff 0000 00 00" + six + "3c00000000000000 2c00010400000000 1100000612345678 0035 c000 00", tail6},
		{true, "60000000 0000 2b ff" + six + "1101ff00 00000000 0000000000000000 0035 c000", tail6},
	} {
		finds(t, x.v6, octets(t, x.b), x.want)
	}
}

// P6.1: the chapter's example.
func TestWithinExample(t *testing.T) {
	want := api.Tuple{Proto: api.ProtoTCP, Src: [16]byte{1, 2, 3, 4}, Dst: [16]byte{10, 0, 0, 9}, SPort: 5555, DPort: 80}
	finds(t, false, packet4(6, nil, ports), want)
}

// P6.1: each bit of the addresses and of the ports is told at its place, the ends exchanged.
func TestWithinParts(t *testing.T) {
	for _, v6 := range both {
		size, from := 4, 12
		if v6 {
			size, from = 16, 8
		}
		for _, number := range []byte{0, 0xff, 0x5a} {
			base := plain(v6, 17, make([]byte, 4))
			for i := from; i < len(base); i++ {
				base[i] = number
			}
			for bit := range 8 * (2*size + 4) {
				b := bytes.Clone(base)
				b[from+bit/8] ^= 1 << (bit % 8)
				want := api.Tuple{V6: v6, Proto: 17}
				copy(want.Dst[:], b[from:from+size])
				copy(want.Src[:], b[from+size:from+2*size])
				p := b[from+2*size:]
				want.DPort, want.SPort = uint16(p[0])<<8|uint16(p[1]), uint16(p[2])<<8|uint16(p[3])
				finds(t, v6, b, want)
			}
		}
	}
}

// P6.1: each first byte with each number of bytes about a header: what goes ahead of what, with a fragment's offset and without.
func TestWithinOrder4(t *testing.T) {
	for first := range 256 {
		head := 4 * (first & 15)
		for n := range 80 {
			for _, piece := range []byte{0, 1} {
				b := append(packet4(17, nil, ports), mixed(60, uint32(n))...)[:n]
				if n > 7 {
					b[0], b[7] = byte(first), piece
				}
				switch {
				case n < 20:
					misses(t, false, b, api.ErrShort)
				case first>>4 != 4 || head < 20:
					misses(t, false, b, api.ErrForm)
				case n < head:
					misses(t, false, b, api.ErrShort)
				case piece > 0:
					misses(t, false, b, api.ErrPiece)
				case n < head+4:
					misses(t, false, b, api.ErrShort)
				default:
					p := b[head:]
					want := flow(false, 17)
					want.DPort, want.SPort = uint16(p[0])<<8|uint16(p[1]), uint16(p[2])<<8|uint16(p[3])
					finds(t, false, b, want)
				}
			}
		}
	}
	misses(t, false, nil, api.ErrShort)
}

// P6.1: each first byte with each number of bytes about a header.
func TestWithinOrder6(t *testing.T) {
	for first := range 256 {
		for n := range 60 {
			b := append(packet6(6, ports), make([]byte, 60)...)[:n]
			if n > 0 {
				b[0] = byte(first)
			}
			switch {
			case n < 40:
				misses(t, true, b, api.ErrShort)
			case first>>4 != 6:
				misses(t, true, b, api.ErrForm)
			case n < 44:
				misses(t, true, b, api.ErrShort)
			default:
				finds(t, true, b, flow(true, 6))
			}
		}
	}
	misses(t, true, nil, api.ErrShort)
	bad := packet6(44, []byte{6, 0, 0, 8, 0, 0, 0, 0})
	bad[0] = 0x45
	misses(t, true, bad, api.ErrForm) // and not what the chain tells
}

// P6.1: a packet of the other version is none, whole as it is.
func TestWithinOther(t *testing.T) {
	misses(t, true, packet4(6, nil, ports), api.ErrShort)
	misses(t, true, packet4(6, nil, append(ports, make([]byte, 60)...)), api.ErrForm)
	misses(t, false, packet6(6, ports), api.ErrForm)
}

// P6.1: each word of flags: an offset makes it a piece that has no ports; more behind it does not, nor what else stands there.
func TestWithinPiece4(t *testing.T) {
	for flags := range 65536 {
		b := packet4(6, nil, ports)
		b[6], b[7] = byte(flags>>8), byte(flags)
		if flags&0x1fff != 0 {
			misses(t, false, b, api.ErrPiece)
			continue
		}
		finds(t, false, b, flow(false, 6))
	}
	late := packet4(1, nil, nil)
	late[7] = 1
	misses(t, false, late, api.ErrPiece) // and neither ErrKind nor ErrShort
}

// P6.1: each protocol; of one that is neither TCP nor UDP the ports are not asked for.
func TestWithinKind(t *testing.T) {
	for _, v6 := range both {
		for proto := range 256 {
			p := byte(proto)
			for _, tail := range [][]byte{ports, ports[:4], ports[:3], nil} {
				b := plain(v6, p, tail)
				switch {
				case v6 && (p == 0 || p == 43 || p == 44 || p == 60): // no protocols, but the chain's own
					if len(tail) < 8 {
						misses(t, v6, b, api.ErrShort)
					}
				case p != 6 && p != 17:
					misses(t, v6, b, api.ErrKind)
				case len(tail) < 4:
					misses(t, v6, b, api.ErrShort)
				default:
					finds(t, v6, b, flow(v6, p))
				}
			}
		}
	}
}

// P6.1: lengths, sums, options and all else of a header that is no part of the flow are not looked at.
func TestWithinLeftAside(t *testing.T) {
	for _, at := range []int{1, 2, 3, 4, 5, 8, 10, 11} {
		for x := range 256 {
			b := packet4(6, nil, ports)
			b[at] = byte(x)
			finds(t, false, b, flow(false, 6))
		}
	}
	for _, at := range []int{1, 2, 3, 4, 5, 7} {
		for x := range 256 {
			b := packet6(6, ports)
			b[at] = byte(x)
			finds(t, true, b, flow(true, 6))
		}
	}
	for x := range 16 {
		b := packet6(6, ports)
		b[0] = 0x60 | byte(x)
		finds(t, true, b, flow(true, 6))
	}
	for words := range 11 {
		for _, fill := range []byte{0, 1, 2, 131, 137, 255} { // routes, and such as are of no form
			options := bytes.Repeat([]byte{fill}, 4*words)
			finds(t, false, packet4(17, options, ports), flow(false, 17))
			finds(t, false, packet4(17, options, ports[:4]), flow(false, 17))
			misses(t, false, packet4(17, options, ports[:3]), api.ErrShort)
		}
	}
}

// P6.1: what the chain of an IPv6 packet tells is told.
func TestWithinChain(t *testing.T) {
	options := func(next byte) []byte { return []byte{next, 0, 0, 0, 0, 0, 0, 0} }
	chain := func(next byte, parts ...[]byte) []byte { return packet6(next, bytes.Join(parts, nil)) }
	many := func(n int, last byte) []byte {
		return append(bytes.Repeat(options(60), n-1), options(last)...)
	}
	for n := 1; n <= 8; n++ {
		finds(t, true, chain(60, many(n, 17), ports), flow(true, 17))
		misses(t, true, chain(60, many(n, 17), ports[:3]), api.ErrShort)
		misses(t, true, chain(60, many(n, 17)[:8*n-1]), api.ErrShort)
		if n < 8 {
			misses(t, true, chain(60, many(n, 0), options(17), ports), api.ErrForm)
			misses(t, true, chain(60, many(n, 0)), api.ErrForm)
		}
	}
	misses(t, true, chain(60, many(8, 0), options(17), ports), api.ErrLong) // and not ErrForm
	for _, n := range []int{9, 10, 40} {
		misses(t, true, chain(60, many(n, 17), ports), api.ErrLong)
	}
	finds(t, true, chain(0, options(60), options(6), ports), flow(true, 6))
	finds(t, true, chain(43, []byte{6, 0, 9, 0, 1, 2, 3, 4}, ports), flow(true, 6))
	misses(t, true, chain(43, []byte{6, 0, 9, 1, 1, 2, 3, 4}, ports), api.ErrRoute)
	misses(t, true, chain(43, []byte{1, 0, 9, 1, 1, 2, 3, 4}), api.ErrRoute) // and neither ErrKind nor ErrShort
	misses(t, true, chain(60, options(1), ports), api.ErrKind)
	misses(t, true, chain(60, options(58), nil), api.ErrKind)
	misses(t, true, chain(60, []byte{6, 1, 0, 0, 0, 0, 0, 0}, ports[:7]), api.ErrShort)
	misses(t, true, chain(60, []byte{6, 1, 0, 0, 0, 0, 0, 0}, ports), api.ErrShort) // the ports are an option's
	finds(t, true, chain(60, []byte{6, 1, 0, 0, 0, 0, 0, 0}, make([]byte, 8), ports), flow(true, 6))
	for low := range 65536 {
		b := chain(44, []byte{6, 0xff, byte(low >> 8), byte(low), 1, 2, 3, 4}, ports)
		if low&0xfff9 != 0 { // of IPv6 the first piece, too: the chain says so
			misses(t, true, b, api.ErrPiece)
			continue
		}
		finds(t, true, b, flow(true, 6))
	}
	misses(t, true, chain(44, []byte{1, 0, 0, 1, 1, 2, 3, 4}), api.ErrPiece)
}

// P6.1: the chain, and the ports, are sought in all that is there, whatever the payload's length says.
func TestWithinAllThatIsThere(t *testing.T) {
	for _, length := range []int{0, 1, 7, 8, 11, 12, 13, 65535} {
		b := packet6(60, append([]byte{17, 0, 0, 0, 0, 0, 0, 0}, ports...))
		b[4], b[5] = byte(length>>8), byte(length)
		finds(t, true, b, flow(true, 17))
		b = packet4(17, []byte{1, 1, 1, 1}, ports)
		b[2], b[3] = byte(length>>8), byte(length)
		finds(t, false, b, flow(false, 17))
	}
}

// P6.2: messages by hand, of both versions, with sums that were worked out elsewhere.
func TestByHand(t *testing.T) {
	six := "20010db8000000000000000000000050 20010db800000000000000000000abcd"
	tail4 := api.Tuple{Proto: 17, Src: dst4, Dst: src4, SPort: 49152, DPort: 53}
	tail6 := flow(true, 17)
	tail6.SPort, tail6.DPort = 49152, 53
	for _, x := range []struct {
		v6     bool
		ahead  string
		within string
		flow   api.Tuple
	}{
		{false, "03 01 b148 000005dc", "45000034 beef4000 40060000 0a000009 01020304 0050 15b3 deadbeef", flow(false, 6)},
		{false, "0b 00 4aa5 00000000", "46100020 00012000 0111ffff c0000201 c6336407 83040404 0035 c000 000d 0f90", tail4},
		{true, "02 00 88b6 00000500", "60012345 0014 06 3f" + six + "0050 15b3 deadbeef", flow(true, 6)},
		{true, "01 04 b8eb 00000000", "6fffffff 0000 00 00" + six + "3c00000000000000 2c00010400000000 1100000612345678 0035 c000 00", tail6},
	} {
		within, b := octets(t, x.within), octets(t, x.ahead+x.within)
		reads(t, x.v6, b, api.Report{Type: b[0], Code: b[1], Flow: x.flow})
		writes(t, x.v6, b[0], b[1], [4]byte(b[4:8]), within, b)
	}
}

// P6.2: each type and each code is read, if it is an error's, and written; each other one is of another kind.
func TestKinds(t *testing.T) {
	for _, v6 := range both {
		src, dst := ends(v6)
		within := plain(v6, 6, ports)
		for kind := range 256 {
			k := byte(kind)
			if bytes.IndexByte(kinds(v6), k) < 0 {
				refuses(t, v6, src, dst, message(v6, k, 0, [4]byte{}, within), api.ErrKind)
				declines(t, v6, k, within, api.ErrKind)
				continue
			}
			for code := range 256 {
				b := message(v6, k, byte(code), [4]byte{1, 2, 3, 4}, within)
				reads(t, v6, b, api.Report{Type: k, Code: byte(code), Flow: flow(v6, 6)})
				writes(t, v6, k, byte(code), [4]byte{1, 2, 3, 4}, within, b)
			}
		}
	}
}

// P6.2: the four bytes ahead of the packet within are no part of what is told, and are written as they are.
func TestRest(t *testing.T) {
	for _, v6 := range both {
		within := plain(v6, 17, ports)
		for bit := range 32 {
			for _, fill := range []byte{0, 0xff} {
				rest := [4]byte{fill, fill, fill, fill}
				rest[bit/8] ^= 1 << (bit % 8)
				b := message(v6, 3, 0, rest, within)
				reads(t, v6, b, api.Report{Type: 3, Flow: flow(v6, 17)})
				writes(t, v6, 3, 0, rest, within, b)
			}
		}
	}
}

// P6.2: which error goes ahead: too few bytes, a wrong sum, another kind, and then what the packet within tells.
func TestReadOrder(t *testing.T) {
	for _, v6 := range both {
		src, dst := ends(v6)
		for n := range 8 { // whatever the type and the sum
			for _, b := range [][]byte{make([]byte, n), bytes.Repeat([]byte{0xff}, n), message(v6, 3, 0, [4]byte{}, nil)[:n]} {
				refuses(t, v6, src, dst, b, api.ErrShort)
			}
		}
		refuses(t, v6, src, dst, nil, api.ErrShort)
		for _, kind := range []byte{3, 128, 8} {
			b := message(v6, kind, 0, [4]byte{}, nil)
			b[3] ^= 1
			refuses(t, v6, src, dst, b, api.ErrSum)
		}
		refuses(t, v6, src, dst, message(v6, 128, 0, [4]byte{}, nil), api.ErrKind)
		refuses(t, v6, src, dst, message(v6, 3, 0, [4]byte{}, nil), api.ErrShort)
		for n := range len(plain(v6, 6, ports[:4])) {
			refuses(t, v6, src, dst, message(v6, 4, 0, [4]byte{}, plain(v6, 6, ports)[:n]), api.ErrShort)
		}
	}
}

// P6.2: each error that the packet within may tell is told, and no report.
func TestReadWithin(t *testing.T) {
	piece := packet4(6, nil, ports)
	piece[6] = 0x10
	for _, x := range []struct {
		v6     bool
		within []byte
		want   api.Errno
	}{
		{false, packet4(6, nil, nil)[:19], api.ErrShort},
		{false, packet6(6, ports), api.ErrForm},
		{false, piece, api.ErrPiece},
		{false, packet4(1, nil, ports), api.ErrKind},
		{false, packet4(17, nil, ports[:3]), api.ErrShort},
		{true, packet6(6, nil)[:39], api.ErrShort},
		{true, packet4(6, nil, make([]byte, 40)), api.ErrForm},
		{true, packet6(60, append(bytes.Repeat([]byte{60, 0, 0, 0, 0, 0, 0, 0}, 9), ports...)), api.ErrLong},
		{true, packet6(43, append([]byte{6, 0, 0, 1, 0, 0, 0, 0}, ports...)), api.ErrRoute},
		{true, packet6(44, append([]byte{6, 0, 0, 1, 0, 0, 0, 0}, ports...)), api.ErrPiece},
		{true, packet6(58, ports), api.ErrKind},
		{true, packet6(6, ports[:3]), api.ErrShort},
	} {
		src, dst := ends(x.v6)
		for _, kind := range kinds(x.v6) {
			refuses(t, x.v6, src, dst, message(x.v6, kind, 0, [4]byte{}, x.within), x.want)
		}
		misses(t, x.v6, x.within, x.want)
	}
}

// P6.2: the sum hangs on each bit of the message, at odd and even lengths.
func TestReadSum(t *testing.T) {
	for _, v6 := range both {
		src, dst := ends(v6)
		for n := 4; n <= 8; n++ {
			b := message(v6, 3, 1, [4]byte{9, 8, 7, 6}, plain(v6, 6, ports[:n]))
			reads(t, v6, b, api.Report{Type: 3, Code: 1, Flow: flow(v6, 6)})
			for bit := range 8 * len(b) {
				bad := bytes.Clone(b)
				bad[bit/8] ^= 1 << (bit % 8)
				refuses(t, v6, src, dst, bad, api.ErrSum)
			}
		}
	}
}

// changed tells copies of an array, each with one byte that is another one.
func changed(a [16]byte) [][16]byte {
	var all [][16]byte
	for i := range a {
		b := a
		b[i] ^= 0x10
		all = append(all, b)
	}
	return all
}

// P6.2: in IPv6 the sum hangs on the addresses, the protocol and how many bytes there are; in IPv4 on the message alone.
func TestReadPseudo(t *testing.T) {
	four, six := message(false, 3, 0, [4]byte{}, packet4(6, nil, ports)), message(true, 3, 0, [4]byte{}, packet6(6, ports))
	for i := range 16 {
		refuses(t, true, changed(src6)[i], dst6, six, api.ErrSum)
		refuses(t, true, src6, changed(dst6)[i], six, api.ErrSum)
		want := api.Report{Type: 3, Flow: flow(false, 6)}
		if r, e := Read(false, changed(src4)[i], changed(dst4)[i], four); e != api.OK || r != want {
			t.Fatalf("IPv4's sum hangs on the addresses' byte %d: %v, %d", i, r, e)
		}
		if b, e := Write(false, changed(src4)[i], changed(dst4)[i], 3, 0, [4]byte{}, packet4(6, nil, ports)); e != api.OK || !bytes.Equal(b, four) {
			t.Fatalf("IPv4's sum is written by the addresses' byte %d: % x, %d", i, b, e)
		}
	}
	refuses(t, true, src6, dst6, append(bytes.Clone(six), 0, 0), api.ErrSum)
	reads(t, false, append(bytes.Clone(four), 0, 0), api.Report{Type: 3, Flow: flow(false, 6)})
	refuses(t, false, src4, dst4, six, api.ErrSum)
	refuses(t, true, src6, dst6, four, api.ErrSum)
	for _, proto := range []byte{0, 1, 6, 17, 57, 59} {
		b := bytes.Clone(six)
		b[2], b[3] = 0, 0
		s := 65535 - total(true, src6, dst6, proto, b)%65535
		b[2], b[3] = byte(s>>8), byte(s)
		refuses(t, true, src6, dst6, b, api.ErrSum)
	}
}

// P6.2: a sum of 0000 and one of FFFF are both right where one is, and no other one; it is 0000 that is written.
func TestTwoSums(t *testing.T) {
	for _, v6 := range both {
		src, dst := ends(v6)
		within := plain(v6, 6, ports)
		for _, other := range []bool{false, true} {
			rest := [4]byte{}
			b := message(v6, 3, 0, rest, within)
			rest[2], rest[3] = b[2], b[3] // so that the words come to 65535 without the sum
			b = append([]byte{3, 0, 0, 0}, rest[:]...)
			b = append(b, within...)
			writes(t, v6, 3, 0, rest, within, b)
			if other {
				b[2], b[3] = 0xff, 0xff
			}
			reads(t, v6, b, api.Report{Type: 3, Flow: flow(v6, 6)})
		}
		zero := message(v6, 3, 0, [4]byte{}, within)
		zero[2], zero[3] = 0, 0 // a sum of 0 is no sum that is not there
		refuses(t, v6, src, dst, zero, api.ErrSum)
		refuses(t, v6, src, dst, make([]byte, 8), api.ErrSum)
	}
}

// P6.2: messages of each length up to as many bytes as may be, and of more; what is within is not looked at.
func TestWriteLong(t *testing.T) {
	for _, v6 := range both {
		for n := range 1653 {
			within := mixed(n, uint32(n))
			writes(t, v6, 3, 5, [4]byte{1, 2, 3, 4}, within, message(v6, 3, 5, [4]byte{1, 2, 3, 4}, within))
		}
		writes(t, v6, 3, 0, [4]byte{}, nil, message(v6, 3, 0, [4]byte{}, nil))
		for _, n := range []int{1653, 1654, 1660, 1661, 65527, 65528, 65536, 65536 + 100, 200000} {
			declines(t, v6, 3, make([]byte, n), api.ErrLong)
			declines(t, v6, 128, make([]byte, n), api.ErrKind) // and not ErrLong
		}
	}
}

// P6.2: reading has no bound but the bytes themselves, above 16 bits of length, too.
func TestReadLong(t *testing.T) {
	for _, v6 := range both {
		for _, n := range []int{1600, 1653, 65535, 65536, 65537, 131072} {
			b := message(v6, 3, 0, [4]byte{}, plain(v6, 6, append(bytes.Clone(ports), mixed(n, uint32(n))...)))
			reads(t, v6, b, api.Report{Type: 3, Flow: flow(v6, 6)})
		}
	}
}

// What is written of any flow's packet tells of the flow the other way round, be there but 8 bytes of its segment.
func TestBack(t *testing.T) {
	for seed := range uint32(3000) {
		x := mixed(12, seed)
		v6 := x[0]&1 == 1
		src, dst := [16]byte(mixed(16, seed+1)), [16]byte(mixed(16, seed+2))
		proto := []byte{6, 17}[x[1]&1]
		want := api.Tuple{V6: v6, Proto: proto, SPort: uint16(x[2])<<8 | uint16(x[3]), DPort: uint16(x[4])<<8 | uint16(x[5])}
		within := plain(v6, proto, append([]byte{x[4], x[5], x[2], x[3]}, x[6:10]...))
		ends := mixed(32, seed+3)
		if v6 {
			copy(within[8:40], ends)
			want.Dst, want.Src = [16]byte(ends), [16]byte(ends[16:])
		} else {
			copy(within[12:20], ends)
			copy(want.Dst[:4], ends)
			copy(want.Src[:4], ends[4:])
		}
		all := kinds(v6)
		kind := all[int(x[10])%len(all)]
		b, e := Write(v6, src, dst, kind, x[11], [4]byte(x[4:8]), within)
		if e != api.OK || total(v6, src, dst, 58, b)%65535 != 0 {
			t.Fatalf("Write: %d, or a sum that is not right: % x", e, b)
		}
		if r, e := Read(v6, src, dst, b); e != api.OK || r != (api.Report{Type: kind, Code: x[11], Flow: want}) {
			t.Fatalf("% x is read as %v, %d; want %v", b, r, e, want)
		}
	}
}

// P1: whatever the bytes are, each call ends without a panic, and tells nothing beside an error.
func TestAnyBytes(t *testing.T) {
	for seed := range uint32(40000) {
		b := mixed(int(seed%97), seed)
		v6 := seed%2 == 1
		if len(b) > 0 {
			b[0] = []byte{b[0], 0x45, 0x60, 0x4f}[seed%4]
		}
		if len(b) > 48 {
			b[6], b[40], b[41] = []byte{0, 43, 44, 60}[b[6]%4], []byte{b[40], 6, 60, 17}[b[40]%4], b[41]%8
		}
		if x, e := Within(v6, b); e != api.OK && x != (api.Tuple{}) {
			t.Fatalf("Within(% x) = %v, %d", b, x, e)
		}
		m := message(v6, kinds(v6)[seed%4], b0(b), [4]byte{}, b)
		src, dst := ends(v6)
		x, e := Within(v6, b)
		r, f := Read(v6, src, dst, m)
		if e != f || e == api.OK && r.Flow != x || e != api.OK && r != (api.Report{}) {
			t.Fatalf("Read(% x) = %v, %d; Within tells %v, %d", m, r, f, x, e)
		}
	}
}

// b0 tells the first byte, or 0 of none.
func b0(b []byte) byte {
	if len(b) == 0 {
		return 0
	}
	return b[0]
}

// spare tells a copy of b in memory that goes on behind it, so that one that appends to b is found out.
func spare(b []byte) []byte {
	whole := append(bytes.Clone(b), bytes.Repeat([]byte{0x77}, 64)...)
	return whole[:len(b)]
}

// intact fails the test unless the bytes of b, and those behind it, are as spare laid them.
func intact(t *testing.T, name string, b, was []byte) {
	t.Helper()
	if !bytes.Equal(b, was) || !bytes.Equal(b[:len(b)+64][len(b):], bytes.Repeat([]byte{0x77}, 64)) {
		t.Errorf("%s was changed: % x", name, b[:len(b)+64])
	}
}

// What is handed in is not changed, and what is written shares no memory with it, nor is it kept.
func TestMemory(t *testing.T) {
	for _, v6 := range both {
		src, dst := ends(v6)
		for _, within := range [][]byte{plain(v6, 6, ports), plain(v6, 17, ports[:5]), plain(v6, 1, nil), {}} {
			in := spare(within)
			Within(v6, in)
			intact(t, "what is looked into", in, within)
			want := message(v6, 3, 1, [4]byte{5, 6, 7, 8}, within)
			b, _ := Write(v6, src, dst, 3, 1, [4]byte{5, 6, 7, 8}, in)
			intact(t, "what is written", in, within)
			clear(in[:cap(in)])
			if !bytes.Equal(b, want) {
				t.Errorf("what is told hangs on what was written: % x", b)
			}
			clear(b[:cap(b)])
			writes(t, v6, 3, 1, [4]byte{5, 6, 7, 8}, within, want)
			for _, m := range [][]byte{want, message(v6, 128, 0, [4]byte{}, within)} {
				in = spare(m)
				Read(v6, src, dst, in)
				intact(t, "what is read", in, m)
			}
		}
	}
}
