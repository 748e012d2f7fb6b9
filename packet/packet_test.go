package packet

import (
	"bytes"
	"encoding/hex"
	"reflect"
	"strings"
	"testing"

	"weighbridge/api"
)

// Ends of IPv4 and of IPv6, that packets go between, and one that is neither.
var (
	src4   = [16]byte{192, 0, 2, 1}
	dst4   = [16]byte{198, 51, 100, 7}
	other4 = [16]byte{7, 7, 7, 7}
	src6   = [16]byte{0x20, 1, 0x0d, 0xb8, 15: 1}
	dst6   = [16]byte{0x20, 1, 0x0d, 0xb8, 0, 0xff, 13: 0xab, 0xcd, 0xef}
	other6 = [16]byte{0xfd, 15: 7}
)

// ahead is what stands ahead in the tests' frames, but for the type.
var ahead = api.Ether{Dst: [6]byte{2, 0, 0, 0, 0, 0xab}, Src: [6]byte{6, 5, 4, 3, 2, 1}}

// both are the two versions.
var both = []bool{false, true}

// ends tells the addresses of a version.
func ends(v6 bool) (src, dst, other [16]byte) {
	if v6 {
		return src6, dst6, other6
	}
	return src4, dst4, other4
}

// icmpOf tells the protocol that is ICMP in a version.
func icmpOf(v6 bool) byte {
	if v6 {
		return 58
	}
	return 1
}

// etherOf tells what stands ahead in the tests' frames of a version.
func etherOf(v6 bool) api.Ether {
	e := ahead
	e.Type = 0x0800
	if v6 {
		e.Type = 0x86dd
	}
	return e
}

// octets tells the bytes that a text spells.
func octets(t *testing.T, text string) []byte {
	t.Helper()
	b, err := hex.DecodeString(strings.ReplaceAll(text, " ", ""))
	if err != nil {
		t.Fatal(err)
	}
	return b
}

// mixed tells n bytes that differ, the same ones each time.
func mixed(n int, seed uint32) []byte {
	b := make([]byte, n)
	for i := range b {
		seed = seed*1664525 + 1013904223
		b[i] = byte(seed >> 24)
	}
	return b
}

// residue tells the right sum of parts, each of whole words but the last one, without the packages: by the residue to 65535.
func residue(parts ...[]byte) (high, low byte) {
	t := 0
	for _, b := range parts {
		for i, x := range b {
			t += int(x) << (8 * (1 - i%2))
		}
	}
	s := 65535 - (t-1)%65535 - 1
	return byte(s >> 8), byte(s)
}

// pseudo tells the pseudo header of n bytes of a protocol.
func pseudo(v6 bool, src, dst [16]byte, proto byte, n int) []byte {
	if v6 {
		b := append(append([]byte{}, src[:]...), dst[:]...)
		return append(b, byte(n>>24), byte(n>>16), byte(n>>8), byte(n), 0, 0, 0, proto)
	}
	b := append(append([]byte{}, src[:4]...), dst[:4]...)
	return append(b, 0, proto, byte(n>>8), byte(n))
}

// tcp tells a segment with these flags and options, and a right sum.
func tcp(v6 bool, src, dst [16]byte, sport, dport uint16, flags byte, options, body []byte) []byte {
	b := []byte{byte(sport >> 8), byte(sport), byte(dport >> 8), byte(dport), 0xde, 0xad, 0xbe, 0xef, 0xca, 0xfe, 0xba, 0xbe}
	b = append(b, byte(5+len(options)/4)<<4, flags, 0x7f, 0xff, 0, 0, 0x12, 0x34)
	b = append(append(b, options...), body...)
	b[16], b[17] = residue(pseudo(v6, src, dst, 6, len(b)), b)
	return b
}

// udp tells a datagram with a right sum.
func udp(v6 bool, src, dst [16]byte, sport, dport uint16, body []byte) []byte {
	n := 8 + len(body)
	b := append([]byte{byte(sport >> 8), byte(sport), byte(dport >> 8), byte(dport), byte(n >> 8), byte(n), 0, 0}, body...)
	b[6], b[7] = residue(pseudo(v6, src, dst, 17, n), b)
	return b
}

// message tells an ICMP message with these bytes behind its eight, and a right sum.
func message(v6 bool, src, dst [16]byte, kind, code byte, within []byte) []byte {
	b := append([]byte{kind, code, 0, 0, 0, 0, 5, 0}, within...)
	if v6 {
		b[2], b[3] = residue(pseudo(true, src, dst, 58, len(b)), b)
	} else {
		b[2], b[3] = residue(b)
	}
	return b
}

// pack4 tells an IPv4 packet.
func pack4(proto byte, src, dst [16]byte, options, body []byte) []byte {
	n := 20 + len(options) + len(body)
	b := []byte{0x45 + byte(len(options)/4), 0x10, byte(n >> 8), byte(n), 0xbe, 0xef, 0x40, 0, 63, proto, 0, 0}
	b = append(append(b, src[:4]...), dst[:4]...)
	b = append(b, options...)
	b[10], b[11] = residue(b)
	return append(b, body...)
}

// pack6 tells an IPv6 packet whose first next header is next, with the chain ahead of its body.
func pack6(next byte, src, dst [16]byte, chain, body []byte) []byte {
	n := len(chain) + len(body)
	b := []byte{0x6a, 0xb1, 0x23, 0x45, byte(n >> 8), byte(n), next, 63}
	b = append(append(b, src[:]...), dst[:]...)
	return append(append(b, chain...), body...)
}

// pack tells an IP packet of a version, without options or chain.
func pack(v6 bool, proto byte, src, dst [16]byte, body []byte) []byte {
	if v6 {
		return pack6(proto, src, dst, nil, body)
	}
	return pack4(proto, src, dst, nil, body)
}

// summed tells an IPv4 packet with its header's sum made anew.
func summed(b []byte) []byte {
	head := b[:min(len(b), 4*int(b[0]&15))]
	b[10], b[11] = 0, 0
	b[10], b[11] = residue(head)
	return b
}

// frame tells a frame with this type and payload.
func frame(kind uint16, payload []byte) []byte {
	b := append(append([]byte{}, ahead.Dst[:]...), ahead.Src[:]...)
	b = append(b, byte(kind>>8), byte(kind))
	return append(b, payload...)
}

// around tells the frame that has an IP packet of a version as payload.
func around(v6 bool, inner []byte) []byte { return frame(etherOf(v6).Type, inner) }

// sample is a packet that may be, and what is told of it.
type sample struct {
	v6    bool
	inner []byte
	want  api.Packet
}

// expect tells the sample of an inner packet.
func expect(v6 bool, inner []byte, flow api.Tuple, flags uint8, report bool) sample {
	return sample{v6, inner, api.Packet{Ether: etherOf(v6), Flow: flow, Flags: flags, Report: report, Inner: inner}}
}

// samples tells a packet of each kind, of both versions.
func samples() []sample {
	var all []sample
	for _, v6 := range both {
		src, dst, other := ends(v6)
		to := func(proto byte) api.Tuple {
			return api.Tuple{V6: v6, Proto: proto, Src: src, Dst: dst, SPort: 5555, DPort: 80}
		}
		all = append(all, expect(v6, pack(v6, 6, src, dst, tcp(v6, src, dst, 5555, 80, 0x18, []byte{2, 4, 5, 0xb4}, []byte("hello"))), to(6), 0x18, false))
		all = append(all, expect(v6, pack(v6, 17, src, dst, udp(v6, src, dst, 5555, 80, []byte("query"))), to(17), 0, false))
		for _, proto := range []byte{6, 17} {
			within := pack(v6, proto, dst, src, []byte{0, 80, 0x15, 0xb3, 1, 2, 3, 4})
			m := message(v6, other, dst, 3, 1, within)
			all = append(all, expect(v6, pack(v6, icmpOf(v6), other, dst, m), to(proto), 0, true))
		}
	}
	return all
}

// reads fails the test unless Read tells this packet.
func reads(t *testing.T, b []byte, want api.Packet) {
	t.Helper()
	if p, e := Read(b); e != api.OK || !reflect.DeepEqual(p, want) {
		t.Fatalf("Read(% x) = %+v, %d; want %+v", b, p, e, want)
	}
}

// refuses fails the test unless Read tells this error, and nothing beside it.
func refuses(t *testing.T, b []byte, want api.Errno) {
	t.Helper()
	if p, e := Read(b); e != want || !reflect.DeepEqual(p, api.Packet{}) {
		t.Fatalf("Read(% x) = %+v, %d; want error %d alone", b, p, e, want)
	}
}

// P7.1: frames by hand.
func TestReadByHand(t *testing.T) {
	syn := octets(t, "0200000000ab 060504030201 0800"+
		"45000028 12344000 4006 3c60 c0000201 c6336407"+
		"15b30050 00000001 00000000 5002 ffff ada2 0000")
	reads(t, syn, api.Packet{
		Ether: etherOf(false),
		Flow:  api.Tuple{Proto: 6, Src: src4, Dst: dst4, SPort: 5555, DPort: 80},
		Flags: 2,
		Inner: syn[14:],
	})
	query := octets(t, "0200000000ab 060504030201 86dd"+
		"60000000 000a 11 40"+
		"20010db8000000000000000000000001 20010db800ff00000000000000abcdef"+
		"c0000035 000a ac2e 6869")
	reads(t, query, api.Packet{
		Ether: etherOf(true),
		Flow:  api.Tuple{V6: true, Proto: 17, Src: src6, Dst: dst6, SPort: 49152, DPort: 53},
		Inner: query[14:],
	})
}

// P7.1: packets of each kind.
func TestReadKinds(t *testing.T) {
	for _, x := range samples() {
		reads(t, around(x.v6, x.inner), x.want)
	}
}

// P7.1: the chapter's first example, and each other type; of a frame that is not ours no packet is looked at.
func TestReadTypes(t *testing.T) {
	for _, x := range samples() {
		refuses(t, frame(0x0806, x.inner), api.ErrKind)
	}
	x := samples()[0]
	for kind := range 65536 {
		switch kind {
		case 0x0800:
			reads(t, frame(0x0800, x.inner), x.want)
		case 0x86dd:
			refuses(t, frame(0x86dd, x.inner), api.ErrForm)
		default:
			refuses(t, frame(uint16(kind), x.inner), api.ErrKind)
		}
	}
	refuses(t, frame(0x0806, nil), api.ErrKind)
}

// P7.1: each length of a frame that layer 2 refuses goes ahead of all else, and those beside them do not.
func TestReadFrameLengths(t *testing.T) {
	x := samples()[0]
	for n := range 14 {
		refuses(t, around(x.v6, x.inner)[:n], api.ErrShort)
	}
	refuses(t, nil, api.ErrShort)
	refuses(t, frame(0x0800, nil), api.ErrShort)
	refuses(t, frame(0x86dd, nil), api.ErrShort)
	for _, x := range samples() {
		whole := append(around(x.v6, x.inner), make([]byte, 1700)...)
		reads(t, whole[:1600], x.want)
		refuses(t, whole[:1601], api.ErrLong)
		refuses(t, whole, api.ErrLong)
	}
	refuses(t, frame(0x0806, make([]byte, 1600-14)), api.ErrKind)
	refuses(t, frame(0x0806, make([]byte, 1601-14)), api.ErrLong)
}

// P7.1: a frame that is cut anywhere in its packet is too short.
func TestReadCut(t *testing.T) {
	for _, x := range samples() {
		whole := around(x.v6, x.inner)
		for n := range whole {
			refuses(t, whole[:n], api.ErrShort)
		}
	}
}

// P7.1, what follows: with more padding, of noughts or of other bytes, the packet is the same.
func TestReadPadding(t *testing.T) {
	for i, x := range samples() {
		whole := around(x.v6, x.inner)
		for n := range 1600 - len(whole) + 1 {
			reads(t, append(bytes.Clone(whole), make([]byte, n)...), x.want)
			reads(t, append(bytes.Clone(whole), mixed(n, uint32(i))...), x.want)
		}
	}
}

// P7.1: the chapter's second example.
func TestReadExample(t *testing.T) {
	inner := pack(false, 17, src4, dst4, udp(false, src4, dst4, 7, 53, nil))
	x := expect(false, inner, api.Tuple{Proto: 17, Src: src4, Dst: dst4, SPort: 7, DPort: 53}, 0, false)
	reads(t, append(around(false, inner), make([]byte, 20)...), x.want)
	if len(x.want.Inner) != 28 {
		t.Fatal("not the example")
	}
}

// P7.1: packets with all that may stand between the header and what it carries.
func TestReadOptions(t *testing.T) {
	for words := range 11 {
		options := bytes.Repeat([]byte{1}, 4*words)
		for _, proto := range []byte{6, 17} {
			body := udp(false, src4, dst4, 1, 2, []byte("x"))
			flags := uint8(0)
			if proto == 6 {
				body, flags = tcp(false, src4, dst4, 1, 2, 0x10, options, []byte("x")), 0x10
			}
			x := expect(false, pack4(proto, src4, dst4, options, body), api.Tuple{Proto: proto, Src: src4, Dst: dst4, SPort: 1, DPort: 2}, flags, false)
			reads(t, append(around(false, x.inner), 9, 9, 9), x.want)
		}
	}
}

// P7.1: the protocol is the one behind the chain, and the chain is of the inner bytes.
func TestReadChains(t *testing.T) {
	_, dst, other := ends(true)
	within := pack6(6, dst, src6, nil, []byte{0, 80, 0x15, 0xb3})
	for _, x := range []struct {
		proto byte
		body  []byte
		want  api.Packet
	}{
		{6, tcp(true, other, dst, 5555, 80, 0x11, nil, nil), api.Packet{Flow: api.Tuple{V6: true, Proto: 6, Src: other, Dst: dst, SPort: 5555, DPort: 80}, Flags: 0x11}},
		{17, udp(true, other, dst, 5555, 80, nil), api.Packet{Flow: api.Tuple{V6: true, Proto: 17, Src: other, Dst: dst, SPort: 5555, DPort: 80}}},
		{58, message(true, other, dst, 1, 0, within), api.Packet{Flow: api.Tuple{V6: true, Proto: 6, Src: src6, Dst: dst, SPort: 5555, DPort: 80}, Report: true}},
	} {
		for n := range 9 {
			chain, next := []byte{}, byte(60)
			for i := range n {
				chain = append(chain, 60, 0, 1, 4, 0, 0, 0, 0)
				if i == n-1 {
					chain[8*i] = x.proto
				}
			}
			if n == 0 {
				next = x.proto
			}
			x.want.Ether, x.want.Inner = etherOf(true), pack6(next, other, dst, chain, x.body)
			reads(t, append(around(true, x.want.Inner), 9, 9, 9), x.want)
		}
		chain := []byte{43, 0, 1, 4, 0, 0, 0, 0, 44, 0, 4, 0, 0, 0, 0, 0, x.proto, 0, 0, 0, 1, 2, 3, 4}
		x.want.Inner = pack6(0, other, dst, chain, x.body)
		reads(t, around(true, x.want.Inner), x.want)
	}
}

// P7.1: each protocol, of what is none's message.
func TestReadProtocols(t *testing.T) {
	for _, v6 := range both {
		src, dst, _ := ends(v6)
		for proto := range 256 {
			for _, n := range []int{0, 3, 60} {
				b := around(v6, pack(v6, byte(proto), src, dst, make([]byte, n)))
				extends := v6 && (proto == 0 || proto == 43 || proto == 44 || proto == 60)
				switch {
				case extends && n < 8:
					refuses(t, b, api.ErrShort)
				case extends: // the header that noughts tell of behind it is a HopByHop, which is not the first one
					refuses(t, b, api.ErrForm)
				case proto != 6 && proto != 17 && proto != int(icmpOf(v6)):
					refuses(t, b, api.ErrKind)
				case n < 8:
					refuses(t, b, api.ErrShort)
				case proto == 6 || proto == 17:
					refuses(t, b, api.ErrForm)
				default:
					refuses(t, b, api.ErrSum)
				}
			}
		}
	}
}

// P7.1: a message of one protocol, one version's ICMP too, is none of another one.
func TestReadOtherProtocol(t *testing.T) {
	for _, x := range samples() {
		b := around(x.v6, x.inner)
		for proto := range 256 {
			if x.v6 {
				b[14+6] = byte(proto)
			} else {
				b[14+9] = byte(proto)
				summed(b[14:])
			}
			p, e := Read(b)
			own := bytes.Equal(b[14:], x.inner)
			if own != (e == api.OK) {
				t.Fatalf("v6 %v: protocol %d: %+v, %d", x.v6, proto, p, e)
			}
			foreign := byte(proto) == icmpOf(!x.v6)
			if foreign && e != api.ErrKind {
				t.Fatalf("v6 %v: the other version's ICMP: %+v, %d", x.v6, p, e)
			}
		}
	}
}

// P7.1: what layer 3 tells, ahead of what the protocol says, be it one that is read or not.
func TestReadFaults4(t *testing.T) {
	for _, proto := range []byte{6, 17, 1, 47} {
		for _, x := range []struct {
			why  string
			mend func(b []byte) []byte
			want api.Errno
		}{
			{"version 6", func(b []byte) []byte { b[0] = 0x65; return summed(b) }, api.ErrForm},
			{"version 0", func(b []byte) []byte { b[0] = 0x05; return summed(b) }, api.ErrForm},
			{"four words", func(b []byte) []byte { b[0] = 0x44; return summed(b) }, api.ErrForm},
			{"words that are not there", func(b []byte) []byte { b[0] = 0x4f; return b }, api.ErrShort},
			{"a wrong sum", func(b []byte) []byte { b[8]--; return b }, api.ErrSum},
			{"a length below the header's", func(b []byte) []byte { b[3] = 19; return summed(b) }, api.ErrForm},
			{"a length beyond the end", func(b []byte) []byte { b[3]++; return summed(b) }, api.ErrShort},
			{"the reserved flag", func(b []byte) []byte { b[6] |= 0x80; return summed(b) }, api.ErrForm},
			{"more fragments", func(b []byte) []byte { b[6] = 0x20; return summed(b) }, api.ErrPiece},
			{"an offset", func(b []byte) []byte { b[7] = 1; return summed(b) }, api.ErrPiece},
		} {
			b := x.mend(pack4(proto, src4, dst4, nil, make([]byte, 8)))
			if p, e := Read(around(false, b)); e != x.want || !reflect.DeepEqual(p, api.Packet{}) {
				t.Errorf("%s, protocol %d: %+v, %d; want %d", x.why, proto, p, e, x.want)
			}
		}
		refuses(t, around(false, pack4(proto, src4, dst4, []byte{0x83, 3, 0, 0}, nil)), api.ErrRoute)
		refuses(t, around(false, pack4(proto, src4, dst4, []byte{7, 1, 0, 0}, nil)), api.ErrForm)
	}
}

// P7.1: what layer 4 tells, ahead of what the protocol says, be it one that is read or not.
func TestReadFaults6(t *testing.T) {
	for _, proto := range []byte{6, 17, 58, 47} {
		eight := make([]byte, 8)
		for _, first := range []byte{0x40, 0x50, 0x70, 0} {
			b := pack6(proto, src6, dst6, nil, eight)
			b[0] = first
			refuses(t, around(true, b), api.ErrForm)
		}
		b := pack6(proto, src6, dst6, nil, eight)
		b[5]++
		refuses(t, around(true, b), api.ErrShort)
		refuses(t, around(true, pack6(44, src6, dst6, []byte{proto, 0, 0, 8, 0, 0, 0, 1}, eight)), api.ErrPiece)
		refuses(t, around(true, pack6(44, src6, dst6, []byte{proto, 0, 0, 1, 0, 0, 0, 1}, eight)), api.ErrPiece)
		refuses(t, around(true, pack6(43, src6, dst6, []byte{proto, 0, 0, 1, 0, 0, 0, 0}, eight)), api.ErrRoute)
		refuses(t, around(true, pack6(60, src6, dst6, []byte{proto, 2, 0, 0, 0, 0, 0, 0}, eight)), api.ErrShort)
		refuses(t, around(true, pack6(60, src6, dst6, []byte{0, 0, 0, 0, 0, 0, 0, 0}, eight)), api.ErrForm)
		long := bytes.Repeat([]byte{60, 0, 0, 0, 0, 0, 0, 0}, 9)
		long[64] = proto
		refuses(t, around(true, pack6(60, src6, dst6, long, eight)), api.ErrLong)
	}
}

// P7.1: each byte of flags, of both versions.
func TestReadFlags(t *testing.T) {
	for _, v6 := range both {
		src, dst, _ := ends(v6)
		flow := api.Tuple{V6: v6, Proto: 6, Src: src, Dst: dst, SPort: 5555, DPort: 80}
		for flags := range 256 {
			inner := pack(v6, 6, src, dst, tcp(v6, src, dst, 5555, 80, byte(flags), nil, []byte("hi")))
			if may(flags) {
				reads(t, around(v6, inner), expect(v6, inner, flow, uint8(flags), false).want)
			} else {
				refuses(t, around(v6, inner), api.ErrForm)
			}
		}
	}
}

// P7.1: what layer 5 tells of a segment, ahead of flags that may not be.
func TestReadFaultsTCP(t *testing.T) {
	for _, v6 := range both {
		src, dst, other := ends(v6)
		for _, flags := range []byte{2, 3, 0} {
			whole := tcp(v6, src, dst, 5555, 80, flags, nil, nil)
			for n := range whole {
				refuses(t, around(v6, pack(v6, 6, src, dst, whole[:n])), api.ErrShort)
			}
			for words := range 5 {
				b := bytes.Clone(whole)
				b[12] = byte(words << 4)
				refuses(t, around(v6, pack(v6, 6, src, dst, b)), api.ErrForm)
			}
			b := bytes.Clone(whole)
			b[12] = 0x60
			refuses(t, around(v6, pack(v6, 6, src, dst, b)), api.ErrShort)
			b[12] = 0x50
			b[17] ^= 1
			refuses(t, around(v6, pack(v6, 6, src, dst, b)), api.ErrSum)
			refuses(t, around(v6, pack(v6, 6, other, dst, whole)), api.ErrSum)
			refuses(t, around(v6, pack(v6, 6, src, other, whole)), api.ErrSum)
		}
	}
}

// P7.1: what layer 5 tells of a datagram; one without a sum may be in IPv4 alone.
func TestReadFaultsUDP(t *testing.T) {
	for _, v6 := range both {
		src, dst, other := ends(v6)
		whole := udp(v6, src, dst, 5555, 80, []byte("hi"))
		for n := range 8 {
			refuses(t, around(v6, pack(v6, 17, src, dst, whole[:n])), api.ErrShort)
		}
		for n := range 65536 {
			if n == len(whole) {
				continue
			}
			b := bytes.Clone(whole)
			b[4], b[5] = byte(n>>8), byte(n)
			refuses(t, around(v6, pack(v6, 17, src, dst, b)), api.ErrForm)
		}
		b := bytes.Clone(whole)
		b[6] ^= 1
		refuses(t, around(v6, pack(v6, 17, src, dst, b)), api.ErrSum)
		refuses(t, around(v6, pack(v6, 17, other, dst, whole)), api.ErrSum)
		b[6], b[7] = 0, 0
		inner := pack(v6, 17, src, dst, b)
		if v6 {
			refuses(t, around(v6, inner), api.ErrSum)
		} else {
			reads(t, around(v6, inner), expect(v6, inner, api.Tuple{Proto: 17, Src: src, Dst: dst, SPort: 5555, DPort: 80}, 0, false).want)
		}
	}
}

// P7.1: each type of ICMP, with a packet within whose source the message goes to.
func TestReadReports(t *testing.T) {
	for _, v6 := range both {
		src, dst, other := ends(v6)
		within := pack(v6, 17, dst, src, []byte{0, 80, 0x15, 0xb3})
		flow := api.Tuple{V6: v6, Proto: 17, Src: src, Dst: dst, SPort: 5555, DPort: 80}
		for kind := range 256 {
			is := kind == 3 || kind == 4 || kind == 5 || kind == 11 || kind == 12
			if v6 {
				is = kind >= 1 && kind <= 4
			}
			inner := pack(v6, icmpOf(v6), other, dst, message(v6, other, dst, byte(kind), byte(kind), within))
			if is {
				reads(t, around(v6, inner), expect(v6, inner, flow, 0, true).want)
			} else {
				refuses(t, around(v6, inner), api.ErrKind)
			}
		}
	}
}

// P7.1: an error that goes elsewhere than its flow: each bit of the address.
func TestReadReportsElsewhere(t *testing.T) {
	for _, v6 := range both {
		src, dst, other := ends(v6)
		within := pack(v6, 6, dst, src, []byte{0, 80, 0x15, 0xb3})
		bits := 32
		if v6 {
			bits = 128
		}
		for bit := range bits {
			to := dst
			to[bit/8] ^= 1 << (bit % 8)
			refuses(t, around(v6, pack(v6, icmpOf(v6), other, to, message(v6, other, to, 3, 0, within))), api.ErrForm)
		}
		// The flow's source is another end: an error that goes there is not of this flow.
		refuses(t, around(v6, pack(v6, icmpOf(v6), other, src, message(v6, other, src, 3, 0, within))), api.ErrForm)
	}
}

// P7.1: what layer 6 tells, ahead of where the error goes.
func TestReadFaultsICMP(t *testing.T) {
	for _, v6 := range both {
		src, dst, other := ends(v6)
		good := []byte{0, 80, 0x15, 0xb3}
		short := pack(v6, 6, dst, src, good[:3])
		version := pack(v6, 6, dst, src, good)
		version[0] ^= 0x20
		piece := pack4(6, dst, src, nil, good)
		piece[7] = 1
		if v6 {
			piece = pack6(44, dst, src, []byte{6, 0, 0, 1, 0, 0, 0, 0}, good)
		}
		for _, to := range [][16]byte{dst, other} {
			send := func(m []byte) []byte { return around(v6, pack(v6, icmpOf(v6), other, to, m)) }
			whole := message(v6, other, to, 3, 0, pack(v6, 6, dst, src, good))
			for n := range 8 {
				refuses(t, send(whole[:n]), api.ErrShort)
			}
			b := bytes.Clone(whole)
			b[3] ^= 1
			refuses(t, send(b), api.ErrSum)
			refuses(t, send(message(v6, other, to, 3, 0, nil)), api.ErrShort)
			refuses(t, send(message(v6, other, to, 3, 0, short)), api.ErrShort)
			refuses(t, send(message(v6, other, to, 3, 0, version)), api.ErrForm)
			refuses(t, send(message(v6, other, to, 3, 0, piece)), api.ErrPiece)
			refuses(t, send(message(v6, other, to, 3, 0, pack(v6, icmpOf(v6), dst, src, good))), api.ErrKind)
			refuses(t, send(message(v6, other, to, 128, 0, pack(v6, 6, dst, src, good))), api.ErrKind)
		}
	}
}

// P7.1: each bit of what stands ahead, of the addresses and of the ports is told at its place.
func TestReadParts(t *testing.T) {
	for _, v6 := range both {
		size := 4
		if v6 {
			size = 16
		}
		for bit := range 8 * (12 + 2*size + 4) {
			parts := make([]byte, 12+2*size+4)
			parts[bit/8] ^= 1 << (bit % 8)
			for _, proto := range []byte{6, 17} {
				want := api.Packet{Ether: api.Ether{Dst: [6]byte(parts[:6]), Src: [6]byte(parts[6:12]), Type: etherOf(v6).Type}}
				f := api.Tuple{V6: v6, Proto: proto}
				copy(f.Src[:], parts[12:12+size])
				copy(f.Dst[:], parts[12+size:12+2*size])
				p := parts[12+2*size:]
				f.SPort, f.DPort = uint16(p[0])<<8|uint16(p[1]), uint16(p[2])<<8|uint16(p[3])
				body := udp(v6, f.Src, f.Dst, f.SPort, f.DPort, nil)
				if proto == 6 {
					body, want.Flags = tcp(v6, f.Src, f.Dst, f.SPort, f.DPort, 4, nil, nil), 4
				}
				want.Flow, want.Inner = f, pack(v6, proto, f.Src, f.Dst, body)
				b := around(v6, want.Inner)
				copy(b, parts[:12])
				reads(t, b, want)
			}
		}
	}
}

// P7.1: the packet that fills a frame.
func TestReadGreatest(t *testing.T) {
	for _, v6 := range both {
		src, dst, _ := ends(v6)
		room := 1600 - 14 - 20 - 8
		if v6 {
			room -= 20
		}
		flow := api.Tuple{V6: v6, Proto: 17, Src: src, Dst: dst, SPort: 1, DPort: 2}
		inner := pack(v6, 17, src, dst, udp(v6, src, dst, 1, 2, mixed(room, 1)))
		reads(t, around(v6, inner), expect(v6, inner, flow, 0, false).want)
		inner = pack(v6, 17, src, dst, udp(v6, src, dst, 1, 2, mixed(room+1, 1)))
		refuses(t, around(v6, inner), api.ErrLong)
	}
}

// P7.1: what is handed in is not changed, and not kept; what is told has memory of its own, none of it behind its end.
func TestReadMemory(t *testing.T) {
	for _, x := range samples() {
		given := append(around(x.v6, x.inner), 9, 9, 9)
		kept := bytes.Clone(given)
		p, _ := Read(given)
		q, _ := Read(given)
		if !bytes.Equal(given, kept) {
			t.Fatal("what was handed in was changed")
		}
		if cap(p.Inner) != len(p.Inner) {
			t.Fatal("padding stands behind the inner bytes")
		}
		clear(given)
		clear(q.Inner)
		if !reflect.DeepEqual(p, x.want) {
			t.Fatal("what was told hangs on what was handed in, or told besides")
		}
	}
}

// P1: any bytes, and packets with any byte or two of them changed: an error alone, or a packet within the frame.
func TestReadAny(t *testing.T) {
	check := func(b []byte) {
		t.Helper()
		p, e := Read(b)
		if e != api.OK && !reflect.DeepEqual(p, api.Packet{}) {
			t.Fatalf("Read(% x) = %+v beside %d", b, p, e)
		}
		if e == api.OK && !bytes.HasPrefix(b[14:], p.Inner) {
			t.Fatalf("Read(% x): inner bytes % x", b, p.Inner)
		}
	}
	for n := range 1700 {
		check(mixed(n, uint32(n)))
		for _, v6 := range both {
			check(around(v6, mixed(n, uint32(n))))
		}
	}
	for _, x := range samples() {
		whole := append(around(x.v6, x.inner), 0, 0)
		for at := range whole {
			for value := range 256 {
				b := bytes.Clone(whole)
				b[at] = byte(value)
				check(b)
				if !x.v6 && at >= 14 {
					check(append(b[:14:14], summed(b[14:])...))
				}
			}
		}
	}
}

// P7.2: tuples turned, each of their bits.
func TestTurn(t *testing.T) {
	base := api.Tuple{V6: true, Proto: 6, Src: src6, Dst: dst6, SPort: 5555, DPort: 80}
	if got := Turn(base); got != (api.Tuple{V6: true, Proto: 6, Src: dst6, Dst: src6, SPort: 80, DPort: 5555}) {
		t.Error(got)
	}
	if Turn(api.Tuple{}) != (api.Tuple{}) {
		t.Error("a zero tuple is not turned to itself")
	}
	for _, v6 := range both {
		for bit := range 8 + 256 + 32 {
			x, want := api.Tuple{V6: v6}, api.Tuple{V6: v6}
			switch {
			case bit < 8:
				x.Proto = 1 << bit
				want.Proto = x.Proto
			case bit < 136:
				x.Src[(bit-8)/8] = 1 << (bit % 8)
				want.Dst = x.Src
			case bit < 264:
				x.Dst[(bit-136)/8] = 1 << (bit % 8)
				want.Src = x.Dst
			case bit < 280:
				x.SPort = 1 << (bit - 264)
				want.DPort = x.SPort
			default:
				x.DPort = 1 << (bit - 280)
				want.SPort = x.DPort
			}
			if got := Turn(x); got != want || Turn(got) != x {
				t.Errorf("Turn(%v) = %v", x, got)
			}
		}
	}
}

// may tells whether flags may be, bit by bit.
func may(flags int) bool {
	fin, syn, rst, ack := flags&1 > 0, flags&2 > 0, flags&4 > 0, flags&16 > 0
	return !(syn && fin) && !(syn && rst) && (syn || fin || rst || ack)
}

// P7.2: each byte of flags, and those whose names one knows.
func TestMayFlags(t *testing.T) {
	for flags := range 256 {
		if MayFlags(uint8(flags)) != may(flags) {
			t.Errorf("MayFlags(%08b) = %v", flags, !may(flags))
		}
	}
	for _, x := range []struct {
		flags uint8
		want  bool
	}{
		{0, false},
		{api.FlagSYN, true},
		{api.FlagSYN | api.FlagACK, true},
		{api.FlagFIN, true},
		{api.FlagFIN | api.FlagACK, true},
		{api.FlagRST, true},
		{api.FlagRST | api.FlagACK, true},
		{api.FlagFIN | api.FlagRST, true},
		{api.FlagACK, true},
		{api.FlagPSH, false},
		{api.FlagURG, false},
		{api.FlagPSH | api.FlagURG | 0xc0, false},
		{api.FlagPSH | api.FlagACK, true},
		{api.FlagSYN | api.FlagFIN, false},
		{api.FlagSYN | api.FlagRST, false},
		{api.FlagSYN | api.FlagFIN | api.FlagACK, false},
		{api.FlagSYN | api.FlagRST | api.FlagACK, false},
	} {
		if MayFlags(x.flags) != x.want {
			t.Errorf("MayFlags(%08b) = %v", x.flags, !x.want)
		}
	}
}
