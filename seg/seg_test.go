package seg

import (
	"bytes"
	"encoding/hex"
	"strings"
	"testing"

	"weighbridge/api"
)

// Ends of IPv4 and of IPv6. IPv4's have bytes behind their four, that no sum may hang on.
var (
	src4 = [16]byte{192, 0, 2, 1, 0xaa, 5: 0xbb}
	dst4 = [16]byte{198, 51, 100, 7, 15: 0xcc}
	src6 = [16]byte{0x20, 1, 0x0d, 0xb8, 15: 1}
	dst6 = [16]byte{0x20, 1, 0x0d, 0xb8, 0, 0xff, 13: 0xab, 0xcd, 0xef}
)

// both are the two versions.
var both = []bool{false, true}

// ends tells the addresses of a version.
func ends(v6 bool) (src, dst [16]byte) {
	if v6 {
		return src6, dst6
	}
	return src4, dst4
}

// octets tells the bytes that a text spells.
func octets(t *testing.T, text string) []byte {
	t.Helper()
	b, err := hex.DecodeString(strings.ReplaceAll(text, " ", ""))
	if err != nil {
		t.Fatal(err)
	}
	return b
}

// mixed tells n bytes that differ, the same ones each time.
func mixed(n int, seed uint32) []byte {
	b := make([]byte, n)
	for i := range b {
		seed = seed*1664525 + 1013904223
		b[i] = byte(seed >> 24)
	}
	return b
}

// total tells what the words of bytes behind their pseudo header come to, without the packages: the number itself.
func total(v6 bool, src, dst [16]byte, proto byte, b []byte) int {
	n := len(b)
	head := append(append([]byte{}, src[:4]...), dst[:4]...)
	if v6 {
		head = append(append([]byte{}, src[:]...), dst[:]...)
		head = append(head, byte(n>>24), byte(n>>16))
	}
	head = append(head, byte(n>>8), byte(n), 0, proto)
	t := 0
	for _, part := range [][]byte{head, b} {
		for i, x := range part {
			t += int(x) << (8 * (1 - i%2))
		}
	}
	return t
}

// summed tells a copy of b with a right sum at a place, another way than the package: by the residue to 65535.
func summed(v6 bool, proto byte, at int, b []byte) []byte {
	src, dst := ends(v6)
	b = bytes.Clone(b)
	b[at], b[at+1] = 0, 0
	s := 65535 - (total(v6, src, dst, proto, b)-1)%65535 - 1
	if s == 0 && proto == 17 {
		s = 65535
	}
	b[at], b[at+1] = byte(s>>8), byte(s)
	return b
}

// tcp tells a segment byte by byte, without the package, with a right sum; its options are whole words.
func tcp(v6 bool, options, payload []byte) []byte {
	b := []byte{0x12, 0x34, 0xab, 0xcd, 0xfe, 0xdc, 0xba, 0x98, 0x76, 0x54, 0x32, 0x10, byte(5+len(options)/4)<<4 | 9, 0x9a, 0xbe, 0xef, 0, 0, 0xc0, 0xde}
	return summed(v6, 6, 16, append(append(b, options...), payload...))
}

// tcpHeader is what stands ahead in segments of tcp.
func tcpHeader(options []byte) api.TCP {
	return api.TCP{SPort: 0x1234, DPort: 0xabcd, Seq: 0xfedcba98, Ack: 0x76543210, Rest: 9, Flags: 0x9a, Window: 0xbeef, Urgent: 0xc0de, Options: options}
}

// udp tells a datagram byte by byte, without the package, with a right sum.
func udp(v6 bool, payload []byte) []byte {
	n := 8 + len(payload)
	return summed(v6, 17, 6, append([]byte{0x12, 0x34, 0xab, 0xcd, byte(n >> 8), byte(n), 0, 0}, payload...))
}

// udpHeader is what stands ahead in datagrams of udp.
var udpHeader = api.UDP{SPort: 0x1234, DPort: 0xabcd}

// same tells whether two headers are one.
func same(a, b api.TCP) bool {
	options := bytes.Equal(a.Options, b.Options)
	return options && a.SPort == b.SPort && a.DPort == b.DPort && a.Seq == b.Seq && a.Ack == b.Ack && a.Rest == b.Rest && a.Flags == b.Flags && a.Window == b.Window && a.Urgent == b.Urgent
}

// readsTCP fails the test unless ReadTCP tells this header and payload.
func readsTCP(t *testing.T, v6 bool, b []byte, h api.TCP, payload []byte) {
	t.Helper()
	src, dst := ends(v6)
	got, p, e := ReadTCP(v6, src, dst, b)
	if e != api.OK || !same(got, h) || !bytes.Equal(p, payload) {
		t.Fatalf("v6 %v: ReadTCP(% x) = %v, % x, %d; want %v, % x", v6, b, got, p, e, h, payload)
	}
}

// refusesTCP fails the test unless ReadTCP tells this error, and nothing beside it.
func refusesTCP(t *testing.T, v6 bool, src, dst [16]byte, b []byte, want api.Errno) {
	t.Helper()
	h, p, e := ReadTCP(v6, src, dst, b)
	if e != want || !same(h, api.TCP{}) || h.Options != nil || p != nil {
		t.Fatalf("v6 %v: ReadTCP of %d bytes = %v, % x, %d; want error %d alone", v6, len(b), h, p, e, want)
	}
}

// writesTCP fails the test unless WriteTCP tells these bytes.
func writesTCP(t *testing.T, v6 bool, h api.TCP, payload, want []byte) {
	t.Helper()
	src, dst := ends(v6)
	if b, e := WriteTCP(v6, src, dst, h, payload); e != api.OK || !bytes.Equal(b, want) {
		t.Fatalf("v6 %v: WriteTCP(%v, % x) = % x, %d; want % x", v6, h, payload, b, e, want)
	}
}

// declinesTCP fails the test unless WriteTCP tells this error, and nothing beside it.
func declinesTCP(t *testing.T, v6 bool, h api.TCP, payload []byte, want api.Errno) {
	t.Helper()
	src, dst := ends(v6)
	if b, e := WriteTCP(v6, src, dst, h, payload); e != want || b != nil {
		t.Fatalf("v6 %v: WriteTCP(%v, %d bytes) = %d bytes, %d; want error %d alone", v6, h, len(payload), len(b), e, want)
	}
}

// readsUDP fails the test unless ReadUDP tells this header and payload.
func readsUDP(t *testing.T, v6 bool, b []byte, h api.UDP, payload []byte) {
	t.Helper()
	src, dst := ends(v6)
	got, p, e := ReadUDP(v6, src, dst, b)
	if e != api.OK || got != h || !bytes.Equal(p, payload) {
		t.Fatalf("v6 %v: ReadUDP(% x) = %v, % x, %d; want %v, % x", v6, b, got, p, e, h, payload)
	}
}

// refusesUDP fails the test unless ReadUDP tells this error, and nothing beside it.
func refusesUDP(t *testing.T, v6 bool, src, dst [16]byte, b []byte, want api.Errno) {
	t.Helper()
	h, p, e := ReadUDP(v6, src, dst, b)
	if e != want || h != (api.UDP{}) || p != nil {
		t.Fatalf("v6 %v: ReadUDP of %d bytes = %v, % x, %d; want error %d alone", v6, len(b), h, p, e, want)
	}
}

// writesUDP fails the test unless WriteUDP tells these bytes.
func writesUDP(t *testing.T, v6 bool, h api.UDP, payload, want []byte) {
	t.Helper()
	src, dst := ends(v6)
	if b, e := WriteUDP(v6, src, dst, h, payload); e != api.OK || !bytes.Equal(b, want) {
		t.Fatalf("v6 %v: WriteUDP(%v, % x) = % x, %d; want % x", v6, h, payload, b, e, want)
	}
}

// declinesUDP fails the test unless WriteUDP tells this error, and nothing beside it.
func declinesUDP(t *testing.T, v6 bool, h api.UDP, payload []byte, want api.Errno) {
	t.Helper()
	src, dst := ends(v6)
	if b, e := WriteUDP(v6, src, dst, h, payload); e != want || b != nil {
		t.Fatalf("v6 %v: WriteUDP(%v, %d bytes) = %d bytes, %d; want error %d alone", v6, h, len(payload), len(b), e, want)
	}
}

// P5.1: segments by hand, of both versions, with sums that were worked out elsewhere.
func TestTCPByHand(t *testing.T) {
	syn := api.TCP{SPort: 50000, DPort: 80, Seq: 0xdeadbeef, Flags: api.FlagSYN, Window: 64240, Options: []byte{2, 4, 5, 180}}
	all := api.TCP{SPort: 80, DPort: 50000, Seq: 1, Ack: 0x7fffffff, Rest: 15, Flags: 255, Window: 1, Urgent: 0xffff}
	for _, x := range []struct {
		v6      bool
		h       api.TCP
		payload string
		b       string
	}{
		{false, syn, "", "c350 0050 deadbeef 00000000 6002 faf0 4fbb 0000 020405b4"},
		{true, syn, "", "c350 0050 deadbeef 00000000 6002 faf0 10eb 0000 020405b4"},
		{false, all, "abc", "0050 c350 00000001 7fffffff 5fff 0001 aba1 ffff 616263"},
		{true, all, "abc", "0050 c350 00000001 7fffffff 5fff 0001 6cd1 ffff 616263"},
	} {
		b := octets(t, x.b)
		readsTCP(t, x.v6, b, x.h, []byte(x.payload))
		writesTCP(t, x.v6, x.h, []byte(x.payload), b)
	}
}

// P5.1: each bit of each part of a header is read, and written, at its place.
func TestTCPParts(t *testing.T) {
	for _, v6 := range both {
		for _, x := range []struct {
			at, bits int
			set      func(h *api.TCP, x uint32)
		}{
			{0, 16, func(h *api.TCP, x uint32) { h.SPort = uint16(x) }},
			{2, 16, func(h *api.TCP, x uint32) { h.DPort = uint16(x) }},
			{4, 32, func(h *api.TCP, x uint32) { h.Seq = x }},
			{8, 32, func(h *api.TCP, x uint32) { h.Ack = x }},
			{12, 4, func(h *api.TCP, x uint32) { h.Rest = uint8(x) }},
			{13, 8, func(h *api.TCP, x uint32) { h.Flags = uint8(x) }},
			{14, 16, func(h *api.TCP, x uint32) { h.Window = uint16(x) }},
			{18, 16, func(h *api.TCP, x uint32) { h.Urgent = uint16(x) }},
		} {
			ones := uint32(1<<x.bits - 1)
			for n := range x.bits {
				for _, number := range []uint32{0, 1 << n, ones ^ 1<<n, ones} {
					h := api.TCP{}
					x.set(&h, number)
					b := append(make([]byte, 20), "rest"...)
					b[12] = 0x50
					for i, left := (x.bits+7)/8-1, number; i >= 0; i-- {
						b[x.at+i] |= byte(left)
						left >>= 8
					}
					b = summed(v6, 6, 16, b)
					readsTCP(t, v6, b, h, []byte("rest"))
					writesTCP(t, v6, h, []byte("rest"), b)
				}
			}
		}
	}
}

// P5.1: each data offset with each number of bytes about a header: what goes ahead of what, with a sum that is right and one that is not.
func TestReadTCPOrder(t *testing.T) {
	for _, v6 := range both {
		src, dst := ends(v6)
		for offset := range 16 {
			for n := range 70 {
				b := mixed(n, uint32(100*offset+n))
				if n >= 20 {
					b[12] = byte(offset)<<4 | b[12]&15
					b = summed(v6, 6, 16, b)
				}
				var want api.Errno
				switch {
				case n < 20:
					want = api.ErrShort
				case offset < 5:
					want = api.ErrForm
				case n < 4*offset:
					want = api.ErrShort
				}
				bad := bytes.Clone(b)
				if n > 0 {
					bad[0] ^= 1
				}
				if want != api.OK {
					refusesTCP(t, v6, src, dst, b, want)
					refusesTCP(t, v6, src, dst, bad, want)
					continue
				}
				h, p, e := ReadTCP(v6, src, dst, b)
				if e != api.OK || !bytes.Equal(h.Options, b[20:4*offset]) || !bytes.Equal(p, b[4*offset:]) {
					t.Fatalf("offset %d of %d bytes: %v, %v, %d", offset, n, h, p, e)
				}
				refusesTCP(t, v6, src, dst, bad, api.ErrSum)
			}
		}
		refusesTCP(t, v6, src, dst, nil, api.ErrShort)
	}
}

// changed tells copies of an array, each with one byte that is another one.
func changed(a [16]byte) [][16]byte {
	var all [][16]byte
	for i := range a {
		b := a
		b[i] ^= 0x10
		all = append(all, b)
	}
	return all
}

// P5.1: the sum hangs on each bit of the segment, on the addresses, the version, the protocol and how many bytes there are.
func TestReadTCPSum(t *testing.T) {
	for _, v6 := range both {
		src, dst := ends(v6)
		for _, payload := range []string{"", "x", "four", "odd ones"} {
			h, b := tcpHeader([]byte{1, 1, 1, 0}), tcp(v6, []byte{1, 1, 1, 0}, []byte(payload))
			readsTCP(t, v6, b, h, []byte(payload))
			for i := range 8 * len(b) {
				if i/8 != 12 || i%8 < 4 { // the offset's own bits say more than a wrong sum
					bad := bytes.Clone(b)
					bad[i/8] ^= 1 << (i % 8)
					refusesTCP(t, v6, src, dst, bad, api.ErrSum)
				}
			}
			refusesTCP(t, !v6, src, dst, b, api.ErrSum)
			refusesTCP(t, v6, src, dst, summed(v6, 17, 16, b), api.ErrSum)
			refusesTCP(t, v6, src, dst, append(bytes.Clone(b), 0, 0), api.ErrSum)
			for i := range 16 {
				if v6 || i < 4 {
					refusesTCP(t, v6, changed(src)[i], dst, b, api.ErrSum)
					refusesTCP(t, v6, src, changed(dst)[i], b, api.ErrSum)
				} else if _, _, e := ReadTCP(v6, changed(src)[i], changed(dst)[i], b); e != api.OK {
					t.Fatalf("IPv4's addresses are more than their first four bytes: byte %d, %d", i, e)
				}
			}
		}
	}
}

// P5.1: a sum of 0000 and one of FFFF are both right where one is; it is 0000 that is written, for of TCP it says nothing else.
func TestTCPTwoSums(t *testing.T) {
	for _, v6 := range both {
		window := uint16(0xaba2)
		if v6 {
			window = 0x6cd2
		}
		h := api.TCP{SPort: 80, DPort: 50000, Seq: 1, Ack: 0x7fffffff, Rest: 15, Flags: 255, Window: window, Urgent: 0xffff}
		b := octets(t, "0050 c350 00000001 7fffffff 5fff 0000 0000 ffff 616263")
		b[14], b[15] = byte(window>>8), byte(window)
		readsTCP(t, v6, b, h, []byte("abc"))
		writesTCP(t, v6, h, []byte("abc"), b)
		b[16], b[17] = 0xff, 0xff
		readsTCP(t, v6, b, h, []byte("abc"))
		src, dst := ends(v6)
		b[16], b[17] = 0, 1
		refusesTCP(t, v6, src, dst, b, api.ErrSum)
		zero := tcp(v6, nil, nil) // a sum of 0 is no sum that is not there
		zero[16], zero[17] = 0, 0
		refusesTCP(t, v6, src, dst, zero, api.ErrSum)
	}
}

// P5.1: reading has no bound but the bytes themselves, above 16 bits of length, too.
func TestReadTCPLong(t *testing.T) {
	for _, v6 := range both {
		for _, n := range []int{1640, 1641, 65515, 65516, 65517, 131053} {
			payload := mixed(n, uint32(n))
			readsTCP(t, v6, tcp(v6, nil, payload), tcpHeader(nil), payload)
		}
	}
}

// P5.1: options of each length: whole words, forty bytes at most.
func TestWriteTCPOptions(t *testing.T) {
	for _, v6 := range both {
		for n := range 90 {
			options := mixed(n, uint32(n))
			if n%4 != 0 || n > 40 {
				declinesTCP(t, v6, tcpHeader(options), []byte("abc"), api.ErrForm)
				continue
			}
			b := tcp(v6, options, []byte("abc"))
			writesTCP(t, v6, tcpHeader(options), []byte("abc"), b)
			readsTCP(t, v6, b, tcpHeader(options), []byte("abc"))
		}
		for _, n := range []int{256, 260, 1024, 1660, 65536 + 4} {
			declinesTCP(t, v6, tcpHeader(make([]byte, n)), nil, api.ErrForm)
		}
	}
}

// P5.1: each number as the bits behind the offset: four of them.
func TestWriteTCPRest(t *testing.T) {
	for _, v6 := range both {
		for rest := range 256 {
			h := tcpHeader(nil)
			h.Rest = uint8(rest)
			if rest > 15 {
				declinesTCP(t, v6, h, nil, api.ErrForm)
				continue
			}
			b := tcp(v6, nil, nil)
			b[12] = 0x50 | byte(rest)
			writesTCP(t, v6, h, nil, summed(v6, 6, 16, b))
		}
	}
}

// P5.1: segments of as many bytes as may be, and one more; ErrForm goes ahead.
func TestWriteTCPLong(t *testing.T) {
	for _, v6 := range both {
		for words := range 11 {
			options := mixed(4*words, 3)
			most := 1660 - 20 - 4*words
			for _, n := range []int{most - 2, most - 1, most} {
				payload := mixed(n, uint32(n))
				writesTCP(t, v6, tcpHeader(options), payload, tcp(v6, options, payload))
			}
			for _, n := range []int{most + 1, most + 2, 1660, 1661, 65536, 65536 + 100, 200000} {
				declinesTCP(t, v6, tcpHeader(options), make([]byte, n), api.ErrLong)
			}
		}
		long := make([]byte, 1700)
		declinesTCP(t, v6, api.TCP{Rest: 16}, long, api.ErrForm)
		declinesTCP(t, v6, api.TCP{Options: make([]byte, 44)}, long, api.ErrForm)
		declinesTCP(t, v6, api.TCP{Options: make([]byte, 5)}, long, api.ErrForm)
	}
}

// P5.2: datagrams by hand, of both versions, with sums that were worked out elsewhere.
func TestUDPByHand(t *testing.T) {
	for _, x := range []struct {
		v6 bool
		h  api.UDP
		b  string
	}{
		{false, api.UDP{SPort: 53, DPort: 49152}, "0035 c000 000d 0f90"},
		{true, api.UDP{SPort: 53, DPort: 49152}, "0035 c000 000d d0bf"},
		{false, api.UDP{SPort: 53, DPort: 49152, NoSum: true}, "0035 c000 000d 0000"},
	} {
		b := append(octets(t, x.b), "hello"...)
		readsUDP(t, x.v6, b, x.h, []byte("hello"))
		writesUDP(t, x.v6, x.h, []byte("hello"), b)
	}
}

// P5.2: a sum that is made as 0000 is written as FFFF; one of 0000 says that there is none, which in IPv6 may not be.
func TestUDPTwoSums(t *testing.T) {
	for _, v6 := range both {
		h := api.UDP{SPort: 0x0fc5, DPort: 49152}
		if v6 {
			h.SPort = 0xd0f4
		}
		b := append(octets(t, "0000 c000 000d ffff"), "hello"...)
		b[0], b[1] = byte(h.SPort>>8), byte(h.SPort)
		writesUDP(t, v6, h, []byte("hello"), b)
		readsUDP(t, v6, b, h, []byte("hello"))
		b[6], b[7] = 0, 0
		src, dst := ends(v6)
		if v6 { // though its words come to 65535
			refusesUDP(t, v6, src, dst, b, api.ErrSum)
			continue
		}
		h.NoSum = true
		readsUDP(t, v6, b, h, []byte("hello"))
		writesUDP(t, v6, h, []byte("hello"), b)
	}
}

// P5.2: in IPv4 a datagram without a sum may be of any bytes, in IPv6 of none.
func TestUDPNoSum(t *testing.T) {
	for n := range 40 {
		payload := mixed(n, uint32(n))
		for _, v6 := range both {
			b := udp(v6, payload)
			b[6], b[7] = 0, 0
			h := udpHeader
			h.NoSum = true
			if v6 {
				refusesUDP(t, v6, src6, dst6, b, api.ErrSum)
				declinesUDP(t, v6, h, payload, api.ErrArg)
				continue
			}
			readsUDP(t, v6, b, h, payload)
			writesUDP(t, v6, h, payload, b)
		}
	}
	declinesUDP(t, true, api.UDP{NoSum: true}, make([]byte, 1700), api.ErrArg) // and not ErrLong
}

// P5.2: each length that a header may say, of each number of bytes: they are one; and which error goes ahead.
func TestReadUDPLength(t *testing.T) {
	for _, v6 := range both {
		src, dst := ends(v6)
		for n := range 24 {
			for _, length := range []int{0, 1, 7, 8, n - 2, n - 1, n, n + 1, n + 2, n << 8, n | 0x100, n + 0x8000, 65535} {
				b := mixed(n, uint32(n))
				if n < 8 {
					refusesUDP(t, v6, src, dst, b, api.ErrShort)
					continue
				}
				b[4], b[5] = byte(length>>8), byte(length)
				b = summed(v6, 17, 6, b)
				bad := bytes.Clone(b)
				bad[0] ^= 1
				if length != n {
					refusesUDP(t, v6, src, dst, b, api.ErrForm)
					refusesUDP(t, v6, src, dst, bad, api.ErrForm)
					b[6], b[7] = 0, 0
					refusesUDP(t, v6, src, dst, b, api.ErrForm)
					continue
				}
				if _, p, e := ReadUDP(v6, src, dst, b); e != api.OK || !bytes.Equal(p, b[8:]) {
					t.Fatalf("%d bytes: % x, %d", n, p, e)
				}
				refusesUDP(t, v6, src, dst, bad, api.ErrSum)
			}
		}
		refusesUDP(t, v6, src, dst, nil, api.ErrShort)
	}
}

// P5.2: reading has no bound but the length's own; one beyond it is not taken for one that is less by 65536.
func TestReadUDPLong(t *testing.T) {
	for _, v6 := range both {
		for _, n := range []int{1652, 1653, 4000, 65526, 65527} {
			payload := mixed(n, uint32(n))
			readsUDP(t, v6, udp(v6, payload), udpHeader, payload)
		}
		src, dst := ends(v6)
		for _, n := range []int{65528, 65536, 65536 + 5, 131072} {
			refusesUDP(t, v6, src, dst, udp(v6, make([]byte, n)), api.ErrForm)
		}
	}
}

// P5.2: the sum hangs on each bit of the datagram, on the addresses, the version and the protocol.
func TestReadUDPSum(t *testing.T) {
	for _, v6 := range both {
		src, dst := ends(v6)
		for _, payload := range []string{"", "x", "four", "odd ones!"} {
			b := udp(v6, []byte(payload))
			readsUDP(t, v6, b, udpHeader, []byte(payload))
			for i := range 8 * len(b) {
				if i/8 != 4 && i/8 != 5 { // the length's own bits say more than a wrong sum
					bad := bytes.Clone(b)
					bad[i/8] ^= 1 << (i % 8)
					refusesUDP(t, v6, src, dst, bad, api.ErrSum)
				}
			}
			refusesUDP(t, !v6, src, dst, b, api.ErrSum)
			refusesUDP(t, v6, src, dst, summed(v6, 6, 6, b), api.ErrSum)
			for i := range 16 {
				if v6 || i < 4 {
					refusesUDP(t, v6, changed(src)[i], dst, b, api.ErrSum)
					refusesUDP(t, v6, src, changed(dst)[i], b, api.ErrSum)
				} else if _, _, e := ReadUDP(v6, changed(src)[i], changed(dst)[i], b); e != api.OK {
					t.Fatalf("IPv4's addresses are more than their first four bytes: byte %d, %d", i, e)
				}
			}
		}
	}
}

// P5.2: each bit of both ports is read, and written, at its place; and no two of them are one.
func TestUDPPorts(t *testing.T) {
	for _, v6 := range both {
		for n := range 16 {
			for _, x := range []uint16{0, 1 << n, ^uint16(1 << n), 0xffff} {
				for _, h := range []api.UDP{{SPort: x}, {DPort: x}, {SPort: x, DPort: 0x1234}} {
					b := []byte{byte(h.SPort >> 8), byte(h.SPort), byte(h.DPort >> 8), byte(h.DPort), 0, 9, 0, 0, 'x'}
					b = summed(v6, 17, 6, b)
					readsUDP(t, v6, b, h, []byte("x"))
					writesUDP(t, v6, h, []byte("x"), b)
				}
			}
		}
	}
}

// P5.2: datagrams of each length up to as many bytes as may be, and of more.
func TestWriteUDPLong(t *testing.T) {
	for _, v6 := range both {
		for n := range 1653 {
			payload := mixed(n, uint32(n))
			writesUDP(t, v6, udpHeader, payload, udp(v6, payload))
		}
		for _, n := range []int{1653, 1654, 1660, 1661, 65527, 65528, 65536, 65536 + 100, 200000} {
			declinesUDP(t, v6, udpHeader, make([]byte, n), api.ErrLong)
		}
	}
	declinesUDP(t, false, api.UDP{NoSum: true}, make([]byte, 1653), api.ErrLong)
	b, e := WriteUDP(false, src4, dst4, api.UDP{NoSum: true}, make([]byte, 1652))
	if e != api.OK || len(b) != 1660 {
		t.Errorf("%d bytes, %d", len(b), e)
	}
}

// P5.2: both ports of each number of bytes, whatever stands behind them.
func TestPorts(t *testing.T) {
	for n := range 40 {
		b := append([]byte{0x12, 0x34, 0xab, 0xcd}, mixed(40, uint32(n))...)[:n]
		s, d, e := Ports(b)
		if n < 4 && (s != 0 || d != 0 || e != api.ErrShort) {
			t.Errorf("Ports(% x) = %d, %d, %d; want ErrShort alone", b, s, d, e)
		}
		if n >= 4 && (s != 0x1234 || d != 0xabcd || e != api.OK) {
			t.Errorf("Ports(% x) = %04x, %04x, %d", b, s, d, e)
		}
	}
	if s, d, e := Ports(nil); s != 0 || d != 0 || e != api.ErrShort {
		t.Error(s, d, e)
	}
	for x := range 65536 {
		b := []byte{byte(x >> 8), byte(x), byte(x), byte(x >> 8)}
		if s, d, e := Ports(b); int(s) != x || int(d) != x&255<<8|x>>8 || e != api.OK {
			t.Fatalf("Ports(% x) = %04x, %04x, %d", b, s, d, e)
		}
	}
}

// What is written is read as it was, and written again as it was.
func TestBack(t *testing.T) {
	for seed := range uint32(2000) {
		x := mixed(20, seed)
		v6 := x[0]&1 == 1
		src, dst := [16]byte(mixed(16, seed+1)), [16]byte(mixed(16, seed+2))
		payload := mixed(int(x[1])*int(x[2])%1600, seed+3)
		h := api.TCP{
			SPort: uint16(x[3])<<8 | uint16(x[4]), DPort: uint16(x[5])<<8 | uint16(x[6]),
			Seq: uint32(x[7])<<24 | uint32(x[8]), Ack: uint32(x[9])<<24 | uint32(x[10]),
			Rest: x[11] & 15, Flags: x[12], Window: uint16(x[13])<<8 | uint16(x[14]), Urgent: uint16(x[15])<<8 | uint16(x[16]),
			Options: mixed(4*(int(x[17])%11), seed+4),
		}
		b, e := WriteTCP(v6, src, dst, h, payload)
		if e != api.OK || total(v6, src, dst, 6, b)%65535 != 0 {
			t.Fatalf("%v: %d, a sum that is not right", h, e)
		}
		g, p, e := ReadTCP(v6, src, dst, b)
		if e != api.OK || !same(g, h) || !bytes.Equal(p, payload) {
			t.Fatalf("%v became %v, %d", h, g, e)
		}
		if again, e := WriteTCP(v6, src, dst, g, p); e != api.OK || !bytes.Equal(again, b) {
			t.Fatalf("% x became % x, %d", b, again, e)
		}
		u := api.UDP{SPort: h.SPort, DPort: h.DPort, NoSum: !v6 && x[18]&1 == 1}
		b, e = WriteUDP(v6, src, dst, u, payload)
		if e != api.OK || !u.NoSum && total(v6, src, dst, 17, b)%65535 != 0 {
			t.Fatalf("%v: %d, a sum that is not right", u, e)
		}
		w, p, e := ReadUDP(v6, src, dst, b)
		if e != api.OK || w != u || !bytes.Equal(p, payload) {
			t.Fatalf("%v became %v, %d", u, w, e)
		}
		if again, e := WriteUDP(v6, src, dst, w, p); e != api.OK || !bytes.Equal(again, b) {
			t.Fatalf("% x became % x, %d", b, again, e)
		}
	}
}

// spare tells a copy of b in memory that goes on behind it, so that one that appends to b is found out.
func spare(b []byte) []byte {
	whole := append(bytes.Clone(b), bytes.Repeat([]byte{0x77}, 64)...)
	return whole[:len(b)]
}

// intact fails the test unless the bytes of b, and those behind it, are as spare laid them.
func intact(t *testing.T, name string, b, was []byte) {
	t.Helper()
	if !bytes.Equal(b, was) || !bytes.Equal(b[:len(b)+64][len(b):], bytes.Repeat([]byte{0x77}, 64)) {
		t.Errorf("%s was changed: % x", name, b[:len(b)+64])
	}
}

// fill lays noughts over all the memory that b may reach.
func fill(b []byte) { clear(b[:cap(b)]) }

// P5.1: what is handed in is not changed, and what is told shares no memory with it, nor the options with the payload.
func TestTCPMemory(t *testing.T) {
	for _, options := range [][]byte{{}, {2, 4, 5, 180}, mixed(40, 1)} {
		for _, payload := range [][]byte{{}, []byte("x"), mixed(33, 2)} {
			want := tcp(false, options, payload)
			in := spare(want)
			h, p, _ := ReadTCP(false, src4, dst4, in)
			_ = append(h.Options, 1, 2, 3)
			_ = append(p, 1, 2, 3)
			intact(t, "what is read", in, want)
			fill(in)
			if !same(h, tcpHeader(options)) || !bytes.Equal(p, payload) {
				t.Errorf("what is told hangs on what was read: %v, % x", h, p)
			}
			fill(h.Options)
			if !bytes.Equal(p, payload) {
				t.Errorf("the payload hangs on the options: % x", p)
			}

			o, q := spare(options), spare(payload)
			b, _ := WriteTCP(false, src4, dst4, tcpHeader(o), q)
			intact(t, "options", o, options)
			intact(t, "payload", q, payload)
			fill(o)
			fill(q)
			if !bytes.Equal(b, want) {
				t.Errorf("what is told hangs on what was written: % x", b)
			}
			fill(b)
			again, _ := WriteTCP(false, src4, dst4, tcpHeader(options), payload)
			if !bytes.Equal(again, want) {
				t.Errorf("what is told is kept: % x", again)
			}
		}
	}
}

// P5.2: what is handed in is not changed, and what is told shares no memory with it.
func TestUDPMemory(t *testing.T) {
	for _, payload := range [][]byte{{}, []byte("x"), mixed(33, 2)} {
		want := udp(false, payload)
		in := spare(want)
		h, p, _ := ReadUDP(false, src4, dst4, in)
		_ = append(p, 1, 2, 3)
		_, _, _ = Ports(in)
		intact(t, "what is read", in, want)
		fill(in)
		if h != udpHeader || !bytes.Equal(p, payload) {
			t.Errorf("what is told hangs on what was read: %v, % x", h, p)
		}

		q := spare(payload)
		b, _ := WriteUDP(false, src4, dst4, udpHeader, q)
		intact(t, "payload", q, payload)
		fill(q)
		if !bytes.Equal(b, want) {
			t.Errorf("what is told hangs on what was written: % x", b)
		}
	}
}

// P5.1, P5.2: bytes that are not there and none are one.
func TestEmpty(t *testing.T) {
	for _, v6 := range both {
		writesTCP(t, v6, tcpHeader(nil), nil, tcp(v6, nil, nil))
		writesTCP(t, v6, tcpHeader([]byte{}), []byte{}, tcp(v6, nil, nil))
		readsTCP(t, v6, tcp(v6, nil, nil), tcpHeader(nil), nil)
		writesUDP(t, v6, udpHeader, nil, udp(v6, nil))
		writesUDP(t, v6, udpHeader, []byte{}, udp(v6, nil))
		readsUDP(t, v6, udp(v6, nil), udpHeader, nil)
	}
}

// P1: no bytes make a call panic, and what is refused is told without anything beside it.
func TestAnyBytes(t *testing.T) {
	for seed := range uint32(20000) {
		b := mixed(int(seed%75), seed)
		for _, v6 := range both {
			src, dst := ends(v6)
			if h, p, e := ReadTCP(v6, src, dst, b); e != api.OK && (!same(h, api.TCP{}) || h.Options != nil || p != nil) {
				t.Fatalf("ReadTCP(% x) = %v, % x, %d", b, h, p, e)
			}
			if h, p, e := ReadUDP(v6, src, dst, b); e != api.OK && (h != api.UDP{} || p != nil) {
				t.Fatalf("ReadUDP(% x) = %v, % x, %d", b, h, p, e)
			}
			_, _, _ = Ports(b)
		}
	}
}
