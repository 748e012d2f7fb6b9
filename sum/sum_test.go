package sum

import (
	"bytes"
	"math"
	"testing"

	"weighbridge/api"
)

// folded tells what numbers come to in ones' complement, by the residue to 65535: a way of its own to hold the package's sums against.
func folded(words ...int) uint16 {
	total := 0
	for _, w := range words {
		total += w
	}
	if total == 0 {
		return 0
	}
	return uint16((total-1)%65535 + 1)
}

// wordsOf tells the words of bytes, an odd last one times 256.
func wordsOf(b []byte) []int {
	var words []int
	for i, x := range b {
		if i%2 == 0 {
			words = append(words, int(x)*256)
		} else {
			words[i/2] += int(x)
		}
	}
	return words
}

// mixed tells n bytes that differ, the same ones each time.
func mixed(n int, seed uint32) []byte {
	b := make([]byte, n)
	for i := range b {
		seed = seed*1664525 + 1013904223
		b[i] = byte(seed >> 24)
	}
	return b
}

// samples tells bytes of all lengths that matter, with sums that wrap round and sums that do not.
func samples() [][]byte {
	all := [][]byte{nil, {}, {0}, {0xff}, {0, 0}, {0xff, 0xff}, {0xff, 0xff, 0xff}, {0xff, 0xff, 0, 1}, {0xff, 0xfe, 0, 1}, {0, 0, 0, 0, 0}}
	for n := range 40 {
		all = append(all, mixed(n, uint32(n)), bytes.Repeat([]byte{0xff}, n))
	}
	return append(all, mixed(1599, 7), mixed(1600, 8), bytes.Repeat([]byte{0xff}, 70001), mixed(200001, 9))
}

func TestOf(t *testing.T) {
	for _, x := range []struct {
		b    []byte
		want uint16
	}{
		{nil, 0xffff},
		{[]byte{}, 0xffff},
		{[]byte{0}, 0xffff},
		{[]byte{0, 0, 0}, 0xffff},
		{[]byte{0xff}, 0x00ff},
		{[]byte{0, 0xff}, 0xff00},
		{[]byte{0xff, 0xff}, 0},
		{[]byte{0xff, 0xff, 0xff, 0xff}, 0},
		{[]byte{0xff, 0xfe, 0, 1}, 0},
		{[]byte{0xff, 0xff, 0, 1}, 0xfffe},
		{[]byte{0, 1, 0xf2, 3, 0xf4, 0xf5, 0xf6, 0xf7}, 0x220d},
		{[]byte{1, 2, 3}, 0xfbfd},
	} {
		if got := Of(x.b); got != x.want {
			t.Errorf("Of(% x) = %04x, want %04x", x.b, got, x.want)
		}
	}
	for _, b := range samples() {
		if got, want := Of(b), 65535-folded(wordsOf(b)...); got != want {
			t.Errorf("Of of %d bytes = %04x, want %04x", len(b), got, want)
		}
		if Of(b) != End(Add(api.Part{}, b)) {
			t.Errorf("Of of %d bytes is not End of Add of the zero Part", len(b))
		}
	}
}

func TestAdd(t *testing.T) {
	for _, x := range []struct {
		p    api.Part
		b    []byte
		want api.Part
	}{
		{api.Part{}, nil, api.Part{}},
		{api.Part{Sum: 0x1234}, nil, api.Part{Sum: 0x1234}},
		{api.Part{Sum: 0x1200, Odd: true}, nil, api.Part{Sum: 0x1200, Odd: true}},
		{api.Part{Sum: 0x1200, Odd: true}, []byte{}, api.Part{Sum: 0x1200, Odd: true}},
		{api.Part{}, []byte{1}, api.Part{Sum: 0x100, Odd: true}},
		{api.Part{}, []byte{0}, api.Part{Odd: true}},
		{api.Part{}, []byte{1, 2}, api.Part{Sum: 0x102}},
		{api.Part{Sum: 0x100, Odd: true}, []byte{2}, api.Part{Sum: 0x102}},
		{api.Part{Sum: 0x100, Odd: true}, []byte{2, 3}, api.Part{Sum: 0x402, Odd: true}},
		{api.Part{Sum: 0x100, Odd: true}, []byte{2, 3, 4}, api.Part{Sum: 0x406}},
		{api.Part{Sum: 0xffff}, []byte{0, 0}, api.Part{Sum: 0xffff}},
		{api.Part{Sum: 0xffff}, []byte{0, 1}, api.Part{Sum: 1}},
		{api.Part{Sum: 0xffff}, []byte{0xff, 0xff}, api.Part{Sum: 0xffff}},
		{api.Part{Sum: 0xffff, Odd: true}, []byte{0xff}, api.Part{Sum: 0xff}},
		{api.Part{Sum: 0xff01, Odd: true}, []byte{0xff}, api.Part{Sum: 1}},
		{api.Part{Sum: 0xff00, Odd: true}, []byte{0xff}, api.Part{Sum: 0xffff}},
	} {
		if got := Add(x.p, x.b); got != x.want {
			t.Errorf("Add(%v, % x) = %v, want %v", x.p, x.b, got, x.want)
		}
	}
}

// TestAddCut: bytes may be cut anywhere, their sum is the same.
func TestAddCut(t *testing.T) {
	for n := range 24 {
		for _, b := range [][]byte{mixed(n, uint32(n)), bytes.Repeat([]byte{0xff}, n)} {
			want := api.Part{Sum: folded(wordsOf(b)...), Odd: n%2 == 1}
			for i := range n + 1 {
				for j := i; j <= n; j++ {
					if got := Add(Add(Add(api.Part{}, b[:i]), b[i:j]), b[j:]); got != want {
						t.Fatalf("% x cut at %d and %d: %v, want %v", b, i, j, got, want)
					}
				}
			}
		}
	}
	long := mixed(1601, 3)
	var p api.Part
	for i := range long {
		p = Add(p, long[i:i+1])
	}
	if want := (api.Part{Sum: folded(wordsOf(long)...), Odd: true}); p != want {
		t.Errorf("byte by byte: %v, want %v", p, want)
	}
}

func TestAddLeavesBytes(t *testing.T) {
	for n := range 6 {
		b := mixed(n, 5)
		kept := bytes.Clone(b)
		Add(api.Part{Odd: true}, b)
		Of(b)
		if !bytes.Equal(b, kept) {
			t.Errorf("% x became % x", kept, b)
		}
	}
}

func TestEnd(t *testing.T) {
	for s := range 65536 {
		for _, odd := range []bool{false, true} {
			if got := End(api.Part{Sum: uint16(s), Odd: odd}); int(got) != 65535-s {
				t.Fatalf("End of %04x = %04x", s, got)
			}
		}
	}
}

// TestOfWithSum: the words of bytes and their checksum come to 65535.
func TestOfWithSum(t *testing.T) {
	for _, b := range samples() {
		words := append(wordsOf(b), int(Of(b)))
		if got := folded(words...); got != 65535 {
			t.Errorf("%d bytes with their checksum: %04x", len(b), got)
		}
	}
}

// header tells a pseudo header's bytes as the chapter lists them, its length with none of the signs that an int may have.
func header(v6 bool, src, dst [16]byte, proto uint8, length uint64) []byte {
	if v6 {
		b := append(append([]byte{}, src[:]...), dst[:]...)
		return append(b, byte(length>>24), byte(length>>16), byte(length>>8), byte(length), 0, 0, 0, proto)
	}
	b := append(append([]byte{}, src[:4]...), dst[:4]...)
	return append(b, 0, proto, byte(length>>8), byte(length))
}

func TestPseudo(t *testing.T) {
	src, dst := [16]byte(mixed(16, 1)), [16]byte(mixed(16, 2))
	var ones [16]byte
	copy(ones[:], bytes.Repeat([]byte{0xff}, 16))
	lengths := []int{0, 1, 8, 255, 256, 1600, 65535, 65536, 65537, 1 << 24, math.MaxInt32, math.MaxUint32, math.MaxUint32 + 1, math.MaxUint32 + 10, math.MaxInt, -1, -2, -65535, -65536, -65537, math.MinInt32, math.MinInt}
	for _, a := range [][2][16]byte{{src, dst}, {dst, src}, {ones, ones}, {ones, {}}, {}} {
		for _, length := range lengths {
			for _, proto := range []uint8{0, 1, 6, 17, 58, 255} {
				for _, v6 := range []bool{false, true} {
					b := header(v6, a[0], a[1], proto, uint64(max(length, 0)))
					want := api.Part{Sum: folded(wordsOf(b)...)}
					if got := Pseudo(v6, a[0], a[1], proto, length); got != want {
						t.Errorf("Pseudo(%v, %x, %x, %d, %d) = %v, want %v", v6, a[0], a[1], proto, length, got, want)
					}
				}
			}
		}
	}
}

func TestPseudoByHand(t *testing.T) {
	src, dst := [16]byte{10, 0, 0, 1}, [16]byte{10, 0, 0, 2}
	for _, x := range []struct {
		v6     bool
		proto  uint8
		length int
		want   uint16
	}{
		{false, 17, 9, 0x141d},
		{true, 17, 9, 0x141d},
		{false, 6, 65537, 0x140a},
		{true, 6, 65537, 0x140b},
		{false, 6, 65536, 0x1409},
		{true, 6, 1 << 32, 0x1409},
		{true, 6, 1<<32 + 1, 0x140a},
		{false, 6, -1, 0x1409},
		{true, 6, -1, 0x1409},
		{false, 0, 0, 0x1403},
	} {
		if got := Pseudo(x.v6, src, dst, x.proto, x.length); got != (api.Part{Sum: x.want}) {
			t.Errorf("Pseudo(%v, .., %d, %d) = %v, want %04x", x.v6, x.proto, x.length, got, x.want)
		}
	}
	src[4], dst[15] = 1, 2
	if got := Pseudo(false, src, dst, 17, 9); got != (api.Part{Sum: 0x141d}) {
		t.Errorf("IPv4's addresses are more than their first four bytes: %v", got)
	}
	if got := Pseudo(true, src, dst, 17, 9); got != (api.Part{Sum: 0x151f}) {
		t.Errorf("IPv6's addresses are not whole: %v", got)
	}
}

// TestDatagram: a pseudo header, UDP's header and an odd row of bytes behind them, summed part by part.
func TestDatagram(t *testing.T) {
	src, dst := [16]byte{192, 168, 0, 31}, [16]byte{192, 168, 0, 30}
	udp := []byte{0, 20, 0, 10, 0, 10, 0, 0, 'H', 'i'}
	p := Add(Pseudo(false, src, dst, 17, len(udp)), udp)
	if got := End(p); got != 0x35c5 {
		t.Errorf("%04x", got)
	}
}

func TestUpdate(t *testing.T) {
	for _, x := range [][4]uint16{
		{0xdd2f, 0x5555, 0x3285, 0x0000},
		{0xfeff, 0x0100, 0x0200, 0xfdff},
		{0, 1, 1, 0},
		{0xffff, 0, 0, 0},
		{0, 0, 0, 0},
		{0, 0xffff, 0xffff, 0},
		{0xffff, 0xffff, 0, 0xffff},
		{0xffff, 0, 0xffff, 0},
		{0xfeff, 0x0100, 0, 0},
		{0, 0xffff, 0, 0},
	} {
		if got := Update(x[0], x[1], x[2]); got != x[3] {
			t.Errorf("Update(%04x, %04x, %04x) = %04x, want %04x", x[0], x[1], x[2], got, x[3])
		}
	}
}

// TestUpdateByFormula: at the edges of all three numbers, what the chapter's words come to.
func TestUpdateByFormula(t *testing.T) {
	edges := []uint16{0, 1, 2, 0xff, 0x100, 0x7fff, 0x8000, 0x8001, 0xfffe, 0xffff}
	for _, sum := range edges {
		for _, from := range edges {
			for to := range 65536 {
				want := 65535 - folded(65535-int(sum), 65535-int(from), to)
				if got := Update(sum, from, uint16(to)); got != want {
					t.Fatalf("Update(%04x, %04x, %04x) = %04x, want %04x", sum, from, to, got, want)
				}
			}
		}
	}
}

// TestUpdateFollows: a word at an even place changes, and the checksum is that of the new bytes.
func TestUpdateFollows(t *testing.T) {
	for n := 4; n < 24; n++ {
		for i := 0; i+1 < n; i += 2 {
			for k, to := range []uint16{0, 1, 0x1234, 0xff00, 0xffff} {
				b := mixed(n, uint32(n+k))
				from, sum := uint16(b[i])<<8|uint16(b[i+1]), Of(b)
				b[i], b[i+1] = byte(to>>8), byte(to)
				if got, want := Update(sum, from, to), Of(b); got != want {
					t.Errorf("%d bytes, word at %d: %04x, want %04x", n, i, got, want)
				}
			}
		}
	}
}
