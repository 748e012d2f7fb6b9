package hash_test

import (
	"bytes"
	"hash/fnv"
	"math"
	"math/big"
	"strings"
	"testing"

	"weighbridge/api"
	"weighbridge/hash"
)

// highest is the highest number of 64 bits.
const highest = math.MaxUint64

// row tells numbers from a seed, one by one.
func row(seed uint64) func() uint64 {
	return func() uint64 {
		seed = seed*6364136223846793005 + 1442695040888963407
		return seed ^ seed>>29
	}
}

// someBytes tells so many bytes of a row.
func someBytes(next func() uint64, n int) []byte {
	b := make([]byte, n)
	for i := range b {
		b[i] = byte(next() >> 24)
	}
	return b
}

// times tells a product modulo 2^64 by integers that have no bound.
func times(a, b uint64) uint64 {
	whole := new(big.Int).Mul(new(big.Int).SetUint64(a), new(big.Int).SetUint64(b))
	return whole.Mod(whole, new(big.Int).Lsh(big.NewInt(1), 64)).Uint64()
}

// bookFnv is a hash of bytes as the chapter's words have it.
func bookFnv(b []byte) uint64 {
	n := uint64(14695981039346656037)
	for _, each := range b {
		n = times(n^uint64(each), 1099511628211)
	}
	return n
}

// bookMix is a number mixed as the chapter's words have it.
func bookMix(n uint64) uint64 {
	n = times(n^n>>30, 0xbf58476d1ce4e5b9)
	n = times(n^n>>27, 0x94d049bb133111eb)
	return n ^ n>>31
}

// someNumbers is numbers about all powers of two, and others.
func someNumbers() []uint64 {
	list := []uint64{0, highest, 14695981039346656037, 1099511628211, 0xbf58476d1ce4e5b9, 0x94d049bb133111eb, 0x123456789abcdef0}
	for bit := range 64 {
		n := uint64(1) << bit
		list = append(list, n-1, n, n+1, -n)
	}
	next := row(7)
	for range 1000 {
		list = append(list, next())
	}
	return list
}

// P12.1: Fnv tells the hash of nothing, and of bytes whose hashes are known.
func TestFnvKnown(t *testing.T) {
	known := []struct {
		text string
		want uint64
	}{
		{"", 14695981039346656037},
		{"a", 0xaf63dc4c8601ec8c},
		{"b", 0xaf63df4c8601f1a5},
		{"foobar", 0x85944171f73967e8},
	}
	for _, k := range known {
		if got := hash.Fnv([]byte(k.text)); got != k.want {
			t.Errorf("%q: %x, want %x", k.text, got, k.want)
		}
	}
	if hash.Fnv(nil) != hash.Fnv([]byte{}) {
		t.Error("a list that is not there and an empty one are not one")
	}
}

// P12.1: Fnv takes each byte, of all 256, and in its place.
func TestFnvEachByte(t *testing.T) {
	for value := range 256 {
		for _, b := range [][]byte{{byte(value)}, {byte(value), 0}, {0, byte(value)}, {0, 0, byte(value), 1, 255}} {
			if got, want := hash.Fnv(b), bookFnv(b); got != want {
				t.Errorf("% x: %x, want %x", b, got, want)
			}
		}
	}
	if hash.Fnv([]byte{1, 2}) == hash.Fnv([]byte{2, 1}) || hash.Fnv([]byte{0}) == hash.Fnv(nil) {
		t.Error("the order of bytes, or a nought, does not count")
	}
}

// P12.1: Fnv takes all bytes of each length.
func TestFnvLengths(t *testing.T) {
	next := row(11)
	for n := range 600 {
		b := someBytes(next, n)
		of := fnv.New64a()
		of.Write(b)
		if got := hash.Fnv(b); got != of.Sum64() || got != bookFnv(b) {
			t.Fatalf("%d bytes: %x, want %x", n, got, of.Sum64())
		}
	}
	long := someBytes(next, 1<<20+3)
	of := fnv.New64a()
	of.Write(long)
	if got := hash.Fnv(long); got != of.Sum64() {
		t.Errorf("%d bytes: %x, want %x", len(long), got, of.Sum64())
	}
}

// P12.1: Mix tells numbers mixed that are known.
func TestMixKnown(t *testing.T) {
	known := []struct{ n, want uint64 }{
		{0, 0},
		{1, 0x5692161d100b05e5},
		{2, 0xdbd238973a2b148a},
		{0x9e3779b97f4a7c15, 0xe220a8397b1dcdaf},
		{1 << 63, 0x25c26ea579cea98a},
		{highest, 0xb4d055fcf2cbbd7b},
	}
	for _, k := range known {
		if got := hash.Mix(k.n); got != k.want {
			t.Errorf("%x: %x, want %x", k.n, got, k.want)
		}
	}
}

// P12.1: Mix does its steps in their order, at all bits.
func TestMixSteps(t *testing.T) {
	for _, n := range someNumbers() {
		if got, want := hash.Mix(n), bookMix(n); got != want {
			t.Errorf("%x: %x, want %x", n, got, want)
		}
	}
}

// inverse tells by what a product with an odd number is undone, modulo 2^64.
func inverse(odd uint64) uint64 {
	whole := new(big.Int).Lsh(big.NewInt(1), 64)
	return new(big.Int).ModInverse(new(big.Int).SetUint64(odd), whole).Uint64()
}

// unshift undoes a number's xor with itself shifted down.
func unshift(n uint64, down uint) uint64 {
	whole := n
	for range 64 / down {
		whole = n ^ whole>>down
	}
	return whole
}

// P12.1: Mix is one to one: each number that is mixed can be told from the answer.
func TestMixOneToOne(t *testing.T) {
	first, second := inverse(0xbf58476d1ce4e5b9), inverse(0x94d049bb133111eb)
	for _, n := range someNumbers() {
		back := times(unshift(hash.Mix(n), 31), second)
		back = times(unshift(back, 27), first)
		if back = unshift(back, 30); back != n {
			t.Errorf("%x is told from what %x becomes", back, n)
		}
	}
}

// P12.1: Seeded tells seeded hashes that are known.
func TestSeededKnown(t *testing.T) {
	known := []struct {
		seed uint64
		text string
		want uint64
	}{
		{0, "", 0xf52a15e9a9b5e89b},
		{0, "a", 0x02c0bdbf481420f8},
		{1, "", 0x10401663822dcddf},
		{1, "a", 0x2770cb32d570de29},
		{7, "\xff\x00\xc3", 0xebd94a6943a468f1},
		{65537, "a-name.of_16char", 0xec431d2a735c0b89},
		{highest, "web1", 0xefc7aebcd0d1d055},
	}
	for _, k := range known {
		if got := hash.Seeded(k.seed, []byte(k.text)); got != k.want {
			t.Errorf("%d, %q: %x, want %x", k.seed, k.text, got, k.want)
		}
	}
}

// P12.1: Seeded tells the hash of bytes, xor the seed mixed, mixed, of each seed and length.
func TestSeeded(t *testing.T) {
	next := row(23)
	for i, seed := range someNumbers() {
		b := someBytes(next, i%70)
		want := bookMix(bookFnv(b) ^ bookMix(seed))
		if got := hash.Seeded(seed, b); got != want {
			t.Errorf("%x, % x: %x, want %x", seed, b, got, want)
		}
	}
	if hash.Seeded(3, nil) != hash.Seeded(3, []byte{}) {
		t.Error("a list that is not there and an empty one are not one")
	}
}

// P12.1: bytes that are handed in are not changed, nor those beside them.
func TestBytesHandedIn(t *testing.T) {
	whole := someBytes(row(31), 64)
	was := bytes.Clone(whole)
	hash.Fnv(whole[8:40])
	hash.Seeded(9, whole[8:40])
	if !bytes.Equal(whole, was) {
		t.Error("bytes were changed")
	}
}

// tuple4 and tuple6 are ordinary tuples of both versions.
var (
	tuple4 = api.Tuple{Proto: api.ProtoTCP, Src: [16]byte{192, 0, 2, 1}, Dst: [16]byte{198, 51, 100, 7}, SPort: 49152, DPort: 443}
	tuple6 = api.Tuple{V6: true, Proto: api.ProtoUDP, Src: [16]byte{0x20, 1, 0xd, 0xb8, 15: 1}, Dst: [16]byte{0x20, 1, 0xd, 0xb8, 0, 0xff, 15: 0x80}, SPort: 53, DPort: 65535}
)

// The bytes of both.
const (
	bytes4 = "\x04\x06\xc0\x00\x02\x01\xc6\x33\x64\x07\xc0\x00\x01\xbb"
	bytes6 = "\x06\x11\x20\x01\x0d\xb8\x00\x00\x00\x00\x00\x00\x00\x00\x00\x00\x00\x01\x20\x01\x0d\xb8\x00\xff\x00\x00\x00\x00\x00\x00\x00\x00\x00\x80\x00\x35\xff\xff"
)

// someTuple tells a tuple of a row, all its bytes at random.
func someTuple(next func() uint64) api.Tuple {
	return api.Tuple{
		V6:    next()>>40&1 == 1,
		Proto: byte(next() >> 30),
		Src:   [16]byte(someBytes(next, 16)),
		Dst:   [16]byte(someBytes(next, 16)),
		SPort: uint16(next() >> 20),
		DPort: uint16(next() >> 20),
	}
}

// bookBytes is a tuple's bytes as the chapter's words have it.
func bookBytes(x api.Tuple) []byte {
	version, size := 4, 4
	if x.V6 {
		version, size = 6, 16
	}
	var b []byte
	b = append(b, byte(version), x.Proto)
	for i := range size {
		b = append(b, x.Src[i])
	}
	for i := range size {
		b = append(b, x.Dst[i])
	}
	for _, port := range []uint16{x.SPort, x.DPort} {
		b = append(b, byte(port/256), byte(port%256))
	}
	return b
}

// P12.2: Bytes tells an ordinary tuple's bytes, and those of one of noughts.
func TestBytesKnown(t *testing.T) {
	if got := hash.Bytes(tuple4); string(got) != bytes4 {
		t.Errorf("IPv4: % x", got)
	}
	if got := hash.Bytes(tuple6); string(got) != bytes6 {
		t.Errorf("IPv6: % x", got)
	}
	if got := hash.Bytes(api.Tuple{}); string(got) != "\x04"+strings.Repeat("\x00", 13) {
		t.Errorf("noughts: % x", got)
	}
	if got := hash.Bytes(api.Tuple{V6: true}); string(got) != "\x06"+strings.Repeat("\x00", 37) {
		t.Errorf("noughts of IPv6: % x", got)
	}
}

// P12.2: Bytes tells whatever tuple's bytes, those too that no flow has.
func TestBytesAny(t *testing.T) {
	next := row(41)
	for range 2000 {
		x := someTuple(next)
		if got, want := hash.Bytes(x), bookBytes(x); !bytes.Equal(got, want) {
			t.Fatalf("%v: % x, want % x", x, got, want)
		}
	}
}

// place is a bit of a tuple, and where it stands in the bytes of an IPv4 and of an IPv6 one (-1: nowhere).
type place struct {
	name     string
	flip     func(x *api.Tuple)
	at4, at6 int
}

// places is a bit of each byte of a tuple.
func places() []place {
	list := []place{
		{"Proto", func(x *api.Tuple) { x.Proto ^= 0x40 }, 1, 1},
		{"SPort's higher byte", func(x *api.Tuple) { x.SPort ^= 0x4000 }, 10, 34},
		{"SPort's lower byte", func(x *api.Tuple) { x.SPort ^= 0x0040 }, 11, 35},
		{"DPort's higher byte", func(x *api.Tuple) { x.DPort ^= 0x4000 }, 12, 36},
		{"DPort's lower byte", func(x *api.Tuple) { x.DPort ^= 0x0040 }, 13, 37},
	}
	for i := range 16 {
		src := place{"Src", func(x *api.Tuple) { x.Src[i] ^= 0x40 }, 2 + i, 2 + i}
		dst := place{"Dst", func(x *api.Tuple) { x.Dst[i] ^= 0x40 }, 6 + i, 18 + i}
		if i >= 4 {
			src.at4, dst.at4 = -1, -1
		}
		list = append(list, src, dst)
	}
	return list
}

// flipped tells a tuple's bytes, one of which has another bit (-1: none has).
func flipped(b string, at int) string {
	list := []byte(b)
	if at >= 0 {
		list[at] ^= 0x40
	}
	return string(list)
}

// P12.2: each byte of a tuple stands at its place in its bytes, and nowhere else; an IPv4 address has its first four bytes alone.
func TestBytesPlaces(t *testing.T) {
	for _, p := range places() {
		x, y := tuple4, tuple6
		p.flip(&x)
		p.flip(&y)
		if got := hash.Bytes(x); string(got) != flipped(bytes4, p.at4) {
			t.Errorf("IPv4, %s: % x", p.name, got)
		}
		if got := hash.Bytes(y); string(got) != flipped(bytes6, p.at6) {
			t.Errorf("IPv6, %s: % x", p.name, got)
		}
	}
}

// P12.2: a tuple's bytes are in memory of their own, each time.
func TestBytesOwn(t *testing.T) {
	for _, x := range []api.Tuple{tuple4, tuple6} {
		first, second := hash.Bytes(x), hash.Bytes(x)
		want := bookBytes(x)
		for i := range first {
			first[i] ^= 0xff
		}
		_ = append(first, 1, 2, 3)
		if !bytes.Equal(second, want) || !bytes.Equal(hash.Bytes(x), want) {
			t.Errorf("%v: bytes share memory", x)
		}
	}
}

// P12.2: Tuple tells hashes that are known.
func TestTupleKnown(t *testing.T) {
	known := []struct {
		x    api.Tuple
		want uint64
	}{
		{tuple4, 0x866cbec76b08a700},
		{tuple6, 0x4f39cc21dddd8487},
		{api.Tuple{}, 0x1f3144006be2c188},
		{api.Tuple{V6: true}, 0x8e85d3e319fa5388},
	}
	for _, k := range known {
		if got := hash.Tuple(k.x); got != k.want {
			t.Errorf("%v: %x, want %x", k.x, got, k.want)
		}
	}
}

// P12.2: Tuple tells the seeded hash of a tuple's bytes, with the seed 0.
func TestTuple(t *testing.T) {
	next := row(53)
	for range 2000 {
		x := someTuple(next)
		want := bookMix(bookFnv(bookBytes(x)))
		if got := hash.Tuple(x); got != want || got != hash.Seeded(0, hash.Bytes(x)) {
			t.Fatalf("%v: %x, want %x", x, got, want)
		}
	}
}

// P12.2: tuples whose bytes are the same have the same hash, whatever else differs; others here have other ones.
func TestTupleSame(t *testing.T) {
	for _, p := range places() {
		x, y := tuple4, tuple6
		p.flip(&x)
		p.flip(&y)
		if same := hash.Tuple(x) == hash.Tuple(tuple4); same != (p.at4 < 0) {
			t.Errorf("IPv4, %s: the same: %v", p.name, same)
		}
		if hash.Tuple(y) == hash.Tuple(tuple6) {
			t.Errorf("IPv6, %s: the same", p.name)
		}
	}
	other := tuple4
	other.V6 = true
	if hash.Tuple(other) == hash.Tuple(tuple4) {
		t.Error("both versions have one hash")
	}
}

// P12.2: Name tells the seeded hash of a name's bytes, with each seed.
func TestName(t *testing.T) {
	names := []string{"", "a", "web1", "web2", "a-name.of_16char", "\x00", "\xff\x00\xc3", "wäg\u2028€", strings.Repeat("long", 1000)}
	for _, seed := range someNumbers() {
		for _, name := range names {
			want := bookMix(fnvOf(name) ^ bookMix(seed))
			if got := hash.Name(seed, name); got != want || got != hash.Seeded(seed, []byte(name)) {
				t.Fatalf("%x, %q: %x, want %x", seed, name, got, want)
			}
		}
	}
	if got := hash.Name(65537, "a-name.of_16char"); got != 0xec431d2a735c0b89 {
		t.Errorf("%x", got)
	}
	if got := hash.Name(0, ""); got != 0xf52a15e9a9b5e89b {
		t.Errorf("%x", got)
	}
}

// fnvOf tells a text's hash by the library.
func fnvOf(text string) uint64 {
	of := fnv.New64a()
	of.Write([]byte(text))
	return of.Sum64()
}

// P12.2: one name has another hash with each of many seeds, and with one seed each of many names has another one.
func TestNameApart(t *testing.T) {
	seen := make(map[uint64]uint64)
	for seed := range uint64(5000) {
		n := hash.Name(seed, "web1")
		if was, ok := seen[n]; ok {
			t.Fatalf("the seeds %d and %d tell one hash", was, seed)
		}
		seen[n] = seed
	}
	named := make(map[uint64]string)
	for i := range 5000 {
		name := "b" + strings.Repeat("x", i%7) + string(rune('0'+i%10)) + string(rune('a'+i/10%26)) + string(rune('a'+i/260))
		n := hash.Name(5, name)
		if was, ok := named[n]; ok {
			t.Fatalf("%q and %q have one hash", was, name)
		}
		named[n] = name
	}
}
