package sums_test

import (
	"bytes"
	"testing"

	"cashbox/sums"
)

// plain is the sum as the document's words say it, bit by bit, of bytes behind others whose sum is given.
func plain(sum uint32, b []byte) uint32 {
	rest := ^sum
	for _, c := range b {
		rest ^= uint32(c)
		for range 8 {
			low := rest & 1
			rest >>= 1
			if low == 1 {
				rest ^= 0xEDB88320
			}
		}
	}
	return ^rest
}

// dice answers numbers that look thrown, the same ones in each run.
func dice(seed uint32) func() uint32 {
	return func() uint32 {
		seed = seed*1664525 + 1013904223
		return seed>>16 ^ seed<<16
	}
}

func thrown(n int, seed uint32) []byte {
	next := dice(seed)
	b := make([]byte, n)
	for i := range b {
		b[i] = byte(next())
	}
	return b
}

// sealed is b sealed as the document's words say it.
func sealed(b []byte) []byte {
	s := plain(0, b)
	return append(bytes.Clone(b), byte(s), byte(s>>8), byte(s>>16), byte(s>>24))
}

// samples are bytes of many kinds and lengths.
func samples() [][]byte {
	l := [][]byte{nil, {}, []byte("123456789"), []byte("a sum of pieces is that of the whole")}
	for c := range 256 {
		l = append(l, []byte{byte(c)}, []byte{0, byte(c)}, []byte{byte(c), 0})
	}
	for n := range 150 {
		l = append(l, make([]byte, n), bytes.Repeat([]byte{0xFF}, n), thrown(n, uint32(n)))
	}
	for _, n := range []int{255, 256, 257, 511, 512, 1000, 4095, 4096, 4097, 65535, 65536, 65537} {
		l = append(l, thrown(n, uint32(n)))
	}
	return l
}

// P1.1

func TestSumOfKnownBytes(t *testing.T) {
	known := []struct {
		bytes string
		sum   uint32
	}{
		{"", 0},
		{"123456789", 0xCBF43926},
		{"a", 0xE8B7BE43},
		{"abc", 0x352441C2},
		{"\x00", 0xD202EF8D},
		{"\xFF", 0xFF000000},
		{"\x00\x00\x00\x00", 0x2144DF1C},
		{"\xFF\xFF\xFF\xFF", 0xFFFFFFFF},
		{"The quick brown fox jumps over the lazy dog", 0x414FA339},
	}
	for _, k := range known {
		if got := sums.Sum([]byte(k.bytes)); got != k.sum {
			t.Errorf("the sum of %q is %08X, want %08X", k.bytes, got, k.sum)
		}
	}
	if sums.Sum(nil) != 0 || sums.Sum([]byte{}) != 0 {
		t.Error("the sum of no bytes is not 0")
	}
}

func TestSumIsThatOfTheWords(t *testing.T) {
	for _, b := range samples() {
		if got, want := sums.Sum(b), plain(0, b); got != want {
			t.Errorf("the sum of %d bytes is %08X, want %08X", len(b), got, want)
		}
	}
	long := thrown(1<<20+3, 7)
	if got, want := sums.Sum(long), plain(0, long); got != want {
		t.Errorf("the sum of %d bytes is %08X, want %08X", len(long), got, want)
	}
}

func TestSumGoesOverItsBytesAlone(t *testing.T) {
	room := thrown(40, 1)
	for n := range 20 {
		want := plain(0, room[5:5+n])
		if got := sums.Sum(room[5 : 5+n]); got != want {
			t.Errorf("%d bytes within others: %08X, want %08X", n, got, want)
		}
	}
}

func TestJoinAtEachPlace(t *testing.T) {
	for n := range 70 {
		b := thrown(n, uint32(n)+3)
		for cut := range n + 1 {
			if got, want := sums.Join(sums.Sum(b[:cut]), b[cut:]), plain(0, b); got != want {
				t.Errorf("%d bytes cut at %d: %08X, want %08X", n, cut, got, want)
			}
		}
	}
}

func TestJoinOfAnyNumber(t *testing.T) {
	next := dice(11)
	numbers := []uint32{0, 1, 2, 0x7FFFFFFF, 0x80000000, 0xFFFFFFFE, 0xFFFFFFFF, 0xEDB88320, 0xCBF43926}
	for bit := range 32 {
		numbers = append(numbers, 1<<bit, ^uint32(1<<bit))
	}
	for range 500 {
		numbers = append(numbers, next())
	}
	for _, sum := range numbers {
		for _, n := range []int{0, 1, 2, 3, 4, 5, 8, 13, 64, 300} {
			b := thrown(n, sum)
			if got, want := sums.Join(sum, b), plain(sum, b); got != want {
				t.Errorf("Join(%08X, %d bytes) is %08X, want %08X", sum, n, got, want)
			}
		}
		if sums.Join(sum, nil) != sum || sums.Join(sum, []byte{}) != sum {
			t.Errorf("Join(%08X, no bytes) is another number", sum)
		}
	}
}

// P1.2

func TestSealPutsTheSumBehindLowestFirst(t *testing.T) {
	want := append([]byte("123456789"), 0x26, 0x39, 0xF4, 0xCB)
	if got := sums.Seal([]byte("123456789")); !bytes.Equal(got, want) {
		t.Errorf("got % X, want % X", got, want)
	}
	if got := sums.Seal([]byte{0}); !bytes.Equal(got, []byte{0, 0x8D, 0xEF, 0x02, 0xD2}) {
		t.Errorf("a nought is sealed as % X", got)
	}
	for _, none := range [][]byte{nil, {}} {
		if got := sums.Seal(none); !bytes.Equal(got, make([]byte, 4)) {
			t.Errorf("no bytes are sealed as % X", got)
		}
	}
	for _, b := range samples() {
		if got, want := sums.Seal(b), sealed(b); !bytes.Equal(got, want) {
			t.Errorf("%d bytes are sealed as % X, want % X", len(b), got, want)
		}
	}
}

func TestOpenOfSealedBytes(t *testing.T) {
	for _, b := range samples() {
		got, ok := sums.Open(sealed(b))
		if !ok || !bytes.Equal(got, b) {
			t.Errorf("%d sealed bytes: % X, %v", len(b), got, ok)
		}
	}
	got, ok := sums.Open([]byte{0, 0, 0, 0})
	if !ok || len(got) != 0 {
		t.Errorf("no bytes, sealed: % X, %v", got, ok)
	}
}

func refused(t *testing.T, b []byte) {
	t.Helper()
	if got, ok := sums.Open(b); ok || len(got) != 0 {
		t.Errorf("Open(% X) answers % X, %v", b, got, ok)
	}
}

func TestOpenOfFewerThanFourBytes(t *testing.T) {
	refused(t, nil)
	refused(t, []byte{})
	refused(t, []byte{0, 0, 0})
	for c := range 256 {
		refused(t, []byte{byte(c)})
		refused(t, []byte{byte(c), 0})
		refused(t, []byte{0, byte(c), 0xFF})
	}
	whole := sealed(nil)
	for n := range len(whole) {
		refused(t, whole[:n])
	}
}

func TestOpenOfOtherFourBytes(t *testing.T) {
	for at := range 4 {
		for c := 1; c < 256; c++ {
			b := make([]byte, 4)
			b[at] = byte(c)
			refused(t, b)
		}
	}
	refused(t, []byte{0xFF, 0xFF, 0xFF, 0xFF})
}

func TestOpenOfAnotherSum(t *testing.T) {
	next := dice(5)
	for n := range 80 {
		s := sealed(thrown(n, uint32(n)))
		for at := n; at < n+4; at++ {
			for c := 1; c < 256; c++ {
				s[at] ^= byte(c)
				refused(t, s)
				s[at] ^= byte(c)
			}
		}
		for range 20 {
			x := next()
			if x == 0 {
				continue
			}
			other := bytes.Clone(s)
			for i := range 4 {
				other[n+i] ^= byte(x >> (8 * i))
			}
			refused(t, other)
		}
	}
}

func TestOpenOfSumsInAnotherForm(t *testing.T) {
	b := []byte("123456789")
	forms := [][]byte{
		{0xCB, 0xF4, 0x39, 0x26},             // the highest byte first
		{0xD9, 0xC6, 0x0B, 0x34},             // the remainder itself
		{0x39, 0x26, 0xCB, 0xF4},             // the halves' bytes turned
		{0, 0, 0, 0},                         // none
		{0x26, 0x39, 0xF4, 0xCB, 0},          // a byte more
		{0x26, 0x39, 0xF4},                   // a byte fewer
		{0, 0x26, 0x39, 0xF4, 0xCB},          // a nought at the seam
		{0x26, 0x39, 0xF4, 0xCB, 0, 0, 0, 0}, // noughts behind
	}
	for _, f := range forms {
		refused(t, append(bytes.Clone(b), f...))
	}
	refused(t, append([]byte{0x26, 0x39, 0xF4, 0xCB}, b...))
	refused(t, b)
	refused(t, sealed(b)[1:])
}

func TestOpenIsTheWordsOfAnyBytes(t *testing.T) {
	next := dice(17)
	for range 20000 {
		b := thrown(int(next()%24), next())
		if len(b) < 4 {
			refused(t, b)
			continue
		}
		body := b[:len(b)-4]
		if bytes.Equal(b, sealed(body)) {
			continue
		}
		refused(t, b)
		got, ok := sums.Open(sealed(body))
		if !ok || !bytes.Equal(got, body) {
			t.Errorf("% X sealed: % X, %v", body, got, ok)
		}
	}
}

// Memory: rule R4.

// withRoom is b with spare room behind it, and all of that memory.
func withRoom(b []byte, spare int) (b2, all []byte) {
	all = append(bytes.Clone(b), bytes.Repeat([]byte{0xA5}, spare)...)
	return all[:len(b)], all
}

// spoil overwrites b, its spare room too.
func spoil(b []byte) {
	b = b[:cap(b)]
	for i := range b {
		b[i] ^= 0xFF
	}
}

func TestNothingHandedInIsChanged(t *testing.T) {
	for _, n := range []int{0, 1, 3, 4, 5, 9, 60, 64, 200} {
		for _, spare := range []int{0, 1, 3, 4, 5, 32} {
			b, all := withRoom(thrown(n, uint32(n)), spare)
			before := bytes.Clone(all)
			sums.Sum(b)
			sums.Join(7, b)
			sums.Seal(b)
			sums.Open(b)
			if !bytes.Equal(all, before) {
				t.Fatalf("%d bytes with room for %d were changed", n, spare)
			}
			s, all := withRoom(sealed(b), spare)
			before = bytes.Clone(all)
			if _, ok := sums.Open(s); !ok || !bytes.Equal(all, before) {
				t.Fatalf("%d sealed bytes with room for %d were changed", n, spare)
			}
		}
	}
}

func TestSealAnswersNewMemory(t *testing.T) {
	for _, n := range []int{0, 1, 4, 9, 60, 64, 200} {
		for _, spare := range []int{0, 4, 64} {
			b, all := withRoom(thrown(n, uint32(n)), spare)
			before := bytes.Clone(all)
			one, two := sums.Seal(b), sums.Seal(b)
			spoil(one)
			if !bytes.Equal(all, before) {
				t.Errorf("Seal of %d bytes with room for %d shares memory with them", n, spare)
			}
			if !bytes.Equal(two, sealed(b)) {
				t.Errorf("two answers of Seal share memory: %d bytes", n)
			}
			spoil(all)
			if !bytes.Equal(two, sealed(before[:n])) {
				t.Errorf("an answer of Seal hangs on what was handed in: %d bytes", n)
			}
		}
	}
}

func TestOpenAnswersNewMemory(t *testing.T) {
	for _, n := range []int{0, 1, 4, 9, 60, 64, 200} {
		body := thrown(n, uint32(n))
		s, all := withRoom(sealed(body), 16)
		before := bytes.Clone(all)
		one, _ := sums.Open(s)
		two, _ := sums.Open(s)
		_ = append(one, 1, 2, 3, 4, 5)
		spoil(one)
		if !bytes.Equal(all, before) {
			t.Errorf("Open of %d bytes shares memory with them", n)
		}
		if !bytes.Equal(two, body) {
			t.Errorf("two answers of Open share memory: %d bytes", n)
		}
		spoil(all)
		if !bytes.Equal(two, body) {
			t.Errorf("an answer of Open hangs on what was handed in: %d bytes", n)
		}
	}
}

func TestNothingHangsOnCallsBefore(t *testing.T) {
	b := []byte("123456789")
	for range 50 {
		sums.Join(0xDEADBEEF, thrown(33, 1))
		refused(t, []byte{1, 2, 3, 4, 5})
		if sums.Sum(b) != 0xCBF43926 || sums.Join(0xCBF43926, nil) != 0xCBF43926 {
			t.Fatal("the sum is another one")
		}
		if got, ok := sums.Open(sums.Seal(b)); !ok || !bytes.Equal(got, b) {
			t.Fatal("sealed bytes are others", got, ok)
		}
	}
}

// P1.3

func TestSumsOfPiecesHoweverCut(t *testing.T) {
	b := thrown(24, 2)
	whole := sums.Sum(b)
	for first := range len(b) + 1 {
		for second := first; second <= len(b); second++ {
			sum := sums.Join(sums.Join(sums.Sum(b[:first]), b[first:second]), b[second:])
			if sum != whole {
				t.Errorf("cut at %d and %d: %08X, want %08X", first, second, sum, whole)
			}
		}
	}
	for _, long := range [][]byte{b, thrown(1000, 3), thrown(4097, 4)} {
		for piece := 1; piece < 70; piece++ {
			var sum uint32
			for at := 0; at < len(long); at += piece {
				sum = sums.Join(sum, long[at:min(at+piece, len(long))])
			}
			if sum != sums.Sum(long) {
				t.Errorf("%d bytes in pieces of %d: %08X", len(long), piece, sum)
			}
		}
	}
}

func TestOpenOfSealAreTheBytes(t *testing.T) {
	for _, b := range samples() {
		got, ok := sums.Open(sums.Seal(b))
		if !ok || !bytes.Equal(got, b) {
			t.Errorf("%d bytes: % X, %v", len(b), got, ok)
		}
		twice, ok := sums.Open(sums.Seal(sums.Seal(b)))
		if !ok || !bytes.Equal(twice, sums.Seal(b)) {
			t.Errorf("%d bytes, sealed twice: % X, %v", len(b), twice, ok)
		}
	}
}

// changed is s with the bits of mask turned from bit first on, byte by byte, each byte's lowest bit first.
func changed(s []byte, first int, mask uint32) []byte {
	out := bytes.Clone(s)
	for i := range 32 {
		if mask>>i&1 == 1 {
			bit := first + i
			out[bit/8] ^= 1 << (bit % 8)
		}
	}
	return out
}

// masks are changes of which the first bit and the last are that far apart.
func masks(apart int, next func() uint32) []uint32 {
	ends := uint32(1) | 1<<apart
	within := ends | (1<<apart - 1)
	l := []uint32{ends, within, ends | 0x55555555&within, ends | 0xEDB88320&within, ends | 0xDB710641&within}
	for range 6 {
		l = append(l, ends|next()&within)
	}
	return l
}

func TestChangesOfAtMost31ApartAreSeen(t *testing.T) {
	next := dice(23)
	for _, n := range []int{0, 1, 2, 3, 4, 5, 8, 9, 16, 45, 60} {
		s := sums.Seal(thrown(n, uint32(n)+9))
		bits := 8 * len(s)
		for first := range bits {
			for apart := 0; apart <= 31 && first+apart < bits; apart++ {
				for _, mask := range masks(apart, next) {
					refused(t, changed(s, first, mask))
				}
			}
		}
	}
}

func TestAllSmallChangesAreSeen(t *testing.T) {
	s := sums.Seal([]byte("seam"))
	for first := range 8 * len(s) {
		for mask := uint32(1); mask < 1<<10; mask += 2 {
			if first+9 < 8*len(s) {
				refused(t, changed(s, first, mask))
			}
		}
	}
}

func TestChangesOverTheSeamAreSeen(t *testing.T) {
	next := dice(29)
	for _, n := range []int{1, 4, 9, 64, 300} {
		s := sums.Seal(thrown(n, uint32(n)))
		seam := 8 * n
		for first := max(0, seam-31); first < seam; first++ {
			for apart := seam - first; apart <= 31; apart++ {
				for range 40 {
					ends := uint32(1) | 1<<apart
					refused(t, changed(s, first, ends|next()&(1<<apart-1)))
				}
			}
		}
	}
}
