package pack_test

import (
	"bytes"
	"math"
	"slices"
	"testing"

	"cashbox/api"
	"cashbox/pack"
)

// dice answers numbers that look thrown, the same ones in each run.
func dice(seed uint64) func() uint64 {
	return func() uint64 {
		seed = seed*6364136223846793005 + 1442695040888963407
		return seed>>29 ^ seed<<35
	}
}

func thrown(n int, seed uint64) []byte {
	next := dice(seed)
	b := make([]byte, n)
	for i := range b {
		b[i] = byte(next())
	}
	return b
}

// greatest is the greatest number of w bytes.
func greatest(w int) int {
	n := 1
	for range w {
		n *= 256
	}
	return n - 1
}

// digits are n's w bytes as the document's words say them.
func digits(n, w int) []byte {
	b := make([]byte, w)
	for i := range b {
		b[i] = byte(n % 256)
		n /= 256
	}
	return b
}

// numbers are some of w bytes, the edges among them.
func numbers(w int) []int {
	most := greatest(w)
	l := []int{0, 1, 2, 127, 128, 129, 254, 255, most, most - 1, most / 2, most/2 + 1, most / 256, most - 255}
	for bit := range 8 * w {
		l = append(l, 1<<bit, most-1<<bit, 1<<bit|1)
	}
	next := dice(uint64(w))
	for range 50 {
		l = append(l, int(next()%uint64(most+1)))
	}
	return slices.DeleteFunc(l, func(n int) bool { return n < 0 || n > most })
}

// wrongWidths are those that no number has.
func wrongWidths() []int {
	return []int{0, -1, -2, -5, -6, -8, -64, 7, 8, 9, 16, 63, 64, 65, 256, 257, 1 << 32, 1<<32 + 1, 1<<61 + 1, math.MaxInt, math.MinInt, math.MinInt + 1}
}

// wrongNumbers are none of w bytes.
func wrongNumbers(w int) []int {
	over := greatest(w) + 1
	return []int{-1, -2, -255, -256, -257, -over, -over - 1, 1 - over, math.MinInt, math.MinInt + 1, over, over + 1, 2*over - 1, 2 * over, 256*over - 1, math.MaxInt, math.MaxInt - 1, math.MaxInt - over}
}

// P2.1: Fits

func TestFitsAtTheEdges(t *testing.T) {
	known := []struct{ w, most int }{{1, 255}, {2, 65535}, {3, 16777215}, {4, 4294967295}, {5, 1099511627775}, {6, 281474976710655}}
	for _, k := range known {
		for _, n := range []int{0, 1, k.most - 1, k.most} {
			if !pack.Fits(n, k.w) {
				t.Errorf("%d is no number of %d bytes", n, k.w)
			}
		}
		for _, n := range []int{-1, k.most + 1, k.most + 2} {
			if pack.Fits(n, k.w) {
				t.Errorf("%d is a number of %d bytes", n, k.w)
			}
		}
	}
}

func TestFitsOfManyNumbers(t *testing.T) {
	for w := 1; w <= 6; w++ {
		for _, n := range numbers(w) {
			if !pack.Fits(n, w) {
				t.Errorf("%d is no number of %d bytes", n, w)
			}
		}
		for _, n := range wrongNumbers(w) {
			if pack.Fits(n, w) {
				t.Errorf("%d is a number of %d bytes", n, w)
			}
		}
	}
}

func TestFitsOfWidthsThatAreNone(t *testing.T) {
	for _, w := range wrongWidths() {
		for _, n := range []int{0, 1, 255, -1, greatest(6), greatest(6) + 1, math.MaxInt, math.MinInt} {
			if pack.Fits(n, w) {
				t.Errorf("%d is a number of %d bytes", n, w)
			}
		}
	}
}

// P2.1: Put

func put(t *testing.T, b []byte, n, w int) []byte {
	t.Helper()
	got, e := pack.Put(b, n, w)
	if e != api.OK {
		t.Fatalf("Put(%d bytes, %d, %d): %v", len(b), n, w, e)
	}
	return got
}

func TestPutOfKnownNumbers(t *testing.T) {
	known := []struct {
		ahead []byte
		n, w  int
		want  []byte
	}{
		{nil, 258, 3, []byte{2, 1, 0}},
		{[]byte{}, 258, 3, []byte{2, 1, 0}},
		{nil, 0, 1, []byte{0}},
		{nil, 255, 1, []byte{255}},
		{nil, 256, 2, []byte{0, 1}},
		{nil, 0x010203040506, 6, []byte{6, 5, 4, 3, 2, 1}},
		{nil, 0xFFFFFFFFFFFF, 6, []byte{255, 255, 255, 255, 255, 255}},
		{nil, 0x80, 6, []byte{0x80, 0, 0, 0, 0, 0}},
		{nil, 0x8000000000, 5, []byte{0, 0, 0, 0, 0x80}},
		{[]byte{9, 8, 7}, 258, 2, []byte{9, 8, 7, 2, 1}},
		{[]byte{0}, 0, 4, []byte{0, 0, 0, 0, 0}},
	}
	for _, k := range known {
		if got := put(t, k.ahead, k.n, k.w); !bytes.Equal(got, k.want) {
			t.Errorf("Put(% X, %d, %d) is % X, want % X", k.ahead, k.n, k.w, got, k.want)
		}
	}
}

func TestPutOfManyNumbers(t *testing.T) {
	for w := 1; w <= 6; w++ {
		for _, n := range numbers(w) {
			for _, ahead := range []int{0, 1, 5, 6, 7, 64, 300} {
				b := thrown(ahead, uint64(n))
				want := append(bytes.Clone(b), digits(n, w)...)
				if got := put(t, b, n, w); !bytes.Equal(got, want) {
					t.Errorf("%d in %d bytes behind % X: % X, want % X", n, w, b, got, want)
				}
			}
		}
	}
}

func putRefused(t *testing.T, n, w int) {
	t.Helper()
	for _, b := range [][]byte{nil, {}, {1, 2, 3}, make([]byte, 3, 20)} {
		if got, e := pack.Put(b, n, w); e != api.ErrArg || len(got) != 0 {
			t.Errorf("Put(% X, %d, %d) answers % X, %v", b, n, w, got, e)
		}
	}
}

func TestPutOfNumbersThatDoNotFit(t *testing.T) {
	for w := 1; w <= 6; w++ {
		for _, n := range wrongNumbers(w) {
			putRefused(t, n, w)
		}
	}
	for _, w := range wrongWidths() {
		for _, n := range []int{0, 1, 255, -1, greatest(6) + 1, math.MaxInt, math.MinInt} {
			putRefused(t, n, w)
		}
	}
}

// P2.1: Get

func get(t *testing.T, b []byte, at, w, want int) {
	t.Helper()
	if got, e := pack.Get(b, at, w); e != api.OK || got != want {
		t.Errorf("Get(% X, %d, %d) answers %d, %v, want %d", b, at, w, got, e, want)
	}
}

func getRefused(t *testing.T, b []byte, at, w int, want api.Errno) {
	t.Helper()
	if got, e := pack.Get(b, at, w); e != want || got != 0 {
		t.Errorf("Get(%d bytes, %d, %d) answers %d, %v, want %v", len(b), at, w, got, e, want)
	}
}

func TestGetOfKnownNumbers(t *testing.T) {
	get(t, []byte{2, 1, 0}, 0, 2, 258)
	get(t, []byte{2, 1, 0}, 0, 3, 258)
	get(t, []byte{2, 1, 0}, 0, 1, 2)
	get(t, []byte{2, 1, 0}, 1, 1, 1)
	get(t, []byte{2, 1, 0}, 1, 2, 1)
	get(t, []byte{2, 1, 0}, 2, 1, 0)
	get(t, []byte{255}, 0, 1, 255)
	get(t, []byte{6, 5, 4, 3, 2, 1}, 0, 6, 0x010203040506)
	get(t, []byte{255, 255, 255, 255, 255, 255}, 0, 6, 0xFFFFFFFFFFFF)
	get(t, []byte{0, 0, 0, 0x80}, 0, 4, 0x80000000)
	get(t, []byte{0, 0, 0, 0, 0, 0}, 0, 6, 0)
}

func TestGetAtEachPlace(t *testing.T) {
	for n := range 20 {
		b := thrown(n, uint64(n)+31)
		for w := 1; w <= 6; w++ {
			for at := -9; at < n+9; at++ {
				if at < 0 || at+w > n {
					getRefused(t, b, at, w, api.ErrCode)
					continue
				}
				want := 0
				for i := w - 1; i >= 0; i-- {
					want = 256*want + int(b[at+i])
				}
				get(t, b, at, w, want)
			}
		}
	}
}

func TestGetAtPlacesFarOff(t *testing.T) {
	far := []int{math.MinInt, math.MinInt + 1, math.MinInt + 6, -1 << 32, -256, -1, 20, 21, 256, 1 << 32, math.MaxInt - 20, math.MaxInt - 6, math.MaxInt - 5, math.MaxInt - 1, math.MaxInt}
	for w := 1; w <= 6; w++ {
		for _, at := range far {
			getRefused(t, thrown(20, 1), at, w, api.ErrCode)
			getRefused(t, nil, at, w, api.ErrCode)
		}
		getRefused(t, nil, 0, w, api.ErrCode)
		getRefused(t, []byte{}, 0, w, api.ErrCode)
		getRefused(t, thrown(w-1, 1), 0, w, api.ErrCode)
	}
}

func TestGetKeepsOffTheSpareRoom(t *testing.T) {
	b := thrown(20, 3)[:4]
	getRefused(t, b, 0, 5, api.ErrCode)
	getRefused(t, b, 4, 1, api.ErrCode)
	getRefused(t, b, 3, 2, api.ErrCode)
}

func TestGetOfWidthsThatAreNone(t *testing.T) {
	for _, w := range wrongWidths() {
		// ErrArg goes ahead of ErrCode: the sentence names it first.
		for _, at := range []int{0, 1, 3, 19, 20, 21, -1, math.MaxInt, math.MinInt} {
			getRefused(t, thrown(20, 1), at, w, api.ErrArg)
			getRefused(t, nil, at, w, api.ErrArg)
		}
	}
}

// P2.2

// blocks are n of them, of thrown bytes.
func blocks(n int, seed uint64) []api.Value {
	b := thrown(n*api.Block, seed)
	l := make([]api.Value, n)
	for i := range b {
		l[i/api.Block][i%api.Block] = b[i]
	}
	return l
}

// bytesOf are the blocks' bytes as the document's words say them.
func bytesOf(l []api.Value) []byte {
	b := []byte{}
	for _, v := range l {
		for _, c := range v {
			b = append(b, c)
		}
	}
	return b
}

func TestValuesOneBehindTheOther(t *testing.T) {
	two := []api.Value{{1, 2, 3, 4, 5, 6, 7, 8}, {0, 0xFF, 0x80, 0x7F, 11, 0, 0, 9}}
	want := []byte{1, 2, 3, 4, 5, 6, 7, 8, 0, 0xFF, 0x80, 0x7F, 11, 0, 0, 9}
	if got := pack.Values(two); !bytes.Equal(got, want) {
		t.Errorf("got % X, want % X", got, want)
	}
	if len(pack.Values(nil)) != 0 || len(pack.Values([]api.Value{})) != 0 {
		t.Error("no blocks have bytes")
	}
	for n := range 70 {
		l := blocks(n, uint64(n))
		if got := pack.Values(l); !bytes.Equal(got, bytesOf(l)) {
			t.Errorf("%d blocks are % X", n, got)
		}
	}
}

func TestReadValuesOfWholeBlocks(t *testing.T) {
	want := []api.Value{{1, 2, 3, 4, 5, 6, 7, 8}, {0, 0xFF, 0x80, 0x7F, 11, 0, 0, 9}}
	got, e := pack.ReadValues([]byte{1, 2, 3, 4, 5, 6, 7, 8, 0, 0xFF, 0x80, 0x7F, 11, 0, 0, 9})
	if e != api.OK || !slices.Equal(got, want) {
		t.Errorf("got %v, %v", got, e)
	}
	for n := range 70 {
		l := blocks(n, uint64(n))
		if got, e := pack.ReadValues(bytesOf(l)); e != api.OK || !slices.Equal(got, l) {
			t.Errorf("%d blocks: %v, %v", n, got, e)
		}
	}
	for _, none := range [][]byte{nil, {}} {
		if got, e := pack.ReadValues(none); e != api.OK || len(got) != 0 {
			t.Errorf("no bytes: %v, %v", got, e)
		}
	}
}

func TestReadValuesOfOtherLengths(t *testing.T) {
	for n := range 200 {
		if n%api.Block == 0 {
			continue
		}
		for _, b := range [][]byte{thrown(n, uint64(n)), thrown(n+8, uint64(n))[:n]} {
			if got, e := pack.ReadValues(b); e != api.ErrCode || len(got) != 0 {
				t.Errorf("%d bytes: %v, %v", n, got, e)
			}
		}
	}
}

func TestValueOfJustOneBlock(t *testing.T) {
	got, e := pack.Value([]byte{1, 2, 3, 4, 5, 6, 7, 0x88})
	if e != api.OK || got != (api.Value{1, 2, 3, 4, 5, 6, 7, 0x88}) {
		t.Errorf("got %v, %v", got, e)
	}
	for seed := range uint64(100) {
		v := blocks(1, seed)[0]
		if got, e := pack.Value(v[:]); e != api.OK || got != v {
			t.Errorf("%v: %v, %v", v, got, e)
		}
	}
}

func TestValueOfOtherLengths(t *testing.T) {
	for n := range 100 {
		if n == api.Block {
			continue
		}
		for _, b := range [][]byte{thrown(n, 1), thrown(n+8, 1)[:n], thrown(n+8, 1)[8:]} {
			if got, e := pack.Value(b); e != api.ErrArg || got != (api.Value{}) {
				t.Errorf("%d bytes: %v, %v", n, got, e)
			}
		}
	}
	if got, e := pack.Value(nil); e != api.ErrArg || got != (api.Value{}) {
		t.Errorf("nil: %v, %v", got, e)
	}
}

// P2.3

func TestGetOfPutIsTheNumber(t *testing.T) {
	for w := 1; w <= 6; w++ {
		for _, n := range numbers(w) {
			for _, ahead := range []int{0, 1, 6, 45, 300} {
				b := thrown(ahead, uint64(n))
				got := put(t, b, n, w)
				get(t, got, ahead, w, n)
				if !bytes.Equal(got[:ahead], b) {
					t.Errorf("what was there ahead is % X, was % X", got[:ahead], b)
				}
			}
		}
	}
}

func TestNumbersBehindNumbers(t *testing.T) {
	var b []byte
	for round := range 20 {
		for w := 1; w <= 6; w++ {
			b = put(t, b, greatest(w)-round, w)
		}
	}
	at := 0
	for round := range 20 {
		for w := 1; w <= 6; w++ {
			get(t, b, at, w, greatest(w)-round)
			at += w
		}
	}
	if at != len(b) {
		t.Errorf("%d bytes, want %d", len(b), at)
	}
}

func TestThereAndBackAreTheSame(t *testing.T) {
	for n := range 70 {
		l := blocks(n, uint64(n)+5)
		if got, e := pack.ReadValues(pack.Values(l)); e != api.OK || !slices.Equal(got, l) {
			t.Errorf("%d blocks: %v, %v", n, got, e)
		}
		b := thrown(n*api.Block, uint64(n)+6)
		read, e := pack.ReadValues(b)
		if got := pack.Values(read); e != api.OK || !bytes.Equal(got, b) {
			t.Errorf("%d bytes: % X, %v", len(b), got, e)
		}
	}
}

// Memory and repeated calls: rules R3 and R4.

// spoil overwrites b, its spare room too.
func spoil(b []byte) {
	b = b[:cap(b)]
	for i := range b {
		b[i] ^= 0xFF
	}
}

func TestNothingHandedInIsChanged(t *testing.T) {
	for _, n := range []int{0, 1, 7, 8, 9, 16, 40} {
		for _, spare := range []int{0, 1, 5, 6, 8, 32} {
			all := thrown(n+spare, uint64(n))
			before := bytes.Clone(all)
			for w := -1; w < 9; w++ {
				pack.Put(all[:n], 200, w)
				pack.Put(all[:n], -1, w)
				pack.Get(all[:n], 0, w)
			}
			pack.ReadValues(all[:n])
			pack.Value(all[:n])
			if !bytes.Equal(all, before) {
				t.Errorf("%d bytes with room for %d were changed", n, spare)
			}
			list := blocks(n+spare, uint64(n))
			kept := slices.Clone(list)
			pack.Values(list[:n])
			if !slices.Equal(list, kept) {
				t.Errorf("%d blocks with room for %d were changed", n, spare)
			}
		}
	}
}

func TestPutAnswersNewMemory(t *testing.T) {
	for _, n := range []int{0, 1, 6, 8, 60} {
		for _, spare := range []int{0, 3, 6, 64} {
			all := thrown(n+spare, uint64(n))
			before := bytes.Clone(all)
			want := append(bytes.Clone(all[:n]), 2, 1, 0)
			one, two := put(t, all[:n], 258, 3), put(t, all[:n], 258, 3)
			more := put(t, one, 7, 1)
			spoil(one)
			if !bytes.Equal(all, before) {
				t.Errorf("Put behind %d bytes with room for %d shares memory with them", n, spare)
			}
			if !bytes.Equal(more, append(bytes.Clone(want), 7)) {
				t.Errorf("an answer of Put behind another shares memory with it: %d bytes", n)
			}
			spoil(all)
			if !bytes.Equal(two, want) {
				t.Errorf("an answer of Put shares memory: %d bytes with room for %d", n, spare)
			}
		}
	}
}

func TestTwoNumbersBehindTheSameBytes(t *testing.T) {
	b := put(t, nil, 1, 1)
	one := put(t, b, 0x0A0A, 2)
	two := put(t, b, 0x0B0B, 2)
	if !bytes.Equal(one, []byte{1, 0x0A, 0x0A}) || !bytes.Equal(two, []byte{1, 0x0B, 0x0B}) || !bytes.Equal(b, []byte{1}) {
		t.Errorf("% X, % X behind % X", one, two, b)
	}
}

func TestBlocksAreNewMemory(t *testing.T) {
	l := blocks(5, 1)
	kept := slices.Clone(l)
	one, two := pack.Values(l), pack.Values(l)
	spoil(one)
	if !slices.Equal(l, kept) {
		t.Error("Values shares memory with the blocks")
	}
	clear(l)
	if !bytes.Equal(two, bytesOf(kept)) {
		t.Error("an answer of Values shares memory")
	}

	b := bytesOf(kept)
	first, _ := pack.ReadValues(b)
	second, _ := pack.ReadValues(b)
	alone, _ := pack.Value(b[:api.Block])
	clear(first[:cap(first)])
	if !bytes.Equal(b, bytesOf(kept)) {
		t.Error("ReadValues shares memory with the bytes")
	}
	spoil(b)
	if !slices.Equal(second, kept) || alone != kept[0] {
		t.Error("an answer of ReadValues or Value shares memory")
	}
}

func TestNothingHangsOnCallsBefore(t *testing.T) {
	for range 20 {
		putRefused(t, 256, 1)
		getRefused(t, []byte{1}, 0, 2, api.ErrCode)
		if got := put(t, []byte{5}, 258, 3); !bytes.Equal(got, []byte{5, 2, 1, 0}) {
			t.Fatalf("Put answers % X", got)
		}
		get(t, []byte{5, 2, 1, 0}, 1, 3, 258)
		pack.ReadValues([]byte{1, 2, 3})
		if got, e := pack.ReadValues([]byte{1, 2, 3, 4, 5, 6, 7, 8}); e != api.OK || !slices.Equal(got, []api.Value{{1, 2, 3, 4, 5, 6, 7, 8}}) {
			t.Fatal("ReadValues answers", got, e)
		}
	}
}
