package frame_test

import (
	"bytes"
	"math"
	"slices"
	"testing"

	"cashbox/api"
	"cashbox/frame"
	"cashbox/sums"
)

const longest = api.MaxParts * api.Load

// dice answers numbers that look thrown, the same ones in each run.
func dice(seed uint64) func(below int) int {
	return func(below int) int {
		seed = seed*6364136223846793005 + 1442695040888963407
		return int((seed >> 33) % uint64(below))
	}
}

func thrown(n int, seed uint64) []byte {
	next := dice(seed)
	b := make([]byte, n)
	for i := range b {
		b[i] = byte(next(256))
	}
	return b
}

// alone is a frame that is its record's only one, but that its Mark is no sum.
func alone(load int) api.Frame {
	return api.Frame{Seq: 7, Inc: 3, Part: 0, Of: 1, Mark: 0xA1B2C3D4, Load: thrown(load, uint64(load))}
}

// with is f with one thing changed.
func with(f api.Frame, change func(*api.Frame)) api.Frame {
	f.Load = bytes.Clone(f.Load)
	change(&f)
	return f
}

// good are frames that may be, those at the edges among them.
func good() []api.Frame {
	l := []api.Frame{}
	for _, seq := range []int{1, 2, 255, 256, 65536, 1<<24 + 5, 1 << 32, 1<<40 - 1, api.MaxSeq - 1, api.MaxSeq} {
		for _, inc := range []int{0, 1, 255, 256, 65537, api.MaxInc - 1, api.MaxInc} {
			for _, mark := range []uint32{0, 1, 0x80, 0x01020304, 0x80000000, 0xFFFFFFFF} {
				f := api.Frame{Seq: seq, Inc: inc, Mark: mark}
				for _, n := range []int{1, 2, 15, 44, api.Load} {
					f.Load = thrown(n, uint64(seq+inc+n))
					f.Part, f.Of = 0, 1
					l = append(l, f)
					f.Part, f.Of = 1, 2
					l = append(l, f)
				}
				f.Part, f.Of = 0, 2
				l = append(l, f)
			}
		}
	}
	for n := range api.Load {
		f := alone(n + 1)
		l = append(l, f, with(f, func(f *api.Frame) { clear(f.Load) }), with(f, func(f *api.Frame) { f.Load[n] = 0 }))
	}
	return l
}

// bad are frames that may not be, each for one cause or a few.
func bad() []api.Frame {
	l := []api.Frame{{}}
	for _, f := range []api.Frame{alone(api.Load), alone(1), alone(20)} {
		for _, n := range []int{0, -1, -7, api.MaxSeq + 1, api.MaxSeq + 2, 1 << 48, 1<<48 + 7, 1 << 62, math.MaxInt, math.MinInt, math.MinInt + 1} {
			l = append(l, with(f, func(f *api.Frame) { f.Seq = n }))
		}
		for _, n := range []int{-1, -2, api.MaxInc + 1, api.MaxInc + 2, 1 << 24, 1<<24 + 3, 1 << 32, math.MaxInt, math.MinInt} {
			l = append(l, with(f, func(f *api.Frame) { f.Inc = n }))
		}
		for _, n := range []int{0, -1, -2, api.MaxParts + 1, 4, 15, 16, 17, 33, 256, 257, 1 << 32, 1<<32 + 1, math.MaxInt, math.MinInt, math.MinInt + 1} {
			l = append(l, with(f, func(f *api.Frame) { f.Of = n }), with(f, func(f *api.Frame) { f.Of, f.Part = n, n-1 }))
		}
		for _, n := range []int{-1, -2, 1, 2, 3, 15, 16, 256, 1 << 32, math.MaxInt, math.MaxInt - 1, math.MinInt, math.MinInt + 1} {
			l = append(l, with(f, func(f *api.Frame) { f.Part = n }))
		}
		for _, n := range []int{-1, 2, 3, 16, math.MaxInt, math.MinInt} {
			l = append(l, with(f, func(f *api.Frame) { f.Of, f.Part = 2, n }))
		}
		for _, n := range []int{api.Load + 1, api.Load + 2, 60, 64, 90, 255, 256, 257, 256 + 20, 1 << 16} {
			l = append(l, with(f, func(f *api.Frame) { f.Load = thrown(n, 1) }), with(f, func(f *api.Frame) { f.Load, f.Of = thrown(n, 1), 2 }), with(f, func(f *api.Frame) { f.Load, f.Of, f.Part = thrown(n, 1), 2, 1 }))
		}
		for _, none := range [][]byte{nil, {}, thrown(9, 1)[:0]} {
			l = append(l, with(f, func(f *api.Frame) { f.Load = none }), with(f, func(f *api.Frame) { f.Load, f.Of = none, 2 }), with(f, func(f *api.Frame) { f.Load, f.Of, f.Part = none, 2, 1 }))
		}
	}
	for n := range api.Load {
		l = append(l, with(alone(n), func(f *api.Frame) { f.Of = 2 }))
	}
	return l
}

// sector is a frame's as the document's words say it; of one that may not be, it is what would stand there.
func sector(f api.Frame) []byte {
	b := []byte{}
	for i := range 6 {
		b = append(b, byte(f.Seq>>(8*i)))
	}
	for i := range 3 {
		b = append(b, byte(f.Inc>>(8*i)))
	}
	b = append(b, byte(16*f.Part+f.Of), byte(len(f.Load)), byte(f.Mark), byte(f.Mark>>8), byte(f.Mark>>16), byte(f.Mark>>24))
	b = append(b, f.Load...)
	for len(b) < 60 {
		b = append(b, 0)
	}
	return sums.Seal(b[:60])
}

// alike tells whether all of two frames is the same.
func alike(a, b api.Frame) bool {
	load := bytes.Equal(a.Load, b.Load)
	a.Load, b.Load = nil, nil
	return load && a.Seq == b.Seq && a.Inc == b.Inc && a.Part == b.Part && a.Of == b.Of && a.Mark == b.Mark
}

// P4.1: May

func TestMayAtTheEdges(t *testing.T) {
	for _, f := range good() {
		if !frame.May(f) {
			t.Errorf("%+v may not be", f)
		}
	}
	for _, f := range bad() {
		if frame.May(f) {
			t.Errorf("%+v may be", f)
		}
	}
}

func TestMayOfEachLengthOfLoad(t *testing.T) {
	for n := range 300 {
		f := api.Frame{Seq: 1, Of: 1, Load: make([]byte, n)}
		if got, want := frame.May(f), n >= 1 && n <= 45; got != want {
			t.Errorf("the only part, %d bytes: %v", n, got)
		}
		f.Of = 2
		if got, want := frame.May(f), n == 45; got != want {
			t.Errorf("the first of two parts, %d bytes: %v", n, got)
		}
		f.Part = 1
		if got, want := frame.May(f), n >= 1 && n <= 45; got != want {
			t.Errorf("the last of two parts, %d bytes: %v", n, got)
		}
	}
}

func TestMayOfEachPart(t *testing.T) {
	for of := -3; of < 20; of++ {
		for part := -3; part < 20; part++ {
			f := api.Frame{Seq: 1, Part: part, Of: of, Load: make([]byte, 45)}
			if got, want := frame.May(f), of == 1 && part == 0 || of == 2 && (part == 0 || part == 1); got != want {
				t.Errorf("part %d of %d: %v", part, of, got)
			}
		}
	}
}

// P4.1: Bytes

func TestBytesOfAKnownFrame(t *testing.T) {
	f := api.Frame{Seq: 0x0102030405, Inc: 0x0A0B0C, Part: 1, Of: 2, Mark: 0xCBF43926, Load: []byte("cashbox")}
	want := make([]byte, 60)
	copy(want, []byte{5, 4, 3, 2, 1, 0, 0x0C, 0x0B, 0x0A, 0x12, 7, 0x26, 0x39, 0xF4, 0xCB, 'c', 'a', 's', 'h', 'b', 'o', 'x'})
	got, e := frame.Bytes(f)
	if e != api.OK || !bytes.Equal(got, sums.Seal(want)) {
		t.Errorf("got % X, %v", got, e)
	}
}

func TestBytesIsTheSector(t *testing.T) {
	for _, f := range good() {
		got, e := frame.Bytes(f)
		if e != api.OK || len(got) != api.Sector || !bytes.Equal(got, sector(f)) {
			t.Errorf("%+v: % X, %v, want % X", f, got, e, sector(f))
		}
	}
}

func TestBytesOfWhatMayNotBe(t *testing.T) {
	for _, f := range bad() {
		if got, e := frame.Bytes(f); e != api.ErrArg || len(got) != 0 {
			t.Errorf("%+v: % X, %v", f, got, e)
		}
	}
}

// P4.1: Read

// unread checks that b is no frame's sector.
func unread(t *testing.T, what string, b []byte) {
	t.Helper()
	if f, e := frame.Read(b); e != api.ErrCode || !alike(f, api.Frame{}) {
		t.Errorf("%s: % X is %+v, %v", what, b, f, e)
	}
}

func TestReadOfASector(t *testing.T) {
	for _, f := range good() {
		got, e := frame.Read(sector(f))
		if e != api.OK || !alike(got, f) {
			t.Errorf("got %+v, %v, want %+v", got, e, f)
		}
	}
}

func TestReadOfAKnownSector(t *testing.T) {
	b := make([]byte, 60)
	copy(b, []byte{5, 4, 3, 2, 1, 0, 0x0C, 0x0B, 0x0A, 0x12, 7, 0x26, 0x39, 0xF4, 0xCB, 'c', 'a', 's', 'h', 'b', 'o', 'x'})
	got, e := frame.Read(sums.Seal(b))
	if e != api.OK || !alike(got, api.Frame{Seq: 0x0102030405, Inc: 0x0A0B0C, Part: 1, Of: 2, Mark: 0xCBF43926, Load: []byte("cashbox")}) {
		t.Errorf("got %+v, %v", got, e)
	}
}

func TestReadOfOtherLengths(t *testing.T) {
	whole := sector(alone(api.Load))
	for n := range 200 {
		if n == api.Sector {
			continue
		}
		unread(t, "0s", make([]byte, n))
		unread(t, "a piece, or several", bytes.Repeat(whole, 4)[:n])
		unread(t, "a sector with 0s behind", append(bytes.Clone(whole), make([]byte, n+1)...))
	}
	unread(t, "nothing", nil)
	unread(t, "a piece with the rest in its spare room", whole[:api.Sector-1])
	for n := range 100 {
		if n != 60 {
			b := make([]byte, 100)
			copy(b, whole[:60])
			unread(t, "sealed bytes of another length", sums.Seal(b[:n]))
		}
	}
}

func TestReadOfASectorThatIsNotSealed(t *testing.T) {
	unread(t, "0s", make([]byte, api.Sector))
	unread(t, "1s", bytes.Repeat([]byte{0xFF}, api.Sector))
	for _, f := range []api.Frame{alone(1), alone(20), alone(api.Load), with(alone(api.Load), func(f *api.Frame) { f.Of = 2 })} {
		whole := sector(f)
		for bit := range 8 * api.Sector {
			b := bytes.Clone(whole)
			b[bit/8] ^= 1 << (bit % 8)
			unread(t, "a bit was changed", b)
		}
	}
	for seed := range uint64(1000) {
		unread(t, "bytes that were thrown", thrown(api.Sector, seed))
	}
}

func TestReadOfSealedBytesThatAreNoFrame(t *testing.T) {
	unread(t, "0s", sums.Seal(make([]byte, 60)))
	unread(t, "1s", sums.Seal(bytes.Repeat([]byte{0xFF}, 60)))
	for _, f := range bad() {
		// Numbers that are cut short where they stand may be those of another frame: there is nothing to be told of these.
		if f.Seq < 0 || f.Seq >= 1<<48 || f.Inc < 0 || f.Inc >= 1<<24 || f.Part < 0 || f.Part > 15 || f.Of < 0 || f.Of > 15 || len(f.Load) > 255 {
			continue
		}
		unread(t, "a frame that may not be", sector(f))
	}
	for seed := range uint64(1000) {
		unread(t, "bytes that were thrown", sums.Seal(thrown(60, seed)))
	}
}

func TestReadOfEachPartAndLength(t *testing.T) {
	for c := range 256 {
		b := sector(alone(api.Load))[:60]
		b[9] = byte(c)
		if c != 0x01 && c != 0x02 && c != 0x12 {
			unread(t, "Part and Of", sums.Seal(b))
		} else if f, e := frame.Read(sums.Seal(b)); e != api.OK || 16*f.Part+f.Of != c {
			t.Errorf("Part and Of %02X: %+v, %v", c, f, e)
		}
		b = sector(alone(api.Load))[:60]
		b[10] = byte(c)
		// All of the load is left as it stands, so that only its whole length is that of a frame.
		if c != api.Load {
			unread(t, "how many bytes of load", sums.Seal(b))
		}
	}
}

func TestReadWantsNoughtsBehindTheLoad(t *testing.T) {
	for n := 1; n < api.Load; n++ {
		for at := 15 + n; at < 60; at++ {
			for _, c := range []byte{1, 0x80, 0xFF} {
				b := sector(alone(n))[:60]
				b[at] = c
				unread(t, "something behind the load", sums.Seal(b))
			}
		}
	}
}

// P4.1: Same

func TestSame(t *testing.T) {
	f := alone(20)
	others := []api.Frame{
		with(f, func(f *api.Frame) { f.Seq++ }),
		with(f, func(f *api.Frame) { f.Seq += 1 << 40 }),
		with(f, func(f *api.Frame) { f.Inc++ }),
		with(f, func(f *api.Frame) { f.Inc += 1 << 24 }),
		with(f, func(f *api.Frame) { f.Part++ }),
		with(f, func(f *api.Frame) { f.Of++ }),
		with(f, func(f *api.Frame) { f.Part, f.Of = f.Part+1, f.Of-16 }),
		with(f, func(f *api.Frame) { f.Mark++ }),
		with(f, func(f *api.Frame) { f.Mark ^= 0x80000000 }),
		with(f, func(f *api.Frame) { f.Load[0]++ }),
		with(f, func(f *api.Frame) { f.Load[19]++ }),
		with(f, func(f *api.Frame) { f.Load = f.Load[:19] }),
		with(f, func(f *api.Frame) { f.Load = append(f.Load, 0) }),
		with(f, func(f *api.Frame) { f.Load = nil }),
		{},
	}
	all := append(slices.Clone(others), f)
	for i, a := range all {
		for j, b := range all {
			if got := frame.Same(a, b); got != (i == j) {
				t.Errorf("Same(%+v, %+v) is %v", a, b, got)
			}
		}
		if !frame.Same(a, with(a, func(*api.Frame) {})) {
			t.Errorf("%+v is another one than its copy", a)
		}
	}
}

func TestSameOfAnyFrames(t *testing.T) {
	for _, l := range [][]api.Frame{good()[:200], bad()} {
		for i, a := range l {
			for _, b := range l[max(0, i-30):i] {
				if got, want := frame.Same(a, b), alike(a, b); got != want {
					t.Errorf("Same(%+v, %+v) is %v", a, b, got)
				}
			}
			if !frame.Same(a, with(a, func(f *api.Frame) { f.Load = append(make([]byte, 0, 99), f.Load...) })) {
				t.Errorf("%+v is another one with spare room", a)
			}
		}
	}
	if !frame.Same(api.Frame{Load: nil}, api.Frame{Load: []byte{}}) {
		t.Error("nil and empty are two loads")
	}
}

// P4.2: Cut

func cut(t *testing.T, b []byte, seq, inc int) []api.Frame {
	t.Helper()
	l, e := frame.Cut(b, seq, inc)
	if e != api.OK {
		t.Fatalf("Cut(%d bytes, %d, %d): %v", len(b), seq, inc, e)
	}
	return l
}

// frames are those that a record is cut into, as the document's words say them.
func frames(b []byte, seq, inc int) []api.Frame {
	loads := slices.Collect(slices.Chunk(b, 45))
	l := []api.Frame{}
	for i, load := range loads {
		l = append(l, api.Frame{Seq: seq + i, Inc: inc, Part: i, Of: len(loads), Mark: sums.Sum(b), Load: load})
	}
	return l
}

func TestCutOf85Bytes(t *testing.T) {
	b := thrown(85, 1)
	l := cut(t, b, 9, 4)
	want := []api.Frame{
		{Seq: 9, Inc: 4, Part: 0, Of: 2, Mark: sums.Sum(b), Load: b[:45]},
		{Seq: 10, Inc: 4, Part: 1, Of: 2, Mark: sums.Sum(b), Load: b[45:]},
	}
	if !slices.EqualFunc(l, want, alike) {
		t.Errorf("got %+v, want %+v", l, want)
	}
}

func TestCutOfEachLength(t *testing.T) {
	for n := 1; n <= longest; n++ {
		for _, seq := range []int{1, 2, 300, api.MaxSeq - 1} {
			for _, inc := range []int{0, 1, 500, api.MaxInc} {
				b := thrown(n, uint64(n))
				l := cut(t, b, seq, inc)
				if !slices.EqualFunc(l, frames(b, seq, inc), alike) {
					t.Fatalf("Cut(%d bytes, %d, %d) is %+v", n, seq, inc, l)
				}
				for _, f := range l {
					if !frame.May(f) {
						t.Errorf("%+v may not be", f)
					}
				}
			}
		}
	}
}

func TestCutKeepsOffTheSpareRoom(t *testing.T) {
	all := thrown(200, 5)
	for _, n := range []int{1, 44, 45, 46, 89, 90} {
		if l := cut(t, all[:n], 1, 0); !slices.EqualFunc(l, frames(bytes.Clone(all[:n]), 1, 0), alike) {
			t.Errorf("Cut of %d bytes is %+v", n, l)
		}
	}
}

func uncut(t *testing.T, b []byte, seq, inc int, want api.Errno) {
	t.Helper()
	if l, e := frame.Cut(b, seq, inc); e != want || len(l) != 0 {
		t.Errorf("Cut(%d bytes, %d, %d) answers %+v, %v, want %v", len(b), seq, inc, l, e, want)
	}
}

func TestCutOfNoBytes(t *testing.T) {
	for _, none := range [][]byte{nil, {}, thrown(9, 1)[:0]} {
		for _, seq := range []int{1, 7, api.MaxSeq, 0, api.MaxSeq + 1} {
			uncut(t, none, seq, 0, api.ErrArg)
			uncut(t, none, seq, api.MaxInc+1, api.ErrArg)
		}
	}
}

func TestCutOfNoSuchSequenceOrIncarnation(t *testing.T) {
	// Records that are too long, too: the sentence names ErrArg first.
	for _, n := range []int{1, 45, 46, longest, longest + 1, 1000} {
		for _, seq := range []int{0, -1, -2, api.MaxSeq + 1, api.MaxSeq + 2, 1 << 48, 1<<48 + 1, math.MaxInt, math.MaxInt - 1, math.MinInt, math.MinInt + 1} {
			for _, inc := range []int{0, 1, api.MaxInc, -1, api.MaxInc + 1} {
				uncut(t, thrown(n, 1), seq, inc, api.ErrArg)
			}
		}
		for _, inc := range []int{-1, -2, api.MaxInc + 1, api.MaxInc + 2, 1 << 24, 1<<24 + 1, math.MaxInt, math.MinInt} {
			for _, seq := range []int{1, 2, api.MaxSeq} {
				uncut(t, thrown(n, 1), seq, inc, api.ErrArg)
			}
		}
	}
}

func TestCutOfMoreThanMaxParts(t *testing.T) {
	for _, n := range []int{91, 92, 134, 135, 136, 180, 255, 256, 257, 1000, 1 << 16, 1<<16 + 1, 1 << 20} {
		// Nor would the last one's sequence be such: the sentence names ErrLong ahead of that.
		for _, seq := range []int{1, 2, api.MaxSeq - 2, api.MaxSeq - 1, api.MaxSeq} {
			for _, inc := range []int{0, 5, api.MaxInc} {
				uncut(t, make([]byte, n), seq, inc, api.ErrLong)
			}
		}
	}
}

func TestCutWithTheLastSequence(t *testing.T) {
	for n := 1; n <= longest; n++ {
		b := thrown(n, uint64(n))
		if n > api.Load {
			uncut(t, b, api.MaxSeq, 0, api.ErrArg)
			uncut(t, b, api.MaxSeq, api.MaxInc, api.ErrArg)
		} else if l := cut(t, b, api.MaxSeq, 0); l[0].Seq != api.MaxSeq {
			t.Errorf("Cut of %d bytes is %+v", n, l)
		}
		if l := cut(t, b, api.MaxSeq-1, 0); l[len(l)-1].Seq != api.MaxSeq-2+len(l) {
			t.Errorf("Cut of %d bytes is %+v", n, l)
		}
	}
}

// P4.2: Join

// apart checks that l isn't joined.
func apart(t *testing.T, what string, l ...api.Frame) {
	t.Helper()
	if b, e := frame.Join(l); e != api.ErrCode || len(b) != 0 {
		t.Errorf("%s: Join(%+v) answers % X, %v", what, l, b, e)
	}
}

func joined(t *testing.T, want []byte, l ...api.Frame) {
	t.Helper()
	if b, e := frame.Join(l); e != api.OK || !bytes.Equal(b, want) {
		t.Errorf("Join(%+v) answers % X, %v, want % X", l, b, e, want)
	}
}

func TestJoinOfEachLength(t *testing.T) {
	for n := 1; n <= longest; n++ {
		for _, seq := range []int{1, 2, 300, api.MaxSeq - 1} {
			for _, inc := range []int{0, 500, api.MaxInc} {
				b := thrown(n, uint64(n))
				joined(t, b, frames(b, seq, inc)...)
			}
		}
	}
	joined(t, []byte{0}, frames([]byte{0}, api.MaxSeq, 0)...)
	joined(t, make([]byte, 45), frames(make([]byte, 45), api.MaxSeq, 0)...)
}

func TestJoinOfNone(t *testing.T) {
	apart(t, "nil")
	apart(t, "empty", []api.Frame{}...)
	apart(t, "a frame that is none", api.Frame{})
	apart(t, "two that are none", api.Frame{}, api.Frame{})
}

func TestJoinOfSomeOfTheFrames(t *testing.T) {
	for _, n := range []int{46, 85, 89, 90} {
		l := frames(thrown(n, uint64(n)), 5, 2)
		a, b := l[0], l[1]
		apart(t, "the first alone", a)
		apart(t, "the second alone", b)
		apart(t, "turned about", b, a)
		apart(t, "the first twice", a, a)
		apart(t, "the second twice", b, b)
		apart(t, "one more", a, b, b)
		apart(t, "one more", a, b, a)
		apart(t, "one more", a, a, b)
		apart(t, "both twice", a, b, a, b)
		apart(t, "one more that is none", a, b, api.Frame{})
	}
	one := frames(thrown(30, 1), 5, 2)[0]
	apart(t, "the only one twice", one, one)
	apart(t, "the only one many times", slices.Repeat([]api.Frame{one}, 1000)...)
	next := with(one, func(f *api.Frame) { f.Seq++ })
	apart(t, "two that are the only ones", one, next)
}

func TestJoinOfMoreThanMaxParts(t *testing.T) {
	for _, n := range []int{91, 135, 136, 225} {
		apart(t, "a record that is too long", frames(thrown(n, 1), 5, 2)...)
	}
}

func TestJoinOfFramesThatWereChanged(t *testing.T) {
	changes := []func(*api.Frame){
		func(f *api.Frame) { f.Seq++ },
		func(f *api.Frame) { f.Seq-- },
		func(f *api.Frame) { f.Seq += 24 },
		func(f *api.Frame) { f.Seq = 0 },
		func(f *api.Frame) { f.Seq = api.MaxSeq + 1 },
		func(f *api.Frame) { f.Inc++ },
		func(f *api.Frame) { f.Inc-- },
		func(f *api.Frame) { f.Inc = api.MaxInc + 1 },
		func(f *api.Frame) { f.Part++ },
		func(f *api.Frame) { f.Part-- },
		func(f *api.Frame) { f.Of++ },
		func(f *api.Frame) { f.Of-- },
		func(f *api.Frame) { f.Mark++ },
		func(f *api.Frame) { f.Mark ^= 0x80000000 },
		func(f *api.Frame) { f.Load[0] ^= 1 },
		func(f *api.Frame) { f.Load[len(f.Load)-1] ^= 0x80 },
		func(f *api.Frame) { f.Load = f.Load[:len(f.Load)-1] },
		func(f *api.Frame) { f.Load = f.Load[1:] },
		func(f *api.Frame) { f.Load = append(f.Load, 0) },
		func(f *api.Frame) { f.Load = append(f.Load, 7) },
		func(f *api.Frame) { f.Load = nil },
		func(f *api.Frame) { f.Load = make([]byte, 1<<16) },
	}
	for i, change := range changes {
		for _, n := range []int{46, 85, 90} {
			l := frames(thrown(n, uint64(n)), 5, 2)
			apart(t, "the first was changed", with(l[0], change), l[1])
			apart(t, "the second was changed", l[0], with(l[1], change))
		}
		// A lone frame at another place, or of another incarnation, is what the record is cut into there.
		if i == 0 || i == 1 || i == 2 || i == 5 || i == 6 {
			continue
		}
		for _, n := range []int{2, 30, 45} {
			apart(t, "the only one was changed", with(frames(thrown(n, uint64(n)), 5, 2)[0], change))
		}
	}
}

func TestJoinAtAnotherPlace(t *testing.T) {
	b := thrown(85, 1)
	l := frames(b, 5, 2)
	for _, at := range []int{1, 6, 4000, api.MaxSeq - 1} {
		for _, inc := range []int{0, 2, 3, api.MaxInc} {
			moved := []api.Frame{with(l[0], func(f *api.Frame) { f.Seq, f.Inc = at, inc }), with(l[1], func(f *api.Frame) { f.Seq, f.Inc = at+1, inc })}
			joined(t, b, moved...)
		}
	}
	apart(t, "behind the last sequence", with(l[0], func(f *api.Frame) { f.Seq = api.MaxSeq }), with(l[1], func(f *api.Frame) { f.Seq = api.MaxSeq + 1 }))
	apart(t, "ahead of the first sequence", with(l[0], func(f *api.Frame) { f.Seq = 0 }), with(l[1], func(f *api.Frame) { f.Seq = 1 }))
}

func TestJoinOfLoadsThatAreCutElsewhere(t *testing.T) {
	b := thrown(80, 3)
	for to := range len(b) + 1 {
		if to == api.Load {
			continue
		}
		l := frames(b, 5, 2)
		l[0].Load, l[1].Load = b[:to], b[to:]
		apart(t, "cut elsewhere", l...)
	}
	short := thrown(40, 3)
	apart(t, "two where one would do", api.Frame{Seq: 5, Inc: 2, Part: 0, Of: 2, Mark: sums.Sum(short), Load: short[:20]}, api.Frame{Seq: 6, Inc: 2, Part: 1, Of: 2, Mark: sums.Sum(short), Load: short[20:]})
	apart(t, "one where two would do", api.Frame{Seq: 5, Inc: 2, Part: 0, Of: 1, Mark: sums.Sum(b), Load: b})
}

func TestJoinOfAnyFrames(t *testing.T) {
	l := bad()
	one, two := frames(thrown(30, 1), 5, 2), frames(thrown(85, 1), 5, 2)
	for i, f := range l {
		apart(t, "one that may not be", f)
		apart(t, "two that may not be", f, l[(i+1)%len(l)])
		apart(t, "with one ahead", one[0], f)
		apart(t, "with one behind", f, two[1])
		apart(t, "with a first one ahead", two[0], f)
	}
	apart(t, "all of them", l...)
}

// P4.3

func TestReadOfBytesIsTheFrame(t *testing.T) {
	for _, f := range good() {
		b, e := frame.Bytes(f)
		if e != api.OK {
			t.Fatalf("%+v: %v", f, e)
		}
		got, e := frame.Read(b)
		if e != api.OK || !frame.Same(got, f) || !alike(got, f) {
			t.Errorf("got %+v, %v, want %+v", got, e, f)
		}
	}
}

func TestBytesOfReadAreTheSector(t *testing.T) {
	for _, f := range good() {
		got, e := frame.Read(sector(f))
		if e != api.OK {
			t.Fatalf("%+v: %v", f, e)
		}
		if b, e := frame.Bytes(got); e != api.OK || !bytes.Equal(b, sector(f)) {
			t.Errorf("got % X, %v", b, e)
		}
	}
}

func TestJoinOfCutIsTheRecord(t *testing.T) {
	next := dice(3)
	for n := 1; n <= longest; n++ {
		for _, b := range [][]byte{thrown(n, uint64(n)), make([]byte, n), bytes.Repeat([]byte{0xFF}, n)} {
			l := cut(t, b, 1+next(1<<30), next(api.MaxInc+1))
			joined(t, b, l...)
			read := []api.Frame{}
			for _, f := range l {
				s, _ := frame.Bytes(f)
				f, e := frame.Read(s)
				if e != api.OK {
					t.Fatal(e)
				}
				read = append(read, f)
			}
			joined(t, b, read...)
		}
	}
}

func TestMixedFramesOfTwoRecords(t *testing.T) {
	for seed := range uint64(200) {
		next := dice(seed)
		a, b := thrown(46+next(45), seed), thrown(46+next(45), seed+1000)
		for _, seq := range []int{5, 6, 4, 29} {
			for _, inc := range []int{2, 3} {
				l, m := cut(t, a, 5, 2), cut(t, b, seq, inc)
				apart(t, "the first of one, the second of the other", l[0], m[1])
				apart(t, "the first of one, the second of the other", m[0], l[1])
				apart(t, "two first ones", l[0], m[0])
				apart(t, "two second ones", l[1], m[1])
			}
		}
	}
}

func TestMixedFramesOfRecordsThatSharePieces(t *testing.T) {
	a := thrown(85, 1)
	b := bytes.Clone(a)
	b[84] ^= 1
	l, m := cut(t, a, 5, 2), cut(t, b, 5, 2)
	apart(t, "like loads, another sum", l[0], m[1])
	apart(t, "like loads, another sum", m[0], l[1])
	long := append(bytes.Clone(a), 0)
	apart(t, "a record and the same with more behind", l[0], cut(t, long, 5, 2)[1])
	alone := cut(t, a[:45], 5, 2)
	apart(t, "a record and a first piece of it", alone[0], l[1])
}

// twins are two records of one sum whose first pieces differ, and whose second pieces, too: either piece may be put for the other's, and the sum stays.
func twins(t *testing.T) (a, b []byte) {
	t.Helper()
	a = thrown(85, 9)
	b = bytes.Clone(a)
	for _, at := range []int{3, 60} {
		// The divisor's bits, the lowest first, behind a bit that is set, leave the sum as it is.
		for i, c := range []byte{0x41, 0x06, 0x71, 0xDB, 0x01} {
			b[at+i] ^= c
		}
	}
	if sums.Sum(a) != sums.Sum(b) || bytes.Equal(a[:45], b[:45]) || bytes.Equal(a[45:], b[45:]) {
		t.Fatal("they aren't twins")
	}
	return a, b
}

func TestMixedFramesOfOneSum(t *testing.T) {
	a, b := twins(t)
	l := cut(t, a, 5, 2)
	for _, seq := range []int{1, 3, 4, 6, 7, 29, 5 + 1<<24, api.MaxSeq - 1} {
		m := cut(t, b, seq, 2)
		apart(t, "at another place", l[0], m[1])
		apart(t, "at another place", m[0], l[1])
	}
	for _, inc := range []int{0, 1, 3, api.MaxInc} {
		m := cut(t, b, 5, inc)
		apart(t, "of another incarnation", l[0], m[1])
		apart(t, "of another incarnation", m[0], l[1])
	}
	m := cut(t, b, 5, 2)
	// These are just what a third record is cut into.
	joined(t, append(bytes.Clone(a[:45]), b[45:]...), l[0], m[1])
	joined(t, append(bytes.Clone(b[:45]), a[45:]...), m[0], l[1])
}

// Memory and repeated calls: rules R3 and R4.

// spoil overwrites b, its spare room too.
func spoil(b []byte) {
	b = b[:cap(b)]
	for i := range b {
		b[i] ^= 0xFF
	}
}

func TestNothingHandedInIsChanged(t *testing.T) {
	for _, n := range []int{0, 1, 20, 44, 45, 46, 60, 64, 85, 90, 91} {
		for _, spare := range []int{0, 1, 4, 45, 100} {
			all := thrown(n+spare, uint64(n))
			before := bytes.Clone(all)
			f := api.Frame{Seq: 5, Of: 1, Load: all[:n]}
			frame.May(f)
			frame.Bytes(f)
			frame.Read(all[:n])
			frame.Cut(all[:n], 5, 2)
			frame.Cut(all[:n], 0, 2)
			frame.Same(f, f)
			frame.Join([]api.Frame{f})
			frame.Join(frames(all[:n], 5, 2))
			if !bytes.Equal(all, before) {
				t.Errorf("%d bytes with room for %d were changed", n, spare)
			}
		}
	}
	room := make([]byte, 0, 200)
	s := append(room, sector(alone(20))...)
	frame.Read(s)
	if !bytes.Equal(s, sector(alone(20))) || !bytes.Equal(s[len(s):cap(s)], make([]byte, 200-api.Sector)) {
		t.Error("Read changed the sector, or what is behind it")
	}
	l := append(frames(thrown(85, 1), 5, 2), alone(3), alone(4))
	before := append(frames(thrown(85, 1), 5, 2), alone(3), alone(4))
	frame.Join(l[:2])
	frame.Join(l[:1])
	frame.Join(l)
	if !slices.EqualFunc(l, before, alike) {
		t.Error("Join changed the list")
	}
}

func TestBytesAnswersNewMemory(t *testing.T) {
	for _, f := range []api.Frame{alone(1), alone(20), alone(api.Load)} {
		want, load := sector(f), bytes.Clone(f.Load)
		one, _ := frame.Bytes(f)
		two, _ := frame.Bytes(f)
		spoil(one)
		if !bytes.Equal(f.Load, load) || !bytes.Equal(two, want) {
			t.Errorf("an answer of Bytes shares memory: load of %d", len(load))
		}
		spoil(f.Load)
		if !bytes.Equal(two, want) {
			t.Errorf("an answer of Bytes shares memory with the load of %d", len(load))
		}
	}
}

func TestReadAnswersNewMemory(t *testing.T) {
	for _, n := range []int{1, 20, api.Load} {
		want := alone(n)
		b := sector(want)
		one, _ := frame.Read(b)
		two, _ := frame.Read(b)
		spoil(one.Load)
		if !bytes.Equal(b, sector(want)) || !alike(two, want) {
			t.Errorf("an answer of Read shares memory: load of %d", n)
		}
		spoil(b)
		if !alike(two, want) {
			t.Errorf("an answer of Read shares memory with the sector: load of %d", n)
		}
	}
}

func TestCutAnswersNewMemory(t *testing.T) {
	for _, n := range []int{1, 44, 45, 46, 85, 90} {
		b := thrown(n, uint64(n))
		kept := bytes.Clone(b)
		one, two := cut(t, b, 5, 2), cut(t, b, 5, 2)
		for i := range one {
			spoil(one[i].Load)
			if rest := one[i+1:]; !slices.EqualFunc(rest, two[i+1:], alike) {
				t.Errorf("the loads of %d bytes share memory", n)
			}
		}
		if !bytes.Equal(b, kept) || !slices.EqualFunc(two, frames(kept, 5, 2), alike) {
			t.Errorf("an answer of Cut shares memory: %d bytes", n)
		}
		spoil(b)
		if !slices.EqualFunc(two, frames(kept, 5, 2), alike) {
			t.Errorf("an answer of Cut shares memory with the %d bytes", n)
		}
	}
}

func TestJoinAnswersNewMemory(t *testing.T) {
	for _, n := range []int{1, 45, 46, 85, 90} {
		want := thrown(n, uint64(n))
		l := cut(t, want, 5, 2)
		one, _ := frame.Join(l)
		two, _ := frame.Join(l)
		spoil(one)
		if !slices.EqualFunc(l, frames(want, 5, 2), alike) || !bytes.Equal(two, want) {
			t.Errorf("an answer of Join shares memory: %d bytes", n)
		}
		for _, f := range l {
			spoil(f.Load)
		}
		if !bytes.Equal(two, want) {
			t.Errorf("an answer of Join shares memory with the loads: %d bytes", n)
		}
	}
}

func TestAddedBytesTouchNoOtherAnswer(t *testing.T) {
	b := thrown(85, 1)
	l := cut(t, b, 5, 2)
	_ = append(l[0].Load, bytes.Repeat([]byte{0xEE}, 90)...)
	if !slices.EqualFunc(l, frames(thrown(85, 1), 5, 2), alike) {
		t.Error("what is put behind a load is seen elsewhere")
	}
}

func TestNothingHangsOnCallsBefore(t *testing.T) {
	b := thrown(85, 1)
	for range 20 {
		apart(t, "the second alone", frames(b, 5, 2)[1])
		unread(t, "0s", make([]byte, api.Sector))
		uncut(t, b, 0, 0, api.ErrArg)
		if got, e := frame.Bytes(api.Frame{}); e != api.ErrArg || len(got) != 0 {
			t.Fatal(got, e)
		}
		if l := cut(t, b, 5, 2); !slices.EqualFunc(l, frames(b, 5, 2), alike) {
			t.Fatalf("Cut answers %+v", l)
		}
		joined(t, b, frames(b, 5, 2)...)
		if got, e := frame.Read(sector(alone(20))); e != api.OK || !alike(got, alone(20)) {
			t.Fatal(got, e)
		}
	}
}
