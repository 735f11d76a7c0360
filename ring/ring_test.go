package ring_test

import (
	"math"
	"slices"
	"testing"

	"cashbox/api"
	"cashbox/ring"
)

// dice answers numbers that look thrown, the same ones in each run.
func dice(seed uint64) func(below int) int {
	return func(below int) int {
		seed = seed*6364136223846793005 + 1442695040888963407
		return int((seed >> 33) % uint64(below))
	}
}

// logs are some that may be, those at the edges among them: some tails, with each Next.
func logs() []api.Log {
	l := []api.Log{}
	for _, tail := range []int{1, 2, 5, 22, 23, 24, 25, 26, 47, 48, 49, 1000, 1<<31 - 1, 1 << 31, 1 << 32, 1<<39 + 7, api.MaxSeq - 49, api.MaxSeq - 25, api.MaxSeq - 24, api.MaxSeq - 23, api.MaxSeq - 12, api.MaxSeq - 2, api.MaxSeq - 1, api.MaxSeq} {
		for used := range 25 {
			l = append(l, api.Log{Tail: tail, Next: tail + used})
		}
	}
	return l
}

// noLogs are some that may not be.
func noLogs() []api.Log {
	l := []api.Log{{}, {Tail: 0, Next: 1}, {Tail: 1, Next: 0}, {Tail: math.MinInt, Next: math.MaxInt}, {Tail: math.MaxInt, Next: math.MinInt}}
	for _, tail := range []int{math.MinInt, math.MinInt + 1, -1 << 40, -1 << 32, -24, -23, -1, 0, api.MaxSeq + 1, api.MaxSeq + 2, api.MaxSeq + 24, 1 << 41, 1<<48 + 5, math.MaxInt - 24, math.MaxInt - 23, math.MaxInt - 1, math.MaxInt} {
		for _, used := range []int{0, 1, 3, 23, 24, 25} {
			l = append(l, api.Log{Tail: tail, Next: tail + used})
		}
	}
	for _, tail := range []int{1, 2, 5, 24, 25, 1000, 1 << 32, api.MaxSeq - 24, api.MaxSeq - 1, api.MaxSeq} {
		for _, next := range []int{tail - 1, tail - 2, tail - 24, tail - 25, 0, -1, -tail, math.MinInt, math.MinInt + 1, tail + 25, tail + 26, tail + 48, tail + 1<<32, tail + 1<<32 + 1, 1<<41 + 1, math.MaxInt - 1, math.MaxInt} {
			if next < tail || next > tail+24 {
				l = append(l, api.Log{Tail: tail, Next: next})
			}
		}
	}
	return l
}

// wrongCounts are such as may not be taken.
func wrongCounts() []int {
	return []int{-1, -2, -3, -23, -24, -25, -48, 25, 26, 27, 48, 256, 1 << 32, 1<<32 + 1, api.MaxSeq, math.MaxInt - 1, math.MaxInt, math.MinInt, math.MinInt + 1}
}

// noSequences are numbers that are no sequences.
func noSequences() []int {
	return []int{0, -1, -2, -23, -24, -25, -1 << 32, -api.MaxSeq, math.MinInt, math.MinInt + 1, api.MaxSeq + 1, api.MaxSeq + 2, api.MaxSeq + 24, 1 << 41, 1<<48 + 1, 1<<62 + 24, math.MaxInt - 1, math.MaxInt}
}

// P5.1: May

func TestMayOfALog(t *testing.T) {
	for _, l := range logs() {
		if !ring.May(l) {
			t.Errorf("%+v may not be", l)
		}
	}
}

func TestMayOfWhatIsNone(t *testing.T) {
	for _, l := range noLogs() {
		if ring.May(l) {
			t.Errorf("%+v may be", l)
		}
	}
}

func TestMayAtTheEdges(t *testing.T) {
	for tail := -60; tail <= 60; tail++ {
		for next := -120; next <= 120; next++ {
			if got, want := ring.May(api.Log{Tail: tail, Next: next}), tail >= 1 && next >= tail && next-tail <= 24; got != want {
				t.Errorf("Tail %d, Next %d: %v", tail, next, got)
			}
			far := api.Log{Tail: api.MaxSeq + tail, Next: api.MaxSeq + next}
			if got, want := ring.May(far), tail <= 0 && next >= tail && next-tail <= 24; got != want {
				t.Errorf("Tail MaxSeq%+d, Next MaxSeq%+d: %v", tail, next, got)
			}
		}
	}
}

// P5.1: Place

func TestPlaceOfKnownSequences(t *testing.T) {
	for _, x := range []struct{ seq, place int }{{1, 3}, {2, 4}, {22, 24}, {23, 25}, {24, 2}, {25, 3}, {26, 4}, {47, 25}, {48, 2}, {49, 3}, {1000, 18}, {1 << 32, 18}, {1 << 39, 10}, {api.MaxSeq - 1, 17}, {api.MaxSeq, 18}} {
		if got, e := ring.Place(x.seq); got != x.place || e != api.OK {
			t.Errorf("%d: sector %d, %v, want %d", x.seq, got, e, x.place)
		}
	}
}

func TestPlaceGoesRoundTheCircle(t *testing.T) {
	for _, from := range []int{1, 1 << 31, 1<<32 - 30, 1<<39 - 7, api.MaxSeq - 200} {
		for seq := from; seq <= from+200; seq++ {
			here, e := ring.Place(seq)
			if e != api.OK || here < api.RingAt || here >= api.RingAt+api.Ring || (here-api.RingAt-seq)%api.Ring != 0 {
				t.Errorf("%d: sector %d, %v", seq, here, e)
			}
			if seq+api.Ring > from+200 {
				continue
			}
			if round, e := ring.Place(seq + api.Ring); e != api.OK || round != here {
				t.Errorf("%d and %d: sectors %d and %d, %v", seq, seq+api.Ring, here, round, e)
			}
		}
	}
}

func TestPlaceLiesAheadOfTheHomes(t *testing.T) {
	seen := map[int]int{}
	for seq := 1; seq <= 10*api.Ring; seq++ {
		n, _ := ring.Place(seq)
		seen[n]++
	}
	for n := range api.Sectors {
		want := 0
		if n >= 2 && n < api.HomeAt {
			want = 10
		}
		if seen[n] != want {
			t.Errorf("sector %d stands for %d sequences, want %d", n, seen[n], want)
		}
	}
}

func TestPlaceOfWhatIsNoSequence(t *testing.T) {
	for _, seq := range noSequences() {
		if got, e := ring.Place(seq); got != 0 || e != api.ErrArg {
			t.Errorf("%d: sector %d, %v", seq, got, e)
		}
	}
}

// P5.1: Used, Free

func TestUsedAndFree(t *testing.T) {
	for _, l := range logs() {
		if got, want := ring.Used(l), l.Next-l.Tail; got != want {
			t.Errorf("%+v uses %d, want %d", l, got, want)
		}
		if got, want := ring.Free(l), 24-(l.Next-l.Tail); got != want {
			t.Errorf("of %+v, %d are free, want %d", l, got, want)
		}
	}
}

func TestUsedAndFreeOfWhatIsNoLog(t *testing.T) {
	for _, l := range noLogs() {
		if used, free := ring.Used(l), ring.Free(l); used != 0 || free != 0 {
			t.Errorf("%+v uses %d, %d are free", l, used, free)
		}
	}
}

// P5.1: Has

func TestHas(t *testing.T) {
	for _, l := range logs() {
		for seq := l.Tail - 60; seq <= l.Next+60; seq++ {
			if got, want := ring.Has(l, seq), seq >= l.Tail && seq < l.Next; got != want {
				t.Errorf("%+v has %d: %v", l, seq, got)
			}
		}
		for _, seq := range []int{math.MinInt, math.MinInt + 1, -l.Tail, -1, 0, l.Tail + 1<<32, l.Tail + 1<<41, math.MaxInt - 1, math.MaxInt} {
			if ring.Has(l, seq) {
				t.Errorf("%+v has %d", l, seq)
			}
		}
	}
}

func TestHasOfWhatIsNoLog(t *testing.T) {
	for _, l := range noLogs() {
		for _, at := range []int{l.Tail, l.Next, 0, 1, 5, api.MaxSeq} {
			for _, seq := range []int{at - 1, at, at + 1, at + 12} {
				if ring.Has(l, seq) {
					t.Errorf("%+v, which may not be, has %d", l, seq)
				}
			}
		}
	}
}

// P5.2: Take

// taken checks what is taken: l with n more, and their sequences.
func taken(t *testing.T, l api.Log, n int) api.Log {
	t.Helper()
	got, seqs, e := ring.Take(l, n)
	want := []int{}
	for i := range n {
		want = append(want, l.Next+i)
	}
	if e != api.OK || got != (api.Log{Tail: l.Tail, Next: l.Next + n}) || !slices.Equal(seqs, want) {
		t.Errorf("of %+v, take %d: %+v, %v, %v", l, n, got, seqs, e)
	}
	return got
}

// untaken checks that nothing is taken.
func untaken(t *testing.T, l api.Log, n int, want api.Errno) {
	t.Helper()
	if got, seqs, e := ring.Take(l, n); e != want || got != (api.Log{}) || len(seqs) != 0 {
		t.Errorf("of %+v, take %d: %+v, %v, %v, want %v", l, n, got, seqs, e, want)
	}
}

func TestTakeTheExamples(t *testing.T) {
	l, seqs, e := ring.Take(api.Log{Tail: 1, Next: 1}, 3)
	if l != (api.Log{Tail: 1, Next: 4}) || !slices.Equal(seqs, []int{1, 2, 3}) || e != api.OK {
		t.Errorf("got %+v, %v, %v", l, seqs, e)
	}
	untaken(t, api.Log{Tail: 5, Next: 28}, 3, api.ErrFull)
}

func TestTakeOfEachLogAndCount(t *testing.T) {
	for _, l := range logs() {
		for n := range 25 {
			if n > 24-(l.Next-l.Tail) || l.Next+n > api.MaxSeq {
				untaken(t, l, n, api.ErrFull)
			} else {
				taken(t, l, n)
			}
		}
	}
}

func TestTakeWhatIsFree(t *testing.T) {
	for used := range 25 {
		l := api.Log{Tail: 7, Next: 7 + used}
		taken(t, l, 0)
		if full := taken(t, l, 24-used); ring.Free(full) != 0 {
			t.Errorf("of %+v, %d are free", full, ring.Free(full))
		}
		if used > 0 {
			untaken(t, l, 25-used, api.ErrFull)
			untaken(t, l, api.Ring, api.ErrFull)
		}
		untaken(t, l, api.Ring+1, api.ErrArg)
	}
}

func TestTakeUpToTheLastSequence(t *testing.T) {
	for left := range 25 {
		l := api.Log{Tail: api.MaxSeq - left, Next: api.MaxSeq - left}
		taken(t, l, left)
		if left < 24 {
			untaken(t, l, left+1, api.ErrFull)
			untaken(t, l, api.Ring, api.ErrFull)
		}
	}
	// Next is the last sequence: nothing more goes behind it.
	for used := range 25 {
		l := api.Log{Tail: api.MaxSeq - used, Next: api.MaxSeq}
		taken(t, l, 0)
		untaken(t, l, 1, api.ErrFull)
	}
}

func TestTakeWhereNextIsAboveTheLastSequence(t *testing.T) {
	for above := 1; above <= 24; above++ {
		for used := above; used <= 24; used++ {
			l := api.Log{Tail: api.MaxSeq + above - used, Next: api.MaxSeq + above}
			for n := range 25 {
				untaken(t, l, n, api.ErrFull)
			}
		}
	}
}

func TestTakeOfWhatIsNoLog(t *testing.T) {
	for _, l := range noLogs() {
		for n := range 25 {
			untaken(t, l, n, api.ErrArg)
		}
		for _, n := range wrongCounts() {
			untaken(t, l, n, api.ErrArg)
		}
	}
}

func TestTakeOfAWrongCount(t *testing.T) {
	for _, l := range logs() {
		for _, n := range wrongCounts() {
			// Where the log is full or at its end, too, the count is named first.
			untaken(t, l, n, api.ErrArg)
		}
	}
}

func TestTakeAnswersNewMemory(t *testing.T) {
	l := api.Log{Tail: 5, Next: 7}
	_, a, _ := ring.Take(l, 4)
	_, b, _ := ring.Take(l, 4)
	spoil(a)
	if !slices.Equal(b, []int{7, 8, 9, 10}) {
		t.Errorf("an answer shares memory with another: %v", b)
	}
	spoil(b)
	if _, c, _ := ring.Take(l, 4); !slices.Equal(c, []int{7, 8, 9, 10}) {
		t.Errorf("an answer hangs on an earlier one: %v", c)
	}
}

// spoil writes over a list, its spare room too.
func spoil(l []int) {
	l = l[:cap(l)]
	for i := range l {
		l[i] = -77
	}
}

// P5.2: Cut

// uncut checks that l is not cut at tail.
func uncut(t *testing.T, l api.Log, tail int) {
	t.Helper()
	if got, e := ring.Cut(l, tail); e != api.ErrArg || got != (api.Log{}) {
		t.Errorf("%+v, cut at %d: %+v, %v", l, tail, got, e)
	}
}

func TestCutOfEachLog(t *testing.T) {
	for _, l := range logs() {
		for tail := l.Tail; tail <= l.Next; tail++ {
			if got, e := ring.Cut(l, tail); e != api.OK || got != (api.Log{Tail: tail, Next: l.Next}) {
				t.Errorf("%+v, cut at %d: %+v, %v", l, tail, got, e)
			}
		}
		for _, tail := range []int{l.Tail - 1, l.Tail - 2, l.Tail - 24, l.Next + 1, l.Next + 2, l.Next + 24, l.Tail + 25, -l.Tail, l.Tail - 1<<32, l.Tail + 1<<32, l.Next + 1<<32, math.MinInt, math.MinInt + 1, math.MaxInt - 1, math.MaxInt} {
			uncut(t, l, tail)
		}
	}
}

func TestCutOfWhatIsNoLog(t *testing.T) {
	for _, l := range noLogs() {
		for _, at := range []int{l.Tail, l.Next, 0, 1, 5, api.MaxSeq} {
			for _, tail := range []int{at - 1, at, at + 1} {
				uncut(t, l, tail)
			}
		}
	}
}

func TestCutMayAnswerATailThatIsNoSequence(t *testing.T) {
	for above := 1; above <= 24; above++ {
		l := api.Log{Tail: api.MaxSeq, Next: api.MaxSeq + above}
		for past := 1; past <= above; past++ {
			got, e := ring.Cut(l, api.MaxSeq+past)
			if e != api.OK || got != (api.Log{Tail: api.MaxSeq + past, Next: api.MaxSeq + above}) {
				t.Errorf("%+v, cut at MaxSeq+%d: %+v, %v", l, past, got, e)
			}
			if ring.May(got) {
				t.Errorf("%+v may be", got)
			}
			untaken(t, got, 0, api.ErrArg)
			uncut(t, got, got.Tail)
		}
	}
}

// P5.3: what follows

func TestPlacesOfALogAreAllDifferent(t *testing.T) {
	for _, l := range logs() {
		at := map[int]int{}
		for seq := l.Tail; seq < l.Next && seq <= api.MaxSeq; seq++ {
			n, e := ring.Place(seq)
			if other, ok := at[n]; ok || e != api.OK {
				t.Errorf("%+v: %d and %d stand in sector %d, %v", l, other, seq, n, e)
			}
			at[n] = seq
		}
	}
}

func TestWhatIsTakenAndCutAwayLeavesAsMuchFree(t *testing.T) {
	for _, l := range logs() {
		for n := 0; n <= ring.Free(l) && l.Next+n <= api.MaxSeq; n++ {
			more := taken(t, l, n)
			if got, want := ring.Free(more), ring.Free(l)-n; got != want {
				t.Errorf("of %+v, %d are free, want %d", more, got, want)
			}
			less, e := ring.Cut(more, l.Tail+n)
			if e != api.OK || ring.Free(less) != ring.Free(l) || ring.Used(less) != ring.Used(l) {
				t.Errorf("%+v, with %d taken and cut away: %+v, %v", l, n, less, e)
			}
		}
	}
}

// TestAPlainLog takes and cuts, beside a list of the sequences that the log has.
func TestAPlainLog(t *testing.T) {
	next := dice(5)
	for _, from := range []int{1, 20, 1 << 32, api.MaxSeq - 300} {
		l, has, behind := api.Log{Tail: from, Next: from}, []int{}, from
		for range 400 {
			if next(2) == 0 {
				n := next(25)
				if len(has)+n > 24 || behind+n > api.MaxSeq {
					untaken(t, l, n, api.ErrFull)
					continue
				}
				l = taken(t, l, n)
				for range n {
					has = append(has, behind)
					behind++
				}
			} else {
				n := next(len(has) + 1)
				less, e := ring.Cut(l, l.Tail+n)
				if e != api.OK {
					t.Fatalf("%+v, cut at %d: %v", l, l.Tail+n, e)
				}
				l, has = less, has[n:]
			}
			if !ring.May(l) || ring.Used(l) != len(has) || ring.Free(l) != 24-len(has) {
				t.Fatalf("%+v has %d of %d", l, ring.Used(l), len(has))
			}
			for seq := l.Tail - 30; seq < l.Next+30; seq++ {
				if ring.Has(l, seq) != slices.Contains(has, seq) {
					t.Errorf("%+v has %d: %v", l, seq, ring.Has(l, seq))
				}
			}
		}
	}
}
