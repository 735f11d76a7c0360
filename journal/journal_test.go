package journal_test

import (
	"bytes"
	"math"
	"slices"
	"testing"

	"cashbox/api"
	"cashbox/disk"
	"cashbox/frame"
	"cashbox/journal"
	"cashbox/sums"
)

// dice answers numbers that look thrown, the same ones in each run.
func dice(seed uint64) func(below int) int {
	return func(below int) int {
		seed = seed*6364136223846793005 + 1442695040888963407
		return int((seed >> 33) % uint64(below))
	}
}

func thrown(n int, seed uint64) []byte {
	next := dice(seed)
	b := make([]byte, n)
	for i := range b {
		b[i] = byte(next(256))
	}
	return b
}

// record is one of n bytes, another one for each sequence.
func record(n, seq int) []byte {
	return thrown(n, uint64(1000*n+seq))
}

// place is the sector in which the sequence seq stands.
func place(seq int) int {
	return 2 + seq%24
}

// sectors are those of a record, as the document's words say them.
func sectors(b []byte, seq, inc int) [][]byte {
	l := [][]byte{}
	of, mark := (len(b)+44)/45, sums.Sum(b)
	for part := range of {
		load := b[45*part : min(45*part+45, len(b))]
		s := []byte{}
		for i := range 6 {
			s = append(s, byte((seq+part)>>(8*i)))
		}
		s = append(s, byte(inc), byte(inc>>8), byte(inc>>16), byte(16*part+of), byte(len(load)), byte(mark), byte(mark>>8), byte(mark>>16), byte(mark>>24))
		s = append(s, load...)
		l = append(l, sums.Seal(append(s, make([]byte, 60-len(s))...)))
	}
	return l
}

// frames are those of a record.
func frames(t *testing.T, b []byte, seq, inc int) []api.Frame {
	t.Helper()
	l, e := frame.Cut(b, seq, inc)
	if e != api.OK {
		t.Fatalf("%d bytes at %d of %d are not cut: %v", len(b), seq, inc, e)
	}
	return l
}

// with is f with one thing changed.
func with(f api.Frame, change func(*api.Frame)) api.Frame {
	f.Load = bytes.Clone(f.Load)
	change(&f)
	return f
}

// put writes each frame where its sequence stands.
func put(t *testing.T, d *disk.Disk, l ...api.Frame) {
	t.Helper()
	for _, f := range l {
		b, e := frame.Bytes(f)
		if e != api.OK {
			t.Fatalf("%+v has no sector: %v", f, e)
		}
		ok(t, "write", d.Write(place(f.Seq), b))
	}
}

// holds is a disk with just these frames, written one behind the other.
func holds(t *testing.T, l ...api.Frame) *disk.Disk {
	t.Helper()
	d := disk.New()
	put(t, d, l...)
	return d
}

func ok(t *testing.T, what string, e api.Errno) {
	t.Helper()
	if e != api.OK {
		t.Fatalf("%s: %v", what, e)
	}
}

// down is a disk that is down, with a record at sequence 1.
func down(t *testing.T) *disk.Disk {
	t.Helper()
	d := disk.New()
	appended(t, d, api.Log{Tail: 1, Next: 1}, 1, record(50, 1))
	ok(t, "flush", journal.Flush(d))
	ok(t, "crash", d.Crash(nil))
	return d
}

// crash takes the disk down, and up again.
func crash(t *testing.T, d *disk.Disk, plan ...api.Kept) {
	t.Helper()
	ok(t, "crash", d.Crash(plan))
	ok(t, "up", d.Up())
}

// look is all that can be told of a disk without a crash.
type look struct {
	down    bool
	writes  int
	durable string
	read    [api.Sectors]string
}

func lookAt(d *disk.Disk) look {
	l := look{down: d.Down(), writes: d.Writes(), durable: string(d.Durable())}
	for n := range l.read {
		b, _ := d.Read(n)
		l.read[n] = string(b)
	}
	return l
}

// appended appends b, which must be taken.
func appended(t *testing.T, d *disk.Disk, l api.Log, inc int, b []byte) api.Log {
	t.Helper()
	more, e := journal.Append(d, l, inc, b)
	if want := (api.Log{Tail: l.Tail, Next: l.Next + (len(b)+44)/45}); e != api.OK || more != want {
		t.Fatalf("append %d bytes of %d to %+v: %+v, %v, want %+v", len(b), inc, l, more, e, want)
	}
	return more
}

// refused appends b, which must not be taken.
func refused(t *testing.T, d *disk.Disk, l api.Log, inc int, b []byte, want api.Errno) {
	t.Helper()
	before, was := lookAt(d), bytes.Clone(b)
	if got, e := journal.Append(d, l, inc, b); e != want || got != l {
		t.Errorf("append %d bytes of %d to %+v: %+v, %v, want the log and %v", len(b), inc, l, got, e, want)
	}
	if lookAt(d) != before {
		t.Errorf("append %d bytes of %d to %+v: refused, and the disk is another", len(b), inc, l)
	}
	if !bytes.Equal(b, was) {
		t.Errorf("append %d bytes of %d to %+v: the bytes are others", len(b), inc, l)
	}
}

// scanned scans from tail on: just these records must be found, one behind the other.
func scanned(t *testing.T, what string, d *disk.Disk, tail int, want ...[]byte) {
	t.Helper()
	before := lookAt(d)
	got, l, e := journal.Scan(d, tail)
	if e != api.OK || !slices.EqualFunc(got, want, bytes.Equal) {
		t.Errorf("%s, from %d: %v, records of %d bytes, want of %d, or others", what, tail, e, lengths(got), lengths(want))
	}
	seqs := []int{}
	next := tail
	for _, b := range want {
		seqs = append(seqs, next)
		next += (len(b) + 44) / 45
	}
	if l != (api.Log{Tail: tail, Next: next}) {
		t.Errorf("%s, from %d: %+v, want Next %d", what, tail, l, next)
	}
	at, records := gone(d, tail)
	if !slices.Equal(at, seqs) || !slices.EqualFunc(records, want, bytes.Equal) {
		t.Errorf("%s, each from %d: records of %d bytes at %d, want of %d at %d, or others", what, tail, lengths(records), at, lengths(want), seqs)
	}
	if lookAt(d) != before {
		t.Errorf("%s, from %d: a scan changed the disk", what, tail)
	}
}

// lengths are how many bytes each of l has.
func lengths(l [][]byte) []int {
	n := []int{}
	for _, b := range l {
		n = append(n, len(b))
	}
	return n
}

// gone is what Each goes over.
func gone(d *disk.Disk, tail int) (seqs []int, records [][]byte) {
	for seq, b := range journal.Each(d, tail) {
		seqs, records = append(seqs, seq), append(records, b)
	}
	return seqs, records
}

// unscanned scans from tail on, which must be refused.
func unscanned(t *testing.T, d *disk.Disk, tail int, want api.Errno) {
	t.Helper()
	if got, l, e := journal.Scan(d, tail); e != want || len(got) != 0 || l != (api.Log{}) {
		t.Errorf("a scan from %d: %x, %+v, %v, want %v", tail, got, l, e, want)
	}
	if at, got := gone(d, tail); len(at) != 0 {
		t.Errorf("each from %d: %x at %d, want none", tail, got, at)
	}
}

// noSequences are numbers that are no sequences.
func noSequences() []int {
	return []int{0, -1, -2, -23, -24, -25, -1 << 32, -api.MaxSeq, math.MinInt, math.MinInt + 1, api.MaxSeq + 1, api.MaxSeq + 2, api.MaxSeq + 24, 1 << 41, 1<<48 + 1, 1<<62 + 24, math.MaxInt - 1, math.MaxInt}
}

// noIncs are numbers that no frame's incarnation is.
func noIncs() []int {
	return []int{-1, -2, math.MinInt, math.MinInt + 1, api.MaxInc + 1, api.MaxInc + 2, 1 << 24, 1<<24 + 1, 1 << 32, math.MaxInt}
}

// noLogs are some that may not be.
func noLogs() []api.Log {
	return []api.Log{{}, {Tail: 0, Next: 1}, {Tail: 1, Next: 0}, {Tail: -1, Next: 1}, {Tail: 2, Next: 1}, {Tail: 1, Next: 26}, {Tail: 5, Next: 30}, {Tail: 1, Next: 1<<32 + 1}, {Tail: api.MaxSeq + 1, Next: api.MaxSeq + 1}, {Tail: api.MaxSeq, Next: api.MaxSeq - 1}, {Tail: api.MaxSeq, Next: api.MaxSeq + 25}, {Tail: math.MinInt, Next: math.MaxInt}, {Tail: math.MaxInt, Next: math.MinInt}, {Tail: math.MaxInt, Next: math.MaxInt}, {Tail: math.MinInt, Next: math.MinInt}}
}

// P6.1: Wants

func TestWants(t *testing.T) {
	for _, x := range []struct{ n, want int }{{math.MinInt, 0}, {math.MinInt + 1, 0}, {-1 << 32, 0}, {-45, 0}, {-1, 0}, {0, 0}, {1, 1}, {2, 1}, {44, 1}, {45, 1}, {46, 2}, {47, 2}, {89, 2}, {90, 2}, {91, 0}, {92, 0}, {135, 0}, {136, 0}, {1 << 32, 0}, {1<<32 + 1, 0}, {math.MaxInt - 44, 0}, {math.MaxInt - 1, 0}, {math.MaxInt, 0}} {
		if got := journal.Wants(x.n); got != x.want {
			t.Errorf("%d bytes: %d, want %d", x.n, got, x.want)
		}
	}
}

func TestWantsIsHowManySectorsAreTaken(t *testing.T) {
	for n := range 300 {
		d := disk.New()
		l, e := journal.Append(d, api.Log{Tail: 1, Next: 1}, 1, record(n, 1))
		if got := journal.Wants(n); got != l.Next-1 || got != d.Writes() || (got == 0) != (e != api.OK) {
			t.Errorf("%d bytes want %d: %+v, %v, %d were written", n, got, l, e, d.Writes())
		}
	}
}

// P6.1: Flush

func TestFlushIsTheDisks(t *testing.T) {
	if e := journal.Flush(nil); e != api.ErrNil {
		t.Errorf("no disk: %v", e)
	}
	d := down(t)
	if e := journal.Flush(d); e != api.ErrDown || !d.Down() {
		t.Errorf("a disk that is down: %v", e)
	}
	ok(t, "up", d.Up())
	ok(t, "flush of nothing", journal.Flush(d))
	ok(t, "write", d.Write(30, []byte{7}))
	ok(t, "flush", journal.Flush(d))
	if d.Writes() != 0 || d.Durable()[30*api.Sector] != 7 {
		t.Errorf("a flush: %d writes are left, sector 30 begins with %d", d.Writes(), d.Durable()[30*api.Sector])
	}
}

// P6.1: Append

func TestAppendWritesItsFrames(t *testing.T) {
	for _, l := range []api.Log{{Tail: 1, Next: 1}, {Tail: 1, Next: 3}, {Tail: 5, Next: 23}, {Tail: 20, Next: 22}, {Tail: 20, Next: 24}, {Tail: 24, Next: 46}, {Tail: 1 << 32, Next: 1<<32 + 7}, {Tail: 1<<39 + 5, Next: 1<<39 + 5}, {Tail: api.MaxSeq - 20, Next: api.MaxSeq - 2}} {
		for _, inc := range []int{0, 1, 255, 256, 70000, api.MaxInc - 1, api.MaxInc} {
			for _, n := range []int{1, 2, 44, 45, 46, 89, 90} {
				d := disk.New()
				for i := range api.Sectors {
					ok(t, "write", d.Write(i, thrown(api.Sector, uint64(i))))
				}
				ok(t, "flush", d.Flush())
				want := lookAt(d)
				b := record(n, l.Next)
				appended(t, d, l, inc, b)
				for i, s := range sectors(b, l.Next, inc) {
					want.writes++
					want.read[place(l.Next+i)] = string(s)
				}
				if lookAt(d) != want {
					t.Errorf("%d bytes of %d, behind %+v: another disk than its frames make", n, inc, l)
				}
			}
		}
	}
}

func TestAppendDoesNotFlush(t *testing.T) {
	d := disk.New()
	l := appended(t, d, api.Log{Tail: 1, Next: 1}, 1, record(90, 1))
	appended(t, d, l, 1, record(45, 3))
	if d.Writes() != 3 || !bytes.Equal(d.Durable(), make([]byte, api.Sectors*api.Sector)) {
		t.Errorf("%d writes, and something is durable", d.Writes())
	}
	ok(t, "flush", journal.Flush(d))
	if d.Writes() != 0 {
		t.Errorf("%d writes are left behind a flush", d.Writes())
	}
	crash(t, d)
	scanned(t, "behind a flush and a crash", d, 1, record(90, 1), record(45, 3))
}

func TestAppendWithoutADisk(t *testing.T) {
	for _, l := range append(noLogs(), api.Log{Tail: 1, Next: 1}, api.Log{Tail: 7, Next: 31}) {
		for _, n := range []int{0, 1, 90, 91} {
			for _, inc := range []int{-1, 1, api.MaxInc + 1} {
				if got, e := journal.Append(nil, l, inc, record(n, 1)); e != api.ErrNil || got != l {
					t.Errorf("%d bytes of %d, behind %+v, without a disk: %+v, %v", n, inc, l, got, e)
				}
			}
		}
	}
}

func TestAppendToWhatIsNoLog(t *testing.T) {
	for _, l := range noLogs() {
		for _, n := range []int{0, 1, 90, 91} {
			for _, inc := range []int{-1, 1, api.MaxInc + 1} {
				refused(t, disk.New(), l, inc, record(n, 1), api.ErrArg)
				refused(t, down(t), l, inc, record(n, 1), api.ErrArg)
			}
		}
	}
}

func TestAppendOfNoBytes(t *testing.T) {
	for _, l := range []api.Log{{Tail: 1, Next: 1}, {Tail: 1, Next: 25}, {Tail: api.MaxSeq, Next: api.MaxSeq}} {
		for _, b := range [][]byte{nil, {}, thrown(9, 1)[:0]} {
			refused(t, disk.New(), l, 1, b, api.ErrArg)
			refused(t, down(t), l, 1, b, api.ErrArg)
		}
	}
}

func TestAppendOfNoSuchIncarnation(t *testing.T) {
	for _, inc := range noIncs() {
		for _, n := range []int{1, 46, 91, 1000} {
			refused(t, disk.New(), api.Log{Tail: 3, Next: 9}, inc, record(n, 1), api.ErrArg)
			refused(t, disk.New(), api.Log{Tail: 3, Next: 27}, inc, record(n, 1), api.ErrArg)
			refused(t, down(t), api.Log{Tail: 3, Next: 9}, inc, record(n, 1), api.ErrArg)
		}
	}
	for _, inc := range []int{0, 1, api.MaxInc} {
		appended(t, disk.New(), api.Log{Tail: 3, Next: 9}, inc, record(46, 1))
	}
}

func TestAppendOfALongRecord(t *testing.T) {
	for _, n := range []int{91, 92, 135, 136, 255, 256, 300, 1 << 16} {
		refused(t, disk.New(), api.Log{Tail: 1, Next: 1}, 1, record(n, 1), api.ErrLong)
		refused(t, disk.New(), api.Log{Tail: 1, Next: 25}, 1, record(n, 1), api.ErrLong)
		refused(t, disk.New(), api.Log{Tail: api.MaxSeq, Next: api.MaxSeq}, 1, record(n, 1), api.ErrLong)
		refused(t, down(t), api.Log{Tail: 1, Next: 1}, 1, record(n, 1), api.ErrLong)
	}
}

func TestAppendToAFullRing(t *testing.T) {
	for _, tail := range []int{1, 5, 23, 24, 25, 1 << 32, api.MaxSeq - 24} {
		full, short, enough := api.Log{Tail: tail, Next: tail + 24}, api.Log{Tail: tail, Next: tail + 23}, api.Log{Tail: tail, Next: tail + 22}
		for _, n := range []int{1, 45} {
			refused(t, disk.New(), full, 1, record(n, 1), api.ErrFull)
			refused(t, down(t), full, 1, record(n, 1), api.ErrFull)
			appended(t, disk.New(), short, 1, record(n, 1))
			appended(t, disk.New(), enough, 1, record(n, 1))
		}
		for _, n := range []int{46, 90} {
			// With MaxSeq as its first sequence a record of two sectors is refused by its frames already.
			if full.Next < api.MaxSeq {
				refused(t, disk.New(), full, 1, record(n, 1), api.ErrFull)
			}
			refused(t, disk.New(), short, 1, record(n, 1), api.ErrFull)
			refused(t, down(t), short, 1, record(n, 1), api.ErrFull)
			appended(t, disk.New(), enough, 1, record(n, 1))
		}
	}
}

func TestAppendAtTheLastSequences(t *testing.T) {
	for _, used := range []int{0, 1, 5, 20} {
		at := func(next int) api.Log { return api.Log{Tail: min(next-used, api.MaxSeq), Next: next} }
		appended(t, disk.New(), at(api.MaxSeq-1), 1, record(45, 1))
		appended(t, disk.New(), at(api.MaxSeq-2), 1, record(46, 1))
		refused(t, disk.New(), at(api.MaxSeq), 1, record(45, 1), api.ErrFull)
		refused(t, disk.New(), at(api.MaxSeq-1), 1, record(46, 1), api.ErrFull)
		refused(t, down(t), at(api.MaxSeq), 1, record(45, 1), api.ErrFull)
		refused(t, disk.New(), at(api.MaxSeq), 1, record(46, 1), api.ErrArg)
		for _, next := range []int{api.MaxSeq + 1, api.MaxSeq + 2, api.MaxSeq + 4} {
			for _, n := range []int{1, 45, 46, 90, 91} {
				refused(t, disk.New(), api.Log{Tail: api.MaxSeq - 20, Next: next}, 1, record(n, 1), api.ErrArg)
			}
		}
	}
}

func TestAppendToADiskThatIsDown(t *testing.T) {
	for _, l := range []api.Log{{Tail: 1, Next: 1}, {Tail: 1, Next: 3}, {Tail: 5, Next: 28}} {
		refused(t, down(t), l, 1, record(1, 1), api.ErrDown)
		refused(t, down(t), l, 0, record(45, 1), api.ErrDown)
	}
	d := down(t)
	refused(t, d, api.Log{Tail: 1, Next: 3}, 1, record(90, 1), api.ErrDown)
	ok(t, "up", d.Up())
	scanned(t, "up again", d, 1, record(50, 1))
}

func TestAppendGoesOnBehindAnError(t *testing.T) {
	d := disk.New()
	l := appended(t, d, api.Log{Tail: 1, Next: 1}, 1, record(50, 1))
	for _, x := range []struct {
		inc int
		b   []byte
		e   api.Errno
	}{{1, nil, api.ErrArg}, {-1, record(5, 1), api.ErrArg}, {1, record(91, 1), api.ErrLong}} {
		got, e := journal.Append(d, l, x.inc, x.b)
		if e != x.e || got != l {
			t.Errorf("%d bytes of %d: %+v, %v, want %v", len(x.b), x.inc, got, e, x.e)
		}
		l = appended(t, d, got, 1, record(45, got.Next))
	}
	scanned(t, "without what was refused", d, 1, record(50, 1), record(45, 3), record(45, 4), record(45, 5))
}

// P6.2: Scan and Each

func TestScanWithoutADisk(t *testing.T) {
	for _, tail := range append(noSequences(), 1, 24, 1000, api.MaxSeq) {
		unscanned(t, nil, tail, api.ErrNil)
	}
}

func TestScanFromNoSequence(t *testing.T) {
	d := disk.New()
	appended(t, d, api.Log{Tail: 1, Next: 1}, 1, record(50, 1))
	for _, tail := range noSequences() {
		unscanned(t, d, tail, api.ErrArg)
		unscanned(t, down(t), tail, api.ErrArg)
	}
}

func TestScanOfADiskThatIsDown(t *testing.T) {
	for _, tail := range []int{1, 2, 3, 24, 25, 1 << 32, api.MaxSeq} {
		unscanned(t, down(t), tail, api.ErrDown)
	}
}

func TestScanOfAFreshDisk(t *testing.T) {
	for _, tail := range []int{1, 2, 23, 24, 25, 1000, 1 << 32, api.MaxSeq - 1, api.MaxSeq} {
		scanned(t, "a fresh disk", disk.New(), tail)
	}
}

func TestScanOfEachLength(t *testing.T) {
	for n := 1; n <= 90; n++ {
		for _, b := range [][]byte{record(n, 7), make([]byte, n), bytes.Repeat([]byte{255}, n)} {
			d := disk.New()
			l := appended(t, d, api.Log{Tail: 7, Next: 7}, 3, b)
			scanned(t, "one record", d, 7, b)
			appended(t, d, l, 3, b)
			scanned(t, "the same one again", d, 7, b, b)
			scanned(t, "the second one", d, l.Next, b)
		}
	}
}

func TestScanAroundTheRingsEnd(t *testing.T) {
	next := dice(1)
	for tail := 1; tail <= 60; tail++ {
		d, l, want := disk.New(), api.Log{Tail: tail, Next: tail}, [][]byte{}
		for l.Next-tail <= 22 {
			b := record(1+next(90), l.Next)
			l = appended(t, d, l, 1, b)
			want = append(want, b)
			scanned(t, "so far", d, tail, want...)
		}
	}
}

func TestScanOfARingThatIsFull(t *testing.T) {
	for _, tail := range []int{1, 2, 12, 23, 24, 25, 26, 1<<32 + 11, api.MaxSeq - 24} {
		for _, n := range []int{45, 90} {
			d, l, want := disk.New(), api.Log{Tail: tail, Next: tail}, [][]byte{}
			for l.Next < tail+24 {
				b := record(n, l.Next)
				l = appended(t, d, l, 1, b)
				want = append(want, b)
			}
			scanned(t, "a full ring", d, tail, want...)
			if tail+24 < api.MaxSeq {
				scanned(t, "a full ring, from behind it", d, tail+24)
			}
			for i := range want {
				scanned(t, "a full ring, from later on", d, tail+i*((n+44)/45), want[i:]...)
			}
		}
	}
}

func TestScanFromTheSecondPart(t *testing.T) {
	d := disk.New()
	l := appended(t, d, api.Log{Tail: 1, Next: 1}, 1, record(46, 1))
	appended(t, d, l, 1, record(10, 3))
	scanned(t, "from the first part", d, 1, record(46, 1), record(10, 3))
	scanned(t, "from the second part", d, 2)
	scanned(t, "from behind it", d, 3, record(10, 3))
}

func TestScanOverARecordWithoutAPart(t *testing.T) {
	for lost := range 2 {
		d := holds(t, frames(t, record(10, 1), 1, 1)...)
		put(t, d, frames(t, record(60, 2), 2, 1)[1-lost])
		put(t, d, frames(t, record(10, 4), 4, 1)...)
		scanned(t, "a part is missing", d, 1, record(10, 1))
		scanned(t, "from behind the gap", d, 4, record(10, 4))
	}
}

func TestScanOfARecordThatGoesBeyondTheRing(t *testing.T) {
	for _, tail := range []int{1, 24, 100} {
		d, want := disk.New(), [][]byte{}
		for i := range 23 {
			put(t, d, frames(t, record(20, tail+i), tail+i, 1)...)
			want = append(want, record(20, tail+i))
		}
		// The second part would stand in the sector of the tail.
		put(t, d, frames(t, record(60, tail+23), tail+23, 1)[0])
		scanned(t, "the last sector begins a record", d, tail, want...)
		put(t, d, frames(t, record(60, tail+23), tail+23, 1)[1])
		scanned(t, "it goes on in the first sector", d, tail)
		scanned(t, "and from the second sector on", d, tail+1, append(want[1:], record(60, tail+23))...)
	}
}

func TestScanAtTheLastSequences(t *testing.T) {
	d := holds(t, frames(t, record(60, 1), api.MaxSeq-2, 1)...)
	put(t, d, frames(t, record(45, 2), api.MaxSeq, 1)...)
	scanned(t, "up to the last sequence", d, api.MaxSeq-2, record(60, 1), record(45, 2))
	scanned(t, "the last sequence alone", d, api.MaxSeq, record(45, 2))
	put(t, d, with(frames(t, record(60, 3), 9, 1)[0], func(f *api.Frame) { f.Seq = api.MaxSeq }))
	scanned(t, "a record that would go beyond", d, api.MaxSeq-2, record(60, 1))
	scanned(t, "that one alone", d, api.MaxSeq)
	for i, b := range sectors(record(60, 3), api.MaxSeq, 1) {
		ok(t, "write", d.Write(place(api.MaxSeq+i), b))
	}
	scanned(t, "that one, with what would be its second part", d, api.MaxSeq)
}

func TestScanOverABitThatIsTurned(t *testing.T) {
	all := [][]byte{record(10, 1), record(60, 2), record(45, 4)}
	for seq, whole := range []int{0, 1, 1, 2} {
		for bit := range 8 * api.Sector {
			d, l := disk.New(), api.Log{Tail: 1, Next: 1}
			for _, b := range all {
				l = appended(t, d, l, 1, b)
			}
			s, e := d.Read(place(seq + 1))
			ok(t, "read", e)
			s[bit/8] ^= 1 << (bit % 8)
			ok(t, "write", d.Write(place(seq+1), s))
			scanned(t, "a bit is turned", d, 1, all[:whole]...)
		}
	}
}

func TestScanOverIncarnations(t *testing.T) {
	for _, x := range []struct {
		incs []int
		n    int
	}{{[]int{1, 1, 1}, 3}, {[]int{0, 0, 0}, 3}, {[]int{1, 2, 3}, 3}, {[]int{0, 1, api.MaxInc}, 3}, {[]int{5, 900, 70000}, 3}, {[]int{api.MaxInc, api.MaxInc, api.MaxInc}, 3}, {[]int{1, 0, 1}, 1}, {[]int{1, 0, 0}, 1}, {[]int{2, 1, 2}, 1}, {[]int{1, 2, 1}, 2}, {[]int{2, 2, 1}, 2}, {[]int{1, 3, 2}, 2}, {[]int{api.MaxInc, api.MaxInc - 1, api.MaxInc}, 1}, {[]int{256, 255, 256}, 1}, {[]int{65536, 65536, 65535}, 2}, {[]int{api.MaxInc, 0, api.MaxInc}, 1}} {
		for _, size := range []int{10, 60} {
			d, want, seq := disk.New(), [][]byte{}, 20
			for i, inc := range x.incs {
				b := record(size, seq)
				l := frames(t, b, seq, inc)
				put(t, d, l...)
				seq += len(l)
				if i < x.n {
					want = append(want, b)
				}
			}
			scanned(t, "incarnations", d, 20, want...)
		}
	}
}

func TestScanOverPartsThatDoNotBelongTogether(t *testing.T) {
	a := record(10, 1)
	b := frames(t, record(60, 2), 2, 7)
	behind := frames(t, record(10, 4), 4, 9)
	changes := map[string]func(f *api.Frame){
		"another Mark":   func(f *api.Frame) { f.Mark++ },
		"no Mark":        func(f *api.Frame) { f.Mark = 0 },
		"a lower Inc":    func(f *api.Frame) { f.Inc-- },
		"a greater Inc":  func(f *api.Frame) { f.Inc++ },
		"another load":   func(f *api.Frame) { f.Load[3] ^= 8 },
		"the only part":  func(f *api.Frame) { f.Part, f.Of = 0, 1 },
		"the other part": func(f *api.Frame) { f.Part, f.Load = 1-f.Part, thrown(45, 9) },
	}
	for what, change := range changes {
		for part := range 2 {
			l := slices.Clone(b)
			l[part] = with(b[part], change)
			d := holds(t, append(append(frames(t, a, 1, 7), l...), behind...)...)
			scanned(t, what, d, 1, a)
		}
	}
	d := holds(t, append(append(frames(t, a, 1, 7), b...), behind...)...)
	scanned(t, "nothing is changed", d, 1, a, record(60, 2), record(10, 4))
}

func TestScanOverRecordsThatCannotBeJoined(t *testing.T) {
	a, behind := record(10, 1), frames(t, record(10, 4), 4, 7)
	both := frames(t, record(60, 2), 2, 7)
	for i := range both {
		both[i].Mark ^= 1 << 31
	}
	d := holds(t, append(append(frames(t, a, 1, 7), both...), behind...)...)
	scanned(t, "two parts with one Mark, no sum of theirs", d, 1, a)
	scanned(t, "from behind them", d, 4, record(10, 4))
	one := with(frames(t, record(10, 3), 3, 7)[0], func(f *api.Frame) { f.Mark-- })
	d = holds(t, append([]api.Frame{one}, behind...)...)
	scanned(t, "a part alone, no sum of its", d, 3)
}

func TestScanOverARecordBegunAnew(t *testing.T) {
	a, b, c := frames(t, record(60, 1), 1, 7), frames(t, record(60, 2), 2, 7), frames(t, record(10, 2), 2, 7)
	d := holds(t, append([]api.Frame{a[0]}, b...)...)
	scanned(t, "begun, and another one begins", d, 1)
	scanned(t, "from that one on", d, 2, record(60, 2))
	d = holds(t, a[0], c[0])
	scanned(t, "begun, and a record of one part comes", d, 1)
	d = holds(t, a[0], a[1], with(a[1], func(f *api.Frame) { f.Seq++ }))
	scanned(t, "the last part comes again", d, 1, record(60, 1))
}

func TestScanOverAnEarlierRound(t *testing.T) {
	for _, from := range []int{1, 5, 24, 1 << 32} {
		d, l := disk.New(), api.Log{Tail: from, Next: from}
		for l.Next < from+24 {
			l = appended(t, d, l, 1, record(45, l.Next))
		}
		scanned(t, "the round behind it", d, from+24)
		scanned(t, "the round ahead of the last one", holds(t, frames(t, record(5, 1), from+24, 1)...), from)
		l = appended(t, d, api.Log{Tail: from + 12, Next: from + 24}, 1, record(60, from+24))
		want := [][]byte{}
		for seq := from + 12; seq < from+24; seq++ {
			want = append(want, record(45, seq))
		}
		scanned(t, "a round and two sectors", d, from+12, append(want, record(60, from+24))...)
		scanned(t, "from the next round on", d, from+24, record(60, from+24))
		scanned(t, "what is overwritten", d, from)
		scanned(t, "what is not", d, from+2, recordsOf(45, from+2, from+24, record(60, from+24))...)
		scanned(t, "from behind the last one", d, l.Next)
	}
}

// recordsOf are records of n bytes, one for each sequence from from to below to, and those that come behind them.
func recordsOf(n, from, to int, behind ...[]byte) [][]byte {
	l := [][]byte{}
	for seq := from; seq < to; seq++ {
		l = append(l, record(n, seq))
	}
	return append(l, behind...)
}

func TestScanLooksAtNoOtherSectors(t *testing.T) {
	d := disk.New()
	for n := range api.Sectors {
		ok(t, "write", d.Write(n, thrown(api.Sector, uint64(n))))
	}
	put(t, d, frames(t, record(60, 23), 23, 1)...)
	scanned(t, "among other bytes", d, 23, record(60, 23))
}

func TestScanReadsWhatIsNotFlushed(t *testing.T) {
	d := disk.New()
	l := appended(t, d, api.Log{Tail: 1, Next: 1}, 1, record(45, 1))
	ok(t, "flush", journal.Flush(d))
	appended(t, d, l, 1, record(46, 2))
	scanned(t, "flushed and not", d, 1, record(45, 1), record(46, 2))
}

// plain is what a scan should tell, worked out record by record: at each sequence it tries each number of parts.
func plain(d *disk.Disk, tail int) (records [][]byte, next int) {
	inc := 0
	next = tail
again:
	for {
		for of := 1; of <= 2; of++ {
			b, is := stands(d, next, of, inc)
			if is && next+of <= tail+24 {
				f, _ := at(d, next)
				records, next, inc = append(records, b), next+of, f.Inc
				continue again
			}
		}
		return records, next
	}
}

// stands is the record of just so many parts that stands at seq, of no incarnation below inc.
func stands(d *disk.Disk, seq, of, inc int) ([]byte, bool) {
	b := []byte{}
	first, is := at(d, seq)
	if !is || first.Inc < inc {
		return nil, false
	}
	for part := range of {
		f, is := at(d, seq+part)
		if !is || f.Part != part || f.Of != of || f.Inc != first.Inc || f.Mark != first.Mark {
			return nil, false
		}
		b = append(b, f.Load...)
	}
	return b, sums.Sum(b) == first.Mark
}

// at is the frame of the sequence seq, if it stands on the disk.
func at(d *disk.Disk, seq int) (api.Frame, bool) {
	if seq < 1 || seq > api.MaxSeq {
		return api.Frame{}, false
	}
	b, _ := d.Read(place(seq))
	f, e := frame.Read(b)
	return f, e == api.OK && f.Seq == seq
}

// spoilt is the frames of a record, now and then with something wrong about one of them.
func spoilt(next func(int) int, l []api.Frame) []api.Frame {
	i := next(len(l))
	switch next(40) {
	case 0:
		l[i].Mark++
	case 1:
		l[i].Inc = next(5)
	case 2:
		l[i].Seq = max(l[i].Seq-24, 1)
	case 3:
		l[i].Load[0]++
	case 4:
		return slices.Delete(l, i, i+1)
	case 5:
		for j := range l {
			l[j].Inc = next(5)
		}
	}
	return l
}

func TestManyDisksAgainstAPlainScan(t *testing.T) {
	next, found := dice(3), 0
	for range 3000 {
		tail := []int{1, 20, 1 << 32, api.MaxSeq - 23}[next(4)] + next(24)
		d, inc := disk.New(), next(3)
		for seq := tail; seq < tail+24 && seq < api.MaxSeq; {
			l := frames(t, record(1+next(90), seq), seq, inc)
			seq += len(l)
			put(t, d, spoilt(next, l)...)
			inc += next(20) / 19
		}
		want, end := plain(d, tail)
		scanned(t, "a disk", d, tail, want...)
		if _, l, _ := journal.Scan(d, tail); l.Next != end {
			t.Errorf("from %d: Next %d, want %d", tail, l.Next, end)
		}
		found += len(want)
	}
	if found < 3000 {
		t.Errorf("only %d records were found on all the disks", found)
	}
}

// several is a disk with records at sequences from 5 on.
func several(t *testing.T) (*disk.Disk, []int, [][]byte) {
	t.Helper()
	d, l := disk.New(), api.Log{Tail: 5, Next: 5}
	seqs, records := []int{}, [][]byte{}
	for _, n := range []int{45, 46, 1, 90, 44} {
		b := record(n, l.Next)
		seqs, records = append(seqs, l.Next), append(records, b)
		l = appended(t, d, l, 1, b)
	}
	return d, seqs, records
}

func TestEachTellsTheSequences(t *testing.T) {
	d, _, records := several(t)
	seqs, got := gone(d, 5)
	if !slices.Equal(seqs, []int{5, 6, 8, 9, 11}) || !slices.EqualFunc(got, records, bytes.Equal) {
		t.Errorf("%x at %d", got, seqs)
	}
}

func TestEachIsLeftEarly(t *testing.T) {
	d, seqs, records := several(t)
	each := journal.Each(d, 5)
	for stop := range seqs {
		n := 0
		for seq, b := range each {
			if seq != seqs[n] || !bytes.Equal(b, records[n]) {
				t.Errorf("%d of %d: %x at %d", n, stop, b, seq)
			}
			if n == stop {
				break
			}
			n++
		}
		if n != stop {
			t.Errorf("left at %d, not %d", n, stop)
		}
	}
	n := 0
	for range each {
		n++
	}
	if n != len(seqs) {
		t.Errorf("gone over again: %d, want %d", n, len(seqs))
	}
}

func TestEachWithinItself(t *testing.T) {
	d, seqs, _ := several(t)
	each, got := journal.Each(d, 5), []int{}
	for a := range each {
		for b := range each {
			got = append(got, 100*a+b)
		}
	}
	want := []int{}
	for _, a := range seqs {
		for _, b := range seqs {
			want = append(want, 100*a+b)
		}
	}
	if !slices.Equal(got, want) {
		t.Errorf("%d, want %d", got, want)
	}
}

func TestEachTellsWhatThereWas(t *testing.T) {
	d, _, records := several(t)
	each, behind := journal.Each(d, 5), journal.Each(d, 12)
	appended(t, d, api.Log{Tail: 5, Next: 12}, 1, record(9, 12))
	ok(t, "write", d.Write(place(5), nil))
	ok(t, "crash", d.Crash(nil))
	for range 2 {
		got := [][]byte{}
		for _, b := range each {
			got = append(got, b)
		}
		if !slices.EqualFunc(got, records, bytes.Equal) {
			t.Errorf("%x, want what there was: %x", got, records)
		}
		for seq, b := range behind {
			t.Errorf("%x at %d, where nothing was", b, seq)
		}
	}
	up := journal.Each(d, 5)
	ok(t, "up", d.Up())
	ok(t, "append", second(journal.Append(d, api.Log{Tail: 5, Next: 5}, 1, record(9, 5))))
	for seq, b := range up {
		t.Errorf("%x at %d, where the disk was down", b, seq)
	}
}

func second(_ api.Log, e api.Errno) api.Errno {
	return e
}

// P6.3 and P6.4: what follows

func TestExamplesOfTheChapter(t *testing.T) {
	for _, n := range []int{1, 45, 46, 90} {
		a, b := record(n, 1), record(n, 2)
		d := disk.New()
		l := appended(t, d, api.Log{Tail: 1, Next: 1}, 1, a)
		ok(t, "flush", journal.Flush(d))
		appended(t, d, l, 1, b)
		crash(t, d)
		scanned(t, "Append a, Flush, Append b, a crash that keeps nothing", d, 1, a)

		d = disk.New()
		l = appended(t, d, api.Log{Tail: 1, Next: 1}, 1, a)
		end := appended(t, d, l, 1, b)
		plan := []api.Kept{}
		for seq := l.Next; seq < end.Next; seq++ {
			plan = append(plan, api.Kept{Sector: place(seq), N: 1})
		}
		crash(t, d, plan...)
		scanned(t, "Append a (lost), Append b (kept)", d, 1)
		scanned(t, "from b on", d, l.Next, b)
	}
}

func TestEachCrashBehindAFlush(t *testing.T) {
	sizes := []int{60, 10, 90, 45, 46}
	for mask := range 1 << 8 {
		d, l := disk.New(), api.Log{Tail: 20, Next: 20}
		flushed := [][]byte{record(50, 20), record(45, 22)}
		for _, b := range flushed {
			l = appended(t, d, l, 2, b)
		}
		ok(t, "flush", journal.Flush(d))
		plan, want, whole := []api.Kept{}, flushed, true
		for _, n := range sizes {
			from := l.Next
			b := record(n, from)
			l = appended(t, d, l, 2, b)
			for seq := from; seq < l.Next; seq++ {
				if mask>>(seq-23)&1 == 1 {
					plan = append(plan, api.Kept{Sector: place(seq), N: 1})
				} else {
					whole = false
				}
			}
			if whole {
				want = append(want, b)
			}
		}
		if l.Next != 31 {
			t.Fatalf("%+v: the plan has a bit for each of 8 sectors", l)
		}
		crash(t, d, plan...)
		scanned(t, "kept by bits", d, 20, want...)
		crash(t, d)
		scanned(t, "another crash", d, 20, want...)
	}
}

// keptOfB is a disk behind a crash, with the journal of the incarnation inc: it appended a, b and c, each of two sectors, from sequence 1 on; of a nothing was kept.
func keptOfB(t *testing.T, inc int) *disk.Disk {
	t.Helper()
	d, l := disk.New(), api.Log{Tail: 1, Next: 1}
	for range 3 {
		l = appended(t, d, l, inc, record(60, l.Next))
	}
	crash(t, d, api.Kept{Sector: place(3), N: 1}, api.Kept{Sector: place(4), N: 1}, api.Kept{Sector: place(5), N: 1}, api.Kept{Sector: place(6), N: 1})
	scanned(t, "a is lost", d, 1)
	return d
}

func TestTheSameIncarnationGoesOn(t *testing.T) {
	d := keptOfB(t, 1)
	appended(t, d, api.Log{Tail: 1, Next: 1}, 1, record(50, 1))
	ok(t, "flush", journal.Flush(d))
	crash(t, d)
	scanned(t, "what it appended itself may follow", d, 1, record(50, 1), record(60, 3), record(60, 5))
}

func TestNothingIsFoundBehindALaterIncarnation(t *testing.T) {
	for _, incs := range [][2]int{{0, 1}, {1, 2}, {1, 900}, {255, 256}, {65535, 65536}, {0, api.MaxInc}, {api.MaxInc - 1, api.MaxInc}} {
		for _, n := range []int{45, 46, 60} {
			d := keptOfB(t, incs[0])
			l := api.Log{Tail: 1, Next: 1}
			want := [][]byte{}
			for l.Next < 3 {
				b := record(n, 100+l.Next)
				l = appended(t, d, l, incs[1], b)
				want = append(want, b)
				scanned(t, "not flushed", d, 1, want...)
			}
			ok(t, "flush", journal.Flush(d))
			crash(t, d)
			scanned(t, "a later one, up to where the earlier one's stand", d, 1, want...)
		}
	}
}

func TestNothingOfARecordOfTwoIncarnations(t *testing.T) {
	d := disk.New()
	appended(t, d, api.Log{Tail: 1, Next: 1}, 1, record(60, 1))
	crash(t, d, api.Kept{Sector: place(2), N: 1})
	appended(t, d, api.Log{Tail: 1, Next: 1}, 2, record(60, 1))
	crash(t, d, api.Kept{Sector: place(1), N: 1})
	scanned(t, "the same record, its parts of two incarnations", d, 1)
}

// A first frame is held against none: a tail that stands where a lost incarnation's record was kept finds that record.
func TestTheFirstFrameIsOfAnyIncarnation(t *testing.T) {
	d := keptOfB(t, 4)
	appended(t, d, api.Log{Tail: 1, Next: 1}, 5, record(50, 1))
	scanned(t, "from the later one on", d, 1, record(50, 1))
	scanned(t, "from the earlier one on", d, 3, record(60, 3), record(60, 5))
}

// entry is a record that a life appended: where it begins, and which write of its sector each of its parts was since the last flush.
type entry struct {
	seq    int
	b      []byte
	writes []int
}

// life is a journal that goes on over crashes; one incarnation begins behind each.
type life struct {
	t     *testing.T
	next  func(int) int
	d     *disk.Disk
	l     api.Log
	inc   int
	safe  []entry // flushed, and not cut away
	loose []entry // not flushed
	made  [api.Sectors]int
}

func (f *life) append() {
	b := record(1+f.next(90), f.next(1000))
	wants := (len(b) + 44) / 45
	if f.l.Next+wants > f.l.Tail+24 {
		refused(f.t, f.d, f.l, f.inc, b, api.ErrFull)
		return
	}
	e := entry{seq: f.l.Next, b: b}
	for seq := e.seq; seq < e.seq+wants; seq++ {
		f.made[place(seq)]++
		e.writes = append(e.writes, f.made[place(seq)])
	}
	f.loose = append(f.loose, e)
	f.l = appended(f.t, f.d, f.l, f.inc, b)
}

func (f *life) flush() {
	ok(f.t, "flush", journal.Flush(f.d))
	f.settle(f.loose)
}

// settle makes just those entries of the loose ones safe.
func (f *life) settle(kept []entry) {
	f.safe = append(f.safe, kept...)
	f.loose, f.made = nil, [api.Sectors]int{}
}

// cut leaves one record at least: it holds off what earlier incarnations left behind it.
func (f *life) cut() {
	if len(f.safe) > 1 {
		f.safe = f.safe[1+f.next(len(f.safe)-1):]
		f.l.Tail = f.safe[0].seq
	}
}

// crash keeps of each sector that was written nothing, or any of its writes.
func (f *life) crash() {
	plan, kept := []api.Kept{}, [api.Sectors]int{}
	chance := 1 + f.next(6)
	for n := range kept {
		kept[n] = f.made[n]
		if f.next(chance) == 0 {
			kept[n] = f.next(f.made[n] + 1)
		}
		plan = append(plan, api.Kept{Sector: n, N: kept[n]})
	}
	found := 0
counting:
	for _, e := range f.loose {
		for part, write := range e.writes {
			if kept[place(e.seq+part)] != write {
				break counting
			}
		}
		found++
	}
	crash(f.t, f.d, plan...)
	f.settle(f.loose[:found])
	f.check("behind a crash")
	_, l, e := journal.Scan(f.d, f.l.Tail)
	ok(f.t, "scan", e)
	f.l = l
	f.inc += 1 + f.next(3)
}

func (f *life) check(what string) {
	f.t.Helper()
	want := [][]byte{}
	for _, e := range append(slices.Clone(f.safe), f.loose...) {
		want = append(want, e.b)
	}
	scanned(f.t, what, f.d, f.l.Tail, want...)
}

func TestManyLivesOfAJournal(t *testing.T) {
	for seed := range 30 {
		next := dice(uint64(seed))
		from := []int{1, 17, 1 << 32}[seed%3]
		f := &life{t: t, next: next, d: disk.New(), l: api.Log{Tail: from, Next: from}}
		f.append()
		f.flush()
		for range 300 {
			switch next(10) {
			case 0:
				f.crash()
			case 1, 2:
				f.cut()
			case 3, 4:
				f.flush()
			default:
				f.append()
			}
			f.check("a step")
		}
	}
}

// R3 and R4

func spoil(b []byte) {
	b = b[:cap(b)]
	for i := range b {
		b[i] ^= 255
	}
}

func TestAppendLeavesWhatIsHandedIn(t *testing.T) {
	for _, n := range []int{1, 44, 45, 46, 89, 90} {
		d, room := disk.New(), thrown(200, 1)
		was := bytes.Clone(room)
		appended(t, d, api.Log{Tail: 1, Next: 1}, 1, room[:n])
		if !bytes.Equal(room, was) {
			t.Errorf("%d bytes: what was handed in is changed, or the room behind it", n)
		}
		spoil(room)
		scanned(t, "the bytes are spoilt", d, 1, was[:n])
	}
}

func TestScanAnswersNewMemory(t *testing.T) {
	d, _, records := several(t)
	a, _, _ := journal.Scan(d, 5)
	b, _, _ := journal.Scan(d, 5)
	for i := range a {
		spoil(a[i])
		for j := range a {
			if j > i && !bytes.Equal(a[j], records[j]) {
				t.Errorf("record %d shares memory with record %d", j, i)
			}
		}
	}
	clear(a)
	_ = append(a[:0], nil)
	if !slices.EqualFunc(b, records, bytes.Equal) {
		t.Error("two answers share memory")
	}
	scanned(t, "an answer is spoilt", d, 5, records...)
}

func TestEachAnswersNewMemory(t *testing.T) {
	d, _, records := several(t)
	each := journal.Each(d, 5)
	for range 3 {
		n := 0
		for _, b := range each {
			if !bytes.Equal(b, records[n]) {
				t.Errorf("record %d was changed by who had it", n)
			}
			spoil(b)
			n++
		}
	}
	scanned(t, "what was handed out is spoilt", d, 5, records...)
}

func TestNothingHangsOnCallsBefore(t *testing.T) {
	one, other := disk.New(), disk.New()
	appended(t, one, api.Log{Tail: 1, Next: 1}, 1, record(60, 1))
	for _, d := range []*disk.Disk{one, other, nil, down(t)} {
		journal.Scan(d, 1)
		journal.Scan(d, 0)
		gone(d, 1)
		journal.Append(d, api.Log{}, 1, record(9, 1))
		journal.Flush(d)
	}
	scanned(t, "one disk", one, 1, record(60, 1))
	scanned(t, "another disk", other, 1)
	a, b := appended(t, one, api.Log{Tail: 1, Next: 3}, 1, record(9, 3)), appended(t, other, api.Log{Tail: 1, Next: 3}, 1, record(9, 3))
	if a != b {
		t.Errorf("%+v and %+v", a, b)
	}
}
