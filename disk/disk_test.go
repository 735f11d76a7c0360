package disk_test

import (
	"bytes"
	"math"
	"slices"
	"testing"

	"cashbox/api"
	"cashbox/disk"
)

const last = api.Sectors - 1

// dice answers numbers that look thrown, the same ones in each run.
func dice(seed uint64) func(below int) int {
	return func(below int) int {
		seed = seed*6364136223846793005 + 1442695040888963407
		return int((seed >> 33) % uint64(below))
	}
}

// full are just Sector bytes, other ones for each mark.
func full(mark byte) []byte {
	b := make([]byte, api.Sector)
	for i := range b {
		b[i] = mark ^ byte(i*5+1)
	}
	return b
}

// padded is b with 0s behind it, as a sector.
func padded(b []byte) []byte {
	return append(bytes.Clone(b), make([]byte, api.Sector-len(b))...)
}

// wrongSectors are no sectors of a disk.
func wrongSectors() []int {
	return []int{-1, -2, -last, -api.Sectors, api.Sectors, api.Sectors + 1, api.Sectors + 30, 64, 256, 1 << 16, 1 << 32, 1<<32 + 5, math.MaxInt, math.MaxInt - 1, math.MinInt, math.MinInt + 5}
}

// wrongNumbers are of no write of a sector that has made writes.
func wrongNumbers(made int) []int {
	return []int{0, -1, -2, -made, made + 1, made + 2, 256 + 1, 1<<32 + 1, math.MaxInt, math.MinInt, math.MinInt + 1}
}

func ok(t *testing.T, what string, e api.Errno) {
	t.Helper()
	if e != api.OK {
		t.Fatalf("%s: %v", what, e)
	}
}

func write(t *testing.T, d *disk.Disk, n int, b []byte) {
	t.Helper()
	ok(t, "Write", d.Write(n, b))
}

func crash(t *testing.T, d *disk.Disk, plan ...api.Kept) {
	t.Helper()
	ok(t, "Crash", d.Crash(plan))
}

func crashAndUp(t *testing.T, d *disk.Disk, plan ...api.Kept) {
	t.Helper()
	crash(t, d, plan...)
	ok(t, "Up", d.Up())
}

func read(t *testing.T, d *disk.Disk, n int) []byte {
	t.Helper()
	b, e := d.Read(n)
	ok(t, "Read", e)
	return b
}

// tells checks that sector n reads as b with 0s behind.
func tells(t *testing.T, d *disk.Disk, n int, b []byte) {
	t.Helper()
	if got := read(t, d, n); !bytes.Equal(got, padded(b)) {
		t.Errorf("sector %d is % X, want % X", n, got, padded(b))
	}
}

// durably checks that sector n is durably b with 0s behind.
func durably(t *testing.T, d *disk.Disk, n int, b []byte) {
	t.Helper()
	all := d.Durable()
	if len(all) != api.Sectors*api.Sector {
		t.Fatalf("%d bytes are durable", len(all))
	}
	if got := all[n*api.Sector : (n+1)*api.Sector]; !bytes.Equal(got, padded(b)) {
		t.Errorf("sector %d is durably % X, want % X", n, got, padded(b))
	}
}

// writes checks how many writes the disk tells.
func writes(t *testing.T, d *disk.Disk, want int) {
	t.Helper()
	if got := d.Writes(); got != want {
		t.Errorf("%d writes, want %d", got, want)
	}
}

// look is all that can be told of a disk without changing it.
type look struct {
	down    bool
	writes  int
	durable string
	read    string
	e       api.Errno
}

func lookAt(d *disk.Disk) look {
	l := look{down: d.Down(), writes: d.Writes(), durable: string(d.Durable())}
	for n := range api.Sectors {
		b, e := d.Read(n)
		l.read += string(b)
		l.e = e
	}
	return l
}

// unchanged checks that a disk tells what it told ahead of a call.
func unchanged(t *testing.T, what string, before look, d *disk.Disk) {
	t.Helper()
	if lookAt(d) != before {
		t.Errorf("%s changed the disk", what)
	}
}

// used is a disk with durable sectors and with writes that aren't.
func used(t *testing.T) *disk.Disk {
	t.Helper()
	d := disk.New()
	write(t, d, 0, full(1))
	write(t, d, 5, full(2))
	write(t, d, last, full(3))
	ok(t, "Flush", d.Flush())
	write(t, d, 5, full(4))
	write(t, d, 5, full(5))
	write(t, d, 6, full(6))
	return d
}

// P3.1: New, Write, Read

func TestNewIsUpAndZero(t *testing.T) {
	d := disk.New()
	if d == nil {
		t.Fatal("no disk")
	}
	if d.Down() {
		t.Error("it is down")
	}
	writes(t, d, 0)
	for n := range api.Sectors {
		tells(t, d, n, nil)
		durably(t, d, n, nil)
	}
	if e := d.Up(); e != api.ErrArg {
		t.Errorf("Up of a new disk: %v", e)
	}
}

func TestNewDisksAreNotOne(t *testing.T) {
	a, b := disk.New(), disk.New()
	write(t, a, 3, full(1))
	ok(t, "Flush", a.Flush())
	write(t, a, 3, full(2))
	tells(t, b, 3, nil)
	durably(t, b, 3, nil)
	writes(t, b, 0)
	crash(t, a)
	if b.Down() || disk.New().Down() {
		t.Error("the crash of one disk took another down")
	}
}

func TestWriteIsRead(t *testing.T) {
	d := disk.New()
	for n := range api.Sectors {
		write(t, d, n, full(byte(n)))
		tells(t, d, n, full(byte(n)))
	}
	for n := range api.Sectors {
		tells(t, d, n, full(byte(n)))
		durably(t, d, n, nil)
	}
	for n := range api.Sectors {
		write(t, d, n, full(byte(n+100)))
	}
	for n := range api.Sectors {
		tells(t, d, n, full(byte(n+100)))
	}
}

func TestWriteTouchesOneSector(t *testing.T) {
	for _, n := range []int{0, 1, 5, api.RingAt, api.HomeAt, last - 1, last} {
		d := disk.New()
		write(t, d, n, full(7))
		for other := range api.Sectors {
			if other != n {
				tells(t, d, other, nil)
			}
		}
		tells(t, d, n, full(7))
	}
}

func TestWriteOfEachLength(t *testing.T) {
	for long := range api.Sector + 1 {
		d := disk.New()
		write(t, d, 4, full(1))
		write(t, d, 4, full(2)[:long])
		tells(t, d, 4, full(2)[:long])
		ok(t, "Flush", d.Flush())
		tells(t, d, 4, full(2)[:long])
		durably(t, d, 4, full(2)[:long])
	}
}

func TestWriteOfNoBytes(t *testing.T) {
	for _, none := range [][]byte{nil, {}} {
		d := disk.New()
		write(t, d, 9, full(1))
		ok(t, "Flush", d.Flush())
		write(t, d, 9, none)
		tells(t, d, 9, nil)
		durably(t, d, 9, full(1))
		writes(t, d, 1)
		crashAndUp(t, d, api.Kept{Sector: 9, N: 1})
		tells(t, d, 9, nil)
	}
}

func TestReadFindsTheNewest(t *testing.T) {
	d := disk.New()
	for i := range byte(40) {
		write(t, d, 2, full(i))
		tells(t, d, 2, full(i))
	}
	ok(t, "Flush", d.Flush())
	tells(t, d, 2, full(39))
	write(t, d, 2, full(50))
	tells(t, d, 2, full(50))
	durably(t, d, 2, full(39))
}

func TestReadTwiceIsTheSame(t *testing.T) {
	d := used(t)
	before := lookAt(d)
	for range 3 {
		unchanged(t, "Read, Down, Writes or Durable", before, d)
	}
}

func TestNoSuchSector(t *testing.T) {
	d := used(t)
	before := lookAt(d)
	for _, n := range wrongSectors() {
		for _, b := range [][]byte{nil, full(9), make([]byte, api.Sector+1)} {
			if e := d.Write(n, b); e != api.ErrArg {
				t.Errorf("Write of sector %d: %v", n, e)
			}
		}
		if b, e := d.Read(n); e != api.ErrArg || len(b) != 0 {
			t.Errorf("Read of sector %d: % X, %v", n, b, e)
		}
	}
	unchanged(t, "a sector that isn't", before, d)
}

func TestWriteOfTooManyBytes(t *testing.T) {
	d := used(t)
	before := lookAt(d)
	for _, n := range []int{0, 5, 6, 7, last} {
		for _, long := range []int{api.Sector + 1, api.Sector + 2, 2 * api.Sector, 256, 320, 1 << 16} {
			if e := d.Write(n, make([]byte, long)); e != api.ErrArg {
				t.Errorf("Write of %d bytes: %v", long, e)
			}
		}
	}
	unchanged(t, "too many bytes", before, d)
	crashAndUp(t, d, api.Kept{Sector: 5, N: 2}, api.Kept{Sector: 7, N: 1})
	tells(t, d, 5, full(5))
	tells(t, d, 7, nil)
}

// P3.2: Flush, Writes

func TestFlushMakesAllDurable(t *testing.T) {
	d := disk.New()
	for n := range api.Sectors {
		write(t, d, n, full(byte(n)))
		if n%3 == 0 {
			write(t, d, n, full(byte(n+50)))
		}
	}
	ok(t, "Flush", d.Flush())
	writes(t, d, 0)
	crashAndUp(t, d)
	for n := range api.Sectors {
		want := full(byte(n))
		if n%3 == 0 {
			want = full(byte(n + 50))
		}
		tells(t, d, n, want)
		durably(t, d, n, want)
	}
}

func TestFlushOfNothing(t *testing.T) {
	d := disk.New()
	before := lookAt(d)
	ok(t, "Flush", d.Flush())
	unchanged(t, "Flush of a new disk", before, d)
	write(t, d, 1, full(1))
	ok(t, "Flush", d.Flush())
	before = lookAt(d)
	ok(t, "Flush", d.Flush())
	ok(t, "Flush", d.Flush())
	unchanged(t, "Flush behind Flush", before, d)
	tells(t, d, 1, full(1))
}

func TestFlushLeavesOtherSectors(t *testing.T) {
	d := used(t)
	ok(t, "Flush", d.Flush())
	for n, want := range map[int][]byte{0: full(1), 1: nil, 5: full(5), 6: full(6), 7: nil, last: full(3)} {
		tells(t, d, n, want)
		durably(t, d, n, want)
	}
}

func TestWritesAreCounted(t *testing.T) {
	d := disk.New()
	for i := range 100 {
		writes(t, d, i)
		write(t, d, i*i%7, full(byte(i%3)))
	}
	writes(t, d, 100)
	ok(t, "Flush", d.Flush())
	writes(t, d, 0)
	write(t, d, 0, nil)
	write(t, d, last, nil)
	write(t, d, last, nil)
	writes(t, d, 3)
	crash(t, d, api.Kept{Sector: last, N: 1})
	writes(t, d, 0)
	ok(t, "Up", d.Up())
	writes(t, d, 0)
	write(t, d, 4, full(1))
	writes(t, d, 1)
}

func TestRefusedWritesAreNotCounted(t *testing.T) {
	d := disk.New()
	write(t, d, 5, full(1))
	d.Write(-1, nil)
	d.Write(api.Sectors, nil)
	d.Write(5, make([]byte, api.Sector+1))
	d.Read(5)
	writes(t, d, 1)
	crash(t, d)
	d.Write(5, nil)
	writes(t, d, 0)
	ok(t, "Up", d.Up())
	writes(t, d, 0)
	tells(t, d, 5, nil)
}

// P3.3: Crash

func TestExamplesOfTheChapter(t *testing.T) {
	a, b, c := full(1), full(2), full(3)
	d := disk.New()
	write(t, d, 5, a)
	ok(t, "Flush", d.Flush())
	write(t, d, 5, b)
	write(t, d, 5, c)
	crashAndUp(t, d, api.Kept{Sector: 5, N: 1})
	tells(t, d, 5, b)
	d = disk.New()
	write(t, d, 5, a)
	crashAndUp(t, d)
	tells(t, d, 5, nil)
}

func TestCrashKeepsTheNumberedWrite(t *testing.T) {
	const made = 12
	for _, sector := range []int{0, 1, 17, last} {
		for n := 1; n <= made; n++ {
			d := disk.New()
			for i := range byte(made) {
				write(t, d, sector, full(i+1))
				write(t, d, 8, full(i+101))
			}
			crashAndUp(t, d, api.Kept{Sector: sector, N: n})
			tells(t, d, sector, full(byte(n)))
			durably(t, d, sector, full(byte(n)))
			tells(t, d, 8, nil)
		}
	}
}

func TestCrashWithoutAPlan(t *testing.T) {
	for _, none := range [][]api.Kept{nil, {}} {
		d := used(t)
		before := d.Durable()
		ok(t, "Crash", d.Crash(none))
		if !d.Down() {
			t.Error("it is up")
		}
		writes(t, d, 0)
		if !bytes.Equal(d.Durable(), before) {
			t.Error("a crash without a plan changed what is durable")
		}
		ok(t, "Up", d.Up())
		if d.Down() {
			t.Error("it is down")
		}
		tells(t, d, 0, full(1))
		tells(t, d, 5, full(2))
		tells(t, d, 6, nil)
		tells(t, d, last, full(3))
	}
}

func TestCrashOfSeveralSectors(t *testing.T) {
	d := used(t)
	write(t, d, 0, full(20))
	write(t, d, last, full(21))
	write(t, d, last, full(22))
	write(t, d, 10, full(23))
	crashAndUp(t, d, api.Kept{Sector: last, N: 1}, api.Kept{Sector: 6, N: 1}, api.Kept{Sector: 5, N: 2}, api.Kept{Sector: 0, N: 1})
	for n, want := range map[int][]byte{0: full(20), 5: full(5), 6: full(6), 10: nil, 11: nil, last: full(21)} {
		tells(t, d, n, want)
		durably(t, d, n, want)
	}
}

func TestFirstLineOfASectorCounts(t *testing.T) {
	one, two := api.Kept{Sector: 5, N: 1}, api.Kept{Sector: 5, N: 2}
	other := api.Kept{Sector: 6, N: 1}
	none, above, below := api.Kept{Sector: 5, N: 0}, api.Kept{Sector: 5, N: 3}, api.Kept{Sector: 5, N: -1}
	known := []struct {
		plan []api.Kept
		want byte
	}{
		{[]api.Kept{one, two}, 4},
		{[]api.Kept{two, one}, 5},
		{[]api.Kept{one, one}, 4},
		{[]api.Kept{other, two, one, other}, 5},
		{[]api.Kept{one, other, two}, 4},
		{[]api.Kept{none, one}, 2},
		{[]api.Kept{above, one, two}, 2},
		{[]api.Kept{below, two}, 2},
		{[]api.Kept{other, none, other, one}, 2},
		{[]api.Kept{one, none}, 4},
		{[]api.Kept{two, above}, 5},
	}
	for _, k := range known {
		d := used(t)
		crashAndUp(t, d, k.plan...)
		tells(t, d, 5, full(k.want))
		durably(t, d, 5, full(k.want))
		if slices.Contains(k.plan, other) {
			tells(t, d, 6, full(6))
		} else {
			tells(t, d, 6, nil)
		}
	}
}

func TestPlanOfWritesThatAreNone(t *testing.T) {
	for _, n := range wrongNumbers(2) {
		d := used(t)
		crashAndUp(t, d, api.Kept{Sector: 5, N: n}, api.Kept{Sector: 6, N: 1})
		tells(t, d, 5, full(2))
		tells(t, d, 6, full(6))
	}
}

func TestPlanOfSectorsWithoutWrites(t *testing.T) {
	for _, n := range []int{0, 1, 7, last} {
		d := used(t)
		before := d.Durable()
		crashAndUp(t, d, api.Kept{Sector: n, N: 1})
		if !bytes.Equal(d.Durable(), before) {
			t.Errorf("sector %d without a write was kept", n)
		}
	}
}

func TestPlanOfSectorsThatAreNone(t *testing.T) {
	for _, n := range wrongSectors() {
		d := used(t)
		crashAndUp(t, d, api.Kept{Sector: n, N: 1}, api.Kept{Sector: 5, N: 1}, api.Kept{Sector: n, N: 2})
		for sector, want := range map[int][]byte{0: full(1), 5: full(4), 6: nil, last: full(3)} {
			tells(t, d, sector, want)
		}
	}
}

func TestLongPlan(t *testing.T) {
	plan := []api.Kept{}
	for i := range 5000 {
		plan = append(plan, api.Kept{Sector: i%70 - 20, N: 1 + i/70})
	}
	d := used(t)
	crashAndUp(t, d, plan...)
	for n, want := range map[int][]byte{0: full(1), 5: full(4), 6: full(6), last: full(3)} {
		tells(t, d, n, want)
	}
}

func TestNumbersBeginAgainBehindAFlush(t *testing.T) {
	halfFlushed := func() *disk.Disk {
		d := disk.New()
		write(t, d, 5, full(1))
		write(t, d, 5, full(2))
		ok(t, "Flush", d.Flush())
		write(t, d, 5, full(3))
		return d
	}
	for n, want := range map[int]byte{1: 3, 2: 2, 3: 2} {
		d := halfFlushed()
		crashAndUp(t, d, api.Kept{Sector: 5, N: n})
		tells(t, d, 5, full(want))
	}
}

func TestNumbersBeginAgainBehindACrash(t *testing.T) {
	for _, plan := range [][]api.Kept{nil, {{Sector: 5, N: 1}}, {{Sector: 5, N: 2}}, {{Sector: 5, N: 9}}} {
		for n, want := range map[int]byte{1: 3, 2: 4} {
			d := disk.New()
			write(t, d, 5, full(1))
			write(t, d, 5, full(2))
			crashAndUp(t, d, plan...)
			writes(t, d, 0)
			write(t, d, 5, full(3))
			write(t, d, 5, full(4))
			writes(t, d, 2)
			crashAndUp(t, d, api.Kept{Sector: 5, N: n})
			tells(t, d, 5, full(want))
		}
	}
}

func TestCrashEmptiesTheCache(t *testing.T) {
	d := used(t)
	crashAndUp(t, d)
	ok(t, "Flush", d.Flush())
	durably(t, d, 5, full(2))
	durably(t, d, 6, nil)
	crashAndUp(t, d, api.Kept{Sector: 5, N: 1}, api.Kept{Sector: 6, N: 1})
	tells(t, d, 5, full(2))
	tells(t, d, 6, nil)
}

// P3.3: Up, Down

func TestUpAndDown(t *testing.T) {
	d := used(t)
	before := lookAt(d)
	if e := d.Up(); e != api.ErrArg {
		t.Errorf("Up of a disk that is up: %v", e)
	}
	unchanged(t, "Up of a disk that is up", before, d)
	for range 3 {
		crash(t, d)
		if !d.Down() {
			t.Error("it is up behind a crash")
		}
		ok(t, "Up", d.Up())
		if d.Down() {
			t.Error("it is down behind Up")
		}
		if e := d.Up(); e != api.ErrArg {
			t.Errorf("Up of a disk that is up: %v", e)
		}
	}
}

func TestDiskThatIsDown(t *testing.T) {
	d := used(t)
	crash(t, d, api.Kept{Sector: 5, N: 1})
	before := lookAt(d)
	for _, n := range append(wrongSectors(), 0, 5, last) {
		for _, b := range [][]byte{nil, full(9), make([]byte, api.Sector+1)} {
			if e := d.Write(n, b); e != api.ErrDown {
				t.Errorf("Write of sector %d: %v", n, e)
			}
		}
		if b, e := d.Read(n); e != api.ErrDown || len(b) != 0 {
			t.Errorf("Read of sector %d: % X, %v", n, b, e)
		}
	}
	if e := d.Flush(); e != api.ErrDown {
		t.Errorf("Flush: %v", e)
	}
	for _, plan := range [][]api.Kept{nil, {{Sector: 5, N: 2}}, {{Sector: -1, N: 2}}} {
		if e := d.Crash(plan); e != api.ErrDown {
			t.Errorf("Crash: %v", e)
		}
	}
	unchanged(t, "a call of a disk that is down", before, d)
	durably(t, d, 0, full(1))
	durably(t, d, 5, full(4))
	ok(t, "Up", d.Up())
	writes(t, d, 0)
	tells(t, d, 5, full(4))
}

// P3.3: Durable

func TestDurableIsAllSectors(t *testing.T) {
	d := disk.New()
	want := []byte{}
	for n := range api.Sectors {
		write(t, d, n, full(byte(n)))
		want = append(want, full(byte(n))...)
	}
	if !bytes.Equal(d.Durable(), make([]byte, api.Sectors*api.Sector)) {
		t.Error("a write is durable without a flush")
	}
	ok(t, "Flush", d.Flush())
	if !bytes.Equal(d.Durable(), want) {
		t.Error("the sectors are not one behind the other")
	}
	for n := range api.Sectors {
		write(t, d, n, nil)
	}
	if !bytes.Equal(d.Durable(), want) {
		t.Error("a write is durable without a flush")
	}
	crash(t, d)
	if !bytes.Equal(d.Durable(), want) {
		t.Error("a disk that is down tells other bytes")
	}
}

// P3.3: Copy

func TestCopyIsAlike(t *testing.T) {
	empty, busy, down := disk.New(), used(t), used(t)
	crash(t, down, api.Kept{Sector: 6, N: 1})
	for _, d := range []*disk.Disk{empty, busy, down} {
		before := lookAt(d)
		c := d.Copy()
		if c == nil || c == d {
			t.Fatal("no other disk")
		}
		if lookAt(c) != before {
			t.Error("the copy is not alike")
		}
		unchanged(t, "Copy", before, d)
		if lookAt(c.Copy()) != before {
			t.Error("the copy of a copy is not alike")
		}
	}
}

func TestCopyHasTheNumbersOfWrites(t *testing.T) {
	for n, want := range map[int]byte{0: 2, 1: 4, 2: 5, 3: 2} {
		c := used(t).Copy()
		crashAndUp(t, c, api.Kept{Sector: 5, N: n})
		tells(t, c, 5, full(want))
		tells(t, c, 6, nil)
	}
	c := used(t).Copy()
	write(t, c, 5, full(60))
	crashAndUp(t, c, api.Kept{Sector: 5, N: 3})
	tells(t, c, 5, full(60))
}

// each changes a disk in a way of its own.
func each() map[string]func(t *testing.T, d *disk.Disk) {
	return map[string]func(t *testing.T, d *disk.Disk){
		"Write of a sector with writes":    func(t *testing.T, d *disk.Disk) { write(t, d, 5, full(30)) },
		"Write of a sector without writes": func(t *testing.T, d *disk.Disk) { write(t, d, 20, full(31)) },
		"Flush":                            func(t *testing.T, d *disk.Disk) { ok(t, "Flush", d.Flush()) },
		"Crash":                            func(t *testing.T, d *disk.Disk) { crash(t, d) },
		"Crash with a plan":                func(t *testing.T, d *disk.Disk) { crash(t, d, api.Kept{Sector: 5, N: 1}) },
	}
}

func TestCopyGoesItsOwnWay(t *testing.T) {
	for what, change := range each() {
		d := used(t)
		c := d.Copy()
		before := lookAt(d)
		change(t, d)
		unchanged(t, what+" of the first disk, the copy:", before, c)
		after := lookAt(d)
		change(t, c)
		unchanged(t, what+" of the copy, the first disk:", after, d)
		if lookAt(c) != after {
			t.Errorf("%s of the copy does something else", what)
		}
	}
}

func TestCopyGoesItsOwnWayUp(t *testing.T) {
	d := used(t)
	crash(t, d)
	c := d.Copy()
	ok(t, "Up", c.Up())
	if !d.Down() {
		t.Error("Up of the copy took the first disk up")
	}
	c = d.Copy()
	ok(t, "Up", d.Up())
	if !c.Down() {
		t.Error("Up of the first disk took the copy up")
	}
}

// Whatever room is behind a sector's writes: what the one writes there is not the other's.
func TestCopySharesNoWrites(t *testing.T) {
	for made := range 20 {
		d := disk.New()
		for i := range made {
			write(t, d, 5, full(byte(i)))
		}
		c := d.Copy()
		write(t, d, 5, full(100))
		write(t, c, 5, full(101))
		write(t, d, 5, full(102))
		tells(t, c, 5, full(101))
		tells(t, d, 5, full(102))
		other := d.Copy()
		plan := []api.Kept{{Sector: 5, N: made + 1}}
		ok(t, "Crash", d.Crash(plan))
		ok(t, "Crash", c.Crash(plan))
		durably(t, d, 5, full(100))
		durably(t, c, 5, full(101))
		crash(t, other, api.Kept{Sector: 5, N: made + 2})
		durably(t, other, 5, full(102))
	}
}

// P3.4: what follows

func TestCrashBehindFlushChangesNothing(t *testing.T) {
	plans := [][]api.Kept{nil, {{Sector: 5, N: 1}}, {{Sector: 5, N: 2}, {Sector: 6, N: 1}, {Sector: 7, N: 1}, {Sector: 0, N: 0}}}
	for _, plan := range plans {
		d := used(t)
		ok(t, "Flush", d.Flush())
		before := lookAt(d)
		crashAndUp(t, d, plan...)
		unchanged(t, "a crash behind Flush", before, d)
	}
}

func TestCrashWithoutWritesChangesNothing(t *testing.T) {
	d := used(t)
	crashAndUp(t, d, api.Kept{Sector: 6, N: 1})
	before := lookAt(d)
	crashAndUp(t, d)
	unchanged(t, "a crash without writes", before, d)
	crashAndUp(t, d, api.Kept{Sector: 6, N: 1}, api.Kept{Sector: 5, N: 1})
	unchanged(t, "a crash without writes", before, d)
}

func TestSectorIsNeverAMixture(t *testing.T) {
	long, short := full(1), full(2)[:10]
	for n, want := range map[int][]byte{0: full(9), 1: long, 2: short, 3: full(9)} {
		d := disk.New()
		write(t, d, 5, full(9))
		ok(t, "Flush", d.Flush())
		write(t, d, 5, long)
		write(t, d, 5, short)
		tells(t, d, 5, short)
		crashAndUp(t, d, api.Kept{Sector: 5, N: n})
		tells(t, d, 5, want)
	}
}

// plain is a disk as the chapter's words say it: all writes since the last flush in one list.
type plain struct {
	durable [api.Sectors][]byte
	made    []struct {
		sector int
		b      []byte
	}
	down bool
}

func newPlain() *plain {
	p := &plain{}
	for n := range p.durable {
		p.durable[n] = padded(nil)
	}
	return p
}

func (p *plain) write(n int, b []byte) {
	p.made = append(p.made, struct {
		sector int
		b      []byte
	}{n, padded(b)})
}

func (p *plain) read(n int) []byte {
	got := p.durable[n]
	for _, w := range p.made {
		if w.sector == n {
			got = w.b
		}
	}
	return got
}

func (p *plain) flush() {
	for n := range p.durable {
		p.durable[n] = p.read(n)
	}
	p.made = nil
}

func (p *plain) crash(plan []api.Kept) {
	for n := range p.durable {
		line := slices.IndexFunc(plan, func(k api.Kept) bool { return k.Sector == n })
		if line < 0 {
			continue
		}
		number := 0
		for _, w := range p.made {
			if w.sector == n {
				number++
				if number == plan[line].N {
					p.durable[n] = w.b
				}
			}
		}
	}
	p.made, p.down = nil, true
}

// step does one thing, as thrown, to both disks.
func step(t *testing.T, next func(int) int, d *disk.Disk, p *plain) {
	t.Helper()
	switch kind := next(12); {
	case p.down:
		ok(t, "Up", d.Up())
		p.down = false
	case kind < 9:
		n, b := next(6)*next(8)%api.Sectors, full(byte(next(256)))[:next(api.Sector+1)]
		write(t, d, n, b)
		p.write(n, b)
	case kind < 10:
		ok(t, "Flush", d.Flush())
		p.flush()
	default:
		plan := []api.Kept{}
		for range next(20) {
			plan = append(plan, api.Kept{Sector: next(api.Sectors+4) - 2, N: next(6) - 1})
		}
		ok(t, "Crash", d.Crash(plan))
		p.crash(plan)
	}
}

func TestManyStepsAgainstAPlainDisk(t *testing.T) {
	for seed := range 30 {
		next := dice(uint64(seed))
		d, p := disk.New(), newPlain()
		for at := range 300 {
			if next(25) == 0 {
				d = d.Copy()
			}
			step(t, next, d, p)
			if d.Down() != p.down || d.Writes() != len(p.made) || !bytes.Equal(d.Durable(), slices.Concat(p.durable[:]...)) {
				t.Fatalf("seed %d: another disk behind step %d", seed, at)
			}
			for n := range api.Sectors {
				if b, e := d.Read(n); !p.down && (e != api.OK || !bytes.Equal(b, p.read(n))) {
					t.Fatalf("seed %d: sector %d is another behind step %d", seed, n, at)
				}
			}
		}
	}
}

// R1: disks that are not there

func TestNilDisk(t *testing.T) {
	var d *disk.Disk
	for _, n := range append(wrongSectors(), 0, 5, last) {
		for _, b := range [][]byte{nil, full(1), make([]byte, api.Sector+1)} {
			if e := d.Write(n, b); e != api.ErrNil {
				t.Errorf("Write: %v", e)
			}
		}
		if b, e := d.Read(n); e != api.ErrNil || len(b) != 0 {
			t.Errorf("Read: % X, %v", b, e)
		}
	}
	if e := d.Flush(); e != api.ErrNil {
		t.Errorf("Flush: %v", e)
	}
	for _, plan := range [][]api.Kept{nil, {{Sector: 5, N: 1}}} {
		if e := d.Crash(plan); e != api.ErrNil {
			t.Errorf("Crash: %v", e)
		}
	}
	if e := d.Up(); e != api.ErrNil {
		t.Errorf("Up: %v", e)
	}
	if !d.Down() {
		t.Error("no disk is up")
	}
	writes(t, d, 0)
	if b := d.Durable(); len(b) != 0 {
		t.Errorf("%d bytes of no disk are durable", len(b))
	}
	if d.Copy() != nil {
		t.Error("a copy of no disk")
	}
}

// R4: what is handed in, what is answered

func TestWriteLeavesWhatIsHandedIn(t *testing.T) {
	room := append(full(1), full(2)...)
	kept := bytes.Clone(room)
	d := disk.New()
	write(t, d, 5, room[:10])
	ok(t, "Flush", d.Flush())
	write(t, d, 5, room[:api.Sector])
	crashAndUp(t, d, api.Kept{Sector: 5, N: 1})
	read(t, d, 5)
	if !bytes.Equal(room, kept) {
		t.Error("what was handed in was changed")
	}
}

func TestWriteKeepsBytesOfItsOwn(t *testing.T) {
	b := full(1)
	d := disk.New()
	write(t, d, 5, b)
	b[0]++
	b[api.Sector-1]++
	tells(t, d, 5, full(1))
	write(t, d, 5, b)
	clear(b)
	c := d.Copy()
	ok(t, "Flush", d.Flush())
	clear(b)
	want := full(1)
	want[0]++
	want[api.Sector-1]++
	tells(t, d, 5, want)
	durably(t, d, 5, want)
	crashAndUp(t, c, api.Kept{Sector: 5, N: 1})
	tells(t, c, 5, full(1))
}

func TestCrashLeavesThePlan(t *testing.T) {
	plan := []api.Kept{{Sector: 6, N: 1}, {Sector: 5, N: 9}, {Sector: -4, N: 2}, {Sector: 5, N: 1}, {Sector: 7, N: 7}}
	kept := slices.Clone(plan)
	d := used(t)
	ok(t, "Crash", d.Crash(plan[:4]))
	if !slices.Equal(plan, kept) {
		t.Error("the plan was changed")
	}
	before := lookAt(d)
	clear(plan)
	unchanged(t, "another plan behind the crash", before, d)
}

// spoil changes bytes that were answered, and those in the room behind.
func spoil(b []byte) {
	b = b[:cap(b)]
	for i := range b {
		b[i] ^= 0xFF
	}
}

func TestReadAnswersNewMemory(t *testing.T) {
	d := used(t)
	for _, n := range []int{0, 1, 5, 6, last} {
		before := lookAt(d)
		one, two := read(t, d, n), read(t, d, n)
		kept := bytes.Clone(two)
		spoil(one)
		if !bytes.Equal(two, kept) {
			t.Errorf("two answers of sector %d share memory", n)
		}
		spoil(two)
		unchanged(t, "an answer that was changed", before, d)
	}
	c := d.Copy()
	spoil(read(t, c, 5))
	ok(t, "Flush", d.Flush())
	tells(t, d, 5, full(5))
	tells(t, c, 5, full(5))
	one := read(t, d, 5)
	write(t, d, 5, full(40))
	ok(t, "Flush", d.Flush())
	if !bytes.Equal(one, full(5)) {
		t.Error("an answer was changed by a later call")
	}
}

func TestDurableAnswersNewMemory(t *testing.T) {
	d := used(t)
	before := lookAt(d)
	one, two := d.Durable(), d.Durable()
	kept := bytes.Clone(two)
	spoil(one)
	if !bytes.Equal(two, kept) {
		t.Error("two answers share memory")
	}
	unchanged(t, "an answer that was changed", before, d)
	ok(t, "Flush", d.Flush())
	if !bytes.Equal(two, kept) {
		t.Error("an answer was changed by a later call")
	}
}
