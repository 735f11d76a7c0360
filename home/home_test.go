package home_test

import (
	"bytes"
	"hash/crc32"
	"math"
	"slices"
	"testing"

	"cashbox/api"
	"cashbox/disk"
	"cashbox/home"
)

// dice answers numbers that look thrown, the same ones in each run.
func dice(seed uint64) func(below int) int {
	return func(below int) int {
		seed = seed*6364136223846793005 + 1442695040888963407
		return int((seed >> 33) % uint64(below))
	}
}

// far are numbers that no stripe has.
func far() []int {
	return []int{-1, -2, 8, 9, 15, 16, 31, 32, 34, 64, 255, 256, -8, -26, -25, -18, 1 << 31, 1 << 32, 1<<32 + 3, -1 << 32, 1 << 62, math.MaxInt - 26, math.MaxInt - 25, math.MaxInt - 1, math.MaxInt, math.MinInt, math.MinInt + 1, math.MinInt + 26}
}

// block is one that hangs on n, unlike in each byte.
func block(n int) api.Value {
	var v api.Value
	for i := range v {
		v[i] = byte(n*37 + i*11 + 1)
	}
	return v
}

// stripe are blocks that hang on n.
func stripe(n int) []api.Value {
	return []api.Value{block(4 * n), block(4*n + 1), block(4*n + 2), block(4*n + 3)}
}

// zeros is a sector of 0s.
func zeros() []byte {
	return make([]byte, 64)
}

// withSum is b with its sum behind, by the library's own.
func withSum(b []byte) []byte {
	sum := crc32.ChecksumIEEE(b)
	return append(slices.Clone(b), byte(sum), byte(sum>>8), byte(sum>>16), byte(sum>>24))
}

// padded is b as a sector.
func padded(b []byte) []byte {
	return append(slices.Clone(b), make([]byte, 64-len(b))...)
}

// plainHome is the sector of blocks.
func plainHome(l []api.Value) []byte {
	b := []byte{}
	for _, v := range l {
		b = append(b, v[:]...)
	}
	return padded(withSum(b))
}

// plainSuper is the sector of a superblock, also of one that may not be, as far as its numbers fit.
func plainSuper(s api.Super) []byte {
	b := []byte{}
	put := func(n, width int) {
		for range width {
			b = append(b, byte(n))
			n >>= 8
		}
	}
	put(s.Gen, 6)
	put(s.Tail, 6)
	put(s.Owned, 1)
	put(s.Inc, 3)
	put(s.Bound, 3)
	for _, n := range s.Map {
		put(n, 1)
	}
	return padded(withSum(b))
}

// super is one of that Gen, its other fields unlike.
func super(gen int) api.Super {
	return api.Super{Gen: gen, Tail: 70000 + gen%99, Owned: 165, Inc: 66000 + gen%7, Bound: 131073 + gen%5, Map: [api.Stripes]int{0, 1, 2, 3, 4, 3, 2, 1}}
}

// least and most are the superblocks at all bounds.
func least() api.Super { return api.Super{Tail: 1, Bound: 1} }

func most() api.Super {
	return api.Super{Gen: 1 << 40, Tail: 1 << 40, Owned: 255, Inc: 1 << 20, Bound: 1<<20 + 1, Map: [api.Stripes]int{4, 4, 4, 4, 4, 4, 4, 4}}
}

// field is one of a superblock's, with its bounds.
type field struct {
	name        string
	of          func(*api.Super) *int
	least, most int
}

func fields() []field {
	l := []field{
		{"Gen", func(s *api.Super) *int { return &s.Gen }, 0, 1099511627776},
		{"Tail", func(s *api.Super) *int { return &s.Tail }, 1, 1099511627776},
		{"Owned", func(s *api.Super) *int { return &s.Owned }, 0, 255},
		{"Inc", func(s *api.Super) *int { return &s.Inc }, 0, 1048576},
		{"Bound", func(s *api.Super) *int { return &s.Bound }, 1, 1048577},
	}
	for i := range api.Stripes {
		l = append(l, field{"Map", func(s *api.Super) *int { return &s.Map[i] }, 0, 4})
	}
	return l
}

// good are superblocks that may be.
func good() []api.Super {
	l := []api.Super{least(), most(), super(0), super(1), super(2), super(255), super(256), super(1<<40 - 1), super(1 << 40)}
	for _, f := range fields() {
		for _, n := range []int{f.least, f.least + 1, (f.least + f.most) / 2, f.most - 1, f.most} {
			for _, s := range []api.Super{least(), most(), super(4), super(7)} {
				*f.of(&s) = n
				l = append(l, s)
			}
		}
	}
	next := dice(9)
	for range 100 {
		var s api.Super
		for _, f := range fields() {
			*f.of(&s) = f.least + next(min(f.most, 1<<31-1)-f.least+1)
		}
		l = append(l, s)
	}
	return l
}

// bad are superblocks that may not be: one field each is out of its bounds.
func bad() []api.Super {
	l := []api.Super{{}, {Tail: 1}, {Bound: 1}}
	for _, f := range fields() {
		for _, n := range []int{f.least - 1, f.most + 1, f.most + 2, 2 * (f.most + 1), -2, -256, 1 << 48, 1<<48 + 1, 1 << 62, -1 << 40, math.MaxInt, math.MaxInt - 1, math.MinInt, math.MinInt + 1, math.MinInt + 2} {
			for _, s := range []api.Super{least(), most(), super(4), super(7)} {
				*f.of(&s) = n
				l = append(l, s)
			}
		}
	}
	return l
}

// write puts b into a disk's sector.
func write(t *testing.T, d *disk.Disk, n int, b []byte) {
	t.Helper()
	if e := d.Write(n, b); e != api.OK {
		t.Fatalf("Write %d: %v", n, e)
	}
}

// flushed makes durable what a disk was told.
func flushed(t *testing.T, d *disk.Disk) {
	t.Helper()
	if e := d.Flush(); e != api.OK {
		t.Fatalf("Flush: %v", e)
	}
}

// crashed takes a disk down by a plan, and up again.
func crashed(t *testing.T, d *disk.Disk, plan ...api.Kept) {
	t.Helper()
	if e := d.Crash(plan); e != api.OK {
		t.Fatalf("Crash: %v", e)
	}
	if e := d.Up(); e != api.OK {
		t.Fatalf("Up: %v", e)
	}
}

// reads holds a disk's sector against want.
func reads(t *testing.T, d *disk.Disk, n int, want []byte) {
	t.Helper()
	if b, e := d.Read(n); e != api.OK || !bytes.Equal(b, want) {
		t.Errorf("sector %d: %v, %v, want %v", n, b, e, want)
	}
}

// puts has blocks put.
func puts(t *testing.T, d *disk.Disk, n int, l []api.Value) {
	t.Helper()
	if e := home.Put(d, n, l); e != api.OK {
		t.Fatalf("Put(%d, %v): %v", n, l, e)
	}
}

// gets holds what Get answers against want.
func gets(t *testing.T, d *disk.Disk, n int, want []api.Value) {
	t.Helper()
	if l, e := home.Get(d, n); e != api.OK || !slices.Equal(l, want) {
		t.Errorf("Get(%d): %v, %v, want %v", n, l, e, want)
	}
}

// refuses holds what Get answers against an error.
func refuses(t *testing.T, d *disk.Disk, n int, want api.Errno) {
	t.Helper()
	if l, e := home.Get(d, n); e != want || len(l) != 0 {
		t.Errorf("Get(%d): %v, %v, want %v", n, l, e, want)
	}
}

// putsSuper has a superblock put.
func putsSuper(t *testing.T, d *disk.Disk, s api.Super) {
	t.Helper()
	if e := home.PutSuper(d, s); e != api.OK {
		t.Fatalf("PutSuper(%v): %v", s, e)
	}
}

// getsSuper holds what GetSuper answers against want.
func getsSuper(t *testing.T, d *disk.Disk, want api.Super) {
	t.Helper()
	if s, e := home.GetSuper(d); e != api.OK || s != want {
		t.Errorf("GetSuper: %v, %v, want %v", s, e, want)
	}
}

// refusesSuper holds what GetSuper answers against an error.
func refusesSuper(t *testing.T, d *disk.Disk, want api.Errno) {
	t.Helper()
	if s, e := home.GetSuper(d); e != want || s != (api.Super{}) {
		t.Errorf("GetSuper: %v, %v, want %v", s, e, want)
	}
}

// supersAre is a disk with these sectors 0 and 1.
func supersAre(t *testing.T, a, b []byte) *disk.Disk {
	t.Helper()
	d := disk.New()
	write(t, d, 0, a)
	write(t, d, 1, b)
	return d
}

// homeIs is a disk with this sector as the home of stripe n.
func homeIs(t *testing.T, n int, b []byte) *disk.Disk {
	t.Helper()
	d := disk.New()
	write(t, d, 26+n, b)
	return d
}

// spoilt are sectors in which no superblock stands, and that are no home.
func spoilt() [][]byte {
	l := [][]byte{}
	for _, n := range []int{0, 1, 5, 31, 63} {
		b := zeros()
		b[n] = 1
		l = append(l, b)
	}
	return append(l, bytes.Repeat([]byte{255}, 64), padded([]byte("spoilt")), withSum(zeros()[:60]))
}

// P9.1: Put

func TestPutWritesTheHome(t *testing.T) {
	for n := range 8 {
		d := disk.New()
		puts(t, d, n, stripe(n))
		for at := range 34 {
			if at == 26+n {
				reads(t, d, at, plainHome(stripe(n)))
			} else {
				reads(t, d, at, zeros())
			}
		}
	}
}

func TestPutOfKnownBytes(t *testing.T) {
	d := disk.New()
	puts(t, d, 2, []api.Value{{'1', '2', '3'}, {}, {}, {7: 9}})
	b := []byte{'1', '2', '3', 31: 9}
	reads(t, d, 28, padded(withSum(b)))
	puts(t, d, 7, make([]api.Value, 4))
	// The sum of 32 0s is 190A55AD, hexadecimal.
	want := zeros()
	copy(want[32:], []byte{0xAD, 0x55, 0x0A, 0x19})
	reads(t, d, 33, want)
}

func TestPutDoesNotFlush(t *testing.T) {
	d := disk.New()
	for n := range 8 {
		puts(t, d, n, stripe(n))
		if d.Writes() != n+1 {
			t.Errorf("Put of stripe %d: %d writes", n, d.Writes())
		}
	}
	if !bytes.Equal(d.Durable(), make([]byte, 34*64)) {
		t.Error("Put flushed")
	}
	crashed(t, d)
	for n := range 8 {
		gets(t, d, n, make([]api.Value, 4))
	}
}

func TestPutRefuses(t *testing.T) {
	d := disk.New()
	puts(t, d, 0, stripe(5))
	flushed(t, d)
	before := d.Durable()
	for _, n := range far() {
		for _, l := range [][]api.Value{stripe(1), nil, stripe(1)[:3]} {
			if e := home.Put(d, n, l); e != api.ErrArg {
				t.Errorf("Put(%d, %v): %v", n, l, e)
			}
		}
	}
	long := append(append(stripe(1), stripe(2)...), stripe(3)...)
	for _, l := range [][]api.Value{nil, {}, stripe(1)[:1], stripe(1)[:2], stripe(1)[:3], long[:5], long[:8], long, make([]api.Value, 300)} {
		for n := range 8 {
			if e := home.Put(d, n, l); e != api.ErrArg {
				t.Errorf("Put(%d, %d blocks): %v", n, len(l), e)
			}
		}
	}
	if d.Writes() != 0 || !bytes.Equal(d.Durable(), before) {
		t.Error("a refused Put wrote")
	}
}

// P9.1: Get

func TestGetOfNewDisk(t *testing.T) {
	d := disk.New()
	var none disk.Disk
	for n := range 8 {
		gets(t, d, n, []api.Value{{}, {}, {}, {}})
		gets(t, &none, n, []api.Value{{}, {}, {}, {}})
	}
	if d.Writes() != 0 {
		t.Error("Get wrote")
	}
}

func TestGetOfPut(t *testing.T) {
	for n := range 8 {
		d := disk.New()
		puts(t, d, n, stripe(n+30))
		for other := range 8 {
			if other == n {
				gets(t, d, other, stripe(n+30))
			} else {
				gets(t, d, other, make([]api.Value, 4))
			}
		}
	}
}

func TestGetOfSeveral(t *testing.T) {
	d := disk.New()
	for _, n := range []int{3, 7, 0, 4, 1, 2, 6, 5} {
		puts(t, d, n, stripe(n))
	}
	for n := range 8 {
		gets(t, d, n, stripe(n))
	}
	puts(t, d, 4, stripe(99))
	puts(t, d, 4, stripe(98))
	puts(t, d, 6, stripe(4))
	for n := range 8 {
		gets(t, d, n, map[int][]api.Value{0: stripe(0), 1: stripe(1), 2: stripe(2), 3: stripe(3), 4: stripe(98), 5: stripe(5), 6: stripe(4), 7: stripe(7)}[n])
	}
}

func TestGetOfZerosThatWerePut(t *testing.T) {
	for n := range 8 {
		d := disk.New()
		puts(t, d, n, stripe(n))
		puts(t, d, n, make([]api.Value, 4))
		gets(t, d, n, make([]api.Value, 4))
		reads(t, d, 26+n, plainHome(make([]api.Value, 4)))
	}
}

func TestGetOfAnyBlocks(t *testing.T) {
	next := dice(2)
	d := disk.New()
	for range 300 {
		l := make([]api.Value, 4)
		for i := range l {
			for k := range l[i] {
				if next(3) != 0 {
					l[i][k] = byte(next(256))
				}
			}
		}
		n := next(8)
		puts(t, d, n, l)
		gets(t, d, n, l)
		reads(t, d, 26+n, plainHome(l))
	}
}

func TestGetRefuses(t *testing.T) {
	d := disk.New()
	for n := range 34 {
		write(t, d, n, plainHome(stripe(n)))
	}
	for n := range 8 {
		gets(t, d, n, stripe(26+n))
	}
	for _, n := range far() {
		refuses(t, d, n, api.ErrArg)
	}
}

func TestGetOfTurnedBits(t *testing.T) {
	for _, l := range [][]api.Value{stripe(3), make([]api.Value, 4), {{1}, {}, {}, {}}} {
		for _, n := range []int{0, 5, 7} {
			for bit := range 64 * 8 {
				b := plainHome(l)
				b[bit/8] ^= 1 << (bit % 8)
				refuses(t, homeIs(t, n, b), n, api.ErrCode)
			}
		}
	}
}

func TestGetOfNearlyZeros(t *testing.T) {
	for bit := range 64 * 8 {
		b := zeros()
		b[bit/8] ^= 1 << (bit % 8)
		refuses(t, homeIs(t, 2, b), 2, api.ErrCode)
	}
}

func TestGetOfBytesBehind(t *testing.T) {
	for at := 36; at < 64; at++ {
		for _, c := range []byte{1, 128, 255} {
			b := plainHome(stripe(8))
			b[at] = c
			refuses(t, homeIs(t, 1, b), 1, api.ErrCode)
		}
	}
}

func TestGetOfWhatIsSealedOtherwise(t *testing.T) {
	five := []byte{}
	for n := range 7 {
		v := block(n)
		five = append(five, v[:]...)
	}
	for _, n := range []int{1, 8, 24, 31, 33, 40, 56} {
		refuses(t, homeIs(t, 4, padded(withSum(five[:n]))), 4, api.ErrCode)
	}
	refuses(t, homeIs(t, 4, withSum(plainHome(stripe(1))[:60])), 4, api.ErrCode)
	refuses(t, homeIs(t, 4, withSum(zeros()[:60])), 4, api.ErrCode)
	refuses(t, homeIs(t, 4, plainSuper(super(2))), 4, api.ErrCode)
	b := plainHome(stripe(6))
	slices.Reverse(b[32:36])
	refuses(t, homeIs(t, 4, b), 4, api.ErrCode)
	for _, b := range spoilt() {
		refuses(t, homeIs(t, 4, b), 4, api.ErrCode)
	}
}

func TestGetLooksAtItsSectorAlone(t *testing.T) {
	for n := range 8 {
		d := disk.New()
		for at := range 34 {
			write(t, d, at, bytes.Repeat([]byte{byte(at) | 1}, 64))
		}
		puts(t, d, n, stripe(n))
		gets(t, d, n, stripe(n))
		for other := range 8 {
			if other != n {
				refuses(t, d, other, api.ErrCode)
			}
		}
	}
}

// P9.1, P9.2: nil disks, disks that are down

func TestNilDisks(t *testing.T) {
	for _, n := range append(far(), 0, 3, 7) {
		for _, l := range [][]api.Value{nil, stripe(1), stripe(1)[:3], append(stripe(1), block(1))} {
			if e := home.Put(nil, n, l); e != api.ErrNil {
				t.Errorf("Put(nil, %d, %d blocks): %v", n, len(l), e)
			}
		}
		refuses(t, nil, n, api.ErrNil)
	}
	for _, s := range append(good(), bad()...) {
		if e := home.PutSuper(nil, s); e != api.ErrNil {
			t.Errorf("PutSuper(nil, %v): %v", s, e)
		}
	}
	refusesSuper(t, nil, api.ErrNil)
}

func TestDisksThatAreDown(t *testing.T) {
	d := disk.New()
	for n := range 34 {
		write(t, d, n, bytes.Repeat([]byte{7}, 64))
	}
	flushed(t, d)
	before := d.Durable()
	empty := disk.New()
	for _, d := range []*disk.Disk{d, empty} {
		if e := d.Crash(nil); e != api.OK {
			t.Fatal(e)
		}
		for n := range 8 {
			if e := home.Put(d, n, stripe(n)); e != api.ErrDown {
				t.Errorf("Put(%d): %v", n, e)
			}
			if e := home.Put(d, n, stripe(n)[:3]); e != api.ErrArg {
				t.Errorf("Put(%d) of 3 blocks: %v", n, e)
			}
			if e := home.Put(d, n, append(stripe(n), block(1))); e != api.ErrArg {
				t.Errorf("Put(%d) of 5 blocks: %v", n, e)
			}
			refuses(t, d, n, api.ErrDown)
		}
		for _, n := range far() {
			if e := home.Put(d, n, stripe(1)); e != api.ErrArg {
				t.Errorf("Put(%d): %v", n, e)
			}
			refuses(t, d, n, api.ErrArg)
		}
		for _, s := range good() {
			if e := home.PutSuper(d, s); e != api.ErrDown {
				t.Errorf("PutSuper(%v): %v", s, e)
			}
		}
		for _, s := range bad() {
			if e := home.PutSuper(d, s); e != api.ErrArg {
				t.Errorf("PutSuper(%v): %v", s, e)
			}
		}
		refusesSuper(t, d, api.ErrDown)
	}
	if !bytes.Equal(d.Durable(), before) || !bytes.Equal(empty.Durable(), make([]byte, 34*64)) {
		t.Error("a disk that is down was changed")
	}
	if d.Up() != api.OK || empty.Up() != api.OK {
		t.Fatal("Up")
	}
	refuses(t, d, 3, api.ErrCode)
	refusesSuper(t, d, api.ErrCode)
	gets(t, empty, 3, make([]api.Value, 4))
	getsSuper(t, empty, least())
}

// P9.2: May, First

func TestMay(t *testing.T) {
	for _, s := range good() {
		if !home.May(s) {
			t.Errorf("May(%v): false", s)
		}
	}
	for _, s := range bad() {
		if home.May(s) {
			t.Errorf("May(%v): true", s)
		}
	}
}

func TestMayOfEachBound(t *testing.T) {
	for i, f := range fields() {
		for _, x := range []struct {
			n    int
			want bool
		}{{f.least - 1, false}, {f.least, true}, {f.least + 1, true}, {f.most - 1, true}, {f.most, true}, {f.most + 1, false}, {math.MaxInt, false}, {math.MinInt, false}} {
			s := super(6)
			*f.of(&s) = x.n
			if home.May(s) != x.want {
				t.Errorf("field %d, %s %d: %v", i, f.name, x.n, !x.want)
			}
		}
	}
}

func TestFirst(t *testing.T) {
	want := api.Super{Gen: 0, Tail: 1, Owned: 0, Inc: 0, Bound: 1, Map: [api.Stripes]int{}}
	if s := home.First(); s != want || !home.May(s) {
		t.Errorf("First: %v", s)
	}
}

// P9.2: PutSuper

func TestPutSuperWritesItsSector(t *testing.T) {
	for _, s := range good() {
		d := disk.New()
		write(t, d, 0, []byte("old"))
		write(t, d, 1, []byte("old"))
		putsSuper(t, d, s)
		for at := range 34 {
			switch {
			case at == s.Gen%2:
				reads(t, d, at, plainSuper(s))
			case at < 2:
				reads(t, d, at, padded([]byte("old")))
			default:
				reads(t, d, at, zeros())
			}
		}
	}
}

func TestPutSuperOfKnownBytes(t *testing.T) {
	d := disk.New()
	putsSuper(t, d, api.Super{Gen: 0x009A03040507, Tail: 0x00A1A2A3A4A5, Owned: 0xF1, Inc: 0x0B0C0D, Bound: 0x0E0F10, Map: [api.Stripes]int{4, 3, 2, 1, 0, 1, 2, 3}})
	reads(t, d, 1, padded(withSum([]byte{
		7, 5, 4, 3, 0x9A, 0, 0xA5, 0xA4, 0xA3, 0xA2, 0xA1, 0, 0xF1, 0x0D, 0x0C, 0x0B, 0x10, 0x0F, 0x0E, 4, 3, 2, 1, 0, 1, 2, 3,
	})))
	putsSuper(t, d, home.First())
	reads(t, d, 0, padded(withSum([]byte{6: 1, 16: 1, 26: 0})))
}

func TestPutSuperDoesNotFlush(t *testing.T) {
	d := disk.New()
	for gen := range 6 {
		putsSuper(t, d, super(gen))
		if d.Writes() != gen+1 {
			t.Errorf("PutSuper: %d writes", d.Writes())
		}
	}
	if !bytes.Equal(d.Durable(), make([]byte, 34*64)) {
		t.Error("PutSuper flushed")
	}
	crashed(t, d)
	getsSuper(t, d, least())
}

func TestPutSuperRefuses(t *testing.T) {
	d := disk.New()
	for _, s := range bad() {
		if e := home.PutSuper(d, s); e != api.ErrArg {
			t.Errorf("PutSuper(%v): %v", s, e)
		}
	}
	if d.Writes() != 0 {
		t.Error("a refused PutSuper wrote")
	}
}

// P9.2: GetSuper

func TestGetSuperOfTheExample(t *testing.T) {
	d := disk.New()
	s, e := home.GetSuper(d)
	if e != api.OK || s.Gen != 0 || s.Tail != 1 || s != home.First() {
		t.Errorf("all 0s: %v, %v", s, e)
	}
	for _, a := range spoilt() {
		for _, b := range spoilt() {
			refusesSuper(t, supersAre(t, a, b), api.ErrCode)
		}
	}
}

func TestGetSuperOfNewDisk(t *testing.T) {
	d := disk.New()
	puts(t, d, 0, stripe(0))
	for n := 2; n < 34; n++ {
		write(t, d, n, bytes.Repeat([]byte{3}, 64))
	}
	getsSuper(t, d, least())
	write(t, d, 0, []byte("spoilt"))
	refusesSuper(t, d, api.ErrCode)
	write(t, d, 0, nil)
	getsSuper(t, d, least())
	var none disk.Disk
	getsSuper(t, &none, least())
}

func TestGetSuperOfPut(t *testing.T) {
	for _, s := range good() {
		d := disk.New()
		putsSuper(t, d, s)
		getsSuper(t, d, s)
		getsSuper(t, supersAre(t, plainSuper(s), plainSuper(s)), s)
	}
}

func TestGetSuperOfEachTurn(t *testing.T) {
	d := disk.New()
	for gen := range 40 {
		putsSuper(t, d, super(gen))
		getsSuper(t, d, super(gen))
	}
	for gen := 38; gen >= 0; gen -= 2 {
		putsSuper(t, d, super(gen))
		getsSuper(t, d, super(39))
	}
	putsSuper(t, d, super(1))
	getsSuper(t, d, super(1))
	putsSuper(t, d, super(2))
	getsSuper(t, d, super(2))
}

func TestGetSuperIsOfTheGreaterGen(t *testing.T) {
	gens := []int{0, 1, 2, 3, 254, 255, 256, 257, 65535, 65536, 1<<24 - 1, 1 << 24, 1<<32 - 1, 1 << 32, 1<<32 + 1, 1<<40 - 2, 1<<40 - 1, 1 << 40}
	for _, a := range gens {
		for _, b := range gens {
			if a%2 == b%2 {
				continue
			}
			d := disk.New()
			putsSuper(t, d, super(a))
			putsSuper(t, d, super(b))
			getsSuper(t, d, super(max(a, b)))
		}
	}
	// The lesser Gen with the greater of all else.
	d := disk.New()
	low, high := most(), least()
	low.Gen, high.Gen = 6, 7
	putsSuper(t, d, high)
	putsSuper(t, d, low)
	getsSuper(t, d, high)
}

func TestGetSuperOfOneAndNone(t *testing.T) {
	for _, other := range append(spoilt(), zeros()) {
		for _, gen := range []int{0, 2, 1 << 40} {
			getsSuper(t, supersAre(t, plainSuper(super(gen)), other), super(gen))
		}
		for _, gen := range []int{1, 3, 1<<40 - 1} {
			getsSuper(t, supersAre(t, other, plainSuper(super(gen))), super(gen))
		}
	}
}

func TestGetSuperOfZerosAndSpoilt(t *testing.T) {
	for _, b := range spoilt() {
		refusesSuper(t, supersAre(t, zeros(), b), api.ErrCode)
		refusesSuper(t, supersAre(t, b, zeros()), api.ErrCode)
	}
	for bit := range 64 * 8 {
		b := zeros()
		b[bit/8] ^= 1 << (bit % 8)
		refusesSuper(t, supersAre(t, zeros(), b), api.ErrCode)
		refusesSuper(t, supersAre(t, b, zeros()), api.ErrCode)
	}
}

func TestGetSuperOfGenOfTheOther(t *testing.T) {
	for _, gen := range []int{0, 2, 10, 1 << 40} {
		refusesSuper(t, supersAre(t, zeros(), plainSuper(super(gen))), api.ErrCode)
		getsSuper(t, supersAre(t, plainSuper(super(gen)), plainSuper(super(gen))), super(gen))
	}
	for _, gen := range []int{1, 3, 11, 1<<40 - 1} {
		refusesSuper(t, supersAre(t, plainSuper(super(gen)), zeros()), api.ErrCode)
		getsSuper(t, supersAre(t, plainSuper(super(gen)), plainSuper(super(gen))), super(gen))
	}
	refusesSuper(t, supersAre(t, plainSuper(super(5)), plainSuper(super(6))), api.ErrCode)
	getsSuper(t, supersAre(t, plainSuper(super(4)), plainSuper(super(6))), super(4))
	getsSuper(t, supersAre(t, plainSuper(super(9)), plainSuper(super(3))), super(3))
}

func TestGetSuperOfOneThatMayNotBe(t *testing.T) {
	for i, f := range fields() {
		width := []int{6, 6, 1, 3, 3, 1, 1, 1, 1, 1, 1, 1, 1}[i]
		for _, n := range []int{f.least - 1, f.most + 1, f.most + 2, 1<<(8*width) - 1, 1<<(8*width) - 2} {
			if n < 0 || n >= 1<<(8*width) || f.least <= n && n <= f.most {
				continue
			}
			for _, gen := range []int{8, 9} {
				s := super(gen)
				*f.of(&s) = n
				if s.Gen%2 == 0 {
					refusesSuper(t, supersAre(t, plainSuper(s), zeros()), api.ErrCode)
					getsSuper(t, supersAre(t, plainSuper(s), plainSuper(super(3))), super(3))
				} else {
					refusesSuper(t, supersAre(t, zeros(), plainSuper(s)), api.ErrCode)
					getsSuper(t, supersAre(t, plainSuper(super(2)), plainSuper(s)), super(2))
				}
			}
		}
	}
}

func TestGetSuperOfTurnedBits(t *testing.T) {
	for _, gen := range []int{10, 11, 0, 1} {
		for bit := range 64 * 8 {
			b := plainSuper(super(gen))
			b[bit/8] ^= 1 << (bit % 8)
			if gen%2 == 0 {
				refusesSuper(t, supersAre(t, b, zeros()), api.ErrCode)
				getsSuper(t, supersAre(t, b, plainSuper(super(7))), super(7))
			} else {
				refusesSuper(t, supersAre(t, zeros(), b), api.ErrCode)
				getsSuper(t, supersAre(t, plainSuper(super(6)), b), super(6))
			}
		}
	}
}

func TestGetSuperOfBytesBehind(t *testing.T) {
	for at := 31; at < 64; at++ {
		for _, c := range []byte{1, 128, 255} {
			b := plainSuper(super(12))
			b[at] = c
			refusesSuper(t, supersAre(t, b, zeros()), api.ErrCode)
			b = plainSuper(super(13))
			b[at] = c
			getsSuper(t, supersAre(t, plainSuper(super(12)), b), super(12))
		}
	}
}

func TestGetSuperOfWhatIsSealedOtherwise(t *testing.T) {
	b := plainSuper(super(2))
	for _, n := range []int{1, 19, 26, 28, 32, 60} {
		refusesSuper(t, supersAre(t, padded(withSum(b[:n])), zeros()), api.ErrCode)
	}
	refusesSuper(t, supersAre(t, plainHome(stripe(1)), plainHome(stripe(1))), api.ErrCode)
	refusesSuper(t, supersAre(t, withSum(zeros()[:60]), zeros()), api.ErrCode)
}

// P9.3: what follows

func TestHomesBehindCrashes(t *testing.T) {
	for n := range 8 {
		d := disk.New()
		puts(t, d, n, stripe(n))
		flushed(t, d)
		crashed(t, d)
		gets(t, d, n, stripe(n))
		puts(t, d, n, stripe(n+20))
		puts(t, d, n, stripe(n+40))
		gets(t, d, n, stripe(n+40))
		lost, first, second := d.Copy(), d.Copy(), d.Copy()
		crashed(t, lost)
		gets(t, lost, n, stripe(n))
		crashed(t, first, api.Kept{Sector: 26 + n, N: 1})
		gets(t, first, n, stripe(n+20))
		crashed(t, second, api.Kept{Sector: 26 + n, N: 2})
		gets(t, second, n, stripe(n+40))
	}
}

func TestSupersBehindCrashes(t *testing.T) {
	for gen := range 12 {
		d := disk.New()
		putsSuper(t, d, super(gen))
		flushed(t, d)
		putsSuper(t, d, super(gen+1))
		getsSuper(t, d, super(gen+1))
		lost, kept, other := d.Copy(), d.Copy(), d.Copy()
		crashed(t, lost)
		getsSuper(t, lost, super(gen))
		crashed(t, kept, api.Kept{Sector: (gen + 1) % 2, N: 1})
		getsSuper(t, kept, super(gen+1))
		crashed(t, other, api.Kept{Sector: gen % 2, N: 1}, api.Kept{Sector: (gen + 1) % 2, N: 2})
		getsSuper(t, other, super(gen))
		flushed(t, d)
		crashed(t, d)
		getsSuper(t, d, super(gen+1))
	}
}

func TestSuperBehindACrashOfTheFirstOne(t *testing.T) {
	d := disk.New()
	putsSuper(t, d, super(1))
	crashed(t, d)
	getsSuper(t, d, least())
	putsSuper(t, d, super(1))
	crashed(t, d, api.Kept{Sector: 1, N: 1})
	getsSuper(t, d, super(1))
}

// kept is what stands on a disk, told plainly.
type kept struct {
	homes [8][]api.Value
	super api.Super
}

// life is what is put on a disk: as it is read, as it is durably, and how often each home was put since the last flush.
type life struct {
	now, durable kept
	puts         map[int]int
}

func newLife() life {
	var k kept
	for n := range k.homes {
		k.homes[n] = make([]api.Value, 4)
	}
	k.super = least()
	return life{k, k, map[int]int{}}
}

func (l *life) flush(t *testing.T, d *disk.Disk) {
	flushed(t, d)
	l.durable, l.puts = l.now, map[int]int{}
}

// crash keeps of what was not flushed the last puts of some homes, and the superblock or not.
func (l *life) crash(t *testing.T, d *disk.Disk, next func(int) int) {
	plan := []api.Kept{}
	for n := range 8 {
		if l.puts[n] != 0 && next(2) == 0 {
			plan = append(plan, api.Kept{Sector: 26 + n, N: l.puts[n]})
			l.durable.homes[n] = l.now.homes[n]
		}
	}
	if l.now.super != l.durable.super && next(2) == 0 {
		plan = append(plan, api.Kept{Sector: l.now.super.Gen % 2, N: 1})
		l.durable.super = l.now.super
	}
	crashed(t, d, plan...)
	l.now, l.puts = l.durable, map[int]int{}
}

// step does one of the things that go on in a life.
func (l *life) step(t *testing.T, d *disk.Disk, next func(int) int) {
	switch next(8) {
	case 0:
		l.flush(t, d)
	case 1:
		l.crash(t, d, next)
	case 2, 3:
		// A superblock is put when the one ahead of it is durable: it goes into the other sector.
		if l.now.super == l.durable.super {
			s := super(l.now.super.Gen + 1)
			s.Tail = 1 + next(1000)
			putsSuper(t, d, s)
			l.now.super = s
		}
	default:
		n := next(8)
		l.now.homes[n] = stripe(next(500))
		l.puts[n]++
		puts(t, d, n, l.now.homes[n])
	}
}

func TestLives(t *testing.T) {
	for seed := range 30 {
		next := dice(uint64(seed))
		d := disk.New()
		l := newLife()
		for range 150 {
			l.step(t, d, next)
			for n := range 8 {
				gets(t, d, n, l.now.homes[n])
			}
			getsSuper(t, d, l.now.super)
		}
	}
}

func TestHomesAndSupersBesideOneAnother(t *testing.T) {
	d := disk.New()
	putsSuper(t, d, super(5))
	for n := range 8 {
		puts(t, d, n, stripe(n))
		getsSuper(t, d, super(5))
	}
	putsSuper(t, d, super(6))
	for n := range 8 {
		gets(t, d, n, stripe(n))
	}
}

// R4: what is handed in, what is handed out

func TestWhatIsHandedInStays(t *testing.T) {
	d := disk.New()
	for n := range 8 {
		room := append(stripe(n), stripe(n+60)...)
		before := slices.Clone(room)
		puts(t, d, n, room[:4])
		home.Put(d, n+8, room[:4])
		home.Put(d, n, room[:3])
		home.Put(d, n, room[:5])
		if !slices.Equal(room, before) {
			t.Errorf("%v became %v", before, room)
		}
		for i := range room {
			room[i] = api.Value{9, 9, 9}
		}
		gets(t, d, n, stripe(n))
	}
}

func TestGetIsNewMemory(t *testing.T) {
	d := disk.New()
	puts(t, d, 1, stripe(1))
	for n, want := range [][]api.Value{make([]api.Value, 4), stripe(1)} {
		a, _ := home.Get(d, n)
		b, _ := home.Get(d, n)
		a = a[:cap(a)]
		for i := range a {
			a[i] = api.Value{9, 9, 9}
		}
		if !slices.Equal(b, want) {
			t.Errorf("two answers of Get share memory: %v", b)
		}
		gets(t, d, n, want)
	}
}

func TestReadingChangesNothing(t *testing.T) {
	d := disk.New()
	puts(t, d, 1, stripe(1))
	putsSuper(t, d, super(3))
	flushed(t, d)
	before := d.Durable()
	for n := range 10 {
		home.Get(d, n)
		home.GetSuper(d)
	}
	if d.Writes() != 0 || !bytes.Equal(d.Durable(), before) || d.Down() {
		t.Error("Get or GetSuper changed the disk")
	}
}

func TestAnswersHangOnTheDiskAlone(t *testing.T) {
	d := disk.New()
	puts(t, d, 2, stripe(2))
	putsSuper(t, d, super(4))
	other := d.Copy()
	puts(t, other, 2, stripe(3))
	putsSuper(t, other, super(5))
	gets(t, d, 2, stripe(2))
	getsSuper(t, d, super(4))
	gets(t, other, 2, stripe(3))
	getsSuper(t, other, super(5))
}
