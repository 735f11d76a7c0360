package overlay_test

import (
	"math"
	"slices"
	"testing"

	"cashbox/api"
	"cashbox/overlay"
	"cashbox/record"
)

// dice answers numbers that look thrown, the same ones in each run.
func dice(seed uint64) func(below int) int {
	return func(below int) int {
		seed = seed*6364136223846793005 + 1442695040888963407
		return int((seed >> 33) % uint64(below))
	}
}

// far are numbers that no block has.
func far() []int {
	return []int{-1, 32, 33, 63, 64, 255, 256, -32, -31, -256, 1 << 31, 1 << 32, 1<<32 + 3, -1 << 32, -1<<32 + 3, 1 << 62, math.MaxInt - 1, math.MaxInt, math.MinInt, math.MinInt + 1, math.MinInt + 3}
}

// value is one that hangs on n, unlike in each byte.
func value(n int) api.Value {
	var v api.Value
	for i := range v {
		v[i] = byte(n*29 + i*7 + 1)
	}
	return v
}

// write is one of that block.
func write(block, n int) api.Write {
	return api.Write{Block: block, Value: value(n)}
}

// writes are such of these blocks, in this order, each with another value.
func writes(blocks ...int) []api.Write {
	l := []api.Write{}
	for i, n := range blocks {
		l = append(l, write(n, 40+3*i+n))
	}
	return l
}

// good are overlays.
func good() [][]api.Write {
	l := [][]api.Write{nil, {}, {{}}, {{Block: 31}}, writes(0, 31), writes(3, 5), writes(0, 1, 2), writes(29, 30, 31),
		writes(0, 1, 2, 3, 4, 5, 6), writes(0, 1, 2, 3, 4, 5, 6, 7), writes(24, 25, 26, 27, 28, 29, 30, 31), writes(25, 26, 27, 28, 29, 30, 31),
		writes(0, 5, 9, 13, 17, 22, 26, 31), writes(1, 5, 9, 13, 17, 22, 30), writes(2, 4, 6, 8, 10, 12, 14, 16)}
	for n := range 32 {
		l = append(l, writes(n))
	}
	next := dice(5)
	for range 60 {
		l = append(l, thrown(next))
	}
	return l
}

// bad are lists that are no overlays.
func bad() [][]api.Write {
	l := [][]api.Write{
		writes(0, 0), writes(5, 5), writes(31, 31), writes(1, 2, 2), writes(1, 1, 2), {write(5, 1), write(5, 1)}, {write(7, 1), write(7, 2)},
		writes(1, 0), writes(31, 0), writes(31, 30), writes(1, 2, 4, 3), writes(5, 3, 5), writes(3, 4, 5, 6, 7, 8, 9, 2),
		writes(0, 1, 2, 3, 4, 5, 6, 7, 8), writes(23, 24, 25, 26, 27, 28, 29, 30, 31), writes(0, 1, 2, 3, 4, 5, 6, 6), writes(7, 6, 5, 4, 3, 2, 1, 0),
		make([]api.Write, 2), make([]api.Write, 8), make([]api.Write, 9), make([]api.Write, 300),
	}
	for _, n := range far() {
		l = append(l, writes(n), writes(n, 3), writes(3, n), writes(n, n), writes(0, 1, 2, 3, 4, 5, 6, n), writes(n, 0, 1, 2, 3, 4, 5, 6))
	}
	return l
}

// thrown is an overlay.
func thrown(next func(int) int) []api.Write {
	l := []api.Write{}
	most := next(9)
	for block := range 32 {
		if len(l) < most && next(4) == 0 {
			l = append(l, write(block, next(200)))
		}
	}
	return l
}

// home are blocks, each with another value.
func home(n int) [api.Blocks]api.Value {
	var h [api.Blocks]api.Value
	for i := range h {
		h[i] = value(100 + n + 2*i)
	}
	return h
}

// plain is an overlay as a map, the first write of a block first.
func plain(l []api.Write) map[int]api.Value {
	m := map[int]api.Value{}
	for _, w := range l {
		if _, ok := m[w.Block]; !ok {
			m[w.Block] = w.Value
		}
	}
	return m
}

// listed are the writes of a map, by rising blocks.
func listed(m map[int]api.Value) []api.Write {
	l := []api.Write{}
	for block := range 32 {
		if v, ok := m[block]; ok {
			l = append(l, api.Write{Block: block, Value: v})
		}
	}
	return l
}

// puts holds what Put answers against want.
func puts(t *testing.T, l []api.Write, w api.Write, want []api.Write) {
	t.Helper()
	got, e := overlay.Put(l, w)
	if e != api.OK || !slices.Equal(got, want) {
		t.Errorf("Put(%v, %v): %v, %v, want %v", l, w, got, e, want)
	}
}

// refuses holds what Put answers against an error.
func refuses(t *testing.T, l []api.Write, w api.Write, want api.Errno) {
	t.Helper()
	if got, e := overlay.Put(l, w); e != want || len(got) != 0 {
		t.Errorf("Put(%v, %v): %v, %v, want %v", l, w, got, e, want)
	}
}

// P8.1: Put

func TestPutOfTheExample(t *testing.T) {
	a, b, c := write(5, 'a'), write(3, 'b'), write(5, 'c')
	puts(t, nil, a, []api.Write{a})
	puts(t, []api.Write{a}, b, []api.Write{b, a})
	puts(t, []api.Write{b, a}, c, []api.Write{b, c})
}

func TestPutAtEachPlace(t *testing.T) {
	l := writes(3, 9, 20)
	for _, x := range []struct {
		block int
		want  []api.Write
	}{
		{0, []api.Write{write(0, 1), l[0], l[1], l[2]}},
		{2, []api.Write{write(2, 1), l[0], l[1], l[2]}},
		{3, []api.Write{write(3, 1), l[1], l[2]}},
		{4, []api.Write{l[0], write(4, 1), l[1], l[2]}},
		{8, []api.Write{l[0], write(8, 1), l[1], l[2]}},
		{9, []api.Write{l[0], write(9, 1), l[2]}},
		{10, []api.Write{l[0], l[1], write(10, 1), l[2]}},
		{19, []api.Write{l[0], l[1], write(19, 1), l[2]}},
		{20, []api.Write{l[0], l[1], write(20, 1)}},
		{21, []api.Write{l[0], l[1], l[2], write(21, 1)}},
		{31, []api.Write{l[0], l[1], l[2], write(31, 1)}},
	} {
		puts(t, l, write(x.block, 1), x.want)
	}
}

func TestPutIntoNone(t *testing.T) {
	for n := range 32 {
		puts(t, nil, write(n, n), []api.Write{write(n, n)})
		puts(t, []api.Write{}, write(n, n), []api.Write{write(n, n)})
	}
	puts(t, nil, api.Write{}, []api.Write{{}})
}

func TestPutOfEachBlock(t *testing.T) {
	for _, l := range good() {
		for n := -2; n < 35; n++ {
			_, has := plain(l)[n]
			switch {
			case n < 0 || n > 31:
				refuses(t, l, write(n, 200), api.ErrArg)
			case !has && len(l) == 8:
				refuses(t, l, write(n, 200), api.ErrFull)
			default:
				m := plain(l)
				m[n] = value(200)
				puts(t, l, write(n, 200), listed(m))
			}
		}
	}
}

func TestPutOfAFullOne(t *testing.T) {
	seven, eight := writes(2, 4, 6, 8, 10, 12, 14), writes(2, 4, 6, 8, 10, 12, 14, 16)
	for n := range 32 {
		m := plain(seven)
		m[n] = value(9)
		puts(t, seven, write(n, 9), listed(m))
		if n%2 == 1 || n == 0 || n > 16 {
			refuses(t, eight, write(n, 9), api.ErrFull)
			continue
		}
		want := slices.Clone(eight)
		want[n/2-1] = write(n, 9)
		puts(t, eight, write(n, 9), want)
	}
}

func TestPutOfNoBlock(t *testing.T) {
	for _, n := range far() {
		for _, l := range good() {
			// A full one too: that there is no such block is named first.
			refuses(t, l, write(n, 1), api.ErrArg)
		}
	}
}

func TestPutIntoWhatIsNone(t *testing.T) {
	for _, l := range bad() {
		for n := range 32 {
			refuses(t, l, write(n, 1), api.ErrArg)
		}
		for _, n := range far() {
			refuses(t, l, write(n, 1), api.ErrArg)
		}
	}
}

func TestPutIsAnOverlay(t *testing.T) {
	next := dice(8)
	for range 300 {
		var l []api.Write
		m := map[int]api.Value{}
		for range 40 {
			w := write(next(36)-2, next(200))
			_, has := m[w.Block]
			more, e := overlay.Put(l, w)
			want := api.OK
			switch {
			case w.Block < 0 || w.Block > 31:
				want = api.ErrArg
			case !has && len(m) == 8:
				want = api.ErrFull
			default:
				m[w.Block] = w.Value
			}
			if e != want {
				t.Fatalf("Put(%v, %v): %v, want %v", l, w, e, want)
			}
			if e == api.OK {
				l = more
			}
			if !slices.Equal(l, listed(m)) || !record.Written(l) {
				t.Fatalf("Put(.., %v): %v, want %v", w, l, listed(m))
			}
		}
	}
}

// P8.1: Get

// gets holds what Get answers against want.
func gets(t *testing.T, l []api.Write, block int, want api.Value, has bool) {
	t.Helper()
	if got, ok := overlay.Get(l, block); ok != has || got != want {
		t.Errorf("Get(%v, %d): %v, %v, want %v, %v", l, block, got, ok, want, has)
	}
}

func TestGet(t *testing.T) {
	for _, l := range good() {
		for n := -3; n < 36; n++ {
			v, has := plain(l)[n]
			gets(t, l, n, v, has)
		}
		for _, n := range far() {
			gets(t, l, n, api.Value{}, false)
		}
	}
}

func TestGetOfAValueOfNoughts(t *testing.T) {
	gets(t, []api.Write{{Block: 4}}, 4, api.Value{}, true)
	gets(t, []api.Write{{Block: 4}}, 0, api.Value{}, false)
	gets(t, []api.Write{{}}, 0, api.Value{}, true)
	gets(t, nil, 0, api.Value{}, false)
	gets(t, []api.Write{}, 0, api.Value{}, false)
}

func TestGetOfWhatIsNone(t *testing.T) {
	gets(t, []api.Write{write(5, 1), write(5, 2)}, 5, value(1), true)
	gets(t, []api.Write{write(5, 2), write(3, 3), write(5, 1)}, 5, value(2), true)
	gets(t, []api.Write{write(5, 2), write(3, 3), write(5, 1)}, 3, value(3), true)
	gets(t, []api.Write{write(9, 1), write(3, 2), write(1, 3)}, 1, value(3), true)
	for _, l := range bad() {
		m := plain(l)
		for n := -3; n < 36; n++ {
			v, has := m[n]
			gets(t, l, n, v, has)
		}
		for _, n := range far() {
			v, has := m[n]
			gets(t, l, n, v, has)
		}
	}
	many := []api.Write{}
	for n := range 2000 {
		many = append(many, write(n/2-300, n))
	}
	for n := -300; n < 700; n++ {
		gets(t, many, n, value(2*(n+300)), true)
	}
	gets(t, many, 700, api.Value{}, false)
}

// P8.2: On

// on holds what On answers against want, block by block.
func on(t *testing.T, h [api.Blocks]api.Value, l []api.Write, want [api.Blocks]api.Value) {
	t.Helper()
	if got := overlay.On(h, l); got != want {
		t.Errorf("On(.., %v): %v, want %v", l, got, want)
	}
}

func TestOn(t *testing.T) {
	for _, l := range good() {
		for _, h := range [][api.Blocks]api.Value{{}, home(0), home(9)} {
			m := plain(l)
			want := h
			for n := range 32 {
				if v, ok := m[n]; ok {
					want[n] = v
				}
			}
			on(t, h, l, want)
		}
	}
}

func TestOnWithNone(t *testing.T) {
	on(t, home(1), nil, home(1))
	on(t, home(1), []api.Write{}, home(1))
	on(t, [api.Blocks]api.Value{}, nil, [api.Blocks]api.Value{})
}

func TestOnWithAValueOfNoughts(t *testing.T) {
	want := home(3)
	want[7] = api.Value{}
	on(t, home(3), []api.Write{{Block: 7}}, want)
}

func TestOnInOrder(t *testing.T) {
	want := home(2)
	want[5] = value(2)
	on(t, home(2), []api.Write{write(5, 1), write(5, 2)}, want)
	on(t, home(2), []api.Write{write(5, 3), write(5, 1), write(5, 2)}, want)
	want[9], want[1] = value(8), value(7)
	on(t, home(2), []api.Write{write(9, 8), write(5, 1), write(1, 7), write(5, 2)}, want)
	on(t, home(2), []api.Write{write(5, 1), write(9, 1), write(1, 7), write(5, 2), write(9, 8)}, want)
}

func TestOnWithMany(t *testing.T) {
	l := []api.Write{}
	var want [api.Blocks]api.Value
	for n := range 500 {
		l = append(l, write(n%32, n), write(-1-n, n), write(32+n, n))
		want[n%32] = value(n)
	}
	on(t, home(2), l, want)
}

func TestOnWithBlocksThatAreNone(t *testing.T) {
	for _, n := range far() {
		on(t, home(4), writes(n), home(4))
		want := home(4)
		want[0], want[31], want[6] = value(1), value(2), value(3)
		on(t, home(4), []api.Write{write(0, 1), write(n, 9), write(31, 2), write(n, 8), write(6, 3)}, want)
	}
}

// P8.2: Over

// overs holds what Over answers against want.
func overs(t *testing.T, a, b, want []api.Write, e api.Errno) {
	t.Helper()
	got, is := overlay.Over(a, b)
	if is != e || !slices.Equal(got, want) {
		t.Errorf("Over(%v, %v): %v, %v, want %v, %v", a, b, got, is, want, e)
	}
}

// both is what Over of overlays is to answer.
func both(a, b []api.Write) ([]api.Write, api.Errno) {
	m := plain(a)
	for _, w := range b {
		m[w.Block] = w.Value
	}
	if len(m) > 8 {
		return nil, api.ErrFull
	}
	return listed(m), api.OK
}

func TestOver(t *testing.T) {
	a, b := writes(3, 9, 20), []api.Write{write(1, 1), write(9, 2), write(31, 3)}
	overs(t, a, b, []api.Write{b[0], a[0], b[1], a[2], b[2]}, api.OK)
	overs(t, b, a, []api.Write{b[0], a[0], a[1], a[2], b[2]}, api.OK)
	apart := []api.Write{write(1, 1), write(10, 2), write(31, 3)}
	overs(t, a, apart, []api.Write{apart[0], a[0], a[1], apart[1], a[2], apart[2]}, api.OK)
	overs(t, a, a, a, api.OK)
}

func TestOverOfNone(t *testing.T) {
	for _, l := range good() {
		overs(t, l, nil, l, api.OK)
		overs(t, l, []api.Write{}, l, api.OK)
		overs(t, nil, l, l, api.OK)
		overs(t, []api.Write{}, l, l, api.OK)
		overs(t, l, l, l, api.OK)
	}
}

func TestOverOfEachTwo(t *testing.T) {
	full := 0
	for _, a := range good() {
		for _, b := range good() {
			want, e := both(a, b)
			overs(t, a, b, want, e)
			if e != api.OK {
				full++
			}
		}
	}
	if full < 100 {
		t.Errorf("%d were full only", full)
	}
}

func TestOverOfMaxWrites(t *testing.T) {
	a := writes(1, 3, 5, 7)
	for _, x := range []struct {
		b []api.Write
		e api.Errno
	}{
		{writes(0, 2, 4, 6), api.OK}, {writes(9, 11, 13, 15), api.OK}, {writes(0, 1, 2, 3, 4, 5, 6, 7), api.OK}, {writes(1, 3, 5, 7, 28, 29, 30, 31), api.OK},
		{writes(0, 2, 4, 6, 8), api.ErrFull}, {writes(27, 28, 29, 30, 31), api.ErrFull}, {writes(1, 3, 5, 20, 21, 22, 23, 24), api.ErrFull}, {writes(0, 2, 4, 6, 7, 8), api.ErrFull},
	} {
		want, _ := both(a, x.b)
		overs(t, a, x.b, want, x.e)
		overs(t, x.b, a, listedOver(x.b, a, x.e), x.e)
	}
	eight := writes(2, 4, 6, 8, 10, 12, 14, 16)
	overs(t, eight, writes(17), nil, api.ErrFull)
	overs(t, writes(17), eight, nil, api.ErrFull)
	overs(t, writes(8), eight, eight, api.OK)
}

// listedOver is what Over is to answer beside e.
func listedOver(a, b []api.Write, e api.Errno) []api.Write {
	l, _ := both(a, b)
	if e != api.OK {
		return nil
	}
	return l
}

func TestOverOfWhatIsNone(t *testing.T) {
	full := writes(0, 1, 2, 3, 4, 5, 6, 7)
	for _, l := range bad() {
		overs(t, l, nil, nil, api.ErrArg)
		overs(t, nil, l, nil, api.ErrArg)
		overs(t, l, l, nil, api.ErrArg)
		overs(t, l, writes(3), nil, api.ErrArg)
		overs(t, writes(3), l, nil, api.ErrArg)
		// What is no overlay is named ahead of what is full.
		overs(t, full, l, nil, api.ErrArg)
		overs(t, l, full, nil, api.ErrArg)
	}
	overs(t, full, writes(31, 30), nil, api.ErrArg)
	overs(t, full, writes(30, 31, 31), nil, api.ErrArg)
	overs(t, full, writes(30, 32), nil, api.ErrArg)
}

// P8.2: Blocks

func TestBlocks(t *testing.T) {
	for _, blocks := range [][]int{
		{}, {0}, {31}, {3, 5}, {0, 1, 2, 3, 4, 5, 6, 7}, {0, 5, 9, 13, 17, 22, 26, 31},
		{5, 5}, {5, 3, 5}, {31, 0}, {7, 6, 5, 4, 3, 2, 1, 0}, {0, 1, 2, 3, 4, 5, 6, 7, 8, 9, 9, 9}, {-1}, {32, 3, -1}, far(),
	} {
		if got := overlay.Blocks(writes(blocks...)); !slices.Equal(got, blocks) {
			t.Errorf("Blocks of %v: %v", blocks, got)
		}
	}
	if got := overlay.Blocks(nil); len(got) != 0 {
		t.Errorf("Blocks of none: %v", got)
	}
	many := []int{}
	next := dice(2)
	for range 3000 {
		many = append(many, next(90)-30)
	}
	if got := overlay.Blocks(writes(many...)); !slices.Equal(got, many) {
		t.Errorf("Blocks of many: %v", got)
	}
}

// P8.2: Same

// same holds what Same answers against want, either way about.
func same(t *testing.T, a, b []api.Write, want bool) {
	t.Helper()
	if overlay.Same(a, b) != want || overlay.Same(b, a) != want {
		t.Errorf("Same(%v, %v): %v, the other way about %v", a, b, overlay.Same(a, b), overlay.Same(b, a))
	}
}

func TestSame(t *testing.T) {
	all := append(good()[:20], bad()...)
	for _, a := range all {
		same(t, a, slices.Clone(a), true)
		for _, b := range all {
			same(t, a, b, slices.Equal(a, b))
		}
	}
}

func TestSameOfNone(t *testing.T) {
	same(t, nil, nil, true)
	same(t, nil, []api.Write{}, true)
	same(t, []api.Write{}, []api.Write{}, true)
	same(t, nil, []api.Write{{}}, false)
	same(t, []api.Write{}, make([]api.Write, 2), false)
}

func TestSameOfUnlikeLengths(t *testing.T) {
	l := writes(1, 2, 3, 4)
	for n := range 4 {
		same(t, l, l[:n], false)
		same(t, l, l[4-n:], false)
	}
	same(t, make([]api.Write, 3), make([]api.Write, 4), false)
}

func TestSameOfOneThingThatDiffers(t *testing.T) {
	for _, l := range [][]api.Write{writes(4), writes(0, 31), writes(1, 2, 3, 4, 5, 6, 7, 8)} {
		for i := range l {
			for k := range api.Block {
				for _, flip := range []byte{1, 128, 255} {
					other := slices.Clone(l)
					other[i].Value[k] ^= flip
					same(t, l, other, false)
				}
			}
			for _, n := range append(far(), 11) {
				other := slices.Clone(l)
				other[i].Block = n
				same(t, l, other, false)
			}
		}
	}
	same(t, writes(1, 2), []api.Write{writes(1, 2)[1], writes(1, 2)[0]}, false)
	same(t, []api.Write{write(1, 1), write(2, 2)}, []api.Write{write(1, 2), write(2, 1)}, false)
}

// P8.3

func TestOnOfOverIsOnOfOn(t *testing.T) {
	next := dice(33)
	went := 0
	for range 5000 {
		a, b, h := thrown(next), thrown(next), home(next(50))
		l, e := overlay.Over(a, b)
		if e != api.OK {
			continue
		}
		went++
		if overlay.On(h, l) != overlay.On(overlay.On(h, a), b) {
			t.Errorf("On of Over of %v and %v is another than On of On", a, b)
		}
		if !record.Written(l) {
			t.Errorf("Over of %v and %v is no overlay: %v", a, b, l)
		}
	}
	if went < 1000 {
		t.Errorf("%d went only", went)
	}
}

func TestWhatIsPutIsGot(t *testing.T) {
	for _, l := range good() {
		for n := range 32 {
			more, e := overlay.Put(l, write(n, 222))
			if e != api.OK {
				continue
			}
			gets(t, more, n, value(222), true)
			for k := -2; k < 34; k++ {
				if k != n {
					v, has := overlay.Get(l, k)
					gets(t, more, k, v, has)
				}
			}
			if !slices.Contains(overlay.Blocks(more), n) || !slices.IsSorted(overlay.Blocks(more)) {
				t.Errorf("Put(%v, %d): blocks %v", l, n, overlay.Blocks(more))
			}
			want := overlay.On(home(6), l)
			want[n] = value(222)
			on(t, home(6), more, want)
		}
	}
}

// R4: what is handed in, what is handed out

// roomy is l with writes in the spare room behind it, and all of its memory.
func roomy(l []api.Write) ([]api.Write, []api.Write) {
	room := append(slices.Clone(l), writes(77, 78, 79)...)
	return room[:len(l)], room
}

// spoil writes over a list, its spare room too.
func spoil(l []api.Write) {
	l = l[:cap(l)]
	for i := range l {
		l[i] = api.Write{Block: 99, Value: api.Value{9, 9, 9, 9, 9, 9, 9, 9}}
	}
}

func TestWhatIsHandedInStays(t *testing.T) {
	for _, l := range append(good(), bad()[:40]...) {
		handed, all := roomy(l)
		before := slices.Clone(all)
		other, allOther := roomy(writes(0, 2, 30))
		beforeOther := slices.Clone(allOther)
		h := home(1)
		for n := range 33 {
			overlay.Put(handed, write(n, 3))
			overlay.Get(handed, n)
		}
		overlay.On(h, handed)
		overlay.Over(handed, other)
		overlay.Over(other, handed)
		overlay.Blocks(handed)
		overlay.Same(handed, other)
		if !slices.Equal(all, before) || !slices.Equal(allOther, beforeOther) || h != home(1) {
			t.Errorf("%v became %v, %v became %v", before, all, beforeOther, allOther)
		}
	}
}

func TestPutIsNewMemory(t *testing.T) {
	for _, l := range good() {
		for n := range 32 {
			handed, all := roomy(l)
			before := slices.Clone(all)
			a, e := overlay.Put(handed, write(n, 3))
			if e != api.OK {
				continue
			}
			b, _ := overlay.Put(handed, write(n, 3))
			want := slices.Clone(b)
			spoil(a)
			if !slices.Equal(all, before) || !slices.Equal(b, want) {
				t.Fatalf("Put(%v, %d) shares memory: %v, %v", l, n, all, b)
			}
			spoil(handed)
			if !slices.Equal(b, want) {
				t.Fatalf("Put(%v, %d) hangs on what was handed in: %v", l, n, b)
			}
		}
	}
}

func TestOverIsNewMemory(t *testing.T) {
	for _, l := range good() {
		for _, more := range [][]api.Write{nil, {}, l, writes(9), writes(0, 31)} {
			first, allFirst := roomy(l)
			second, allSecond := roomy(more)
			beforeFirst, beforeSecond := slices.Clone(allFirst), slices.Clone(allSecond)
			a, e := overlay.Over(first, second)
			if e != api.OK {
				continue
			}
			b, _ := overlay.Over(first, second)
			want := slices.Clone(b)
			spoil(a)
			if !slices.Equal(allFirst, beforeFirst) || !slices.Equal(allSecond, beforeSecond) || !slices.Equal(b, want) {
				t.Fatalf("Over(%v, %v) shares memory: %v, %v, %v", l, more, allFirst, allSecond, b)
			}
			spoil(first)
			spoil(second)
			if !slices.Equal(b, want) {
				t.Fatalf("Over(%v, %v) hangs on what was handed in: %v", l, more, b)
			}
		}
	}
}

func TestBlocksIsNewMemory(t *testing.T) {
	l := writes(3, 9, 20)
	a, b := overlay.Blocks(l), overlay.Blocks(l)
	a[0], a[1], a[2] = 7, 7, 7
	if !slices.Equal(b, []int{3, 9, 20}) || !slices.Equal(l, writes(3, 9, 20)) {
		t.Errorf("Blocks shares memory: %v, %v", b, l)
	}
}
