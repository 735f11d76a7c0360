package record_test

import (
	"bytes"
	"math"
	"slices"
	"testing"

	"cashbox/api"
	"cashbox/frame"
	"cashbox/journal"
	"cashbox/record"
)

// dice answers numbers that look thrown, the same ones in each run.
func dice(seed uint64) func(below int) int {
	return func(below int) int {
		seed = seed*6364136223846793005 + 1442695040888963407
		return int((seed >> 33) % uint64(below))
	}
}

// far are numbers that no field may have.
func far() []int {
	return []int{math.MinInt, math.MinInt + 1, -1 << 56, -1 << 32, -1<<32 + 1, -1 << 24, -1<<24 + 1, -1 << 20, -256, -255, -2, 1<<20 + 2, 1 << 24, 1<<24 + 1, 1<<32 + 1, 1<<32 + 2, 1<<56 + 2, math.MaxInt - 1, math.MaxInt}
}

// written are writes of these blocks, in this order, each with other bytes.
func written(blocks ...int) []api.Write {
	l := []api.Write{}
	for i, n := range blocks {
		w := api.Write{Block: n}
		for k := range w.Value {
			w.Value[k] = byte(37*n + 11*i + k + 1)
		}
		l = append(l, w)
	}
	return l
}

// goodWrites are writes that may be.
func goodWrites() [][]api.Write {
	l := [][]api.Write{nil, {}, {{}}, {{Block: 31}}, {{Block: 0, Value: api.Value{0: 255, 7: 1}}}}
	for n := range 32 {
		l = append(l, written(n))
	}
	for n := range 31 {
		l = append(l, written(n, n+1), written(0, n+1), written(n, 31))
	}
	for from := range 25 {
		some := []int{}
		for n := range 8 {
			some = append(some, from+n)
		}
		for n := range 9 {
			l = append(l, written(some[:n]...))
		}
	}
	return append(l, written(0, 1, 2, 3, 28, 29, 30, 31), written(0, 5, 9, 13, 17, 22, 26, 31), written(1, 3, 5, 7, 9, 11, 13))
}

// badWrites are such as may not be.
func badWrites() [][]api.Write {
	l := [][]api.Write{
		written(-1), written(32), written(33), written(255), written(256), written(257), written(-256),
		written(-1, 0), written(0, 32), written(30, 31, 32), written(-2, -1), written(32, 33),
		written(0, 0), written(5, 5), written(31, 31), written(1, 2, 2), written(1, 2, 2, 3), written(1, 1, 2),
		written(1, 0), written(31, 30), written(31, 0), written(1, 2, 4, 3), written(2, 1, 3), written(0, 2, 1, 3), written(3, 4, 5, 6, 7, 8, 9, 2), written(5, 3, 5),
		written(0, 1, 2, 3, 4, 5, 6, 7, 8), written(23, 24, 25, 26, 27, 28, 29, 30, 31), written(0, 1, 2, 3, 4, 5, 6, 6), written(24, 25, 26, 27, 28, 29, 30, 32),
		{{Block: 3, Value: api.Value{1}}, {Block: 3, Value: api.Value{2}}},
		make([]api.Write, 2), make([]api.Write, 8), make([]api.Write, 9), make([]api.Write, 256), make([]api.Write, 257),
	}
	for _, n := range far() {
		l = append(l, written(n), written(n, 3), written(3, n), written(0, 1, 2, 3, 4, 5, 6, n))
	}
	all := []int{}
	for n := range 32 {
		all = append(all, n)
	}
	return append(l, written(all...), written(all[:9]...), written(all[:16]...))
}

// goodNames are names that may be.
func goodNames() []api.Name {
	l := []api.Name{}
	some := []int{1, 2, 255, 256, 257, 65535, 65536, 1<<20 - 1, 1 << 20}
	for _, stamp := range some {
		for _, inc := range some {
			for _, try := range some {
				l = append(l, api.Name{Stamp: stamp, Inc: inc, Try: try})
			}
		}
	}
	return l
}

// badNames are such as may not be.
func badNames() []api.Name {
	l := []api.Name{{}, {Stamp: -1, Inc: -1, Try: -1}}
	for _, n := range append(far(), -1, 0, 1<<20+1) {
		l = append(l, api.Name{Stamp: n, Inc: 1, Try: 1}, api.Name{Stamp: 1, Inc: n, Try: 1}, api.Name{Stamp: 1, Inc: 1, Try: n}, api.Name{Stamp: n, Inc: n, Try: n})
		l = append(l, api.Name{Stamp: n, Inc: 1 << 20, Try: 9}, api.Name{Stamp: 9, Inc: n, Try: 1 << 20}, api.Name{Stamp: 1 << 20, Inc: 9, Try: n})
	}
	return l
}

var one = api.Name{Stamp: 0x010203, Inc: 0x040506, Try: 0x070809}

// plainly are records of each kind that may be, with nothing at an edge.
func plainly() []api.Record {
	return []api.Record{
		{Kind: api.RecLocal, Name: one, Writes: written(3, 17)},
		{Kind: api.RecPrepare, Name: one, Writes: written(3, 17), Give: 0x21, Take: 0x0C},
		{Kind: api.RecOutcome, Name: one, Yes: true},
		{Kind: api.RecCommit, Name: one, Shards: 6, Change: api.Change{Stripe: 4, To: 2}},
		{Kind: api.RecCommit, Name: one, Shards: 6, Change: api.Change{Stripe: -1}},
		{Kind: api.RecEnd, Name: one},
		{Kind: api.RecStamps, N: 0x0A0B0C},
		{Kind: api.RecInc, N: 0x0A0B0C},
	}
}

// with is r with one thing changed.
func with(r api.Record, change func(*api.Record)) api.Record {
	r.Writes = slices.Clone(r.Writes)
	change(&r)
	return r
}

// named are the records of each kind that names a name.
func named(n api.Name) []api.Record {
	return []api.Record{
		{Kind: api.RecLocal, Name: n, Writes: written(9)},
		{Kind: api.RecPrepare, Name: n, Writes: written(0, 31), Give: 255},
		{Kind: api.RecOutcome, Name: n},
		{Kind: api.RecOutcome, Name: n, Yes: true},
		{Kind: api.RecCommit, Name: n, Shards: 2, Change: api.Change{Stripe: -1}},
		{Kind: api.RecCommit, Name: n, Shards: 30, Change: api.Change{Stripe: 7, To: 4}},
		{Kind: api.RecEnd, Name: n},
	}
}

// good are records that may be, those at the edges among them.
func good() []api.Record {
	l := []api.Record{}
	for _, n := range goodNames() {
		l = append(l, named(n)...)
	}
	for _, w := range goodWrites() {
		l = append(l, api.Record{Kind: api.RecLocal, Name: one, Writes: w}, api.Record{Kind: api.RecPrepare, Name: one, Writes: w}, api.Record{Kind: api.RecPrepare, Name: one, Writes: w, Give: 128, Take: 1})
	}
	for give := range 256 {
		for take := range 256 {
			if give&take == 0 {
				l = append(l, api.Record{Kind: api.RecPrepare, Name: one, Give: give, Take: take})
			}
		}
	}
	for half := 1; half < 16; half++ {
		l = append(l, api.Record{Kind: api.RecCommit, Name: one, Shards: 2 * half, Change: api.Change{Stripe: -1}})
		for stripe := range 8 {
			for to := 1; to <= 4; to++ {
				l = append(l, api.Record{Kind: api.RecCommit, Name: one, Shards: 2 * half, Change: api.Change{Stripe: stripe, To: to}})
			}
		}
	}
	for _, n := range []int{1, 2, 255, 256, 65535, 65536, 1<<20 - 1, 1 << 20} {
		l = append(l, api.Record{Kind: api.RecStamps, N: n}, api.Record{Kind: api.RecInc, N: n})
	}
	return append(l, api.Record{Kind: api.RecStamps, N: 1<<20 + 1})
}

// filled are changes that each fill one field, with what may be in another record.
func filled() map[string][]func(*api.Record) {
	l := map[string][]func(*api.Record){
		"Yes": {func(r *api.Record) { r.Yes = true }},
	}
	fill := func(what string, change func(*api.Record)) {
		l[what] = append(l[what], change)
	}
	for _, n := range []api.Name{{Stamp: 1, Inc: 1, Try: 1}, {Stamp: 1}, {Inc: 1}, {Try: 1}, {Stamp: -1}, {Inc: math.MinInt}, {Try: 1 << 24}} {
		fill("Name", func(r *api.Record) { r.Name = n })
	}
	for _, w := range [][]api.Write{written(1), written(0, 1), written(-1), written(0, 1, 2, 3, 4, 5, 6, 7, 8), make([]api.Write, 1)} {
		fill("Writes", func(r *api.Record) { r.Writes = w })
	}
	for _, n := range []int{1, 2, 255, 256, -1, 1 << 24, math.MaxInt, math.MinInt} {
		fill("Give", func(r *api.Record) { r.Give = n })
		fill("Take", func(r *api.Record) { r.Take = n })
		fill("Shards", func(r *api.Record) { r.Shards = n })
		fill("N", func(r *api.Record) { r.N = n })
	}
	for _, c := range []api.Change{{Stripe: -1}, {Stripe: 1}, {To: 1}, {Stripe: 7, To: 4}, {Stripe: -1, To: 1}, {Stripe: math.MinInt, To: math.MaxInt}} {
		fill("Change", func(r *api.Record) { r.Change = c })
	}
	return l
}

// names are the fields that a kind names.
var names = map[int8][]string{
	api.RecLocal:   {"Name", "Writes"},
	api.RecPrepare: {"Name", "Writes", "Give", "Take"},
	api.RecOutcome: {"Name", "Yes"},
	api.RecCommit:  {"Name", "Shards", "Change"},
	api.RecEnd:     {"Name"},
	api.RecStamps:  {"N"},
	api.RecInc:     {"N"},
}

// bad are records that may not be, each for one cause or a few.
func bad() []api.Record {
	l := []api.Record{{}}
	for _, n := range badNames() {
		l = append(l, named(n)...)
	}
	for _, w := range badWrites() {
		l = append(l, api.Record{Kind: api.RecLocal, Name: one, Writes: w}, api.Record{Kind: api.RecPrepare, Name: one, Writes: w}, api.Record{Kind: api.RecPrepare, Name: one, Writes: w, Give: 128, Take: 1})
	}
	for _, n := range append(far(), -1, 256, 257, 512, 511) {
		for _, other := range []int{0, 1, 255, n} {
			l = append(l, api.Record{Kind: api.RecPrepare, Name: one, Give: n, Take: other}, api.Record{Kind: api.RecPrepare, Name: one, Give: other, Take: n})
		}
	}
	for give := range 256 {
		for take := range 256 {
			if give&take != 0 {
				l = append(l, api.Record{Kind: api.RecPrepare, Name: one, Writes: written(4), Give: give, Take: take})
			}
		}
	}
	for _, n := range append(far(), 0, 1, 3, 5, 7, 15, 31, -1, -30, 32, 33, 34, 62, 64, 128, 254, 255, 256, 258) {
		l = append(l, api.Record{Kind: api.RecCommit, Name: one, Shards: n, Change: api.Change{Stripe: -1}}, api.Record{Kind: api.RecCommit, Name: one, Shards: n, Change: api.Change{Stripe: 3, To: 1}})
	}
	for _, c := range badChanges() {
		l = append(l, api.Record{Kind: api.RecCommit, Name: one, Shards: 6, Change: c}, api.Record{Kind: api.RecCommit, Name: one, Shards: 30, Change: c})
	}
	for _, n := range append(far(), -1, 0) {
		l = append(l, api.Record{Kind: api.RecStamps, N: n}, api.Record{Kind: api.RecInc, N: n})
	}
	l = append(l, api.Record{Kind: api.RecInc, N: 1<<20 + 1})
	for _, r := range plainly() {
		l = append(l, otherwiseFilled(r)...)
		for _, kind := range noKinds() {
			l = append(l, with(r, func(r *api.Record) { r.Kind = kind }), api.Record{Kind: kind})
		}
	}
	return l
}

// badChanges are such as may not be.
func badChanges() []api.Change {
	l := []api.Change{{}, {Stripe: -1, To: 1}, {Stripe: -1, To: 4}, {Stripe: -1, To: -1}, {Stripe: -1, To: 5}, {Stripe: -1, To: 256}, {Stripe: -2}, {Stripe: -2, To: 1}, {Stripe: 8}, {Stripe: 8, To: 1}, {Stripe: 254, To: 1}, {Stripe: 255}, {Stripe: 255, To: 1}}
	for stripe := range 8 {
		l = append(l, api.Change{Stripe: stripe}, api.Change{Stripe: stripe, To: 5}, api.Change{Stripe: stripe, To: -1}, api.Change{Stripe: stripe, To: 257})
	}
	for _, n := range far() {
		l = append(l, api.Change{Stripe: n}, api.Change{Stripe: n, To: 1}, api.Change{Stripe: -1, To: n}, api.Change{Stripe: 0, To: n}, api.Change{Stripe: n, To: n})
	}
	return l
}

// otherwiseFilled is r with each field filled that its kind does not name.
func otherwiseFilled(r api.Record) []api.Record {
	l := []api.Record{}
	for what, changes := range filled() {
		if slices.Contains(names[r.Kind], what) {
			continue
		}
		for _, change := range changes {
			l = append(l, with(r, change))
		}
	}
	return l
}

// noKinds are numbers that are no records' kinds.
func noKinds() []int8 {
	l := []int8{0}
	for n := int8(1); n > 0; n++ {
		l = append(l, -n)
		if n > 7 {
			l = append(l, n)
		}
	}
	return append(l, math.MinInt8)
}

// low is n in w bytes, the lowest first.
func low(n, w int) []byte {
	b := []byte{}
	for range w {
		b = append(b, byte(n%256))
		n /= 256
	}
	return b
}

// plain is the bytes of a record that may be, kind by kind.
func plain(r api.Record) []byte {
	name := slices.Concat(low(r.Name.Stamp, 3), low(r.Name.Inc, 3), low(r.Name.Try, 3))
	writes := []byte{byte(len(r.Writes))}
	for _, w := range r.Writes {
		writes = append(writes, byte(w.Block))
		writes = append(writes, w.Value[:]...)
	}
	flag := byte(0)
	if r.Yes {
		flag = 1
	}
	switch r.Kind {
	case 1:
		return slices.Concat([]byte{1}, name, writes)
	case 2:
		return slices.Concat([]byte{2}, name, writes, []byte{byte(r.Give), byte(r.Take)})
	case 3:
		return slices.Concat([]byte{3}, name, []byte{flag})
	case 4:
		return slices.Concat([]byte{4}, name, []byte{byte(r.Shards), byte(r.Change.Stripe + 1), byte(r.Change.To)})
	case 5:
		return slices.Concat([]byte{5}, name)
	}
	return slices.Concat([]byte{byte(r.Kind)}, low(r.N, 3))
}

// found is the record that stands in b, if b is long enough, and whether b is just as long as its kind asks.
func found(b []byte) (api.Record, bool) {
	if len(b) == 0 {
		return api.Record{}, false
	}
	r := api.Record{Kind: int8(b[0])}
	if r.Kind == 6 || r.Kind == 7 {
		if len(b) != 4 {
			return r, false
		}
		r.N = int(b[1]) + 256*int(b[2]) + 65536*int(b[3])
		return r, true
	}
	if r.Kind < 1 || r.Kind > 5 || len(b) < 10 {
		return r, false
	}
	n := func(at int) int { return int(b[at]) + 256*int(b[at+1]) + 65536*int(b[at+2]) }
	r.Name = api.Name{Stamp: n(1), Inc: n(4), Try: n(7)}
	rest := b[10:]
	switch r.Kind {
	case 3:
		if len(rest) != 1 || rest[0] > 1 {
			return r, false
		}
		r.Yes = rest[0] == 1
		return r, true
	case 4:
		if len(rest) != 3 {
			return r, false
		}
		r.Shards, r.Change = int(rest[0]), api.Change{Stripe: int(rest[1]) - 1, To: int(rest[2])}
		return r, true
	case 5:
		return r, len(rest) == 0
	}
	behind := 2 * int(r.Kind-1)
	if len(rest) == 0 || len(rest) != 1+9*int(rest[0])+behind {
		return r, false
	}
	for i := range int(rest[0]) {
		r.Writes = append(r.Writes, api.Write{Block: int(rest[1+9*i]), Value: api.Value(rest[2+9*i : 10+9*i])})
	}
	if behind > 0 {
		r.Give, r.Take = int(rest[len(rest)-2]), int(rest[len(rest)-1])
	}
	return r, true
}

// mayBe tells plainly whether a record may be that was found in bytes: no number is below 0, but a change's stripe.
func mayBe(r api.Record) bool {
	for _, n := range []int{r.Name.Stamp, r.Name.Inc, r.Name.Try} {
		if r.Kind < 6 && (n < 1 || n > 1<<20) {
			return false
		}
	}
	for i, w := range r.Writes {
		if i > 7 || w.Block > 31 || i > 0 && w.Block <= r.Writes[i-1].Block {
			return false
		}
	}
	none := r.Change == api.Change{Stripe: -1}
	switch r.Kind {
	case 2:
		return r.Give&r.Take == 0
	case 4:
		return r.Shards >= 2 && r.Shards <= 30 && r.Shards%2 == 0 && (none || r.Change.Stripe >= 0 && r.Change.Stripe <= 7 && r.Change.To >= 1 && r.Change.To <= 4)
	case 6:
		return r.N >= 1 && r.N <= 1<<20+1
	case 7:
		return r.N >= 1 && r.N <= 1<<20
	}
	return true
}

// alike holds records against each other, field by field.
func alike(a, b api.Record) bool {
	if len(a.Writes) != len(b.Writes) {
		return false
	}
	for i := range a.Writes {
		if a.Writes[i].Block != b.Writes[i].Block || a.Writes[i].Value != b.Writes[i].Value {
			return false
		}
	}
	return a.Kind == b.Kind && a.Name == b.Name && a.Yes == b.Yes && a.Give == b.Give && a.Take == b.Take && a.Shards == b.Shards && a.Change == b.Change && a.N == b.N
}

// P7.1: May

func TestMayOfARecord(t *testing.T) {
	for _, r := range append(good(), plainly()...) {
		if !record.May(r) {
			t.Errorf("%+v may not be", r)
		}
	}
}

func TestMayOfWhatIsNone(t *testing.T) {
	for _, r := range bad() {
		if record.May(r) {
			t.Errorf("%+v may be", r)
		}
	}
}

func TestMayOfFieldsThatAreNotNamed(t *testing.T) {
	for _, r := range plainly() {
		n := 0
		for _, other := range otherwiseFilled(r) {
			n++
			if record.May(other) {
				t.Errorf("%+v may be, with a field that its kind does not name", other)
			}
		}
		if n < 23 {
			t.Errorf("%+v was filled %d times only", r, n)
		}
		// Empty writes are none.
		if len(r.Writes) == 0 && !record.May(with(r, func(r *api.Record) { r.Writes = []api.Write{} })) {
			t.Errorf("%+v may not be with empty writes", r)
		}
	}
}

func TestMayOfNamesThatAreNotThere(t *testing.T) {
	for _, r := range plainly() {
		if r.Kind == api.RecStamps || r.Kind == api.RecInc {
			continue
		}
		if record.May(with(r, func(r *api.Record) { r.Name = api.Name{} })) {
			t.Errorf("%+v may be without its name", r)
		}
	}
}

func TestMayOfEachKind(t *testing.T) {
	// Kinds of records, and with which kinds just these fields may be, too.
	fit := map[int8][]int8{1: {1, 2}, 2: {2}, 3: {3}, 4: {4}, 5: {1, 2, 3, 5}, 6: {6, 7}, 7: {6, 7}}
	for _, r := range plainly() {
		for kind := math.MinInt8; kind <= math.MaxInt8; kind++ {
			other := with(r, func(r *api.Record) { r.Kind = int8(kind) })
			if got, want := record.May(other), slices.Contains(fit[r.Kind], other.Kind); got != want {
				t.Errorf("%+v: %v", other, got)
			}
		}
	}
}

func TestMayOfEachNumber(t *testing.T) {
	for n := -300; n <= 300; n++ {
		for _, x := range []struct {
			r    api.Record
			want bool
		}{
			{api.Record{Kind: api.RecPrepare, Name: one, Give: n}, n >= 0 && n <= 255},
			{api.Record{Kind: api.RecPrepare, Name: one, Take: n}, n >= 0 && n <= 255},
			{api.Record{Kind: api.RecPrepare, Name: one, Give: 1, Take: n}, n >= 0 && n <= 255 && n%2 == 0},
			{api.Record{Kind: api.RecCommit, Name: one, Shards: n, Change: api.Change{Stripe: -1}}, n >= 2 && n <= 30 && n%2 == 0},
			{api.Record{Kind: api.RecCommit, Name: one, Shards: 2, Change: api.Change{Stripe: n, To: 1}}, n >= 0 && n <= 7},
			{api.Record{Kind: api.RecCommit, Name: one, Shards: 2, Change: api.Change{Stripe: n}}, n == -1},
			{api.Record{Kind: api.RecCommit, Name: one, Shards: 2, Change: api.Change{Stripe: 0, To: n}}, n >= 1 && n <= 4},
			{api.Record{Kind: api.RecCommit, Name: one, Shards: 2, Change: api.Change{Stripe: -1, To: n}}, n == 0},
			{api.Record{Kind: api.RecStamps, N: n}, n >= 1},
			{api.Record{Kind: api.RecStamps, N: 1<<20 + 1 + n}, n <= 0},
			{api.Record{Kind: api.RecInc, N: n}, n >= 1},
			{api.Record{Kind: api.RecInc, N: 1<<20 + n}, n <= 0},
			{api.Record{Kind: api.RecLocal, Name: one, Writes: written(n)}, n >= 0 && n <= 31},
		} {
			if got := record.May(x.r); got != x.want {
				t.Errorf("%+v: %v", x.r, got)
			}
		}
	}
}

// P7.1: Named

func TestNamed(t *testing.T) {
	for _, n := range goodNames() {
		if !record.Named(n) {
			t.Errorf("%+v may not be", n)
		}
	}
}

func TestNamedOfWhatIsNone(t *testing.T) {
	for _, n := range badNames() {
		if record.Named(n) {
			t.Errorf("%+v may be", n)
		}
	}
}

func TestNamedAtTheEdges(t *testing.T) {
	for n := -40; n <= 40; n++ {
		for _, far := range []int{0, 1 << 20} {
			want := far == 0 && n >= 1 || far > 0 && n <= 0
			for _, name := range []api.Name{{Stamp: far + n, Inc: 5, Try: 6}, {Stamp: 4, Inc: far + n, Try: 6}, {Stamp: 4, Inc: 5, Try: far + n}} {
				if got := record.Named(name); got != want {
					t.Errorf("%+v: %v", name, got)
				}
			}
		}
	}
}

// P7.1: Written

func TestWritten(t *testing.T) {
	for _, w := range goodWrites() {
		if !record.Written(w) {
			t.Errorf("%+v may not be", w)
		}
	}
}

func TestWrittenOfWhatIsNone(t *testing.T) {
	for _, w := range badWrites() {
		if record.Written(w) {
			t.Errorf("%+v may be", w)
		}
	}
}

func TestWrittenOfEachTwo(t *testing.T) {
	for a := -3; a <= 35; a++ {
		for b := -3; b <= 35; b++ {
			if got, want := record.Written(written(a, b)), a >= 0 && a < b && b <= 31; got != want {
				t.Errorf("%d, %d: %v", a, b, got)
			}
		}
	}
}

func TestWrittenOfSoMany(t *testing.T) {
	blocks := []int{}
	for n := range 32 {
		if got, want := record.Written(written(blocks...)), n <= 8; got != want {
			t.Errorf("%d writes: %v", n, got)
		}
		blocks = append(blocks, n)
	}
}

// P7.1: Same

// changed are records that each differ from r in one thing.
func changed(r api.Record) []api.Record {
	l := []api.Record{
		with(r, func(r *api.Record) { r.Kind++ }),
		with(r, func(r *api.Record) { r.Kind = -r.Kind - 1 }),
		with(r, func(r *api.Record) { r.Name.Stamp++ }),
		with(r, func(r *api.Record) { r.Name.Inc++ }),
		with(r, func(r *api.Record) { r.Name.Try += 1 << 32 }),
		with(r, func(r *api.Record) { r.Yes = !r.Yes }),
		with(r, func(r *api.Record) { r.Give ^= 1 }),
		with(r, func(r *api.Record) { r.Take ^= 1 << 40 }),
		with(r, func(r *api.Record) { r.Shards = -r.Shards - 1 }),
		with(r, func(r *api.Record) { r.Change.Stripe-- }),
		with(r, func(r *api.Record) { r.Change.To++ }),
		with(r, func(r *api.Record) { r.N ^= math.MinInt }),
		with(r, func(r *api.Record) { r.Writes = append(r.Writes, api.Write{}) }),
		with(r, func(r *api.Record) { r.Writes = append([]api.Write{{}}, r.Writes...) }),
	}
	for i := range r.Writes {
		l = append(l, with(r, func(r *api.Record) { r.Writes[i].Block++ }), with(r, func(r *api.Record) { r.Writes = r.Writes[:i] }))
		for k := range api.Block {
			l = append(l, with(r, func(r *api.Record) { r.Writes[i].Value[k] ^= 0x80 }))
		}
		if i > 0 {
			l = append(l, with(r, func(r *api.Record) { r.Writes[0], r.Writes[i] = r.Writes[i], r.Writes[0] }))
		}
	}
	return l
}

func TestSame(t *testing.T) {
	odd := []api.Record{{}, {Kind: -128, Name: api.Name{Stamp: -1}, Yes: true, Writes: written(99, -5, 7), Give: -1, Take: -1, Shards: -1, Change: api.Change{Stripe: math.MinInt, To: math.MaxInt}, N: -1}, {Writes: written(1, 1, 1, 1, 1, 1, 1, 1, 1, 1)}}
	for _, r := range append(plainly(), odd...) {
		if !record.Same(r, r) || !record.Same(r, with(r, func(*api.Record) {})) {
			t.Errorf("%+v is not the same as itself", r)
		}
		for _, other := range changed(r) {
			if record.Same(r, other) || record.Same(other, r) {
				t.Errorf("%+v is the same as %+v", r, other)
			}
			if !record.Same(other, other) {
				t.Errorf("%+v is not the same as itself", other)
			}
		}
	}
}

func TestSameOfNoneAndNothing(t *testing.T) {
	for _, r := range plainly() {
		r.Writes = nil
		for _, none := range [][]api.Write{{}, make([]api.Write, 0, 5), written(1, 2)[:0]} {
			other := with(r, func(r *api.Record) { r.Writes = none })
			if !record.Same(r, other) || !record.Same(other, r) {
				t.Errorf("%+v: nothing and none are not alike", r)
			}
		}
	}
}

func TestSameOfAnyRecords(t *testing.T) {
	next := dice(3)
	some := func() api.Record {
		r := api.Record{Kind: int8(next(2)), Yes: next(2) == 0, Give: next(2), Take: next(2), Shards: next(2), N: next(2)}
		r.Name, r.Change = api.Name{Stamp: next(2), Inc: next(2), Try: next(2)}, api.Change{Stripe: next(2), To: next(2)}
		for range next(2) {
			r.Writes = append(r.Writes, api.Write{Block: next(2), Value: api.Value{7: byte(next(2))}})
		}
		return r
	}
	same := 0
	for range 200000 {
		a, b := some(), some()
		if alike(a, b) {
			same++
		}
		if got := record.Same(a, b); got != alike(a, b) {
			t.Fatalf("%+v and %+v: %v", a, b, got)
		}
	}
	if same == 0 {
		t.Error("no two were alike")
	}
}

// P7.1: Less

func TestLessByOneNumber(t *testing.T) {
	for _, x := range []struct{ a, b api.Name }{
		{api.Name{Stamp: 5, Inc: 5, Try: 5}, api.Name{Stamp: 6, Inc: 5, Try: 5}},
		{api.Name{Stamp: 5, Inc: 5, Try: 5}, api.Name{Stamp: 5, Inc: 6, Try: 5}},
		{api.Name{Stamp: 5, Inc: 5, Try: 5}, api.Name{Stamp: 5, Inc: 5, Try: 6}},
		{api.Name{Stamp: 5, Inc: 9, Try: 9}, api.Name{Stamp: 6, Inc: 1, Try: 1}},
		{api.Name{Stamp: 5, Inc: 5, Try: 9}, api.Name{Stamp: 5, Inc: 6, Try: 1}},
		{api.Name{Stamp: 255, Inc: 1, Try: 1}, api.Name{Stamp: 256, Inc: 1, Try: 1}},
		{api.Name{Stamp: 1, Inc: 1, Try: 1}, api.Name{Stamp: 1 << 20, Inc: 1, Try: 1}},
		{api.Name{Stamp: math.MinInt}, api.Name{Stamp: math.MaxInt}},
		{api.Name{Inc: math.MinInt}, api.Name{Inc: math.MaxInt}},
		{api.Name{Try: math.MinInt}, api.Name{Try: math.MaxInt}},
		{api.Name{Stamp: -1}, api.Name{}},
	} {
		if !record.Less(x.a, x.b) || record.Less(x.b, x.a) {
			t.Errorf("%+v and %+v: %v, and the other way round %v", x.a, x.b, record.Less(x.a, x.b), record.Less(x.b, x.a))
		}
	}
}

func TestLessOfEachTwo(t *testing.T) {
	some := []int{math.MinInt, -1, 0, 1, 2, 1 << 20, math.MaxInt}
	l := []api.Name{}
	for _, stamp := range some {
		for _, inc := range some {
			for _, try := range some {
				l = append(l, api.Name{Stamp: stamp, Inc: inc, Try: try})
			}
		}
	}
	// They were made in their order.
	for i, a := range l {
		for k, b := range l {
			if got := record.Less(a, b); got != (i < k) {
				t.Errorf("%+v and %+v: %v", a, b, got)
			}
		}
	}
}

// P7.2: Bytes

// known are records with their bytes, written out.
var known = []struct {
	r api.Record
	b string
}{
	{api.Record{Kind: api.RecOutcome, Name: api.Name{Stamp: 1, Inc: 1, Try: 1}, Yes: true}, "\x03\x01\x00\x00\x01\x00\x00\x01\x00\x00\x01"},
	{api.Record{Kind: api.RecOutcome, Name: api.Name{Stamp: 1, Inc: 2, Try: 3}}, "\x03\x01\x00\x00\x02\x00\x00\x03\x00\x00\x00"},
	{api.Record{Kind: api.RecLocal, Name: api.Name{Stamp: 0x010203, Inc: 0x040506, Try: 0x070809}}, "\x01\x03\x02\x01\x06\x05\x04\x09\x08\x07\x00"},
	{api.Record{Kind: api.RecLocal, Name: api.Name{Stamp: 1, Inc: 1, Try: 1}, Writes: []api.Write{{Block: 4, Value: api.Value{1, 2, 3, 4, 5, 6, 7, 8}}, {Block: 31, Value: api.Value{255}}}}, "\x01\x01\x00\x00\x01\x00\x00\x01\x00\x00\x02\x04\x01\x02\x03\x04\x05\x06\x07\x08\x1f\xff\x00\x00\x00\x00\x00\x00\x00"},
	{api.Record{Kind: api.RecPrepare, Name: api.Name{Stamp: 1 << 20, Inc: 1 << 20, Try: 1 << 20}, Writes: []api.Write{{Block: 0, Value: api.Value{7: 9}}}, Give: 0x81, Take: 0x10}, "\x02\x00\x00\x10\x00\x00\x10\x00\x00\x10\x01\x00\x00\x00\x00\x00\x00\x00\x00\x09\x81\x10"},
	{api.Record{Kind: api.RecCommit, Name: api.Name{Stamp: 1, Inc: 1, Try: 2}, Shards: 6, Change: api.Change{Stripe: -1}}, "\x04\x01\x00\x00\x01\x00\x00\x02\x00\x00\x06\x00\x00"},
	{api.Record{Kind: api.RecCommit, Name: api.Name{Stamp: 1, Inc: 1, Try: 2}, Shards: 30, Change: api.Change{Stripe: 0, To: 3}}, "\x04\x01\x00\x00\x01\x00\x00\x02\x00\x00\x1e\x01\x03"},
	{api.Record{Kind: api.RecCommit, Name: api.Name{Stamp: 1, Inc: 1, Try: 2}, Shards: 16, Change: api.Change{Stripe: 7, To: 4}}, "\x04\x01\x00\x00\x01\x00\x00\x02\x00\x00\x10\x08\x04"},
	{api.Record{Kind: api.RecEnd, Name: api.Name{Stamp: 256, Inc: 1, Try: 65536}}, "\x05\x00\x01\x00\x01\x00\x00\x00\x00\x01"},
	{api.Record{Kind: api.RecStamps, N: 17}, "\x06\x11\x00\x00"},
	{api.Record{Kind: api.RecStamps, N: 1<<20 + 1}, "\x06\x01\x00\x10"},
	{api.Record{Kind: api.RecInc, N: 0x0C0D0E}, "\x07\x0e\x0d\x0c"},
}

func TestBytesOfKnownRecords(t *testing.T) {
	for _, x := range known {
		if b, e := record.Bytes(x.r); e != api.OK || string(b) != x.b {
			t.Errorf("%+v: % x, %v, want % x", x.r, b, e, x.b)
		}
	}
}

func TestBytesOfARecord(t *testing.T) {
	for _, r := range append(good(), plainly()...) {
		if b, e := record.Bytes(r); e != api.OK || !bytes.Equal(b, plain(r)) {
			t.Errorf("%+v: % x, %v, want % x", r, b, e, plain(r))
		}
	}
}

func TestBytesOfWhatMayNotBe(t *testing.T) {
	for _, r := range bad() {
		if b, e := record.Bytes(r); e != api.ErrArg || len(b) != 0 {
			t.Errorf("%+v: % x, %v", r, b, e)
		}
	}
}

// P7.2: Read

// reads checks that b is the bytes of want.
func reads(t *testing.T, b []byte, want api.Record) {
	t.Helper()
	if r, e := record.Read(b); e != api.OK || !alike(r, want) {
		t.Errorf("% x: %+v, %v, want %+v", b, r, e, want)
	}
}

// unread checks that b is no record's bytes.
func unread(t *testing.T, b []byte) {
	t.Helper()
	if r, e := record.Read(b); e != api.ErrCode || !alike(r, api.Record{}) {
		t.Errorf("% x: %+v, %v", b, r, e)
	}
}

// held checks what Read tells of b, whatever that is.
func held(t *testing.T, b []byte) bool {
	t.Helper()
	r, ok := found(b)
	if ok && mayBe(r) {
		reads(t, b, r)
		return true
	}
	unread(t, b)
	return false
}

func TestReadOfKnownBytes(t *testing.T) {
	for _, x := range known {
		reads(t, []byte(x.b), x.r)
	}
}

func TestReadOfARecord(t *testing.T) {
	for _, r := range append(good(), plainly()...) {
		reads(t, plain(r), r)
	}
}

func TestReadOfARecordThatMayNotBe(t *testing.T) {
	for _, r := range bad() {
		b := plain(r)
		// Where the numbers were cut to their bytes another record may stand there.
		if other, ok := found(b); ok && mayBe(other) && !record.Same(other, r) {
			continue
		}
		unread(t, b)
	}
}

func TestReadOfNoBytes(t *testing.T) {
	unread(t, nil)
	unread(t, []byte{})
	unread(t, []byte{3, 1, 1}[:0])
}

func TestReadOfOneAndOfTwoBytes(t *testing.T) {
	for a := range 256 {
		unread(t, []byte{byte(a)})
		for b := range 256 {
			unread(t, []byte{byte(a), byte(b)})
		}
	}
}

func TestReadOfThreeAndOfFourBytes(t *testing.T) {
	for kind := range 256 {
		for _, a := range []byte{0, 1, 2, 128, 255} {
			for _, b := range []byte{0, 1, 2, 128, 255} {
				unread(t, []byte{byte(kind), a, b})
				for c := range 256 {
					if ok := held(t, []byte{byte(kind), a, b, byte(c)}); ok && kind != 6 && kind != 7 {
						t.Errorf("kind %d was read", kind)
					}
				}
			}
		}
	}
}

// lengths are records with all numbers of writes, and of each other kind.
func lengths() []api.Record {
	l := plainly()
	for n := range 9 {
		w := written(0, 1, 2, 3, 4, 5, 6, 7)[:n]
		l = append(l, api.Record{Kind: api.RecLocal, Name: one, Writes: w}, api.Record{Kind: api.RecPrepare, Name: one, Writes: w, Give: 255}, api.Record{Kind: api.RecPrepare, Name: one, Writes: make([]api.Write, min(n, 1))})
	}
	return l
}

func TestReadOfEachBeginning(t *testing.T) {
	for _, r := range lengths() {
		b := plain(r)
		for n := range b {
			unread(t, b[:n])
			unread(t, bytes.Clone(b[:n]))
		}
	}
}

func TestReadOfEachEnd(t *testing.T) {
	for _, r := range lengths() {
		b := plain(r)
		for n := range b {
			held(t, b[n:])
		}
	}
}

func TestReadWithBytesBehind(t *testing.T) {
	for _, r := range lengths() {
		b := plain(r)
		for c := range 256 {
			unread(t, append(bytes.Clone(b), byte(c)))
		}
		for _, n := range []int{2, 3, 8, 9, 10, 45, 1000} {
			unread(t, append(bytes.Clone(b), make([]byte, n)...))
		}
		unread(t, append(bytes.Clone(b), b...))
		unread(t, append([]byte{0}, b...))
	}
}

func TestReadWithBytesInTheRoomBehind(t *testing.T) {
	for _, r := range lengths() {
		b := plain(r)
		// What stands in the room behind a slice is none of its bytes.
		reads(t, append(bytes.Clone(b), 7, 7, 7)[:len(b)], r)
	}
}

func TestReadOfEachByteChanged(t *testing.T) {
	for _, r := range lengths() {
		b := plain(r)
		for i := range b {
			other := bytes.Clone(b)
			for c := range 256 {
				other[i] = byte(c)
				held(t, other)
			}
		}
	}
}

func TestReadOfEachKind(t *testing.T) {
	for _, r := range lengths() {
		b := plain(r)
		for kind := range 256 {
			b[0] = byte(kind)
			if ok := held(t, b); ok && (kind == 0 || kind > 7) {
				t.Errorf("kind %d was read", kind)
			}
		}
	}
}

func TestReadOfAFlag(t *testing.T) {
	b := plain(api.Record{Kind: api.RecOutcome, Name: one})
	for c := range 256 {
		b[len(b)-1] = byte(c)
		if c < 2 {
			reads(t, b, api.Record{Kind: api.RecOutcome, Name: one, Yes: c == 1})
		} else {
			unread(t, b)
		}
	}
}

func TestReadOfWritesThatMayNotBe(t *testing.T) {
	for _, blocks := range [][]int{{32}, {255}, {0, 0}, {31, 31}, {1, 0}, {31, 0}, {3, 5, 4}, {0, 1, 2, 3, 4, 5, 6, 6}, {0, 1, 2, 3, 4, 5, 6, 32}, {0, 1, 2, 3, 4, 5, 6, 7, 8}, {0, 1, 2, 3, 4, 5, 6, 7, 8, 9}} {
		unread(t, plain(api.Record{Kind: api.RecLocal, Name: one, Writes: written(blocks...)}))
		unread(t, plain(api.Record{Kind: api.RecPrepare, Name: one, Writes: written(blocks...), Give: 1}))
	}
	many := []int{}
	for n := range 255 {
		many = append(many, n)
	}
	unread(t, plain(api.Record{Kind: api.RecLocal, Name: one, Writes: written(many...)}))
	unread(t, plain(api.Record{Kind: api.RecPrepare, Name: one, Writes: make([]api.Write, 255)}))
}

func TestReadOfAWrongCountOfWrites(t *testing.T) {
	for n := range 9 {
		for _, kind := range []int8{api.RecLocal, api.RecPrepare} {
			b := plain(api.Record{Kind: kind, Name: one, Writes: written(0, 1, 2, 3, 4, 5, 6, 7)[:n]})
			for c := range 256 {
				if c != n {
					b[10] = byte(c)
					unread(t, b)
				}
			}
		}
	}
}

func TestReadOfEachChange(t *testing.T) {
	b := plain(api.Record{Kind: api.RecCommit, Name: one, Shards: 6})
	for stripe := range 256 {
		for to := range 256 {
			b[11], b[12] = byte(stripe), byte(to)
			if stripe == 0 && to == 0 || stripe >= 1 && stripe <= 8 && to >= 1 && to <= 4 {
				reads(t, b, api.Record{Kind: api.RecCommit, Name: one, Shards: 6, Change: api.Change{Stripe: stripe - 1, To: to}})
			} else {
				unread(t, b)
			}
		}
	}
}

func TestReadOfEachGiveAndTake(t *testing.T) {
	b := plain(api.Record{Kind: api.RecPrepare, Name: one})
	for give := range 256 {
		for take := range 256 {
			b[11], b[12] = byte(give), byte(take)
			if give&take == 0 {
				reads(t, b, api.Record{Kind: api.RecPrepare, Name: one, Give: give, Take: take})
			} else {
				unread(t, b)
			}
		}
	}
}

func TestReadOfNumbersAboveTheirBounds(t *testing.T) {
	for _, n := range []int{0, 1<<20 + 1, 1<<20 + 2, 1 << 21, 1 << 23, 1<<24 - 1} {
		for _, name := range []api.Name{{Stamp: n, Inc: 1, Try: 1}, {Stamp: 1, Inc: n, Try: 1}, {Stamp: 1, Inc: 1, Try: n}} {
			for _, r := range named(name) {
				unread(t, plain(r))
			}
		}
		unread(t, plain(api.Record{Kind: api.RecInc, N: n}))
		if n != 1<<20+1 {
			unread(t, plain(api.Record{Kind: api.RecStamps, N: n}))
		}
	}
}

// TestReadOfThrownBytes holds Read against a plain reader, over bytes that look like a record's.
func TestReadOfThrownBytes(t *testing.T) {
	next := dice(7)
	l := lengths()
	read := 0
	for range 200000 {
		b := plain(l[next(len(l))])
		for range next(4) {
			b[next(len(b))] = byte(next(256) >> next(8))
		}
		switch next(4) {
		case 0:
			b = b[:next(len(b)+1)]
		case 1:
			b = append(b, byte(next(2)))
		}
		if held(t, b) {
			read++
		}
	}
	if read < 1000 {
		t.Errorf("%d were read only", read)
	}
}

func TestReadOfLongBytes(t *testing.T) {
	b := make([]byte, 1<<20)
	for kind := range 256 {
		b[0] = byte(kind)
		unread(t, b)
	}
	for i := range b {
		b[i] = 255
	}
	for kind := range 256 {
		b[0] = byte(kind)
		unread(t, b)
	}
}

// P7.2: Sectors

func TestSectorsOfEachKind(t *testing.T) {
	eight := written(0, 1, 2, 3, 4, 5, 6, 7)
	for _, x := range []struct {
		r           api.Record
		long, wants int
	}{
		{api.Record{Kind: api.RecLocal, Name: one}, 11, 1},
		{api.Record{Kind: api.RecLocal, Name: one, Writes: eight[:3]}, 38, 1},
		{api.Record{Kind: api.RecLocal, Name: one, Writes: eight[:4]}, 47, 2},
		{api.Record{Kind: api.RecLocal, Name: one, Writes: eight}, 83, 2},
		{api.Record{Kind: api.RecPrepare, Name: one}, 13, 1},
		{api.Record{Kind: api.RecPrepare, Name: one, Writes: eight[:3], Give: 255}, 40, 1},
		{api.Record{Kind: api.RecPrepare, Name: one, Writes: eight[:4], Take: 255}, 49, 2},
		{api.Record{Kind: api.RecPrepare, Name: one, Writes: eight, Give: 15, Take: 240}, 85, 2},
		{api.Record{Kind: api.RecOutcome, Name: one, Yes: true}, 11, 1},
		{api.Record{Kind: api.RecCommit, Name: one, Shards: 30, Change: api.Change{Stripe: 7, To: 4}}, 13, 1},
		{api.Record{Kind: api.RecEnd, Name: one}, 10, 1},
		{api.Record{Kind: api.RecStamps, N: 1}, 4, 1},
		{api.Record{Kind: api.RecInc, N: 1 << 20}, 4, 1},
	} {
		n, e := record.Sectors(x.r)
		b, _ := record.Bytes(x.r)
		if n != x.wants || e != api.OK || len(b) != x.long {
			t.Errorf("%+v: %d sectors, %v, %d bytes, want %d, %d", x.r, n, e, len(b), x.wants, x.long)
		}
	}
}

func TestSectorsOfARecord(t *testing.T) {
	for _, r := range append(good(), plainly()...) {
		want := 1
		if len(plain(r)) > 45 {
			want = 2
		}
		if n, e := record.Sectors(r); n != want || e != api.OK {
			t.Errorf("%+v: %d sectors, %v, want %d", r, n, e, want)
		}
	}
}

func TestSectorsOfWhatMayNotBe(t *testing.T) {
	for _, r := range bad() {
		if n, e := record.Sectors(r); n != 0 || e != api.ErrArg {
			t.Errorf("%+v: %d sectors, %v", r, n, e)
		}
	}
}

// P7.3: what follows

// thrown is a record that may be.
func thrown(next func(int) int) api.Record {
	name := api.Name{Stamp: 1 + next(1<<20), Inc: 1 + next(1<<20), Try: 1 + next(1<<20)}
	writes := []api.Write{}
	for n := next(8); n < 32 && len(writes) < 8; n += 1 + next(9) {
		w := api.Write{Block: n}
		for k := range w.Value {
			w.Value[k] = byte(next(256))
		}
		writes = append(writes, w)
	}
	switch kind := int8(1 + next(7)); kind {
	case api.RecLocal:
		return api.Record{Kind: kind, Name: name, Writes: writes}
	case api.RecPrepare:
		give := next(256)
		return api.Record{Kind: kind, Name: name, Writes: writes, Give: give, Take: next(256) &^ give}
	case api.RecOutcome:
		return api.Record{Kind: kind, Name: name, Yes: next(2) == 0}
	case api.RecCommit:
		change := api.Change{Stripe: next(9) - 1}
		if change.Stripe >= 0 {
			change.To = 1 + next(4)
		}
		return api.Record{Kind: kind, Name: name, Shards: 2 + 2*next(15), Change: change}
	case api.RecEnd:
		return api.Record{Kind: kind, Name: name}
	default:
		return api.Record{Kind: kind, N: 1 + next(1<<20)}
	}
}

func TestReadOfBytesIsTheRecord(t *testing.T) {
	l := append(good(), plainly()...)
	next := dice(11)
	for range 50000 {
		l = append(l, thrown(next))
	}
	for _, r := range l {
		b, e := record.Bytes(r)
		again, e2 := record.Read(b)
		if e != api.OK || e2 != api.OK || !record.Same(again, r) || !alike(again, r) {
			t.Errorf("%+v: % x, %v, and back %+v, %v", r, b, e, again, e2)
		}
	}
}

func TestBytesOfReadAreTheBytes(t *testing.T) {
	next := dice(13)
	read := 0
	for range 200000 {
		b := plain(thrown(next))
		b[next(len(b))] ^= byte(next(256))
		r, e := record.Read(b)
		if e != api.OK {
			continue
		}
		read++
		if again, e := record.Bytes(r); e != api.OK || !bytes.Equal(again, b) || !record.May(r) {
			t.Errorf("% x: %+v, and back % x, %v", b, r, again, e)
		}
	}
	if read < 1000 {
		t.Errorf("%d were read only", read)
	}
}

func TestNoRecordWantsMoreThanMaxParts(t *testing.T) {
	l := append(good(), plainly()...)
	next := dice(17)
	for range 20000 {
		l = append(l, thrown(next))
	}
	for _, r := range l {
		b, _ := record.Bytes(r)
		n, e := record.Sectors(r)
		if e != api.OK || n < 1 || n > api.MaxParts || n != journal.Wants(len(b)) {
			t.Errorf("%+v: %d sectors, %v", r, n, e)
		}
	}
}

func TestARecordGoesThroughFrames(t *testing.T) {
	for _, r := range lengths() {
		b, _ := record.Bytes(r)
		l, e := frame.Cut(b, 5, 1)
		n, _ := record.Sectors(r)
		if e != api.OK || len(l) != n {
			t.Errorf("%+v: %d frames, %v, want %d", r, len(l), e, n)
		}
		back, e := frame.Join(l)
		if e != api.OK {
			t.Errorf("%+v: %v", r, e)
		}
		reads(t, back, r)
	}
}

// R4: what is handed in, what is handed out

func TestWhatIsHandedInStays(t *testing.T) {
	for _, r := range append(lengths(), bad()[:400]...) {
		room := append(slices.Clone(r.Writes), written(77, 78)...)
		handed := with(r, func(*api.Record) {})
		handed.Writes = room[:len(r.Writes)]
		before := slices.Clone(room)
		record.May(handed)
		record.Written(handed.Writes)
		record.Bytes(handed)
		record.Sectors(handed)
		record.Same(handed, handed)
		if !alike(handed, r) || !slices.Equal(room, before) {
			t.Errorf("%+v became %+v, with %+v behind", r, handed, room)
		}
		b := append(plain(r), 7, 7, 7)
		handedBytes := bytes.Clone(b)
		record.Read(handedBytes[:len(b)-3])
		if !bytes.Equal(handedBytes, b) {
			t.Errorf("% x became % x", b, handedBytes)
		}
	}
}

func TestBytesIsNewMemory(t *testing.T) {
	for _, r := range lengths() {
		want := plain(r)
		handed := with(r, func(*api.Record) {})
		a, _ := record.Bytes(handed)
		b, _ := record.Bytes(handed)
		spoil(a)
		if !bytes.Equal(b, want) || !alike(handed, r) {
			t.Errorf("%+v: an answer shares memory: % x", r, b)
		}
		clear(handed.Writes)
		if !bytes.Equal(b, want) {
			t.Errorf("%+v: the bytes hang on the record: % x", r, b)
		}
	}
}

func TestReadIsNewMemory(t *testing.T) {
	for _, r := range lengths() {
		b := plain(r)
		x, _ := record.Read(b)
		y, _ := record.Read(b)
		room := x.Writes[:cap(x.Writes)]
		for i := range room {
			room[i] = api.Write{Block: 99}
		}
		if !alike(y, r) || !bytes.Equal(b, plain(r)) {
			t.Errorf("%+v: an answer shares memory: %+v, % x", r, y, b)
		}
		spoil(b)
		if !alike(y, r) {
			t.Errorf("%+v: the record hangs on the bytes: %+v", r, y)
		}
	}
}

// spoil writes over bytes, their spare room too.
func spoil(b []byte) {
	b = b[:cap(b)]
	for i := range b {
		b[i] ^= 0xFF
	}
}
