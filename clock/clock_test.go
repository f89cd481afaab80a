package clock

import (
	"fmt"
	"math"
	"math/rand"
	"slices"
	"sync"
	"testing"

	"falsework/api"
)

// end is MaxTime, by its number.
const end = 1 << 40

// plain are clocks by the words of chapter 10: all that each was ever set to and ever told, gone through from end to end for each call.
type plain struct {
	time int
	offs [][]int
	told [][]int
}

func newByWords(n int) (*plain, api.Errno) {
	for may := 1; may <= 16; may++ {
		if n == may {
			p := &plain{time: 1000, offs: make([][]int, n), told: make([][]int, n)}
			for i := range p.offs {
				p.offs[i] = []int{0}
			}
			return p, api.OK
		}
	}
	return nil, api.ErrArg
}

func (p *plain) has(i int) bool {
	for at := range p.offs {
		if at == i {
			return true
		}
	}
	return false
}

func (p *plain) tick(n int) api.Errno {
	if n < 0 || 10000 < n {
		return api.ErrArg
	}
	if later := p.time + n; later < end {
		p.time = later
		return api.OK
	}
	return api.ErrArg
}

func (p *plain) set(i, off int) api.Errno {
	if !p.has(i) {
		return api.ErrNone
	}
	if off < -100000 || 100000 < off {
		return api.ErrArg
	}
	p.offs[i] = append(p.offs[i], off)
	return api.OK
}

func (p *plain) now(i int) int {
	if !p.has(i) {
		return 0
	}
	off := p.offs[i][len(p.offs[i])-1]
	all := append([]int{1, p.time + off}, p.told[i]...)
	slices.Sort(all)
	told := all[len(all)-1]
	if told > end-1 {
		told = end - 1
	}
	p.told[i] = append(p.told[i], told)
	return told
}

func (p *plain) fair() bool {
	for _, offs := range p.offs {
		for _, off := range offs {
			if off > 10 || off < -10 {
				return false
			}
		}
	}
	return true
}

// act is a call: t Tick(n), s Set(i, n), n Now(i), r True, f Fair.
type act struct {
	kind byte
	i, n int
}

func tick(n int) act     { return act{'t', 0, n} }
func set(i, off int) act { return act{'s', i, off} }
func now(i int) act      { return act{'n', i, 0} }

func (a act) String() string {
	switch a.kind {
	case 't':
		return fmt.Sprintf("Tick(%d)", a.n)
	case 's':
		return fmt.Sprintf("Set(%d, %d)", a.i, a.n)
	case 'n':
		return fmt.Sprintf("Now(%d)", a.i)
	case 'r':
		return "True()"
	}
	return "Fair()"
}

// number tells a bool as one.
func number(b bool) int {
	if b {
		return 1
	}
	return 0
}

func (a act) on(c *Clocks) int {
	switch a.kind {
	case 't':
		return int(c.Tick(a.n))
	case 's':
		return int(c.Set(a.i, a.n))
	case 'n':
		return c.Now(a.i)
	case 'r':
		return c.True()
	}
	return number(c.Fair())
}

func (a act) byWords(p *plain) int {
	switch a.kind {
	case 't':
		return int(p.tick(a.n))
	case 's':
		return int(p.set(a.i, a.n))
	case 'n':
		return p.now(a.i)
	case 'r':
		return p.time
	}
	return number(p.fair())
}

// made makes n clocks, and does what is asked, of which nothing may be refused.
func made(t *testing.T, n int, acts ...act) *Clocks {
	t.Helper()
	c, e := New(n)
	if e != api.OK || c == nil {
		t.Fatalf("New(%d): %v, %d", n, c, e)
	}
	do(t, c, acts...)
	return c
}

// do does what is asked, of which nothing may be refused.
func do(t *testing.T, c *Clocks, acts ...act) {
	t.Helper()
	for _, a := range acts {
		if told := a.on(c); (a.kind == 't' || a.kind == 's') && told != 0 {
			t.Fatalf("%v: %d", a, told)
		}
	}
}

// lateOnes are 16 clocks at MaxTime - 20000, come there tick by tick, that were never asked.
var lateOnes = sync.OnceValue(func() Clocks {
	c, _ := New(16)
	for c.True() <= end-30000 {
		if c.Tick(10000) != api.OK {
			break
		}
	}
	c.Tick(end - 20000 - c.True())
	return *c
})

// late makes 16 clocks whose true time is so much below MaxTime, at most 20000.
func late(t *testing.T, below int) *Clocks {
	t.Helper()
	c := lateOnes()
	if c.True() != end-20000 {
		t.Fatal("10.1: ticks up to MaxTime - 20000 came to", c.True())
	}
	do(t, &c, tick((20000-below)/2), tick(20000-below-(20000-below)/2))
	if c.True() != end-below {
		t.Fatal("10.1: so much below MaxTime:", end-c.True(), "want", below)
	}
	return &c
}

// tells is all that c would tell now, and later on when nothing that was told before counts any more; c stays as it is.
func tells(c *Clocks) []int {
	twin := *c
	all := []int{twin.True(), number(twin.Fair())}
	for range 22 {
		for i := -1; i < 18; i++ {
			all = append(all, twin.Now(i))
		}
		twin.Tick(10000)
	}
	return append(all, twin.True(), number(twin.Fair()))
}

// unchanged asks that a call tells what it should, and that nothing of c is other than it was.
func unchanged(t *testing.T, c *Clocks, a act, want int) {
	t.Helper()
	held, were := *c, tells(c)
	if told := a.on(c); told != want {
		t.Errorf("%v: %d, want %d", a, told, want)
	}
	if !slices.Equal(tells(c), were) || *c != held {
		t.Errorf("%v has changed something", a)
	}
}

// ends are numbers that are wrong nearly everywhere, those too that are right when their high bits go.
func ends() []int {
	return []int{
		math.MinInt, math.MinInt + 1, math.MinInt + 5, -1 << 40, -1<<32 + 1, -1 << 32, -1 << 31,
		1 << 31, 1 << 32, 1<<32 + 1, 1 << 40, 1<<62 + 1, math.MaxInt - 1, math.MaxInt,
	}
}

// 10.1

func TestNew(t *testing.T) {
	for n := -40; n <= 60; n++ {
		want := api.ErrArg
		if n == 1 || n == 16 || n > 1 && n < 16 {
			want = api.OK
		}
		if c, e := New(n); e != want || (c != nil) != (want == api.OK) {
			t.Errorf("New(%d): %v, %d, want %d", n, c, e, want)
		}
	}
	for _, n := range ends() {
		if c, e := New(n); e != api.ErrArg || c != nil {
			t.Errorf("New(%d): %v, %d", n, c, e)
		}
	}
}

func TestNewClocks(t *testing.T) {
	for n := 1; n <= 16; n++ {
		c := made(t, n)
		if c.True() != 1000 || !c.Fair() {
			t.Errorf("New(%d): the true time %d, fair: %t", n, c.True(), c.Fair())
		}
		for i := -20; i < 40; i++ {
			want := 0
			if i >= 0 && i < n {
				want = 1000
			}
			if told := c.Now(i); told != want {
				t.Errorf("New(%d): Now(%d) = %d, want %d", n, i, told, want)
			}
		}
	}
}

func TestTick(t *testing.T) {
	for _, n := range []int{0, 1, 2, 999, 5000, 9999, 10000} {
		c := made(t, 3, set(1, 7))
		for times := 1; times <= 5; times++ {
			if e := c.Tick(n); e != api.OK || c.True() != 1000+times*n {
				t.Errorf("Tick(%d), %d times: %d, %d", n, times, e, c.True())
			}
			if c.Now(0) != 1000+times*n || c.Now(1) != 1007+times*n {
				t.Errorf("Tick(%d), %d times: clocks tell %d, %d", n, times, c.Now(0), c.Now(1))
			}
		}
	}
}

func TestTickOfWrongNumbers(t *testing.T) {
	for _, n := range append(ends(), -100000, -10001, -10000, -1001, -1000, -999, -2, -1, 10001, 10002, 20000, 1<<20, end-1001, end-1000, end-999) {
		unchanged(t, made(t, 16), tick(n), int(api.ErrArg))
		unchanged(t, made(t, 4, tick(50), now(0), set(1, -20), now(1), set(2, 30), now(2), set(2, 0)), tick(n), int(api.ErrArg))
		unchanged(t, late(t, 1), tick(n), int(api.ErrArg))
	}
}

func TestTickToTheEnd(t *testing.T) {
	for below := 1; below <= 10003; below++ {
		c := late(t, below)
		if below <= 10000 {
			if e := c.Tick(below); e != api.ErrArg || c.True() != end-below {
				t.Fatalf("%d below MaxTime, Tick of as much: %d, and it is at MaxTime - %d", below, e, end-c.True())
			}
		}
		if below < 10000 {
			if e := c.Tick(below + 1); e != api.ErrArg || c.True() != end-below {
				t.Fatalf("%d below MaxTime, Tick of one more: %d, and it is at MaxTime - %d", below, e, end-c.True())
			}
		}
		least := min(below-1, 10000)
		if e := c.Tick(least); e != api.OK || c.True() != end-below+least {
			t.Fatalf("%d below MaxTime, Tick(%d): %d, and it is at MaxTime - %d", below, least, e, end-c.True())
		}
	}
}

func TestTickAtTheEnd(t *testing.T) {
	c := late(t, 1)
	for _, n := range []int{1, 2, 9999, 10000} {
		unchanged(t, c, tick(n), int(api.ErrArg))
	}
	unchanged(t, c, tick(0), 0)
	c = late(t, 10000)
	do(t, c, set(0, 5), now(0), set(1, -5), now(1), set(2, 50), now(2))
	unchanged(t, c, tick(10000), int(api.ErrArg))
	do(t, c, tick(9999))
	unchanged(t, c, tick(1), int(api.ErrArg))
	unchanged(t, c, tick(0), 0)
	if c.True() != end-1 || c.Now(1) != end-6 {
		t.Error("10.1: at the end:", c.True(), c.Now(1))
	}
}

func TestSet(t *testing.T) {
	for _, off := range []int{-100000, -99999, -1001, -1000, -999, -998, -11, -10, -1, 0, 1, 10, 11, 999, 99999, 100000} {
		for n := 1; n <= 16; n++ {
			for i := range n {
				c := made(t, n, set(i, off))
				if c.True() != 1000 {
					t.Fatalf("Set(%d, %d): the true time %d", i, off, c.True())
				}
				for at := range n {
					want := 1000
					if at == i {
						want = max(1, 1000+off)
					}
					if told := c.Now(at); told != want {
						t.Fatalf("Set(%d, %d) of %d: Now(%d) = %d, want %d", i, off, n, at, told, want)
					}
				}
			}
		}
	}
}

func TestSetIsNotSummed(t *testing.T) {
	c := made(t, 1, set(0, 3), set(0, 4), set(0, 4))
	if told := c.Now(0); told != 1004 {
		t.Error("Set of 4 behind Set of 3:", told)
	}
	do(t, c, set(0, 100000), set(0, 100000), set(0, 6))
	if told := c.Now(0); told != 1006 {
		t.Error("what was set, and never told, counts:", told)
	}
}

func TestSetOfWrongPlaces(t *testing.T) {
	for n := 1; n <= 16; n++ {
		c := made(t, n, set(0, 4), now(0))
		for _, i := range append(ends(), -17, -16, -n-1, -n, -2, -1, n, n+1, 16, 17, 2*n, 32, 100) {
			for _, off := range append(ends(), -100001, -100000, -11, 0, 11, 100000, 100001) {
				held := *c
				if e := c.Set(i, off); e != api.ErrNone || *c != held {
					t.Fatalf("Set(%d, %d) of %d clocks: %d", i, off, n, e)
				}
			}
			unchanged(t, c, set(i, 11), int(api.ErrNone))
		}
		if !c.Fair() {
			t.Error("10.2: a Set of no clock has turned Fair")
		}
	}
}

func TestSetOfWrongOffs(t *testing.T) {
	for _, off := range append(ends(), -200000, -100002, -100001, 100001, 100002, 200000) {
		for n := 1; n <= 16; n++ {
			for i := range n {
				c := made(t, n, set(i, -9))
				unchanged(t, c, set(i, off), int(api.ErrArg))
				if !c.Fair() || c.Now(i) != 991 {
					t.Fatalf("Set(%d, %d), which is refused: fair: %t, Now %d", i, off, c.Fair(), c.Now(i))
				}
				unchanged(t, c, set(i, off), int(api.ErrArg))
			}
		}
	}
}

func TestExample(t *testing.T) {
	c := made(t, 1, set(0, -5))
	if told := c.Now(0); told != 995 {
		t.Error("Set(0, -5): Now(0) =", told)
	}
	do(t, c, set(0, -9))
	for c.True() <= 1004 {
		if told := c.Now(0); told != 995 {
			t.Error("Set(0, -9), at", c.True(), "Now(0) =", told)
		}
		do(t, c, tick(1))
	}
	for c.True() < 1050 {
		if told, want := c.Now(0), c.True()-9; told != want {
			t.Error("Set(0, -9), at", c.True(), "Now(0) =", told, "want", want)
		}
		do(t, c, tick(1))
	}
}

func TestNowOfNoClock(t *testing.T) {
	for n := 1; n <= 16; n++ {
		for _, c := range []*Clocks{made(t, n), made(t, n, set(0, 30), now(0), set(0, -40), tick(7))} {
			for _, i := range append(ends(), -17, -16, -n-1, -n, -2, -1, n, n+1, 16, 17, 2*n, 32) {
				unchanged(t, c, now(i), 0)
			}
		}
	}
}

func TestNowOfOneThatComesBack(t *testing.T) {
	c := made(t, 3, set(1, 50))
	for _, x := range []struct {
		a    act
		want int
	}{
		{now(1), 1050}, {set(1, 0), 0}, {now(1), 1050}, {tick(49), 0}, {now(1), 1050}, {tick(1), 0}, {now(1), 1050}, {tick(1), 0}, {now(1), 1051},
		{set(1, -100), 0}, {now(1), 1051}, {tick(100), 0}, {now(1), 1051}, {tick(1), 0}, {now(1), 1052}, {set(1, 0), 0}, {now(1), 1152}, {now(1), 1152},
		{now(0), 1152}, {now(2), 1152},
	} {
		if told := x.a.on(c); told != x.want {
			t.Errorf("%v: %d, want %d", x.a, told, x.want)
		}
	}
}

func TestWhatIsNotToldDoesNotCount(t *testing.T) {
	c := made(t, 2, set(0, 500), set(1, 500), now(1), set(0, -10), set(1, -10))
	if c.Now(0) != 990 || c.Now(1) != 1500 {
		t.Error("10.1: one that was not asked:", c.Now(0), "one that was:", c.Now(1))
	}
	do(t, c, tick(600), set(0, -700), set(1, -700))
	if c.Now(0) != 990 || c.Now(1) != 1500 {
		t.Error("10.1: neither was asked at 1600:", c.Now(0), c.Now(1))
	}
}

func TestNowIsAtLeastOne(t *testing.T) {
	for _, off := range []int{-100000, -50000, -1001, -1000, -999, -998, -997} {
		c := made(t, 2, set(1, off))
		for range 1200 {
			want := max(1, c.True()+off)
			if told := c.Now(1); told != want {
				t.Fatalf("off by %d at %d: %d, want %d", off, c.True(), told, want)
			}
			do(t, c, tick(1))
		}
	}
	c := made(t, 1, set(0, -100000), now(0))
	for range 9 {
		do(t, c, tick(10000))
	}
	do(t, c, tick(9000))
	for _, want := range []int{1, 1, 2, 3} {
		if told := c.Now(0); told != want {
			t.Error("off by -100000 at", c.True(), "Now is", told, "want", want)
		}
		do(t, c, tick(1))
	}
}

func TestNowIsBelowMaxTime(t *testing.T) {
	for _, x := range []struct{ below, off, want int }{
		{1, 0, end - 1}, {1, 1, end - 1}, {1, -1, end - 2}, {1, 100000, end - 1}, {1, -100000, end - 100001},
		{2, 0, end - 2}, {2, 1, end - 1}, {2, 2, end - 1}, {2, 3, end - 1}, {2, -1, end - 3},
		{10, 8, end - 2}, {10, 9, end - 1}, {10, 10, end - 1}, {10, 11, end - 1}, {20000, 19998, end - 2}, {20000, 19999, end - 1}, {20000, 20000, end - 1}, {20000, 100000, end - 1},
	} {
		c := late(t, x.below)
		do(t, c, set(15, x.off))
		if told := c.Now(15); told != x.want {
			t.Errorf("MaxTime - %d, off by %d: MaxTime - %d, want MaxTime - %d", x.below, x.off, end-told, end-x.want)
		}
		if told := c.Now(14); told != end-x.below {
			t.Errorf("MaxTime - %d: another clock tells MaxTime - %d", x.below, end-told)
		}
		do(t, c, set(15, -100000))
		if told := c.Now(15); told != x.want {
			t.Errorf("MaxTime - %d, off by %d, then by -100000: MaxTime - %d, want MaxTime - %d", x.below, x.off, end-told, end-x.want)
		}
	}
}

func TestNowTouchesOneClock(t *testing.T) {
	for n := 1; n <= 16; n++ {
		for asked := range n {
			c := made(t, n)
			for i := range n {
				do(t, c, set(i, 20+i))
			}
			if told := c.Now(asked); told != 1020+asked {
				t.Errorf("Now(%d) of %d: %d", asked, n, told)
			}
			for i := range n {
				do(t, c, set(i, 0))
			}
			for i := range n {
				want := 1000
				if i == asked {
					want = 1020 + i
				}
				if told := c.Now(i); told != want {
					t.Errorf("Now(%d), Now(%d) of %d: %d, want %d", asked, i, n, told, want)
				}
			}
			if c.True() != 1000 {
				t.Error("Now has turned the true time:", c.True())
			}
		}
	}
}

// 10.2

func TestTrue(t *testing.T) {
	c := made(t, 2)
	for _, x := range []struct {
		a    act
		want int
	}{
		{tick(0), 1000}, {tick(1), 1001}, {tick(10001), 1001}, {tick(-1), 1001}, {tick(10000), 11001}, {set(0, 100000), 11001}, {now(0), 11001},
		{set(1, -100000), 11001}, {now(1), 11001}, {set(2, 5), 11001}, {set(0, 100001), 11001}, {now(2), 11001}, {act{'f', 0, 0}, 11001}, {tick(math.MaxInt), 11001}, {tick(9), 11010},
	} {
		x.a.on(c)
		for range 2 {
			if at := c.True(); at != x.want {
				t.Errorf("behind %v: True %d, want %d", x.a, at, x.want)
			}
		}
	}
}

func TestFair(t *testing.T) {
	for off := -300; off <= 300; off++ {
		want := off == 10 || off == -10 || off > -10 && off < 10
		for i := range 16 {
			c := made(t, 16, set(i, off))
			if c.Fair() != want || c.Fair() != want {
				t.Fatalf("clock %d is off by %d: %t", i, off, c.Fair())
			}
		}
	}
	for _, off := range []int{-100000, -99999, -1 << 16, 1 << 16, 99999, 100000} {
		if made(t, 1, set(0, off)).Fair() {
			t.Error("fair, off by", off)
		}
	}
}

func TestOnceUnfairIsForEver(t *testing.T) {
	for _, off := range []int{-100000, -12, -11, 11, 12, 100000} {
		for _, asked := range [][]act{nil, {now(0)}, {now(1)}, {tick(5)}, {tick(5), now(1), now(0)}} {
			for _, back := range []int{0, 10, -10, 1} {
				c := made(t, 2, set(1, off))
				do(t, c, asked...)
				do(t, c, set(1, back), set(0, back))
				if c.Fair() {
					t.Errorf("%d, %v, back to %d: fair", off, asked, back)
				}
				do(t, c, tick(10000), now(0), now(1), tick(10000), set(0, 0), set(1, 0))
				if c.Fair() {
					t.Errorf("%d, %v, back to %d, long ago: fair", off, asked, back)
				}
			}
		}
	}
}

func TestFairThoughClocksAreApart(t *testing.T) {
	c := made(t, 2, set(0, 10), set(1, -10), set(0, -10), set(1, 10), set(0, 10))
	if !c.Fair() {
		t.Error("10.2: offs from -10 to 10 were not fair")
	}
	do(t, c, now(0), set(0, -10), tick(3))
	if !c.Fair() {
		t.Error("10.2: one that stays, since it told a later time, was not fair")
	}
}

func TestNil(t *testing.T) {
	var c *Clocks
	for _, n := range append(ends(), -100001, -1, 0, 1, 10000, 10001, 100001) {
		if e := c.Tick(n); e != api.ErrNone {
			t.Errorf("Tick(%d) of nil: %d", n, e)
		}
		for _, i := range append(ends(), -1, 0, 1, 16) {
			if e := c.Set(i, n); e != api.ErrNone {
				t.Errorf("Set(%d, %d) of nil: %d", i, n, e)
			}
			if at := c.Now(i); at != 0 {
				t.Errorf("Now(%d) of nil: %d", i, at)
			}
		}
	}
	if c.True() != 0 || c.Fair() {
		t.Error("True, Fair of nil:", c.True(), c.Fair())
	}
}

// No panic, whatever a caller made without New: there are no clocks.
func TestClocksOfNoNew(t *testing.T) {
	c := &Clocks{}
	for _, i := range append(ends(), -1, 0, 1, 15, 16) {
		if c.Set(i, 0) != api.ErrNone || c.Now(i) != 0 {
			t.Error("clocks without New have a clock", i)
		}
		c.Tick(i)
	}
}

// 10.3

// kindOfRun says of what numbers a run is drawn.
type kindOfRun struct {
	name  string
	offs  []int
	ticks []int
	begin func() (*Clocks, *plain)
}

func drawnClocks(n int) func() (*Clocks, *plain) {
	return func() (*Clocks, *plain) {
		c, _ := New(n)
		p, _ := newByWords(n)
		return c, p
	}
}

func drawnLate() (*Clocks, *plain) {
	c := lateOnes()
	p, _ := newByWords(16)
	p.time = end - 20000
	return &c, p
}

func kindsOfRuns() []kindOfRun {
	fair := []int{-10, -9, -5, -1, 0, 1, 5, 9, 10}
	near := []int{-12, -11, -10, -3, 0, 3, 10, 11, 12}
	all := []int{math.MinInt, -100001, -100000, -2000, -1000, -11, 0, 10, 11, 3000, 100000, 100001, math.MaxInt}
	small, great := []int{0, 0, 1, 1, 2, 3, 7}, []int{-1, 0, 1, 500, 9999, 10000, 10001, math.MaxInt}
	return []kindOfRun{
		{"one, fair", fair, small, drawnClocks(1)},
		{"three, fair", fair, small, drawnClocks(3)},
		{"sixteen, fair, with wrong offs", append([]int{-100001, 100001, math.MinInt, math.MaxInt}, fair...), great, drawnClocks(16)},
		{"two, near", near, small, drawnClocks(2)},
		{"five, all", all, great, drawnClocks(5)},
		{"five, all, small ticks", all, small, drawnClocks(5)},
		{"late, fair", fair, []int{0, 1, 30, 10000}, drawnLate},
		{"late, all", all, great, drawnLate},
	}
}

func (k kindOfRun) draw(r *rand.Rand) act {
	i := r.Intn(4) - 1
	if r.Intn(3) == 0 {
		i = r.Intn(18) - 1
	}
	switch kind := "ttssnnnnrf"[r.Intn(10)]; kind {
	case 't':
		return tick(k.ticks[r.Intn(len(k.ticks))])
	case 's':
		return set(i, k.offs[r.Intn(len(k.offs))])
	default:
		return act{kind, i, 0}
	}
}

// run draws a run, and holds each answer against the words, and what follows from them; it tells all answers.
func (k kindOfRun) run(t *testing.T, seed int64, long int) []int {
	t.Helper()
	r := rand.New(rand.NewSource(seed))
	c, p := k.begin()
	last := map[int]int{}
	var answers []int
	for at := range long {
		a := k.draw(r)
		told, want := a.on(c), a.byWords(p)
		if told != want {
			t.Fatalf("%s, seed %d, act %d, %v: %d, want %d", k.name, seed, at, a, told, want)
		}
		answers = append(answers, told)
		if a.kind != 'n' || !p.has(a.i) {
			continue
		}
		if told < last[a.i] || told < 1 || told >= end {
			t.Fatalf("%s, seed %d, act %d, %v: %d behind %d", k.name, seed, at, a, told, last[a.i])
		}
		last[a.i] = told
		if c.Fair() && (told-c.True() > 10 || c.True()-told > 10) {
			t.Fatalf("%s, seed %d, act %d, %v: fair, %d where %d is true", k.name, seed, at, a, told, c.True())
		}
	}
	return answers
}

func TestDrawnRuns(t *testing.T) {
	for _, k := range kindsOfRuns() {
		for seed := range int64(60) {
			k.run(t, seed, 500)
		}
	}
}

func TestSameCallsTellTheSame(t *testing.T) {
	for _, k := range kindsOfRuns() {
		if !slices.Equal(k.run(t, 77, 300), k.run(t, 77, 300)) {
			t.Error(k.name, "told something else the second time")
		}
	}
}

func TestAllShortRuns(t *testing.T) {
	acts := []act{tick(1), tick(20), tick(10001), set(0, -5), set(0, 12), set(0, 100001), set(1, 10), set(2, 11), now(0), now(1), now(2)}
	last := []act{now(0), now(1), {'r', 0, 0}, {'f', 0, 0}, tick(25), now(0), now(1)}
	runs := 1
	for range 4 {
		runs *= len(acts)
	}
	for number := range runs {
		c, p := drawnClocks(2)()
		var did []act
		for rest, step := number, 0; step < 4; rest, step = rest/len(acts), step+1 {
			did = append(did, acts[rest%len(acts)])
		}
		did = append(did, last...)
		for at, a := range did {
			if told, want := a.on(c), a.byWords(p); told != want {
				t.Fatalf("%v: %d, want %d", did[:at+1], told, want)
			}
		}
	}
}

// Pairs of Set and Now at all offs that are fair, and all times between them: 10.3 to its edge.
func TestFairClocksAreNear(t *testing.T) {
	for first := -10; first <= 10; first++ {
		for second := -10; second <= 10; second++ {
			for wait := range 25 {
				c := made(t, 1, set(0, first))
				early := c.Now(0)
				do(t, c, set(0, second), tick(wait))
				told := c.Now(0)
				if told < early || told-c.True() > 10 || c.True()-told > 10 || !c.Fair() {
					t.Fatalf("off by %d, then %d, %d later: %d, then %d at %d", first, second, wait, early, told, c.True())
				}
			}
		}
	}
}

// R5

func TestClocksAreApart(t *testing.T) {
	a, b := made(t, 2), made(t, 2)
	were := tells(b)
	do(t, a, set(0, 500), now(0), set(1, -500), now(1), tick(10000), now(0))
	if !slices.Equal(tells(b), were) || b.True() != 1000 || !b.Fair() || b.Now(0) != 1000 || b.Now(1) != 1000 {
		t.Error("what is done to some clocks, others see")
	}
	do(t, b, set(0, 7), now(0))
	if a.True() != 11000 || a.Fair() || a.Now(0) != 11500 || a.Now(1) != 10500 {
		t.Error("clocks tell something else, since others were made:", a.True(), a.Fair(), a.Now(0), a.Now(1))
	}
}

// The way of chapter 10: clocks are held by value, so that a copy of all of them has nothing in common with them.
func TestClocksAreHeldByValue(t *testing.T) {
	c := made(t, 16, set(3, 9), now(3))
	held := *c
	do(t, c, set(3, 400), now(3), tick(1), set(15, -4), now(15))
	if held.True() != 1000 || !held.Fair() || held.Now(3) != 1009 || held.Now(15) != 1000 {
		t.Error("a copy sees what was done to the clocks")
	}
}
