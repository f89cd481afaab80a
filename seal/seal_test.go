package seal

import (
	"encoding/binary"
	"hash/crc32"
	"math/rand"
	"slices"
	"strings"
	"testing"

	"falsework/api"
)

// edges are the bytes of which short texts are made here.
const edges = "\x00\x01\x7f\x80\xff"

// allTexts are all texts of those bytes, as long as most at the most.
func allTexts(most int) []string {
	all := []string{""}
	for from := 0; most > 0; most-- {
		to := len(all)
		for _, s := range all[from:to] {
			for i := range len(edges) {
				all = append(all, s+edges[i:i+1])
			}
		}
		from = to
	}
	return all
}

func someBytes(r *rand.Rand, n int) string {
	b := make([]byte, n)
	for i := range b {
		b[i] = byte(r.Intn(256))
		if r.Intn(3) == 0 {
			b[i] = edges[r.Intn(len(edges))]
		}
	}
	return string(b)
}

// texts are short ones all, of one byte all, long ones of a byte again and again, and ordinary ones.
func texts() []string {
	all := allTexts(4)
	for b := range 256 {
		all = append(all, string([]byte{byte(b)}))
	}
	for _, n := range []int{5, 7, 8, 9, 15, 16, 17, 31, 32, 33, 63, 64, 255, 256, 1000} {
		for i := range len(edges) {
			all = append(all, strings.Repeat(edges[i:i+1], n))
		}
	}
	r := rand.New(rand.NewSource(1))
	for n := range 100 {
		all = append(all, someBytes(r, n), someBytes(r, r.Intn(2000)))
	}
	return append(all, "a", "b", "ab", "ba", "123456789", "987654321", "a sum over a text", "\xc3\xa4\xe2\x82\xac\xf0\x9f\x98\x80", "\xef\xbf\xbd", "\xff\xfe\xc3")
}

// divided is the sum by a long division of the text's bits, the lowest of each byte first, the highest power ahead.
func divided(s string) uint32 {
	const powers = "100011110110111000110111101000001" // of the divisor, from 32 down to 0
	var left []byte
	for i := range len(s) {
		for bit := range 8 {
			left = append(left, s[i]>>bit&1)
		}
	}
	left = append(left, make([]byte, 32)...)
	// The bits that a sum begins with turn the first 32 of the text.
	for i := range 32 {
		left[i] ^= 1
	}
	for i := range len(left) - 32 {
		if left[i] == 0 {
			continue
		}
		for k := range powers {
			left[i+k] ^= powers[k] - '0'
		}
	}
	var sum uint32
	for i, bit := range left[len(left)-32:] {
		sum |= uint32(1-bit) << i
	}
	return sum
}

// highFirst is a sum as bytes, written another way.
func highFirst(n uint32) string {
	return string(binary.BigEndian.AppendUint32(nil, n))
}

func reads(t *testing.T, s, want string) {
	t.Helper()
	if got, e := Get(s); got != want || e != api.OK {
		t.Errorf("5.2: Get(%x): %x %d, not %x", s, got, e, want)
	}
}

func refuses(t *testing.T, promise, s string) {
	t.Helper()
	if got, e := Get(s); got != "" || e != api.ErrForm {
		t.Errorf("%s: Get(%x): %x %d", promise, s, got, e)
	}
}

// 5.1

// known are texts with their sums.
func known() []struct {
	s   string
	sum uint32
} {
	up, down := make([]byte, 32), make([]byte, 32)
	for i := range 32 {
		up[i], down[31-i] = byte(i), byte(i)
	}
	return []struct {
		s   string
		sum uint32
	}{
		{"", 0}, {"123456789", 0xe3069283}, {"a", 0xc1d04330}, {"\x00", 0x527d5351}, {"\xff", 0xff000000}, {"\xff\xff\xff\xff", 0xffffffff},
		// Where no bit is set, noughts turn none: of these texts the sum does not tell how many there are.
		{"\xff\xff\xff\xff\x00", 0xffffffff}, {"\xff\xff\xff\xff\x00\x00\x00", 0xffffffff},
		{strings.Repeat("\x00", 32), 0x8a9136aa}, {strings.Repeat("\xff", 32), 0x62a8ab43}, {string(up), 0x46dd794e}, {string(down), 0x113fdb5c},
	}
}

func TestSumExamples(t *testing.T) {
	for _, c := range known() {
		if got := Sum(c.s); got != c.sum {
			t.Errorf("5.1: Sum(%x): %08x, not %08x", c.s, got, c.sum)
		}
	}
}

func TestSumIsThatOfALongDivision(t *testing.T) {
	for _, s := range texts() {
		if got, want := Sum(s), divided(s); got != want {
			t.Errorf("5.1: Sum(%x): %08x, not %08x", s, got, want)
		}
	}
}

func TestSumIsThatOfTheLibrary(t *testing.T) {
	table := crc32.MakeTable(crc32.Castagnoli)
	r := rand.New(rand.NewSource(2))
	all := append(texts(), strings.Repeat("\x00", 1<<20), strings.Repeat("\xff", 1<<20), someBytes(r, 1<<20+3))
	for range 2000 {
		all = append(all, someBytes(r, r.Intn(300)))
	}
	for _, s := range all {
		if got, want := Sum(s), crc32.Checksum([]byte(s), table); got != want {
			t.Errorf("5.1: Sum of %d bytes: %08x, not %08x", len(s), got, want)
		}
	}
}

func TestSumOfAllTextsOfTwoBytes(t *testing.T) {
	seen := make(map[uint32]string)
	for i := range 1 << 16 {
		s := string([]byte{byte(i >> 8), byte(i)})
		sum := Sum(s)
		if want := divided(s); sum != want {
			t.Fatalf("5.1: Sum(%x): %08x, not %08x", s, sum, want)
		}
		// Texts of 4 bytes and fewer have their own sum each among those of one length.
		if other, ok := seen[sum]; ok {
			t.Fatalf("5.1: %x and %x have one sum", s, other)
		}
		seen[sum] = s
	}
}

// 5.2

func TestPutExamples(t *testing.T) {
	for _, c := range []struct{ s, want string }{
		{"", "\x00\x00\x00\x00"}, {"123456789", "123456789\xe3\x06\x92\x83"}, {"a", "a\xc1\xd0\x43\x30"}, {"\x00", "\x00\x52\x7d\x53\x51"},
		{"\xff", "\xff\xff\x00\x00\x00"}, {"\xff\xff\xff\xff", "\xff\xff\xff\xff\xff\xff\xff\xff"},
	} {
		if got := Put(c.s); got != c.want {
			t.Errorf("5.2: Put(%x): %x, not %x", c.s, got, c.want)
		}
		reads(t, c.want, c.s)
	}
}

func TestPutIsTheTextAndItsSum(t *testing.T) {
	for _, s := range texts() {
		got := Put(s)
		if len(got) != len(s)+4 || got != s+highFirst(divided(s)) {
			t.Errorf("5.2: Put(%x): %x", s, got)
		}
	}
}

func TestGetOfPutIsTheText(t *testing.T) {
	for _, s := range texts() {
		reads(t, Put(s), s)
		reads(t, s+highFirst(divided(s)), s)
		// A text with its sum is a text too.
		reads(t, Put(Put(s)), Put(s))
	}
	s := strings.Repeat("\x00\xffab", 1<<18)
	if got, e := Get(Put(s)); got != s || e != api.OK {
		t.Errorf("5.2: Get of a long text: %d bytes, error %d", len(got), e)
	}
}

func TestGetOfFewBytes(t *testing.T) {
	for _, s := range allTexts(3) {
		refuses(t, "5.2", s)
	}
	refuses(t, "5.2", "\xe3\x06\x92")
	for i := range 256 {
		refuses(t, "5.2", string([]byte{byte(i)}))
	}
}

func TestGetOfJustASum(t *testing.T) {
	reads(t, "\x00\x00\x00\x00", "")
	for _, s := range allTexts(4) {
		if len(s) == 4 && s != "\x00\x00\x00\x00" {
			refuses(t, "5.2", s)
		}
	}
	// 4 bytes are the sum of a text, not a text with a sum.
	for _, s := range texts() {
		if s != "" {
			refuses(t, "5.2", highFirst(divided(s)))
		}
	}
	for i := range 32 {
		refuses(t, "5.2", highFirst(1<<i))
	}
}

func TestGetOfAnotherTextsSum(t *testing.T) {
	all := append(allTexts(2), "a", "b", "ab", "ba", "123456789", "987654321", strings.Repeat("\x00", 32), strings.Repeat("\xff", 32), strings.Repeat("\x00", 33))
	for _, a := range all {
		for _, b := range all {
			if a == b {
				reads(t, a+highFirst(divided(b)), a)
			} else {
				refuses(t, "5.2", a+highFirst(divided(b)))
			}
		}
	}
}

// orders are all orders of the 4 bytes of a sum.
func orders(sum string) []string {
	var all []string
	for i := range 4 {
		for k := range 4 {
			for m := range 4 {
				if i != k && i != m && k != m {
					last := 6 - i - k - m
					all = append(all, string([]byte{sum[i], sum[k], sum[m], sum[last]}))
				}
			}
		}
	}
	return all
}

func TestGetOfASumInAnotherOrder(t *testing.T) {
	for _, s := range texts() {
		sum := highFirst(divided(s))
		for _, other := range orders(sum) {
			if other != sum {
				refuses(t, "5.2", s+other)
			}
		}
	}
	refuses(t, "5.2", "123456789\x83\x92\x06\xe3")
	refuses(t, "5.2", "a\x30\x43\xd0\xc1")
}

func TestGetOfASumThatIsElsewhere(t *testing.T) {
	for _, s := range []string{"a", "ab", "123456789", "\x00", "\x00\x00", "\xff\xfe"} {
		sum := highFirst(divided(s))
		refuses(t, "5.2", sum+s)
		refuses(t, "5.2", s+sum+"\x00")
		refuses(t, "5.2", s+sum+sum)
		refuses(t, "5.2", "\x00"+s+sum)
		refuses(t, "5.2", s+highFirst(^divided(s)))
		for n := range len(s + sum) {
			refuses(t, "5.2", (s + sum)[:n])
		}
	}
}

func TestGetTellsJustWhatPutWrites(t *testing.T) {
	r := rand.New(rand.NewSource(3))
	for range 5000 {
		s := someBytes(r, r.Intn(40))
		text, e := Get(s)
		if whole := len(s) >= 4 && s == s[:len(s)-4]+highFirst(divided(s[:len(s)-4])); whole != (e == api.OK) {
			t.Errorf("5.2: Get(%x): %x %d", s, text, e)
		}
		if e != api.OK {
			refuses(t, "5.2", s)
		}
	}
}

// 5.3

// turned are texts of which each byte is to be turned by every value.
func turned() []string {
	r := rand.New(rand.NewSource(4))
	all := []string{"", "a", "123456789", "\xc3\xa4\xff"}
	for i := range len(edges) {
		all = append(all, edges[i:i+1])
		for _, n := range []int{2, 3, 4, 5, 8, 32, 60} {
			all = append(all, strings.Repeat(edges[i:i+1], n))
		}
	}
	for n := range 24 {
		all = append(all, someBytes(r, n))
	}
	return append(all, someBytes(r, 64), someBytes(r, 100), someBytes(r, 200))
}

func TestEachByteThatIsTurnedIsRefused(t *testing.T) {
	for _, s := range turned() {
		whole := Put(s)
		b := []byte(whole)
		for i := range b {
			for by := 1; by < 256; by++ {
				b[i] = whole[i] ^ byte(by)
				refuses(t, "5.3", string(b))
			}
			b[i] = whole[i]
		}
		reads(t, string(b), s)
	}
}

func TestBytesOfALongTextThatAreTurned(t *testing.T) {
	r := rand.New(rand.NewSource(5))
	const long = 1 << 14
	for _, s := range []string{strings.Repeat("\x00", long), strings.Repeat("\xff", long), someBytes(r, long)} {
		whole := Put(s)
		places := append([]int{0, 1, long - 1, long, long + 1, long + 2, long + 3}, r.Perm(long)[:60]...)
		for _, i := range places {
			b := []byte(whole)
			b[i] ^= byte(1 + r.Intn(255))
			if got, e := Get(string(b)); got != "" || e != api.ErrForm {
				t.Errorf("5.3: a byte at %d turned: %d bytes, error %d", i, len(got), e)
			}
		}
	}
}

// The rules of all calls

func TestWhatIsToldStandsAlone(t *testing.T) {
	given := []byte(Put("123456789"))
	text, _ := Get(string(given))
	whole := Put(text)
	clear(given)
	if text != "123456789" || whole != "123456789\xe3\x06\x92\x83" {
		t.Errorf("R3: %x %x", text, whole)
	}
}

func TestTheSameCallsTellTheSame(t *testing.T) {
	all := texts()
	var first []string
	for _, s := range all {
		first = append(first, Put(s))
	}
	for i, s := range slices.Backward(all) {
		refuses(t, "R5", s+highFirst(^divided(s)))
		reads(t, first[i], s)
		if again := Put(s); again != first[i] {
			t.Errorf("R5: Put(%x): %x, and %x", s, first[i], again)
		}
	}
}
