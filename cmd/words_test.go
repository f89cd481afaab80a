package cmd

import (
	"encoding/binary"
	"hash/crc32"
	"math"
	"reflect"
	"slices"
	"testing"

	"falsework/api"
)

// A plain reckoning by the document's words, against which the program is held: what may be by maps and sorted copies, bytes by going through the fields of api's types, the sum by the library's.

func sealed(s string) string {
	return string(binary.BigEndian.AppendUint32([]byte(s), crc32.Checksum([]byte(s), crc32.MakeTable(crc32.Castagnoli))))
}

// What a number of a text stands for.
const (
	plainNumber = iota
	textLength
	listLength
	boolNumber
)

// field is a number of a text: where it stands, what it is for.
type field struct{ at, what int }

type writer struct {
	b      []byte
	fields []field
}

func (w *writer) number(n uint64, what int) {
	w.fields = append(w.fields, field{len(w.b), what})
	w.b = binary.BigEndian.AppendUint64(w.b, n)
}

func (w *writer) walk(v reflect.Value) {
	switch v.Kind() {
	case reflect.Int, reflect.Int64:
		w.number(uint64(v.Int()), plainNumber)
	case reflect.Uint64:
		w.number(v.Uint(), plainNumber)
	case reflect.Bool:
		w.number(map[bool]uint64{true: 1}[v.Bool()], boolNumber)
	case reflect.String:
		w.number(uint64(v.Len()), textLength)
		w.b = append(w.b, v.String()...)
	case reflect.Slice:
		w.number(uint64(v.Len()), listLength)
		for i := range v.Len() {
			w.walk(v.Index(i))
		}
	case reflect.Struct:
		for i := range v.NumField() {
			w.walk(v.Field(i))
		}
	default:
		panic("a field of another kind")
	}
}

// laid is a command's bytes without a sum, whether it may be or not, and where its numbers stand.
func laid(c api.Command) (string, []field) {
	var w writer
	w.walk(reflect.ValueOf(c))
	return string(w.b), w.fields
}

// scan reads the fields of v from s, and tells what is left; false, if s is not of that form.
func scan(v reflect.Value, s string) (string, bool) {
	if v.Kind() == reflect.Struct {
		for i := range v.NumField() {
			var ok bool
			if s, ok = scan(v.Field(i), s); !ok {
				return "", false
			}
		}
		return s, true
	}
	if len(s) < 8 {
		return "", false
	}
	n := binary.BigEndian.Uint64([]byte(s))
	s = s[8:]
	switch v.Kind() {
	case reflect.Int, reflect.Int64:
		v.SetInt(int64(n))
	case reflect.Uint64:
		v.SetUint(n)
	case reflect.Bool:
		v.SetBool(n == 1)
		return s, n <= 1
	case reflect.String:
		if n > uint64(len(s)) {
			return "", false
		}
		v.SetString(s[:n])
		s = s[n:]
	case reflect.Slice:
		if n > uint64(len(s)) {
			return "", false
		}
		for range n {
			part := reflect.New(v.Type().Elem()).Elem()
			var ok bool
			if s, ok = scan(part, s); !ok {
				return "", false
			}
			v.Set(reflect.Append(v, part))
		}
	}
	return s, true
}

// from tells whether n is from low to high.
func from(n, low, high int) bool { return !(n < low) && !(n > high) }

func mayBe(c api.Command) bool {
	good := from(c.Kind, 0, 5) && from(c.Client, 0, 100) && from(c.Code, 0, 21)
	good = good && from(c.Seq, 0, 1<<40) && from(c.Snap, 0, 1<<40) && from(c.Deadline, 0, 1<<40) && from(c.After, 0, 1<<40) && from(c.Held, 0, 1<<40)
	good = good && len(c.Keys) <= 200 && len(c.Ranges) <= 50 && len(c.Writes) <= 200 && len(c.Rows) <= 200 && len(c.Text) <= 1000
	var written, texts []string
	for _, w := range c.Writes {
		written = append(written, w.Key)
		good = good && len(w.Val) <= 10000 && (!w.Del || w.Val == "")
	}
	for _, r := range c.Ranges {
		texts = append(texts, r.Lo, r.Hi)
	}
	for _, s := range slices.Concat(c.Keys, written, texts) {
		good = good && len(s) <= 1000
	}
	for _, row := range c.Rows {
		good = good && len(row) <= 8
		for _, v := range row {
			good = good && valueMayBe(v)
		}
	}
	return good && risen(c.Keys) && risen(written)
}

// risen tells whether texts are what they are when sorted, each once.
func risen(list []string) bool {
	once := map[string]int{}
	for _, s := range list {
		once[s]++
	}
	sorted := slices.Clone(list)
	slices.Sort(sorted)
	return slices.Equal(sorted, list) && len(once) == len(list)
}

func valueMayBe(v api.Value) bool {
	rest := v
	switch rest.Kind = 0; v.Kind {
	case 0:
	case 1:
		rest.N = 0
		if v.N != 0 && v.N != 1 {
			return false
		}
	case 2:
		rest.N = 0
	case 3:
		rest.F = 0
		if f := math.Float64frombits(v.F); v.F == 1<<63 || f != f && v.F != 0x7ff8000000000000 {
			return false
		}
	case 4, 5:
		rest.S = ""
		if len(v.S) > 40 {
			return false
		}
	default:
		return false
	}
	return rest == api.Value{}
}

// toBePut is what Put is to tell.
func toBePut(c api.Command) (string, api.Errno) {
	plain, _ := laid(c)
	switch s := sealed(plain); {
	case !mayBe(c):
		return "", api.ErrArg
	case len(s) > 20000:
		return "", api.ErrLong
	default:
		return s, api.OK
	}
}

// toBeGot is what Get is to tell.
func toBeGot(s string) (api.Command, api.Errno) {
	var c api.Command
	if len(s) < 4 || len(s) > 20000 || sealed(s[:len(s)-4]) != s {
		return api.Command{}, api.ErrForm
	}
	left, ok := scan(reflect.ValueOf(&c).Elem(), s[:len(s)-4])
	if !ok || left != "" || !mayBe(c) {
		return api.Command{}, api.ErrForm
	}
	return c, api.OK
}

// same tells whether two commands are, whatever their lists without parts.
func same(c, d api.Command) bool {
	a, _ := laid(c)
	b, _ := laid(d)
	return a == b
}

// refused asks that Get tells ErrForm of s, and the command without anything beside it.
func refused(t *testing.T, promise, what, s string) {
	t.Helper()
	if c, e := Get(s); e != api.ErrForm || !reflect.DeepEqual(c, api.Command{}) {
		t.Errorf("%s: %s: %d %+v", promise, what, e, c)
	}
}

// held holds May, Put and Get of a command against the reckoning, and Put's error against e.
func held(t *testing.T, what string, c api.Command, e api.Errno) {
	t.Helper()
	want, code := toBePut(c)
	if code != e {
		t.Fatalf("%s: the reckoning tells %d, not %d", what, code, e)
	}
	if got := May(c); got != (e != api.ErrArg) {
		t.Errorf("13.1: %s: %v", what, got)
	}
	if s, got := Put(c); s != want || got != e {
		t.Errorf("13.2: %s: %d, not %d; %d bytes, not %d", what, got, e, len(s), len(want))
	}
	if e != api.OK {
		plain, _ := laid(c)
		refused(t, "13.3", what, sealed(plain))
		return
	}
	if d, got := Get(want); !same(c, d) || got != api.OK {
		t.Errorf("13.4: %s: %d %+v", what, got, d)
	}
}

// read holds Get of bytes without a sum, sealed, against the reckoning; it tells whether they are a command's.
func read(t *testing.T, what, plain string) bool {
	t.Helper()
	s := sealed(plain)
	want, code := toBeGot(s)
	if code != api.OK {
		refused(t, "13.3", what, s)
		return false
	}
	c, e := Get(s)
	if !same(c, want) || e != api.OK {
		t.Errorf("13.3: %s: %d %+v", what, e, c)
	}
	if again, e := Put(c); again != s || e != api.OK {
		t.Errorf("13.3: %s: Put tells another text, %d", what, e)
	}
	return true
}
