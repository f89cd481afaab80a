package desc

import "falsework/api"

// long is how many bytes a number has.
const long = 8

// number is what is written as one.
type number interface{ int | int64 | uint64 }

// A schema's fields are written, and read, in the order in which api has them.

func putSchema(b []byte, x api.Schema) []byte {
	b = putNumber(b, x.Version)
	b = putList(b, x.Tables, putTable)
	return putNumber(b, x.Next)
}

func putTable(b []byte, t api.Table) []byte {
	b = putNumber(b, t.ID)
	b = putText(b, t.Name)
	b = putList(b, t.Cols, putColumn)
	b = putList(b, t.Indexes, putIndex)
	return putNumber(b, t.Next)
}

func putColumn(b []byte, c api.Column) []byte {
	b = putNumber(b, c.ID)
	b = putText(b, c.Name)
	b = putNumber(b, c.Kind)
	b = putNumber(b, c.State)
	b = putNumber(b, c.Null)
	return putValue(b, c.Default)
}

func putIndex(b []byte, x api.Index) []byte {
	b = putNumber(b, x.ID)
	b = putText(b, x.Name)
	b = putList(b, x.Cols, putNumber[int])
	b = putBool(b, x.Unique)
	return putNumber(b, x.State)
}

func putValue(b []byte, v api.Value) []byte {
	b = putNumber(b, v.Kind)
	b = putNumber(b, v.N)
	b = putNumber(b, v.F)
	return putText(b, v.S)
}

// putNumber writes a number, the highest byte first.
func putNumber[T number](b []byte, n T) []byte {
	// The conversion adds 2^64 to what is below 0.
	bits := uint64(n)
	for i := long - 1; i >= 0; i-- {
		b = append(b, byte(bits>>(8*i)))
	}
	return b
}

func putBool(b []byte, is bool) []byte {
	if is {
		return putNumber(b, 1)
	}
	return putNumber(b, 0)
}

func putText(b []byte, s string) []byte {
	return append(putNumber(b, len(s)), s...)
}

func putList[T any](b []byte, list []T, put func([]byte, T) []byte) []byte {
	b = putNumber(b, len(list))
	for _, part := range list {
		b = put(b, part)
	}
	return b
}

// reader is what is left to be read. It gives up by panic, which Get recovers: so no field need ask whether the ones ahead of it were there.
type reader struct {
	left string
}

// take is the next n bytes.
func (r *reader) take(n uint64) string {
	if n > uint64(len(r.left)) {
		panic(api.ErrForm)
	}
	s := r.left[:n]
	r.left = r.left[n:]
	return s
}

// The calls in a literal are made in the order in which they stand there, which is that of the fields.

func getSchema(r *reader) api.Schema {
	return api.Schema{
		Version: getNumber[int](r),
		Tables:  getList(r, api.MaxTables, getTable),
		Next:    getNumber[int](r),
	}
}

func getTable(r *reader) api.Table {
	return api.Table{
		ID:      getNumber[int](r),
		Name:    getText(r),
		Cols:    getList(r, api.MaxCols, getColumn),
		Indexes: getList(r, api.MaxIndexes, getIndex),
		Next:    getNumber[int](r),
	}
}

func getColumn(r *reader) api.Column {
	return api.Column{
		ID:      getNumber[int](r),
		Name:    getText(r),
		Kind:    getNumber[int](r),
		State:   getNumber[int](r),
		Null:    getNumber[int](r),
		Default: getValue(r),
	}
}

func getIndex(r *reader) api.Index {
	return api.Index{
		ID:     getNumber[int](r),
		Name:   getText(r),
		Cols:   getList(r, api.MaxCols, getNumber[int]),
		Unique: getBool(r),
		State:  getNumber[int](r),
	}
}

func getValue(r *reader) api.Value {
	return api.Value{
		Kind: getNumber[int](r),
		N:    getNumber[int64](r),
		F:    getNumber[uint64](r),
		S:    getText(r),
	}
}

func getNumber[T number](r *reader) T {
	s := r.take(long)
	var n uint64
	for i := range len(s) {
		n = n<<8 | uint64(s[i])
	}
	return T(n)
}

func getBool(r *reader) bool {
	return getNumber[int](r) == 1
}

func getText(r *reader) string {
	return r.take(getNumber[uint64](r))
}

// getList reads a list of at most so many parts: a longer one is given up ahead of its parts, however many bytes there are.
func getList[T any](r *reader, most uint64, get func(*reader) T) []T {
	n := getNumber[uint64](r)
	if n > most {
		panic(api.ErrForm)
	}
	var list []T
	for range n {
		list = append(list, get(r))
	}
	return list
}
