package cmd

import "falsework/api"

// long is how many bytes a number has.
const long = 8

// A command's fields are written, and read, in the order in which api has them.

func putCommand(b []byte, c api.Command) []byte {
	b = putNumber(b, c.Kind)
	b = putNumber(b, c.Client)
	b = putNumber(b, c.Seq)
	b = putNumber(b, c.Snap)
	b = putList(b, c.Keys, putText)
	b = putList(b, c.Ranges, putRange)
	b = putList(b, c.Writes, putWrite)
	b = putNumber(b, c.Deadline)
	b = putNumber(b, c.After)
	b = putNumber(b, c.Held)
	b = putText(b, c.Text)
	b = putNumber(b, c.Code)
	return putList(b, c.Rows, putRow)
}

func putRange(b []byte, r api.Range) []byte {
	return putText(putText(b, r.Lo), r.Hi)
}

func putWrite(b []byte, w api.Write) []byte {
	return putBool(putText(putText(b, w.Key), w.Val), w.Del)
}

func putRow(b []byte, row []api.Value) []byte {
	return putList(b, row, putValue)
}

func putValue(b []byte, v api.Value) []byte {
	b = putNumber(b, v.Kind)
	b = putNumber(b, v.N)
	b = putNumber(b, v.F)
	return putText(b, v.S)
}

// putNumber writes a number, the highest byte first.
func putNumber[T int | int64 | uint64](b []byte, n T) []byte {
	// The conversion adds 2^64 to what is below 0.
	bits := uint64(n)
	for i := long - 1; i >= 0; i-- {
		b = append(b, byte(bits>>(8*i)))
	}
	return b
}

func putBool(b []byte, is bool) []byte {
	if is {
		return putNumber(b, 1)
	}
	return putNumber(b, 0)
}

func putText(b []byte, s string) []byte {
	return append(putNumber(b, len(s)), s...)
}

func putList[T any](b []byte, list []T, put func([]byte, T) []byte) []byte {
	b = putNumber(b, len(list))
	for _, part := range list {
		b = put(b, part)
	}
	return b
}

// cursor is what is left to be read. It gives up by panic, which Get recovers: so no field need ask whether the ones ahead of it were there.
type cursor struct {
	left string
}

// take is the next n bytes.
func (c *cursor) take(n uint64) string {
	if n > uint64(len(c.left)) {
		panic(api.ErrForm)
	}
	s := c.left[:n]
	c.left = c.left[n:]
	return s
}

// reader reads fields where its cursor stands.
type reader struct {
	cursor
}

// The calls in a literal are made in the order in which they stand there, which is that of the fields.

func (r *reader) command() api.Command {
	return api.Command{
		Kind:     r.number(),
		Client:   r.number(),
		Seq:      r.number(),
		Snap:     r.number(),
		Keys:     getList(r, (*reader).text),
		Ranges:   getList(r, (*reader).span),
		Writes:   getList(r, (*reader).write),
		Deadline: r.number(),
		After:    r.number(),
		Held:     r.number(),
		Text:     r.text(),
		Code:     r.number(),
		Rows:     getList(r, (*reader).row),
	}
}

func (r *reader) span() api.Range {
	return api.Range{Lo: r.text(), Hi: r.text()}
}

func (r *reader) write() api.Write {
	return api.Write{Key: r.text(), Val: r.text(), Del: r.number() == 1}
}

func (r *reader) row() []api.Value {
	return getList(r, (*reader).value)
}

func (r *reader) value() api.Value {
	return api.Value{Kind: r.number(), N: int64(r.bits()), F: r.bits(), S: r.text()}
}

func (r *reader) number() int {
	return int(r.bits())
}

func (r *reader) bits() uint64 {
	s := r.take(long)
	var n uint64
	for i := range len(s) {
		n = n<<8 | uint64(s[i])
	}
	return n
}

func (r *reader) text() string {
	return r.take(r.bits())
}

// getList reads a list. However many parts it says it has: each has bytes, so that it ends where the text does.
func getList[T any](r *reader, get func(*reader) T) []T {
	var list []T
	for range r.bits() {
		list = append(list, get(r))
	}
	return list
}
