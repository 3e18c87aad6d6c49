package wire_test

import (
	"bytes"
	"encoding/binary"
	"fmt"
	"math"
	"math/bits"
	"math/rand"
	"reflect"
	"slices"
	"strings"
	"testing"

	"refuter/api"
	"refuter/wire"
)

// write appends a value by the method of its type.
func write(w *wire.Writer, value any) {
	switch v := value.(type) {
	case int:
		w.Int(v)
	case uint64:
		w.Uint(v)
	case bool:
		w.Bool(v)
	case string:
		w.Text(v)
	case []byte:
		w.Raw(v)
	case []int:
		w.Ints(v)
	default:
		panic("no type of a value")
	}
}

// readLike reads a value by the method of the type of another one.
func readLike(r *wire.Reader, like any) any {
	switch like.(type) {
	case int:
		return r.Int()
	case uint64:
		return r.Uint()
	case bool:
		return r.Bool()
	case string:
		return r.Text()
	case []byte:
		return r.Raw()
	case []int:
		return r.Ints()
	}
	panic("no type of a value")
}

// encode returns the bytes of a new writer.
func encode(values ...any) []byte {
	var w wire.Writer
	for _, v := range values {
		write(&w, v)
	}
	return w.Done()
}

// same compares values of the same type; nil and empty slices are equal.
func same(a, b any) bool {
	x, y := reflect.ValueOf(a), reflect.ValueOf(b)
	if x.Kind() == reflect.Slice && x.Len() == 0 && y.Kind() == reflect.Slice && y.Len() == 0 {
		return x.Type() == y.Type()
	}
	return reflect.DeepEqual(a, b)
}

// zeros are the zero values of all types that can be read.
var zeros = []any{0, uint64(0), false, "", []byte(nil), []int(nil)}

// checkStuck reports unless a reader has recorded an error that stays whatever
// is read afterwards, and unless everything that is read is a zero value.
func checkStuck(t *testing.T, what string, r *wire.Reader, want api.Errno) {
	t.Helper()
	if got := r.End(); got != want {
		t.Errorf("%s: End() = %d, want %d", what, got, want)
	}
	for _, zero := range append(zeros, zeros...) {
		if got := readLike(r, zero); !same(got, zero) {
			t.Errorf("%s: after the error, %#v is read", what, got)
		}
		if got := r.End(); got != want {
			t.Errorf("%s: after reading a %T: End() = %d, want %d", what, zero, got, want)
		}
	}
}

// checkRead reads one value and reports unless it is the wanted one and what the
// reader has recorded is the error; with an error, it has to stick.
func checkRead(t *testing.T, b []byte, want any, err api.Errno) {
	t.Helper()
	what := fmt.Sprintf("a %T of % x", want, b)
	r := wire.Read(b)
	if got := readLike(r, want); !same(got, want) {
		t.Errorf("%s: %#v is read, want %#v", what, got, want)
	}
	if err != api.OK {
		checkStuck(t, what, r, err)
	} else if got := r.End(); got != api.OK {
		t.Errorf("%s: End() = %d, want OK", what, got)
	}
}

// join returns the bytes of all slices.
func join(parts ...[]byte) []byte {
	return slices.Concat(parts...)
}

// greatest is the varint of the greatest unsigned number.
var greatest = []byte{255, 255, 255, 255, 255, 255, 255, 255, 255, 1}

// The encodings are written out by hand.
var encodings = []struct {
	value any
	b     []byte
}{
	{uint64(0), []byte{0}},
	{uint64(1), []byte{1}},
	{uint64(127), []byte{127}},
	{uint64(128), []byte{128, 1}},
	{uint64(255), []byte{255, 1}},
	{uint64(256), []byte{128, 2}},
	{uint64(300), []byte{172, 2}},
	{uint64(16383), []byte{255, 127}},
	{uint64(16384), []byte{128, 128, 1}},
	{uint64(1) << 63, []byte{128, 128, 128, 128, 128, 128, 128, 128, 128, 1}},
	{uint64(1)<<63 - 1, []byte{255, 255, 255, 255, 255, 255, 255, 255, 127}},
	{uint64(math.MaxUint64), greatest},
	{0, []byte{0}},
	{-1, []byte{1}},
	{1, []byte{2}},
	{-2, []byte{3}},
	{63, []byte{126}},
	{-64, []byte{127}},
	{64, []byte{128, 1}},
	{-65, []byte{129, 1}},
	{math.MaxInt, []byte{254, 255, 255, 255, 255, 255, 255, 255, 255, 1}},
	{math.MinInt, greatest},
	{false, []byte{0}},
	{true, []byte{1}},
	{"", []byte{0}},
	{"ab", []byte{2, 97, 98}},
	{"\x00\xff\x80", []byte{3, 0, 255, 128}},
	{"ä", []byte{2, 0xc3, 0xa4}},
	{strings.Repeat("x", 127), join([]byte{127}, bytes.Repeat([]byte{'x'}, 127))},
	{strings.Repeat("x", 128), join([]byte{128, 1}, bytes.Repeat([]byte{'x'}, 128))},
	{[]byte(nil), []byte{0}},
	{[]byte{}, []byte{0}},
	{[]byte{0, 200}, []byte{2, 0, 200}},
	{bytes.Repeat([]byte{255}, 300), join([]byte{172, 2}, bytes.Repeat([]byte{255}, 300))},
	{[]int(nil), []byte{0}},
	{[]int{}, []byte{0}},
	{[]int{0}, []byte{1, 0}},
	{[]int{1, -1, 64}, []byte{3, 2, 1, 128, 1}},
	{[]int{math.MinInt, 0, math.MaxInt}, join([]byte{3}, greatest, []byte{0, 254}, greatest[1:])},
	{make([]int, 200), join([]byte{200, 1}, make([]byte, 200))},
}

// TestAppends (P2.1) appends each value to a new writer and behind another one.
func TestAppends(t *testing.T) {
	for _, c := range encodings {
		if got := encode(c.value); !bytes.Equal(got, c.b) {
			t.Errorf("%T %#v is encoded as % x, want % x", c.value, c.value, got, c.b)
		}
		if got, want := encode("ab", c.value, true), join([]byte{2, 97, 98}, c.b, []byte{1}); !bytes.Equal(got, want) {
			t.Errorf("%T %#v between others: % x, want % x", c.value, c.value, got, want)
		}
	}
}

// TestVarints (P2.1) compares with the varints of the standard library, around
// all powers of 2.
func TestVarints(t *testing.T) {
	for shift := range 64 {
		for d := range uint64(5) {
			n := uint64(1)<<shift + d - 2
			if got, want := encode(n), binary.AppendUvarint(nil, n); !bytes.Equal(got, want) {
				t.Errorf("Uint(%d) appends % x, want % x", n, got, want)
			}
			if got, want := encode(int(n)), binary.AppendVarint(nil, int64(n)); !bytes.Equal(got, want) {
				t.Errorf("Int(%d) appends % x, want % x", int(n), got, want)
			}
		}
	}
}

// TestDone (P2.1): Done returns all bytes each time, in a slice of its own.
func TestDone(t *testing.T) {
	var w wire.Writer
	if got := w.Done(); len(got) != 0 {
		t.Errorf("the zero Writer contains % x", got)
	}
	var all []byte
	for _, c := range encodings {
		write(&w, c.value)
		all = append(all, c.b...)
		first, second := w.Done(), w.Done()
		if !bytes.Equal(first, all) || !bytes.Equal(second, all) {
			t.Fatalf("after %T %#v, Done returns something else than what was appended", c.value, c.value)
		}
		for i := range first {
			first[i]++
		}
		_ = append(first, 77)
		if !bytes.Equal(second, all) || !bytes.Equal(w.Done(), all) {
			t.Fatalf("after %T %#v, changing a result of Done changes another one", c.value, c.value)
		}
	}
	before := w.Done()
	w.Text("more")
	if !bytes.Equal(before, all) {
		t.Error("appending changes an earlier result of Done")
	}
}

// TestWriterKeepsNothing (P2.1): later changes of a slice that was appended have
// no effect, and appending does not change it.
func TestWriterKeepsNothing(t *testing.T) {
	var w wire.Writer
	b, l := []byte{1, 2, 3, 4}, []int{1, 2, 3, 4}
	w.Raw(b[:2])
	w.Ints(l[:2])
	w.Bool(true)
	want := []byte{2, 1, 2, 2, 2, 4, 1}
	// Bytes of the arrays behind the slices belong to the arguments, too.
	if !slices.Equal(b, []byte{1, 2, 3, 4}) || !slices.Equal(l, []int{1, 2, 3, 4}) {
		t.Error("an argument was changed")
	}
	b[0], l[0] = 99, 99
	if got := w.Done(); !bytes.Equal(got, want) {
		t.Errorf("after changes of the arguments: % x, want % x", got, want)
	}
}

// TestReadCopies (P2.2): changes of the bytes do not affect the reader, nor does
// the reader change them.
func TestReadCopies(t *testing.T) {
	b := encode("ab", []byte{5, 6}, []int{7}, 8, uint64(9), true)
	kept := slices.Clone(b)
	r := wire.Read(b)
	for i := range b {
		b[i] = 255
	}
	if s := r.Text(); s != "ab" {
		t.Errorf("Text() = %q", s)
	}
	if raw := r.Raw(); !bytes.Equal(raw, []byte{5, 6}) {
		t.Errorf("Raw() = %v", raw)
	}
	if l, n, u, x := r.Ints(), r.Int(), r.Uint(), r.Bool(); !slices.Equal(l, []int{7}) || n != 8 || u != 9 || !x {
		t.Errorf("%v %d %d %v are read", l, n, u, x)
	}
	if e := r.End(); e != api.OK {
		t.Errorf("End() = %d", e)
	}
	b = slices.Clone(kept)
	r = wire.Read(b)
	s, raw, l := r.Text(), r.Raw(), r.Ints()
	raw[0], l[0] = 200, 200
	if !bytes.Equal(b, kept) || s != "ab" {
		t.Error("reading changes the bytes that are read")
	}
}

// TestResultsAreNew (P2.2, P2.5): changes of a list that was handed out do not
// affect the reader, or another list.
func TestResultsAreNew(t *testing.T) {
	r := wire.Read(encode([]byte{1, 2}, []byte{3, 4}, []int{5, 6}, []int{7, 8}))
	first := r.Raw()
	first[0], first[1] = 99, 99
	_ = append(first, 99, 99, 99, 99)
	second := r.Raw()
	third := r.Ints()
	third[0], third[1] = 99, 99
	_ = append(third, 99, 99, 99, 99)
	fourth := r.Ints()
	if !bytes.Equal(second, []byte{3, 4}) || !slices.Equal(fourth, []int{7, 8}) || r.End() != api.OK {
		t.Errorf("after changes of results: %v, %v, End() = %d", second, fourth, r.End())
	}
}

// TestEnd (P2.2): a reader begins without an error, and that bytes are left is
// told but not recorded.
func TestEnd(t *testing.T) {
	for _, b := range [][]byte{nil, {}} {
		if e := wire.Read(b).End(); e != api.OK {
			t.Errorf("End() of no bytes = %d", e)
		}
	}
	r := wire.Read([]byte{1, 172, 2, 0})
	for range 2 {
		if e := r.End(); e != api.ErrForm {
			t.Errorf("End() with four bytes left = %d", e)
		}
	}
	if !r.Bool() || r.End() != api.ErrForm || r.Uint() != 300 || r.End() != api.ErrForm || r.Int() != 0 {
		t.Error("reading goes wrong after End has found bytes left")
	}
	if e := r.End(); e != api.OK {
		t.Errorf("End() after everything was read = %d", e)
	}
	r.Bool()
	checkStuck(t, "a byte behind the end", r, api.ErrMore)
}

// TestFirstErrorStays (P2.2): what follows would lead to another error, or to a value.
func TestFirstErrorStays(t *testing.T) {
	// A length that is too great leaves the bytes 2, 128, 0, and 1.
	for _, like := range []any{"", []byte(nil), []int(nil)} {
		r := wire.Read([]byte{5, 2, 128, 0, 1})
		readLike(r, like)
		checkStuck(t, fmt.Sprintf("a %T that is too long", like), r, api.ErrMore)
	}
	// Nothing is left behind these, where ErrMore would be recorded.
	for _, b := range [][]byte{{128, 0}, {1, 128, 0}} {
		r := wire.Read(b)
		if b[0] == 1 {
			r.Ints()
		} else {
			r.Uint()
		}
		checkStuck(t, fmt.Sprintf("% x", b), r, api.ErrForm)
	}
	// Values that could be read are left behind these.
	r := wire.Read([]byte{2, 1, 1, 1, 0})
	r.Bool()
	checkStuck(t, "a truth value of 2", r, api.ErrForm)
	r = wire.Read([]byte{128, 0, 1, 1, 1, 0})
	r.Int()
	checkStuck(t, "a superfluous byte", r, api.ErrForm)
}

// TestUint (P2.3) tries each number of bytes that go on before a last byte.
func TestUint(t *testing.T) {
	for _, going := range []byte{128, 129, 255} {
		for before := range 13 {
			start := bytes.Repeat([]byte{going}, before)
			var sum uint64
			for i := range min(before, 9) {
				sum += uint64(going-128) << (7 * i)
			}
			if before < 10 {
				checkRead(t, start, uint64(0), api.ErrMore)
			} else {
				checkRead(t, start, uint64(0), api.ErrForm)
			}
			for _, last := range []byte{0, 1, 2, 3, 64, 127} {
				b := append(slices.Clone(start), last)
				superfluous := before > 0 && last == 0
				tooGreat := before > 9 || before == 9 && last > 1
				if superfluous || tooGreat {
					checkRead(t, b, uint64(0), api.ErrForm)
				} else {
					checkRead(t, b, sum+uint64(last)<<(7*before), api.OK)
				}
			}
		}
	}
	for _, tenth := range []byte{128, 129, 130, 254, 255} {
		b := append(slices.Clone(greatest[:9]), tenth)
		checkRead(t, b, uint64(0), api.ErrForm)
		checkRead(t, append(b, 1), uint64(0), api.ErrForm)
	}
}

// TestUintStops (P2.3): the bytes behind a varint are not examined.
func TestUintStops(t *testing.T) {
	r := wire.Read([]byte{172, 2, 0, 127, 128, 0})
	if a, b, c := r.Uint(), r.Uint(), r.Uint(); a != 300 || b != 0 || c != 127 {
		t.Errorf("%d %d %d are read", a, b, c)
	}
	if e := r.End(); e != api.ErrForm {
		t.Errorf("End() with two bytes left = %d", e)
	}
	r.Uint()
	checkStuck(t, "the malformed rest", r, api.ErrForm)
	r = wire.Read(append(slices.Clone(greatest), 5))
	if a, b := r.Uint(), r.Uint(); a != math.MaxUint64 || b != 5 || r.End() != api.OK {
		t.Errorf("%d %d are read, End() = %d", a, b, r.End())
	}
}

// TestInt (P2.4) covers the values of Int, and the errors of its varint.
func TestInt(t *testing.T) {
	for _, c := range encodings {
		if n, ok := c.value.(int); ok {
			checkRead(t, c.b, n, api.OK)
		}
	}
	for n := -300; n <= 300; n++ {
		form := 2 * n
		if n < 0 {
			form = -2*n - 1
		}
		checkRead(t, binary.AppendUvarint(nil, uint64(form)), n, api.OK)
	}
	checkRead(t, nil, 0, api.ErrMore)
	checkRead(t, []byte{129}, 0, api.ErrMore)
	checkRead(t, greatest[:9], 0, api.ErrMore)
	checkRead(t, []byte{128, 0}, 0, api.ErrForm)
	checkRead(t, []byte{129, 128, 0}, 0, api.ErrForm)
	checkRead(t, append(slices.Clone(greatest[:9]), 2), 0, api.ErrForm)
	checkRead(t, append(slices.Clone(greatest[:9]), 129, 1), 0, api.ErrForm)
}

// TestBool (P2.4) tries all bytes.
func TestBool(t *testing.T) {
	checkRead(t, nil, false, api.ErrMore)
	for x := range 256 {
		switch x {
		case 0, 1:
			checkRead(t, []byte{byte(x)}, x == 1, api.OK)
		default:
			checkRead(t, []byte{byte(x)}, false, api.ErrForm)
			checkRead(t, []byte{byte(x), 1}, false, api.ErrForm)
		}
	}
	r := wire.Read([]byte{1, 0, 1})
	if a, b, c := r.Bool(), r.Bool(), r.Bool(); !a || b || !c || r.End() != api.OK {
		t.Errorf("%v %v %v are read, End() = %d", a, b, c, r.End())
	}
}

// lists are the zero values of the types that begin with a length.
var lists = []any{"", []byte(nil), []int(nil)}

// TestLists (P2.5) reads the lists among the encodings, alone and before others.
func TestLists(t *testing.T) {
	for _, c := range encodings {
		if !slices.ContainsFunc(lists, func(l any) bool { return reflect.TypeOf(l) == reflect.TypeOf(c.value) }) {
			continue
		}
		checkRead(t, c.b, c.value, api.OK)
		r := wire.Read(join(c.b, []byte{4, 1}))
		if got := readLike(r, c.value); !same(got, c.value) {
			t.Errorf("%T %#v is read as %#v", c.value, c.value, got)
		}
		if n, x := r.Int(), r.Bool(); n != 2 || !x || r.End() != api.OK {
			t.Errorf("behind %T %#v: %d %v, End() = %d", c.value, c.value, n, x, r.End())
		}
	}
}

// TestLengths (P2.5): lengths that cannot be read, that are greater than what is
// left by any number, and that are not.
func TestLengths(t *testing.T) {
	for _, like := range lists {
		checkRead(t, nil, like, api.ErrMore)
		checkRead(t, []byte{131}, like, api.ErrMore)
		checkRead(t, []byte{131, 0, 1, 1, 1}, like, api.ErrForm)
		checkRead(t, append(slices.Clone(greatest[:9]), 2), like, api.ErrForm)
		for _, n := range []uint64{1 << 31, 1 << 32, 1<<32 + 1, 1 << 62, 1<<63 - 1, 1 << 63, 1<<63 + 1, math.MaxUint64 - 1, math.MaxUint64} {
			b := binary.AppendUvarint(nil, n)
			checkRead(t, b, like, api.ErrMore)
			checkRead(t, append(b, 1, 2, 3), like, api.ErrMore)
		}
		for left := range 300 {
			rest := bytes.Repeat([]byte{2}, left)
			checkRead(t, join(encode(uint64(left+1)), rest), like, api.ErrMore)
			r := wire.Read(join(encode(uint64(left)), rest))
			got := reflect.ValueOf(readLike(r, like))
			if got.Len() != left || r.End() != api.OK {
				t.Errorf("a %T of length %d: length %d, End() = %d", like, left, got.Len(), r.End())
			}
		}
	}
}

// TestElements (P2.5): a list with a wrong element is empty, and the length is
// examined before the elements.
func TestElements(t *testing.T) {
	none := []int(nil)
	for _, c := range []struct {
		b []byte
		e api.Errno
	}{
		{[]byte{2, 128, 0}, api.ErrForm},
		{[]byte{3, 2, 4, 128, 0}, api.ErrForm},
		{[]byte{3, 2, 128, 0, 4}, api.ErrForm},
		{join([]byte{2, 2}, greatest[:9], []byte{2, 1}), api.ErrForm},
		{join([]byte{1}, greatest[:9], []byte{255, 255, 1}), api.ErrForm},
		{[]byte{1, 128}, api.ErrMore},
		{[]byte{3, 2, 172, 2}, api.ErrMore},
		{[]byte{2, 172, 2}, api.ErrMore},
		{[]byte{3, 2, 4, 128}, api.ErrMore},
		{[]byte{3, 128, 0}, api.ErrMore},
		{[]byte{4, 2, 128, 0}, api.ErrMore},
	} {
		checkRead(t, c.b, none, c.e)
	}
	// What is no varint is still a byte of a text.
	checkRead(t, []byte{2, 128, 0}, []byte{128, 0}, api.OK)
	checkRead(t, []byte{2, 128, 0}, "\x80\x00", api.OK)
}

// someNumber returns a number in which all lengths of varints are as likely.
func someNumber(source *rand.Rand) uint64 {
	return source.Uint64() >> source.Intn(64)
}

// someValue returns a value of any type that can be written.
func someValue(source *rand.Rand) any {
	n := someNumber(source)
	signed := int(n)
	if source.Intn(2) == 0 {
		signed = -signed
	}
	b := make([]byte, source.Intn(6)*source.Intn(40))
	for i := range b {
		b[i] = byte(source.Intn(256))
	}
	l := make([]int, source.Intn(6)*source.Intn(40))
	for i := range l {
		l[i] = int(someNumber(source)) * (1 - 2*source.Intn(2))
	}
	return []any{signed, n, n%2 == 1, string(b), b, l}[source.Intn(6)]
}

// someValues returns a list of values.
func someValues(source *rand.Rand) []any {
	values := make([]any, source.Intn(8))
	for i := range values {
		values[i] = someValue(source)
	}
	return values
}

// checkRoundTrip writes values and reads them again.
func checkRoundTrip(t *testing.T, values ...any) {
	t.Helper()
	r := wire.Read(encode(values...))
	for i, v := range values {
		if got := readLike(r, v); !same(got, v) {
			t.Errorf("value %d, %T %#v, is read as %#v", i, v, v, got)
		}
	}
	if e := r.End(); e != api.OK {
		t.Errorf("after %#v: End() = %d", values, e)
	}
}

// TestRoundTrip (P2.6) covers the values of the other tests, all of them at
// once, and others of all lengths.
func TestRoundTrip(t *testing.T) {
	checkRoundTrip(t)
	var all []any
	for _, c := range encodings {
		checkRoundTrip(t, c.value)
		all = append(all, c.value)
	}
	checkRoundTrip(t, all...)
	source := rand.New(rand.NewSource(2))
	for range 3000 {
		checkRoundTrip(t, someValues(source)...)
	}
	for shift := range 64 {
		for d := range uint64(5) {
			n := uint64(1)<<shift + d - 2
			checkRoundTrip(t, n, int(n), -int(n), []int{int(n), -int(n)})
		}
	}
}

// checkOneEncoding reads values of the types of others. If nothing is wrong and
// nothing left, it reports unless writing what was read gives the same bytes.
func checkOneEncoding(t *testing.T, b []byte, likes ...any) bool {
	t.Helper()
	r := wire.Read(b)
	var values []any
	for _, like := range likes {
		values = append(values, readLike(r, like))
	}
	if r.End() != api.OK {
		return false
	}
	if got := encode(values...); !bytes.Equal(got, b) {
		t.Errorf("% x is read as %#v, which is encoded as % x", b, values, got)
	}
	return true
}

// TestOneEncodingOfOne (P2.7) tries all short encodings of single values, with
// the bytes that matter.
func TestOneEncodingOfOne(t *testing.T) {
	matter := []byte{0, 1, 2, 3, 127, 128, 129, 255}
	accepted := map[string]int{}
	level := [][]byte{nil}
	for range 6 {
		var longer [][]byte
		for _, b := range level {
			for _, zero := range zeros {
				if checkOneEncoding(t, b, zero) {
					accepted[fmt.Sprintf("%T", zero)]++
				}
			}
			for _, x := range matter {
				longer = append(longer, append(slices.Clone(b), x))
			}
		}
		level = longer
	}
	for _, zero := range zeros {
		if name := fmt.Sprintf("%T", zero); accepted[name] < 2 {
			t.Errorf("of all short slices, %d are a %s", accepted[name], name)
		}
	}
}

// TestOneEncoding (P2.7) changes, inserts and deletes bytes of encodings, and
// reads what comes out like the values that were written.
func TestOneEncoding(t *testing.T) {
	source := rand.New(rand.NewSource(7))
	accepted, refused := 0, 0
	for range 20000 {
		values := someValues(source)
		b := encode(values...)
		if len(b) > 0 {
			at := source.Intn(len(b))
			switch source.Intn(4) {
			case 0:
				b[at] ^= 1 << source.Intn(8)
			case 1:
				b[at] |= 128
				b = slices.Insert(b, at+1, 0)
			case 2:
				b = slices.Insert(b, at, byte(source.Intn(256)))
			case 3:
				b = slices.Delete(b, at, at+1)
			}
		}
		if checkOneEncoding(t, b, values...) {
			accepted++
		} else {
			refused++
		}
	}
	if accepted < 100 || refused < 100 {
		t.Errorf("%d changed encodings are accepted, %d refused: too few to tell", accepted, refused)
	}
}

// checkPrefixes reads all proper prefixes of an encoding.
func checkPrefixes(t *testing.T, values ...any) {
	t.Helper()
	b := encode(values...)
	for n := range b {
		r := wire.Read(b[:n])
		for _, v := range values {
			readLike(r, v)
		}
		checkStuck(t, fmt.Sprintf("%d of %d bytes of %#v", n, len(b), values), r, api.ErrMore)
	}
}

// TestPrefixes (P2.8) covers the values of the other tests and sequences of them.
func TestPrefixes(t *testing.T) {
	for _, c := range encodings {
		checkPrefixes(t, c.value)
		checkPrefixes(t, true, c.value, -1)
	}
	source := rand.New(rand.NewSource(8))
	for range 200 {
		checkPrefixes(t, someValues(source)...)
	}
}

// TestVarintLengths (P2.8): a byte for every 7 bits that are needed, at least one.
func TestVarintLengths(t *testing.T) {
	check := func(n uint64) {
		want := max(1, (bits.Len64(n)+6)/7)
		if got := len(encode(n)); got != want {
			t.Errorf("the varint of %d has %d bytes, want %d", n, got, want)
		}
	}
	check(0)
	check(math.MaxUint64)
	for shift := range 64 {
		check(1 << shift)
		check(1<<shift - 1)
		check(1<<shift + 1)
	}
	source := rand.New(rand.NewSource(1))
	for range 1000 {
		check(someNumber(source))
	}
}
