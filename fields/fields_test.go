package fields_test

import (
	"bytes"
	"cmp"
	"encoding/binary"
	"math"
	"math/rand/v2"
	"slices"
	"testing"

	"treadwheel/fields"
)

// item is one thing that is put, or asked for: a number of so many bytes, or
// (width 0) some bytes.
type item struct {
	width  int
	number uint64
	raw    []byte
}

// plain tells an item's bytes by the document's words: digits to the base 256,
// the highest one first.
func (it item) plain() []byte {
	if it.width == 0 {
		return it.raw
	}
	b := make([]byte, it.width)
	rest := it.number
	for i := range b {
		b[len(b)-1-i] = byte(rest % 256)
		rest /= 256
	}
	return b
}

func plainAll(items []item) []byte {
	var all []byte
	for _, it := range items {
		all = append(all, it.plain()...)
	}
	return all
}

func put(w *fields.Writer, it item) {
	switch it.width {
	case 0:
		w.Raw(it.raw)
	case 1:
		w.Byte(uint8(it.number))
	case 2:
		w.Short(uint16(it.number))
	case 4:
		w.Word(uint32(it.number))
	case 8:
		w.Long(it.number)
	}
}

func putAll(items []item) []byte {
	var w fields.Writer
	for _, it := range items {
		put(&w, it)
	}
	return w.Out()
}

// ask reads what is of the same width (of some bytes: as many) as the item.
func ask(r *fields.Reader, it item) item {
	switch it.width {
	case 0:
		return item{raw: r.Raw(len(it.raw))}
	case 1:
		return item{width: 1, number: uint64(r.Byte())}
	case 2:
		return item{width: 2, number: uint64(r.Short())}
	case 4:
		return item{width: 4, number: uint64(r.Word())}
	}
	return item{width: 8, number: r.Long()}
}

func same(a, b item) bool {
	return a.width == b.width && a.number == b.number && bytes.Equal(a.raw, b.raw)
}

// nothing is what is told of such an item behind a fall.
func nothing(it item) item { return item{width: it.width} }

var widths = []int{1, 2, 4, 8}

func greatest(width int) uint64 { return math.MaxUint64 >> (64 - 8*width) }

func randomItems(rnd *rand.Rand, count int) []item {
	items := make([]item, count)
	for i := range items {
		switch k := rnd.IntN(5); k {
		case 4:
			raw := make([]byte, rnd.IntN(6))
			for j := range raw {
				raw[j] = byte(rnd.Uint32())
			}
			items[i] = item{raw: raw}
		default:
			items[i] = item{width: widths[k], number: rnd.Uint64() & greatest(widths[k])}
		}
	}
	return items
}

func mustEqual(t *testing.T, what string, got, want []byte) {
	t.Helper()
	if !bytes.Equal(got, want) {
		t.Fatalf("%s: %v, want %v", what, got, want)
	}
}

func mustStand(t *testing.T, what string, r *fields.Reader, left int, bad bool) {
	t.Helper()
	if r.Left() != left || r.Bad() != bad {
		t.Fatalf("%s: left %d bad %v, want %d %v", what, r.Left(), r.Bad(), left, bad)
	}
}

// P2.1

func TestWriterOfTheExample(t *testing.T) {
	var w fields.Writer
	w.Short(258)
	w.Raw([]byte("a"))
	mustEqual(t, "the example", w.Out(), []byte{1, 2, 97})
}

func TestWriterOfNothing(t *testing.T) {
	var w fields.Writer
	mustEqual(t, "the zero writer", w.Out(), nil)
	w.Raw(nil)
	mustEqual(t, "nil bytes", w.Out(), nil)
	w.Raw([]byte{})
	mustEqual(t, "empty bytes", w.Out(), nil)
	w.Byte(0)
	mustEqual(t, "a byte 0", w.Out(), []byte{0})
	w.Raw(nil)
	w.Raw([]byte{})
	mustEqual(t, "nothing behind it", w.Out(), []byte{0})
	w.Raw([]byte{5})
	mustEqual(t, "and more", w.Out(), []byte{0, 5})
}

func TestNilWriter(t *testing.T) {
	var w *fields.Writer
	for _, it := range []item{{1, 1, nil}, {2, 2, nil}, {4, 3, nil}, {8, 4, nil}, {0, 0, []byte("abc")}, {0, 0, nil}} {
		put(w, it)
		mustEqual(t, "a nil writer", w.Out(), nil)
	}
}

func TestWriterEndsOfWidths(t *testing.T) {
	for _, width := range widths {
		for _, n := range []uint64{0, 1, 255 & greatest(width), 256 & greatest(width), greatest(width)/2 + 1, greatest(width) / 2, greatest(width) - 1, greatest(width)} {
			it := item{width: width, number: n}
			mustEqual(t, "a number", putAll([]item{it}), it.plain())
		}
	}
	var w fields.Writer
	w.Byte(math.MaxUint8)
	w.Short(math.MaxUint16 - 1)
	w.Word(math.MaxUint32 - 2)
	w.Long(math.MaxUint64 - 3)
	mustEqual(t, "great ones", w.Out(), []byte{255, 255, 254, 255, 255, 255, 253, 255, 255, 255, 255, 255, 255, 255, 252})
}

func TestWriterEachDigitAtItsPlace(t *testing.T) {
	var w fields.Writer
	w.Byte(0x12)
	w.Short(0x3456)
	w.Word(0x789ABCDE)
	w.Long(0x0123456789ABCDEF)
	var want []byte
	want = append(want, 0x12)
	want = binary.BigEndian.AppendUint16(want, 0x3456)
	want = binary.BigEndian.AppendUint32(want, 0x789ABCDE)
	want = binary.BigEndian.AppendUint64(want, 0x0123456789ABCDEF)
	mustEqual(t, "digits", w.Out(), want)
}

func TestOutInTheMidst(t *testing.T) {
	rnd := rand.New(rand.NewPCG(2, 1))
	for range 50 {
		items := randomItems(rnd, 20)
		var w fields.Writer
		for i, it := range items {
			put(&w, it)
			mustEqual(t, "out", w.Out(), plainAll(items[:i+1]))
			mustEqual(t, "out again", w.Out(), plainAll(items[:i+1]))
		}
	}
}

func TestLongChain(t *testing.T) {
	var w fields.Writer
	const count = 100000
	for i := range count {
		w.Word(uint32(i))
	}
	b := w.Out()
	if len(b) != 4*count {
		t.Fatal(len(b))
	}
	r := fields.Open(b)
	for i := range count {
		if n := r.Word(); n != uint32(i) {
			t.Fatal(i, n)
		}
	}
	mustStand(t, "behind all", r, 0, false)
}

func TestWritersAreApart(t *testing.T) {
	var a, b fields.Writer
	a.Byte(1)
	b.Byte(2)
	a.Byte(3)
	mustEqual(t, "one", a.Out(), []byte{1, 3})
	mustEqual(t, "the other", b.Out(), []byte{2})
	c := a
	c.Byte(4)
	a.Byte(5)
	mustEqual(t, "a copy", c.Out(), []byte{1, 3, 4})
	mustEqual(t, "what was copied", a.Out(), []byte{1, 3, 5})
}

// P2.1 with P2.3

func TestWhatOutToldStays(t *testing.T) {
	var w fields.Writer
	w.Raw([]byte("abc"))
	first := w.Out()
	w.Short(258)
	w.Raw([]byte("d"))
	mustEqual(t, "told first", first, []byte("abc"))
	second := w.Out()
	for i := range first[:cap(first)] {
		first[:cap(first)][i] = 'x'
	}
	mustEqual(t, "told then", second, []byte{'a', 'b', 'c', 1, 2, 'd'})
	mustEqual(t, "told once more", w.Out(), second)
	third, fourth := w.Out(), w.Out()
	clear(third)
	mustEqual(t, "two that tell the same", fourth, second)
}

func TestWhatWasPutStays(t *testing.T) {
	memory := []byte("abcdef")
	given := memory[1:3]
	var w fields.Writer
	w.Raw(given)
	w.Byte(9)
	out := w.Out()
	mustEqual(t, "what was handed in", memory, []byte("abcdef"))
	for i := range memory {
		memory[i] = 'x'
	}
	mustEqual(t, "told ahead", out, []byte{'b', 'c', 9})
	mustEqual(t, "told behind", w.Out(), []byte{'b', 'c', 9})
	clear(out)
	mustEqual(t, "what was handed in, then", memory, []byte("xxxxxx"))
}

// P2.2

func TestReaderOfTheExample(t *testing.T) {
	r := fields.Open([]byte{1, 2, 3})
	mustStand(t, "at the beginning", r, 3, false)
	if n := r.Short(); n != 258 {
		t.Fatal(n)
	}
	mustStand(t, "behind a short", r, 1, false)
	if n := r.Byte(); n != 3 {
		t.Fatal(n)
	}
	mustStand(t, "behind a byte", r, 0, false)
	if n := r.Byte(); n != 0 {
		t.Fatal(n)
	}
	mustStand(t, "fallen", r, 0, true)
}

func TestNilReader(t *testing.T) {
	var r *fields.Reader
	for range 2 {
		mustStand(t, "a nil reader", r, 0, true)
		if r.Byte() != 0 || r.Short() != 0 || r.Word() != 0 || r.Long() != 0 {
			t.Fatal("a nil reader tells a number")
		}
		for _, n := range []int{math.MinInt, -1, 0, 1, math.MaxInt} {
			mustEqual(t, "a nil reader's bytes", r.Raw(n), nil)
		}
	}
}

func TestReaderOfAnEmptyRow(t *testing.T) {
	for _, row := range [][]byte{nil, {}} {
		r := fields.Open(row)
		if r == nil {
			t.Fatal("no reader")
		}
		mustStand(t, "an empty row", r, 0, false)
		mustEqual(t, "no bytes", r.Raw(0), nil)
		mustStand(t, "an empty row, behind no bytes", r, 0, false)
		for _, it := range []item{{width: 1}, {width: 2}, {width: 4}, {width: 8}, {raw: []byte{0}}} {
			r := fields.Open(row)
			if got := ask(r, it); !same(got, nothing(it)) {
				t.Fatal(it, got)
			}
			mustStand(t, "an empty row, fallen", r, 0, true)
		}
	}
}

func TestItemsAtTheEnd(t *testing.T) {
	row := []byte{0x81, 0x92, 0xA3, 0xB4, 0xC5, 0xD6, 0xE7, 0xF8, 0x19}
	for _, width := range widths {
		for ahead := range len(row) + 1 - width {
			it := item{width: width}
			want := uint64(0)
			for _, c := range row[ahead : ahead+width] {
				want = want*256 + uint64(c)
			}

			r := fields.Open(row[:ahead+width])
			r.Raw(ahead)
			if got := ask(r, it); got.number != want {
				t.Fatalf("width %d behind %d: %x, want %x", width, ahead, got.number, want)
			}
			mustStand(t, "just at the last byte", r, 0, false)

			r = fields.Open(row[:ahead+width-1])
			r.Raw(ahead)
			mustStand(t, "ahead of the fall", r, width-1, false)
			if got := ask(r, it); got.number != 0 {
				t.Fatalf("width %d behind %d: %x past the end", width, ahead, got.number)
			}
			mustStand(t, "one behind the last byte", r, 0, true)
		}
	}
}

func TestRawOfCounts(t *testing.T) {
	row := []byte("abcdef")
	for ahead := range len(row) + 1 {
		left := len(row) - ahead
		for count := range left + 1 {
			r := fields.Open(row)
			r.Raw(ahead)
			mustEqual(t, "bytes", r.Raw(count), row[ahead:ahead+count])
			mustStand(t, "behind bytes", r, left-count, false)
		}
		for _, count := range []int{-1, -2, math.MinInt, math.MinInt + 1, math.MinInt32, left + 1, left + 2, math.MaxInt32, math.MaxInt, math.MaxInt - 1, math.MaxInt - ahead} {
			r := fields.Open(row)
			r.Raw(ahead)
			mustEqual(t, "no such bytes", r.Raw(count), nil)
			mustStand(t, "behind no such bytes", r, 0, true)
		}
	}
}

func TestBehindAFall(t *testing.T) {
	falls := []func(r *fields.Reader){
		func(r *fields.Reader) { r.Long() },
		func(r *fields.Reader) { r.Raw(8) },
		func(r *fields.Reader) { r.Raw(-1) },
		func(r *fields.Reader) { r.Raw(math.MinInt) },
		func(r *fields.Reader) { r.Raw(math.MaxInt) },
	}
	for _, fall := range falls {
		for _, it := range []item{{width: 1}, {width: 2}, {width: 4}, {width: 8}, {}, {raw: []byte("a")}, {raw: []byte("abcdefg")}} {
			r := fields.Open([]byte("abcdefg"))
			mustStand(t, "ahead of a fall", r, 7, false)
			fall(r)
			for range 3 {
				mustStand(t, "behind a fall", r, 0, true)
				if got := ask(r, it); !same(got, nothing(it)) {
					t.Fatal("behind a fall:", it, got)
				}
				mustEqual(t, "fewer than no bytes behind a fall", r.Raw(-1), nil)
			}
			mustStand(t, "behind a fall, then", r, 0, true)
		}
	}
}

func TestAskingChangesNothing(t *testing.T) {
	r := fields.Open([]byte{7, 8})
	for range 3 {
		mustStand(t, "asked over and over", r, 2, false)
	}
	if n := r.Byte(); n != 7 {
		t.Fatal(n)
	}
}

func TestReadersAreApart(t *testing.T) {
	row := []byte{1, 2, 3}
	a, b := fields.Open(row), fields.Open(row)
	a.Long()
	mustStand(t, "one", a, 0, true)
	mustStand(t, "the other", b, 3, false)
	if n := b.Byte(); n != 1 {
		t.Fatal(n)
	}
}

// P2.2 with P2.3

func TestWhatWasOpenedStays(t *testing.T) {
	memory := []byte("abcdefgh")
	r := fields.Open(memory[2:6])
	r.Byte()
	got := r.Raw(2)
	mustEqual(t, "what was handed in", memory, []byte("abcdefgh"))
	for i := range memory {
		memory[i] = 'x'
	}
	mustEqual(t, "read ahead", got, []byte("de"))
	if n := r.Byte(); n != 'f' {
		t.Fatal(n)
	}
	mustStand(t, "at the end", r, 0, false)

	memory = []byte("abcd")
	r = fields.Open(memory)
	memory[1] = 'x'
	mustEqual(t, "read behind", r.Raw(4), []byte("abcd"))
}

func TestWhatRawToldMayBeChanged(t *testing.T) {
	memory := []byte("abcdef")
	r := fields.Open(memory)
	first := r.Raw(2)
	second := r.Raw(2)
	for i := range first[:cap(first)] {
		first[:cap(first)][i] = 'x'
	}
	_ = append(second, 'y', 'z')
	mustEqual(t, "the second bytes", second, []byte("cd"))
	mustEqual(t, "the last bytes", r.Raw(2), []byte("ef"))
	mustEqual(t, "what was handed in", memory, []byte("abcdef"))
}

// P2.4

func TestItemsStandWhereThoseAheadEnd(t *testing.T) {
	rnd := rand.New(rand.NewPCG(2, 4))
	for range 200 {
		items := randomItems(rnd, rnd.IntN(12))
		b := putAll(items)
		mustEqual(t, "all", b, plainAll(items))
		at := 0
		r := fields.Open(b)
		for k, it := range items {
			mustStand(t, "ahead of an item", r, len(b)-at, false)
			if got := ask(r, it); !same(got, it) {
				t.Fatal(k, got, it)
			}
			at += len(it.plain())
			mustEqual(t, "the item's own bytes", b[at-len(it.plain()):at], it.plain())
		}
		mustStand(t, "behind all", r, 0, false)
	}
}

func TestCutOffAnywhere(t *testing.T) {
	rnd := rand.New(rand.NewPCG(2, 5))
	rows := [][]item{{{width: 1, number: 255}, {width: 2, number: 258}, {width: 4, number: 1 << 31}, {width: 8, number: math.MaxUint64}, {raw: []byte("abc")}, {}, {width: 1, number: 1}, {}}}
	for range 100 {
		rows = append(rows, randomItems(rnd, rnd.IntN(10)))
	}
	for _, items := range rows {
		b := putAll(items)
		for cut := range len(b) + 1 {
			readCut(t, items, b[:cut])
		}
	}
}

// readCut asks for all items of what was cut off.
func readCut(t *testing.T, items []item, cut []byte) {
	t.Helper()
	r := fields.Open(cut)
	end := 0
	fallen := false
	for k, it := range items {
		end += len(it.plain())
		fallen = fallen || end > len(cut)
		want := it
		if fallen {
			want = nothing(it)
		}
		if got := ask(r, it); !same(got, want) {
			t.Fatalf("cut at %d, item %d: %v, want %v", len(cut), k, got, want)
		}
		left := len(cut) - end
		if fallen {
			left = 0
		}
		mustStand(t, "of what was cut off", r, left, fallen)
	}
}

func TestNumbersAreInTheOrderOfTheirBytes(t *testing.T) {
	rnd := rand.New(rand.NewPCG(2, 6))
	for _, width := range widths {
		numbers := []uint64{0, 1, 2, 127, 128, 254, 255}
		for shift := 0; shift < 8*width; shift++ {
			numbers = append(numbers, 1<<shift, 1<<shift-1, greatest(width)-1<<shift)
		}
		for range 20 {
			numbers = append(numbers, rnd.Uint64()&greatest(width))
		}
		slices.Sort(numbers)
		for _, a := range numbers {
			for _, b := range numbers {
				inBytes := bytes.Compare(putAll([]item{{width: width, number: a}}), putAll([]item{{width: width, number: b}}))
				if inBytes != cmp.Compare(a, b) {
					t.Fatal(width, a, b)
				}
			}
		}
	}
}

func TestTwoHalvesAreOne(t *testing.T) {
	rnd := rand.New(rand.NewPCG(2, 7))
	for _, half := range []int{1, 2, 4} {
		over := greatest(half) + 1
		numbers := []uint64{0, 1, over - 1, over, over + 1, greatest(2*half) - 1, greatest(2 * half)}
		for range 50 {
			numbers = append(numbers, rnd.Uint64()&greatest(2*half))
		}
		for _, n := range numbers {
			whole := item{width: 2 * half, number: n}
			halves := []item{{width: half, number: n / over}, {width: half, number: n % over}}

			r := fields.Open(putAll([]item{whole}))
			for _, want := range halves {
				if got := ask(r, want); !same(got, want) {
					t.Fatal(n, "as two:", got, want)
				}
			}
			mustStand(t, "behind both", r, 0, false)

			r = fields.Open(putAll(halves))
			if got := ask(r, whole); !same(got, whole) {
				t.Fatal(n, "as one:", got)
			}
			mustStand(t, "behind the whole", r, 0, false)
		}
	}
}
