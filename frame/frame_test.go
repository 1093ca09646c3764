package frame_test

import (
	"bytes"
	"encoding/binary"
	"hash/crc32"
	"math"
	"math/rand"
	"slices"
	"testing"

	"grommet/api"
	"grommet/frame"
)

const (
	most    = 1 << 18
	highest = 1 << 62
)

func one(seq int, data string) frame.Frame { return frame.Frame{Seq: seq, Data: []byte(data)} }

// raw lays a frame as the chapter's words say it, whatever it tells: long and seq need not fit.
func raw(long uint32, seq uint64, data []byte) []byte {
	var told []byte
	told = binary.BigEndian.AppendUint32(told, long)
	told = binary.BigEndian.AppendUint64(told, seq)
	sum := crc32.ChecksumIEEE(slices.Concat(told, data))
	return slices.Concat([]byte("YREC"), told, binary.BigEndian.AppendUint32(nil, sum), data)
}

func wantPut(f frame.Frame) []byte { return raw(uint32(len(f.Data)), uint64(f.Seq), f.Data) }

// wantNext asks for the chapter's errors one by one, in its order.
func wantNext(b []byte) (frame.Frame, int, api.Errno) {
	none := frame.Frame{}
	begins := bytes.HasPrefix(b, []byte("YREC"))
	if len(b) < 20 && (begins || bytes.HasPrefix([]byte("YREC"), b)) {
		return none, 0, api.ErrEnd
	}
	if !begins {
		return none, 0, api.ErrForm
	}
	long := binary.BigEndian.Uint32(b[4:])
	if long > most {
		return none, 0, api.ErrMany
	}
	seq := int64(binary.BigEndian.Uint64(b[8:]))
	if seq < 1 || seq > highest {
		return none, 0, api.ErrArg
	}
	if len(b)-20 < int(long) {
		return none, 0, api.ErrEnd
	}
	data := b[20 : 20+long]
	if crc32.ChecksumIEEE(slices.Concat(b[4:16], data)) != binary.BigEndian.Uint32(b[16:]) {
		return none, 0, api.ErrSum
	}
	return frame.Frame{Seq: int(seq), Data: data}, 20 + int(long), api.OK
}

func big(long int) []byte {
	b := make([]byte, long)
	rand.New(rand.NewSource(int64(long))).Read(b)
	return b
}

// some are frames to try: numbers at the edges, with no bytes, few, such as look like a frame, and as many as may be.
func some() []frame.Frame {
	var list []frame.Frame
	for _, seq := range []int{1, 2, 7, 255, 256, 0x0102030405060708, highest - 1, highest} {
		for _, data := range [][]byte{nil, {}, {0}, {255}, []byte("ab"), []byte("YREC"), wantPut(one(1, "in")), big(255), big(256), big(257), big(1 << 16)} {
			list = append(list, frame.Frame{Seq: seq, Data: data})
		}
	}
	return append(list, frame.Frame{Seq: 1, Data: big(most)}, frame.Frame{Seq: highest, Data: big(most - 1)})
}

// rising are frames in a row, from seq on.
func rising(seq int, data ...string) []frame.Frame {
	var list []frame.Frame
	for i, text := range data {
		list = append(list, one(seq+i, text))
	}
	return list
}

func laid(list ...frame.Frame) []byte {
	var b []byte
	for _, f := range list {
		b = append(b, wantPut(f)...)
	}
	return b
}

// sameFrames is written apart from Same, which is tested too.
func sameFrames(a, b []frame.Frame) bool {
	if len(a) != len(b) {
		return false
	}
	for i := range a {
		if a[i].Seq != b[i].Seq || string(a[i].Data) != string(b[i].Data) {
			return false
		}
	}
	return true
}

func isZero(f frame.Frame) bool { return f.Seq == 0 && len(f.Data) == 0 }

func wantNextIs(t *testing.T, b []byte) {
	t.Helper()
	before := bytes.Clone(b)
	f, n, e := frame.Next(b)
	wantF, wantN, wantE := wantNext(b)
	if n != wantN || e != wantE || !sameFrames([]frame.Frame{f}, []frame.Frame{wantF}) {
		t.Fatalf("Next(%.40x of %d) = %d, %d bytes, %d, %v; want %d, %d bytes, %d, %v", b, len(b), f.Seq, len(f.Data), n, e, wantF.Seq, len(wantF.Data), wantN, wantE)
	}
	if !bytes.Equal(b, before) {
		t.Fatalf("Next turned %.40x", before)
	}
}

// P4.1: Put.

func TestPutExample(t *testing.T) {
	b, e := frame.Put(frame.Frame{Seq: 1})
	if len(b) != 20 || e != api.OK {
		t.Fatal(len(b), e)
	}
}

func TestPutByteByByte(t *testing.T) {
	b, e := frame.Put(one(0x0102030405060708, "123"))
	want := []byte{'Y', 'R', 'E', 'C', 0, 0, 0, 3, 1, 2, 3, 4, 5, 6, 7, 8, 0, 0, 0, 0, '1', '2', '3'}
	sum := crc32.ChecksumIEEE([]byte{0, 0, 0, 3, 1, 2, 3, 4, 5, 6, 7, 8, '1', '2', '3'})
	for i := range 4 {
		want[16+i] = byte(sum >> (24 - 8*i))
	}
	if !bytes.Equal(b, want) || e != api.OK {
		t.Fatalf("%x, %v; want %x", b, e, want)
	}
}

func TestPutIsTheFrame(t *testing.T) {
	for _, f := range some() {
		b, e := frame.Put(f)
		if e != api.OK || !bytes.Equal(b, wantPut(f)) {
			t.Fatalf("Put(%d, %d bytes) = %.40x, %v", f.Seq, len(f.Data), b, e)
		}
	}
}

func TestPutErrors(t *testing.T) {
	fits, above, far := big(most), big(most+1), big(1<<20)
	for _, c := range []struct {
		seq  int
		data []byte
		want api.Errno
	}{
		{0, nil, api.ErrArg}, {-1, nil, api.ErrArg}, {math.MinInt, fits, api.ErrArg},
		{highest + 1, nil, api.ErrArg}, {math.MaxInt, fits, api.ErrArg},
		{1, fits, api.OK}, {highest, fits, api.OK},
		{1, above, api.ErrMany}, {highest, above, api.ErrMany}, {1, far, api.ErrMany},
		// Of two errors the one that is named first.
		{0, above, api.ErrArg}, {-1, above, api.ErrArg}, {highest + 1, far, api.ErrArg},
	} {
		b, e := frame.Put(frame.Frame{Seq: c.seq, Data: c.data})
		if e != c.want {
			t.Errorf("Put(%d, %d bytes): %v, want %v", c.seq, len(c.data), e, c.want)
		}
		if e != api.OK && len(b) != 0 {
			t.Errorf("Put(%d, %d bytes): %d bytes beside %v", c.seq, len(c.data), len(b), e)
		}
	}
}

func TestPutLeavesItsArgument(t *testing.T) {
	data := []byte("abcdef")
	b, _ := frame.Put(frame.Frame{Seq: 3, Data: data[:3]})
	if string(data) != "abcdef" {
		t.Fatalf("turned to %q", data)
	}
	for i := range b {
		b[i] = 'z'
	}
	if string(data) != "abcdef" {
		t.Fatalf("shared: %q", data)
	}
	again, _ := frame.Put(frame.Frame{Seq: 3, Data: data[:3]})
	data[0] = 'y'
	if !bytes.Equal(again, wantPut(one(3, "abc"))) {
		t.Fatalf("%x", again)
	}
}

// P4.2: Next.

func TestNextOfFrames(t *testing.T) {
	for _, f := range some() {
		wantNextIs(t, wantPut(f))
		wantNextIs(t, append(wantPut(f), "more"...))
		wantNextIs(t, append(wantPut(f), wantPut(one(9, "behind"))...))
	}
}

func TestNextWithinTheFirstBytes(t *testing.T) {
	whole := wantPut(frame.Frame{Seq: 5})
	for n := range 20 {
		f, long, e := frame.Next(whole[:n])
		if e != api.ErrEnd || long != 0 || !isZero(f) {
			t.Errorf("%d bytes: %v, %d, %v", n, f, long, e)
		}
		// What stands behind the mark is not asked for as long as there are too few bytes.
		if n > 4 {
			wild := append([]byte("YREC"), bytes.Repeat([]byte{255}, n-4)...)
			if _, _, e := frame.Next(wild); e != api.ErrEnd {
				t.Errorf("%d wild bytes: %v", n, e)
			}
		}
	}
	if _, _, e := frame.Next(nil); e != api.ErrEnd {
		t.Error("nil:", e)
	}
	if _, _, e := frame.Next([]byte{}); e != api.ErrEnd {
		t.Error("no bytes:", e)
	}
	if f, n, e := frame.Next(whole); e != api.OK || n != 20 || f.Seq != 5 {
		t.Error("20 bytes:", f, n, e)
	}
}

func TestNextWithAnotherMark(t *testing.T) {
	whole := wantPut(one(5, "abc"))
	for at := range 4 {
		for other := range 256 {
			if byte(other) == whole[at] {
				continue
			}
			b := bytes.Clone(whole)
			b[at] = byte(other)
			for n := range len(b) + 1 {
				want := api.ErrForm
				if n <= at {
					want = api.ErrEnd
				}
				f, long, e := frame.Next(b[:n])
				if e != want || long != 0 || !isZero(f) {
					t.Fatalf("%q: %v, %d, %v, want %v", b[:n], f, long, e, want)
				}
			}
		}
	}
	for _, text := range []string{"y", "R", "YREX", "YYREC", " YREC", "yrec", "YRE\x00", "CERY"} {
		if _, _, e := frame.Next([]byte(text)); e != api.ErrForm {
			t.Errorf("%q: %v", text, e)
		}
	}
}

func TestNextNumbersThatAreTold(t *testing.T) {
	longs := []uint32{0, 1, 3, 4, most - 1, most, most + 1, 1 << 24, 1<<31 - 1, 1 << 31, math.MaxUint32 - 19, math.MaxUint32}
	seqs := []uint64{0, 1, 2, highest - 1, highest, highest + 1, math.MaxInt64, 1 << 63, 1<<63 + 1, 1<<63 + highest, math.MaxUint64}
	for _, long := range longs {
		for _, seq := range seqs {
			for _, data := range [][]byte{nil, []byte("abc"), big(most), big(most + 1)} {
				wantNextIs(t, raw(long, seq, data))
			}
		}
	}
}

func TestNextErrorsInOrder(t *testing.T) {
	turned := func(b []byte, at int) []byte { b = bytes.Clone(b); b[at] ^= 1; return b }
	for _, c := range []struct {
		name string
		b    []byte
		want api.Errno
	}{
		{"another mark, ahead of all", turned(raw(most+1, 0, nil), 0), api.ErrForm},
		{"another mark, short", turned(raw(most+1, 0, nil), 2)[:19], api.ErrForm},
		{"too many, ahead of a number of 0", raw(most+1, 0, nil), api.ErrMany},
		{"too many, though all are there", raw(most+1, 1, big(most+1)), api.ErrMany},
		{"too many, ahead of a wrong sum", turned(raw(most+1, 1, nil), 19), api.ErrMany},
		{"number 0, ahead of missing bytes", raw(4, 0, []byte("abc")), api.ErrArg},
		{"number 0, ahead of a wrong sum", turned(raw(3, 0, []byte("abc")), 22), api.ErrArg},
		{"number 2^62 + 1, all else right", raw(3, highest+1, []byte("abc")), api.ErrArg},
		{"a number whose highest bit is set", raw(3, 1<<63|5, []byte("abc")), api.ErrArg},
		{"missing bytes, ahead of a wrong sum", turned(raw(4, 1, []byte("abc")), 16), api.ErrEnd},
		{"missing bytes", raw(4, 1, []byte("abc")), api.ErrEnd},
		{"the most bytes, all missing", raw(most, highest, nil), api.ErrEnd},
		{"a wrong sum", turned(raw(3, 1, []byte("abc")), 16), api.ErrSum},
		{"a byte that was turned", turned(raw(3, 1, []byte("abc")), 22), api.ErrSum},
		{"a number that was turned", turned(raw(3, 2, []byte("abc")), 8), api.ErrSum},
		{"fewer bytes told than summed", raw(2, 1, []byte("abc")), api.ErrSum},
		{"right", raw(3, 1, []byte("abc")), api.OK},
	} {
		f, n, e := frame.Next(c.b)
		if e != c.want || e != api.OK && (n != 0 || !isZero(f)) {
			t.Errorf("%s: %v, %d, %v, want %v", c.name, f, n, e, c.want)
		}
	}
}

// The sum is of the told numbers and the bytes: not of the mark, and not of what stands behind.
func TestNextSumOfOtherBytes(t *testing.T) {
	whole := wantPut(one(1, "abc"))
	for _, summed := range [][]byte{[]byte("abc"), whole[4:16], append([]byte("YREC"), append(whole[4:16:16], "abc"...)...)} {
		b := bytes.Clone(whole)
		binary.BigEndian.PutUint32(b[16:], crc32.ChecksumIEEE(summed))
		if _, _, e := frame.Next(b); e != api.ErrSum {
			t.Errorf("sum of %q: %v", summed, e)
		}
	}
	b := bytes.Clone(whole)
	slices.Reverse(b[16:20])
	if _, _, e := frame.Next(b); e != api.ErrSum {
		t.Errorf("sum with the lowest byte first: %v", e)
	}
}

func TestNextOfMixedBytes(t *testing.T) {
	draw := rand.New(rand.NewSource(4))
	for range 20000 {
		b := wantPut(frame.Frame{Seq: 1 + draw.Intn(3), Data: big(draw.Intn(6))})
		for range draw.Intn(3) {
			b[draw.Intn(len(b))] = byte(draw.Intn(256))
		}
		wantNextIs(t, b[:draw.Intn(len(b)+1)])
	}
}

func TestNextAnswersNewBytes(t *testing.T) {
	b := laid(one(1, "abc"), one(2, "def"))
	before := bytes.Clone(b)
	f, _, _ := frame.Next(b)
	for i := range f.Data {
		f.Data[i] = 'z'
	}
	_ = append(f.Data, "zzzz"...)
	if !bytes.Equal(b, before) {
		t.Fatalf("%q", b)
	}
	f, _, _ = frame.Next(b)
	clear(b)
	if string(f.Data) != "abc" {
		t.Fatalf("%q", f.Data)
	}
}

// P4.3: Scan and Same.

func wantScanIs(t *testing.T, b []byte, seq int, want []frame.Frame) {
	t.Helper()
	before := bytes.Clone(b)
	list, n := frame.Scan(b, seq)
	if !sameFrames(list, want) || n != len(laid(want...)) {
		t.Fatalf("Scan(%.60q, %d) = %v, %d; want %v, %d", b, seq, list, n, want, len(laid(want...)))
	}
	if !bytes.Equal(b, before) {
		t.Fatalf("Scan turned %.60q", before)
	}
}

func TestScanInARow(t *testing.T) {
	wantScanIs(t, nil, 1, nil)
	wantScanIs(t, []byte{}, 1, nil)
	for _, seq := range []int{1, 2, 7, 255, highest - 2} {
		list := rising(seq, "ab", "", "c")
		b := laid(list...)
		wantScanIs(t, b, seq, list)
		for _, other := range []int{seq - 1, seq + 1, seq + 2, 0, -1, -seq, math.MinInt, math.MaxInt, highest, highest + 1} {
			wantScanIs(t, b, other, nil)
		}
	}
}

func TestScanEndsAtAnotherNumber(t *testing.T) {
	for _, seqs := range [][]int{{4, 5, 7}, {4, 5, 5}, {4, 5, 4}, {4, 5, 1}, {4, 5, highest}, {4, 5, 7, 6}} {
		var list []frame.Frame
		for _, seq := range seqs {
			list = append(list, one(seq, "x"))
		}
		wantScanIs(t, laid(list...), 4, list[:2])
		wantScanIs(t, laid(list...), 5, nil)
	}
}

func TestScanEndsAtAFault(t *testing.T) {
	list := rising(4, "ab", "cd")
	b := laid(list...)
	sum := wantPut(one(6, "ef"))
	sum[19] ^= 1
	for _, behind := range [][]byte{sum, raw(most+1, 6, nil), raw(3, 6, []byte("ef")), []byte("YRE"), []byte("x"), {0}, []byte("YREC\x00")} {
		// A frame that would go on lies behind the fault, and is not taken.
		wantScanIs(t, slices.Concat(b, behind, wantPut(one(6, "ef"))), 4, list)
		wantScanIs(t, slices.Concat(behind, b), 4, nil)
	}
}

func TestScanOfNumbersThatMayNotBe(t *testing.T) {
	for _, seq := range []int{0, -1, math.MinInt, highest + 1, math.MaxInt} {
		wantScanIs(t, raw(2, uint64(seq), []byte("ab")), seq, nil)
	}
	// 2^62 is the last number that may be.
	last := one(highest, "ab")
	wantScanIs(t, append(wantPut(last), raw(2, highest+1, []byte("cd"))...), highest, []frame.Frame{last})
	// From a number below 1 on none is taken, though those in the row would reach 1.
	wantScanIs(t, laid(rising(1, "a", "b")...), 0, nil)
	wantScanIs(t, append(raw(0, 0, nil), laid(rising(1, "a", "b")...)...), 0, nil)
}

func TestScanOfMany(t *testing.T) {
	var list []frame.Frame
	for i := range 300 {
		list = append(list, frame.Frame{Seq: 9 + i, Data: big(i)})
	}
	wantScanIs(t, laid(list...), 9, list)
	list = []frame.Frame{{Seq: 1, Data: big(most)}, {Seq: 2, Data: big(most)}, {Seq: 3}}
	wantScanIs(t, laid(list...), 1, list)
}

func TestScanAnswersNewBytes(t *testing.T) {
	b := laid(rising(1, "abc", "def", "ghi")...)
	before := bytes.Clone(b)
	list, _ := frame.Scan(b, 1)
	for i := range list[0].Data {
		list[0].Data[i] = 'z'
	}
	_ = append(list[0].Data, bytes.Repeat([]byte("z"), 60)...)
	if !bytes.Equal(b, before) || !sameFrames(list[1:], rising(2, "def", "ghi")) {
		t.Fatalf("%q, %v", b, list)
	}
	clear(b)
	if !sameFrames(list, rising(1, "zzz", "def", "ghi")) {
		t.Fatalf("%v", list)
	}
}

func TestSame(t *testing.T) {
	empty, none := []frame.Frame{{Seq: 1, Data: []byte{}}}, []frame.Frame{{Seq: 1}}
	list := rising(1, "a", "bc")
	for _, c := range []struct {
		name string
		a, b []frame.Frame
		want bool
	}{
		{"nil and empty", nil, []frame.Frame{}, true},
		{"nil and nil", nil, nil, true},
		{"no bytes and nil ones", empty, none, true},
		{"one and itself", list, list, true},
		{"one and its like", list, rising(1, "a", "bc"), true},
		{"one more", list, rising(1, "a", "bc", ""), false},
		{"none and one", nil, none, false},
		{"other numbers", list, rising(2, "a", "bc"), false},
		{"another last number", list, []frame.Frame{one(1, "a"), one(3, "bc")}, false},
		{"other bytes", list, rising(1, "a", "bd"), false},
		{"fewer bytes", list, rising(1, "a", "b"), false},
		{"the same bytes, cut elsewhere", list, rising(1, "ab", "c"), false},
		{"another order", list, []frame.Frame{list[1], list[0]}, false},
		{"a zero byte and none", rising(1, "\x00"), rising(1, ""), false},
		{"no frame and a zero one", nil, []frame.Frame{{}}, false},
		{"numbers that may not be", []frame.Frame{{Seq: -1}}, []frame.Frame{{Seq: -1}}, true},
		{"numbers below 1", []frame.Frame{{Seq: -1}}, []frame.Frame{{Seq: 0}}, false},
	} {
		if frame.Same(c.a, c.b) != c.want || frame.Same(c.b, c.a) != c.want {
			t.Errorf("%s: not %v", c.name, c.want)
		}
	}
}

// P4.4: what is put is got.

func TestPutIsGot(t *testing.T) {
	for _, f := range some() {
		b, _ := frame.Put(f)
		for _, behind := range []string{"", "Y", "YREC", "zzz"} {
			got, n, e := frame.Next(append(bytes.Clone(b), behind...))
			if e != api.OK || n != len(b) || !sameFrames([]frame.Frame{got}, []frame.Frame{f}) {
				t.Fatalf("%d, %d bytes: got %d, %d bytes, %d, %v", f.Seq, len(f.Data), got.Seq, len(got.Data), n, e)
			}
		}
	}
}

func TestAllThatArePutAreScanned(t *testing.T) {
	draw := rand.New(rand.NewSource(5))
	for range 300 {
		seq := 1 + draw.Intn(1<<40)
		var list []frame.Frame
		var b []byte
		for i := range draw.Intn(8) {
			f := frame.Frame{Seq: seq + i, Data: big(draw.Intn(90))}
			put, _ := frame.Put(f)
			list, b = append(list, f), append(b, put...)
		}
		got, n := frame.Scan(b, seq)
		if !frame.Same(got, list) || n != len(b) {
			t.Fatalf("%d of %d, %d of %d bytes", len(got), len(list), n, len(b))
		}
	}
}

// P4.5: frames that are cut off, and ones of which a byte was turned.

func TestFramesCutOffAnywhere(t *testing.T) {
	list := rising(6, "ab", "", "YREC", string(wantPut(one(8, "x"))), "e")
	b := laid(list...)
	whole, end := 0, len(laid(list[0]))
	for n := range len(b) + 1 {
		if n == end {
			whole++
			end += len(laid(list[min(whole, len(list)-1)]))
		}
		wantScanIs(t, b[:n], 6, list[:whole])
	}
	if whole != len(list) {
		t.Fatal(whole)
	}
}

func TestFramesWithAByteTurned(t *testing.T) {
	for _, f := range []frame.Frame{one(1, ""), one(7, "ab"), one(highest, "abc"), one(300, "\x00\x00\x00\x00"), one(2, "YREC")} {
		b, _ := frame.Put(f)
		for at := range b {
			for other := 1; other < 256; other++ {
				turned := bytes.Clone(b)
				turned[at] ^= byte(other)
				wantNextIs(t, turned)
				if got, n, e := frame.Next(turned); e == api.OK {
					t.Fatalf("%d, %q: byte %d turned by %d: got %d, %q, %d", f.Seq, f.Data, at, other, got.Seq, got.Data, n)
				}
			}
		}
	}
}

func TestScanWithAByteTurned(t *testing.T) {
	list := rising(6, "ab", "", "cde")
	b := laid(list...)
	for at := range b {
		// The frames ahead of the one that has the turned byte are got, and no other ones.
		ahead := 0
		for at >= len(laid(list[:ahead+1]...)) {
			ahead++
		}
		for bit := range 8 {
			turned := bytes.Clone(b)
			turned[at] ^= 1 << bit
			wantScanIs(t, turned, 6, list[:ahead])
		}
	}
}
