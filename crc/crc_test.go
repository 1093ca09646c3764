package crc_test

import (
	"bytes"
	"hash/crc32"
	"math"
	"math/rand"
	"slices"
	"testing"

	"grommet/crc"
)

// wantSum goes bit by bit, as the chapter's words say it.
func wantSum(b []byte) uint32 {
	sum := uint32(0xFFFFFFFF)
	for _, one := range b {
		sum ^= uint32(one)
		for range 8 {
			low := sum % 2
			sum /= 2
			if low == 1 {
				sum ^= 0xEDB88320
			}
		}
	}
	return sum ^ 0xFFFFFFFF
}

// wantJoined lays long zeros behind a, bit by bit, whose sum nothing is begun with and nothing turned.
func wantJoined(a, b uint32, long int) uint32 {
	for range 8 * max(long, 0) {
		low := a % 2
		a /= 2
		if low == 1 {
			a ^= 0xEDB88320
		}
	}
	if long < 1 {
		return a
	}
	return a ^ b
}

// some are rows of bytes to try: none, one, equal ones, rising ones, mixed ones, and such as are longer than 2^16.
func some() [][]byte {
	draw := rand.New(rand.NewSource(3))
	list := [][]byte{nil, {}, {0}, {255}, []byte("123456789"), []byte("a: [1, \xe2\x82\xac]\n")}
	for _, long := range []int{2, 3, 4, 5, 7, 8, 16, 31, 64, 255, 256, 257} {
		mixed := make([]byte, long)
		draw.Read(mixed)
		rising := make([]byte, long)
		for i := range rising {
			rising[i] = byte(i)
		}
		list = append(list, mixed, rising, make([]byte, long), bytes.Repeat([]byte{255}, long))
	}
	return list
}

func big(long int) []byte {
	b := make([]byte, long)
	rand.New(rand.NewSource(int64(long))).Read(b)
	return b
}

// sums are ones at the edges of 32 bits, each bit alone, and mixed ones.
func sums() []uint32 {
	list := []uint32{0, 1, 0xFFFFFFFF, 0xFFFFFFFE, 0x7FFFFFFF, 0xEDB88320, 0xCBF43926}
	for bit := range 32 {
		list = append(list, 1<<bit)
	}
	draw := rand.New(rand.NewSource(4))
	for range 40 {
		list = append(list, draw.Uint32())
	}
	return list
}

func cat(parts ...[]byte) []byte { return bytes.Join(parts, nil) }

// P3.1: Sum.

func TestSumOfTheExample(t *testing.T) {
	if got := crc.Sum([]byte("123456789")); got != 0xCBF43926 {
		t.Errorf("%#x", got)
	}
}

func TestSumsThatAreKnown(t *testing.T) {
	for _, c := range []struct {
		text string
		want uint32
	}{
		{"", 0},
		{"a", 0xE8B7BE43},
		{"abc", 0x352441C2},
		{"\x00", 0xD202EF8D},
		{"\xff", 0xFF000000},
		{"\x00\x00\x00\x00", 0x2144DF1C},
		{"\xff\xff\xff\xff", 0xFFFFFFFF},
		{"The quick brown fox jumps over the lazy dog", 0x414FA339},
	} {
		if got := crc.Sum([]byte(c.text)); got != c.want {
			t.Errorf("Sum(%q): %#x, not %#x", c.text, got, c.want)
		}
	}
}

func TestSumOfNoBytes(t *testing.T) {
	if got := crc.Sum(); got != 0 {
		t.Errorf("no part: %#x", got)
	}
	if got := crc.Sum(nil); got != 0 {
		t.Errorf("nil: %#x", got)
	}
	if got := crc.Sum([]byte{}, nil, []byte{}); got != 0 {
		t.Errorf("parts of no bytes: %#x", got)
	}
}

func TestSumOfEachByte(t *testing.T) {
	for one := range 256 {
		for two := range 256 {
			b := []byte{byte(one), byte(two)}
			if got, want := crc.Sum(b[:1]), wantSum(b[:1]); got != want {
				t.Fatalf("Sum(%v): %#x, not %#x", b[:1], got, want)
			}
			if got, want := crc.Sum(b), wantSum(b); got != want {
				t.Fatalf("Sum(%v): %#x, not %#x", b, got, want)
			}
		}
	}
}

func TestSumIsTheOneOfTheWords(t *testing.T) {
	for _, b := range append(some(), big(1<<16), big(1<<16+1)) {
		want := wantSum(b)
		if library := crc32.ChecksumIEEE(b); library != want {
			t.Fatalf("%d bytes: the words' sum is %#x, the library's %#x", len(b), want, library)
		}
		if got := crc.Sum(b); got != want {
			t.Errorf("%d bytes: %#x, not %#x", len(b), got, want)
		}
	}
}

func TestSumHangsOnTheOrder(t *testing.T) {
	a, b := []byte("ab"), []byte("cd")
	if crc.Sum(a, b) != wantSum([]byte("abcd")) || crc.Sum(b, a) != wantSum([]byte("cdab")) {
		t.Error("parts aren't taken one behind the other")
	}
}

// P3.1: Add.

func TestAddIsTheSumOfBoth(t *testing.T) {
	for _, a := range some() {
		for _, b := range some() {
			if got, want := crc.Add(crc.Sum(a), b), wantSum(cat(a, b)); got != want {
				t.Fatalf("%v and %v: %#x, not %#x", a, b, got, want)
			}
		}
	}
}

func TestAddToNoBytesIsTheSum(t *testing.T) {
	for _, b := range some() {
		if got, want := crc.Add(0, b), wantSum(b); got != want {
			t.Errorf("%v: %#x, not %#x", b, got, want)
		}
	}
}

func TestAddOfNoBytesIsTheSumItself(t *testing.T) {
	for _, sum := range sums() {
		if crc.Add(sum, nil) != sum || crc.Add(sum, []byte{}) != sum {
			t.Errorf("%#x is turned by no bytes", sum)
		}
	}
}

func TestAddToAnySum(t *testing.T) {
	for _, sum := range sums() {
		for _, b := range some() {
			if got, want := crc.Add(sum, b), crc32.Update(sum, crc32.IEEETable, b); got != want {
				t.Fatalf("Add(%#x, %v): %#x, not %#x", sum, b, got, want)
			}
		}
	}
}

func TestAddByteByByte(t *testing.T) {
	b := big(5000)
	var sum uint32
	for i := range b {
		sum = crc.Add(sum, b[i:i+1])
		if i%97 == 0 && sum != wantSum(b[:i+1]) {
			t.Fatalf("%d bytes: %#x", i+1, sum)
		}
	}
	if sum != wantSum(b) {
		t.Errorf("%#x", sum)
	}
}

// P3.2.

func TestJoinedIsTheSumOfBoth(t *testing.T) {
	for _, a := range some() {
		for _, b := range some() {
			got, want := crc.Joined(wantSum(a), wantSum(b), len(b)), wantSum(cat(a, b))
			if got != want {
				t.Fatalf("%v and %v: %#x, not %#x", a, b, got, want)
			}
		}
	}
}

func TestJoinedOfTheExample(t *testing.T) {
	whole := []byte("123456789")
	for cut := range len(whole) + 1 {
		a, b := whole[:cut], whole[cut:]
		if got := crc.Joined(crc.Sum(a), crc.Sum(b), len(b)); got != 0xCBF43926 {
			t.Errorf("cut at %d: %#x", cut, got)
		}
	}
}

func TestJoinedOfALongBelowOne(t *testing.T) {
	for _, a := range sums() {
		for _, b := range sums() {
			for _, long := range []int{0, -1, -2, -8, math.MinInt32, math.MinInt + 1, math.MinInt} {
				if got := crc.Joined(a, b, long); got != a {
					t.Fatalf("Joined(%#x, %#x, %d): %#x", a, b, long, got)
				}
			}
		}
	}
}

func TestJoinedOfAnySums(t *testing.T) {
	for _, a := range sums() {
		for _, b := range sums() {
			for _, long := range []int{1, 2, 3, 4, 5, 15, 16, 17} {
				if got, want := crc.Joined(a, b, long), wantJoined(a, b, long); got != want {
					t.Fatalf("Joined(%#x, %#x, %d): %#x, not %#x", a, b, long, got, want)
				}
			}
		}
	}
}

func TestJoinedOfEveryLongUpToAThousand(t *testing.T) {
	a := uint32(0xCBF43926)
	for long := range 1001 {
		if got, want := crc.Joined(a, 0x352441C2, long), wantJoined(a, 0x352441C2, long); got != want {
			t.Fatalf("%d: %#x, not %#x", long, got, want)
		}
	}
}

func TestJoinedOfManyBytes(t *testing.T) {
	for _, long := range []int{1<<16 - 1, 1 << 16, 1<<16 + 1, 1 << 20, 1<<20 + 12345} {
		a, b := []byte("begin"), big(long)
		want := crc32.Update(crc32.ChecksumIEEE(a), crc32.IEEETable, b)
		if got := crc.Joined(crc32.ChecksumIEEE(a), crc32.ChecksumIEEE(b), long); got != want {
			t.Errorf("%d: %#x, not %#x", long, got, want)
		}
	}
}

// The powers come round after 2^32 - 1 bits, so that as many bytes raise a sum by nothing.
func TestJoinedOfMoreBytesThanLieInMemory(t *testing.T) {
	const round = 1<<32 - 1
	for _, a := range sums() {
		b := ^a * 7
		if got := crc.Joined(a, b, round); got != a^b {
			t.Errorf("Joined(%#x, %#x, 2^32 - 1): %#x", a, b, got)
		}
		for _, long := range []int{1, 2, 77, 1000} {
			if got, want := crc.Joined(a, b, round+long), wantJoined(a, b, long); got != want {
				t.Errorf("Joined(%#x, %#x, 2^32 - 1 + %d): %#x, not %#x", a, b, long, got, want)
			}
		}
		// 2^63 - 1 is 2^31 - 1 and some rounds.
		if got, want := crc.Joined(a, b, math.MaxInt64), crc.Joined(a, b, math.MaxInt32); got != want {
			t.Errorf("Joined(%#x, %#x, 2^63 - 1): %#x, not %#x", a, b, got, want)
		}
		// A long of 2^61 bytes has more bits than an int tells.
		if got, want := crc.Joined(a, b, 1<<61), crc.Joined(a, b, 1<<29); got != want {
			t.Errorf("Joined(%#x, %#x, 2^61): %#x, not %#x", a, b, got, want)
		}
	}
}

func TestJoinedOfThree(t *testing.T) {
	longs := []int{1, 2, 9, 255, 65536, 1 << 31, 1 << 40, 1<<61 + 5}
	for i, a := range sums() {
		b, c := ^a, a*31+uint32(i)
		for _, m := range longs {
			for _, n := range longs {
				left := crc.Joined(crc.Joined(a, b, m), c, n)
				right := crc.Joined(a, crc.Joined(b, c, n), m+n)
				if left != right {
					t.Fatalf("%#x %#x %#x, %d and %d: %#x and %#x", a, b, c, m, n, left, right)
				}
			}
		}
	}
}

// P3.3.

func TestOneTurnedByteTurnsTheSum(t *testing.T) {
	for _, b := range some() {
		was := crc.Sum(b)
		for place := range b {
			turned := slices.Clone(b)
			for by := 1; by < 256; by++ {
				turned[place] = b[place] ^ byte(by)
				if crc.Sum(turned) == was {
					t.Fatalf("%d bytes: byte %d turned by %d has the same sum", len(b), place, by)
				}
			}
		}
	}
}

func TestOneTurnedByteTurnsTheSumOfManyBytes(t *testing.T) {
	b := big(1 << 16)
	was := crc.Sum(b)
	for place := 0; place < len(b); place += 4093 {
		for _, by := range []byte{1, 2, 16, 128, 255} {
			turned := slices.Clone(b)
			turned[place] ^= by
			if crc.Sum(turned) == was {
				t.Fatalf("byte %d turned by %d has the same sum", place, by)
			}
		}
	}
}

func TestOneTurnedByteTurnsSumsThatAreAddedToAndJoined(t *testing.T) {
	whole := []byte("123456789")
	for cut := range len(whole) + 1 {
		for place := range whole {
			for by := 1; by < 256; by++ {
				turned := slices.Clone(whole)
				turned[place] ^= byte(by)
				a, b := turned[:cut], turned[cut:]
				if crc.Add(crc.Sum(a), b) == 0xCBF43926 {
					t.Fatalf("Add: cut at %d, byte %d turned by %d", cut, place, by)
				}
				if crc.Joined(crc.Sum(a), crc.Sum(b), len(b)) == 0xCBF43926 {
					t.Fatalf("Joined: cut at %d, byte %d turned by %d", cut, place, by)
				}
			}
		}
	}
}

// P3.4.

func TestSumOfTwoPartsCutAnywhere(t *testing.T) {
	for _, b := range some() {
		want := wantSum(b)
		for cut := range len(b) + 1 {
			if got := crc.Sum(b[:cut], b[cut:]); got != want {
				t.Fatalf("%d bytes cut at %d: %#x, not %#x", len(b), cut, got, want)
			}
			if got := crc.Add(crc.Add(0, b[:cut]), b[cut:]); got != want {
				t.Fatalf("Add: %d bytes cut at %d: %#x, not %#x", len(b), cut, got, want)
			}
		}
	}
}

func TestSumOfThreePartsCutAnywhere(t *testing.T) {
	for _, b := range some() {
		if len(b) > 64 {
			continue
		}
		want := wantSum(b)
		for one := range len(b) + 1 {
			for two := one; two <= len(b); two++ {
				if got := crc.Sum(b[:one], nil, b[one:two], []byte{}, b[two:]); got != want {
					t.Fatalf("%d bytes cut at %d and %d: %#x, not %#x", len(b), one, two, got, want)
				}
			}
		}
	}
}

func TestSumOfSingleBytes(t *testing.T) {
	for _, b := range append(some(), big(1<<16)) {
		var parts [][]byte
		for i := range b {
			parts = append(parts, b[i:i+1], nil)
		}
		if got, want := crc.Sum(parts...), wantSum(b); got != want {
			t.Errorf("%d bytes: %#x, not %#x", len(b), got, want)
		}
	}
}

// R3 and R4.

func TestArgumentsAreNotWrittenInto(t *testing.T) {
	a, b := big(100), big(200)
	parts := [][]byte{a, nil, b}
	first := crc.Sum(parts...)
	crc.Add(first, b)
	if !bytes.Equal(a, big(100)) || !bytes.Equal(b, big(200)) || len(parts) != 3 || parts[1] != nil {
		t.Error("an argument was written into")
	}
	if crc.Sum(parts...) != first {
		t.Error("the same call has another answer")
	}
	a[0] ^= 1
	if crc.Sum(parts...) == first || crc.Sum(big(100), b) != first {
		t.Error("an argument was kept")
	}
}
