package disk_test

import (
	"bytes"
	"fmt"
	"math"
	"math/rand"
	"slices"
	"strings"
	"testing"

	"grommet/api"
	"grommet/disk"
)

func newDisk(t *testing.T, room int) *disk.Disk {
	t.Helper()
	d, why := disk.New(room)
	if d == nil || why != api.OK {
		t.Fatalf("New(%d) = %v, %v", room, d, why)
	}
	return d
}

func is(t *testing.T, what string, got, want api.Errno) {
	t.Helper()
	if got != want {
		t.Fatalf("%s: %v, want %v", what, got, want)
	}
}

// ok ends the test if a call was refused.
func ok(t *testing.T, list ...api.Errno) {
	t.Helper()
	for i, why := range list {
		is(t, fmt.Sprint("call ", i), why, api.OK)
	}
}

// put makes a file of these bytes, none of them kept.
func put(t *testing.T, d *disk.Disk, name, b string) {
	t.Helper()
	ok(t, d.Create(name), d.Append(name, []byte(b)))
}

func lose(t *testing.T, d *disk.Disk) {
	t.Helper()
	d.Arm(0)
	is(t, "the call that finds the power off", d.SyncDir(), api.ErrDown)
	if d.On() {
		t.Fatal("the power is on behind a loss")
	}
}

// has asks for all names and bytes, as `a=xy b=`.
func has(t *testing.T, d *disk.Disk, want string) {
	t.Helper()
	var all []string
	used := 0
	for _, name := range d.Names() {
		b, why := d.Read(name)
		is(t, "Read "+name, why, api.OK)
		all = append(all, name+"="+string(b))
		used += len(b)
	}
	if got := strings.Join(all, " "); got != want || d.Used() != used {
		t.Fatalf("%q, %d used; want %q", got, d.Used(), want)
	}
}

func full(t *testing.T) *disk.Disk {
	t.Helper()
	d := newDisk(t, 100)
	for i := range 64 {
		ok(t, d.Create(fmt.Sprintf("f%02d", i)))
	}
	return d
}

// P5.1: New, the calls of the table, and Read.

func TestNewRoom(t *testing.T) {
	for _, room := range []int{-1, -2, math.MinInt, 1<<20 + 1, 1 << 21, 1 << 32, math.MaxInt} {
		if d, why := disk.New(room); d != nil || why != api.ErrArg {
			t.Errorf("New(%d) = %v, %v", room, d, why)
		}
	}
	for _, room := range []int{0, 1, 2, 1<<20 - 1, 1 << 20} {
		d := newDisk(t, room)
		if !d.On() || len(d.Names()) != 0 || d.Used() != 0 || d.Calls() != 0 {
			t.Errorf("New(%d): %v, %v, %d, %d", room, d.On(), d.Names(), d.Used(), d.Calls())
		}
		for range 1000 {
			is(t, "without a fuse", d.SyncDir(), api.OK)
		}
		ok(t, d.Create("a"))
		is(t, "a byte too many", d.Append("a", make([]byte, room+1)), api.ErrFull)
		ok(t, d.Append("a", make([]byte, room)))
		is(t, "one more", d.Append("a", []byte{0}), api.ErrFull)
		if b, _ := d.Read("a"); len(b) != room || d.Used() != room {
			t.Errorf("room %d: %d bytes, %d used", room, len(b), d.Used())
		}
	}
}

func TestTwoDisksAreApart(t *testing.T) {
	a, b := newDisk(t, 9), newDisk(t, 9)
	put(t, a, "x", "1")
	has(t, b, "")
	lose(t, a)
	if !b.On() {
		t.Fatal("both are off")
	}
}

// someNames are names, and whether they may be.
func someNames() map[string]bool {
	names := map[string]bool{
		"": false, "a": true, "log": true, "base.new": true, ".": true, "..": true, "-": true, "_": true, "0": true,
		strings.Repeat("a", 31): true, strings.Repeat("z", 32): true, strings.Repeat("a", 33): false, strings.Repeat("9", 400): false,
		"a b": false, "a/b": false, "aB": false, "\u00e4": false, "a\u00df": false, "a\x00": false, "a\n": false, "\xff": false, "\u0661": false,
		strings.Repeat("a", 31) + "A": false, "A" + strings.Repeat("a", 31): false,
	}
	for c := range 256 {
		b := byte(c)
		fits := b >= 'a' && b <= 'z' || b >= '0' && b <= '9' || b == '.' || b == '-' || b == '_'
		for _, name := range [][]byte{{b}, {b, 'x'}, {'x', b}, {'x', b, 'x'}} {
			names[string(name)] = fits
		}
	}
	return names
}

func TestNamesThatMayBe(t *testing.T) {
	for name, fits := range someNames() {
		want := api.OK
		if !fits {
			want = api.ErrArg
		}
		d := newDisk(t, 9)
		is(t, fmt.Sprintf("Create(%q)", name), d.Create(name), want)
		put(t, d, "from", "1")
		is(t, fmt.Sprintf("Rename(%q)", name), d.Rename("from", name), want)
		if fits {
			has(t, d, name+"=1")
		} else {
			has(t, d, "from=1")
			// A name that may not be is one of none.
			_, why := d.Read(name)
			is(t, "Read", why, api.ErrNone)
			is(t, "Append", d.Append(name, nil), api.ErrNone)
			is(t, "Sync", d.Sync(name), api.ErrNone)
			is(t, "Remove", d.Remove(name), api.ErrNone)
			is(t, "Rename", d.Rename(name, "x"), api.ErrNone)
		}
	}
}

func TestSixtyFourNames(t *testing.T) {
	d := full(t)
	before := d.Calls()
	is(t, "65 names", d.Create("g"), api.ErrMany)
	is(t, "a name that may not be, ahead of too many", d.Create("G"), api.ErrArg)
	if len(d.Names()) != 64 || d.Calls() != before {
		t.Fatal(len(d.Names()), d.Calls())
	}
	ok(t, d.Create("f00"), d.Rename("f01", "g"))
	is(t, "65 names", d.Create("h"), api.ErrMany)
	is(t, "65 names", d.Create("f01"), api.ErrMany)
	ok(t, d.Remove("f02"), d.Create("h"))
	is(t, "65 names", d.Create("f02"), api.ErrMany)
	ok(t, d.Rename("f03", "f04"), d.Create("f02"))
	is(t, "65 names", d.Create("f03"), api.ErrMany)
	if len(d.Names()) != 64 {
		t.Fatal(len(d.Names()))
	}
}

func TestErrorsOfNamesOfNone(t *testing.T) {
	d := newDisk(t, 3)
	put(t, d, "a", "xyz")
	big := make([]byte, 10)
	_, why := d.Read("b")
	is(t, "Read", why, api.ErrNone)
	is(t, "Append", d.Append("b", []byte("x")), api.ErrNone)
	is(t, "Append, ahead of no room", d.Append("b", big), api.ErrNone)
	is(t, "Sync", d.Sync("b"), api.ErrNone)
	is(t, "Remove", d.Remove("b"), api.ErrNone)
	is(t, "Rename", d.Rename("b", "c"), api.ErrNone)
	is(t, "Rename onto one that is there", d.Rename("b", "a"), api.ErrNone)
	is(t, "Rename onto itself", d.Rename("b", "b"), api.ErrNone)
	is(t, "Rename, ahead of a name that may not be", d.Rename("b", "B"), api.ErrNone)
	is(t, "Rename of and to one that may not be", d.Rename("", ""), api.ErrNone)
	is(t, "Rename to one that may not be", d.Rename("a", "B"), api.ErrArg)
	has(t, d, "a=xyz")
	if d.Calls() != 2 {
		t.Fatal(d.Calls())
	}
}

// wrongs are calls that are refused whatever the disk has, or that are done.
func wrongs() []step {
	return []step{
		{call: "Create", name: "A"}, {call: "Create", name: "x"}, {call: "Append", name: "a", n: 1}, {call: "Append", name: "a", n: 99},
		{call: "Append", name: "none", n: 1}, {call: "Sync", name: "a"}, {call: "Sync", name: "none"}, {call: "Rename", name: "a", to: "b"},
		{call: "Rename", name: "a", to: "a"}, {call: "Rename", name: "a", to: "A"}, {call: "Rename", name: "none", to: ""},
		{call: "Remove", name: "a"}, {call: "Remove", name: "none"}, {call: "SyncDir"}, {call: "Read", name: "a"}, {call: "Read", name: "none"},
	}
}

func TestDownAheadOfAllElse(t *testing.T) {
	d := newDisk(t, 9)
	put(t, d, "a", "xy")
	lose(t, d)
	before := d.Calls()
	for _, s := range wrongs() {
		is(t, fmt.Sprint(s), call(d, s, strings.Repeat("q", s.n)), api.ErrDown)
	}
	if b, _ := d.Read("a"); len(b) != 0 || len(d.Names()) != 0 || d.Used() != 0 || d.Calls() != before {
		t.Fatal(b, d.Names(), d.Used(), d.Calls())
	}
	ok(t, d.Start(1, []int{2}))
	has(t, d, "a=xy")
}

func TestRoom(t *testing.T) {
	d := newDisk(t, 5)
	put(t, d, "a", "xy")
	put(t, d, "b", "xyz")
	is(t, "one more", d.Append("a", []byte("q")), api.ErrFull)
	is(t, "one more", d.Append("b", []byte("q")), api.ErrFull)
	ok(t, d.Append("a", nil), d.Append("b", []byte{}))
	has(t, d, "a=xy b=xyz")
	// A file that no name is of any longer takes no room.
	ok(t, d.Create("b"), d.Append("b", []byte("pqr")))
	ok(t, d.Remove("a"), d.Append("b", []byte("st")))
	is(t, "one more", d.Append("b", []byte("q")), api.ErrFull)
	has(t, d, "b=pqrst")
	put(t, d, "c", "")
	ok(t, d.Rename("c", "b"), d.Append("b", []byte("fives")))
	has(t, d, "b=fives")
	none := newDisk(t, 0)
	put(t, none, "a", "")
	is(t, "no room", none.Append("a", []byte("x")), api.ErrFull)
	has(t, none, "a=")
}

// Files that come back may take more than the room: then not even nothing is written.
func TestMoreThanTheRoom(t *testing.T) {
	d := newDisk(t, 4)
	put(t, d, "a", "xy")
	put(t, d, "b", "xy")
	ok(t, d.SyncDir(), d.Remove("a"), d.Append("b", []byte("zz")))
	lose(t, d)
	ok(t, d.Start(0, []int{2, 4}))
	has(t, d, "a=xy b=xyzz")
	is(t, "above the room", d.Append("a", nil), api.ErrFull)
	ok(t, d.Remove("a"), d.Append("b", nil))
}

func TestWhatTheCallsDo(t *testing.T) {
	d := newDisk(t, 99)
	put(t, d, "a", "xy")
	ok(t, d.Append("a", []byte("z")), d.Sync("a"), d.Append("a", []byte("p")))
	has(t, d, "a=xyzp")
	ok(t, d.Rename("a", "b"))
	has(t, d, "b=xyzp")
	put(t, d, "a", "q")
	has(t, d, "a=q b=xyzp")
	ok(t, d.Rename("b", "a"))
	has(t, d, "a=xyzp")
	ok(t, d.Rename("a", "a"))
	has(t, d, "a=xyzp")
	ok(t, d.Create("a"))
	has(t, d, "a=")
	ok(t, d.Remove("a"))
	has(t, d, "")
	is(t, "removed twice", d.Remove("a"), api.ErrNone)
}

// P5.2: Names, Used, Calls, Arm and On.

func TestNamesRise(t *testing.T) {
	d := newDisk(t, 0)
	for _, name := range []string{"b", "a", "ab", "aa", "_", "z", "-", "10", "2", "a.", "a-"} {
		ok(t, d.Create(name))
	}
	want := []string{"-", "10", "2", "_", "a", "a-", "a.", "aa", "ab", "b", "z"}
	for range 20 {
		if got := d.Names(); !slices.Equal(got, want) {
			t.Fatalf("%q", got)
		}
	}
}

func TestCallsThatWereDone(t *testing.T) {
	d := newDisk(t, 9)
	for i, why := range []api.Errno{
		d.Create("a"), d.Append("a", []byte("x")), d.Append("a", nil), d.Sync("a"), d.Sync("a"), d.Rename("a", "b"),
		d.Rename("b", "b"), d.Create("b"), d.SyncDir(), d.SyncDir(), d.Remove("b"),
	} {
		is(t, fmt.Sprint(i), why, api.OK)
	}
	if d.Calls() != 11 {
		t.Fatal(d.Calls())
	}
	d.Read("a")
	d.Names()
	d.Used()
	d.Arm(5)
	d.Arm(-1)
	d.On()
	d.Start(0, nil)
	d.Create("")
	d.Remove("a")
	if d.Calls() != 11 {
		t.Fatal(d.Calls())
	}
	lose(t, d)
	if d.Calls() != 11 {
		t.Fatal("off:", d.Calls())
	}
	ok(t, d.Start(0, nil))
	if d.Calls() != 11 {
		t.Fatal("on again:", d.Calls())
	}
	ok(t, d.Create("a"))
	if d.Calls() != 12 {
		t.Fatal(d.Calls())
	}
}

func TestFuse(t *testing.T) {
	for n := range 6 {
		d := newDisk(t, 9)
		put(t, d, "a", "")
		d.Arm(n)
		for range n {
			is(t, "within the fuse", d.Append("a", []byte("x")), api.OK)
		}
		if b, why := d.Read("a"); !d.On() || len(b) != n || why != api.OK {
			t.Fatalf("behind %d calls: on %v, %q, %v", n, d.On(), b, why)
		}
		is(t, "the next one", d.Append("a", []byte("y")), api.ErrDown)
		if d.On() || d.Calls() != 2+n {
			t.Fatalf("a fuse of %d: on %v, %d calls", n, d.On(), d.Calls())
		}
		ok(t, d.Start(1, []int{99}))
		has(t, d, "a="+strings.Repeat("x", n))
	}
}

func TestEachCallOfTheTableFindsThePowerOff(t *testing.T) {
	for _, s := range []step{
		{call: "Create", name: "a"}, {call: "Create", name: "b"}, {call: "Append", name: "a", n: 1}, {call: "Append", name: "a"}, {call: "Sync", name: "a"},
		{call: "Rename", name: "a", to: "b"}, {call: "Rename", name: "a", to: "a"}, {call: "Remove", name: "a"}, {call: "SyncDir"},
	} {
		for n := range 3 {
			p := newPair(t, 9)
			p.do(t, step{call: "Create", name: "a"})
			p.do(t, step{call: "Append", name: "a", n: 2})
			p.do(t, step{call: "Arm", n: n})
			for range n {
				p.do(t, step{call: "Append", name: "a", n: 1})
			}
			is(t, fmt.Sprint(s), call(p.d, s, strings.Repeat("q", s.n)), api.ErrDown)
			p.m.off = true
			p.alike(t)
			p.do(t, step{call: "Start", n: 9, keep: []int{9}})
		}
	}
}

func TestARefusedCallDoesNotCount(t *testing.T) {
	for n := range 3 {
		d := newDisk(t, 9)
		put(t, d, "a", "")
		d.Arm(n)
		for i := range n + 1 {
			is(t, "Create", d.Create("A"), api.ErrArg)
			is(t, "Append", d.Append("b", nil), api.ErrNone)
			is(t, "Append", d.Append("a", make([]byte, 10)), api.ErrFull)
			is(t, "Sync", d.Sync("b"), api.ErrNone)
			is(t, "Rename", d.Rename("b", "c"), api.ErrNone)
			is(t, "Rename", d.Rename("a", "C"), api.ErrArg)
			is(t, "Remove", d.Remove("b"), api.ErrNone)
			is(t, "Start", d.Start(0, nil), api.ErrState)
			d.Read("a")
			d.Read("b")
			if !d.On() {
				t.Fatalf("a fuse of %d blew by calls that were refused", n)
			}
			want := api.OK
			if i == n {
				want = api.ErrDown
			}
			is(t, "Append", d.Append("a", nil), want)
		}
	}
	d := full(t)
	d.Arm(0)
	is(t, "Create", d.Create("g"), api.ErrMany)
	if !d.On() {
		t.Fatal("off")
	}
}

func TestArmedAgain(t *testing.T) {
	for _, n := range []int{-1, -2, math.MinInt} {
		d := newDisk(t, 9)
		d.Arm(0)
		d.Arm(n)
		for range 500 {
			is(t, "without a fuse", d.SyncDir(), api.OK)
		}
	}
	d := newDisk(t, 9)
	d.Arm(9)
	d.Arm(1)
	ok(t, d.SyncDir())
	d.Arm(2)
	ok(t, d.SyncDir(), d.SyncDir())
	is(t, "the third one", d.SyncDir(), api.ErrDown)
	d.Arm(math.MaxInt)
	is(t, "a fuse is no power", d.SyncDir(), api.ErrDown)
	d.Arm(0)
	ok(t, d.Start(0, nil))
	for range 500 {
		is(t, "behind Start", d.SyncDir(), api.OK)
	}
	d.Arm(math.MaxInt)
	ok(t, d.SyncDir())
}

// P5.3: Start, and disks that nobody made.

func TestStartExample(t *testing.T) {
	for changes, want := range []string{"", "a=xy"} {
		d := newDisk(t, 9)
		put(t, d, "a", "xy")
		ok(t, d.Sync("a"))
		lose(t, d)
		ok(t, d.Start(changes, nil))
		has(t, d, want)
	}
}

func TestStartWhileOn(t *testing.T) {
	d := newDisk(t, 9)
	put(t, d, "a", "xy")
	d.Arm(1)
	is(t, "on", d.Start(0, nil), api.ErrState)
	is(t, "on", d.Start(-1, []int{1}), api.ErrState)
	has(t, d, "a=xy")
	ok(t, d.SyncDir())
	is(t, "the fuse is there yet", d.SyncDir(), api.ErrDown)
	ok(t, d.Start(0, []int{1}))
	is(t, "on again", d.Start(0, nil), api.ErrState)
	has(t, d, "a=x")
}

func TestStartChanges(t *testing.T) {
	wants := []string{"k=", "a= k=", "a= b= k=", "a= b=", "b= c=", "c="}
	for _, changes := range []int{math.MinInt, -2, -1, 0, 1, 2, 3, 4, 5, 6, 7, math.MaxInt} {
		d := newDisk(t, 9)
		ok(t, d.Create("k"), d.SyncDir())
		ok(t, d.Create("a"), d.Create("b"), d.Rename("b", "b"), d.Rename("k", "a"), d.Rename("a", "c"), d.Remove("b"))
		lose(t, d)
		ok(t, d.Start(changes, nil))
		want := wants[min(max(changes, 0), len(wants)-1)]
		has(t, d, want)
		// The changes that were not taken are none of those since.
		lose(t, d)
		ok(t, d.Start(9, nil))
		has(t, d, want)
		lose(t, d)
		ok(t, d.Start(0, nil))
		has(t, d, want)
	}
}

func TestStartKeep(t *testing.T) {
	for _, c := range []struct {
		keep []int
		want string
	}{
		{nil, "a=K b= c=KK"}, {[]int{}, "a=K b= c=KK"}, {[]int{0, 0, 0}, "a=K b= c=KK"},
		{[]int{1}, "a=K1 b= c=KK"}, {[]int{3}, "a=K123 b= c=KK"}, {[]int{4}, "a=K123 b= c=KK"},
		{[]int{2, 1}, "a=K12 b=4 c=KK"}, {[]int{0, 2, 1}, "a=K b=45 c=KK6"},
		{[]int{-1, 1, -9}, "a=K b=4 c=KK"}, {[]int{math.MinInt, math.MaxInt, math.MinInt}, "a=K b=45 c=KK"},
		{[]int{math.MaxInt, math.MaxInt, math.MaxInt, math.MaxInt, 1}, "a=K123 b=45 c=KK6"},
	} {
		d := newDisk(t, 20)
		put(t, d, "c", "KK")
		put(t, d, "a", "K")
		ok(t, d.Sync("c"), d.Sync("a"))
		put(t, d, "b", "45")
		ok(t, d.Append("a", []byte("12")), d.Append("a", []byte("3")), d.Append("c", []byte("6")), d.SyncDir())
		lose(t, d)
		before := slices.Clone(c.keep)
		ok(t, d.Start(0, c.keep))
		has(t, d, c.want)
		if !slices.Equal(before, c.keep) {
			t.Fatal("keep was turned")
		}
		clear(c.keep)
		has(t, d, c.want)
		// What was left is kept from there on; what was lost does not come back.
		ok(t, d.Append("a", []byte("Z")))
		lose(t, d)
		ok(t, d.Start(0, nil))
		has(t, d, c.want)
		ok(t, d.Append("a", []byte("Y")))
		has(t, d, strings.Replace(c.want, " b", "Y b", 1))
	}
}

// The numbers of keep are of the names that are there behind Start, not of those ahead of the loss.
func TestStartKeepOfTheNamesThen(t *testing.T) {
	for changes, c := range []struct {
		keep []int
		want string
	}{
		{[]int{2, 1}, "m=12"}, {[]int{0, 2}, "a= m=12"}, {[]int{1, 3}, "b=1 m=123"}, {[]int{1, 3}, "b=1"}, {[]int{1, 0}, "a=p b="}, {[]int{0, 9}, "a= b=1"},
	} {
		d := newDisk(t, 20)
		put(t, d, "m", "123")
		ok(t, d.SyncDir())
		put(t, d, "a", "1")
		ok(t, d.Rename("a", "b"), d.Remove("m"))
		put(t, d, "a", "pq")
		lose(t, d)
		ok(t, d.Start(changes, c.keep))
		has(t, d, c.want)
	}
}

func TestANameThatIsCreatedAgain(t *testing.T) {
	for changes, want := range []string{"a=old+", "a=ne"} {
		d := newDisk(t, 20)
		put(t, d, "a", "old")
		ok(t, d.Sync("a"), d.SyncDir(), d.Append("a", []byte("+-")))
		put(t, d, "a", "new")
		has(t, d, "a=new")
		lose(t, d)
		ok(t, d.Start(changes, []int{1 + changes}))
		has(t, d, want)
	}
}

func TestFilesThatWereRenamedOrRemoved(t *testing.T) {
	d := newDisk(t, 20)
	put(t, d, "a", "1")
	put(t, d, "b", "22")
	ok(t, d.SyncDir(), d.Append("a", []byte("+")), d.Rename("a", "c"), d.Append("c", []byte("-")), d.Sync("c"), d.Append("c", []byte("!")), d.Remove("b"))
	has(t, d, "c=1+-!")
	lose(t, d)
	ok(t, d.Start(0, []int{0, 1}))
	has(t, d, "a=1+- b=2")
	ok(t, d.Rename("a", "b"))
	lose(t, d)
	ok(t, d.Start(1, nil))
	has(t, d, "b=1+-")
}

func TestDisksThatNobodyMade(t *testing.T) {
	refused, why := disk.New(-1)
	is(t, "New", why, api.ErrArg)
	for _, d := range []*disk.Disk{nil, {}, new(disk.Disk), refused} {
		for range 2 {
			for _, s := range wrongs() {
				is(t, fmt.Sprint(s), call(d, s, strings.Repeat("q", s.n)), api.ErrNil)
			}
			is(t, "Create", d.Create("a"), api.ErrNil)
			is(t, "Start", d.Start(0, nil), api.ErrNil)
			is(t, "Start", d.Start(-1, []int{1, 2}), api.ErrNil)
			b, why := d.Read("a")
			if len(b) != 0 || why != api.ErrNil || len(d.Names()) != 0 || d.Used() != 0 || d.Calls() != 0 || d.On() {
				t.Fatal(b, why, d.Names(), d.Used(), d.Calls(), d.On())
			}
			d.Arm(3)
		}
	}
}

// R4: what was handed in and what was answered.

func TestBytesAreNotShared(t *testing.T) {
	d := newDisk(t, 99)
	b := []byte("xyz")
	ok(t, d.Create("a"), d.Create("b"), d.Append("a", b[:2]), d.Append("b", b))
	if string(b) != "xyz" {
		t.Fatalf("turned to %q", b)
	}
	clear(b)
	has(t, d, "a=xy b=xyz")
	one, _ := d.Read("b")
	two, _ := d.Read("b")
	for i := range one {
		one[i] = 'q'
	}
	_ = append(one[:1], "rrrrrrrr"...)
	if string(two) != "xyz" {
		t.Fatalf("%q", two)
	}
	has(t, d, "a=xy b=xyz")
	names := d.Names()
	names[0] = "zz"
	_ = append(names[:1], "yy")
	has(t, d, "a=xy b=xyz")
	ok(t, d.SyncDir())
	lose(t, d)
	ok(t, d.Start(0, []int{1, 1}), d.Append("b", []byte("pqrs")))
	if string(two) != "xyz" {
		t.Fatalf("%q", two)
	}
	has(t, d, "a=x b=xpqrs")
}

func TestReadOfAnEmptyFileIsWrittenOver(t *testing.T) {
	d := newDisk(t, 99)
	ok(t, d.Create("a"))
	b, _ := d.Read("a")
	_ = append(b, 'q')
	put(t, d, "b", "xy")
	b, _ = d.Read("b")
	_ = append(b, 'q')
	ok(t, d.Append("a", []byte("1")), d.Append("b", []byte("2")))
	has(t, d, "a=1 b=xy2")
}

// P5.4: what was synced, under names that were.

func TestWhatWasSyncedIsThere(t *testing.T) {
	draw := rand.New(rand.NewSource(54))
	for range 4000 {
		d := newDisk(t, 200)
		synced := map[string]string{}
		sure := map[string]bool{}
		for range draw.Intn(60) {
			s := drawn(draw)
			if s.call == "Arm" || s.call == "Start" {
				continue
			}
			if call(d, s, strings.Repeat(string(rune('A'+draw.Intn(26))), s.n)) == api.OK {
				remember(d, s, synced, sure)
			}
		}
		lose(t, d)
		ok(t, d.Start(draw.Intn(9)-1, []int{draw.Intn(4), draw.Intn(4), draw.Intn(4)}))
		for name := range sure {
			if b, why := d.Read(name); why != api.OK || !bytes.HasPrefix(b, []byte(synced[name])) {
				t.Fatalf("%s: %q, %v; want %q ahead", name, b, why, synced[name])
			}
		}
	}
}

// remember keeps which bytes were synced, and which names are sure: those that were synced and not turned since.
func remember(d *disk.Disk, s step, synced map[string]string, sure map[string]bool) {
	switch s.call {
	case "Create", "Remove":
		delete(synced, s.name)
		delete(sure, s.name)
	case "Rename":
		if s.name != s.to {
			synced[s.to] = synced[s.name]
			delete(synced, s.name)
			delete(sure, s.name)
			delete(sure, s.to)
		}
	case "Sync":
		b, _ := d.Read(s.name)
		synced[s.name] = string(b)
	case "SyncDir":
		for _, name := range d.Names() {
			sure[name] = true
		}
	}
}

// P5.5: a rename as a whole.

func TestARenameIsDoneOrNot(t *testing.T) {
	for fuse := range 3 {
		for changes := -1; changes < 3; changes++ {
			for _, onto := range []bool{false, true} {
				d := newDisk(t, 99)
				put(t, d, "a", "new")
				ok(t, d.Sync("a"))
				ahead, behind := "a=new", "b=new"
				if onto {
					put(t, d, "b", "old")
					ok(t, d.Sync("b"))
					ahead = "a=new b=old"
				}
				ok(t, d.SyncDir())
				d.Arm(fuse)
				renamed := d.Rename("a", "b") == api.OK
				kept := d.SyncDir() == api.OK
				d.SyncDir()
				ok(t, d.Start(changes, []int{changes, changes}))
				if kept || renamed && changes > 0 {
					has(t, d, behind)
				} else {
					has(t, d, ahead)
				}
			}
		}
	}
}

// P5.6: without a loss.

func TestWithoutALossADiskIsNamesAndBytes(t *testing.T) {
	draw := rand.New(rand.NewSource(56))
	for range 300 {
		often, never := newDisk(t, 500), newDisk(t, 500)
		files := map[string]string{}
		for range 80 {
			s := drawn(draw)
			switch s.call {
			case "Arm", "Start", "Sync", "SyncDir":
				often.Sync(s.name)
				ok(t, often.SyncDir())
				continue
			}
			b := strings.Repeat(string(rune('A'+draw.Intn(26))), s.n)
			one, two := call(often, s, b), call(never, s, b)
			is(t, fmt.Sprint(s), one, two)
			if one == api.OK {
				turn(files, s, b)
			}
			want := listed(files)
			has(t, often, want)
			has(t, never, want)
		}
	}
}

func turn(files map[string]string, s step, b string) {
	switch s.call {
	case "Create":
		files[s.name] = ""
	case "Append":
		files[s.name] += b
	case "Remove":
		delete(files, s.name)
	case "Rename":
		was := files[s.name]
		delete(files, s.name)
		files[s.to] = was
	}
}

func listed(files map[string]string) string {
	var all []string
	for name, b := range files {
		all = append(all, name+"="+b)
	}
	slices.Sort(all)
	return strings.Join(all, " ")
}
