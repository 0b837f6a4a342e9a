package group_test

import (
	"iter"
	"math"
	"slices"
	"testing"

	"semblance/group"
)

const full = math.MaxUint64

// bit tells by the document's words whether a number is in a set: its bit is 1, the lowest one that of 0.
func bit(m uint64, i int) bool {
	for range i {
		m /= 2
	}
	return m%2 == 1
}

// members are the numbers from 0 to 63 that are in a set by those words.
func members(m uint64) []int {
	l := []int{}
	for i := range 64 {
		if bit(m, i) {
			l = append(l, i)
		}
	}
	return l
}

// sum is the set of numbers that rise, put together bit by bit.
func sum(l []int) uint64 {
	m, worth, at := uint64(0), uint64(1), 0
	for _, i := range l {
		for ; at < i; at++ {
			worth += worth
		}
		m += worth
	}
	return m
}

// sets are those that the tests go through: each kind that there is, and some of no kind.
func sets() []uint64 {
	l := []uint64{0, full, 5, 1 | 1<<63, 1<<63 | 1<<62, 3, 0x5555555555555555, 0xaaaaaaaaaaaaaaaa, 0x00000000ffffffff, 0xffffffff00000000, 0x123456789abcdef0, 0xfedcba9876543210}
	for i := range 64 {
		l = append(l, 1<<i, full^1<<i)
	}
	for many := range 64 {
		run := uint64(1)<<many - 1
		for at := 0; at+many <= 64; at += 7 {
			l = append(l, run<<at)
		}
		l = append(l, run, ^run)
	}
	m := uint64(1)
	for range 500 {
		m = m*6364136223846793005 + 1442695040888963407
		l = append(l, m, m&(m>>7), m&(m<<5)&(m>>11))
	}
	return l
}

// others are numbers that no set has.
func others() []int {
	return []int{
		64, 65, 66, 127, 128, 129, 192, 256, 1 << 31, 1 << 32, 1<<32 + 1, 1 << 62, math.MaxInt, math.MaxInt - 1,
		-1, -2, -63, -64, -65, -128, -1 << 32, -1 << 62, math.MinInt, math.MinInt + 1, math.MinInt + 63,
	}
}

// Gp1: the chapter's example, and others by hand.
func TestByHand(t *testing.T) {
	if got := group.List(5); !slices.Equal(got, []int{0, 2}) {
		t.Errorf("List(5): %v", got)
	}
	if got := group.Of([]int{0, 2}); got != 5 {
		t.Errorf("Of(0, 2): %d", got)
	}
	if !group.Has(5, 0) || group.Has(5, 1) || !group.Has(5, 2) || group.Has(5, 3) {
		t.Error("Has of 5 is not so of 0 and 2 alone")
	}
	if got := group.With(5, 1); got != 7 {
		t.Errorf("With(5, 1): %d", got)
	}
	if got := group.Without(5, 2); got != 1 {
		t.Errorf("Without(5, 2): %d", got)
	}
	if got := group.With(0, 63); got != 9223372036854775808 {
		t.Errorf("With(0, 63): %d", got)
	}
	if got := group.Without(full, 63); got != 9223372036854775807 {
		t.Errorf("Without(all, 63): %d", got)
	}
	if got := group.Count(5); got != 2 {
		t.Errorf("Count(5): %d", got)
	}
	if !group.Within(5, 7) || group.Within(7, 5) || group.Within(5, 2) {
		t.Error("Within of 5, 7 and 2 is not as they stand")
	}
	if got := group.List(full); len(got) != 64 || got[0] != 0 || got[63] != 63 {
		t.Errorf("List of all: %v", got)
	}
	if got := group.Count(full); got != 64 {
		t.Errorf("Count of all: %d", got)
	}
	if got := group.List(0); len(got) != 0 {
		t.Errorf("List of none: %v", got)
	}
	if got := group.Count(0); got != 0 {
		t.Errorf("Count of none: %d", got)
	}
}

// Gp1: Has, With and Without of each number that a set may have.
func TestEachNumber(t *testing.T) {
	for _, m := range sets() {
		for i := range 64 {
			had := bit(m, i)
			if got := group.Has(m, i); got != had {
				t.Fatalf("Has(%#x, %d): %v", m, i, got)
			}
			with, without := m, m
			if had {
				without = m - 1<<i
			} else {
				with = m + 1<<i
			}
			if got := group.With(m, i); got != with {
				t.Fatalf("With(%#x, %d): %#x, not %#x", m, i, got, with)
			}
			if got := group.Without(m, i); got != without {
				t.Fatalf("Without(%#x, %d): %#x, not %#x", m, i, got, without)
			}
		}
	}
}

// Gp1, P1: numbers that no set has are in none, and change none.
func TestOthers(t *testing.T) {
	for _, i := range others() {
		for _, m := range sets() {
			if group.Has(m, i) {
				t.Fatalf("Has(%#x, %d)", m, i)
			}
			if got := group.With(m, i); got != m {
				t.Fatalf("With(%#x, %d): %#x", m, i, got)
			}
			if got := group.Without(m, i); got != m {
				t.Fatalf("Without(%#x, %d): %#x", m, i, got)
			}
		}
		if got := group.Of([]int{i}); got != 0 {
			t.Errorf("Of(%d): %#x", i, got)
		}
		for at, l := range [][]int{{i, 3, 63}, {3, i, 63}, {3, 63, i}, {i, 63, i, i, 3, i}} {
			if got := group.Of(l); got != 1<<3|1<<63 {
				t.Errorf("Of the list %d with %d: %#x", at, i, got)
			}
		}
	}
	if got := group.Of(others()); got != 0 {
		t.Errorf("Of numbers that no set has: %#x", got)
	}
}

// Gp1: Of any lists: none, empty ones, numbers twice, and such as do not rise.
func TestOf(t *testing.T) {
	if got := group.Of(nil); got != 0 {
		t.Errorf("Of no list: %#x", got)
	}
	if got := group.Of([]int{}); got != 0 {
		t.Errorf("Of an empty list: %#x", got)
	}
	for at, row := range []struct {
		l    []int
		want uint64
	}{
		{[]int{0}, 1}, {[]int{63}, 1 << 63}, {[]int{0, 0}, 1}, {[]int{63, 63}, 1 << 63}, {[]int{1, 1, 1}, 2},
		{[]int{2, 0}, 5}, {[]int{2, 0, 2, 0}, 5}, {[]int{63, 31, 0}, 1<<63 | 1<<31 | 1}, {[]int{4, 3, 2, 1, 0}, 31},
		{[]int{32, 31, 33}, 7 << 31}, {[]int{0, -1, 64, 0, 1}, 3},
	} {
		if got := group.Of(row.l); got != row.want {
			t.Errorf("Of the list %d, %v: %#x", at, row.l, got)
		}
	}
	for _, m := range sets() {
		l := members(m)
		l = append(l, l...)
		slices.Reverse(l)
		if got := group.Of(l); got != m {
			t.Fatalf("Of(%v): %#x", l, got)
		}
	}
	long := make([]int, 100000)
	for i := range long {
		long[i] = i - 50000
	}
	if got := group.Of(long); got != full {
		t.Errorf("Of all numbers from -50000 on: %#x", got)
	}
}

// Gp1, R3, R4: List and Count against the bits; a list is new memory, and the same the second time.
func TestList(t *testing.T) {
	for _, m := range sets() {
		want := members(m)
		got := group.List(m)
		if !slices.Equal(got, want) {
			t.Fatalf("List(%#x): %v, not %v", m, got, want)
		}
		if many := group.Count(m); many != len(want) {
			t.Fatalf("Count(%#x): %d, not %d", m, many, len(want))
		}
		for i := range got {
			got[i] = -1
		}
		if again := group.List(m); !slices.Equal(again, want) {
			t.Fatalf("List(%#x) the second time: %v", m, again)
		}
	}
}

// Gp1: Within of all pairs of some sets, and of sets that lack just one number.
func TestWithin(t *testing.T) {
	all := sets()
	for _, a := range all {
		if !group.Within(a, a) || !group.Within(0, a) || !group.Within(a, full) {
			t.Fatalf("%#x is not within itself or all, or the empty one not within it", a)
		}
		if got := group.Within(full, a); got != (a == full) {
			t.Fatalf("Within(all, %#x): %v", a, got)
		}
		if got := group.Within(a, 0); got != (a == 0) {
			t.Fatalf("Within(%#x, none): %v", a, got)
		}
		if got := group.Within(a, ^a); got != (a == 0) {
			t.Fatalf("%#x within what is apart from it: %v", a, got)
		}
		for _, i := range members(a) {
			less := a - 1<<i
			if group.Within(a, less) || !group.Within(less, a) {
				t.Fatalf("%#x without %d", a, i)
			}
			if group.Within(a, full-1<<i) {
				t.Fatalf("%#x is within all but %d", a, i)
			}
		}
		for _, b := range all[:200] {
			want := !slices.ContainsFunc(members(a), func(i int) bool { return !bit(b, i) })
			if got := group.Within(a, b); got != want {
				t.Fatalf("Within(%#x, %#x): %v", a, b, got)
			}
		}
	}
}

// some are the numbers that a sequence gives till there are as many as asked for.
func some(all iter.Seq[int], many int) []int {
	l := []int{}
	for i := range all {
		l = append(l, i)
		if len(l) == many {
			break
		}
	}
	return l
}

// Gp1, R4: Each gives all, rising, and may be left at any place, asked again, and asked while it is gone through.
func TestEach(t *testing.T) {
	for _, m := range sets() {
		want := members(m)
		each := group.Each(m)
		if each == nil {
			t.Fatalf("Each(%#x) is nil", m)
		}
		for many := 1; many <= len(want); many++ {
			if got := some(each, many); !slices.Equal(got, want[:many]) {
				t.Fatalf("Each(%#x), left behind %d: %v", m, many, got)
			}
		}
		for range 2 {
			if got := some(each, -1); !slices.Equal(got, want) {
				t.Fatalf("Each(%#x): %v, not %v", m, got, want)
			}
		}
		if got := some(group.Each(m), -1); !slices.Equal(got, want) {
			t.Fatalf("Each(%#x), made anew: %v, not %v", m, got, want)
		}
	}
}

// Gp1: a sequence that is gone through within itself begins at the lowest each time.
func TestEachWithin(t *testing.T) {
	for _, m := range []uint64{0, 5, 1 << 63, 0x8000000000000001, 0xf0f0, full} {
		want := members(m)
		each := group.Each(m)
		at := 0
		for i := range each {
			if i != want[at] {
				t.Fatalf("Each(%#x): %d at place %d", m, i, at)
			}
			if got := some(each, -1); !slices.Equal(got, want) {
				t.Fatalf("Each(%#x) within itself: %v", m, got)
			}
			if got := some(each, 1); got[0] != want[0] {
				t.Fatalf("Each(%#x) within itself, left behind the first one: %v", m, got)
			}
			at++
		}
		if at != len(want) {
			t.Fatalf("Each(%#x): %d numbers", m, at)
		}
	}
}

// Gp1: a sequence gone through two at a time gives the same to both, whoever goes on first.
func TestEachTwoAtATime(t *testing.T) {
	for _, m := range []uint64{0, 1, 5, 1 << 63, 0x8000000000000001, 0xaaaaaaaaaaaaaaaa, full} {
		want := members(m)
		each := group.Each(m)
		one, leave := iter.Pull(each)
		other, leaveOther := iter.Pull(each)
		got, gotOther := []int{}, []int{}
		for range 65 {
			if i, is := one(); is {
				got = append(got, i)
			}
			for range 2 {
				if i, is := other(); is {
					gotOther = append(gotOther, i)
				}
			}
		}
		leave()
		leaveOther()
		if !slices.Equal(got, want) || !slices.Equal(gotOther, want) {
			t.Errorf("Each(%#x), two at a time: %v and %v", m, got, gotOther)
		}
	}
}

// Gp1: nothing more is given once a range is left, and a set without numbers gives nothing.
func TestEachIsLeft(t *testing.T) {
	for many := 1; many <= 64; many++ {
		asked := 0
		group.Each(full)(func(i int) bool {
			if i != asked {
				t.Fatalf("%d is given, not %d", i, asked)
			}
			asked++
			return asked < many
		})
		if asked != many {
			t.Errorf("%d given, though the range is left behind %d", asked, many)
		}
	}
	group.Each(0)(func(i int) bool {
		t.Errorf("%d is given of the empty set", i)
		return true
	})
}

// Gp2: a set is that of its list.
func TestSetOfList(t *testing.T) {
	for _, m := range sets() {
		if got := group.Of(group.List(m)); got != m {
			t.Fatalf("Of(List(%#x)): %#x", m, got)
		}
	}
}

// Gp2: a list that rises strictly is that of its set.
func TestListOfSet(t *testing.T) {
	rising := [][]int{nil, {}, {0, 63}, {0, 1, 2, 3}, {60, 61, 62, 63}, {31, 32}, {0, 31, 32, 63}}
	whole := make([]int, 64)
	for i := range whole {
		whole[i] = i
		rising = append(rising, []int{i})
		for j := range i {
			rising = append(rising, []int{j, i})
		}
	}
	rising = append(rising, whole)
	for apart := 1; apart < 64; apart++ {
		for from := range apart {
			l := []int{}
			for i := from; i < 64; i += apart {
				l = append(l, i)
			}
			rising = append(rising, l)
		}
	}
	for _, l := range rising {
		m := group.Of(l)
		if m != sum(l) {
			t.Fatalf("Of(%v): %#x", l, m)
		}
		if got := group.List(m); !slices.Equal(got, l) {
			t.Fatalf("List(Of(%v)): %v", l, got)
		}
	}
}

// R3: Of writes to nothing that it is handed, nor to what stands behind it.
func TestOfWritesNothing(t *testing.T) {
	for _, l := range [][]int{{5, 3, 3, 64, -1, 0, 63}, {0, 1, 2}, {63}, {-1}} {
		room := append(slices.Clone(l), 77, -77, 7)
		kept := slices.Clone(room)
		group.Of(room[:len(l)])
		if !slices.Equal(room, kept) {
			t.Errorf("Of(%v) writes to its list: %v", l, room)
		}
	}
}
