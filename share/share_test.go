package share_test

import (
	"math"
	"math/big"
	"slices"
	"testing"

	"tidewait/api"
	"tidewait/share"
)

const (
	least    = math.MinInt
	greatest = math.MaxInt
	inf      = api.Inf
	full     = api.MaxLength
	top      = 1 << 20
)

func row(l ...int) []int { return l }

// repeat puts so many numbers behind what stands ahead of them.
func repeat(count, number int, ahead ...int) []int {
	return append(ahead, slices.Repeat(row(number), count)...)
}

func check(t *testing.T, got, want []int, name string, of ...any) {
	t.Helper()
	if !slices.Equal(got, want) {
		t.Errorf("%s of %v is %v, not %v", name, of, got, want)
	}
}

func checkRight(t *testing.T, l []int, want bool) {
	t.Helper()
	if got := share.Right(l); got != want {
		t.Errorf("Right of %v is %v, not %v", l, got, want)
	}
}

func checkEven(t *testing.T, l []int, want api.Frac, errnoWant api.Errno) {
	t.Helper()
	if got, errno := share.Even(l); got != want || errno != errnoWant {
		t.Errorf("Even of %v is %v %v, not %v %v", l, got, errno, want, errnoWant)
	}
}

func total(l []int) int {
	sum := 0
	for _, number := range l {
		sum += number
	}
	return sum
}

// wrong gives rows that are not Right: by one number first, last and between, by how many there are, and by both.
func wrong() [][]int {
	var out [][]int
	for _, number := range row(least, least+1, -top, -1, top+1, 2*top, api.Most, inf, inf+1, greatest) {
		out = append(out, row(number), row(number, 1, 2), row(1, number, 2), row(1, 2, number), row(number, number), row(0, number), row(number, 0),
			repeat(full-1, 1, number), append(repeat(full-1, 1), number), append(append(repeat(full/2, 0), number), repeat(full/2-1, top)...),
			repeat(full, 1, number), append(repeat(full, 1), number), repeat(full, number), repeat(full+1, number))
	}
	return append(out, row(-1, top+1), row(-1, 1), row(1, -1), row(least, greatest), row(greatest, greatest),
		repeat(full+1, 0), repeat(full+1, 1), repeat(full+1, top), repeat(2*full, 0), repeat(5000, 3))
}

func TestRight(t *testing.T) {
	for _, l := range [][]int{nil, row(), row(0), row(1), row(7), row(top - 1), row(top)} {
		checkRight(t, l, true)
	}
	// Each edge in each place of rows of every kind of length.
	for _, number := range row(0, 1, top-1, top) {
		for _, l := range [][]int{row(5), row(5, 6), row(0, top, 3), repeat(full-1, 2), repeat(full, 2), repeat(full, top)} {
			for at := range l {
				other := slices.Clone(l)
				other[at] = number
				checkRight(t, other, true)
			}
		}
	}
	for _, number := range row(least, -1, top+1, greatest) {
		for _, l := range [][]int{row(5), row(5, 6), row(0, top, 3), repeat(full-1, 2), repeat(full, 2), repeat(full, top)} {
			for at := range l {
				other := slices.Clone(l)
				other[at] = number
				checkRight(t, other, false)
			}
		}
	}
	for length, want := range map[int]bool{0: true, 1: true, full - 1: true, full: true, full + 1: false, full + 2: false, 5000: false} {
		for _, number := range row(0, 7, top) {
			checkRight(t, repeat(length, number), want)
		}
	}
	for _, l := range wrong() {
		checkRight(t, l, false)
	}
}

func TestShare(t *testing.T) {
	for _, c := range []struct {
		all   int
		wants []int
		want  []int
	}{
		// Ordinary wants.
		{10, row(9, 1, 9, 4), row(3, 1, 3, 3)}, {7, row(3, 3, 3), row(3, 2, 2)}, {8, row(1, 5, 2, 6), row(1, 3, 2, 2)}, {6, row(4, 4), row(3, 3)},
		// No wants.
		{least, nil, nil}, {-1, nil, nil}, {0, nil, nil}, {5, row(), nil}, {inf, nil, nil}, {greatest, row(), nil},
		// Nothing to give, and one.
		{least, row(9, 1, 9, 4), row(0, 0, 0, 0)}, {-inf, row(2, 3), row(0, 0)}, {-1, row(9, 1, 9, 4), row(0, 0, 0, 0)}, {0, row(9, 1, 9, 4), row(0, 0, 0, 0)}, {1, row(9, 1, 9, 4), row(1, 0, 0, 0)},
		{-1, row(1), row(0)}, {0, row(1), row(0)}, {1, row(1), row(1)}, {2, row(1), row(1)}, {0, row(0), row(0)}, {1, row(0), row(0)},
		// One less than all want, as much, and one more: the last one goes to who wants the most.
		{22, row(9, 1, 9, 4), row(9, 1, 8, 4)}, {23, row(9, 1, 9, 4), row(9, 1, 9, 4)}, {24, row(9, 1, 9, 4), row(9, 1, 9, 4)},
		{5, row(1, 1, 4), row(1, 1, 3)}, {6, row(1, 1, 4), row(1, 1, 4)}, {7, row(1, 1, 4), row(1, 1, 4)}, {5, row(2, 2, 2), row(2, 2, 1)}, {6, row(2, 2, 2), row(2, 2, 2)}, {7, row(2, 2, 2), row(2, 2, 2)},
		// As much as a number may be, and beyond.
		{inf - 1, row(9, 1, top, 4), row(9, 1, top, 4)}, {inf, row(9, 1, top, 4), row(9, 1, top, 4)}, {inf + 1, row(9, 1, top, 4), row(9, 1, top, 4)}, {greatest - 1, row(3, 0), row(3, 0)}, {greatest, row(9, 1, top, 4), row(9, 1, top, 4)},
		{inf, row(0, 0), row(0, 0)}, {greatest, row(0), row(0)}, {inf, row(top), row(top)}, {inf + 1, row(top), row(top)},
		// Wants of 0 among others, who get nothing and hold nobody up, and nothing but 0.
		{5, row(0, 3, 0, 3), row(0, 3, 0, 2)}, {1, row(0, 0, 2), row(0, 0, 1)}, {1, row(0, 2, 2), row(0, 1, 0)}, {3, row(2, 0, 2), row(2, 0, 1)}, {2, row(0, 5, 0), row(0, 2, 0)}, {9, row(4, 0), row(4, 0)},
		{0, row(0, 0, 0), row(0, 0, 0)}, {1, row(0, 0, 0), row(0, 0, 0)}, {-1, row(0, 0, 0), row(0, 0, 0)}, {9, row(0, 0, 0), row(0, 0, 0)},
		// One who wants all: alone, beside who wants nothing, and beside others.
		{10, row(10), row(10)}, {10, row(10, 0, 0), row(10, 0, 0)}, {10, row(0, 0, 10), row(0, 0, 10)}, {10, row(10, 1, 1), row(8, 1, 1)}, {10, row(1, 10, 2), row(1, 7, 2)}, {10, row(10, 10), row(5, 5)}, {11, row(11, 11), row(6, 5)},
		{top, row(top), row(top)}, {top, row(top, 1, 0), row(top-1, 1, 0)}, {top - 1, row(top), row(top - 1)}, {top + 1, row(top), row(top)}, {top, row(1, 0, top), row(1, 0, top-1)},
		// Wants that are equal.
		{3, row(4, 4, 4), row(1, 1, 1)}, {4, row(4, 4, 4), row(2, 1, 1)}, {5, row(4, 4, 4), row(2, 2, 1)}, {6, row(4, 4, 4), row(2, 2, 2)}, {11, row(4, 4, 4), row(4, 4, 3)}, {12, row(4, 4, 4), row(4, 4, 4)},
		// Wants that rise, and that fall.
		{6, row(1, 2, 3, 4), row(1, 2, 2, 1)}, {8, row(1, 2, 3, 4), row(1, 2, 3, 2)}, {9, row(1, 2, 3, 4), row(1, 2, 3, 3)}, {3, row(1, 2, 3, 4), row(1, 1, 1, 0)},
		{6, row(4, 3, 2, 1), row(2, 2, 1, 1)}, {8, row(4, 3, 2, 1), row(3, 2, 2, 1)}, {9, row(4, 3, 2, 1), row(3, 3, 2, 1)}, {3, row(4, 3, 2, 1), row(1, 1, 1, 0)},
		// The last round does not reach everybody: who comes first and still wants some gets it.
		{2, row(5, 5, 5, 5), row(1, 1, 0, 0)}, {7, row(5, 5, 5, 5), row(2, 2, 2, 1)}, {5, row(1, 5, 5, 5), row(1, 2, 1, 1)}, {6, row(1, 5, 1, 5, 5), row(1, 2, 1, 1, 1)}, {7, row(1, 5, 1, 5, 5), row(1, 2, 1, 2, 1)}, {9, row(2, 1, 3, 9), row(2, 1, 3, 3)}, {8, row(2, 1, 3, 9), row(2, 1, 3, 2)},
		// Some have what they want in an early round, and others go on.
		{20, row(1, 2, 50, 3, 50), row(1, 2, 7, 3, 7)}, {21, row(1, 2, 50, 3, 50), row(1, 2, 8, 3, 7)}, {100, row(1, 60, 0, 60, 5), row(1, 47, 0, 47, 5)}, {30, row(3, 3, 40), row(3, 3, 24)}, {30, row(40, 3, 3), row(24, 3, 3)},
		{top + 10, row(top, 5, top), row(top/2+3, 5, top/2+2)}, {2 * top, row(top, 5, top), row(top-2, 5, top-3)}, {2*top + 4, row(top, 5, top), row(top, 5, top-1)}, {2*top + 5, row(top, 5, top), row(top, 5, top)},
		// As many as there may be, of as much: with little, with much, and with all.
		{0, repeat(full, top), repeat(full, 0)}, {1, repeat(full, top), repeat(full-1, 0, 1)}, {full - 1, repeat(full, top), append(repeat(full-1, 1), 0)}, {full, repeat(full, top), repeat(full, 1)}, {full + 1, repeat(full, top), repeat(full-1, 1, 2)},
		{full * (top - 1), repeat(full, top), repeat(full, top-1)}, {full*(top-1) + 2, repeat(full, top), repeat(full-2, top-1, top, top)}, {full * top / 2, repeat(full, top), repeat(full, top/2)},
		{full*top - 1, repeat(full, top), append(repeat(full-1, top), top-1)}, {full * top, repeat(full, top), repeat(full, top)}, {full*top + 1, repeat(full, top), repeat(full, top)}, {greatest, repeat(full, top), repeat(full, top)}, {least, repeat(full, top), repeat(full, 0)},
		{full, repeat(full, 0), repeat(full, 0)}, {full + 4, repeat(full-1, 1, top), repeat(full-1, 1, 5)},
	} {
		check(t, share.Share(c.all, c.wants), c.want, "Share", c.all, c.wants)
	}
	for _, wants := range wrong() {
		for _, all := range row(least, -1, 0, 1, 9, inf, inf+1, greatest) {
			check(t, share.Share(all, wants), nil, "Share", all, wants)
		}
	}
}

func TestEven(t *testing.T) {
	for _, c := range []struct {
		l    []int
		want api.Frac
	}{
		// One number is even with itself.
		{row(1), api.Frac{Num: 1, Den: 1}}, {row(7), api.Frac{Num: 1, Den: 1}}, {row(top - 1), api.Frac{Num: 1, Den: 1}}, {row(top), api.Frac{Num: 1, Den: 1}},
		// Equal numbers.
		{row(1, 1), api.Frac{Num: 1, Den: 1}}, {row(5, 5, 5), api.Frac{Num: 1, Den: 1}}, {row(top, top), api.Frac{Num: 1, Den: 1}},
		// One among zeros: first, last and between.
		{row(1, 0), api.Frac{Num: 1, Den: 2}}, {row(7, 0, 0), api.Frac{Num: 1, Den: 3}}, {row(0, 7, 0), api.Frac{Num: 1, Den: 3}}, {row(0, 0, 7), api.Frac{Num: 1, Den: 3}}, {row(0, 0, top, 0, 0), api.Frac{Num: 1, Den: 5}},
		// Two among zeros, which count as numbers too.
		{row(4, 0, 4), api.Frac{Num: 2, Den: 3}}, {row(1, 2, 0), api.Frac{Num: 3, Den: 5}},
		// Those that end in lowest terms.
		{row(9, 1, 9, 4), api.Frac{Num: 529, Den: 716}}, {row(1, 2), api.Frac{Num: 9, Den: 10}}, {row(3, 4), api.Frac{Num: 49, Den: 50}}, {row(top, 1, 0), api.Frac{Num: 1099513724929, Den: 3298534883331}},
		{row(top, top-1), api.Frac{Num: 4398042316801, Den: 4398042316802}},
		// Those whose fraction must be made less.
		{row(1, 1, 4), api.Frac{Num: 2, Den: 3}}, {row(1, 3), api.Frac{Num: 4, Den: 5}}, {row(3, 5), api.Frac{Num: 16, Den: 17}}, {row(1, 2, 3), api.Frac{Num: 6, Den: 7}}, {row(1, 2, 3, 4), api.Frac{Num: 5, Den: 6}}, {row(2, 2, 2, 6), api.Frac{Num: 3, Den: 4}},
		{row(2, 3, 7), api.Frac{Num: 24, Den: 31}},
		// Twice as much for all.
		{row(18, 2, 18, 8), api.Frac{Num: 529, Den: 716}}, {row(2, 4), api.Frac{Num: 9, Den: 10}}, {row(2, 2, 8), api.Frac{Num: 2, Den: 3}}, {row(0, 14, 0), api.Frac{Num: 1, Den: 3}},
		// As many as there may be: equal, and but for one.
		{repeat(full, 1), api.Frac{Num: 1, Den: 1}}, {repeat(full, top), api.Frac{Num: 1, Den: 1}}, {repeat(full-1, top, 0), api.Frac{Num: 299, Den: 300}}, {repeat(full-1, top, 1), api.Frac{Num: 17475100384329, Den: 17533545424268}},
		{repeat(full-1, top, top-1), api.Frac{Num: 98956045870694401, Den: 98956045870694700}}, {append(repeat(full-1, top), top-1), api.Frac{Num: 98956045870694401, Den: 98956045870694700}},
		{repeat(full-1, top-1, top), api.Frac{Num: 98955858385395001, Den: 98955858385395300}}, {repeat(full-1, 0, top), api.Frac{Num: 1, Den: 300}}, {append(repeat(full-1, 0), 1), api.Frac{Num: 1, Den: 300}}, {repeat(full-1, 1, top), api.Frac{Num: 195580225, Den: 58640620164}},
	} {
		checkEven(t, c.l, c.want, api.OK)
	}
	for _, l := range [][]int{nil, row(), row(0), row(0, 0), row(0, 0, 0), repeat(full, 0)} {
		checkEven(t, l, api.Frac{}, api.ErrNone)
	}
	for _, l := range wrong() {
		checkEven(t, l, api.Frac{}, api.ErrRange)
	}
}

// rows gives every row of up to longest numbers of values.
func rows(longest int, values ...int) func(yield func([]int) bool) {
	return func(yield func([]int) bool) {
		count := 1
		for length := range longest + 1 {
			for code := range count {
				l := make([]int, length)
				for i := range l {
					l[i] = values[code%len(values)]
					code /= len(values)
				}
				if !yield(l) {
					return
				}
			}
			count *= len(values)
		}
	}
}

func rightByWords(l []int) bool {
	for _, number := range l {
		if number < 0 || number > top {
			return false
		}
	}
	return len(l) <= full
}

// shareByOnes gives out one by one, round by round.
func shareByOnes(all int, wants []int) []int {
	out := make([]int, len(wants))
	for more := true; more; {
		more = false
		for i, want := range wants {
			if all > 0 && out[i] < want {
				out[i]++
				all--
				more = true
			}
		}
	}
	return out
}

// evenByWords has math/big make the fraction less.
func evenByWords(l []int) (api.Frac, api.Errno) {
	if !rightByWords(l) {
		return api.Frac{}, api.ErrRange
	}
	sum, squares := new(big.Int), new(big.Int)
	for _, number := range l {
		n := big.NewInt(int64(number))
		sum.Add(sum, n)
		squares.Add(squares, n.Mul(n, n))
	}
	if sum.Sign() == 0 {
		return api.Frac{}, api.ErrNone
	}
	r := new(big.Rat).SetFrac(sum.Mul(sum, sum), squares.Mul(squares, big.NewInt(int64(len(l)))))
	return api.Frac{Num: int(r.Num().Int64()), Den: int(r.Denom().Int64())}, api.OK
}

func TestAllSmallWants(t *testing.T) {
	for wants := range rows(5, 0, 1, 2, 3, 4, 9) {
		for all := -2; all <= total(wants)+2; all++ {
			check(t, share.Share(all, wants), shareByOnes(all, wants), "Share", all, wants)
		}
		checkRight(t, wants, true)
		want, errno := evenByWords(wants)
		checkEven(t, wants, want, errno)
	}
}

func TestAllAtTheEdges(t *testing.T) {
	for l := range rows(4, least, -1, 0, 1, 2, top-1, top, top+1, greatest) {
		checkRight(t, l, rightByWords(l))
		want, errno := evenByWords(l)
		checkEven(t, l, want, errno)
		for _, all := range row(least, -1, 0, 1, 2, 3, 5, top-1, top, top+1, 2*top, 3*top+1, inf, inf+1, greatest) {
			if got := share.Share(all, l); !rightByWords(l) {
				check(t, got, nil, "Share", all, l)
			} else {
				checkFair(t, all, l, got)
			}
		}
	}
}

// long gives as many wants as there may be, now up and now down.
func long(step int) []int {
	wants := make([]int, full)
	for i := range wants {
		wants[i] = i * step % 97
	}
	return wants
}

func TestManyWants(t *testing.T) {
	for _, step := range row(0, 1, 31, 48, 96) {
		wants := long(step)
		for all := 0; all <= total(wants)+99; all += 53 {
			check(t, share.Share(all, wants), shareByOnes(all, wants), "Share", all, wants)
		}
		want, errno := evenByWords(wants)
		checkEven(t, wants, want, errno)
	}
}

// checkFair: nobody has more than is wanted, nothing is kept back, and nobody can have more but from one who has no more (or came first in the last round).
func checkFair(t *testing.T, all int, wants, got []int) {
	t.Helper()
	if len(got) != len(wants) || total(got) != min(max(all, 0), total(wants)) {
		t.Errorf("Share of %v, %v is %v", all, wants, got)
		return
	}
	for i, mine := range got {
		if mine < 0 || mine > wants[i] {
			t.Errorf("Share of %v, %v is %v: %d gets %d", all, wants, got, i, mine)
		}
		for j, other := range got {
			room := mine
			if j < i {
				room++
			}
			if mine < wants[i] && other > room {
				t.Errorf("Share of %v, %v is %v: %d may have one from %d", all, wants, got, i, j)
			}
		}
	}
}

func TestNobodyCanHaveMore(t *testing.T) {
	for wants := range rows(4, 0, 1, 2, 7, 30, top/2, top) {
		for _, all := range row(0, 1, 3, 10, 29, 64, 100, top-1, top, top+7, 2*top-1, 3*top, inf) {
			checkFair(t, all, wants, share.Share(all, wants))
		}
	}
	big := long(89)
	for i := range big {
		big[i] *= top / 96
	}
	for all := 0; all < total(big); all += total(big)/91 + 1 {
		checkFair(t, all, big, share.Share(all, big))
	}
}

// One more to give is one more for somebody, and nobody loses by it.
func TestOneMore(t *testing.T) {
	for wants := range rows(4, 0, 1, 2, 5, 8) {
		before := share.Share(0, wants)
		for all := 1; all <= total(wants); all++ {
			after := share.Share(all, wants)
			more := 0
			for i := range after {
				if after[i] < before[i] {
					t.Errorf("Share of %v, %v is %v, and was %v", all, wants, after, before)
				}
				more += after[i] - before[i]
			}
			if more != 1 {
				t.Errorf("Share of %v, %v is %v, and was %v", all, wants, after, before)
			}
			before = after
		}
	}
}

// Even hangs on no order and no measure, is one through how many there are at least, and one where all are equal alone.
func TestEvenOfAll(t *testing.T) {
	for l := range rows(5, 0, 1, 2, 3, 7, 12) {
		got, errno := share.Even(l)
		other := slices.Clone(l)
		slices.Reverse(other)
		checkEven(t, other, got, errno)
		for i := range other {
			other[i] *= 1000
		}
		checkEven(t, other, got, errno)
		if errno != api.OK {
			continue
		}
		if got.Num*len(l) < got.Den || got.Num > got.Den || (got.Num == got.Den) != (slices.Min(l) == slices.Max(l)) {
			t.Errorf("Even of %v is %v", l, got)
		}
	}
}

// Neither the numbers nor the room behind them change or count, and what is answered is the caller's own.
func TestHandedIn(t *testing.T) {
	was := row(9, 1, 9, 4, -1, 7)
	wants := slices.Clone(was)
	checkRight(t, wants[:4], true)
	checkEven(t, wants[:4], api.Frac{Num: 529, Den: 716}, api.OK)
	some, all, none := share.Share(10, wants[:4]), share.Share(23, wants[:4]), share.Share(0, wants[:4])
	check(t, wants, was, "what was handed in")
	clear(wants)
	some = append(some, 5)
	check(t, some, row(3, 1, 3, 3, 5), "what was answered")
	check(t, all, row(9, 1, 9, 4), "what was answered")
	check(t, none, row(0, 0, 0, 0), "what was answered")
	copy(wants, was)
	clear(some)
	clear(all)
	check(t, wants, was, "what was handed in")
	check(t, share.Share(10, wants[:4]), row(3, 1, 3, 3), "Share again", 10, wants[:4])
}
