package tests

import (
	"math"
	"math/big"
	"slices"
	"strconv"
	"testing"

	"loop.example/g00180/impl"
)

// The chapter's rule, word by word, with whole numbers of any size: none of them wraps by itself.

var (
	jumpFactor = big.NewInt(2862933555777941757)
	one        = big.NewInt(1)
	twoTo31    = new(big.Int).Lsh(one, 31)
	twoTo33    = new(big.Int).Lsh(one, 33)
	twoTo64    = new(big.Int).Lsh(one, 64)
)

// moduloRule is a number modulo 2^64, in 0 .. 2^64 - 1 for numbers below 0, too.
func moduloRule(number *big.Int) *big.Int { return new(big.Int).Mod(number, twoTo64) }

func drawRule(number *big.Int) *big.Int {
	times := new(big.Int).Mul(number, jumpFactor)
	return moduloRule(times.Add(times, one))
}

// jumpRule is (b and 1) times 2^31, by ((number by 2^33, down) and 1), down.
func jumpRule(b int, number *big.Int) int {
	above := new(big.Int).Mul(big.NewInt(int64(b)+1), twoTo31)
	below := new(big.Int).Div(number, twoTo33)
	return int(above.Div(above, below.Add(below, one)).Int64())
}

func ruleJump(number, n int) int {
	if n < 1 {
		n = 1
	}
	if n > 1000 {
		n = 1000
	}
	at := moduloRule(big.NewInt(int64(number)))
	b, j := -1, 0
	for j < n {
		b = j
		at = drawRule(at)
		j = jumpRule(b, at)
	}
	return b
}

func ruleSpread(list []int, n int) []int {
	if n < 1 || n > 1000 {
		return nil
	}
	places := make([]int, len(list))
	for at, number := range list {
		places[at] = ruleJump(number, n)
	}
	counts := make([]int, n)
	for place := range counts {
		for _, other := range places {
			if other == place {
				counts[place]++
			}
		}
	}
	return counts
}

// jump asks for the place of a number, and holds it against the rule.
func jump(t *testing.T, number, n int) int {
	t.Helper()
	got, want := impl.Jump(number, n), ruleJump(number, n)
	if got != want {
		t.Fatalf("Jump(%d, %d) = %d; want %d", number, n, got, want)
	}
	return got
}

func spread(t *testing.T, list []int, n int) []int {
	t.Helper()
	got, want := impl.Spread(list, n), ruleSpread(list, n)
	if !slices.Equal(got, want) {
		t.Fatalf("Spread of %d numbers among %d = %v; want %v", len(list), n, got, want)
	}
	return got
}

// drawnNumbers are so many of the whole width, half of them below 0 or so.
func drawnNumbers(count, seed int) []int {
	numbers := make([]int, count)
	drawn := seed*7919 + 3
	for at := range numbers {
		for range 3 {
			drawn = (drawn*1103515245 + 12345) % 2147483648
			numbers[at] = numbers[at]<<24 + drawn/64
		}
	}
	return numbers
}

// jumpNumbers are the least, the greatest, those about 0 and about each power of 2, and drawn ones.
func jumpNumbers() []int {
	numbers := []int{math.MinInt, math.MinInt + 1, math.MinInt + 2, math.MaxInt - 2, math.MaxInt - 1, math.MaxInt}
	for number := -70; number <= 70; number++ {
		numbers = append(numbers, number)
	}
	for bits := 7; bits < 63; bits++ {
		power := 1 << bits
		numbers = append(numbers, power-1, power, power+1, -power-1, -power, -power+1)
	}
	return append(numbers, drawnNumbers(60, 1)...)
}

// inverse is what takes a product with the chapter's factor back, modulo 2^64.
func inverse() *big.Int { return new(big.Int).ModInverse(jumpFactor, twoTo64) }

// drawnInto is the number whose draw is this one.
func drawnInto(number *big.Int) *big.Int {
	less := new(big.Int).Sub(number, one)
	return moduloRule(less.Mul(less, inverse()))
}

// asInt is a number of 0 .. 2^64 - 1 as it is handed in: below 0 from 2^63 on.
func asInt(number *big.Int) int { return int(number.Uint64()) }

// withDivisor is a number whose first draw has this upper part and 1, above these lower bits.
func withDivisor(divisor, lower int) int {
	drawn := new(big.Int).Mul(big.NewInt(int64(divisor-1)), twoTo33)
	return asInt(drawnInto(drawn.Add(drawn, big.NewInt(int64(lower)))))
}

func TestJumpKnown(t *testing.T) {
	among := [7]int{1, 2, 3, 10, 100, 999, 1000}
	for number, want := range map[int][7]int{
		math.MinInt:         {0, 1, 1, 5, 84, 453, 453},
		math.MinInt + 1:     {0, 1, 2, 8, 73, 310, 310},
		-8589934592:         {0, 1, 2, 2, 2, 400, 400},
		-1000:               {0, 1, 2, 2, 69, 931, 931},
		-2:                  {0, 1, 1, 3, 35, 382, 382},
		-1:                  {0, 1, 2, 9, 92, 313, 313},
		0:                   {0, 0, 0, 0, 0, 0, 0},
		1:                   {0, 0, 0, 6, 55, 549, 549},
		2:                   {0, 0, 0, 6, 62, 338, 338},
		3:                   {0, 0, 2, 8, 8, 961, 961},
		7:                   {0, 0, 0, 0, 97, 97, 97},
		1000:                {0, 0, 0, 9, 93, 93, 93},
		2147483648:          {0, 0, 0, 8, 94, 618, 618},
		8589934592:          {0, 0, 0, 0, 91, 993, 993},
		4611686018427387904: {0, 0, 0, 9, 23, 465, 465},
		math.MaxInt - 1:     {0, 0, 0, 5, 56, 639, 639},
		math.MaxInt:         {0, 0, 2, 8, 97, 972, 972},
	} {
		for at, n := range among {
			if got := impl.Jump(number, n); got != want[at] {
				t.Errorf("Jump(%d, %d) = %d; want %d", number, n, got, want[at])
			}
			jump(t, number, n)
		}
	}
}

func TestJumpByRule(t *testing.T) {
	for _, number := range jumpNumbers() {
		for _, n := range []int{1, 2, 3, 4, 5, 7, 8, 16, 31, 100, 255, 256, 257, 500, 998, 999, 1000} {
			jump(t, number, n)
		}
	}
}

func TestJumpByRuleAmongEach(t *testing.T) {
	numbers := append([]int{math.MinInt, -2, -1, 0, 1, 2, math.MaxInt}, drawnNumbers(20, 2)...)
	for _, number := range numbers {
		for n := -3; n <= 1003; n++ {
			jump(t, number, n)
		}
	}
}

// Among one place all numbers have the same; n below 1 is that one.
func TestJumpAmongOneAndLess(t *testing.T) {
	for _, number := range jumpNumbers() {
		for _, n := range []int{math.MinInt, math.MinInt + 1, -4294967296, -1001, -1000, -2, -1, 0, 1} {
			if got := impl.Jump(number, n); got != 0 {
				t.Errorf("Jump(%d, %d) = %d; want 0", number, n, got)
			}
		}
	}
}

// n above 1000 is 1000, even where a jump comes exactly to 1000 or the place behind it.
func TestJumpAmongMoreThanAThousand(t *testing.T) {
	numbers := jumpNumbers()
	for _, place := range []int{998, 999, 1000, 1001, 1002} {
		numbers = append(numbers, withDivisor(2147483648/place, place))
	}
	for _, number := range numbers {
		want := jump(t, number, 1000)
		for _, n := range []int{1001, 1002, 2000, 4294967296, 4294967297, 4294968296, math.MaxInt - 1, math.MaxInt} {
			if got := impl.Jump(number, n); got != want {
				t.Errorf("Jump(%d, %d) = %d; want %d, as among 1000", number, n, got, want)
			}
		}
	}
}

// A number below 0 has the place of the one that is 2^64 more; seldom that of the same without its minus.
func TestJumpBelowNought(t *testing.T) {
	for _, number := range jumpNumbers() {
		if number >= 0 {
			continue
		}
		above := new(big.Int).Add(big.NewInt(int64(number)), twoTo64)
		b, j := -1, 0
		for j < 1000 {
			b = j
			above = drawRule(above)
			j = jumpRule(b, above)
		}
		if got := impl.Jump(number, 1000); got != b {
			t.Errorf("Jump(%d, 1000) = %d; want %d, that of 2^64 more", number, got, b)
		}
	}
	apart := 0
	for number := 1; number <= 100; number++ {
		if impl.Jump(-number, 1000) != impl.Jump(number, 1000) {
			apart++
		}
	}
	if apart < 90 {
		t.Errorf("%d of 100 numbers alone are laid elsewhere with a minus ahead", apart)
	}
}

// The first jump goes from 0 to 2^31 by the divisor, down: exactly to a place, and one less just behind it.
func TestJumpDivisionsGoDown(t *testing.T) {
	for place := 1; place < 1000; place++ {
		for _, divisor := range []int{2147483648 / place, 2147483648/place + 1, 2147483648/(place+1) + 1} {
			if divisor > 2147483648 {
				continue
			}
			first := 2147483648 / divisor
			for _, lower := range []int{0, 1, 8589934591} {
				number := withDivisor(divisor, lower)
				if got := impl.Jump(number, first); got != 0 {
					t.Fatalf("Jump(%d, %d) = %d; want 0, for it jumps to %d", number, first, got, first)
				}
				if got := impl.Jump(number, first+1); first < 1000 && got != first {
					t.Fatalf("Jump(%d, %d) = %d; want %d", number, first+1, got, first)
				}
				jump(t, number, 1000)
			}
		}
	}
}

// The least divisor is 1, and jumps past all places; the greatest is 2^31, and jumps to the next one.
func TestJumpLeastAndGreatestDivisor(t *testing.T) {
	for _, lower := range []int{0, 1, 8589934591} {
		far, next := withDivisor(1, lower), withDivisor(2147483648, lower)
		for n := 1; n <= 1000; n++ {
			if got := jump(t, far, n); got != 0 {
				t.Errorf("Jump(%d, %d) = %d; want 0", far, n, got)
			}
		}
		if got := jump(t, next, 2); got != 1 {
			t.Errorf("Jump(%d, 2) = %d; want 1", next, got)
		}
	}
}

// A second jump from 48, 49 times 2^31 by 49 times a power of 2: whole, where the
// quotient of floats is less by a little. The same from other places.
func TestJumpOfWholeNumbers(t *testing.T) {
	for _, c := range []struct{ number, n, from int }{
		{2022455375858466439, 512, 48}, {7601360704910280196, 256, 48},
		{5525375596105035818, 128, 48}, {-8793653853705564963, 64, 48},
		{7924302181371111906, 512, 97}, {-8470712377244733253, 128, 97},
		{-7481231010265186906, 512, 102}, {8423654643812041475, 128, 102},
		{7010606324699032767, 512, 106}, {7173941021064218258, 256, 106},
		{-3909104554769790580, 512, 160}, {1496743258242283675, 256, 160},
		{-2213609242252664145, 512, 186}, {-3437628587935187810, 256, 196},
	} {
		if got := jump(t, c.number, c.n); got != c.from {
			t.Errorf("Jump(%d, %d) = %d; want %d", c.number, c.n, got, c.from)
		}
		if got := jump(t, c.number, c.n+1); got != c.n {
			t.Errorf("Jump(%d, %d) = %d; want %d", c.number, c.n+1, got, c.n)
		}
	}
}

func TestJumpIsAnsweredAgain(t *testing.T) {
	numbers := jumpNumbers()
	first := make([]int, len(numbers))
	for at, number := range numbers {
		first[at] = impl.Jump(number, 700)
	}
	for at, number := range slices.Backward(numbers) {
		impl.Jump(number, 3)
		if got := impl.Jump(number, 700); got != first[at] {
			t.Errorf("Jump(%d, 700) = %d, and %d when asked again", number, first[at], got)
		}
	}
}

func TestSpreadOfNoNumbers(t *testing.T) {
	for _, list := range [][]int{nil, {}, make([]int, 0, 5)} {
		for _, n := range []int{1, 2, 3, 999, 1000} {
			if got := impl.Spread(list, n); !slices.Equal(got, make([]int, n)) {
				t.Errorf("Spread(%v, %d) = %v; want %d times 0", list, n, got, n)
			}
		}
	}
}

func TestSpreadOfOneNumber(t *testing.T) {
	for _, number := range jumpNumbers() {
		for _, n := range []int{1, 2, 10, 1000} {
			want := make([]int, n)
			want[ruleJump(number, n)] = 1
			if got := impl.Spread([]int{number}, n); !slices.Equal(got, want) {
				t.Errorf("Spread([%d], %d) = %v; want 1 at %d alone", number, n, got, ruleJump(number, n))
			}
		}
	}
}

func TestSpreadKnown(t *testing.T) {
	for _, c := range []struct {
		list []int
		n    int
		want []int
	}{
		{[]int{0, 1, 2, 3, 7}, 1, []int{5}},
		{[]int{0, 1, 2, 3, 7}, 2, []int{5, 0}},
		{[]int{-1, -2, 0, 3}, 2, []int{2, 2}},
		{[]int{-1, -2, 0, 3}, 3, []int{1, 1, 2}},
		{[]int{-1, -1, -1, math.MinInt, math.MaxInt}, 3, []int{0, 1, 4}},
		{[]int{1, 2, 1, 2, 3, -1, math.MinInt, 0}, 10, []int{1, 0, 0, 0, 0, 1, 4, 0, 1, 1}},
	} {
		if got := impl.Spread(c.list, c.n); !slices.Equal(got, c.want) {
			t.Errorf("Spread(%v, %d) = %v; want %v", c.list, c.n, got, c.want)
		}
	}
}

func TestSpreadByRule(t *testing.T) {
	for _, n := range []int{1, 2, 3, 5, 10, 97, 500, 999, 1000} {
		for _, count := range []int{2, 3, 10, 100, 500} {
			spread(t, drawnNumbers(count, n), n)
		}
		spread(t, jumpNumbers(), n)
	}
}

// All of the counts together are as many as the numbers are, in whichever order these come.
func TestSpreadCountsAll(t *testing.T) {
	list := drawnNumbers(3000, 4)
	back := slices.Clone(list)
	slices.Reverse(back)
	for n := 1; n <= 1000; n++ {
		got, all := impl.Spread(list, n), 0
		for _, count := range got {
			all += count
		}
		if len(got) != n || all != len(list) {
			t.Fatalf("Spread of %d numbers among %d has %d counts, %d together", len(list), n, len(got), all)
		}
		if again := impl.Spread(back, n); !slices.Equal(again, got) {
			t.Fatalf("Spread of the same numbers among %d backward = %v; want %v", n, again, got)
		}
	}
}

// A number that is there twice counts twice.
func TestSpreadOfTheSameTwice(t *testing.T) {
	for _, n := range []int{1, 2, 7, 1000} {
		list := append(drawnNumbers(200, 5), -1, 0, math.MinInt, math.MaxInt)
		once := spread(t, list, n)
		twice := spread(t, append(slices.Clone(list), list...), n)
		for place := range once {
			if twice[place] != 2*once[place] {
				t.Errorf("place %d of %d gets %d, and %d of all numbers twice", place, n, once[place], twice[place])
			}
		}
		want := make([]int, n)
		want[ruleJump(-5, n)] = 300
		if got := impl.Spread(slices.Repeat([]int{-5}, 300), n); !slices.Equal(got, want) {
			t.Errorf("Spread of 300 times -5 among %d = %v; want %v", n, got, want)
		}
	}
}

func TestSpreadAmongWrongNumbers(t *testing.T) {
	for _, n := range []int{
		math.MinInt, math.MinInt + 1, -4294967295, -1001, -1000, -2, -1, 0,
		1001, 1002, 2000, 4294967296, 4294967297, math.MaxInt - 1, math.MaxInt,
	} {
		for _, list := range [][]int{nil, {}, {0}, {-1, 1}, jumpNumbers()} {
			if got := impl.Spread(list, n); len(got) != 0 {
				t.Errorf("Spread of %d numbers among %d = %v; want nothing", len(list), n, got)
			}
		}
	}
}

// withSpareNumbers is the list with room behind it, filled with numbers that are no part of it.
func withSpareNumbers(list []int) []int {
	whole := append(slices.Clone(list), slices.Repeat([]int{77}, 1100)...)
	return whole[:len(list)]
}

// listsToSpread have as many numbers as amongToTry has places, among others: such an answer fits where they stand.
func listsToSpread() [][]int {
	return [][]int{nil, {}, {0}, {-1}, {1, 1, -1}, drawnNumbers(3, 6), jumpNumbers(), drawnNumbers(1000, 7)}
}

func amongToTry() []int {
	return []int{math.MinInt, -1, 0, 1, 2, 3, 999, 1000, 1001, math.MaxInt}
}

func TestSpreadArgumentsStay(t *testing.T) {
	for _, list := range listsToSpread() {
		have := withSpareNumbers(list)
		before := slices.Clone(have[:cap(have)])
		for _, n := range amongToTry() {
			got := impl.Spread(have, n)
			if !slices.Equal(have[:cap(have)], before) {
				t.Fatalf("Spread of %d numbers among %d changed them, or the room behind them", len(list), n)
			}
			if !slices.Equal(got, impl.Spread(list, n)) {
				t.Errorf("Spread of %d numbers among %d counts what is behind them", len(list), n)
			}
		}
	}
}

// What is written into an answer, and behind it, changes neither the numbers nor other answers.
func TestSpreadsAreNewMemory(t *testing.T) {
	for _, list := range listsToSpread() {
		have := withSpareNumbers(list)
		before := slices.Clone(have[:cap(have)])
		for _, n := range amongToTry() {
			first, second := impl.Spread(have, n), impl.Spread(have, n)
			want := slices.Clone(second)
			whole := first[:cap(first)]
			for place := range whole {
				whole[place] = -9
			}
			if !slices.Equal(have[:cap(have)], before) {
				t.Fatalf("an answer of Spread among %d shares memory with its numbers", n)
			}
			if !slices.Equal(second, want) || !slices.Equal(impl.Spread(have, n), want) {
				t.Fatalf("two answers of Spread among %d share memory", n)
			}
		}
	}
}

// The numbers of keys, as they come from HashOf, are laid to places as any others are.
func TestSpreadOfKeys(t *testing.T) {
	numbers := []int{}
	for n := range 300 {
		numbers = append(numbers, impl.HashOf("k"+strconv.Itoa(n), 0))
	}
	for _, n := range []int{1, 2, 9, 100, 1000} {
		spread(t, numbers, n)
	}
}
