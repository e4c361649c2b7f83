package impl

import (
	"cmp"
	"math/bits"
	"slices"
	"strconv"
	"strings"
)

const MaxMoney = 1000000000000

const (
	maxWeights = 60
	maxWeight  = 1000000
	maxDigits  = 16
)

type currency struct {
	code   string
	places int64
}

var currencies = [6]currency{
	{"EUR", 2}, {"USD", 2}, {"JPY", 0}, {"GBP", 2}, {"KWD", 3}, {"CHF", 2},
}

func isCurrency(cur int64) bool { return cur >= 0 && cur < int64(len(currencies)) }

func isAmount(n int64) bool { return n >= -MaxMoney && n <= MaxMoney }

func CodeOf(cur int64) string {
	if !isCurrency(cur) {
		return ""
	}
	return currencies[cur].code
}

func CurOf(code string) int64 {
	for i := range currencies {
		if currencies[i].code == code {
			return int64(i)
		}
	}
	return -1
}

func PlacesOf(cur int64) int64 {
	if !isCurrency(cur) {
		return -1
	}
	return currencies[cur].places
}

func MulDiv(a int64, b int64, c int64) (int64, bool) {
	if !isAmount(a) || b < 0 || b > MaxMoney || c < 1 || c > MaxMoney {
		return 0, false
	}
	n, ok := roundedQuotient(uint64(max(a, -a)), uint64(b), uint64(c))
	if !ok {
		return 0, false
	}
	if a < 0 {
		return -n, true
	}
	return n, true
}

// roundedQuotient works on absolute values: rounding ties to even is symmetric about 0.
func roundedQuotient(a uint64, b uint64, c uint64) (int64, bool) {
	high, low := bits.Mul64(a, b)
	if high >= c { // the quotient has more than 64 bits, and Div64 would panic
		return 0, false
	}
	q, r := bits.Div64(high, low, c)
	if q > MaxMoney { // before rounding, which would turn 2^64 - 1 into 0
		return 0, false
	}
	if r > c-r || r == c-r && q%2 == 1 {
		q++
	}
	if q > MaxMoney {
		return 0, false
	}
	return int64(q), true
}

type remainder struct {
	index int
	rest  int64
}

func Shared(total int64, weights []int64) []int64 {
	sum := weightSum(weights)
	if total < 0 || total > MaxMoney || sum == 0 {
		return nil
	}
	shares := make([]int64, len(weights))
	rests := make([]remainder, len(weights))
	left := total
	for i, w := range weights {
		shares[i] = total * w / sum
		rests[i] = remainder{index: i, rest: total * w % sum}
		left -= shares[i]
	}
	// The sort is stable, so that the first ones of equal remainders stay first.
	slices.SortStableFunc(rests, func(x, y remainder) int { return cmp.Compare(y.rest, x.rest) })
	for _, r := range rests[:left] {
		shares[r.index]++
	}
	return shares
}

// weightSum is 0 for every list of weights that Shared does not accept.
func weightSum(weights []int64) int64 {
	if len(weights) > maxWeights {
		return 0
	}
	sum := int64(0)
	for _, w := range weights {
		if w < 0 || w > maxWeight {
			return 0
		}
		sum += w
	}
	return sum
}

func AmountText(cur int64, n int64) string {
	if !isCurrency(cur) || !isAmount(n) {
		return ""
	}
	sign := ""
	if n < 0 {
		sign = "-"
	}
	places := int(PlacesOf(cur))
	digits := padded(max(n, -n), places+1)
	if places == 0 {
		return sign + digits
	}
	point := len(digits) - places
	return sign + digits[:point] + "." + digits[point:]
}

func ReadAmount(cur int64, s string) (int64, bool) {
	if !isCurrency(cur) {
		return 0, false
	}
	unsigned, negative := strings.CutPrefix(s, "-")
	whole, fraction, _ := strings.Cut(unsigned, ".")
	n, ok := digitsValue(whole + fraction)
	if negative {
		n = -n
	}
	// An amount has one text, so comparing with it excludes all other ways to write n.
	if !ok || AmountText(cur, n) != s {
		return 0, false
	}
	return n, true
}

// padded writes n, which is not negative, with leading zeros up to a width.
func padded(n int64, width int) string {
	s := strconv.FormatInt(n, 10)
	return strings.Repeat("0", max(width-len(s), 0)) + s
}

// digitsValue reads a text of digits alone; the limit on their number excludes an overflow.
func digitsValue(s string) (int64, bool) {
	if len(s) < 1 || len(s) > maxDigits {
		return 0, false
	}
	n := int64(0)
	for i := range len(s) {
		if s[i] < '0' || s[i] > '9' {
			return 0, false
		}
		n = n*10 + int64(s[i]-'0')
	}
	return n, true
}
