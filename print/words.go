package print

import (
	"strconv"
	"strings"

	"pointsman/api"
)

// meta is what the metadata's fields are told with.
const meta = "meta"

// keyWords are no names. Blanks stand around each, as no name has one.
const keyWords = " header meta register counter meter parser action table control deparser key actions default size take go select else exact prefix mask range if apply make gone count read write random drop digest clone again round valid cast hash "

// Names and whole numbers as words of a text may be.
const (
	longestName  = 255
	highestWhole = 1<<31 - 1
)

// wordBits is how many bits Lo has, wordDigits how many digits tell them all.
const (
	wordBits   = 64
	wordDigits = 16
)

func isName(s string) bool {
	if s == "" || len(s) > longestName || isDigit(s[0]) {
		return false
	}
	for i := range len(s) {
		if !isLetter(s[i]) && !isDigit(s[i]) {
			return false
		}
	}
	return !strings.Contains(keyWords, " "+s+" ")
}

func isLetter(b byte) bool {
	return 'a' <= b && b <= 'z' || 'A' <= b && b <= 'Z' || b == '_'
}

func isDigit(b byte) bool { return '0' <= b && b <= '9' }

func isWhole(n int) bool { return 0 <= n && n <= highestWhole }

func isNumber(b api.Bits) bool {
	all := allSet(b.W)
	return 1 <= b.W && b.W <= api.MaxWidth && b.Hi&^all.Hi == 0 && b.Lo&^all.Lo == 0
}

func allSet(w int) api.Bits {
	return api.Bits{W: w, Hi: lowest(w - wordBits), Lo: lowest(w)}
}

// lowest relies on a shift by 64 or more coming to 0, so that there all bits are set; a shift by less than 0 would panic.
func lowest(n int) uint64 { return uint64(1)<<max(n, 0) - 1 }

// numberText is the text of bits.Text, a layer that this one does not call.
func numberText(b api.Bits) string {
	low := strconv.FormatUint(b.Lo, 16)
	if b.Hi > 0 {
		low = strconv.FormatUint(b.Hi, 16) + strings.Repeat("0", wordDigits-len(low)) + low
	}
	return strconv.Itoa(b.W) + "w" + low
}
