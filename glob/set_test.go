package glob_test

import (
	"strings"
	"testing"
)

// P17.1: sets.

func TestEachByteInASet(t *testing.T) {
	for v := range 256 {
		b := text(v)
		switch b {
		case "]": // it ends the set, which has nothing then
			isNone(t, "["+b+"]")
			isNone(t, "[^"+b+"]")
			is(t, "[a"+b+"]", "a]", true)
			is(t, "[^a"+b+"]", "b]", true)
		case "\\":
			for _, list := range []string{"\\", "a\\", "\\a", "a\\b", "\\\\", "\\-", "-\\", "a-\\", "\\-a", "A-\\", "\\-\\", "^\\", "^a\\", "^\\a", "^^\\", "a-c\\", "\\]", "\\]a", "a\\]"} {
				isNone(t, "["+list+"]")
			}
		case "^":
			isNone(t, "[^]")
			isSet(t, "a^", "a^")
			isSet(t, "a^b", "a^b")
			isOf(t, "[^^]", others("^"))
			isOf(t, "[^^^]", others("^"))
		case "-":
			isSet(t, "-", "-")
			isSet(t, "a-", "a-")
			isSet(t, "-a", "-a")
		default:
			isSet(t, b, b)
			isSet(t, b+"!", b+"!")
			isSet(t, "~"+b, b+"~")
			isSet(t, b+b, b)
		}
	}
}

func TestSetsOfSeveralBytes(t *testing.T) {
	isSet(t, "abc", "abc")
	isSet(t, "cab", "abc")
	isSet(t, "aaa", "a")
	isSet(t, "a\x00\xff", "\x00a\xff")
	isSet(t, "?*", "?*")
	isSet(t, "[", "[")
	isSet(t, "[[", "[")
	isSet(t, "a[", "a[")
	isSet(t, "[a", "[a")
	isSet(t, "[^", "[^")
	isSet(t, "[:alpha:", "[:alph")
	isSet(t, "!a", "!a")
	isSet(t, "abcdefghijklmnopqrstuvwxyzABCDEFGHIJK", "abcdefghijklmnopqrstuvwxyzABCDEFGHIJK")
	is(t, "[a][b]", "ab", true)
	is(t, "[a][b]", "ba", false)
	is(t, "[ab]]", "a]", true)
	is(t, "[ab]]", "a", false)
	is(t, "[[]]", "[]", true)
	is(t, "[[a]]", "a]", true)
	is(t, "[[a]b]", "[b]", true)
	is(t, "[a]]]", "a]]", true)
	is(t, "][a]", "]a", true)
	is(t, "]][^a]^-", "]]b^-", true)
	is(t, "[^a]", "^", true)
	is(t, "[^a]", "", false)
	is(t, "[^a]", "bc", false)
}

func TestSetsThatDoNotEnd(t *testing.T) {
	for _, s := range []string{"[", "[^", "[a", "[^a", "[ab", "[a-", "[a-b", "[^a-b", "[-", "[--", "[---", "[^-", "[[", "[[^", "[^[", "[\\", "[\\]", "[a\\", "[a\\]", "[*", "[?", "[a[b", "[\xff", "[\x00", "[ab" + strings.Repeat("c", most-3)} {
		isNone(t, s)
		for _, ahead := range []string{"[a]", "x", "*", "?", "\\x", "]", "\\["} {
			isNone(t, ahead+s[:min(len(s), most-len(ahead))])
		}
	}
	is(t, "\\[a", "[a", true) // this is none
	is(t, "a]", "a]", true)
}

func TestSetsThatHaveNothing(t *testing.T) {
	for _, s := range []string{"[]", "[^]", "[]]", "[^]]", "[]a]", "[^]a]", "[]-a]", "[^]-a]", "[][a]", "[^][a]", "[]^]", "[]^a]", "[]\\]"} {
		isNone(t, s)
		isNone(t, "x"+s)
		isNone(t, s+"x")
		isNone(t, "x*"+s+"?x")
		isNone(t, "[a]"+s)
		isNone(t, s+"[a]")
	}
}

// TestHatBehindTheFirstPlace: there it is a byte like others; the first one turns the set about, also ahead of -.
func TestHatBehindTheFirstPlace(t *testing.T) {
	isSet(t, "a^", "a^")
	isSet(t, "ab^c", "abc^")
	isSet(t, "-^", "-^")
	isSet(t, "a-c^", "abc^")
	isSet(t, "a-c^^", "abc^")
	isOf(t, "[^^]", others("^"))
	isOf(t, "[^^a]", others("^a"))
	isOf(t, "[^^^]", others("^"))
	isOf(t, "[^a^]", others("a^"))
	isOf(t, "[^^-a]", others("^_`a"))
	isOf(t, "[^-a]", others("-a"))
	isOf(t, "[^-]", others("-"))
	isOf(t, "[^--]", others("-"))
	isOf(t, "[^-^]", others("-^"))
	isSet(t, "Z-^", from('Z', '^'))
	isSet(t, "_^-a", "_^`a")
}

// P17.1: two with - between them.

func TestTwoWithDashBetween(t *testing.T) {
	isSet(t, "a-c", "abc")
	isSet(t, "a-b", "ab")
	isSet(t, "a-cx", "abcx")
	isSet(t, "xa-c", "abcx")
	isSet(t, "xa-cy", "abcxy")
	isSet(t, "a-cx-z", "abcxyz")
	isSet(t, "a-dc-f", "abcdef")
	isSet(t, "a-fc-d", "abcdef")
	isSet(t, "a-zA-Z0-9_", from('a', 'z')+from('A', 'Z')+from('0', '9')+"_")
	isSet(t, "*-?", "*+,-./0123456789:;<=>?")
	isSet(t, "[-^", "[\\]^") // what may not stand there may be between
	isSet(t, "Z-a", "Z[\\]^_`a")
	isSet(t, "[-a", "[\\]^_`a")
	isSet(t, "A-[", from('A', '['))
	isSet(t, "\x00-\xff", from(0, 255))
	isSet(t, "\x00-\x01", "\x00\x01")
	isSet(t, "\xfe-\xff", "\xfe\xff")
	isSet(t, "\x7f-\x80", "\x7f\x80")
	isSet(t, "a-\xff", from('a', 255))
	isSet(t, "\x00-a", from(0, 'a'))
}

func TestTwoThatAreTheSameAndTheSecondBelow(t *testing.T) {
	for v := range 256 {
		b := text(v)
		if strings.Contains("]\\^", b) {
			continue
		}
		isSet(t, b+"-"+b, b)
		if b != "-" {
			isSet(t, "x"+b+"-"+b+"y", "xy"+b)
		}
		if below := text(v - 1); v > 0 && !strings.Contains("]\\", below) {
			isNone(t, "["+b+"-"+below+"]")
			isNone(t, "[^"+b+"-"+below+"]")
			isNone(t, "[x"+b+"-"+below+"y]")
		}
		if above := text(v + 1); v < 255 && !strings.Contains("]\\", above) {
			isSet(t, b+"-"+above, b+above)
		}
	}
	isOf(t, "[^^-^]", others("^"))
	isSet(t, "a^-^", "a^")
	for _, s := range []string{"[b-a]", "[^b-a]", "[z-a]", "[a-A]", "[\xff-\x00]", "[\x80-\x7f]", "[a-Z]", "[a-cz-x]", "[z-xa-c]", "[a--]", "[a--z]", "[a---]", "[^a--]", "[0--]", "[.--]", "[a-c.--]", "[--,]", "[--,a]", "[^--,]", "[^^-A]", "[a^-A]", "[--\x00]", "[\xff--]"} {
		isNone(t, s)
		isNone(t, "x"+s)
		isNone(t, s+"y")
		isNone(t, "*"+s+"[a]")
	}
}

func TestDashFirstLastAndBehindHat(t *testing.T) {
	isSet(t, "-", "-")
	isSet(t, "-a", "-a")
	isSet(t, "-ab", "-ab")
	isSet(t, "-a-c", "-abc")
	isSet(t, "a-", "a-")
	isSet(t, "ab-", "ab-")
	isSet(t, "a-c-", "abc-")
	isSet(t, "-a-", "-a")
	isSet(t, "-a-c-", "-abc")
	isSet(t, "-ca-", "-ac")
	is(t, "[a-]c]", "ac]", true) // ] can't follow: the set ends
	is(t, "[a-]c]", "-c]", true)
	is(t, "[a-]c]", "b", false)
	is(t, "[-]-]", "--]", true)
	isNone(t, "[a-\\c]") // \ can't follow, either
	isNone(t, "[a-\\]")
	isNone(t, "[A-\\]")
}

func TestDashBehindTwoThatHadOneBetween(t *testing.T) {
	isSet(t, "a-c-e", "abc-e")
	isSet(t, "a-c-a", "abc-")
	isSet(t, "e-g-a", "efg-a") // it is not between: then this would be none
	isSet(t, "a-c-e-g", "abc-efg")
	isSet(t, "a-c-e-g-i", "abc-efg-i")
	isSet(t, "a-c-e-g-i-k", "abc-efg-ijk")
	isSet(t, "a-a-a", "a-")
	isSet(t, "a-c-e-", "abc-e")
	isSet(t, "-a-c-e", "-abc-e")
	isSet(t, "0-2-46-8", "012-4678")
	isNone(t, "[a-c-g-e]")
	isNone(t, "[c-a-e]")
}

func TestDashesInARow(t *testing.T) {
	isSet(t, "--", "-")
	isSet(t, "---", "-") // from - to -
	isSet(t, "----", "-")
	isSet(t, "-----", "-")
	isSet(t, "------", "-")
	isSet(t, strings.Repeat("-", most-3), "-")
	isSet(t, "--0", "-./0")
	isSet(t, "--a", from('-', 'a'))
	isSet(t, "---0", "-0") // the second - is between the first one and the third one
	isSet(t, "----0", "-0")
	isSet(t, "-----0", "-./0")
	isSet(t, "------0", "-0")
	isSet(t, "---,", "-,")
	isSet(t, "+--", "+,-")
	isSet(t, "+---", "+,-")
	isSet(t, "+--0", "+,-0")
	isSet(t, "+----", "+,-")
	isSet(t, "a-c--", "abc-")
	isSet(t, "a-c---", "abc-")
	isSet(t, "a-c--0", "abc-./0")
	isSet(t, "a-c---0", "abc-0")
	isSet(t, "a-a--", "a-")
	isSet(t, "--0-2", "-./02")
	isSet(t, "---0-2", "-012")
	isSet(t, "0+--", "0+,-")
	isNone(t, "[a--]")
	isNone(t, "[a--c]")
	isNone(t, "[a---]")
	isNone(t, "[--+]")
	isNone(t, "[-----+]")
	isNone(t, "[a-c--+]")
}
