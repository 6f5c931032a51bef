package tests

import (
	"slices"
	"strings"
	"testing"

	"loop.example/g01260/impl"
)

// groupTexts are texts of group words, reduced and not.
var groupTexts = []string{
	"", "a", "A", "b", "B", "c", "C", "aA", "Aa", "ab", "aB", "Ba", "abcABC", "cCbBaA", "aaaaaaaaaaaa", "AAAAAAAAAAAA", "CCCCCCCCCCCC",
	"abcabcCBACBA", "aBcAbCaBcAbC",
}

func TestGroupTexts(t *testing.T) {
	for _, text := range groupTexts {
		eachLettersOf(text, func(d int64) {
			got, code := impl.GroupText(d, numbersOf(text))
			checkWord(t, "GroupText", got, code, text)
			word, code := impl.ParseGroup(d, text)
			checkNumbers(t, "ParseGroup "+text, word, code, numbersOf(text))
		})
	}
	for number, want := range map[int64]string{1: "a", 2: "b", 3: "c", -1: "A", -2: "B", -3: "C"} {
		got, code := impl.GroupText(3, []int64{number})
		checkWord(t, "GroupText", got, code, want)
	}
}

// Letters beyond those told, small and large, are no letters of group words.
func TestTextsOfLettersBeyond(t *testing.T) {
	for _, text := range []string{"b", "B", "c", "C", "d", "D", "z", "Z", "ab", "ba", "aB", "aaaaaaaaaaab", "baaaaaaaaaaa", "abc", "cC", "aAd", "dD", "abcD"} {
		for d := int64(1); d < lettersOf(text) && d <= impl.MaxLetter; d++ {
			word, code := impl.ParseGroup(d, text)
			checkNumbersError(t, "ParseGroup "+text, word, code, impl.ErrSyntax)
		}
	}
}

// Each byte, alone and in a text, is a letter or an error.
func TestTextsOfAllBytes(t *testing.T) {
	for d := int64(1); d <= impl.MaxLetter; d++ {
		taken := 0
		for b := range 256 {
			letter := string([]byte{byte(b)})
			isLetter := strings.Contains("abc"[:d], letter) || strings.Contains("ABC"[:d], letter)
			for _, text := range []string{letter, "a" + letter, letter + "A", "a" + letter + "A", strings.Repeat("a", impl.MaxGroup-1) + letter} {
				word, code := impl.ParseGroup(d, text)
				if isLetter {
					checkNumbers(t, "ParseGroup "+text, word, code, numbersOf(text))
					continue
				}
				checkNumbersError(t, "ParseGroup", word, code, impl.ErrSyntax)
			}
			if isLetter {
				taken++
			}
		}
		if taken != int(2*d) {
			t.Errorf("%d letters are taken for %d", taken, d)
		}
	}
}

func TestTextsThatAreNoGroupWords(t *testing.T) {
	for _, text := range []string{
		" ", " a", "a ", "a b", "a\n", "\na", "1", "-1", "1 2", "a,b", "[a,b]", "a1", "a-", "a^2", "a'", "\x00", "a\x00", "\u00e1", "a\u0301",
		"\uff41", "\u0430", "aé", "\xff", "a\xff", "`", "@", "[", "{", "0",
	} {
		for d := int64(1); d <= impl.MaxLetter; d++ {
			word, code := impl.ParseGroup(d, text)
			checkNumbersError(t, "ParseGroup "+text, word, code, impl.ErrSyntax)
		}
	}
}

func TestLengthsOfGroupTexts(t *testing.T) {
	for d := int64(1); d <= impl.MaxLetter; d++ {
		for _, letters := range []string{"a", "A", "aA", "abc"[:d], "CBA"[3-d:]} {
			for length := range 30 {
				text := strings.Repeat(letters, length)[:length]
				word, code := impl.ParseGroup(d, text)
				if length > impl.MaxGroup {
					checkNumbersError(t, "ParseGroup "+text, word, code, impl.ErrSyntax)
					continue
				}
				checkNumbers(t, "ParseGroup "+text, word, code, numbersOf(text))
			}
		}
		for _, text := range []string{strings.Repeat("a", 100000), strings.Repeat("aA", 100000), strings.Repeat("?", 100000)} {
			word, code := impl.ParseGroup(d, text)
			checkNumbersError(t, "ParseGroup of a long text", word, code, impl.ErrSyntax)
		}
	}
}

// textsOfGroup returns the texts of all group words of at most n numbers for d letters.
func textsOfGroup(d int64, n int) []string {
	list := []string{""}
	sameLength := list
	for range n {
		var longer []string
		for _, text := range sameLength {
			for i := range d {
				longer = append(longer, text+string(rune('a'+i)), text+string(rune('A'+i)))
			}
		}
		list, sameLength = append(list, longer...), longer
	}
	return list
}

func TestGroupWordsComeBackFromTheirTexts(t *testing.T) {
	for d, n := range map[int64]int{1: 10, 2: 5, 3: 4} {
		for _, want := range textsOfGroup(d, n) {
			text, code := impl.GroupText(d, numbersOf(want))
			checkWord(t, "GroupText", text, code, want)
			word, code := impl.ParseGroup(d, text)
			checkNumbers(t, "ParseGroup "+text, word, code, numbersOf(want))
			again, code := impl.GroupText(d, word)
			checkWord(t, "GroupText of what has come back", again, code, text)
		}
	}
}

// Texts are those of words as they are told, not of reduced ones.
func TestTextsAreNotReduced(t *testing.T) {
	for _, text := range []string{"aA", "abBA", "abcCBA", "aAaAaAaAaAaA"} {
		word, code := impl.ParseGroup(3, text)
		if code != impl.ErrNone || !slices.Equal(word, numbersOf(text)) || len(word) != len(text) {
			t.Errorf("ParseGroup(3, %q) = %v, %d", text, word, code)
		}
	}
}
