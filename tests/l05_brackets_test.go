package tests

import (
	"strings"
	"testing"

	"loop.example/g01260/impl"
)

// pairingsOf returns the texts of all ways to pair the letters of a word with letters in brackets.
func pairingsOf(w string) []string {
	if len(w) == 1 {
		return []string{w}
	}
	var texts []string
	for i := 1; i < len(w); i++ {
		for _, left := range pairingsOf(w[:i]) {
			for _, right := range pairingsOf(w[i:]) {
				texts = append(texts, "["+left+","+right+"]")
			}
		}
	}
	return texts
}

// bracketOfEnds returns the bracket text of a Lyndon word as the document tells it.
func bracketOfEnds(w string) string {
	if len(w) == 1 {
		return w
	}
	i := 1
	for !isLessThanEnds(w[i:]) {
		i++
	}
	return "[" + bracketOfEnds(w[:i]) + "," + bracketOfEnds(w[i:]) + "]"
}

// bracketWords returns the Lyndon words of at most n letters by their bracket texts.
func bracketWords(d int64, n int64) map[string]string {
	words := map[string]string{}
	for _, w := range lyndonTexts(d, n) {
		words[bracketOfEnds(w)] = w
	}
	return words
}

// checkParsed compares what ParseBracket makes of a text with the word that has it as its text.
func checkParsed(t *testing.T, d int64, text string, words map[string]string) {
	t.Helper()
	want, found := words[text]
	wantCode := int64(impl.ErrNone)
	if !found {
		wantCode = impl.ErrSyntax
	}
	if got, code := impl.ParseBracket(d, text); got != want || code != wantCode {
		t.Errorf("ParseBracket(%d, %q) = %q, %d, want %q", d, text, got, code, want)
	}
}

// bracketCase is a Lyndon word with its bracket text.
type bracketCase struct {
	d    int64
	w    string
	text string
}

func TestBracketTexts(t *testing.T) {
	for _, c := range []bracketCase{
		{1, "0", "0"}, {2, "1", "1"}, {3, "2", "2"}, {3, "0", "0"},
		{2, "01", "[0,1]"}, {3, "02", "[0,2]"}, {3, "12", "[1,2]"},
		{2, "001", "[0,[0,1]]"}, {2, "011", "[[0,1],1]"}, {3, "012", "[0,[1,2]]"}, {3, "021", "[[0,2],1]"},
		{2, "0011", "[0,[[0,1],1]]"}, {2, "00101", "[[0,[0,1]],[0,1]]"}, {3, "0102", "[[0,1],[0,2]]"},
		{2, "01011", "[[0,1],[[0,1],1]]"}, {2, "0010011", "[[0,[0,1]],[0,[[0,1],1]]]"},
		{2, "00000001", "[0,[0,[0,[0,[0,[0,[0,1]]]]]]]"}, {2, "01111111", "[[[[[[[0,1],1],1],1],1],1],1]"},
		{3, "00120021", "[[0,[0,[1,2]]],[0,[[0,2],1]]]"}, {2, "00101011", "[0,[[0,1],[[0,1],[[0,1],1]]]]"},
	} {
		got, code := impl.BracketText(c.d, c.w)
		checkWord(t, "BracketText "+c.w, got, code, c.text)
		got, code = impl.ParseBracket(c.d, c.text)
		checkWord(t, "ParseBracket "+c.text, got, code, c.w)
	}
}

func TestBracketTextsOfAllWords(t *testing.T) {
	lyndonRange(func(d int64, w string) {
		got, code := impl.BracketText(d, w)
		if isLeastTurn(w) {
			checkWord(t, "BracketText "+w, got, code, bracketOfEnds(w))
			return
		}
		if got != "" || code != impl.ErrState {
			t.Errorf("BracketText(%d, %q) = %q, %d", d, w, got, code)
		}
	})
}

func TestTextsThatAreNearlyBrackets(t *testing.T) {
	for _, text := range []string{
		"", " ", ",", "[", "]", "[]", "[,]", "[0]", "[0,]", "[,0]", "[0,0]", "[1,1]", "[1,0]", "00", "01", "10",
		// A bracket too many or too few, or a comma.
		"[0,1", "0,1]", "0,1", "[[0,1]]", "[[0,1]", "[0,1]]", "[0,[1]]", "[[0],1]", "[0,,1]", "[,0,1]", "[0,1,]",
		"[0 1]", "[0,1],", ",[0,1]", "[01]", "[0,[0,1]", "[0,0,1]]", "[0,0,1]", "[0,[0,1]]]", "[[0,[0,1]]",
		// Letters behind the end, or ahead of the beginning.
		"[0,1]0", "[0,1]1", "0[0,1]", "[0,1][0,1]", "[0,1],1", "[0,1] ", " [0,1]", "[0, 1]", "[0,1]\n", "\x00", "0\x00",
		"0]", "[0", "0,", ",0", "0[", "]0", "0 ", " 0", "0\n", "(0,1)", "[0;1]", "{0,1}", "[0,1[", "]0,1[",
		// Words that are no Lyndon words, and wrong cuts.
		"[[0,1],0]", "[1,[0,1]]", "[[0,0],1]", "[0,[1,1]]", "[[0,1],[0,1]]", "[[0,[0,1]],1]", "[[0,[0,1]],[0,[0,1]]]",
		"[[[0,0],1],1]", "[0,[0,[1,1]]]", "[[0,0],[1,1]]", "[[1,0],1]", "[[0,1],[1,1]]",
		// Letters out of their range, and what is no letter.
		"2", "3", "9", "[0,2]", "[2,3]", "[0,9]", "a", "[a,b]", "[0,a]", "-1", "[0,-1]", "+0", "/", ":", "\xff", "\u0660",
		"[0,\u0661]", "[0\xff,1]", "[\u0660,1]",
	} {
		checkParsed(t, 2, text, nil)
		checkParsed(t, 1, text, nil)
	}
	checkParsed(t, 1, "1", nil)
	checkParsed(t, 1, "[0,1]", nil)
	checkParsed(t, 3, "3", nil)
	checkParsed(t, 3, "[0,3]", nil)
	checkParsed(t, 3, "[[0,1],2]", nil)
}

func TestTextsOfFewSigns(t *testing.T) {
	for d := int64(1); d <= impl.MaxLetter; d++ {
		words := bracketWords(d, 2)
		for _, text := range textsOver("01[,]", 6) {
			checkParsed(t, d, text, words)
		}
	}
}

// Each text of a bracket is tried without each of its signs, with others there, and with one more.
func TestBracketTextsWithOneOtherSign(t *testing.T) {
	for d := int64(1); d <= impl.MaxLetter; d++ {
		words := bracketWords(d, 6)
		for text := range words {
			checkParsed(t, d, text, words)
			for i := range len(text) + 1 {
				for _, sign := range strings.Split("0 1 2 3 [ , ]", " ") {
					checkParsed(t, d, text[:i]+sign+text[i:], words)
					if i < len(text) {
						checkParsed(t, d, text[:i]+sign+text[i+1:], words)
					}
				}
				if i < len(text) {
					checkParsed(t, d, text[:i]+text[i+1:], words)
				}
			}
		}
	}
}

func TestAllPairingsOfWords(t *testing.T) {
	for d := int64(1); d <= impl.MaxLetter; d++ {
		words := bracketWords(d, 6)
		for _, w := range allWords(d, 6)[1:] {
			for _, text := range pairingsOf(w) {
				checkParsed(t, d, text, words)
			}
		}
	}
	words := bracketWords(2, impl.MaxLyndon)
	for _, w := range []string{"00101011", "00000001", "00010011", "01111111", "00110111"} {
		for _, text := range pairingsOf(w) {
			checkParsed(t, 2, text, words)
		}
	}
}

func TestBracketsOfTooManyLetters(t *testing.T) {
	words := bracketWords(2, impl.MaxLyndon)
	for n := 1; n <= impl.MaxLyndon+2; n++ {
		for _, w := range []string{strings.Repeat("0", n-1) + "1", "0" + strings.Repeat("1", n-1), strings.Repeat("0", n)} {
			if isLessThanEnds(w) {
				checkParsed(t, 2, bracketOfEnds(w), words)
			}
			checkParsed(t, 2, w, words)
		}
	}
	if _, found := words["[0,[0,[0,[0,[0,[0,[0,1]]]]]]]"]; !found {
		t.Errorf("no word of %d letters is tried", impl.MaxLyndon)
	}
}

// Long texts are told as fast as others, however deep their brackets are.
func TestLongTexts(t *testing.T) {
	const many = 3000000
	for _, text := range []string{
		strings.Repeat("[", many), strings.Repeat("]", many), strings.Repeat(",", many), strings.Repeat("0", many),
		strings.Repeat("[0,", many) + "1" + strings.Repeat("]", many), strings.Repeat("[", many) + "0" + strings.Repeat(",1]", many),
		strings.Repeat("[", many) + "0", "0" + strings.Repeat("]", many), strings.Repeat("\xff", many),
	} {
		if got, code := impl.ParseBracket(2, text); got != "" || code != impl.ErrSyntax {
			t.Errorf("ParseBracket of %d signs from %q on has %d letters, %d", len(text), text[:3], len(got), code)
		}
	}
}
