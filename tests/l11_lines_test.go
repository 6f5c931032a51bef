package tests

import (
	"strings"
	"testing"

	"loop.example/g01260/impl"
)

// bareCommands have no words behind them.
var bareCommands = []string{
	"swap", "unit", "plus", "times", "commutator", "inverse", "exp", "log", "reversal", "antipode", "show", "other", "way", "signature", "reduce", "turn", "lie", "dynkin", "join", "strict", "weak", "reset",
}

// wordCommands are the others, each one with words behind it that it takes on the desks of this file.
var wordCommands = map[string]string{
	"new": "1 3", "first": "1/2*0", "second": "1/2*0", "path": "5,5", "power": "2", "value": "0", "scale": "2", "area": "0 1", "bracket": "01",
}

// allCommands are the words of all commands.
func allCommands() []string {
	list := append([]string{}, bareCommands...)
	for name := range wordCommands {
		list = append(list, name)
	}
	return list
}

// fullLines are lines with all commands.
func fullLines() []string {
	list := append([]string{}, bareCommands...)
	for name, words := range wordCommands {
		list = append(list, name+" "+words)
	}
	return list
}

// lineDesks are desks of which each command is right on at least one.
func lineDesks(t *testing.T) []impl.Desk {
	return []impl.Desk{
		deskOf(t, "2 2|1/1*0+1/1*1|1/3*0|1,2;2,4;0,1"),
		deskOf(t, "2 2|1/1*+1/1*0+1/1*1|1/3*0|1,2;2,4;0,1"),
	}
}

// checkNoLines requires lines to be wrong on the desks of this file.
func checkNoLines(t *testing.T, lines ...string) {
	t.Helper()
	for _, d := range lineDesks(t) {
		for _, line := range lines {
			checkWrong(t, d, line)
		}
	}
}

func TestEachLineIsRightSomewhere(t *testing.T) {
	if n := len(fullLines()); n != 31 {
		t.Errorf("there are %d commands", n)
	}
	for _, line := range fullLines() {
		right := 0
		for _, d := range lineDesks(t) {
			if _, output := impl.RunLine(d, line); output != "error" && output != "" {
				right++
			}
		}
		if right == 0 {
			t.Errorf("%q is wrong everywhere", line)
		}
	}
}

func TestLinesWithAWordTooMany(t *testing.T) {
	for _, name := range bareCommands {
		checkNoLines(t, name+" x", name+" 0", name+" 1", name+" 1 1", name+" "+name, name+" show", name+" ", name+"  ", name+"  x", name+" x ", name+" \x00")
	}
	for _, line := range []string{"new 2 2", "power 2", "scale 2", "area 0 1"} {
		checkNoLines(t, line+" 1", line+" x", line+" 0 0", line+" ", line+"  ", line+"  1", line+" "+line)
	}
}

func TestLinesWithAWordTooFew(t *testing.T) {
	for name := range wordCommands {
		checkNoLines(t, name)
	}
	checkNoLines(t, "new 2", "new 2 ", "new ", "new  ", "new  2", "power ", "scale ", "area 0", "area 0 ", "area ", "area  ", "area  0")
}

func TestBlanksAheadOfLinesAndInThem(t *testing.T) {
	for _, line := range fullLines() {
		checkNoLines(t, " "+line, "  "+line, "x "+line, "\t"+line)
	}
	for name, words := range wordCommands {
		checkNoLines(t, name+"  "+words, name+"   "+words, name+" "+words+" ", name+" "+words+"  ", name+"\t"+words, name+words, name+","+words, name+" \t"+words, name+"\n"+words)
	}
	checkNoLines(t, "new 2  2", "new  2 2", "area 0  1", "area  0 1", "new 2\t2", "new 2,2", "area 0,1", "new 22", "area 01")
}

func TestWordsThatAreNoCommands(t *testing.T) {
	checkNoLines(t, "", " ", "  ", "\n", "\t", "\x00", "0", "1", "1 1", "fly", "error", "ok", "none", "quit", "help", "add", "multiply", "X", "Y", "P", "x", "1/1*0", "1,0;0,1", "new,2,2", "swap;swap", "swap\nswap", "unit unit")
	for _, name := range allCommands() {
		words := wordCommands[name]
		for _, other := range []string{strings.ToUpper(name), strings.ToUpper(name[:1]) + name[1:], name + name, name + "s", name[:len(name)-1], name[1:], name + "\x00", name + "\r", name + ".", "\"" + name + "\"", "-" + name, name + "\u00a0"} {
			checkNoLines(t, other, other+" "+words)
		}
	}
}

// Each byte behind, in or ahead of a command makes it a word that is none.
func TestBytesThatAreNoLetters(t *testing.T) {
	for b := range 256 {
		text := string([]byte{byte(b)})
		checkNoLines(t, text, text+text, "swap"+text, text+"swap", "sw"+text+"ap", "value"+strings.Repeat(text, 2)+"0", "area 0"+text)
		if text != " " {
			checkNoLines(t, "power"+text+"2", "new"+text+"2 2", "path"+text+"5,5", "new 2"+text+"2")
		}
	}
}

// Nothing but digits, without a sign, without superfluous zeros, and at most nine of them.
func TestNumbersOfLines(t *testing.T) {
	checkLines(t, []lineCase{
		{"2 2|0|0|1,1", "scale 0", "0,0", "2 2|0|0|0,0"},
		{"2 2|0|0|1,1", "scale 9", "9,9", "2 2|0|0|9,9"},
		{"2 2|0|0|1,1", "scale 10", "10,10", "2 2|0|0|10,10"},
		{"2 2|0|0|1,1", "scale 100", "100,100", "2 2|0|0|100,100"},
		{"1 1|1/1*|0|none", "power 12", "1/1*", ""},
	})
	wrong := []string{
		"", " ", "-", "+", "-0", "+0", "-1", "+1", "00", "01", "02", "000", "0000000000", "000000001", "0000000001", "00000000000000000002",
		"100000000", "999999999", "1000000000", "4294967298", "18446744073709551616", "18446744073709551618", "9223372036854775807", "9223372036854775808", "-9223372036854775808", strings.Repeat("9", 1000),
		"x", "1x", "x1", "1.0", "1/1", "1e0", "0x1", "0b1", "1_0", "1,0", "\xff", "1\x00", "1\n", "1\r", "1\t", "\t1", "\u0661", "\uff11", "one", "I", "K",
	}
	for _, number := range wrong {
		checkNoLines(t, "power "+number, "scale "+number, "area "+number+" 0", "area 0 "+number, "new "+number+" 1", "new 1 "+number)
	}
}
