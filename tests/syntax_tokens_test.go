package tests

import (
	"math/rand"
	"slices"
	"strings"
	"testing"

	"loop.example/g00893/impl"
)

// expectTokens checks the tokens of a text; wanted nil means that the text must be rejected.
func expectTokens(t *testing.T, text string, wanted []string) {
	t.Helper()
	got, ok := impl.Tokenize(text)
	if ok != (wanted != nil) || !slices.Equal(got, wanted) {
		t.Errorf("%.50q: %q %v instead of %q", text, got, ok, wanted)
	}
}

func TestTokenize(t *testing.T) {
	cases := []struct {
		text   string
		wanted string
	}{
		{"x:=(a+1)", "x := ( a + 1 )"}, {"", ""}, {" ", ""}, {"\n", ""}, {" \n\n  \n", ""}, {"a", "a"}, {"0", "0"}, {" a ", "a"}, {"\na\n", "a"},
		{"a b", "a b"}, {"a\nb", "a b"}, {"  a \n\n   b\n ", "a b"}, {"ab", "ab"}, {"a1b2 3c 4", "a1b2 3c 4"}, {"az09", "az09"}, {"1x", "1x"},
		{":", ":"}, {"=", "="}, {":=", ":="}, {": =", ": ="}, {":\n=", ": ="}, {"::=", ": :="}, {":==", ":= ="}, {":=:=", ":= :="}, {":::", ": : :"},
		{"=:", "= :"}, {"==", "= ="}, {"=:=", "= :="}, {":=:", ":= :"}, {"::==", ": := ="}, {":a=", ": a ="}, {"a:=b", "a := b"}, {"a:b", "a : b"},
		{"(){}:+-*=<", "( ) { } : + - * = <"}, {"))((", ") ) ( ("}, {"{}{}", "{ } { }"}, {"+-*<", "+ - * <"}, {"<=", "< ="}, {"--", "- -"},
		{"not(x)", "not ( x )"}, {"0:1 1:2", "0 : 1 1 : 2"}, {"0 :1 1: 2", "0 : 1 1 : 2"}, {"00 01 100 abcdefghi", "00 01 100 abcdefghi"},
		{"skip flip choose if", "skip flip choose if"}, {"}else{", "} else {"}, {"a+-1", "a + - 1"}, {"max2", "max2"}, {"(a\nor\nb)", "( a or b )"},
	}
	for _, c := range cases {
		expectTokens(t, c.text, append([]string{}, strings.Fields(c.wanted)...))
	}
}

func TestEveryByte(t *testing.T) {
	for c := range 256 {
		b := string([]byte{byte(c)})
		switch {
		case b == " " || b == "\n":
			expectTokens(t, b, []string{})
			expectTokens(t, "x"+b+"1", []string{"x", "1"})
			expectTokens(t, "x1"+b, []string{"x1"})
		case strings.Contains("(){}:+-*=<", b):
			expectTokens(t, b, []string{b})
			expectTokens(t, "x"+b+"1", []string{"x", b, "1"})
			expectTokens(t, "x1"+b, []string{"x1", b})
		case strings.Contains("abcdefghijklmnopqrstuvwxyz0123456789", b):
			expectTokens(t, b, []string{b})
			expectTokens(t, "x"+b+"1", []string{"x" + b + "1"})
			expectTokens(t, "x1 "+b, []string{"x1", b})
		default:
			for _, text := range []string{b, b + "x", "x" + b + "1", "x " + b + " 1", "x1" + b, "x1 " + b, "(" + b + ")", b + b + b} {
				expectTokens(t, text, nil)
			}
		}
	}
	for _, text := range []string{"é", "aé", "éa", "a é b", "\u00a0", "a\u2028b", "\ufffd", "a\ufffd", "\U0001d4d0", "ａ", "\u0161", "ŰŽ", "\u013a\u0a3d"} {
		expectTokens(t, text, nil)
	}
}

func TestLengthOfTexts(t *testing.T) {
	for _, piece := range []string{"a", " ", "\n", "7", "(", ":"} {
		full := strings.Repeat(piece, 6000)
		wanted, _ := tokensByPattern(full)
		expectTokens(t, full, append([]string{}, wanted...))
		expectTokens(t, full+piece, nil)
		expectTokens(t, full+" ", nil)
		expectTokens(t, full[1:]+"\t", nil)
	}
	expectTokens(t, strings.Repeat(" ", 5998)+":=", []string{":="})
	expectTokens(t, strings.Repeat(" ", 5999)+":=", nil)
	expectTokens(t, strings.Repeat("ab ", 1000000), nil)
}

func TestTokensAgreeWithReference(t *testing.T) {
	source := rand.New(rand.NewSource(41))
	for _, alphabet := range []string{"ab01(){}:+-*=< \n", ":= ", "a:= \n", "a1 ", "ab01(){}:+-*=< \n\t\rA;\x00\xff"} {
		for range 3000 {
			text := make([]byte, source.Intn(12))
			for i := range text {
				text[i] = alphabet[source.Intn(len(alphabet))]
			}
			wanted, ok := tokensByPattern(string(text))
			if ok {
				wanted = append([]string{}, wanted...)
			}
			expectTokens(t, string(text), wanted)
		}
	}
}
