package impl

import (
	"strings"
	"testing"
)

func TestFaultsOfTexts(t *testing.T) {
	full := strings.Repeat(" ", MaxText+1)
	cases := []struct {
		text   string
		wanted error
	}{
		{"a\tb", byteError{1}}, {"var a 2 é", byteError{8}}, {"\xff", byteError{0}}, {full, byteError{MaxText}},
		{"", syntaxError{0}}, {"fuel", syntaxError{1}}, {"var a", syntaxError{2}}, {"var a 2 fuel 0 skip )", syntaxError{6}},
		{"var a 2 fuel 0 a 1", syntaxError{6}}, {"var a 2 fuel 0 flip a", syntaxError{7}}, {"var a 2 fuel 0 flip a 0:1 1", syntaxError{11}},
		{"var a 2 fuel 0 repeat 1 { a := (a }", syntaxError{12}}, {"var a 2 fuel 0 repeat 1 {", syntaxError{8}},
		{"var a 2 fuel 0 b := 1", nameError{"b"}}, {"var a 2 fuel 0 repeat 1 { call a }", nameError{"a"}}, {"var a 2 fuel 0 observe (a + f) )", nameError{"f"}},
	}
	for _, c := range cases {
		_, err := parseProgram(c.text)
		if err == nil || err != c.wanted {
			t.Errorf("%.40q: %v instead of %v", c.text, err, c.wanted)
		}
	}
	for text, wanted := range map[string]string{"a\tb": "invalid byte 1", "a b": "unexpected token 1", "b": "b is not declared"} {
		if _, err := parseExprs([]string{"a"}, text); err == nil || err.Error() != wanted {
			t.Errorf("%q: %v instead of %q", text, err, wanted)
		}
	}
}
