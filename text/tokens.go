package text

import (
	"errors"
	"slices"
	"strings"
)

const (
	comment = "#"
	blanks  = "\t\r "
	signs   = ",[]+-:"
)

// errSays is what is thrown where a line says nothing.
var errSays = errors.New("text: a line that says nothing")

// tokens are those of a line that are not read yet.
type tokens struct {
	left []string
}

// tokensOf is the line's tokens.
func tokensOf(line string) tokens {
	rest, _, _ := strings.Cut(line, comment)
	rest = strings.TrimLeft(rest, blanks)
	var t tokens
	for rest != "" {
		size := tokenSize(rest)
		t.left = append(t.left, rest[:size])
		rest = strings.TrimLeft(rest[size:], blanks)
	}
	return t
}

// tokenSize is how many bytes the token has that s begins with.
func tokenSize(s string) int {
	size := 0
	for size < len(s) && isWordByte(s[size]) {
		size++
	}
	if size > 0 {
		return size
	}
	must(strings.IndexByte(signs, s[0]) >= 0)
	return 1
}

// none tells whether all was read.
func (t *tokens) none() bool {
	return len(t.left) == 0
}

// next is the token that will be read next; an empty one, if there is none.
func (t *tokens) next() string {
	if t.none() {
		return ""
	}
	return t.left[0]
}

// comes tells whether the next token is one of those.
func (t *tokens) comes(may ...string) bool {
	return slices.Contains(may, t.next())
}

// take reads the next token, whatever it is.
func (t *tokens) take() string {
	must(!t.none())
	token := t.left[0]
	t.left = t.left[1:]
	return token
}

// one reads the next token, which must be one of those.
func (t *tokens) one(may ...string) string {
	must(t.comes(may...))
	return t.take()
}

// must panics where it is not so.
func must(so bool) {
	if !so {
		panic(errSays)
	}
}

func isWordByte(b byte) bool {
	return isLetter(b) || isDigit(b) || b == '_'
}

func isLetter(b byte) bool {
	return 'a' <= b && b <= 'z'
}

func isDigit(b byte) bool {
	return '0' <= b && b <= '9'
}
