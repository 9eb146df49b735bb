// Package token is layer 1: the text of a program as tokens. See shared/doc/01-token.md.
package token

import (
	"iter"
	"strings"

	"usufruct/api"
)

// The kinds of tokens.
const (
	nameKind   = 1
	wordKind   = 2
	numberKind = 3
	signKind   = 4
	endKind    = 5
)

// stage is the number of this layer.
const stage = 1

// maxName is how many bytes a name may have.
const maxName = 40

// Scan tells all tokens of a text, and the end behind them, or what is wrong in it.
func Scan(src string) ([]api.Token, api.Diag) {
	var l []api.Token
	for t, d := range Each(src) {
		if d.What != api.OK {
			return nil, d
		}
		l = append(l, t)
	}
	return l, api.Diag{}
}

// Each tells the tokens of a text one by one; what is wrong ends it.
func Each(src string) iter.Seq2[api.Token, api.Diag] {
	return func(yield func(api.Token, api.Diag) bool) {
		r := &reader{src: src, line: 1}
		if len(src) > api.MaxText {
			yield(api.Token{}, api.Diag{Stage: stage, What: api.TooLarge, At: r.place()})
			return
		}
		for {
			r.skip()
			place := r.place()
			t, f := r.read()
			if f != api.OK {
				yield(api.Token{}, api.Diag{Stage: stage, What: f, At: place})
				return
			}
			t.At = place
			if !yield(t, api.Diag{}) || t.Kind == endKind {
				return
			}
		}
	}
}

// Word tells whether s is a word of the language.
func Word(s string) bool {
	switch s {
	case "int", "struct", "if", "else", "while", "break", "continue", "return", "free", "put", "new", "null", "get":
		return true
	}
	return false
}

// Name tells whether s is a name.
func Name(s string) bool {
	if s == "" || len(s) > maxName || !letter(s[0]) {
		return false
	}
	for i := range len(s) {
		if !letter(s[i]) && !digit(s[i]) {
			return false
		}
	}
	return !Word(s)
}

// Text tells the texts of tokens, a space between, without the end.
func Text(l []api.Token) string {
	var texts []string
	for _, t := range l {
		if t.Kind != endKind {
			texts = append(texts, t.Text)
		}
	}
	return strings.Join(texts, " ")
}

// Same tells whether two lists of tokens are alike but for places.
func Same(a, b []api.Token) bool {
	if len(a) != len(b) {
		return false
	}
	for i, t := range a {
		if t.Kind != b[i].Kind || t.Text != b[i].Text || t.N != b[i].N {
			return false
		}
	}
	return true
}

func letter(c byte) bool {
	return c == '_' || 'a' <= c && c <= 'z' || 'A' <= c && c <= 'Z'
}

func digit(c byte) bool { return '0' <= c && c <= '9' }

// reader goes through a text.
type reader struct {
	src  string
	at   int // the next byte
	line int // its line, from 1 on
	head int // the first byte of that line
}

func (r *reader) place() api.Pos { return api.Pos{Line: r.line, Col: r.at - r.head + 1} }

// skip goes on to what is more than blanks and comments.
func (r *reader) skip() {
skipping:
	for r.at < len(r.src) {
		switch c := r.src[r.at]; {
		case c == '\n':
			r.at++
			r.line++
			r.head = r.at
		case c == ' ' || c == '\t':
			r.at++
		case strings.HasPrefix(r.src[r.at:], "//"):
			for r.at < len(r.src) && r.src[r.at] != '\n' {
				r.at++
			}
		default:
			break skipping
		}
	}
}

// read reads the token that begins here, if it is right.
func (r *reader) read() (api.Token, api.Fault) {
	if r.at == len(r.src) {
		return api.Token{Kind: endKind}, api.OK
	}
	switch c := r.src[r.at]; {
	case letter(c):
		return r.name()
	case digit(c):
		return r.number()
	}
	return r.sign()
}

// run takes the bytes from here on that are letters or digits, or, without letters, digits alone.
func (r *reader) run(letters bool) string {
	from := r.at
	for r.at < len(r.src) && (digit(r.src[r.at]) || letters && letter(r.src[r.at])) {
		r.at++
	}
	return r.src[from:r.at]
}

func (r *reader) name() (api.Token, api.Fault) {
	text := r.run(true)
	switch {
	case len(text) > maxName:
		return api.Token{}, api.TooLarge
	case Word(text):
		return api.Token{Kind: wordKind, Text: text}, api.OK
	}
	return api.Token{Kind: nameKind, Text: text}, api.OK
}

func (r *reader) number() (api.Token, api.Fault) {
	text := r.run(false)
	if len(text) > 1 && text[0] == '0' || r.at < len(r.src) && letter(r.src[r.at]) {
		return api.Token{}, api.Odd
	}
	n := int64(0)
	for i := range len(text) {
		n = n*10 + int64(text[i]-'0')
		if n > api.MaxInt {
			return api.Token{}, api.TooLarge
		}
	}
	return api.Token{Kind: numberKind, Text: text, N: n}, api.OK
}

// sign reads a sign, of two that begin here the longer one.
func (r *reader) sign() (api.Token, api.Fault) {
	size := signSize(r.src[r.at:])
	if size == 0 {
		return api.Token{}, api.Odd
	}
	text := r.src[r.at : r.at+size]
	r.at += size
	return api.Token{Kind: signKind, Text: text}, api.OK
}

// signSize tells how many bytes the sign has with which s begins; 0: with none.
func signSize(s string) int {
	if len(s) > 1 {
		switch s[:2] {
		case "->", "<=", ">=", "==", "!=":
			return 2
		}
	}
	if strings.IndexByte("+-*/%<>!=(){},;", s[0]) >= 0 {
		return 1
	}
	return 0
}
