package checks

import (
	"regexp"
	"strconv"
	"strings"
	"testing"

	"usufruct/api"
	"usufruct/token"
)

var allWords = strings.Fields("int struct if else while break continue return free put new null get")
var allSigns = strings.Fields("-> <= >= == != + - * / % < > ! = ( ) { } , ;")

// show: a list of tokens in one line.
func showTokens(l []api.Token) string {
	var b strings.Builder
	for _, t := range l {
		b.WriteString(strconv.Itoa(t.Kind) + ":" + t.Text + ":" + strconv.FormatInt(t.N, 10) + "@" + strconv.Itoa(t.At.Line) + "." + strconv.Itoa(t.At.Col) + " ")
	}
	return b.String()
}

func TestP101Tokens(t *testing.T) {
	t.Parallel()
	for _, c := range []struct{ src, want string }{
		{"", "5::0@1.1 "},
		{"x->y<=10", "1:x:0@1.1 4:->:0@1.2 1:y:0@1.4 4:<=:0@1.5 3:10:10@1.7 5::0@1.9 "},
		{"  \t\n\n ", "5::0@3.2 "},
		{"// all\x00\xff of it", "5::0@1.15 "},
		{"//a\n//b\n", "5::0@3.1 "},
		{"a//b\nc", "1:a:0@1.1 1:c:0@2.1 5::0@2.2 "},
		{"a / b", "1:a:0@1.1 4:/:0@1.3 1:b:0@1.5 5::0@1.6 "},
		{"a/ /b", "1:a:0@1.1 4:/:0@1.2 4:/:0@1.4 1:b:0@1.5 5::0@1.6 "},
		{"=>==>", "4:=:0@1.1 4:>=:0@1.2 4:=:0@1.4 4:>:0@1.5 5::0@1.6 "},
		{"-->>", "4:-:0@1.1 4:->:0@1.2 4:>:0@1.4 5::0@1.5 "},
		{"!!==", "4:!:0@1.1 4:!=:0@1.2 4:=:0@1.4 5::0@1.5 "},
		{"===", "4:==:0@1.1 4:=:0@1.3 5::0@1.4 "},
		{"<-", "4:<:0@1.1 4:-:0@1.2 5::0@1.3 "},
		{"0 7", "3:0:0@1.1 3:7:7@1.3 5::0@1.4 "},
		{"2147483647", "3:2147483647:2147483647@1.1 5::0@1.11 "},
		{"\tint\n  Int intx _int", "2:int:0@1.2 1:Int:0@2.3 1:intx:0@2.7 1:_int:0@2.12 5::0@2.16 "},
		{"a9Z_", "1:a9Z_:0@1.1 5::0@1.5 "},
		{strings.Repeat("n", 40), "1:" + strings.Repeat("n", 40) + ":0@1.1 5::0@1.41 "},
	} {
		l, d := token.Scan(c.src)
		is(t, "tokens of "+strconv.Quote(c.src), showTokens(l), c.want)
		is(t, "diag of "+strconv.Quote(c.src), d, api.Diag{})
	}
	for _, w := range allWords {
		l, _ := token.Scan(w)
		is(t, w, showTokens(l[:1]), "2:"+w+":0@1.1 ")
	}
	for _, s := range allSigns {
		l, _ := token.Scan(s)
		is(t, s, showTokens(l[:1]), "4:"+s+":0@1.1 ")
	}
}

func TestP101Wrong(t *testing.T) {
	t.Parallel()
	for _, c := range []struct {
		src  string
		want api.Diag
	}{
		{"a #", diag(1, api.Odd, 1, 3)},
		{"a\n 007", diag(1, api.Odd, 2, 2)},
		{"00", diag(1, api.Odd, 1, 1)},
		{"01", diag(1, api.Odd, 1, 1)},
		{"0x", diag(1, api.Odd, 1, 1)},
		{"x = 9_;", diag(1, api.Odd, 1, 5)},
		{"9A", diag(1, api.Odd, 1, 1)},
		{"2147483648", diag(1, api.TooLarge, 1, 1)},
		{"99999999999999999999999999", diag(1, api.TooLarge, 1, 1)},
		{"18446744073709551617", diag(1, api.TooLarge, 1, 1)},
		{"99999999999999999999999999z", diag(1, api.Odd, 1, 1)},
		{"099999999999", diag(1, api.Odd, 1, 1)},
		{" " + strings.Repeat("n", 41), diag(1, api.TooLarge, 1, 2)},
		{strings.Repeat("n", 41) + " #", diag(1, api.TooLarge, 1, 1)},
		{"# " + strings.Repeat("n", 41), diag(1, api.Odd, 1, 1)},
		{"a\r\nb", diag(1, api.Odd, 1, 2)},
		{"a // é\né", diag(1, api.Odd, 2, 1)},
		{"\x00", diag(1, api.Odd, 1, 1)},
		{"a\v", diag(1, api.Odd, 1, 2)},
		{"a.b", diag(1, api.Odd, 1, 2)},
		{"a&b", diag(1, api.Odd, 1, 2)},
	} {
		l, d := token.Scan(c.src)
		is(t, "diag of "+strconv.Quote(c.src), d, c.want)
		is(t, "tokens of "+strconv.Quote(c.src), len(l), 0)
	}
}

func TestP101Size(t *testing.T) {
	t.Parallel()
	full := strings.Repeat("a ", api.MaxText/2)
	l, d := token.Scan(full)
	is(t, "a full text", d, api.Diag{})
	is(t, "tokens of a full text", len(l), api.MaxText/2+1)
	is(t, "the end of a full text", l[len(l)-1].At, api.Pos{Line: 1, Col: api.MaxText + 1})
	l, d = token.Scan("\n#" + full)
	is(t, "one byte and more", d, diag(1, api.TooLarge, 1, 1))
	is(t, "no tokens", len(l), 0)
	_, d = token.Scan(strings.Repeat("\n", api.MaxText) + "a")
	is(t, "one byte beyond", d, diag(1, api.TooLarge, 1, 1))
	_, d = token.Scan(strings.Repeat("\n", api.MaxText-1) + "#")
	is(t, "the last byte that may be", d, diag(1, api.Odd, api.MaxText, 1))
}

// scanAgain is another way to scan, by patterns.
func scanAgain(src string) ([]api.Token, api.Diag) {
	nothing := regexp.MustCompile(`^([ \t\n]|//[^\n]*)+`)
	name := regexp.MustCompile(`^[A-Za-z_][A-Za-z_0-9]*`)
	number := regexp.MustCompile(`^[0-9]+`)
	sign := regexp.MustCompile(`^(->|<=|>=|==|!=|[-+*/%<>!=(){},;])`)
	words := " " + strings.Join(allWords, " ") + " "
	var l []api.Token
	at := 0
	for {
		at += len(nothing.FindString(src[at:]))
		line := strings.Count(src[:at], "\n") + 1
		p := api.Pos{Line: line, Col: at - strings.LastIndex(src[:at], "\n")}
		rest := src[at:]
		if rest == "" {
			return append(l, api.Token{Kind: 5, At: p}), api.Diag{}
		}
		s := ""
		switch {
		case name.MatchString(rest):
			s = name.FindString(rest)
			if len(s) > 40 {
				return nil, api.Diag{Stage: 1, What: api.TooLarge, At: p}
			}
			k := 1
			if strings.Contains(words, " "+s+" ") {
				k = 2
			}
			l = append(l, api.Token{Kind: k, Text: s, At: p})
		case number.MatchString(rest):
			s = number.FindString(rest)
			if len(s) > 1 && s[0] == '0' || name.MatchString(rest[len(s):]) {
				return nil, api.Diag{Stage: 1, What: api.Odd, At: p}
			}
			n, err := strconv.ParseInt(s, 10, 32)
			if err != nil {
				return nil, api.Diag{Stage: 1, What: api.TooLarge, At: p}
			}
			l = append(l, api.Token{Kind: 3, Text: s, N: n, At: p})
		case sign.MatchString(rest):
			s = sign.FindString(rest)
			l = append(l, api.Token{Kind: 4, Text: s, At: p})
		default:
			return nil, api.Diag{Stage: 1, What: api.Odd, At: p}
		}
		at += len(s)
	}
}

// chanceText: some text of tokens, blanks, comments, and at times of what is wrong.
func chanceText(seed uint64) string {
	r := dice(seed)
	parts := append(append([]string{" ", "\n", "\t", "// c -> 007\n", "x", "y1", "_", "0", "12", "2147483647"}, allWords...), allSigns...)
	wrong := []string{"#", "00", "5a", "2147483648", "\r", strings.Repeat("q", 41), "é"}
	var b strings.Builder
	for range r.IntN(40) {
		if r.IntN(60) == 0 {
			b.WriteString(pick(r, wrong))
		} else {
			b.WriteString(pick(r, parts))
		}
		if r.IntN(3) > 0 {
			b.WriteString(pick(r, parts[:4]))
		}
	}
	return b.String()
}

func TestP101Chance(t *testing.T) {
	t.Parallel()
	for seed := range uint64(3000) {
		src := chanceText(seed)
		l, d := token.Scan(src)
		m, e := scanAgain(src)
		is(t, "diag of "+strconv.Quote(src), d, e)
		is(t, "tokens of "+strconv.Quote(src), showTokens(l), showTokens(m))
	}
	for c := range 256 {
		src := "a" + string([]byte{byte(c)}) + "a"
		l, d := token.Scan(src)
		m, e := scanAgain(src)
		is(t, "diag of "+strconv.Quote(src), d, e)
		is(t, "tokens of "+strconv.Quote(src), showTokens(l), showTokens(m))
	}
}

func TestP102Each(t *testing.T) {
	t.Parallel()
	for seed := range uint64(500) {
		src := chanceText(seed)
		l, d := scanAgain(src)
		var m []api.Token
		var e api.Diag
		ended := false
		for k, f := range token.Each(src) {
			must(t, "nothing comes behind what is wrong", !ended)
			if f != (api.Diag{}) {
				is(t, "the token where something is wrong", k, api.Token{})
				e, ended = f, true
				continue
			}
			m = append(m, k)
		}
		is(t, "diag of "+strconv.Quote(src), e, d)
		if d == (api.Diag{}) {
			is(t, "tokens of "+strconv.Quote(src), showTokens(m), showTokens(l))
		}
	}
	var got []api.Token
	for k := range token.Each("a b #") {
		got = append(got, k)
		if len(got) == 2 {
			break
		}
	}
	is(t, "two that are asked", showTokens(got), "1:a:0@1.1 1:b:0@1.3 ")
	n := 0
	for range token.Each("a b #") {
		n++
	}
	is(t, "all, and what is wrong", n, 3)
	all := token.Each("a b")
	for range 2 {
		n = 0
		for range all {
			n++
		}
		is(t, "each time from the begin", n, 3)
	}
	n = 0
	for k, d := range token.Each(strings.Repeat("a ", api.MaxText/2) + "b") {
		n++
		is(t, "more than may be", d, diag(1, api.TooLarge, 1, 1))
		is(t, "more than may be", k, api.Token{})
	}
	is(t, "more than may be", n, 1)
}

func TestP103Words(t *testing.T) {
	t.Parallel()
	for _, w := range allWords {
		must(t, w+" is a word", token.Word(w))
		must(t, w+" is no name", !token.Name(w))
	}
	for _, w := range []string{"", "Int", "ints", "main", " int", "int ", "->", "7", "for"} {
		must(t, strconv.Quote(w)+" is no word", !token.Word(w))
	}
	for _, w := range []string{"a", "Z", "_", "a1", "_9", "Int", "ints", "own", strings.Repeat("z", 40)} {
		must(t, w+" is a name", token.Name(w))
	}
	for _, w := range []string{"", "1", "1a", " a", "a ", "a b", "a-", "é", "aé", "->", "a\n", strings.Repeat("z", 41)} {
		must(t, strconv.Quote(w)+" is no name", !token.Name(w))
	}
	for c := range 256 {
		b := byte(c)
		letter := b == '_' || b >= 'a' && b <= 'z' || b >= 'A' && b <= 'Z'
		is(t, "a name of one byte", token.Name(string([]byte{b})), letter)
		is(t, "a name of two bytes", token.Name(string([]byte{'a', b})), letter || b >= '0' && b <= '9')
	}
}

func TestP103TextSame(t *testing.T) {
	t.Parallel()
	l, _ := token.Scan("x->y<=10 // c\n!=")
	is(t, "Text", token.Text(l), "x -> y <= 10 !=")
	is(t, "Text of nothing", token.Text(nil), "")
	is(t, "Text of an end", token.Text([]api.Token{{Kind: 5, Text: "e"}}), "")
	is(t, "Text with an end within", token.Text([]api.Token{{Kind: 1, Text: "a"}, {Kind: 5, Text: "e"}, {Kind: 9, Text: "b"}}), "a b")
	is(t, "Text of empty ones", token.Text([]api.Token{{Kind: 1}, {Kind: 1}}), " ")
	a := []api.Token{{Kind: 3, Text: "7", N: 7, At: api.Pos{Line: 1, Col: 1}}, {Kind: 5}}
	b := []api.Token{{Kind: 3, Text: "7", N: 7, At: api.Pos{Line: 2, Col: 3}}, {Kind: 5, At: api.Pos{Line: 9}}}
	must(t, "alike but for places", token.Same(a, b))
	must(t, "nil and empty", token.Same(nil, []api.Token{}))
	must(t, "another length", !token.Same(a, b[:1]) && !token.Same(a[:1], b))
	for i, c := range []api.Token{{Kind: 1, Text: "7", N: 7}, {Kind: 3, Text: "8", N: 7}, {Kind: 3, Text: "7", N: 8}} {
		must(t, "not alike "+strconv.Itoa(i), !token.Same(a, []api.Token{c, {Kind: 5}}))
		must(t, "not alike, the last one "+strconv.Itoa(i), !token.Same([]api.Token{a[0], a[0]}, []api.Token{a[0], c}))
	}
}

func TestP104Again(t *testing.T) {
	t.Parallel()
	for seed := range uint64(1000) {
		l, d := token.Scan(chanceText(seed))
		if d != (api.Diag{}) {
			continue
		}
		m, e := token.Scan(token.Text(l))
		is(t, "diag", e, api.Diag{})
		must(t, "scanned to the same: "+token.Text(l), token.Same(l, m))
	}
}
