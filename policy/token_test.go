package policy

import "testing"

func TestTokenAt(t *testing.T) {
	for _, c := range []struct {
		src  string
		from int
		want token
	}{
		{"", 0, token{kind: endToken}},
		{" \n ", 0, token{kind: endToken, at: 3}},
		{"queue", 0, token{fixedToken, "queue", 0}},
		{"  queues 1", 0, token{nameToken, "queues", 2}},
		{"r12;", 0, token{nameToken, "r", 0}},
		{"r12;", 1, token{numberToken, "12", 1}},
		{"r12;", 3, token{fixedToken, ";", 3}},
		{"<{}", 0, token{fixedToken, "<", 0}},
		{"<{}", 1, token{fixedToken, "{", 1}},
		{"<{}", 2, token{fixedToken, "}", 2}},
		{"abcdefgh", 0, token{nameToken, "abcdefgh", 0}},
		{"\nabcdefghi", 0, token{kind: noToken, at: 1}},
		{"009a", 0, token{numberToken, "009", 0}},
		{" 0009", 0, token{kind: noToken, at: 1}},
		{"\t", 0, token{kind: noToken}},
		{" A", 0, token{kind: noToken, at: 1}},
		{" \xff", 0, token{kind: noToken, at: 1}},
	} {
		if got := tokenAt(c.src, c.from); got != c.want {
			t.Errorf("tokenAt(%q, %d) = %+v, want %+v", c.src, c.from, got, c.want)
		}
	}
}

func TestEveryKeyword(t *testing.T) {
	words := []string{"queue", "ghost", "var", "freq", "on", "miss", "put", "tail", "evict", "shift", "drop", "inc", "dec", "bump", "cool", "if", "else", "repeat", "while", "not", "full", "empty", "warm", "len"}
	for _, word := range words {
		if got := tokenAt(word, 0).kind; got != fixedToken {
			t.Errorf("%q is a token of kind %d", word, got)
		}
		if _, err := Read("queue " + word + " 1; on miss { }"); err == nil {
			t.Errorf("%q was taken for a name", word)
		}
	}
}
