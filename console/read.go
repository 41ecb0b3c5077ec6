package console

import (
	"strings"

	"withy/api"
)

const (
	asks      = "? " // ahead of the names of questions
	maxDigits = 9
)

// order is what a line says: a verb, and numbers.
type order struct {
	verb    string
	numbers []int
}

// unread is thrown: a word that can't be read where it stands.
type unread string

// read is the order of a line.
func read(s string) (o order, err api.Errno) {
	defer func() {
		thrown := recover()
		if thrown == nil {
			return
		}
		if _, is := thrown.(unread); !is {
			panic(thrown)
		}
		o, err = order{}, api.ErrText
	}()
	words := strings.Split(s, " ")
	verb, rest := words[0], words[1:]
	if verb == "?" && len(rest) > 0 {
		verb, rest = asks+rest[0], rest[1:]
	}
	return order{verb: verb, numbers: numbers(takes(verb), rest...)}, api.OK
}

// takes is how many numbers follow a verb.
func takes(verb string) int {
	switch verb {
	case "settle", "? bound", "? ups", "? flights", "? queued":
		return 0
	case "field", "tick", "deliver", "drop", "twice", "late", "rounds", "? leader", "? core":
		return 1
	case "down", "cut", "? next":
		return 2
	case "up", "burst":
		return 3
	case "narrow":
		return 4
	}
	panic(unread(verb))
}

// numbers is so many words as numbers.
func numbers(want int, words ...string) []int {
	if len(words) != want {
		panic(unread(strings.Join(words, " ")))
	}
	var out []int
	for _, w := range words {
		out = append(out, number(w))
	}
	return out
}

// number is a word as a number.
func number(word string) int {
	if word == "" || len(word) > maxDigits || word[0] == '0' && word != "0" {
		panic(unread(word))
	}
	n := 0
	for _, r := range word {
		if r < '0' || r > '9' {
			panic(unread(word))
		}
		n = 10*n + int(r-'0')
	}
	return n
}
