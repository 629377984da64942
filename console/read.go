package console

import (
	"strconv"
	"strings"

	"idshift/api"
)

const (
	most  = 99999 // the greatest number that a word may be: it has five digits
	stays = -1    // an id that stays as it is
	none  = "-"   // a word for nothing
)

// asked: what the words of a line say.
type asked struct {
	number int
	config api.Config
	call   api.Call
}

// reader of a word: false, if it may not be so.
type reader func(a *asked, word string) bool

// readers: how words are read, by their names in the shapes of lines.
func readers() map[string]reader {
	return map[string]reader{
		"N":      by(number, func(a *asked, n int) { a.number = n }),
		"QUOTA":  by(number, func(a *asked, n int) { a.config.Quota = n }),
		"USERS":  by(ranges, func(a *asked, m []api.Range) { a.config.Maps.Users = m }),
		"GROUPS": by(ranges, func(a *asked, m []api.Range) { a.config.Maps.Groups = m }),
		"USER":   by(number, func(a *asked, n int) { a.config.Cred.User = n }),
		"GROUP":  by(number, func(a *asked, n int) { a.config.Cred.Group = n }),
		"CAPS":   by(number, func(a *asked, n int) { a.config.Cred.Caps = n }),
		"LOWERS": by(numbers, func(a *asked, l []int) { a.config.Lowers = l }),
		"P":      by(text, func(a *asked, s string) { a.call.Path = s }),
		"Q":      by(text, func(a *asked, s string) { a.call.Other = s }),
		"NAME":   by(text, func(a *asked, s string) { a.call.Name = s }),
		"X":      by(data, func(a *asked, s string) { a.call.Data = s }),
		"MODE":   by(number, func(a *asked, n int) { a.call.A = n }),
		"A":      by(id, func(a *asked, n int) { a.call.A = n }),
		"B":      by(id, func(a *asked, n int) { a.call.B = n }),
	}
}

// by a way to read a word, and to keep what it says.
func by[T any](read func(word string) (T, bool), keep func(a *asked, x T)) reader {
	return func(a *asked, word string) bool {
		x, is := read(word)
		if is {
			keep(a, x)
		}
		return is
	}
}

// read words, each by its name.
func (a *asked) read(names, words []string) bool {
	if len(words) != len(names) {
		return false
	}
	all := readers()
	for i, name := range names {
		if !all[name](a, words[i]) {
			return false
		}
	}
	return true
}

// number: a word that is told just so.
func number(word string) (int, bool) {
	n, err := strconv.Atoi(word)
	if err != nil || n < 0 || n > most || strconv.Itoa(n) != word {
		return 0, false
	}
	return n, true
}

// id: a number, or that it stays.
func id(word string) (int, bool) {
	if word == strconv.Itoa(stays) {
		return stays, true
	}
	return number(word)
}

// text: any word; whether it is a path or a name, the box says.
func text(word string) (string, bool) { return word, true }

// data, byte by byte.
func data(word string) (string, bool) {
	if word == none {
		return "", true
	}
	if len(word)%2 != 0 {
		return "", false
	}
	var b []byte
	for i := 0; i < len(word); i += 2 {
		high, low := strings.IndexByte(digits, word[i]), strings.IndexByte(digits, word[i+1])
		if high < 0 || low < 0 {
			return "", false
		}
		b = append(b, byte(high<<4|low))
	}
	return string(b), true
}

// numbers: a list of them.
func numbers(word string) ([]int, bool) { return list(word, number) }

// ranges of a map.
func ranges(word string) ([]api.Range, bool) { return list(word, oneRange) }

func oneRange(word string) (api.Range, bool) {
	l, is := parts(word, ":", number)
	if !is || len(l) != 3 {
		return api.Range{}, false
	}
	return api.Range{In: l[0], Out: l[1], Count: l[2]}, true
}

// list of what is read one by one; it may be empty.
func list[T any](word string, read func(part string) (T, bool)) ([]T, bool) {
	if word == none {
		return nil, true
	}
	return parts(word, ",", read)
}

// parts of a word, one at least, with a mark between.
func parts[T any](word, mark string, read func(part string) (T, bool)) ([]T, bool) {
	var l []T
	for _, part := range strings.Split(word, mark) {
		x, is := read(part)
		if !is {
			return nil, false
		}
		l = append(l, x)
	}
	return l, true
}
