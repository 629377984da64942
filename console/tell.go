package console

import (
	"strconv"
	"strings"

	"idshift/api"
)

const (
	ok     = "ok"
	digits = "0123456789abcdef"
)

// numbered: the number of what was added, unless it wasn't.
func numbered(n int, err error) (string, error) {
	if err != nil {
		return "", err
	}
	return strconv.Itoa(n), nil
}

func tellDone(api.Told) string { return ok }

func tellStat(t api.Told) string {
	return tellNumbers([]int{t.Kind, t.Mode, t.User, t.Group, t.Size})
}

func tellNumbers(l []int) string {
	var words []string
	for _, n := range l {
		words = append(words, strconv.Itoa(n))
	}
	return tellWords(words)
}

func tellWords(l []string) string {
	if len(l) == 0 {
		return none
	}
	return strings.Join(l, " ")
}

// tellData as it is read.
func tellData(s string) string {
	if s == "" {
		return none
	}
	var b []byte
	for i := range len(s) {
		b = append(b, digits[s[i]>>4], digits[s[i]&15])
	}
	return string(b)
}
