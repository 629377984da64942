package console

import (
	"strconv"

	"idshift/api"
)

// shape of a line: what its words behind the first one are, by the names that readers have for them; and what it does and is answered.
type shape struct {
	words string
	do    func(s *session, a asked) (string, error)
}

// lineShapes: those of the host's lines, by their first words.
func lineShapes() map[string]shape {
	return map[string]shape{
		"box":     {"QUOTA USERS GROUPS USER GROUP CAPS LOWERS", func(s *session, a asked) (string, error) { return numbered(s.host.AddBox(a.config)) }},
		"unbox":   {"N", func(s *session, a asked) (string, error) { return ok, s.host.DropBox(a.number) }},
		"unlower": {"N", func(s *session, a asked) (string, error) { return ok, s.host.DropLower(a.number) }},
		"seal":    {"N", func(s *session, a asked) (string, error) { return numbered(s.host.Seal(a.number)) }},
		"cut":     {"N", func(s *session, a asked) (string, error) { return ok, s.disk.Cut(a.number) }},
		"boot":    {"", func(s *session, _ asked) (string, error) { return ok, s.boot() }},
		"left":    {"", func(s *session, _ asked) (string, error) { return strconv.Itoa(s.host.Left()), nil }},
		"boxes":   {"", func(s *session, _ asked) (string, error) { return tellNumbers(s.host.Boxes()), nil }},
		"lowers":  {"", func(s *session, _ asked) (string, error) { return tellNumbers(s.host.Lowers()), nil }},
	}
}

// callShapes: those of a box's calls, by the words behind its number.
func callShapes() map[string]shape {
	return map[string]shape{
		"stat":   {"P", call(api.CallStat, tellStat)},
		"list":   {"P", call(api.CallList, func(t api.Told) string { return tellWords(t.Names) })},
		"read":   {"P", call(api.CallRead, func(t api.Told) string { return tellData(t.Data) })},
		"get":    {"P NAME", call(api.CallGet, func(t api.Told) string { return tellData(t.Data) })},
		"put":    {"P MODE X", call(api.CallPut, tellDone)},
		"make":   {"P MODE", call(api.CallMake, tellDone)},
		"remove": {"P", call(api.CallRemove, tellDone)},
		"move":   {"P Q", call(api.CallMove, tellDone)},
		"mode":   {"P MODE", call(api.CallMode, tellDone)},
		"own":    {"P A B", call(api.CallOwn, tellDone)},
		"be":     {"A B", call(api.CallBe, tellDone)},
		"set":    {"P NAME X", call(api.CallSet, tellDone)},
		"drop":   {"P NAME", call(api.CallDrop, tellDone)},
		"charge": {"", call(api.CallCharge, func(t api.Told) string { return strconv.Itoa(t.Size) })},
	}
}

// call of a box, and how what it answers is told.
func call(op int, tell func(t api.Told) string) func(s *session, a asked) (string, error) {
	return func(s *session, a asked) (string, error) {
		a.call.Op = op
		t, err := s.host.Do(a.number, a.call)
		if err != nil {
			return "", err
		}
		return tell(t), nil
	}
}
