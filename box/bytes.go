package box

import (
	"idshift/api"
	"idshift/cred"
	"idshift/quota"
	"idshift/tree"
)

// credBytes: how many bytes a cred has ahead of its Groups; groupBytes: how many each of these has.
const (
	credBytes  = 6
	groupBytes = 2
)

// Bytes of a box: who asks, and the upper.
func (b *Box) Bytes() string {
	s := two(nil, b.cred.User)
	s = two(s, b.cred.Group)
	s = append(s, byte(b.cred.Caps), byte(len(b.cred.Groups)))
	for _, g := range b.cred.Groups {
		s = two(s, g)
	}
	// An upper that is none never becomes a box's.
	upper, _ := tree.Bytes(b.upper())
	return string(s) + upper
}

// Load a box whose Bytes these are.
func Load(c api.Config, lowers []api.Node, s string) (*Box, error) {
	b, err := New(c, lowers)
	if err != nil {
		return nil, err
	}
	who, rest := readCred(s)
	if cred.Check(who) != nil {
		return nil, api.ErrText
	}
	upper, err := tree.Parse(rest, true)
	if err != nil || quota.Blocks(upper) > b.quota {
		return nil, api.ErrText
	}
	b.cred, b.layers[0] = who, upper
	return b, nil
}

// two bytes of a number, the higher first, behind others.
func two(s []byte, x int) []byte { return append(s, byte(x>>8), byte(x)) }

// readTwo: the number that begins at a place.
func readTwo(s string, at int) int { return int(s[at])<<8 | int(s[at+1]) }

// readCred: who asks, and the bytes behind. Behind too few bytes there are none, and so no upper.
func readCred(s string) (who api.Cred, rest string) {
	if len(s) < credBytes {
		return api.Cred{}, ""
	}
	end := credBytes + groupBytes*int(s[5])
	if len(s) < end {
		return api.Cred{}, ""
	}
	who = api.Cred{User: readTwo(s, 0), Group: readTwo(s, 2), Caps: int(s[4])}
	for at := credBytes; at < end; at += groupBytes {
		who.Groups = append(who.Groups, readTwo(s, at))
	}
	return who, s[end:]
}
