package fence

import (
	"watershed/api"
	"watershed/code"
)

// How many bytes the text of a record may have.
const maxText = 4000

// isTerm tells whether an entry may have a term.
func isTerm(term int) bool { return 1 <= term && term <= api.MaxTerm }

// isEntry tells whether a term and a text are what an entry may have.
func isEntry(entry Entry) bool {
	most := maxText
	if entry.Claim {
		most = 0
	}
	return isTerm(entry.Term) && len(entry.S) <= most
}

// encode is an entry's bytes: its term and whether it is a claim in one number, and then its text, up to the end.
func encode(entry Entry) string {
	v := 2 * uint64(entry.Term)
	if entry.Claim {
		v++
	}
	return code.Num(v) + entry.S
}

// decode is the entry whose bytes are s; false: there is none.
func decode(s string) (Entry, bool) {
	r := code.New(s)
	v := r.Int(2*api.MaxTerm + 1)
	if r.Err() != api.OK {
		return Entry{}, false
	}
	entry := Entry{Term: v / 2, Claim: v%2 == 1, S: s[len(s)-r.Left():]}
	if !isEntry(entry) {
		return Entry{}, false
	}
	return entry, true
}

// follows tells whether an entry may stand behind one with a term, or behind none if that is 0.
func follows(entry Entry, term int) bool {
	if entry.Claim {
		return entry.Term > term
	}
	return entry.Term >= term
}
