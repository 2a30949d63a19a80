package table

import (
	"dactyl/api"
	"dactyl/hash"
	"dactyl/wire"
)

const parts = 5 // the digits and the indicators

// Encode returns the encoding of tables.
func Encode(t api.Tables) []byte {
	var b []byte
	for _, l := range t.Lang {
		b = append(b, wire.Int(len(l.Rules))...)
		for _, r := range l.Rules {
			b = append(b, wire.Bytes(r.Text)...)
			b = append(b, wire.Int(r.Where)...)
			b = append(b, wire.Bytes(string(r.Cells))...)
		}
	}
	return append(b, wire.Strings([]string{
		string(t.Digits), string(t.Cap), string(t.Num), string(t.End), string(t.Switch),
	})...)
}

// Decode decodes tables at the beginning of a byte sequence; they need not be valid.
func Decode(b []byte) (api.Tables, int, api.Errno) {
	var t api.Tables
	used := 0
	for i := range t.Lang {
		rules, n, e := getRules(b[used:])
		if e != api.OK {
			return api.Tables{}, 0, e
		}
		t.Lang[i].Rules = rules
		used += n
	}
	l, n, e := wire.GetStrings(b[used:])
	if e != api.OK {
		return api.Tables{}, 0, e
	}
	if len(l) != parts {
		return api.Tables{}, 0, api.ErrForm
	}
	t.Digits = []byte(l[0])
	t.Cap, t.Num, t.End, t.Switch = []byte(l[1]), []byte(l[2]), []byte(l[3]), []byte(l[4])
	return t, used + n, api.OK
}

// Digest returns the digest of tables.
func Digest(t api.Tables) api.Digest {
	return hash.Of(api.TagTable, string(Encode(t)))
}

// getRules decodes the rules of a language.
func getRules(b []byte) ([]api.Rule, int, api.Errno) {
	number, used, e := wire.GetInt(b)
	if e != api.OK {
		return nil, 0, e
	}
	if number < 0 {
		return nil, 0, api.ErrForm
	}
	// The list grows with what is decoded, as a number from outside can be
	// greater than any memory.
	var rules []api.Rule
	for range number {
		r, n, e := getRule(b[used:])
		if e != api.OK {
			return nil, 0, e
		}
		rules = append(rules, r)
		used += n
	}
	return rules, used, api.OK
}

// getRule decodes a rule.
func getRule(b []byte) (api.Rule, int, api.Errno) {
	text, used, e := wire.GetBytes(b)
	if e != api.OK {
		return api.Rule{}, 0, e
	}
	where, n, e := wire.GetInt(b[used:])
	if e != api.OK {
		return api.Rule{}, 0, e
	}
	used += n
	cells, n, e := wire.GetBytes(b[used:])
	if e != api.OK {
		return api.Rule{}, 0, e
	}
	return api.Rule{Text: text, Where: where, Cells: []byte(cells)}, used + n, api.OK
}
