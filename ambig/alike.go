package ambig

import (
	"tracery/api"
	"tracery/charset"
)

// signTable is each byte's sign: bytes that are alike have one key, and the first one that has it is the least.
func signTable(g api.Gram, f api.Filters) [256]byte {
	sets := setsOf(g, f)
	least := map[string]byte{}
	var sign [256]byte
	for i := range sign {
		key := keyOf(sets, byte(i))
		if _, met := least[key]; !met {
			least[key] = byte(i)
		}
		sign[i] = least[key]
	}
	return sign
}

// keyOf is a text that says in which sets a byte is, a bit for each.
func keyOf(sets []api.Set, b byte) string {
	key := make([]byte, (len(sets)+7)/8)
	for i, s := range sets {
		if charset.Has(s, b) {
			key[i/8] |= 1 << (i % 8)
		}
	}
	return string(key)
}

// setsOf is the sets that part bytes, each once: the same ones mostly stand in many rules.
func setsOf(g api.Gram, f api.Filters) []api.Set {
	var list []api.Set
	met := map[api.Set]int{}
	add := func(s api.Set) {
		met[s]++
		if met[s] == 1 {
			list = append(list, s)
		}
	}
	for _, r := range g.Rules {
		for _, s := range r.Rhs {
			add(s.Set)
		}
	}
	for _, s := range f.Follow {
		add(s)
	}
	return list
}

// bytesOf is the bytes that are in some Set of a rule's symbol.
func bytesOf(g api.Gram) api.Set {
	var all api.Set
	for _, r := range g.Rules {
		for _, s := range r.Rhs {
			all = charset.Union(all, s.Set)
		}
	}
	return all
}
