package defs

import (
	"tracery/api"
)

func (r *reader) box() {
	r.pass()
	b := api.Box{Cons: r.name()}
	r.want("=")
	read := r.itemsReader()
	b.Items = read()
	r.def.Boxes = append(r.def.Boxes, b)
}

// itemsReader is a closure that reads items, and counts those of one template, since all that lie within others count too.
func (r *reader) itemsReader() func() []api.Item {
	have := 0
	var items func() []api.Item
	within := func() []api.Item {
		r.want("(")
		list := items()
		r.want(")")
		return list
	}
	items = func() []api.Item {
		var list []api.Item
		for {
			kind := r.itemKind()
			if kind == 0 {
				return list
			}
			r.room(have, api.MaxItems)
			have++
			list = append(list, r.item(kind, within))
		}
	}
	return items
}

// itemKind is the kind of the item that the next word begins, or 0, if it begins none.
func (r *reader) itemKind() int {
	switch w := r.word(); w.Kind {
	case api.WText:
		return api.BText
	case api.WNumber:
		return api.BHole
	default:
		return wordKind(w.Text)
	}
}

func wordKind(text string) int {
	switch text {
	case "_":
		return api.BLine
	case "/":
		return api.BCut
	case "nest":
		return api.BNest
	case "group":
		return api.BGroup
	}
	return 0
}

// item reads an item of that kind; within reads what stands in brackets.
func (r *reader) item(kind int, within func() []api.Item) api.Item {
	i := api.Item{Kind: kind}
	switch kind {
	case api.BText:
		i.Text = r.text()
	case api.BHole:
		i.N = r.number()
	case api.BNest:
		r.pass()
		i.N = r.number()
		i.Items = within()
	case api.BGroup:
		r.pass()
		i.Items = within()
	default:
		r.pass()
	}
	return i
}
