package sample

import "hindsight/api"

// Ask that passes Check of chapter 13, with so many parts as are drawn, up to as many as there may be.
func Ask(draw Draw) api.Ask { return askOf(draw, 1+draw(api.MaxAsk)) }

// askOf just so many parts.
func askOf(draw Draw, parts int) api.Ask {
	switch {
	case parts == 1:
		return leaf(draw)
	case parts == 2 || draw(3) == 0:
		q := api.Ask{Kind: [...]int{api.AskNot, api.AskPrev, api.AskOnce, api.AskAll, api.AskSoon}[draw(5)]}
		if q.Kind == api.AskSoon {
			q.N = [...]int{0, 1, 2, 5, api.MaxTrace}[draw(5)]
		}
		q.Args = []api.Ask{askOf(draw, parts-1)}
		return q
	}
	left := 1 + draw(parts-2)
	kind := [...]int{api.AskAnd, api.AskOr, api.AskSince}[draw(3)]
	return api.Ask{Kind: kind, Args: []api.Ask{askOf(draw, left), askOf(draw, parts-1-left)}}
}

// leaf: a part without others in it.
func leaf(draw Draw) api.Ask {
	q := api.Ask{Kind: api.AskStep + draw(api.AskSame)}
	switch {
	case q.Kind <= api.AskCall:
		q.N = [...]int{-1, 0, 1, 2, 3, api.MaxNumber}[draw(6)]
	case q.Kind >= api.AskLess:
		q.N = [...]int{-2, -1, 0, 1, 2, 3, api.MaxNumber, -api.MaxNumber}[draw(8)]
	}
	return q
}
