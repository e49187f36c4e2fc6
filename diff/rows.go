package diff

import (
	"emender/api"
	"emender/flat"
)

// nowhere is the place of a block in what does not have it.
const nowhere = -1

// Kinds of rows.
const (
	stays = iota
	goes
	comes
)

// Row is a block that stays, goes or comes: its places in the one and in the other document.
type Row struct {
	Kind int
	A    int
	B    int
}

// block is what stands in nothing, with all in it, and the place where it begins.
type block struct {
	at     int
	tokens []api.Token
}

// Rows answers a row of each block of the documents a and b.
func Rows(a []api.Token, b []api.Token) ([]Row, api.Errno) {
	if e := check(a, b); e != api.OK {
		return nil, e
	}
	ofA, ofB := blocks(a), blocks(b)
	if len(ofA) > mostBlocks || len(ofB) > mostBlocks {
		return nil, api.ErrLong
	}
	pairs := longest(ofA, ofB, func(x, y block) bool { return flat.Same(x.tokens, y.tokens) })
	return rows(ofA, ofB, pairs), api.OK
}

// blocks answers the blocks of the document l: each goes on to where the next one begins.
func blocks(l []api.Token) []block {
	kids := flat.Kids(l, nowhere)
	var all []block
	for i, at := range kids {
		end := len(l)
		if i+1 < len(kids) {
			end = kids[i+1]
		}
		all = append(all, block{at, l[at:end]})
	}
	return all
}

// rows tells all blocks of a and b in order: ahead of each pair those of a that go, then those of b that come.
func rows(a []block, b []block, pairs [][2]int) []Row {
	var all []Row
	i, j := 0, 0
	goOn := func(toA, toB int) {
		for ; i < toA; i++ {
			all = append(all, Row{goes, a[i].at, nowhere})
		}
		for ; j < toB; j++ {
			all = append(all, Row{comes, nowhere, b[j].at})
		}
	}
	for _, p := range pairs {
		goOn(p[0], p[1])
		all = append(all, Row{stays, a[i].at, b[j].at})
		i, j = i+1, j+1
	}
	goOn(len(a), len(b))
	return all
}
