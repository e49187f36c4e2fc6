package step

import (
	"emender/api"
	"emender/flat"
	"emender/mark"
)

// hasItsFields tells whether those fields of s that only its kind has are right, and all others empty. s is a copy: what is found right is emptied, so that nothing may be left in the end.
func hasItsFields(s api.Step) bool {
	switch s.K {
	case api.SMark, api.SUnmark:
		if !isMark(s.Mark) || s.From == s.To {
			return false
		}
		s.Mark = 0
	case api.SAround:
		if !hasItsGap(s) {
			return false
		}
		s.GapFrom, s.GapTo, s.Insert = 0, 0, 0
		fallthrough
	case api.SReplace:
		if !areRight(s.Slice) {
			return false
		}
		s.Slice = nil
	default:
		return false
	}
	return Same(s, api.Step{K: s.K, From: s.From, To: s.To})
}

func hasItsGap(s api.Step) bool {
	return s.From <= s.GapFrom && s.GapFrom < s.GapTo && s.GapTo <= s.To &&
		0 <= s.Insert && s.Insert <= len(s.Slice)
}

func isMark(m int) bool {
	_, e := mark.Add(0, m)
	return e == api.OK
}

func areRight(l []api.Token) bool {
	for _, t := range l {
		if !flat.Right(t) {
			return false
		}
	}
	return true
}

// do answers what the right step s makes of l, which reaches as far as s.
func do(l []api.Token, s api.Step) []api.Token {
	switch s.K {
	case api.SMark:
		return remark(l, s, mark.Add)
	case api.SUnmark:
		return remark(l, s, mark.Take)
	case api.SReplace:
		// It is an SAround whose gap is nothing, behind all that it takes out.
		s.GapFrom, s.GapTo, s.Insert = s.To, s.To, len(s.Slice)
		fallthrough
	default:
		return join(
			cut(l, 0, s.From),
			cut(s.Slice, 0, s.Insert),
			cut(l, s.GapFrom, s.GapTo),
			cut(s.Slice, s.Insert, len(s.Slice)),
			cut(l, s.To, len(l)),
		)
	}
}

// remark answers l, the marks of the text within s changed by change.
func remark(l []api.Token, s api.Step, change func(set int, m int) (int, api.Errno)) []api.Token {
	then := join(l)
	for i := s.From; i < s.To; i++ {
		if then[i].K == api.TRune {
			then[i].M, _ = change(then[i].M, s.Mark)
		}
	}
	return then
}

// otherKind answers the kind that undoes k, one of the two of marks.
func otherKind(k int) int {
	if k == api.SMark {
		return api.SUnmark
	}
	return api.SMark
}

// merged answers a and b, of one kind and one mark, as one; it may be too long.
func merged(a api.Step, b api.Step) (api.Step, bool) {
	switch a.K {
	case api.SReplace:
		return mergedReplaces(a, b)
	case api.SMark, api.SUnmark:
		touch := a.From <= b.To && b.From <= a.To
		return api.Step{K: a.K, From: min(a.From, b.From), To: max(a.To, b.To), Mark: a.Mark}, touch
	}
	return api.Step{}, false
}

func mergedReplaces(a api.Step, b api.Step) (api.Step, bool) {
	switch {
	case b.From == a.From+len(a.Slice):
		return api.Step{K: api.SReplace, From: a.From, To: a.To + b.To - b.From, Slice: join(a.Slice, b.Slice)}, true
	case b.To == a.From:
		return api.Step{K: api.SReplace, From: b.From, To: a.To, Slice: join(b.Slice, a.Slice)}, true
	}
	return api.Step{}, false
}
