package codec

import (
	"emender/api"
	"emender/flat"
	"emender/record"
	"emender/step"
)

// mostNumber is the greatest number of which anything is made.
const mostNumber = 1<<31 - 1

func checkDoc(l []api.Token) api.Errno {
	if len(l) > api.MaxDoc {
		return api.ErrLong
	}
	for _, t := range l {
		if !flat.Right(t) {
			return api.ErrArg
		}
	}
	return api.OK
}

func checkEntry(e api.Entry) api.Errno {
	if !record.IsClient(e.Who) || e.Seq < 0 || e.Seq > mostNumber {
		return api.ErrArg
	}
	return step.Check(e.S)
}

func checkMsg(m api.Msg) api.Errno {
	if !isKind(m.K) || !record.IsClient(m.Who) || m.Version < 0 || m.Version > api.MaxLog {
		return api.ErrArg
	}
	if len(m.L) > api.MaxLog {
		return api.ErrLong
	}
	for _, one := range m.L {
		if e := checkEntry(one); e != api.OK {
			return e
		}
	}
	return api.OK
}

// isKind leaves MDoc out: it has a document behind its version where a message has entries, and rooms write it on their own.
func isKind(k int) bool {
	return k == api.MSubmit || k == api.MAsk || k == api.MTold
}
