package engine

import "springhouse/api"

func wordReply(s string) api.Reply { return api.Reply{Kind: api.ReplyText, Text: s} }

func numberReply(n int) api.Reply { return api.Reply{Kind: api.ReplyNumber, N: n} }

func bytesReply(s string) api.Reply { return api.Reply{Kind: api.ReplyBytes, Text: s} }

func listReply(l []string) api.Reply {
	r := api.Reply{Kind: api.ReplyList}
	for _, s := range l {
		r.List = append(r.List, bytesReply(s))
	}
	return r
}

func errorReply(e api.Errno) api.Reply { return api.Reply{Kind: api.ReplyError, N: int(e)} }

// refusal of a command that is known: only those that ask for one thing can find that there is none, which is no fault.
func refusal(e api.Errno) api.Reply {
	if e == api.ErrNone {
		return api.Reply{Kind: api.ReplyNone}
	}
	return errorReply(e)
}

// From here on: what calls answer, with a reply for it. Where there is an error nobody looks at the reply.

func asNumber(n int, e api.Errno) (api.Reply, api.Errno) { return numberReply(n), e }

func asFlag(ok bool, e api.Errno) (api.Reply, api.Errno) {
	if ok {
		return numberReply(1), e
	}
	return numberReply(0), e
}

func asBytes(s string, e api.Errno) (api.Reply, api.Errno) { return bytesReply(s), e }

func asList(l []string, e api.Errno) (api.Reply, api.Errno) { return listReply(l), e }

func withNumber(x api.Item, n int, e api.Errno) (api.Item, api.Reply, api.Errno) {
	return x, numberReply(n), e
}

func withBytes(x api.Item, s string, e api.Errno) (api.Item, api.Reply, api.Errno) {
	return x, bytesReply(s), e
}

func withOK(x api.Item, e api.Errno) (api.Item, api.Reply, api.Errno) { return x, wordReply("OK"), e }
