package session

import (
	"slices"
	"strings"

	"springhouse/api"
	"springhouse/cold"
	"springhouse/engine"
	"springhouse/feed"
	"springhouse/letters"
	"springhouse/reply"
)

// server of a session, at a time: the session, the text of what is answered, and the store. All of them were checked ahead.
type server struct {
	api.Session
	strings.Builder
	store api.Store
	now   int
}

// copied: a session as new memory.
func copied(s api.Session) api.Session {
	s.Queue = slices.Clone(s.Queue)
	for i := range s.Queue {
		s.Queue[i] = slices.Clone(s.Queue[i])
	}
	return s
}

// serve bytes that come.
func (v *server) serve(bytes string) {
	commands, rest, e := feed.Feed(v.Rest, bytes)
	v.Rest = rest
	for _, l := range commands {
		v.answer(v.turn(l))
	}
	if e != api.OK {
		v.end()
		v.answer(errorReply(e))
	}
}

// answer a reply, behind those that were answered.
func (v *server) answer(r api.Reply) {
	s, _ := reply.Encode(r) // no command answers one that is wrong: all its bytes and lists are within their limits
	v.WriteString(s)
}

// turn of a command: its reply.
func (v *server) turn(l []string) api.Reply {
	switch single(l) {
	case "multi":
		return v.begin()
	case "discard":
		return v.discard()
	case "exec":
		return v.exec()
	}
	if v.Multi {
		return v.putBy(l)
	}
	return v.do(l)
}

// single: the word, its letters small, of a command that has no other.
func single(l []string) string {
	if len(l) != 1 {
		return ""
	}
	return letters.Small(l[0])
}

func (v *server) begin() api.Reply {
	if v.Multi {
		return errorReply(api.ErrState)
	}
	v.Multi = true
	return wordReply("OK")
}

// end what was begun, if anything was: only bytes that wait stay.
func (v *server) end() { v.Session = api.Session{Rest: v.Rest} }

func (v *server) discard() api.Reply {
	was := v.Session
	v.end()
	if !was.Multi {
		return errorReply(api.ErrState)
	}
	return wordReply("OK")
}

// exec: what is put by is done, if nothing was wrong with it.
func (v *server) exec() api.Reply {
	was := v.Session
	v.end()
	if !was.Multi || was.Broken {
		return errorReply(api.ErrState)
	}
	all := api.Reply{Kind: api.ReplyList}
	for _, l := range was.Queue {
		all.List = append(all.List, within(v.do(l)))
	}
	return all
}

// within a list: a reply as it stands there, where no other list may.
func within(r api.Reply) api.Reply {
	if r.Kind == api.ReplyList {
		return api.Reply{Kind: api.ReplyNumber, N: len(r.List)}
	}
	return r
}

func (v *server) putBy(l []string) api.Reply {
	if e := v.refuses(l); e != api.OK {
		v.Broken = true
		return errorReply(e)
	}
	v.Queue = append(v.Queue, l)
	return wordReply("QUEUED")
}

// refuses: why a command can't be put by.
func (v *server) refuses(l []string) api.Errno {
	if e := engine.Known(l); e != api.OK {
		return e
	}
	if len(v.Queue) >= api.MaxQueue {
		return api.ErrMany
	}
	return api.OK
}

func (v *server) do(l []string) api.Reply {
	st, r, _ := cold.Do(v.store, v.now, l) // the store and the time are right: what is wrong with a command, the reply tells
	v.store = st
	return r
}

func wordReply(s string) api.Reply { return api.Reply{Kind: api.ReplyText, Text: s} }

func errorReply(e api.Errno) api.Reply { return api.Reply{Kind: api.ReplyError, N: int(e)} }
