package engine

import (
	"slices"

	"springhouse/api"
	"springhouse/digits"
	"springhouse/feed"
	"springhouse/letters"
)

// command: its name, which words stand behind that, and what is done. A letter stands for a word, isNumber for a number; the words of again stand there once or more often, all of them each time.
type command struct {
	name, once, again string
	do                deed
}

// deed: what a command does, told the words behind its name.
type deed func(k *keeper, l []string) (api.Reply, api.Errno)

const isNumber = 'n'

// find the command that words are, or what is wrong with them.
func find(l []string) (command, api.Errno) {
	if _, e := feed.Words(l); e != api.OK {
		return command{}, e
	}
	name := letters.Small(l[0])
	all := commands()
	i := slices.IndexFunc(all, func(c command) bool { return c.name == name })
	if i < 0 {
		return command{}, api.ErrNone
	}
	return all[i], all[i].check(l[1:])
}

// check the words behind the name.
func (c command) check(l []string) api.Errno {
	if !c.fits(len(l)) {
		return api.ErrForm
	}
	for i, word := range l {
		if _, ok := digits.Number(word); !ok && c.letter(i) == isNumber {
			return api.ErrRange
		}
	}
	return api.OK
}

// fits: may there be as many words?
func (c command) fits(n int) bool {
	more := n - len(c.once)
	if c.again == "" {
		return more == 0
	}
	return more > 0 && more%len(c.again) == 0
}

// letter of a word, by its place; there is one for each, if there are as many words as may be.
func (c command) letter(i int) byte {
	if i < len(c.once) {
		return c.once[i]
	}
	return c.again[(i-len(c.once))%len(c.again)]
}

// number of a word that was asked already.
func number(word string) int {
	n, _ := digits.Number(word)
	return n
}

// commands: all that are known.
func commands() []command {
	return slices.Concat(ofKeys(), ofTexts(), ofLists(), ofSets(), ofHashes(), ofScores())
}

// reads: a deed that answers what the item of the first key tells, and the words behind it.
func reads(ask func(x api.Item, l []string) (api.Reply, api.Errno)) deed {
	return func(k *keeper, l []string) (api.Reply, api.Errno) {
		return ask(k.item(l[0]), l[1:])
	}
}

// changes: a deed that puts another item in the place of the first key's, until when that one is there.
func changes(turn func(x api.Item, l []string) (api.Item, api.Reply, api.Errno)) deed {
	return func(k *keeper, l []string) (api.Reply, api.Errno) {
		x, r, e := turn(k.item(l[0]), l[1:])
		if e != api.OK {
			return api.Reply{}, e
		}
		return r, k.put(l[0], x, k.until(l[0]))
	}
}
