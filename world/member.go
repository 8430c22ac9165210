package world

import (
	"narrows/api"
	"narrows/chain"
	"narrows/client"
	"narrows/mail"
	"narrows/relay"
	"narrows/router"
)

// member is a party that is not corrupted.
type member interface {
	// hear takes octets in, at that time of the sending side.
	hear(data []byte, now int)

	// look is what comes of a look at both sides: letters, and what is sent to the sides.
	look(s *chain.Chain, r *chain.Chain) ([]api.Mail, []api.Send)
}

// keeper is a member with a journal, whose power may go.
type keeper interface {
	member
	Fall(s *chain.Chain, r *chain.Chain, keep int)
	Up() api.Errno
	Down() bool
}

// user is a member who asks.
type user struct{ *client.Client }

// lender is a member who bids.
type lender struct{ *router.Router }

// carrier is a member who brings what users signed.
type carrier struct{ *relay.Relay }

// hear lets a user hear of a bid.
func (u user) hear(data []byte, now int) {
	u.Hear(data, now)
}

// look lets a user look: what it tells is for the relayer.
func (u user) look(s *chain.Chain, r *chain.Chain) ([]api.Mail, []api.Send) {
	messages, sends := u.Look(s, r)
	return letters(messages, func(api.Message) int { return relayer }), sends
}

// hear lets a router hear of an ask.
func (l lender) hear(data []byte, _ int) {
	l.Hear(data)
}

// look lets a router look: what it tells is for the user whom its bid is for.
func (l lender) look(s *chain.Chain, r *chain.Chain) ([]api.Mail, []api.Send) {
	messages, sends := l.Look(s, r)
	return letters(messages, func(m api.Message) int { return m.Bid.Ask.User }), sends
}

// hear lets the relayer hear of what a user signed.
func (c carrier) hear(data []byte, _ int) {
	c.Hear(data)
}

// look lets the relayer look, at the receiving side.
func (c carrier) look(_ *chain.Chain, r *chain.Chain) ([]api.Mail, []api.Send) {
	return nil, c.Look(r)
}

// letters is messages as octets, each for the party that to tells.
func letters(messages []api.Message, to func(m api.Message) int) []api.Mail {
	var all []api.Mail
	for _, m := range messages {
		if data, err := mail.Put(m); err == api.OK {
			all = append(all, api.Mail{To: to(m), Data: data})
		}
	}
	return all
}
