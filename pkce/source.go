package pkce

import (
	"usher/api"
	"usher/radix"
)

// A drawn thing is kept as a value: nobody else holds its bytes.
type drawn [api.DrawBytes]byte

func (d drawn) identifier() string { return radix.Url(string(d[:])) }

// Source is the random source: a line of draws that wait.
type Source struct {
	waiting []drawn
}

// NewSource is one where none waits.
func NewSource() *Source { return &Source{} }

// Push puts a draw behind those that wait.
func (s *Source) Push(draw string) error {
	if len(draw) != api.DrawBytes {
		return api.ErrArg
	}
	if len(s.waiting) >= api.MaxDraws {
		return api.ErrMany
	}
	var last drawn
	copy(last[:], draw)
	s.waiting = append(s.waiting, last)
	return nil
}

// Fresh takes the first draw and makes an identifier of it; known tells whether there is one of that name. The draw is taken ahead of asking: it is used up whatever known answers.
func (s *Source) Fresh(known func(string) bool) (string, error) {
	if len(s.waiting) == 0 {
		return "", api.ErrDry
	}
	id := s.take().identifier()
	if known != nil && known(id) {
		return "", api.ErrTaken
	}
	return id, nil
}

// take leans on its caller: a draw must wait.
func (s *Source) take() drawn {
	first := s.waiting[0]
	s.waiting = s.waiting[1:]
	return first
}

// Left is how many draws wait.
func (s *Source) Left() int { return len(s.waiting) }
