package sums

import "usher/api"

// firstBlock is the number of PBKDF2's first block, as it stands behind the salt.
const firstBlock = "\x00\x00\x00\x01"

// keyed is a key that has been taken in: many messages can be signed with it, each on copies of its two digests.
type keyed struct {
	inner, outer Hash
}

func takeKey(key string) keyed {
	if len(key) > pieceBytes {
		key = Sha(key)
	}
	var inner, outer [pieceBytes]byte
	copy(inner[:], key)
	copy(outer[:], key)
	for i := range pieceBytes {
		inner[i] ^= 0x36
		outer[i] ^= 0x5c
	}
	k := keyed{inner: *NewHash(), outer: *NewHash()}
	k.inner.Add(string(inner[:]))
	k.outer.Add(string(outer[:]))
	return k
}

// sign is called on a copy of the key, so that nothing of one message is left for the next.
func (k keyed) sign(msg string) string {
	k.inner.Add(msg)
	k.outer.Add(k.inner.Sum())
	return k.outer.Sum()
}

// Mac is HMAC-SHA-256 of msg with key, 32 bytes.
func Mac(key, msg string) string { return takeKey(key).sign(msg) }

// Stretch is the first block of PBKDF2 with HMAC-SHA-256, 32 bytes.
func Stretch(pass, salt string, rounds int) (string, error) {
	if rounds < 1 || rounds > api.MaxRounds {
		return "", api.ErrArg
	}
	key := takeKey(pass)
	link := key.sign(salt + firstBlock)
	var all [digestBytes]byte
	copy(all[:], link)
	for range rounds - 1 {
		link = key.sign(link)
		for i := range all {
			all[i] ^= link[i]
		}
	}
	return string(all[:]), nil
}
