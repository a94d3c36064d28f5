package pkce

import (
	"usher/api"
	"usher/sums"
)

// Seal makes a secret out of a password.
func Seal(pass, salt string, rounds int) (api.Secret, error) {
	if salt == "" || len(salt) > api.MaxSalt {
		return api.Secret{}, api.ErrArg
	}
	digest, err := sums.Stretch(pass, salt, rounds)
	if err != nil {
		return api.Secret{}, err
	}
	return api.Secret{Salt: salt, Digest: digest}, nil
}

// Password: is pass the password of that secret? Where the rounds are refused it is not, though an empty digest would then be the same as the one that is kept.
func Password(pass string, k api.Secret, rounds int) bool {
	digest, err := sums.Stretch(pass, k.Salt, rounds)
	return err == nil && Same(k.Digest, digest)
}
