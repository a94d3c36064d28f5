package pkce_test

import (
	"math"
	"math/rand"
	"strings"
	"testing"

	"usher/api"
)

func TestSealIsTheStandards(t *testing.T) {
	random := rand.New(rand.NewSource(106))
	for _, passSize := range []int{0, 1, 8, 63, 64, 65, 200} {
		for saltSize := 1; saltSize <= 64; saltSize++ {
			mustSeal(t, noise(random, everyByte(), passSize), noise(random, everyByte(), saltSize), 1+saltSize%4)
		}
	}
	mustSeal(t, "", "\x00", 1)
	mustSeal(t, everyByte(), strings.Repeat("\xff", 64), 3)
	mustSeal(t, strings.Repeat("p", 1<<20), "salt", 2)
}

func TestRoundsOfSeals(t *testing.T) {
	for _, rounds := range []int{1, 2, 3, 10, 999, 1000} {
		mustSeal(t, "password", "salt", rounds)
		mustSeal(t, "", "s", rounds)
	}
	for _, rounds := range wrongRounds() {
		mustNotSeal(t, "password", "salt", rounds)
		mustNotSeal(t, "", strings.Repeat("s", 64), rounds)
	}
}

func wrongRounds() []int {
	return []int{0, -1, -2, -1000, math.MinInt, math.MinInt + 1, 1001, 1002, 2000, 1 << 32, 1<<32 + 1, math.MaxInt}
}

func TestSaltsOfSeals(t *testing.T) {
	for size := 1; size <= 64; size++ {
		mustSeal(t, "password", strings.Repeat("s", size), 1)
	}
	for _, size := range []int{0, 65, 66, 128, 256, 257, 320, 1 << 16, 1 << 20} {
		for _, rounds := range append(wrongRounds(), 1, 2, 1000) {
			mustNotSeal(t, "password", strings.Repeat("s", size), rounds)
		}
		mustNotSeal(t, "", strings.Repeat("\x00", size), 1)
	}
}

func TestWrongPasswords(t *testing.T) {
	k := mustSeal(t, "password", "salt", 3)
	for at := range len("password") {
		for bit := range 8 {
			mustPassword(t, flipped("password", at, 1<<bit), k, 3, false)
		}
		mustPassword(t, "password"[:at], k, 3, false)
	}
	for _, pass := range []string{"", "Password", "PASSWORD", "passwor", "password ", " password", "passwordpassword", k.Digest, k.Salt} {
		mustPassword(t, pass, k, 3, false)
	}
	for _, rounds := range []int{1, 2, 4, 999, 1000} {
		mustPassword(t, "password", k, rounds, false)
	}
	for _, salt := range []string{"", "sal", "salt ", "Salt", "salu", "salt\x00", strings.Repeat("s", 65)} {
		mustPassword(t, "password", api.Secret{Salt: salt, Digest: k.Digest}, 3, false)
	}
}

// TestRoundsOfPasswords: what cannot be stretched is never right, also where nothing is held against nothing.
func TestRoundsOfPasswords(t *testing.T) {
	for _, sealed := range []int{1, 2, 999, 1000} {
		k := mustSeal(t, "password", "salt", sealed)
		for _, rounds := range wrongRounds() {
			mustPassword(t, "password", k, rounds, false)
			mustPassword(t, "password", api.Secret{Salt: "salt"}, rounds, false)
			mustPassword(t, "", api.Secret{}, rounds, false)
			mustPassword(t, "password", api.Secret{Salt: "salt", Digest: strings.Repeat("\x00", 32)}, rounds, false)
		}
	}
}

func TestDigestsOfPasswords(t *testing.T) {
	k := mustSeal(t, "password", "salt", 2)
	digest := k.Digest
	for size := range 32 {
		mustPassword(t, "password", api.Secret{Salt: "salt", Digest: digest[:size]}, 2, false)
		mustPassword(t, "password", api.Secret{Salt: "salt", Digest: digest[32-size:]}, 2, false)
	}
	for n := range 256 {
		mustPassword(t, "password", api.Secret{Salt: "salt", Digest: digest + oneByte(n)}, 2, false)
		mustPassword(t, "password", api.Secret{Salt: "salt", Digest: oneByte(n) + digest}, 2, false)
		mustPassword(t, "password", api.Secret{Salt: "salt", Digest: digest[:31] + oneByte(n)}, 2, byte(n) == digest[31])
		mustPassword(t, "password", api.Secret{Salt: "salt", Digest: oneByte(n) + digest[1:]}, 2, byte(n) == digest[0])
	}
	for at := range 32 {
		mustPassword(t, "password", api.Secret{Salt: "salt", Digest: flipped(digest, at, 0x10)}, 2, false)
	}
	mustPassword(t, "password", api.Secret{Salt: "salt", Digest: digest + digest}, 2, false)
	for _, size := range []int{0, 31, 32, 33, 64} {
		mustPassword(t, "password", api.Secret{Salt: "salt", Digest: strings.Repeat("\x00", size)}, 2, false)
	}
}

// TestSaltsOfPasswords: a salt that Seal refuses is none that Password looks at.
func TestSaltsOfPasswords(t *testing.T) {
	for _, size := range []int{0, 1, 63, 64, 65, 66, 200, 1 << 16} {
		salt := strings.Repeat("s", size)
		for _, pass := range []string{"", "password"} {
			k := api.Secret{Salt: salt, Digest: standardDigest(t, pass, salt, 2)}
			mustPassword(t, pass, k, 2, true)
			mustPassword(t, pass, k, 1, false)
			mustPassword(t, pass+"x", k, 2, false)
		}
	}
}

func TestDrawnPasswords(t *testing.T) {
	random := rand.New(rand.NewSource(107))
	for range 2000 {
		pass := noise(random, "ab\x00", random.Intn(4))
		other := noise(random, "ab\x00", random.Intn(4))
		salt, rounds := noise(random, "st", 1+random.Intn(3)), 1+random.Intn(3)
		k := mustSeal(t, pass, salt, rounds)
		// A key of less than 64 bytes is filled up with zero bytes: these at the end of a password tell nothing.
		same := strings.TrimRight(pass, "\x00") == strings.TrimRight(other, "\x00")
		mustPassword(t, other, k, rounds, same)
		mustPassword(t, pass, k, rounds+1, false)
	}
}
