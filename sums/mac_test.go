package sums_test

import (
	"crypto/hmac"
	"crypto/pbkdf2"
	"crypto/sha256"
	"math"
	"strings"
	"testing"

	"usher/api"
	"usher/sums"
)

func standardMac(key, msg string) string {
	m := hmac.New(sha256.New, []byte(key))
	m.Write([]byte(msg))
	return string(m.Sum(nil))
}

func standardStretch(t *testing.T, pass, salt string, rounds int) string {
	t.Helper()
	key, err := pbkdf2.Key(sha256.New, pass, []byte(salt), rounds, 32)
	if err != nil {
		t.Fatal(err)
	}
	return string(key)
}

func TestMacExamples(t *testing.T) {
	for _, c := range []struct{ key, msg, sum string }{
		{"", "", "b613679a0814d9ec772f95d778c35fc5ff1697c493715653c6c712144292c5ad"},
		{"Jefe", "what do ya want for nothing?", "5bdcc146bf60754e6a042426089575c75a003f089d2739839dec58b964ec3843"},
		{strings.Repeat("\x00", 65), "m", "96e342dbbb6c1191b63c42fe3ada51b451eb6e87f60abed83e688b6ff98d5319"},
	} {
		if got := digits(sums.Mac(c.key, c.msg)); got != c.sum {
			t.Errorf("P1.5: Mac(%q, %q) = %s, want %s", c.key, c.msg, got, c.sum)
		}
	}
}

func TestMacOfEveryKeySize(t *testing.T) {
	for size := range 200 {
		key := noise(size, size)
		for _, msg := range []string{"", "m", noise(1, 55), noise(1, 56), noise(1, 64), noise(1, 200)} {
			if got, want := sums.Mac(key, msg), standardMac(key, msg); got != want {
				t.Errorf("P1.5: a key of %d bytes, a message of %d: %s, want %s", size, len(msg), digits(got), digits(want))
			}
		}
	}
}

func TestMacsOfTwinKeys(t *testing.T) {
	for _, size := range []int{65, 66, 128, 1000} {
		key := noise(size, size)
		if sums.Mac(key, "m") != sums.Mac(sums.Sha(key), "m") {
			t.Errorf("P1.5: a key of %d bytes and its Sha give two Macs", size)
		}
	}
	for _, size := range []int{0, 1, 31, 62, 63} {
		key := noise(size, size)
		if sums.Mac(key, "m") != sums.Mac(key+"\x00", "m") {
			t.Errorf("P1.5: a key of %d bytes and a zero byte behind it give two Macs", size)
		}
	}
	key := noise(64, 64)
	if sums.Mac(key, "m") == sums.Mac(key+"\x00", "m") || sums.Mac(key, "m") == sums.Mac(sums.Sha(key), "m") {
		t.Error("P1.5: a key of 64 bytes is neither digested nor filled up")
	}
}

func TestStretchExamples(t *testing.T) {
	for _, c := range []struct {
		rounds int
		sum    string
	}{
		{1, "120fb6cffcf8b32c43e7225256c4f837a86548c92ccc35480805987cb70be17b"},
		{2, "ae4d0c95af6b46d32d0adff928f06dd02a303f8ef3c251dfd6e2d85a95474c43"},
	} {
		got, err := sums.Stretch("password", "salt", c.rounds)
		if digits(got) != c.sum || err != nil {
			t.Errorf("P1.6: %d rounds: %s, %v, want %s", c.rounds, digits(got), err, c.sum)
		}
	}
}

func TestStretchIsTheStandards(t *testing.T) {
	sizes := []int{0, 1, 8, 59, 60, 63, 64, 65, 200}
	for _, passSize := range sizes {
		for _, saltSize := range sizes {
			pass, salt := noise(passSize, passSize), noise(saltSize+1, saltSize)
			for _, rounds := range []int{1, 2, 3, 10} {
				got, err := sums.Stretch(pass, salt, rounds)
				if want := standardStretch(t, pass, salt, rounds); got != want || err != nil {
					t.Errorf("P1.6: %d bytes, a salt of %d, %d rounds: %s, %v, want %s", passSize, saltSize, rounds, digits(got), err, digits(want))
				}
			}
		}
	}
}

func TestStretchAtItsLimits(t *testing.T) {
	for _, rounds := range []int{1, 999, api.MaxRounds} {
		got, err := sums.Stretch("pass", "salt", rounds)
		if want := standardStretch(t, "pass", "salt", rounds); got != want || err != nil {
			t.Errorf("P1.6: %d rounds: %s, %v, want %s", rounds, digits(got), err, digits(want))
		}
	}
	for _, rounds := range []int{0, -1, -1000, math.MinInt, 1001, 1002, math.MaxInt} {
		for _, pass := range []string{"", "pass"} {
			if got, err := sums.Stretch(pass, pass, rounds); got != "" || err != api.ErrArg {
				t.Errorf("P1.6: %d rounds: %q, %v, want ErrArg", rounds, got, err)
			}
		}
	}
}

// Each call is asked again behind all the others: nothing may be left over from one to the next.
func TestCallsAnswerTheSameAgain(t *testing.T) {
	for range 3 {
		for size := range 140 {
			text := noise(9, size)
			if sums.Crc(text) != slowCrc(0, text) || sums.CrcMore(77, text) != slowCrc(77, text) || sums.Sha(text) != standardSha(text) {
				t.Errorf("P1.7: %d bytes: another sum than before", size)
			}
			if sums.Mac(text, text) != standardMac(text, text) {
				t.Errorf("P1.7: %d bytes: another Mac than before", size)
			}
			if got, err := sums.Stretch(text, text, 2); got != standardStretch(t, text, text, 2) || err != nil {
				t.Errorf("P1.7: %d bytes: another stretched password than before", size)
			}
		}
	}
}
