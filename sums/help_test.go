package sums_test

import (
	"encoding/hex"
	"math/rand"
)

// noise is size bytes of all values, the same ones for the same seed.
func noise(seed, size int) string {
	b := make([]byte, size)
	rand.New(rand.NewSource(int64(seed))).Read(b)
	return string(b)
}

func digits(raw string) string { return hex.EncodeToString([]byte(raw)) }
