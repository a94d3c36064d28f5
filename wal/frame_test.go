package wal_test

import (
	"bytes"
	"math/rand"
	"strings"
	"testing"

	"usher/api"
	"usher/wal"
)

func mustFrame(t *testing.T, payload []byte) {
	t.Helper()
	got, err := wal.Frame(payload)
	if want := plain(string(payload)); !bytes.Equal(got, want) || err != nil {
		t.Errorf("P13.1: Frame of %d bytes = %.40x, %v, want %.40x", len(payload), got, err, want)
	}
}

// TestFramesOfAllLengths goes up to the greatest payload.
func TestFramesOfAllLengths(t *testing.T) {
	payload := make([]byte, api.MaxPayload)
	rand.New(rand.NewSource(1)).Read(payload)
	for n := 1; n <= 600; n++ {
		mustFrame(t, payload[:n])
	}
	for n := 600; n <= api.MaxPayload; n += 211 {
		mustFrame(t, payload[n-600:n])
		mustFrame(t, payload[:n])
	}
	for _, n := range []int{1, 2, 255, 256, 257, 4095, 4096, 4097, 8190, 8191, 8192} {
		mustFrame(t, payload[:n])
		mustFrame(t, make([]byte, n))
		mustFrame(t, bytes.Repeat([]byte{0xff}, n))
	}
}

func TestFramesOfAllBytes(t *testing.T) {
	for b := range 256 {
		mustFrame(t, []byte{byte(b)})
		mustFrame(t, []byte{0, byte(b)})
		mustFrame(t, []byte{byte(b), 0})
	}
}

func TestWrongPayloads(t *testing.T) {
	spare := make([]byte, 0, 100)
	for _, payload := range [][]byte{nil, {}, spare, make([]byte, 8193), make([]byte, 8193, 20000), make([]byte, 8194), make([]byte, 16384), make([]byte, 65536), make([]byte, 65537), make([]byte, 1<<24+1)} {
		if got, err := wal.Frame(payload); len(got) != 0 || err != api.ErrArg {
			t.Errorf("P13.1: Frame of %d bytes = %d bytes, %v, want none, ErrArg", len(payload), len(got), err)
		}
	}
}

// TestGreatestFrame spells out the bytes of a head with more than one byte of a length.
func TestGreatestFrame(t *testing.T) {
	got, err := wal.Frame([]byte(strings.Repeat("a", 8192)))
	if err != nil || len(got) != 8200 || !bytes.Equal(got[:4], []byte{0, 0, 0x20, 0}) {
		t.Errorf("P13.1: the greatest frame has %d bytes and begins with %.4x, %v", len(got), got, err)
	}
}
