package wal_test

import (
	"bytes"
	"math/rand"
	"strings"
	"testing"

	"usher/disk"
	"usher/wal"
)

// within is a list with bytes around it, in one piece of memory: whole is all of that.
func within(text string) (list, whole []byte) {
	whole = []byte("<<<" + text + ">>>>>>>>")
	return whole[3 : 3+len(text)], whole
}

// scribble writes a list full, its spare room too, and appends to it.
func scribble(list []byte) {
	full := list[:cap(list)]
	for i := range full {
		full[i] = '#'
	}
	_ = append(list, strings.Repeat("!", 40)...)
	if len(list) > 1 {
		_ = append(list[:1], "????"...)
	}
}

// scribbleAll writes a list of lists full, and appends to it.
func scribbleAll(list [][]byte) {
	for _, p := range list {
		scribble(p)
	}
	full := list[:cap(list)]
	for i := range full {
		full[i] = []byte("#")
	}
	_ = append(list, []byte("!"))
}

// TestHandedListsAreTheirOwners: nothing that is handed in is changed, with what stands around it.
func TestHandedListsAreTheirOwners(t *testing.T) {
	payload, all := within("abc")
	data, allData := within(string(row("a", "bb")) + "torn")
	want := bytes.Clone(allData)
	wal.Frame(payload)
	wal.Scan(data)
	for range wal.Frames(data) {
	}
	d := disk.New(30)
	l := mustOpen(t, d)
	l.Put(payload)
	d.Arm(0, 5)
	l.Put(payload)
	l.Put(payload)
	d.Revive()
	l = mustOpen(t, d, "abc")
	l.Put(payload)
	l.Put(payload)
	if string(all) != "<<<abc>>>>>>>>" {
		t.Errorf("P13.10: a payload that was handed in has become %q", all)
	}
	if !bytes.Equal(allData, want) {
		t.Errorf("P13.10: data that was handed in has become %q", allData)
	}
}

// TestPayloadsAreNotKept: who writes into a payload behind its Put changes no log and no disk, also where the disk died.
func TestPayloadsAreNotKept(t *testing.T) {
	d := disk.New(99)
	l := mustOpen(t, d)
	for _, text := range []string{"abc", "d"} {
		payload, all := within(text)
		mustPut(t, l, text, nil)
		if err := l.Put(payload); err != nil {
			t.Errorf("P13.5: %v", err)
		}
		scribble(all)
	}
	payload, all := within("dead")
	d.Arm(0, 99)
	l.Put(payload)
	scribble(all)
	d.Revive()
	mustOpen(t, d, "abc", "abc", "d", "d", "dead")
}

// TestFrameIsNew: it shares nothing with its payload, nor with another one of the same payload.
func TestFrameIsNew(t *testing.T) {
	for _, text := range []string{"a", "abc", strings.Repeat("m", 8192)} {
		payload, all := within(text)
		one, _ := wal.Frame(payload)
		two, _ := wal.Frame(payload)
		scribble(one)
		if !bytes.Equal(two, plain(text)) || string(payload) != text {
			t.Errorf("P13.10: writing into a frame changes another one or its payload")
		}
		three, _ := wal.Frame(payload)
		scribble(all)
		if !bytes.Equal(three, plain(text)) {
			t.Errorf("P13.10: writing into a payload changes its frame")
		}
	}
}

// TestScanIsNew: each of its payloads is memory of its own, spare room too.
func TestScanIsNew(t *testing.T) {
	payloads := []string{"a", "bb", "ccc", strings.Repeat("d", 500), "e"}
	data := row(payloads...)
	clean := bytes.Clone(data)
	for i := range payloads {
		got, _ := wal.Scan(data)
		other, _ := wal.Scan(data)
		scribble(got[i])
		for k := range payloads {
			if k != i && string(got[k]) != payloads[k] {
				t.Errorf("P13.10: writing into payload %d changes payload %d", i, k)
			}
		}
		if !same(other, payloads) || !bytes.Equal(data, clean) {
			t.Errorf("P13.10: writing into payload %d changes another answer or the data", i)
		}
		scribbleAll(got)
		if !same(other, payloads) || !bytes.Equal(data, clean) {
			t.Error("P13.10: writing into an answer changes another one or the data")
		}
	}
	got, _ := wal.Scan(data)
	scribble(data)
	if !same(got, payloads) {
		t.Error("P13.10: writing into the data changes an answer that was given")
	}
}

// TestFramesAreNew: payloads that are written full as they come, and kept, change nothing of what comes behind.
func TestFramesAreNew(t *testing.T) {
	payloads := []string{"a", "bb", "ccc", "bb"}
	data := row(payloads...)
	frames := wal.Frames(data)
	var kept [][]byte
	count := 0
	for _, payload := range frames {
		if string(payload) != payloads[count] {
			t.Errorf("P13.10: frame %d is %q", count, payload)
		}
		if count%2 == 0 {
			scribble(payload)
		} else {
			kept = append(kept, payload)
		}
		count++
	}
	for range frames {
	}
	mustScan(t, data, payloads, len(data))
	scribble(data)
	if !same(kept, []string{"bb", "bb"}) {
		t.Errorf("P13.10: payloads that were kept have become %q", texts(kept))
	}
}

// TestOpenIsNew: what it tells shares nothing with the disk, the log, or what another Open told.
func TestOpenIsNew(t *testing.T) {
	payloads := []string{"a", "bb", strings.Repeat("c", 100)}
	d := disk.Open(join(row(payloads...), []byte("torn")), 999)
	l, one, _ := wal.Open(d)
	_, two, _ := wal.Open(d)
	for i := range one {
		scribble(one[i])
		for k := i + 1; k < len(one); k++ {
			if string(one[k]) != payloads[k] {
				t.Errorf("P13.10: writing into payload %d changes payload %d", i, k)
			}
		}
	}
	scribbleAll(one)
	if !same(two, payloads) {
		t.Errorf("P13.10: writing into an answer changes another one: %q", texts(two))
	}
	mustHold(t, d, row(payloads...))
	mustCount(t, l, 3, len(row(payloads...)))
	mustPut(t, l, "d", nil)
	if !same(two, payloads) {
		t.Errorf("P13.10: a Put changes an answer: %q", texts(two))
	}
	mustOpen(t, d, append(payloads, "d")...)
}

// TestNoPanics hands in all sorts of bytes.
func TestNoPanics(t *testing.T) {
	random := rand.New(rand.NewSource(5))
	for range 5000 {
		data := make([]byte, random.Intn(40))
		random.Read(data)
		if len(data) > 4 && random.Intn(2) == 0 {
			copy(data, []byte{0, 0, byte(random.Intn(2) * 0x20), byte(random.Intn(12))})
		}
		wal.Frame(data)
		payloads, length := goodHead(data)
		mustScan(t, data, payloads, length)
		d := disk.Open(data, random.Intn(60))
		l := mustOpen(t, d, payloads...)
		l.Put(data)
		l.Put(nil)
	}
}
