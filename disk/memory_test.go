package disk_test

import (
	"math"
	"math/rand"
	"strings"
	"testing"

	"usher/disk"
)

// within is a list with bytes around it, in one piece of memory: whole is all of that.
func within(text string) (list, whole []byte) {
	whole = []byte("<<<" + text + ">>>>>>>>")
	return whole[3 : 3+len(text)], whole
}

// scribble writes a list full, its spare room too, and appends to it.
func scribble(list []byte) {
	full := list[:cap(list)]
	for i := range full {
		full[i] = '#'
	}
	_ = append(list, "!!!!!!!!!!!!!!!!"...)
	if len(list) > 1 {
		_ = append(list[:1], "????"...)
	}
}

// TestHandedListsAreTheirOwners: what was handed in is neither changed, with what stands around it, nor kept.
func TestHandedListsAreTheirOwners(t *testing.T) {
	for _, room := range []int{7, 8, 100} {
		data, allData := within("abcd")
		p, allP := within("efg")
		q, allQ := within("hi")
		d := disk.Open(data, room)
		d.Append(p)
		d.Append(q)
		d.Append(nil)
		d.Sync()
		d.Truncate(5)
		d.Append(q)
		d.Arm(0, 1)
		d.Append(p)
		d.Revive()
		d.Truncate(2)
		d.Append(p)
		d.Crash(0)
		for _, list := range []struct {
			got  []byte
			want string
		}{{allData, "<<<abcd>>>>>>>>"}, {allP, "<<<efg>>>>>>>>"}, {allQ, "<<<hi>>>>>>>>"}} {
			if string(list.got) != list.want {
				t.Errorf("P12.14: a list that was handed in has become %q, want %q", list.got, list.want)
			}
		}
	}

	data, allData := within("abc")
	p, allP := within("def")
	d := disk.Open(data, 20)
	d.Append(p)
	scribble(allData)
	scribble(allP)
	mustLie(t, d, "abcdef", 3)
	mustRead(t, d, "abcdef", nil)
}

// TestDyingAppendKeepsNoList: its bytes are taken over, too.
func TestDyingAppendKeepsNoList(t *testing.T) {
	d := disk.New(20)
	p, all := within("abc")
	d.Arm(0, 9)
	d.Append(p)
	scribble(all)
	mustLie(t, d, "abc", 3)
	q, all := within("def")
	d.Revive()
	d.Append(q)
	scribble(all)
	mustRead(t, d, "abcdef", nil)
}

// TestAnsweredListsAreNew takes many answers behind one another, at every shape that a disk comes to, and writes each of them full: nothing else may change.
func TestAnsweredListsAreNew(t *testing.T) {
	random := rand.New(rand.NewSource(124))
	for range 200 {
		d, m := start{data: "abcdef"[:random.Intn(7)], room: 30}.begin()
		var lists [][]byte
		var texts []string
		for range 60 {
			if !mustAgree(t, d, m, drawnStep(random, len(m.synced+m.tail))) {
				t.Fatal("P12.14: a list that was written into is the disk's")
			}
			list, _ := d.Look()
			if random.Intn(2) == 0 && !d.Dead() && len(m.strokes) == 0 {
				list, _ = d.ReadAll()
			}
			lists, texts = append(lists, list), append(texts, string(list))
			for range random.Intn(3) {
				i := random.Intn(len(lists))
				scribble(lists[i])
				texts[i] = string(lists[i])
			}
			for i := range lists {
				if string(lists[i]) != texts[i] {
					t.Fatalf("P12.14: an answer has become %q, want %q", lists[i], texts[i])
				}
			}
		}
	}
}

// TestTwoAnswersAtOnce: also the answers about the same bytes are strangers.
func TestTwoAnswersAtOnce(t *testing.T) {
	for _, count := range []int{0, 1, 2, 7, 8, 9, 100, 5000} {
		text := strings.Repeat("ab", count)
		d := disk.Open([]byte(text), 1<<20)
		d.Append([]byte("tail"))
		one, _ := d.ReadAll()
		two, _ := d.Look()
		three, _ := d.ReadAll()
		four, _ := d.Look()
		scribble(one)
		scribble(two)
		for _, list := range [][]byte{three, four} {
			if string(list) != text+"tail" {
				t.Errorf("P12.14: another answer has become %.40q", list)
			}
		}
		mustLie(t, d, text+"tail", len(text))
		mustAppend(t, d, "more", nil)
		mustTruncate(t, d, 1, nil)
		mustAppend(t, d, "other", nil)
		for _, list := range [][]byte{three, four} {
			if string(list) != text+"tail" {
				t.Errorf("P12.14: an answer follows the disk: %.40q", list)
			}
		}
	}
}

// TestAnswerHandedIn: what a disk has answered may be put onto it, or onto another.
func TestAnswerHandedIn(t *testing.T) {
	d := disk.Open([]byte("abc"), 100)
	all, _ := d.ReadAll()
	if err := d.Append(all); err != nil {
		t.Errorf("P12.5: an answer put onto its disk: %v", err)
	}
	seen, _ := d.Look()
	if err := d.Append(seen[2:4]); err != nil {
		t.Errorf("P12.5: a part of an answer put onto its disk: %v", err)
	}
	other := disk.Open(seen, 0)
	scribble(all)
	scribble(seen)
	mustLie(t, d, "abcabcca", 3)
	mustLie(t, other, "abcabc", 6)
}

// TestEveryCallEnds plays the ends of the numbers on every call.
func TestEveryCallEnds(t *testing.T) {
	defer func() {
		if r := recover(); r != nil {
			t.Errorf("P12.15: a call panics: %v", r)
		}
	}()
	numbers := []int{math.MinInt, math.MinInt + 1, -1 << 32, -1, 0, 1, 2, 3, 1 << 30, 1<<30 + 1, 1 << 32, math.MaxInt - 1, math.MaxInt}
	for _, room := range numbers {
		for _, data := range [][]byte{nil, {}, []byte("ab"), make([]byte, 5000)} {
			for _, a := range numbers {
				for _, b := range numbers {
					d := disk.Open(data, room)
					d.Append(nil)
					d.Append([]byte{})
					d.Append(data)
					d.Truncate(a)
					d.Truncate(b)
					d.Arm(a, b)
					d.Append([]byte("x"))
					d.Crash(a)
					d.Crash(b)
					d.Append(nil)
					d.Sync()
					d.ReadAll()
					d.Truncate(a)
					d.Look()
					d.Revive()
					d.Revive()
					d.Arm(b, a)
					d.ReadAll()
					d.Dead()
					d.Look()
				}
			}
		}
	}
}
