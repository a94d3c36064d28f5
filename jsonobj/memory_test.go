package jsonobj_test

import (
	"slices"
	"sync"
	"testing"

	"usher/api"
	"usher/jsonobj"
)

func TestWhatIsHandedInStaysAsItWas(t *testing.T) {
	refused := []api.Member{{Name: "\xff", Kind: api.MemNum}}
	for _, list := range [][]api.Member{nil, numbered(3), numbered(32), numbered(33), append(numbered(2), refused...), append(numbered(2), numbered(1)...), {{}}} {
		room := append(slices.Clone(list), text("spare", "room"), num("spare", 1))
		before := slices.Clone(room)
		jsonobj.Object(room[:len(list)])
		if !slices.Equal(room, before) {
			t.Errorf("P4.5: Object leaves %#v of %#v", room, before)
		}
	}
}

func TestAnAnsweredListIsNewMemory(t *testing.T) {
	const s = `{"a":"x","b":2,"c":true}`
	want := []api.Member{text("a", "x"), num("b", 2), flag("c", true)}
	first, _ := jsonobj.Read(s)
	second, _ := jsonobj.Read(s)
	for i := range first[:cap(first)] {
		first[:cap(first)][i] = text("written", "over")
	}
	if !slices.Equal(second, want) {
		t.Errorf("P4.5: one answer written over changes another: %#v", second)
	}
	mustRead(t, s, want...)
	spare := slices.Clone(second[:cap(second)])
	_ = append(first, num("more", 1))
	if !slices.Equal(second[:cap(second)], spare) {
		t.Errorf("P4.5: what is appended to one answer lands in another: %#v", second[:cap(second)])
	}
}

func TestWhatIsWrittenStaysAsItIs(t *testing.T) {
	list := numbered(3)
	written, _ := jsonobj.Object(list)
	before := string([]byte(written))
	for i := range list {
		list[i] = text("written", "over")
	}
	jsonobj.Object(list)
	if written != before {
		t.Errorf("P4.5: what was answered is now %q, it was %q", written, before)
	}
}

func TestCallsKeepNothing(t *testing.T) {
	for range 3 {
		mustNotRead(t, api.ErrText, `{"a":1,"b":"x`)
		mustRead(t, `{"c":1}`, num("c", 1))
		mustNotRead(t, api.ErrTwice, `{"a":1,"a":2}`)
		mustRead(t, `{"a":1}`, num("a", 1))
		mustNotObject(t, api.ErrText, text("a", "\xff"))
		mustObject(t, `{"a":1}`, num("a", 1))
		mustNotQuote(t, "a\xff")
		mustQuote(t, "b", `"b"`)
	}
	var calls sync.WaitGroup
	for i := range 8 {
		calls.Go(func() {
			for range 200 {
				mustRead(t, `{"a":"x\n","b":true}`, text("a", "x\n"), flag("b", true))
				mustNotRead(t, api.ErrText, `{"a":`)
				mustObject(t, `{"a":`+string(rune('0'+i))+`}`, num("a", i))
			}
		})
	}
	calls.Wait()
}
