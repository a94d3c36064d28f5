package page_test

import (
	"math/rand"
	"reflect"
	"slices"
	"sync"
	"testing"

	"usher/api"
	"usher/page"
)

// roomy is a page whose lists have spare room with something in it; the second answer is all of that.
func roomy(p api.Page) (api.Page, api.Page) {
	whole := copyOf(p)
	whole.Lines = append(whole.Lines, "spare")
	whole.Forms = append(whole.Forms, api.Form{Action: "spare"})
	for i := range whole.Forms {
		whole.Forms[i].Inputs = append(whole.Forms[i].Inputs, hidden("spare", "room"))
	}
	p.Lines = whole.Lines[:len(p.Lines)]
	p.Forms = whole.Forms[:len(p.Forms)]
	return p, whole
}

func TestWhatIsHandedInStaysAsItWas(t *testing.T) {
	random := rand.New(rand.NewSource(6))
	for round := range 300 {
		p := somePage(random)
		if round%2 == 0 {
			p.Forms = append(p.Forms, formOf(wrongInputs[round%len(wrongInputs)]))
		}
		p, whole := roomy(p)
		typed := append(pairs("n", "x", "a", "b", "n", "y"), pairs("spare", "room")...)
		before, typedBefore := copyOf(whole), slices.Clone(typed)
		page.Page(p)
		for i := range p.Forms {
			f := p.Forms[i]
			f.Inputs = f.Inputs[:len(f.Inputs)-1]
			page.Sent(f, typed[:3])
		}
		if !reflect.DeepEqual(whole, before) {
			t.Fatalf("P5.6: of %#v is left %#v", before, whole)
		}
		if !slices.Equal(typed, typedBefore) {
			t.Fatalf("P5.6: of %#v is left %#v", typedBefore, typed)
		}
	}
}

func TestWhatIsReadIsNewMemory(t *testing.T) {
	p := loginPage()
	p.Forms = append(p.Forms, p.Forms...)
	html := expectedText(p)
	first, _ := page.Read(html)
	second, _ := page.Read(html)
	for _, form := range first.Forms {
		inputs := form.Inputs[:cap(form.Inputs)]
		for i := range inputs {
			inputs[i] = hidden("written", "over")
		}
		want := p.Forms[0].Inputs
		if !slices.Equal(second.Forms[0].Inputs, want) || !slices.Equal(second.Forms[2].Inputs, want) {
			t.Fatalf("P5.4: inputs of one answer written over change another: %#v", second)
		}
	}
	again, _ := page.Read(html)
	for i := range again.Forms[0].Inputs[:cap(again.Forms[0].Inputs)] {
		again.Forms[0].Inputs[:cap(again.Forms[0].Inputs)][i] = hidden("written", "over")
	}
	if !slices.Equal(again.Forms[2].Inputs, p.Forms[2].Inputs) {
		t.Errorf("P5.4: inputs of one form written over change another form: %#v", again)
	}
	for i := range first.Lines[:cap(first.Lines)] {
		first.Lines[:cap(first.Lines)][i] = "written over"
	}
	for i := range first.Forms[:cap(first.Forms)] {
		first.Forms[:cap(first.Forms)][i] = api.Form{Action: "written over"}
	}
	if !samePage(second, p) {
		t.Errorf("P5.4: one answer written over changes another: %#v", second)
	}
	mustRead(t, html, p)
}

func TestWhatIsSentIsNewMemory(t *testing.T) {
	f := formOf(line("L", "n", "1"), hidden("t", "2"), box("b", "3", "L"))
	typed := pairs("n", "x")
	first := page.Sent(f, typed)
	second := page.Sent(f, typed)
	for i := range first[:cap(first)] {
		first[:cap(first)][i] = api.Pair{Name: "written", Value: "over"}
	}
	if !slices.Equal(second, pairs("n", "x", "t", "2", "b", "3")) || !slices.Equal(typed, pairs("n", "x")) {
		t.Errorf("P5.6: one answer written over changes %#v or %#v", second, typed)
	}
	typed[0].Value, f.Inputs[1].Value = "later", "later"
	if !slices.Equal(second, pairs("n", "x", "t", "2", "b", "3")) {
		t.Errorf("P5.6: what is written over later changes an answer: %#v", second)
	}
	mustSend(t, f, typed, "n", "later", "t", "later", "b", "3")
}

func TestCallsKeepNothing(t *testing.T) {
	var calls sync.WaitGroup
	login := expectedText(loginPage())
	for range 8 {
		calls.Go(func() {
			for range 50 {
				mustNotRead(t, login[:len(login)-1])
				mustRead(t, login, loginPage())
				mustNotWrite(t, api.Page{Title: "Hi", Forms: []api.Form{formOf(api.Input{})}})
				mustWrite(t, api.Page{Title: "Hi"}, hiPage)
				mustNotUnescape(t, "a&amp;&")
				mustUnescape(t, "&lt;b", "<b")
				mustSend(t, formOf(box("b", "1", "")), pairs("b", "1"))
				mustSend(t, formOf(box("b", "1", "")), nil, "b", "1")
			}
		})
	}
	calls.Wait()
}

func TestEveryCallEnds(t *testing.T) {
	random := rand.New(rand.NewSource(7))
	for size := range 400 {
		noise := make([]byte, size)
		random.Read(noise)
		s := string(noise)
		page.Escape(s)
		page.Unescape(s)
		mustReadAsExpected(t, s)
		mustReadAsExpected(t, hiPage[:size%len(hiPage)]+s)
		in := api.Input{Kind: int(random.Uint64()), Name: s, Value: s, Label: s}
		mustNotWrite(t, api.Page{Title: s, Forms: []api.Form{{Action: s, Inputs: []api.Input{in}, Button: s}}})
		if got := page.Sent(api.Form{Inputs: []api.Input{in}}, pairs(s, s)); len(got) != 0 {
			t.Errorf("P5.7: an input of kind %d is sent", in.Kind)
		}
	}
}
