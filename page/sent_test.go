package page_test

import (
	"math/rand"
	"slices"
	"strconv"
	"testing"

	"usher/api"
	"usher/page"
)

func TestTheExamplesOfSending(t *testing.T) {
	mustSend(t, formOf(api.Input{Kind: 2, Name: "user", Value: "a"}, api.Input{Kind: 1, Name: "t", Value: "7"}), pairs("user", "x", "t", "9", "user", "y"), "user", "y", "t", "7")
	boxes := formOf(api.Input{Kind: 4, Name: "grant:a", Value: "yes"}, api.Input{Kind: 4, Name: "grant:b", Value: "yes"})
	mustSend(t, boxes, pairs("grant:b", "yes"), "grant:a", "yes")
	mustSend(t, boxes, pairs("grant:b", "yes", "grant:b", "yes", "grant:a", "no"), "grant:a", "yes", "grant:b", "yes")
}

func TestWhatIsNotSent(t *testing.T) {
	mustSend(t, api.Form{}, nil)
	mustSend(t, api.Form{}, pairs("a", "b"))
	typed := pairs("p", "x", "", "y", "p", "v")
	for _, kind := range []int{0, 5, 6, -1, 257, 1 << 62, -1 << 63} {
		mustSend(t, formOf(api.Input{Kind: kind, Name: "p", Value: "v"}), nil)
		mustSend(t, formOf(api.Input{Kind: kind, Name: "p", Value: "v"}, hidden("a", "1")), typed, "a", "1")
	}
	for kind := range 5 {
		mustSend(t, formOf(api.Input{Kind: kind, Value: "v"}, hidden("a", "1")), nil, "a", "1")
		mustSend(t, formOf(api.Input{Kind: kind, Value: "y"}, hidden("a", "1")), typed, "a", "1")
	}
}

func TestHiddenInputsAreSentAsTheyStand(t *testing.T) {
	mustSend(t, formOf(hidden("t", "7")), nil, "t", "7")
	mustSend(t, formOf(hidden("t", "7")), pairs("t", "9", "t", "7", "t", ""), "t", "7")
	mustSend(t, formOf(hidden("t", "")), pairs("t", "9"), "t", "")
	mustSend(t, formOf(api.Input{Kind: api.InHidden, Name: "t", Value: "7", Label: "L"}), nil, "t", "7")
}

func TestWhatIsTypedIsSent(t *testing.T) {
	for _, kind := range []int{api.InText, api.InSecret} {
		f := formOf(api.Input{Kind: kind, Name: "n", Value: "own", Label: "L"})
		mustSend(t, f, nil, "n", "own")
		mustSend(t, f, pairs("L", "x", "N", "x", "", "x", "n ", "x", "own", "x"), "n", "own")
		mustSend(t, f, pairs("n", "x"), "n", "x")
		mustSend(t, f, pairs("n", ""), "n", "")
		mustSend(t, f, pairs("n", "x", "m", "z", "n", "y", "m", "z"), "n", "y")
		mustSend(t, f, pairs("n", "x", "n", ""), "n", "")
		mustSend(t, f, pairs("n", "\x00\xff<"), "n", "\x00\xff<")
		mustSend(t, formOf(api.Input{Kind: kind, Name: "n"}), nil, "n", "")
	}
}

func TestClicksAtABox(t *testing.T) {
	var typed []api.Pair
	for clicks := range 7 {
		var want []string
		if clicks%2 == 0 {
			want = []string{"b", "yes"}
		}
		mustSend(t, formOf(box("b", "yes", "L")), typed, want...)
		typed = append(typed, pairs("b", "no", "b", "yes", "yes", "b", "", "yes", "b", "")...)
	}
	mustSend(t, formOf(box("b", "", "")), nil, "b", "")
	mustSend(t, formOf(box("b", "", "")), pairs("b", ""))
	mustSend(t, formOf(box("b", "x", ""), box("b", "y", "")), pairs("b", "y"), "b", "x")
}

func TestOnePairMayCountForSeveralInputs(t *testing.T) {
	f := formOf(line("L", "n", "1"), box("n", "v", "L"), hidden("n", "3"), secret("L", "n"), box("n", "v", "M"), line("M", "n", "6"), box("n", "w", "L"))
	mustSend(t, f, nil, "n", "1", "n", "v", "n", "3", "n", "", "n", "v", "n", "6", "n", "w")
	mustSend(t, f, pairs("n", "v"), "n", "v", "n", "3", "n", "v", "n", "v", "n", "w")
	mustSend(t, f, pairs("n", "v", "n", "w"), "n", "w", "n", "3", "n", "w", "n", "w")
}

// expectedSent is what is to be sent, by going through all that was typed for each input.
func expectedSent(f api.Form, typed []api.Pair) []api.Pair {
	var sent []api.Pair
	for _, in := range f.Inputs {
		value, checked := in.Value, true
		for _, pair := range typed {
			if pair.Name == in.Name && (in.Kind == api.InText || in.Kind == api.InSecret) {
				value = pair.Value
			}
			if pair.Name == in.Name && pair.Value == in.Value && in.Kind == api.InBox {
				checked = !checked
			}
		}
		if in.Name != "" && checked && 1 <= in.Kind && in.Kind <= 4 {
			sent = append(sent, api.Pair{Name: in.Name, Value: value})
		}
	}
	return sent
}

func TestSentOfAnything(t *testing.T) {
	random := rand.New(rand.NewSource(5))
	few := func() string { return []string{"", "a", "b", "yes", "<"}[random.Intn(5)] }
	for range 20000 {
		var f api.Form
		for range random.Intn(6) {
			f.Inputs = append(f.Inputs, api.Input{Kind: random.Intn(7) - 1, Name: few(), Value: few(), Label: few()})
		}
		var typed []api.Pair
		for range random.Intn(8) {
			typed = append(typed, api.Pair{Name: few(), Value: few()})
		}
		if got, want := page.Sent(f, typed), expectedSent(f, typed); !slices.Equal(got, want) {
			t.Fatalf("P5.6: Sent(%#v, %#v) = %#v, want %#v", f, typed, got, want)
		}
	}
}

func TestMuchThatIsTypedIntoALongForm(t *testing.T) {
	var f api.Form
	var typed, want []api.Pair
	for i := range 60000 {
		name := strconv.Itoa(i)
		f.Inputs = append(f.Inputs, box(name, "yes", ""), line("", name, "own"))
		typed = append(typed, api.Pair{Name: name, Value: "yes"})
		want = append(want, api.Pair{Name: name, Value: "yes"})
	}
	if got := page.Sent(f, typed); !slices.Equal(got, want) {
		t.Errorf("P5.6: a long form sends %d pairs, want %d", len(got), len(want))
	}
}
