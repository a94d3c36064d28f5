package bearer_test

import (
	"math/rand"
	"strings"
	"testing"

	"usher/api"
)

// shows is a request that shows these texts by its field, its form and its query; an empty text is not shown.
func shows(byField, byForm, byQuery string) api.Request {
	q := posted("x=1&y")
	q.Target = "/r?z"
	if byField != "" {
		q.Fields = append(q.Fields, api.Pair{Name: "authorization", Value: "Bearer " + byField})
	}
	if byForm != "" {
		q.Body += "&access_token=" + byForm
	}
	if byQuery != "" {
		q.Target += "&access_token=" + byQuery
	}
	return q
}

// TestWaysOfShowing: one way alone shows a token; two or three are too many, whether they show the same or not, and whether that is a token's text or not.
func TestWaysOfShowing(t *testing.T) {
	mustNotFind(t, shows("", "", ""), api.ErrLost)
	mustFind(t, shows("a1", "", ""), "a1")
	mustFind(t, shows("", "b2", ""), "b2")
	mustFind(t, shows("", "", "c3"), "c3")
	for _, q := range []api.Request{shows("!", "", ""), shows("", "!", ""), shows("", "", "!")} {
		mustNotFind(t, q, api.ErrText)
	}
	for _, one := range []string{"abc", "!"} {
		for _, other := range []string{"abc", "xyz", "!"} {
			for _, q := range []api.Request{shows(one, other, ""), shows(one, "", other), shows("", one, other), shows(one, other, other), shows(other, one, other), shows(other, other, one)} {
				mustNotFind(t, q, api.ErrTwice)
			}
		}
	}
	for _, q := range []api.Request{get("/r?access_token=abc", "Authorization", "Bearer"), get("/r?access_token=abc", "Authorization", "Bearer "), get("/r?access_token=abc", "Authorization", "Bearer,")} {
		mustNotFind(t, q, api.ErrTwice) // the field shows the empty text
	}
	mustFind(t, get("/r?access_token=abc", "Authorization", "Basic YTpi"), "abc")
	mustFind(t, get("/r?access_token=abc", "Authorization", ""), "abc")
}

func TestTwiceInOneWay(t *testing.T) {
	for _, twice := range []string{"access_token=abc&access_token=abc", "access_token=abc&access_token=xyz", "access_token=!&x&access_token=", "access_token=a&access_token=&access_token=b", "access_token=!&access_token=!", "%61ccess_token=a&access%5Ftoken=b"} {
		want := api.ErrTwice
		if strings.HasSuffix(twice, "=") {
			want = api.ErrText
		}
		mustNotFind(t, posted(twice), want)
		mustNotFind(t, get("/r?"+twice), want)
		mustNotFind(t, request("GET", "/r", twice, "Content-Type", form), api.ErrLost)
	}
}

// TestTwoFieldsAuthorization are too many, whatever they show.
func TestTwoFieldsAuthorization(t *testing.T) {
	values := []string{"", " ", "Bearer", "Bearer abc", "Bearer xyz", "Bearer !", "Basic YTpi", "x"}
	for _, one := range values {
		for _, other := range values {
			mustNotFind(t, get("/r", "Authorization", one, "aUTHORIZATION", other), api.ErrTwice)
			mustNotFind(t, get("/r?access_token=abc", "Authorization", one, "Accept", "x", "authorization", other, "AUTHORIZATION", one), api.ErrTwice)
		}
	}
	mustFind(t, get("/r", "Authorization", "Bearer abc", "Authorizations", "Bearer xyz", "Proxy-Authorization", "Bearer x", "X", "y"), "abc")
	mustNotFind(t, get("/r", "Authorizatio", "Bearer abc", "Authorization ", "Bearer abc", "", "Bearer abc"), api.ErrLost)
}

func TestCasesOfLetters(t *testing.T) {
	for set := range 1 << 6 {
		name := []byte("bearer")
		for i := range name {
			if set>>i&1 == 1 {
				name[i] -= 'a' - 'A'
			}
		}
		for _, blanks := range []string{" ", "  ", strings.Repeat(" ", 1000)} {
			mustFind(t, authorized(string(name)+blanks+"abc"), "abc")
			mustNotFind(t, authorized(string(name)+blanks), api.ErrText)
		}
		for _, behind := range []string{"", ",abc", "\tabc", "=abc", "/abc", ":abc", " \tabc", "\t abc"} {
			mustNotFind(t, authorized(string(name)+behind), api.ErrText)
		}
		mustNotFind(t, authorized(string(name)+"abc"), api.ErrLost)
	}
	for _, name := range []string{"authorization", "Authorization", "AUTHORIZATION", "aUtHoRiZaTiOn"} {
		mustFind(t, get("/r", name, "Bearer abc"), "abc")
	}
}

const fieldTokenBytes = "!#$%&'*+-.^_`|~0123456789ABCDEFGHIJKLMNOPQRSTUVWXYZabcdefghijklmnopqrstuvwxyz"

// TestByteBehindTheScheme: with a byte of a field's token behind it the scheme is another one; a blank lets the token follow; with anything else the empty text is shown.
func TestByteBehindTheScheme(t *testing.T) {
	for n := range 256 {
		b := string([]byte{byte(n)})
		for _, q := range []api.Request{authorized("Bearer" + b), authorized("Bearer" + b + "abc"), authorized("Bearer" + b + " abc")} {
			switch {
			case strings.Contains(fieldTokenBytes, b):
				mustNotFind(t, q, api.ErrLost)
			case n == ' ' && q.Fields[0].Value != "Bearer ":
				mustFind(t, q, "abc")
			default:
				mustNotFind(t, q, api.ErrText)
			}
		}
		mustNotFind(t, authorized(b+"Bearer abc"), api.ErrLost)
		mustNotFind(t, authorized(b), api.ErrLost)
	}
}

func TestOtherSchemes(t *testing.T) {
	for _, value := range []string{"", " ", "\t", " Bearer abc", "\tBearer abc", "Basic YTpi", "Basic", "Beare abc", "Bearers abc", "B", "Bear er abc", "Bearrer abc", "Beareſ abc", "abc", "Digest abc", "Bearer1 abc", "Token abc", "\"Bearer\" abc", "Bear\x65\x00 abc", "Be\x81rer abc", "B\u00e9arer abc"} {
		mustNotFind(t, authorized(value), api.ErrLost)
	}
}

const tokenBytes = "-._~+/0123456789ABCDEFGHIJKLMNOPQRSTUVWXYZabcdefghijklmnopqrstuvwxyz"

// TestBytesOfTokens puts every byte ahead of, into and behind a token's text.
func TestBytesOfTokens(t *testing.T) {
	for n := range 256 {
		b := string([]byte{byte(n)})
		for _, s := range []string{b, b + "a", "a" + b + "a", "a" + b, b + b, "a" + b + "=", "a=" + b, "a" + b + "==", "ab=" + b + "="} {
			want := strings.Trim(strings.TrimRight(s, "="), tokenBytes) == "" && strings.TrimRight(s, "=") != ""
			for _, q := range []api.Request{bearing(s), get("/r?access_token=" + escaped(s)), posted("access_token=" + escaped(s))} {
				switch {
				case want:
					mustFind(t, q, s)
				case q.Target == "/r" && q.Method == "GET" && s[0] == ' ':
					mustFindAsModel(t, q) // one blank more behind the scheme
				default:
					mustNotFind(t, q, api.ErrText)
				}
			}
		}
	}
}

// escaped writes every byte as an escape.
func escaped(s string) string {
	const digits = "0123456789abcdef"
	var b strings.Builder
	for i := range len(s) {
		b.WriteString("%" + digits[s[i]>>4:s[i]>>4+1] + digits[s[i]&15:s[i]&15+1])
	}
	return b.String()
}

func TestEqualsSigns(t *testing.T) {
	for count := range 20 {
		signs := strings.Repeat("=", count)
		mustFind(t, bearing("a"+signs), "a"+signs)
		mustFind(t, get("/r?access_token=a"+signs), "a"+signs)
		mustNotFind(t, bearing(signs), api.ErrText)
		if count > 0 {
			mustNotFind(t, bearing(signs+"a"), api.ErrText)
			mustNotFind(t, bearing(signs+"a="), api.ErrText)
			mustNotFind(t, bearing("a"+signs+"a"), api.ErrText)
			mustNotFind(t, bearing("a"+signs+"."+signs), api.ErrText)
			mustNotFind(t, bearing("a"+signs+" "), api.ErrText)
			mustNotFind(t, get("/r?access_token="+signs), api.ErrText)
		}
	}
}

func TestLongTokens(t *testing.T) {
	for _, size := range []int{43, 1000, 1 << 16, 1 << 20} {
		long := strings.Repeat("x", size)
		mustFind(t, bearing(long), long)
		mustFind(t, bearing(long+strings.Repeat("=", size)), long+strings.Repeat("=", size))
		mustFind(t, get("/r?access_token="+long), long)
		mustFind(t, authorized("Bearer"+strings.Repeat(" ", size)+"abc"), "abc")
		mustNotFind(t, bearing(long+" "), api.ErrText)
		mustNotFind(t, bearing(strings.Repeat("=", size)+"x"), api.ErrText)
	}
}

// TestFormsThatAreNone show nothing, whatever stands in their bodies; nor can their bodies be refused.
func TestFormsThatAreNone(t *testing.T) {
	for _, body := range []string{"access_token=abc", "%zz", "access_token=%", "a b", "access_token=abc&access_token=abc", repeated("x", 33, "&")} {
		for _, method := range []string{"GET", "PUT", "PATCH", "DELETE", "post", "Post", "POSTS", "POS", " POST", ""} {
			mustNotFind(t, request(method, "/r", body, "Content-Type", form), api.ErrLost)
			mustFind(t, request(method, "/r", body, "Content-Type", form, "Authorization", "Bearer abc"), "abc")
		}
		for _, media := range []string{"", "text/plain", "application/json", "application/x-www-form-urlencode", "application/x-www-form-urlencodeds", "multipart/form-data; boundary=x", form + " ", " " + form, form + "; x", form + "; x=", form + ", " + form, form + " x", "application", "/", "application/ x-www-form-urlencoded", form + "; x=\"", "x; " + form} {
			mustNotFind(t, request("POST", "/r", body, "Content-Type", media), api.ErrLost)
			mustFind(t, request("POST", "/r?access_token=xyz", body, "Content-Type", media), "xyz")
		}
		mustNotFind(t, request("POST", "/r", body), api.ErrLost)
		mustNotFind(t, request("POST", "/r", body, "Content-Type", form, "Content-Type", form), api.ErrLost)
		mustNotFind(t, request("POST", "/r", body, "Content-Type", form, "content-type", "text/plain"), api.ErrLost)
		mustNotFind(t, request("POST", "/r", body, "Content-Type", "", "content-type", form), api.ErrLost)
	}
}

func TestFormsThatAreSome(t *testing.T) {
	for _, media := range []string{form, strings.ToUpper(form), "Application/X-www-Form-Urlencoded", form + ";", form + " ; charset=utf-8", form + "; charset=\"a;b\"; x=y", form + "\t;\t"} {
		for _, name := range []string{"Content-Type", "content-type", "CONTENT-TYPE"} {
			mustFind(t, request("POST", "/r", "access_token=abc", name, media), "abc")
			mustFind(t, request("POST", "/r?x=1", "y=2&access%5ftoken=a%2Bb&access_token", name, media, "Authorization", "Basic YTpi"), "a+b")
			mustNotFind(t, request("POST", "/r", "access_token=abc&%", name, media), api.ErrText)
		}
	}
}

// TestWhatCannotBeRead: a form or a query that is refused, for whatever reason, is refused beside the best of tokens.
func TestWhatCannotBeRead(t *testing.T) {
	for _, bad := range []string{"%", "x=%zz", "%4", "a b", "access_token=abc&x=\x00", "x=\x7f", "\xff", "access_token=%", repeated("x", 33, "&"), repeated("access_token=abc", 33, "&"), repeated("x", 40, "&&"), repeated("=", 33, "&")} {
		for _, q := range []api.Request{get("/r?" + bad), get("/?" + bad + "&access_token=abc"), get("?" + bad), posted(bad), posted("access_token=abc&" + bad)} {
			mustNotFind(t, q, api.ErrText)
			q.Fields = append(q.Fields, api.Pair{Name: "Authorization", Value: "Bearer abc"})
			mustNotFind(t, q, api.ErrText)
			q.Fields = append(q.Fields, api.Pair{Name: "Authorization", Value: "Bearer abc"})
			mustNotFind(t, q, api.ErrText)
		}
		both := posted("access_token=abc")
		both.Target = "/r?" + bad
		mustNotFind(t, both, api.ErrText)
		both = posted(bad)
		both.Target = "/r?access_token=abc"
		mustNotFind(t, both, api.ErrText)
	}
	mustFind(t, get("/r?access_token=abc&"+repeated("x", 31, "&")), "abc")
	mustFind(t, posted(repeated("&x", 31, "&")+"&&access_token=abc&"), "abc")
	mustFind(t, get("/r%zz a", "Authorization", "Bearer abc"), "abc") // what stands ahead of the query is not looked at
	mustNotFind(t, get("/r#%zz&access_token=abc"), api.ErrLost)
	mustNotFind(t, get("/r??access_token=abc"), api.ErrLost)
	mustFind(t, get("/r?x?&access_token=abc"), "abc")
	mustNotFind(t, get("/r?x#access_token=abc"), api.ErrLost)
	mustNotFind(t, get("/r&access_token=abc"), api.ErrLost)
	mustFind(t, get("?access_token=abc"), "abc")
}

// TestParametersThatDoNotCount: one without a value, or with the empty one, is not there.
func TestParametersThatDoNotCount(t *testing.T) {
	for _, empty := range []string{"", "&", "&&", "access_token", "access_token=", "access_token=&access_token", "Access_Token=abc", "access_tokens=abc", "access_token%20=abc", "token=abc", "=abc", "abc", "ACCESS_TOKEN=abc", "access-token=abc", "=access_token=abc"} {
		mustNotFind(t, posted(empty), api.ErrLost)
		mustNotFind(t, get("/r?"+empty), api.ErrLost)
		both := posted(empty)
		both.Target = "/r?" + empty
		mustNotFind(t, both, api.ErrLost)
		both.Fields = append(both.Fields, api.Pair{Name: "authorization", Value: "Bearer abc"})
		mustFind(t, both, "abc")
		mustFind(t, posted(empty+"&access_token=x&"+empty), "x")
		mustFind(t, get("/r?"+empty+"&access_token=x&"+empty), "x")
	}
	mustNotFind(t, get("/r?access_token==abc"), api.ErrText)
	mustNotFind(t, get("/r?access_token=+abc"), api.ErrText)
	mustNotFind(t, get("/r?access_token=%20"), api.ErrText)
	mustFind(t, get("/r?access_token=abc=="), "abc==")
	mustFind(t, get("/r?access_token=a%2Fb~c"), "a/b~c")
}

// faulty is what makes a request wrong, by the number of the row of P22.1 that then holds.
type faulty struct {
	row  int
	spot string // two that lie in one spot cannot be there both
	make func(*api.Request)
}

func faults() []faulty {
	addField := func(name, value string) func(*api.Request) {
		return func(q *api.Request) { q.Fields = append(q.Fields, api.Pair{Name: name, Value: value}) }
	}
	addQuery := func(text string) func(*api.Request) {
		return func(q *api.Request) { q.Target += "&" + text }
	}
	addBody := func(text string) func(*api.Request) {
		return func(q *api.Request) { q.Body += "&" + text }
	}
	return []faulty{
		{1, "query", addQuery("%zz")}, {1, "body", addBody("\x01")}, {1, "query", addQuery(repeated("x", 33, "&"))}, {1, "body", addBody(repeated("x", 33, "&"))},
		{2, "fields", func(q *api.Request) { addField("authorization", "")(q); addField("authorization", "Bearer abc")(q) }},
		{2, "twice in the query", addQuery("access_token=a&access_token=!")}, {2, "twice in the body", addBody("access_token=a&access_token=a")},
		{4, "text by the field", addField("authorization", "Bearer !")}, {4, "text in the query", addQuery("access_token=!")}, {4, "text in the body", addBody("access_token=%20")},
	}
}

// TestFirstThatHolds makes requests with one fault, and with two of any rows: the row that is named first is the answer. Two texts that are no tokens are two that are shown.
func TestFirstThatHolds(t *testing.T) {
	refusals := map[int]error{1: api.ErrText, 2: api.ErrTwice, 3: api.ErrLost, 4: api.ErrText}
	empty := func() api.Request {
		q := posted("y=2")
		q.Target = "/r?x=1"
		return q
	}
	mustNotFind(t, empty(), refusals[3])
	for _, one := range faults() {
		q := empty()
		one.make(&q)
		mustNotFind(t, q, refusals[one.row])
		for _, other := range faults() {
			if one.spot == other.spot {
				continue
			}
			q := empty()
			one.make(&q)
			other.make(&q)
			row := min(one.row, other.row)
			if one.row == 4 && other.row == 4 {
				row = 2
			}
			mustNotFind(t, q, refusals[row])
			for _, third := range faults() {
				q := q
				q.Fields = append([]api.Pair(nil), q.Fields...)
				third.make(&q)
				mustNotFind(t, q, refusals[min(row, third.row)])
			}
		}
	}
}

// TestOneByteAway changes each part of requests that show a token at every place, and holds Find against the model.
func TestOneByteAway(t *testing.T) {
	for _, value := range []string{"Bearer a=", "bearer  b-c"} {
		changed(value, func(value string) {
			mustFindAsModel(t, authorized(value))
			mustFindAsModel(t, get("/r?access_token=x", "Authorization", value))
		})
	}
	for _, name := range []string{"Authorization", "Content-Type"} {
		changed(name, func(name string) {
			mustFindAsModel(t, get("/r", name, "Bearer abc"))
			mustFindAsModel(t, request("POST", "/r", "access_token=abc", name, form))
		})
	}
	changed(form+`; x="\""`, func(media string) {
		mustFindAsModel(t, request("POST", "/r", "access_token=abc", "Content-Type", media))
	})
	changed("POST", func(method string) {
		mustFindAsModel(t, request(method, "/r", "access_token=abc", "Content-Type", form))
	})
	for _, list := range []string{"access_token=a", "x=%41&access_token=a%3d"} {
		changed(list, func(list string) {
			mustFindAsModel(t, posted(list))
			mustFindAsModel(t, get("/r?"+list))
			mustFindAsModel(t, get("/r?"+list, "Authorization", "Bearer abc"))
		})
	}
	changed("/r?access_token=a", func(target string) { mustFindAsModel(t, get(target)) })
}

// aRequest is one that may show a token, or not.
func aRequest(random *rand.Rand) api.Request {
	part := func() string {
		return oneOf(random, "", "", "x", "access_token=abc", "access_token=a", "access_token", "access_token=", "access_token=!", "access_token=%3D", "access_token=a%3D", "%zz", "x=%00", "=", "access_token=b+", repeated("x", random.Intn(34), "&"), noise(random, "a=&%2", random.Intn(8)))
	}
	q := api.Request{Method: oneOf(random, "GET", "POST", "POST", "PUT"), Target: "/r", Minor: random.Intn(2), Body: part()}
	for range random.Intn(3) {
		q.Body += "&" + part()
	}
	if random.Intn(3) > 0 {
		q.Target += "?" + part()
	}
	for range random.Intn(2) {
		q.Target += oneOf(random, "?", "&") + part()
	}
	if random.Intn(4) > 0 {
		q.Fields = append(q.Fields, api.Pair{Name: oneOf(random, "content-type", "Content-Type"), Value: oneOf(random, form, form, form, form+"; a=b", "text/plain", form+" ", "")})
	}
	for range oneOf(random, 0, 0, 1, 1, 1, 1, 2, 3) {
		name := oneOf(random, "authorization", "Authorization", "AUTHORIZATION", "authorization", "content-type", "x")
		value := oneOf(random, "", "Bearer", "Bearer ", "Basic YTpi", "bearer abc", "Bearer a", "BEARER  a=", "Bearer a b", "Bearer "+noise(random, tokenBytes, 1+random.Intn(9)), "Bearer "+noise(random, everyByte(), random.Intn(3)), "Bearer"+noise(random, everyByte(), random.Intn(3)))
		q.Fields = append(q.Fields, api.Pair{Name: name, Value: value})
	}
	return q
}

func TestRequestsByChance(t *testing.T) {
	random := rand.New(rand.NewSource(1))
	answers := map[error]int{}
	for range 100000 {
		q := aRequest(random)
		mustFindAsModel(t, q)
		_, err := modelFind(q)
		answers[err]++
	}
	for _, err := range []error{nil, api.ErrText, api.ErrTwice, api.ErrLost} {
		if answers[err] < 5000 {
			t.Errorf("of 100000 requests by chance only %d are answered with %v", answers[err], err)
		}
	}
}
