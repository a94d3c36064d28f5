package bearer_test

import (
	"testing"

	"usher/api"
)

// The rows of the chapter's examples.

func TestExamplesOfFind(t *testing.T) {
	mustFind(t, authorized("Bearer abc="), "abc=")
	mustFind(t, authorized("bEARER   a.b-c/~+_9=="), "a.b-c/~+_9==")
	for _, q := range []api.Request{authorized("Basic YTpi"), get("/r"), authorized(" ")} {
		mustNotFind(t, q, api.ErrLost)
	}
	for _, value := range []string{"Bearer", "Bearer a b", "Bearer =", "Bearer a=b", "Bearer,a"} {
		mustNotFind(t, authorized(value), api.ErrText)
	}
	mustFind(t, get("/r?access_token=abc"), "abc")
	mustNotFind(t, get("/r?access_token=abc&access_token=abc"), api.ErrTwice)
	mustNotFind(t, get("/r?access_token=abc", "Authorization", "Bearer abc"), api.ErrTwice)
	mustNotFind(t, get("/r", "Authorization", "Bearer abc", "Authorization", "Bearer abc"), api.ErrTwice)
	mustNotFind(t, get("/r?x=%zz", "Authorization", "Bearer abc"), api.ErrText)
	mustFind(t, posted("access_token=abc"), "abc")
	mustNotFind(t, request("PUT", "/r", "access_token=abc", "Content-Type", form), api.ErrLost)
	mustNotFind(t, posted("access_token="), api.ErrLost)
}

func TestExamplesOfAGuard(t *testing.T) {
	b := newBench(t, 10)
	q, good := bearing("abc"), active(text("scope", "b a"), text("client_id", "web"), text("username", "ann"), number("exp", 100))
	in := letIn("ann", "web", "a", "b")
	b.must(api.Access{Status: 401, Challenge: `Bearer realm="usher"`}, false, 5, get("/r"), nil, good)
	b.must(api.Access{Status: 401, Error: "invalid_token", Challenge: `Bearer realm="usher", error="invalid_token"`}, true, 5, q, []string{"a"}, []api.Member{flag("active", false)})
	b.must(in, true, 5, q, []string{"a"}, good)
	b.must(api.Access{Status: 403, Error: "insufficient_scope", Challenge: `Bearer realm="usher", error="insufficient_scope", scope="a c"`}, false, 14, q, []string{"a", "c"}, good)
	b.mustHold(14, 1)
	b.mustHold(15, 0)
	b.must(in, true, 15, q, nil, good)
	b.forget("abc")
	b.mustHold(5, 0)
	b.must(worthless, true, 100, q, nil, good)
}
