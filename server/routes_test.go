package server_test

import (
	"slices"
	"testing"

	"usher/api"
	"usher/server"
)

// TestAllow: the chapter's table.
func TestAllow(t *testing.T) {
	for path, methods := range map[string]string{
		"/": "GET, HEAD", "/login": "GET, HEAD, POST", "/logout": "POST", "/authorize": "GET", "/consent": "POST", "/withdraw": "POST", "/token": "POST", "/introspect": "POST", "/revoke": "POST",
	} {
		if got := server.Allow(path); got != methods {
			t.Errorf("P19.1: Allow(%q) = %q, want %q", path, got, methods)
		}
		if path == "/" {
			continue
		}
		for _, other := range []string{path + "/", path[1:], "/" + path, "/x" + path, path + "?", path + "?a=b", path + "#", path + ";a", path + "x", path + " ", " " + path, path + "\x00", path + "%", "/%" + path[1:], "/./" + path[1:], "https://usher.example" + path, path + path, path[:1] + upper(path[1:2]) + path[2:], upper(path), path + ", ", methods} {
			if got := server.Allow(other); got != "" {
				t.Errorf("P19.1: Allow(%q) = %q, want nothing", other, got)
			}
		}
	}
	for _, other := range []string{"", "//", "/?", "?", "*", ".", "/.", "/..", "/%2F", "%2F", "\\", "/\\", "/nothing", "/authorise", "/introspection", "/tokens", "GET", "POST", ", ", "/\xff", "/\x00", "／"} {
		if got := server.Allow(other); got != "" {
			t.Errorf("P19.1: Allow(%q) = %q, want nothing", other, got)
		}
	}
}

func upper(s string) string {
	b := []byte(s)
	for i := range b {
		if b[i] >= 'a' && b[i] <= 'z' {
			b[i] -= 'a' - 'A'
		}
	}
	return string(b)
}

// paths are those of the table, sorted.
func paths() []string {
	var list []string
	for path := range methodsOf {
		list = append(list, path)
	}
	slices.Sort(list)
	return list
}

// nearly is every path with one byte taken out, put in, changed or escaped, at every place.
func nearly() []string {
	var list []string
	for _, path := range paths() {
		for at := range len(path) + 1 {
			for _, b := range []string{"/", "a", "%", ".", "_", "\x00", "\xff", "n", "s"} {
				list = append(list, path[:at]+b+path[at:])
				if at < len(path) {
					list = append(list, path[:at]+b+path[at+1:])
				}
			}
			if at < len(path) {
				list = append(list, path[:at]+path[at+1:], path[:at]+upper(path[at:at+1])+path[at+1:], path[:at]+escaped(path[at])+path[at+1:])
			}
		}
	}
	return list
}

func escaped(b byte) string {
	const digits = "0123456789ABCDEF"
	return "%" + digits[b>>4:b>>4+1] + digits[b&15:b&15+1]
}

// TestNearlyAPath: Allow and Serve take the same texts for paths, and no others.
func TestNearlyAPath(t *testing.T) {
	b := newBench(t, config())
	met := map[bool]int{}
	for _, path := range nearly() {
		methods, known := methodsOf[path]
		met[known]++
		if got := server.Allow(path); got != methods {
			t.Errorf("P19.1: Allow(%q) = %q, want %q", path, got, methods)
		}
		for _, target := range []string{path, path + "?", path + "?a=b?/login", path + "?%"} {
			if known {
				b.must(errorPage(405, "Method Not Allowed", "Allow", methods), 0, request("BREW", target))
			} else {
				b.must(errorPage(404, "Not Found"), 0, request("BREW", target))
				b.must(errorPage(404, "Not Found"), 0, getting(target))
				b.must(errorPage(404, "Not Found"), 0, sending(target, "user=ann&pass=pw"))
			}
		}
	}
	if met[true] < 20 || met[false] < 1000 {
		t.Errorf("%v: too few to tell", met)
	}
}

// TestMethods: those of the table alone, byte by byte, whatever else they are.
func TestMethods(t *testing.T) {
	methods := []string{
		"GET", "HEAD", "POST", "", "get", "Get", "head", "post", "Post", "PUT", "DELETE", "OPTIONS", "TRACE", "CONNECT", "PATCH",
		"GET ", " GET", "GET,", ",", ", ", " ", "GET, HEAD", "GET, HEAD, POST", "HEAD, POST", "GE", "GETS", "POS", "POSTS", "HEA", "ET", "\x00", "\xff",
	}
	allowed := map[string][]string{
		"/": {"GET", "HEAD"}, "/login": {"GET", "HEAD", "POST"}, "/logout": {"POST"}, "/authorize": {"GET"}, "/consent": {"POST"}, "/withdraw": {"POST"}, "/token": {"POST"}, "/introspect": {"POST"}, "/revoke": {"POST"},
	}
	b := newBench(t, config())
	for _, path := range paths() {
		for _, method := range methods {
			q := request(method, path, "content-type", formType)
			got, err := b.play(0, q)
			if isAllowed := slices.Contains(allowed[path], method); err != nil || (got.Status != 405) != isAllowed {
				t.Errorf("P19.2: %q %s answers %+v, %v", method, path, got, err)
			} else if !isAllowed {
				b.mustKeep(errorPage(405, "Method Not Allowed", "Allow", server.Allow(path)), 0, q)
			}
		}
	}
}

// TestHeadIsServedAsGet: on every path that has both, with a session and without, with parameters that can be read and with others; the body too.
func TestHeadIsServedAsGet(t *testing.T) {
	b := newBench(t, config())
	sid := b.begin("ann", 0)
	b.family(sid, 1, 2, 3)
	count := 0
	for _, path := range paths() {
		for _, query := range []string{"", "?", "?next=/a", "?next=//a", "?a=%", "?next=%2Fa%3Fb%26c"} {
			for _, fields := range [][]string{nil, {"cookie", "sid=" + sid}, {"cookie", "sid=" + id(9)}} {
				for _, isLast := range []bool{false, true} {
					q, p := getting(path+query, fields...), request("HEAD", path+query, fields...)
					q.Close, p.Close = isLast, isLast
					got, _ := b.play(8, q)
					headed, _ := b.play(8, p)
					if path == "/authorize" {
						if headed.Status != 405 {
							t.Errorf("P19.1: HEAD %s answers %+v", p.Target, headed)
						}
					} else if !isSame(got, headed) || got.Body == "" {
						t.Errorf("P19.2: HEAD %s answers %+v, GET %+v", p.Target, headed, got)
					}
					if headed.Status == 200 || headed.Status == 400 {
						count++
					}
				}
			}
		}
	}
	if count != 2*6*3*2 {
		t.Errorf("%d answers to HEAD: too few to tell", count)
	}
}

// TestTargets: the path is what stands ahead of the first question mark; all behind it is the query.
func TestTargets(t *testing.T) {
	b := newBench(t, config())
	for _, target := range []string{"/?", "/?a", "/?/login", "/??", "/?a=?b"} {
		b.must(strangers, 0, getting(target))
	}
	for _, target := range []string{"/login?", "/login?next=", "/login?next", "/login?/"} {
		b.must(loginPage("/"), 0, getting(target))
	}
	b.must(loginPage("/a?b"), 0, getting("/login?next=/a?b"))
	b.must(loginPage("/?next=/b"), 0, getting("/login?next=/?next=/b"))
	for _, target := range []string{"", "?", "?/", "*", "usher.example:443", "https://usher.example/", "//", "//login", "/ ", "/\x00", "/login#", "/login/?next=/", "/Login?next=/"} {
		b.must(errorPage(404, "Not Found"), 0, getting(target))
	}
	var none api.Request
	b.must(errorPage(404, "Not Found"), 0, none)
}
