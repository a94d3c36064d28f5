package terms_test

import (
	"math/rand"
	"strconv"
	"strings"
	"testing"
)

// addresses are of each form, with and without a port, a path and a query.
func addresses() []string {
	return []string{
		"https://a", "https://a:1", "https://a/", "https://a?", "https://a:1?x", "https://a/b", "https://a/b?c", "https://a:443/b/c?d=e&f",
		"https://app.example/cb?x=%2f", "https://a-b.c--d.1:65535/", "https://1.2.3.4", "https://127.0.0.1/", "https://localhost/", "https://A.B-c.Z9/",
		"https://[::1]", "https://[2001:db8::1]:8443/", "https://[::ffff:1.2.3.4]?x", "https://[.]/", "https://[:]:1", "https://[aF09]/a?b",
		"https://a//", "https://a//b//", "https://a/?", "https://a/??", "https://a/?a?b/c", "https://a?/?:@", "https://a/b//c;d=e!$&'()*+,@:-._~%00%fF", "https://a/?b//c;d=e!$&'()*+,@:-._~%00%fF?",
		"http://localhost", "http://localhost:8080/cb", "http://localhost?x", "http://localhost/?", "http://127.0.0.1:9/", "http://127.0.0.1", "http://[::1]", "http://[::1]:1/x?y", "http://[::1]/",
		"com.example.app:/cb", "com.example.app:/", "a.:/", "a..:/?", "a.b+c-9:/x?y", "https.x:/", "http.:/", "a.b:/c//d", "a+.:/a//?//", "a9.-:/:", "a.b:/?/x",
	}
}

// strangers are none: something is missing, too much, or where it may not be.
func strangers() []string {
	return []string{
		"", "/", "/cb", "?", "a", "https", "https:", "https:/", "https:/a", "https://", "https:///", "https:///x", "https://?x", "https://:80/", "//a/b", "://a", ":/", ".:/",
		"HTTPS://a/", "Https://a/", "httpS://a/", "https//a/", "httpss://a/", "ahttps://a/", " https://a/", "https://a/ ", "https ://a/", "https:// a/", "https://a /",
		"https://u@app.example/", "https://u:p@a/", "https://@a/", "https://a@/", "https://app.example/#f", "https://a/#", "https://a#", "https://a?#", "https://a/?x#y",
		"https://app.example/%2", "https://a/%", "https://a/%2?", "https://a/%zz", "https://a/%2g", "https://a/%g2", "https://a/?%", "https://a/?%2", "https://a/?%2x", "https://a/%%20", "https://a/%2%20", "https://a/?%?00", "https://a/%/00",
		"https://app.example:0/", "https://app.example:65536/", "https://a:080/", "https://a:/", "https://a:", "https://a:?", "https://a:8a/", "https://a:a8/", "https://a:1:2/", "https://a:+1/", "https://a:-1/", "https://a: 1/", "https://a:1 /", "https://a:1_0/", "https://a:0x1/", "https://a:1.0/", "https://a:99999999999999999999/", "https://a:%31/",
		"https://[::1]:0/", "https://[::1]:65536/", "https://[::1]:01/", "https://[::1]:/", "https://[::1]:a/", "http://[::1]:0/", "http://[::1]:65536", "http://[::1]:08/", "http://[::1]:",
		"https://-a.example/", "https://a-/", "https://a-.b/", "https://a.-b/", "https://-/", "https://a..b/", "https://a./", "https://a.:1/", "https://.a/", "https://./", "https://a_b/", "https://a%41/", "https://a~b/", "https://a!b/", "https://a,b/", "https://*.a/", "https://a\\b/", "https://\u00e9/", "https://a\u3002b/", "https://a\x00b/",
		"https://[]/", "https://[g]/", "https://[::1/", "https://::1]/", "https://::1/", "https://[::1]x/", "https://x[::1]/", "https://[::1]]/", "https://[[::1]]/", "https://[::1][::1]/", "https://[::1%25a]/", "https://[::1 ]/", "https://[v1.a]/", "https://[/]/", "https://[?]/", "https://]/", "https://[", "https://]",
		"https://a/\r\n", "https://a/\n", "https://a/\"", "https://a/<", "https://a/>", "https://a/\\", "https://a/^", "https://a/[", "https://a/]", "https://a/{", "https://a/}", "https://a/|", "https://a/`", "https://a/\u00e9", "https://a/\x7f", "https://a/\x00", "https://a?\u00e9", "https://a?\"", "https://a?[", "https://a/ b", "https://a?b c",
		"http://app.example/cb", "http://localhostx/", "http://localhost./", "http://localhost.a/", "http://a.localhost/", "http://xlocalhost/", "http://localhos/", "http://LOCALHOST/", "http://Localhost/", "http://127.0.0.10/", "http://127.0.0.1.2/", "http://127.0.0.1./", "http://127.0.0.2/", "http://127.1/", "http://127.0.0.1:/", "http://[::1]x", "http://[::2]/", "http://::1/", "http://[::1", "http://[0:0:0:0:0:0:0:1]/", "http://[::01]/", "http://localhost:0/", "http://localhost:65536/", "http://localhost:", "http://u@localhost/", "http://localhost@a/", "http://localhost:1@a/", "http://localhost:p@a/", "http://localhost#", "http://localhost/#", "http://localhost\\a", "http://", "http:/", "http:", "http", "HTTP://localhost/", "http:///", "http://:1/", "http://[::1]]/",
		"example:/cb", "com.example.app://cb", "com.example.app:///", "com.example.app://", "com.example.app:cb", "com.example.app:", "com.example.app:?", "com.example.app:?x", "com.example.app", "com.example.app/", "com.example.app/:/", "A.b:/", "9a.b:/", "+a.b:/", "-a.b:/", ".a:/", "a.B:/", "a.b_c:/", "a.b%41:/", "a.b~:/", "a.b c:/", "a.\u00e9:/", "a.b:/x#y", "a.b:/%", "a.b:/%4", "a.b:/?%4", "a.b:/ ", "a.b:/\"", "a.b::/", "a:.b/", "a:/.", "a:b.c:/", "javascript:alert(1)", "javascript:/alert(1).", "data:text/html,x", "https:/a.b", "http:/a.b", "ftp://a.b/", "file:///a.b", "mailto:a@b.c", "a.b.:x/",
	}
}

func TestAddresses(t *testing.T) {
	for _, s := range addresses() {
		mustRedirect(t, s)
	}
}

func TestStrangers(t *testing.T) {
	for _, s := range strangers() {
		mustNotRedirect(t, s)
	}
}

func TestSizesOfAddresses(t *testing.T) {
	for _, head := range []string{"https://a/", "https://a?", "https://a:65535/", "https://[::1]/x", "http://localhost/", "http://[::1]?", "com.example.app:/", "a.b:/?"} {
		for _, size := range []int{len(head), len(head) + 1, 510, 511, 512} {
			mustRedirect(t, head+strings.Repeat("x", size-len(head)))
		}
		for _, size := range []int{513, 514, 1024, 1 << 20} {
			mustNotRedirect(t, head+strings.Repeat("x", size-len(head)))
		}
		full := 512 - len(head)
		mustRedirect(t, head+strings.Repeat("x", full%3)+strings.Repeat("%fF", full/3))
		mustNotRedirect(t, head+strings.Repeat("x", full%3)+strings.Repeat("%fF", full/3)+"%fF")
		mustNotRedirect(t, head+strings.Repeat("x", full-1)+"%")
		mustNotRedirect(t, head+strings.Repeat("x", full-2)+"%f")
	}
	mustRedirect(t, "https://"+strings.Repeat("a.", 251)+"a")
	mustRedirect(t, "https://"+strings.Repeat("a.", 251)+"ab")
	mustNotRedirect(t, "https://"+strings.Repeat("a.", 252)+"a")
	mustRedirect(t, "https://["+strings.Repeat(":", 502)+"]")
	mustNotRedirect(t, "https://["+strings.Repeat(":", 503)+"]")
	mustRedirect(t, strings.Repeat("a", 509)+".:/")
	mustNotRedirect(t, strings.Repeat("a", 510)+".:/")
}

func TestSizesOfLabels(t *testing.T) {
	for size := range 70 {
		label := strings.Repeat("l", size)
		for _, s := range []string{"https://" + label, "https://" + label + "/", "https://" + label + ":1", "https://" + label + "?", "https://" + label + ".x/", "https://x." + label + "/", "https://x." + label + ".y/", "https://" + label + "." + label} {
			if 1 <= size && size <= 63 {
				mustRedirect(t, s)
			} else {
				mustNotRedirect(t, s)
			}
		}
		mustRedirectAsExpected(t, "https://a"+strings.Repeat("-", size)+"a")
	}
}

func TestPorts(t *testing.T) {
	hosts := []string{"https://a.example", "https://[2001:db8::1]", "http://localhost", "http://127.0.0.1", "http://[::1]"}
	behind := []string{"", "/", "?", "/x?y"}
	for _, host := range hosts {
		for _, port := range []int{1, 2, 9, 10, 80, 99, 100, 443, 999, 1000, 8080, 9999, 10000, 65534, 65535} {
			for _, rest := range behind {
				mustRedirect(t, host+":"+strconv.Itoa(port)+rest)
				mustNotRedirect(t, host+":0"+strconv.Itoa(port)+rest)
			}
		}
		for _, port := range []string{"", "0", "00", "000000", "65536", "65540", "65600", "66000", "70000", "99999", "100000", "065535", "655350", "4294967297", "18446744073709551617", strings.Repeat("9", 300), "-1", "+1", "1a", "a", " 1", "1 ", "1e3", "1_0", "0x10", "%31", "1:1", "\u0661"} {
			for _, rest := range behind {
				mustNotRedirect(t, host+":"+port+rest)
			}
		}
	}
	for port := range 70000 {
		s := hosts[port%len(hosts)] + ":" + strconv.Itoa(port) + behind[port%len(behind)]
		mustRedirectAsExpected(t, s)
	}
}

// TestBytesOfAddresses lays each byte, and each escape of two bytes at which the rule turns, at the places of an address.
func TestBytesOfAddresses(t *testing.T) {
	for n := range 256 {
		b := oneByte(n)
		for _, s := range []string{"https://a/" + b, "https://a/" + b + "x", "https://a?" + b, "https://a/x?y" + b + "z", "http://localhost/" + b, "a.b:/" + b, "a.b:/x" + b, "a.b:/?" + b} {
			mustRedirectAsExpected(t, s)
		}
		for _, s := range []string{"https://" + b, "https://" + b + "/", "https://a" + b, "https://a" + b + "b", "https://a." + b + ".c/", "https://[" + b + "]", "https://[:" + b + "1]:1", "https://[::1]" + b, "https://a:" + b, "https://a:1" + b + "1", b + ".a:/", "a" + b + ".c:/", "a." + b + ":/", "a" + b + "c:/", "a.b:" + b, "a.b:/" + b + "/"} {
			mustRedirectAsExpected(t, s)
		}
	}
	for n := range 1 << 16 {
		two := oneByte(n>>8) + oneByte(n&255)
		mustRedirectAsExpected(t, "https://a/%"+two)
		mustRedirectAsExpected(t, "https://a?%"+two)
	}
}

func TestChangedAddresses(t *testing.T) {
	for _, s := range addresses() {
		changedAt(s, func(changed string) { mustRedirectAsExpected(t, changed) })
	}
}

func TestGrownAddresses(t *testing.T) {
	play := func(s string) { mustRedirectAsExpected(t, s) }
	grow("", []string{"https", "http", "localhost", "127.0.0.1", "[::1]", ":", "/", "?", "a", ".", "1", "-"}, 5, play)
	for _, head := range []string{"https://", "http://", "a.b:", "https://a", "https://[", "http://localhost", "https://a:", "https://a/", "https://a?"} {
		grow(head, []string{"a", "1", "0", ":", "/", "?", ".", "-", "[", "]", "%2", "f"}, 4, play)
	}
}

// TestDrawnAddresses joins sound and wrong parts.
func TestDrawnAddresses(t *testing.T) {
	random := rand.New(rand.NewSource(96))
	sound := 0
	for range 100000 {
		s := one(random, "https://", "https://", "http://", "a.b", "a.b:", "https:")
		s += one(random, "a", "a.example", "localhost", "127.0.0.1", "[::1]", "", noise(random, "ab-.", 4), "["+noise(random, "0aF:.]", 4)+"]")
		s += one(random, "", "", ":1", ":"+strconv.Itoa(random.Intn(70000)), ":"+noise(random, "019", random.Intn(7)))
		s += one(random, "", "/", "/"+noise(random, "/abc@:%2f", random.Intn(9)), "/x", noise(random, "/?a", 2))
		s += one(random, "", "?", "?a=b&c", "?"+noise(random, "/?=%2f", random.Intn(9)), "#")
		mustRedirectAsExpected(t, s)
		if expectedRedirect(s) {
			sound++
		}
	}
	if sound < 10000 || sound > 90000 {
		t.Errorf("of 100000 addresses %d are sound", sound)
	}
}
