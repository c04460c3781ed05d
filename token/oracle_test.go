package token_test

import (
	"crypto/hmac"
	"crypto/sha256"
	"encoding/hex"
	"math/big"
	"regexp"
	"strconv"
	"strings"
	"testing"

	"seneschal/api"
	"seneschal/token"
)

const mostTime = 1 << 40

// signs are those that stand behind said in a token, by what the library has.
func signs(key, said string) string {
	h := hmac.New(sha256.New, []byte(key))
	h.Write([]byte(said))
	return hex.EncodeToString(h.Sum(nil))
}

func signed(key, said string) string {
	return said + signs(key, said)
}

// said is what stands ahead of the signs in a token.
func said(u api.User, until int) string {
	return u.Name + "." + strings.Join(u.Groups, ",") + "." + strconv.Itoa(until) + "."
}

const word = `[a-z0-9](?:[a-z0-9-]{0,18}[a-z0-9])?`

var (
	tokens = regexp.MustCompile(`\A([^.]*\.[^.]*\.[^.]*\.)([0-9a-f]{64})\z`)
	sayers = regexp.MustCompile(`\A(` + word + `)\.((?:` + word + `(?:,` + word + `){0,5})?)\.(0|[1-9][0-9]*)\.\z`)
)

func twice(l []string) bool {
	seen := make(map[string]int)
	for _, s := range l {
		seen[s]++
	}
	return len(seen) < len(l)
}

// reading is what Check is to say, by patterns, and by numbers that may be of any size.
func reading(key, text string, now int) (api.User, api.Errno) {
	if len(key) < 1 || len(key) > 64 || now < 0 || now > mostTime {
		return api.User{}, api.ErrArg
	}
	parts := tokens.FindStringSubmatch(text)
	if parts == nil {
		return api.User{}, api.ErrForm
	}
	if signed(key, parts[1]) != text {
		return api.User{}, api.ErrSum
	}
	says := sayers.FindStringSubmatch(parts[1])
	if says == nil {
		return api.User{}, api.ErrForm
	}
	u := api.User{Name: says[1]}
	if says[2] != "" {
		u.Groups = strings.Split(says[2], ",")
	}
	until, _ := new(big.Int).SetString(says[3], 10)
	if twice(u.Groups) || until.Cmp(big.NewInt(mostTime)) > 0 {
		return api.User{}, api.ErrForm
	}
	if int64(now) > until.Int64() {
		return api.User{}, api.ErrLate
	}
	return u, api.OK
}

func same(u, v api.User) bool {
	return u.Name == v.Name && strings.Join(u.Groups, ",") == strings.Join(v.Groups, ",") && len(u.Groups) == len(v.Groups)
}

// agrees holds Check against reading, and answers what it says.
func agrees(t *testing.T, key, text string, now int) api.Errno {
	t.Helper()
	u, e := token.Check(key, text, now)
	v, f := reading(key, text, now)
	if e != f || !same(u, v) {
		t.Errorf("Check(%.80q, %.300q, %d) = %v, %d, want %v, %d", key, text, now, u, e, v, f)
	}
	if e != api.OK && (u.Name != "" || u.Groups != nil) {
		t.Errorf("Check(%.80q, %.300q, %d): beside %d stands %v", key, text, now, e, u)
	}
	return e
}

// P31: all that is made of pieces, with its own signs: some of it is what Issue would tell.
func TestPieces(t *testing.T) {
	names := []string{"", "a", "-", "ann", "Ann", "a,b", long(20), long(21), "\xff"}
	lists := []string{"", ",", "a", "a,", ",a", "a,a", "a,b", "a,,b", "b,a,ann", "a,b,c,d,e,f", "a,b,c,d,e,f,g", "a,b,c,d,e,f,", "a,b,c,d,e,a", "a b", "a, b", "A", "a-", long(20), long(21), "a," + long(20), "a," + long(21)}
	times := []string{"", "0", "00", "1", "01", "9", "10", "+9", "-9", "-0", "+0", " 9", "9 ", "9a", "0x9", "1_0", "9e0", "٩", "1099511627776", "1099511627777", "01099511627776", "9223372036854775807", "9223372036854775808", "18446744073709551625", strings.Repeat("9", 100)}
	good := 0
	for _, n := range names {
		for _, l := range lists {
			for _, until := range times {
				for _, now := range []int{0, 1, 9, 10, mostTime} {
					if agrees(t, "key", signed("key", n+"."+l+"."+until+"."), now) == api.OK {
						good++
					}
				}
			}
		}
	}
	if good < 100 {
		t.Errorf("only %d are good", good)
	}
}

// P31: each byte of some tokens is made each other byte; with the signs as they were, and with those that fit.
func TestOtherBytes(t *testing.T) {
	for _, u := range []api.User{user("ann"), user("b", "a-1", "z"), user(long(20), groups(6)...)} {
		text, e := token.Issue("key", u, 120)
		if e != api.OK {
			t.Fatal(e)
		}
		for i := range len(text) {
			for c := range 256 {
				other := text[:i] + string([]byte{byte(c)}) + text[i+1:]
				if e := agrees(t, "key", other, 100); e == api.OK && other != text {
					t.Errorf("%q is taken, made of %q", other, text)
				}
				if i < len(text)-64 {
					agrees(t, "key", signed("key", other[:len(text)-64]), 100)
				}
			}
		}
	}
}

// P31: the same with a byte more, or one less, or two that change places.
func TestLongerAndShorter(t *testing.T) {
	for _, u := range []api.User{user("ann"), user("b", "a-1", "z"), user(long(20), groups(6)...)} {
		text, _ := token.Issue("key", u, 120)
		ahead := len(text) - 64
		for i := range len(text) + 1 {
			for _, s := range []string{"a", "0", "-", ".", ",", "..", "A", " ", "\n", "\x00", "\xff", "aaa", text} {
				longer := text[:i] + s + text[i:]
				if agrees(t, "key", longer, 100) == api.OK {
					t.Errorf("%q is taken, made of %q", longer, text)
				}
				if i <= ahead {
					agrees(t, "key", signed("key", longer[:ahead+len(s)]), 100)
				}
			}
			for _, part := range []string{text[:i], text[i:], text[i:] + text[:i]} {
				if e := agrees(t, "key", part, 100); e == api.OK && part != text {
					t.Errorf("%q is taken, made of %q", part, text)
				}
			}
			if i < ahead {
				agrees(t, "key", signed("key", text[:i]+text[i+1:ahead]), 100)
				agrees(t, "key", text[:i]+text[i+1:], 100)
			}
			if i+1 < ahead {
				swapped := text[:i] + text[i+1:i+2] + text[i:i+1] + text[i+2:ahead]
				agrees(t, "key", signed("key", swapped), 100)
			}
		}
	}
}

func FuzzCheck(f *testing.F) {
	f.Add("key", "ann.dev,ops.9.", 9, true)
	f.Add("key", "ann..9.", 10, true)
	f.Add("key", "...", 0, true)
	f.Add("", "a.b,b.01.", 0, true)
	f.Add("key", "ann..9.", 9, false)
	f.Fuzz(func(t *testing.T, key, text string, now int, whole bool) {
		if whole {
			text = signed(key, text)
		}
		agrees(t, key, text, now)
	})
}
