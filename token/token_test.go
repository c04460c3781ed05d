package token_test

import (
	"math"
	"strconv"
	"strings"
	"testing"

	"seneschal/api"
	"seneschal/seal"
	"seneschal/token"
)

// people are users without groups, with one, and with as many as there may be.
func people() []api.User {
	return []api.User{
		user("a"), user("ann"), user("0"), user(long(20)), {Name: "ann", Groups: []string{}},
		user("ann", "dev"), user("ann", "ann"), user("ann", long(20)),
		user("ann", "dev", "ops"), user("ann", "ops", "dev"),
		user("ann", groups(6)...), user(long(20), long(20), long(19), long(18), long(17), long(16), long(15)),
		user("a-b", "z", "y", "a", "0", "1-1", "x"),
	}
}

// keys are those that may be, at both ends of how long they may be, and whatever bytes they have.
func keys() []string {
	return []string{"k", "\x00", "\xff", ".", "key", "a key, with.signs\n", strings.Repeat("k", 63), strings.Repeat("k", 64), strings.Repeat("\x00\xff", 32)}
}

// noKeys are none.
func noKeys() []string {
	return []string{"", strings.Repeat("k", 65), strings.Repeat("k", 66), strings.Repeat("\x00", 65), strings.Repeat("k", 1000)}
}

func noTimes() []int {
	return []int{-1, -9, mostTime + 1, mostTime + 2, -mostTime, math.MaxInt, math.MinInt}
}

// issues holds what Issue tells, or why it doesn't.
func issues(t *testing.T, key string, u api.User, until int, want string, e api.Errno) {
	t.Helper()
	if s, f := token.Issue(key, u, until); s != want || f != e {
		t.Errorf("Issue(%.80q, %.300q, %d) = %q, %d, want %q, %d", key, u, until, s, f, want, e)
	}
}

func fails(t *testing.T, key, text string, now int, e api.Errno) {
	t.Helper()
	if u, f := token.Check(key, text, now); f != e || u.Name != "" || u.Groups != nil {
		t.Errorf("Check(%.80q, %.300q, %d) = %v, %d, want %d", key, text, now, u, f, e)
	}
}

func tells(t *testing.T, key, text string, now int, want api.User) {
	t.Helper()
	if u, e := token.Check(key, text, now); !same(u, want) || e != api.OK {
		t.Errorf("Check(%.80q, %.300q, %d) = %v, %d, want %v", key, text, now, u, e, want)
	}
}

// P30: tokens that were worked out elsewhere, sign by sign.
func TestKnownTokens(t *testing.T) {
	issues(t, "k", user("ann"), 9, "ann..9."+"196d242fd84c5345fd562fe658a82673f5c4fd2e500b115ca2b6d6a44545811f", api.OK)
	issues(t, "k", user("ann", "dev", "ops"), 1<<40, "ann.dev,ops.1099511627776."+"bd62423a2c5378d4033a6ba6d5379533c7b59019323bff739063411892c067df", api.OK)
	issues(t, strings.Repeat("k", 64), user("0", "a-b"), 0, "0.a-b.0."+"1cb5ee67873938cfc9904363c076dd90c4141cba63f1dedd2194be721540a59d", api.OK)
}

// P30, P31: what is told by Issue is its form, and Check answers the user up to its time, by its key alone.
func TestThereAndBack(t *testing.T) {
	for _, key := range keys() {
		for _, u := range people() {
			for _, until := range []int{0, 1, 9, 10, 99, 100, 1000000007, mostTime - 1, mostTime} {
				text := signed(key, said(u, until))
				issues(t, key, u, until, text, api.OK)
				tells(t, key, text, until, u)
				tells(t, key, text, 0, u)
				if until > 0 {
					tells(t, key, text, until-1, u)
				}
				if until < mostTime {
					fails(t, key, text, until+1, api.ErrLate)
					fails(t, key, text, mostTime, api.ErrLate)
				}
				for _, other := range keys() {
					if other != key {
						fails(t, other, text, 0, api.ErrSum)
						fails(t, other, text, mostTime, api.ErrSum)
					}
				}
			}
		}
	}
}

// P30: the key first, then the user, then the time.
func TestIssueErrors(t *testing.T) {
	for _, key := range noKeys() {
		issues(t, key, user("ann"), 9, "", api.ErrArg)
		issues(t, key, user("-"), 9, "", api.ErrArg)
		issues(t, key, user("ann", groups(7)...), -1, "", api.ErrArg)
		issues(t, key, user("ann", "a", "a"), mostTime+1, "", api.ErrArg)
	}
	for _, key := range keys() {
		for _, until := range append(noTimes(), 0, 9, mostTime) {
			for _, w := range mistakes() {
				issues(t, key, user(w.s), until, "", w.e)
				issues(t, key, user("ann", "dev", w.s), until, "", w.e)
			}
			issues(t, key, user("ann", groups(7)...), until, "", api.ErrLarge)
			issues(t, key, user("ann", "a", "a"), until, "", api.ErrTwice)
		}
		for _, until := range noTimes() {
			for _, u := range people() {
				issues(t, key, u, until, "", api.ErrArg)
			}
		}
	}
}

// P31: the key and the time, ahead of whatever token it is.
func TestCheckArguments(t *testing.T) {
	good := signed("k", "ann..9.")
	for _, text := range []string{good, good[1:], signed("l", "ann..9."), signed("k", "ann..09."), signed("k", "ann..0."), "", "..."} {
		for _, key := range noKeys() {
			fails(t, key, text, 9, api.ErrArg)
			fails(t, key, text, -1, api.ErrArg)
		}
		for _, now := range noTimes() {
			fails(t, "k", text, now, api.ErrArg)
			fails(t, "l", text, now, api.ErrArg)
		}
	}
	// A token that was made with a key that is none is of no use, though its signs fit.
	for _, key := range noKeys() {
		fails(t, key, signed(key, "ann..9."), 9, api.ErrArg)
	}
}

// P31: what has not the form of a token, whatever its signs are, and whatever is wrong with what it says.
func TestNoTokens(t *testing.T) {
	hex64 := strings.Repeat("0123456789abcdef", 4)
	for _, text := range []string{
		"", ".", "..", "...", "....", "ann", "ann..9", "ann..9.", "ann.9." + hex64, "ann..9" + hex64, "ann,9," + hex64,
		hex64, "." + hex64, ".." + hex64, "...." + hex64, "ann..9.." + hex64, ".ann..9." + hex64, "ann..9." + hex64 + ".",
		"ann..9." + hex64[1:], "ann..9." + hex64 + "0", "ann..9." + hex64 + hex64, "ann..9." + hex64[:62], "ann..9." + hex64[:32],
		"ann..9." + strings.ToUpper(hex64), "ann..9." + hex64[:63] + "g", "ann..9." + "g" + hex64[1:], "ann..9." + hex64[:63] + "F",
		"ann..9." + hex64[:63] + " ", "ann..9." + hex64[:63] + "\n", "ann..9. " + hex64[1:], "ann..9.-" + hex64[1:], "ann..9." + hex64[:62] + "é",
		"ann..9." + hex64 + "\n", " ann..9." + hex64[:63] + "/", "ann..9." + hex64[:63] + ":", "ann..9." + hex64[:63] + "`", "ann..9." + hex64[:63] + "\x00",
		strings.Repeat(".", 1000), strings.Repeat(".", 1000) + hex64, strings.Repeat("a.", 4) + hex64,
	} {
		fails(t, "k", text, 9, api.ErrForm)
		fails(t, "k", text, 10, api.ErrForm)
	}
	// The signs fit, but there are too few or too many parts.
	for _, said := range []string{"", ".", "..", "ann.", "ann..", "ann.9.", "ann", "ann..9", "ann..9..", ".ann..9.", "ann.a.b.9.", "....", "ann..9.9."} {
		fails(t, "k", signed("k", said), 9, api.ErrForm)
	}
	// The signs fit, but are told otherwise.
	good := signed("k", "ann..9.")
	fails(t, "k", good[:7]+strings.ToUpper(good[7:]), 9, api.ErrForm)
	fails(t, "k", good+" ", 9, api.ErrForm)
	fails(t, "k", good[:len(good)-1], 9, api.ErrForm)
	tells(t, "k", good, 9, user("ann"))
}

// P31: signs that do not fit, ahead of what is wrong with what is said, and of its time.
func TestSums(t *testing.T) {
	noughts := strings.Repeat("0", 64)
	for _, said := range []string{"ann..9.", "...", "ann.a,a.9.", "ann..09.", "ann..-1.", "A..9.", "ann..0.", "ann..1099511627777.", "\xff.\x00. .", "ann." + strings.Repeat(",", 1000) + ".9."} {
		fails(t, "k", said+noughts, 9, api.ErrSum)
		fails(t, "k", signed("l", said), 9, api.ErrSum)
		fails(t, "k", said+signs("k", said+" "), 9, api.ErrSum)
		fails(t, "k", said+signs("k", said[:len(said)-1]), 9, api.ErrSum)
		fails(t, "k", said+signs("k", "bob..9."), 9, api.ErrSum)
		fails(t, "k", said+signs("", said), 9, api.ErrSum)
		fails(t, "k", said+signs(said, "k"), 9, api.ErrSum)
		// Check sums that are no Mac.
		fails(t, "k", said+seal.Hex(seal.Sum(said)), 9, api.ErrSum)
		fails(t, "k", said+seal.Hex(seal.Sum("k"+said)), 9, api.ErrSum)
		// Each sign is of weight.
		text := signed("k", said)
		for i := len(said); i < len(text); i++ {
			other := "0"
			if text[i] == '0' {
				other = "f"
			}
			fails(t, "k", text[:i]+other+text[i+1:], 9, api.ErrSum)
		}
	}
}

// P31: what Issue would not tell, with signs that fit, ahead of its time.
func TestNeverTold(t *testing.T) {
	var l []string
	for _, w := range mistakes() {
		if strings.ContainsAny(w.s, ".,") {
			continue
		}
		l = append(l, w.s+"..9.", w.s+".dev.9.", "ann.dev,"+w.s+".9.", "ann."+w.s+",dev.9.")
		// No name at all is no group.
		if w.s != "" {
			l = append(l, "ann."+w.s+".9.")
		}
	}
	for _, list := range []string{",", ",,", "a,", ",a", "a,,b", "a,a", "a,b,a", "a, b", "a ", "a;b", "1,2,3,4,5,6,7", "1,2,3,4,5,6,", "1,2,3,4,5,6,6", strings.Repeat("a,", 1000) + "a"} {
		l = append(l, "ann."+list+".9.")
	}
	for _, until := range []string{"", "09", "00", "009", "+9", "+0", "-0", "-1", "-9", " 9", "9 ", "9,", "9a", "a", "0x9", "0b1", "0o7", "1_0", "1e1", "9\n", "\x00", "٩", "1099511627777", "1099511627780", "2000000000000", "9223372036854775807", "9223372036854775808", "18446744073709551616", "18446744073709551625", "-18446744073709551607", strings.Repeat("0", 100) + "9", strings.Repeat("9", 1000)} {
		l = append(l, "ann.."+until+".", "ann.dev,ops."+until+".")
	}
	for _, said := range append(l, "...", "-.,.0.", "ann,dev..9.", "9..ann.", ".ann.9.") {
		for _, now := range []int{0, 9, 10, mostTime} {
			fails(t, "k", signed("k", said), now, api.ErrForm)
			fails(t, "l", signed("k", said), now, api.ErrSum)
		}
	}
}

// P31: the time is looked at last: up to it all is well.
func TestLate(t *testing.T) {
	for _, until := range []int{0, 1, 9, 4294967295, 4294967296, mostTime - 1} {
		text := signed("k", "ann.dev."+strconv.Itoa(until)+".")
		tells(t, "k", text, until, user("ann", "dev"))
		fails(t, "k", text, until+1, api.ErrLate)
		fails(t, "k", text, mostTime, api.ErrLate)
		fails(t, "k", text, mostTime+1, api.ErrArg)
		fails(t, "l", text, until+1, api.ErrSum)
		fails(t, "k", text+"0", until+1, api.ErrForm)
	}
	tells(t, "k", signed("k", "ann..1099511627776."), mostTime, user("ann"))
}

// P1: what is far too long, made of anything, is answered too.
func TestGreatTexts(t *testing.T) {
	for _, c := range []string{",", "a", "9", "0", "-", "\xff", "a,"} {
		s := strings.Repeat(c, 1000000)
		for _, said := range []string{s + "..9.", "ann." + s + ".9.", "ann.." + s + "."} {
			fails(t, "k", said+s, 9, api.ErrForm)
			fails(t, "k", signed("l", said), 9, api.ErrSum)
			fails(t, "k", signed("k", said), 9, api.ErrForm)
		}
		fails(t, s, signed("k", "ann..9."), 9, api.ErrArg)
		issues(t, s, user("ann"), 9, "", api.ErrArg)
	}
}
