package wire_test

import (
	"strings"
	"testing"

	"inquest/api"
	"inquest/wire"
)

// P13.1: first lines that are such, and what they ask.
func TestFirstLinesGood(t *testing.T) {
	for _, method := range []string{"GET", "PUT", "POST"} {
		for _, target := range []string{
			"/", "/a", "//", "/-", "/0", "/9", "/z", "/" + small + nums + "-/", "/usage", "/jobs/a/b", "/a/", "///", "/--",
			"/" + strings.Repeat("a", 62), "/" + strings.Repeat("a", 63), strings.Repeat("/", 63), strings.Repeat("/", 64), "/" + strings.Repeat("-", 63),
		} {
			line := method + " " + target + " HTTP/1.1"
			atEnd(t, "", line, api.OK)
			judged(t, line+"\r\n\r\n", told{asked{method, target, "", ""}, len(line) + 4, api.OK})
		}
	}
}

// P13.1: first lines that are none, each an error at its LF.
func TestFirstLinesBad(t *testing.T) {
	for _, line := range []string{
		"", " ", "  ", "   ", "a", "GET", "GET ", "GET /", "GET / ", "GET  ", "GET  HTTP/1.1", "GET HTTP/1.1",
		"get /a HTTP/1.1", "Get /a HTTP/1.1", "GEt /a HTTP/1.1", "gET /a HTTP/1.1", "put /a HTTP/1.1", "Put /a HTTP/1.1", "post /a HTTP/1.1", "Post /a HTTP/1.1", "POSt /a HTTP/1.1",
		"HEAD /a HTTP/1.1", "DELETE /a HTTP/1.1", "PATCH /a HTTP/1.1", "OPTIONS /a HTTP/1.1", "CONNECT /a HTTP/1.1", "TRACE /a HTTP/1.1",
		"G /a HTTP/1.1", "GE /a HTTP/1.1", "ET /a HTTP/1.1", "GETT /a HTTP/1.1", "XGET /a HTTP/1.1", "PU /a HTTP/1.1", "PUTS /a HTTP/1.1", "POS /a HTTP/1.1", "POT /a HTTP/1.1", "POSTS /a HTTP/1.1", "GETPUT /a HTTP/1.1",
		" /a HTTP/1.1", "/a HTTP/1.1", "- /a HTTP/1.1",
		"GET a HTTP/1.1", "GET a/ HTTP/1.1", "GET -/a HTTP/1.1", "GET 0 HTTP/1.1", "GET - HTTP/1.1", "GET * HTTP/1.1", "GET http://a/ HTTP/1.1",
		"GET /A HTTP/1.1", "GET /a?b HTTP/1.1", "GET /a.b HTTP/1.1", "GET /a_b HTTP/1.1", "GET /%20 HTTP/1.1", "GET /a#b HTTP/1.1", "GET /a: HTTP/1.1",
		" GET /a HTTP/1.1", "GET  /a HTTP/1.1", "GET /a  HTTP/1.1", "GET /a HTTP/1.1 ", "GET /a b HTTP/1.1", "GET / a HTTP/1.1", "GET /a HTTP/1.1 a", "GET /a HTTP/1.1 HTTP/1.1", "  GET /a HTTP/1.1",
		"GET/a HTTP/1.1", "GET /aHTTP/1.1", "GET/aHTTP/1.1", "GET/a  HTTP/1.1", "GET /a HTTP /1.1",
		"GET /a HTTP/1.0", "GET /a HTTP/1.2", "GET /a HTTP/2.1", "GET /a HTTP/0.1", "GET /a HTTP/2", "GET /a HTTP/1", "GET /a HTTP/1.", "GET /a HTTP/1.11", "GET /a HTTP/11", "GET /a HTTP/1,1", "GET /a HTTP1.1", "GET /a TTP/1.1", "GET /a XHTTP/1.1",
		"GET /a http/1.1", "GET /a Http/1.1", "GET /a HTTp/1.1", "GET /a hTTP/1.1", "GET /a HTTPS/1.1",
		"GET /" + strings.Repeat("a", 64) + " HTTP/1.1", "GET " + strings.Repeat("/", 65) + " HTTP/1.1", "GET /" + strings.Repeat("a", 65) + " HTTP/1.1", "GET /" + strings.Repeat("a", 128) + " HTTP/1.1", "GET /" + strings.Repeat("a", 900) + " HTTP/1.1",
		"Host: a", "Content-Length: 2", "Content-Length: 2049", "HTTP/1.1 200 OK",
	} {
		atEnd(t, "", line, api.ErrForm)
	}
}

// P13.1: each byte that a line may have, at the second and at the last place of a target, and as the first byte of one.
func TestTargetBytes(t *testing.T) {
	const may = small + nums + "-/"
	for c := byte(32); c <= 126; c++ {
		want, b := api.ErrForm, string(rune(c))
		if strings.Contains(may, b) {
			want = api.OK
		}
		for _, target := range []string{"/" + b, "/" + b + "a", "/a" + b, "/" + b + b, "/" + strings.Repeat("a", 62) + b, "/" + b + strings.Repeat("a", 62)} {
			atEnd(t, "", "GET "+target+" HTTP/1.1", want)
		}
		want = api.ErrForm
		if c == '/' {
			want = api.OK
		}
		atEnd(t, "", "PUT "+b+"a HTTP/1.1", want)
		atEnd(t, "", "POST "+b+" HTTP/1.1", want)
	}
}

// P13.1: further lines that are such, and say nothing.
func TestFurtherLinesGood(t *testing.T) {
	all := strings.Repeat(" ", 3) + strings.Repeat("~", 3)
	for _, line := range []string{
		"a: ", "Z: ", "-: ", "--: ", "a-: ", "-a: ", "A-b-C: d", "a:  ", "a:   ", "a: :", "a: : ", "a:  b", "a: b ", "a: \x20", "a: \x7e", "a: " + all,
		"Host: h", "Accept: */*", "a: b: c", "a: Content-Length: 2049",
		strings.Repeat("a", 31) + ": b", strings.Repeat("a", 32) + ": b", strings.Repeat("Z", 32) + ": ", strings.Repeat("-", 32) + ": ",
		"X-Authorization: b", "Authorization-: b", "Authorizatio: b", "uthorization: b", "-authorization: b", "Authorisation: b", "Authorizations: b",
		"Content-Lengt: b", "Content-Lengths: b", "ContentLength: b", "Content--Length: b", "-Content-Length: 2049", "X-Content-Length: 02", "Content: 2", "Length: 2", "Content-Length-: 2", "ontent-Length: b",
		"TransferEncoding: b", "Transfer-Encodings: b", "Transfer--Encoding: b", "Transfer: b", "Encoding: b", "TE: b", "-transfer-encoding: b", "transfer-encodin: b", "Transfer-Coding: chunked",
	} {
		atEnd(t, first, line, api.OK)
		judged(t, first+line+"\r\n\r\n", told{asked{"GET", "/a", "", ""}, len(first) + len(line) + 4, api.OK})
		judged(t, first+line+"\r\n"+line+"\r\n\r\n", told{asked{"GET", "/a", "", ""}, len(first) + 2*len(line) + 6, api.OK})
	}
}

// P13.1: further lines that are none, each an error at its LF, whatever stands ahead.
func TestFurtherLinesBad(t *testing.T) {
	for _, line := range []string{
		" ", "  ", ":", ": ", ":  ", " :", " : ", ": b", ":b", ": :", ": a: b", ":a: b", "::", ":: ", "-", "a", "a ", "a b", "a:", "a:b", "a:b ", "a:b c", "a:b: c", "a :", "a : b", " a: b", "a b: c", "a,b: c",
		"abc", "Host", "Host:", "Host:h", "Host :h", "Host=h", "Host h",
		strings.Repeat("a", 33) + ": b", strings.Repeat("a", 34) + ": b", strings.Repeat("Z", 33) + ": ", strings.Repeat("-", 33) + ": ", strings.Repeat("a", 32), strings.Repeat("a", 33), strings.Repeat("a", 64) + ": b", strings.Repeat("a", 900) + ": b",
		strings.Repeat("a", 32) + ":b", "a" + strings.Repeat(" ", 32) + ": b",
		"Content-Length", "Content-Length:", "Content-Length:2", "Content-Length :2", "Content-Length : 2", "Content-Length 2", " Content-Length: 2", "Content Length: 2", "Content_Length: 2",
		"Authorization", "Authorization:", "Authorization:Bearer t", "Authorization : Bearer t", " Authorization: Bearer t",
		"Transfer-Encoding", "Transfer-Encoding:", "Transfer-Encoding:chunked", "Transfer-Encoding : chunked", " Transfer-Encoding: chunked",
		first[:len(first)-2],
	} {
		for _, ahead := range []string{first, first + "a: b\r\n", first + "Authorization: Bearer t\r\nContent-Length: 2\r\n"} {
			atEnd(t, ahead, line, api.ErrForm)
		}
	}
}

// P13.1: each byte that a line may have, at each place of a name, and behind the colon.
func TestNameBytes(t *testing.T) {
	const may = small + large + "-"
	for c := byte(32); c <= 126; c++ {
		want, b := api.ErrForm, string(rune(c))
		if strings.Contains(may, b) {
			want = api.OK
		}
		for _, name := range []string{b, b + "a", "a" + b, "a" + b + "a", b + b, b + strings.Repeat("a", 31), strings.Repeat("a", 31) + b, strings.Repeat("a", 15) + b + strings.Repeat("a", 16)} {
			// With a colon among its bytes a name ends there, and what must stand behind is a blank.
			atEnd(t, first, name+": b", want)
			atEnd(t, first, name+": ", want)
		}
		want = api.ErrForm
		if c == ' ' {
			want = api.OK
		}
		atEnd(t, first, "a:"+b, want)
		atEnd(t, first, "a:"+b+" ", want)
		atEnd(t, first, "a:"+b+"b", want)
		atEnd(t, first, "a: "+b, api.OK)
		atEnd(t, first, "a: a"+b, api.OK)
		atEnd(t, first, "a: "+b+"a", api.OK)
	}
}

// P13.1: the three names in letters of any size.
func TestThreeNamesAnySize(t *testing.T) {
	for _, name := range cases("authorization") {
		line := name + ": Bearer t"
		judged(t, first+line+"\r\n\r\n", told{asked{"GET", "/a", "t", ""}, len(first) + len(line) + 4, api.OK})
		atEnd(t, first, name+": t", api.ErrForm)
	}
	for _, name := range cases("content-length") {
		line := name + ": 2"
		judged(t, first+line+"\r\n\r\nhihi", told{asked{"GET", "/a", "", "hi"}, len(first) + len(line) + 6, api.OK})
		atEnd(t, first, name+": 02", api.ErrForm)
		atEnd(t, first, name+": 2049", api.ErrBig)
	}
	for _, name := range cases("transfer-encoding") {
		line := name + ": chunked"
		judged(t, first+line+"\r\n\r\n2\r\nhi\r\n0\r\n\r\n", told{asked{"GET", "/a", "", "hi"}, len(first) + len(line) + 16, api.OK})
		atEnd(t, first, name+": gzip", api.ErrForm)
	}
}

// P13.1: each of the three names twice, and both of the last two in either order: an error at the second one's LF, wherever it stands.
func TestThreeNamesOnce(t *testing.T) {
	tokens := []string{"Authorization: Bearer t", "authorization: Bearer ", "AUTHORIZATION: Bearer u"}
	bodies := []string{"Content-Length: 2", "content-length: 0", "CONTENT-LENGTH: 2048", "Transfer-Encoding: chunked", "transfer-encoding: chunked"}
	for _, l := range [][]string{tokens, bodies} {
		for _, one := range l {
			for _, other := range l {
				for _, mid := range []string{"", "a: b\r\n", strings.Repeat("a: \r\n", 14)} {
					atEnd(t, first+one+"\r\n"+mid, other, api.ErrForm)
					atEnd(t, first+"c: d\r\n"+one+"\r\n"+mid, other, lastOf(mid))
				}
			}
		}
	}
	for _, one := range tokens {
		for _, other := range bodies {
			atEnd(t, first+one+"\r\n", other, api.OK)
			atEnd(t, first+other+"\r\n", one, api.OK)
			atEnd(t, first+one+"\r\n"+other+"\r\n", one, api.ErrForm)
			atEnd(t, first+one+"\r\n"+other+"\r\n", other, api.ErrForm)
		}
	}
	// ErrForm ahead of ErrBig, where a line says both that it is too long and what can't be.
	for _, one := range bodies {
		atEnd(t, first+one+"\r\n", "Content-Length: 2049", api.ErrForm)
	}
}

// lastOf answers the error of a bad line that has two further lines ahead, and those of mid: with 14 it is the 17th one.
func lastOf(mid string) api.Errno {
	if strings.Count(mid, "\n") == 14 {
		return api.ErrBig
	}
	return api.ErrForm
}

// P13.1: what authorization may say.
func TestAuthorization(t *testing.T) {
	tokens := []string{"", "t", " ", "  ", " t", "t ", "a b", "Bearer", "Bearer ", "Bearer t", "~", ":", ": ", "a.1.00ff", "content-length: 2", strings.Repeat("t", 900)}
	for c := byte(32); c <= 126; c++ {
		tokens = append(tokens, string(rune(c)), "a"+string(rune(c)), string(rune(c))+"a")
	}
	for _, token := range tokens {
		line := "Authorization: Bearer " + token
		atEnd(t, first, line, api.OK)
		judged(t, first+line+"\r\n\r\n", told{asked{"GET", "/a", token, ""}, len(first) + len(line) + 4, api.OK})
	}
	for _, value := range []string{"", " ", "t", "B", "Bearer", "bearer t", "bearer ", "BEARER t", "BEARER ", "bEARER t", "Beare t", "Bearert", "Bearer:t", "Bearer-t", "Bearer.t", "earer t", " Bearer t", "  Bearer t", " Bearer ", "Basic t", "Bearers t", "XBearer t", "t Bearer t"} {
		atEnd(t, first, "Authorization: "+value, api.ErrForm)
		atEnd(t, first, "authorization: "+value, api.ErrForm)
	}
}

// P13.1: what content-length may say.
func TestContentLength(t *testing.T) {
	for n := range longBody + 1 {
		s := dec(n)
		atEnd(t, first, "Content-Length: "+s, api.OK)
		if n > 0 {
			atEnd(t, first, "Content-Length: 0"+s, api.ErrForm)
		}
	}
	for _, value := range []string{
		"2049", "2050", "2058", "2100", "3000", "9999", "10000", "20480", "65536", "65538", "2147483647", "2147483648", "4294967295", "4294967296", "4294967298", "9223372036854775806", "9223372036854775807",
	} {
		atEnd(t, first, "Content-Length: "+value, api.ErrBig)
		atEnd(t, first+"Authorization: Bearer t\r\n", "content-length: "+value, api.ErrBig)
	}
	for _, value := range []string{
		"", " ", "-", "+", "-1", "-0", "+0", "+1", "+2", "-2049", "+2049", "00", "01", "02", "002", "02049", "00000", "2 ", " 2", " ", "2 2", "2,2", "2, 2", "2.", "2.0", ".2", "2e1", "1_0", "0x2", "0b1", "a", "2a", "a2", "ff", "two", "\"2\"", "chunked", "~",
		"9223372036854775808", "9223372036854775809", "18446744073709551615", "18446744073709551616", "18446744073709551618", "99999999999999999999", strings.Repeat("9", 100), "1" + strings.Repeat("0", 900), "02048", strings.Repeat("0", 900),
	} {
		atEnd(t, first, "Content-Length: "+value, api.ErrForm)
		atEnd(t, first+"Authorization: Bearer t\r\n", "content-length: "+value, api.ErrForm)
	}
	for c := byte(32); c <= 126; c++ {
		want := api.ErrForm
		if strings.Contains(nums, string(rune(c))) {
			want = api.OK
		}
		atEnd(t, first, "Content-Length: "+string(rune(c)), want)
		atEnd(t, first, "Content-Length: 1"+string(rune(c)), want)
	}
}

// P13.1: what transfer-encoding may say.
func TestTransferEncoding(t *testing.T) {
	atEnd(t, first, "Transfer-Encoding: chunked", api.OK)
	for _, value := range []string{"", " ", "c", "chunke", "hunked", "Chunked", "CHUNKED", "chunkeD", "cHunked", " chunked", "chunked ", "  chunked", "chunked,", "chunked, chunked", "gzip", "gzip, chunked", "chunked, gzip", "identity", "chunkedd", "0", "2", "chunked;a=b", "\"chunked\""} {
		atEnd(t, first, "Transfer-Encoding: "+value, api.ErrForm)
		atEnd(t, first, "transfer-encoding: "+value, api.ErrForm)
	}
}

// P13.1: heads of as many bytes as there may be, and of one less and one more, of all kinds of bytes at the bound.
func TestHeadBytes(t *testing.T) {
	const fore = first + "a: "
	for n := longHead - 10; n <= longHead; n++ {
		head := fore + strings.Repeat("x", n-len(fore)-4) + "\r\n\r\n"
		judged(t, head, told{asked{"GET", "/a", "", ""}, n, api.OK})
	}
	for over := 1; over <= 5; over++ {
		// The head's bytes go on up to the 1024th one: the next one is too much, whatever it is.
		head := (fore + strings.Repeat("x", longHead+over-len(fore)-4) + "\r\n\r\n")[:longHead]
		for b := range 256 {
			r := fed(t, head)
			put(t, r, byte(b), false, api.ErrBig)
			put(t, r, byte(b), false, api.ErrState)
			if got := read(head + string([]byte{byte(b)})); got != refused(api.ErrBig) {
				t.Fatalf("%#x behind %d bytes of a head: error %d", b, longHead, got.e)
			}
		}
		judged(t, head, refused(api.ErrShort))
	}
	// A line that is none is told at its LF, if that is the 1024th byte, and no more behind it.
	bad := first + strings.Repeat("x", longHead-len(first)-2) + "\r\n"
	judged(t, bad, refused(api.ErrForm))
	judged(t, first+"x"+bad[len(first):], refused(api.ErrBig))
	judged(t, bad[:longHead-2]+"\x00", refused(api.ErrForm))
	judged(t, bad[:longHead-1]+"\x00", refused(api.ErrForm))
	judged(t, strings.Repeat("x", longHead), refused(api.ErrShort))
	judged(t, strings.Repeat("x", longHead-1)+"\n", refused(api.ErrForm))
	judged(t, strings.Repeat("x", longHead)+"\x00", refused(api.ErrBig))
	judged(t, strings.Repeat("x", longHead)+"\n", refused(api.ErrBig))
	judged(t, strings.Repeat("x", longHead-1)+"\r\n", refused(api.ErrBig))
	judged(t, strings.Repeat("x", longHead-2)+"\r\n", refused(api.ErrForm))
}

// P13.1: as a head's bytes are counted, so are not those of a body.
func TestHeadBytesNotBody(t *testing.T) {
	for _, n := range []int{1, 2, 100, longBody} {
		for _, over := range []int{0, 1} {
			line := "Content-Length: " + dec(n) + "\r\na: "
			head := first + line + strings.Repeat("x", longHead-len(first)-len(line)-4+over) + "\r\n\r\n"
			want := told{asked{"GET", "/a", "", row(n, n)}, longHead + n, api.OK}
			if over > 0 {
				want = refused(api.ErrBig)
			}
			judged(t, head+row(n, n), want)
		}
	}
}

// P13.1: 15, 16 and 17 further lines: the 17th is the empty one, or too much, whatever it is.
func TestHeadLines(t *testing.T) {
	for n := range manyLines + 1 {
		head := first + strings.Repeat("a: \r\n", n)
		judged(t, head+"\r\n", told{asked{"GET", "/a", "", ""}, len(head) + 2, api.OK})
		for _, line := range []string{"a: b", "b", "a", " ", ":", "a:b", "Content-Length: 2", "Content-Length: 02", "Content-Length: 2049", "Authorization: t", "Authorization: Bearer t", "transfer-encoding: chunked", "transfer-encoding: gzip", strings.Repeat("a", 33) + ": "} {
			want := api.ErrBig
			if n < manyLines {
				_, want = next(first+line+"\r", '\n')
			}
			atEnd(t, head, line, want)
		}
		if n == manyLines {
			// A byte that stands where it may not is told at once, ahead of the line.
			for _, s := range []string{"\n", "a\n", "a\x00", "\r\r", "a: b\r\r", "a: b\rx"} {
				judged(t, head+s, refused(api.ErrForm))
			}
			judged(t, head+"a: b\r", refused(api.ErrShort))
		}
	}
	// Lines that say something are counted as the others are.
	full := first + "Authorization: Bearer t\r\nContent-Length: 1\r\n" + strings.Repeat("a: \r\n", manyLines-2)
	judged(t, full+"\r\nx", told{asked{"GET", "/a", "t", "x"}, len(full) + 3, api.OK})
	atEnd(t, full, "a: ", api.ErrBig)
	atEnd(t, full[:len(full)-5], "Content-Length: 1", api.ErrForm)
	atEnd(t, full, "Content-Length: 1", api.ErrBig)
	atEnd(t, first+strings.Repeat("a: \r\n", manyLines-1), "content-length: 2049", api.ErrBig)
	atEnd(t, first+strings.Repeat("a: \r\n", manyLines-1), "content-length: 02049", api.ErrForm)
}

// P13.1: CR and LF where they may not stand, and what may stand nowhere in a head.
func TestLineEnds(t *testing.T) {
	for _, came := range []string{"", "G", "GET /a HTTP/1.1", first, first + "a", first + "a:", first + "a: ", first + "a: b", first + "a: b\r\n"} {
		put(t, fed(t, came), '\n', false, api.ErrForm)
		for b := range 256 {
			want := api.OK
			if b != '\r' && (b < 32 || b > 126) {
				want = api.ErrForm
			}
			put(t, fed(t, came), byte(b), false, want)
			if b != '\n' {
				put(t, fed(t, came+"\r"), byte(b), false, api.ErrForm)
			}
		}
	}
	for _, s := range []string{"\n", "\r\r", "\r ", "GET /a HTTP/1.1\n", "GET /a HTTP/1.1\r\r", "GET /a\r ", first + "\n", first + "\r\r", first + "\rG", first + "a: b\n", first + "a: \x1f", first + "a: \x7f", first + "a: \x80", first + "a: \t", first + "a: \xff"} {
		r := fed(t, s[:len(s)-1])
		put(t, r, s[len(s)-1], false, api.ErrForm)
		judged(t, s, refused(api.ErrForm))
	}
}

// P13.1: an empty line ahead of the first one is no first line.
func TestEmptyLineFirst(t *testing.T) {
	atEnd(t, "", "", api.ErrForm)
	judged(t, "\r\n"+first+"\r\n", refused(api.ErrForm))
	r := wire.New()
	goesOn(t, r, "\r")
	put(t, r, '\n', false, api.ErrForm)
	put(t, r, 'G', false, api.ErrState)
}
