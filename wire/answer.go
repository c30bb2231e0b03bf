package wire

import (
	"bytes"

	"inquest/api"
	"inquest/text"
)

const (
	lengthName = "Content-Length: "
	digits     = "0123456789"
)

// statuses are the codes that an answer may have, with their reasons.
var statuses = [...]struct {
	code   int
	reason string
}{
	{200, "OK"},
	{400, "Bad Request"},
	{401, "Unauthorized"},
	{403, "Forbidden"},
	{404, "Not Found"},
	{405, "Method Not Allowed"},
	{409, "Conflict"},
	{413, "Content Too Large"},
	{422, "Unprocessable Content"},
	{429, "Too Many Requests"},
	{503, "Service Unavailable"},
	{507, "Insufficient Storage"},
}

// Reason answers a status in words.
func Reason(code int) string {
	for _, s := range statuses {
		if s.code == code {
			return s.reason
		}
	}
	return ""
}

// statusLine answers an answer's first line.
func statusLine(code int, reason string) string {
	return protocol + blank + text.Dec(code) + blank + reason + lineEnd
}

// lengthLine answers the line that says how many bytes a body has.
func lengthLine(n int) string { return lengthName + text.Dec(n) + lineEnd }

// Answer answers an answer's bytes.
func Answer(code int, body []byte) ([]byte, api.Errno) {
	reason := Reason(code)
	if reason == "" {
		return nil, api.ErrArg
	}
	if len(body) > api.MaxReply {
		return nil, api.ErrBig
	}
	lines := statusLine(code, reason) + lengthLine(len(body)) + lineEnd
	return append([]byte(lines), body...), api.OK
}

// ReadAnswer reads the answer with which bytes begin.
func ReadAnswer(b []byte) (int, []byte, int, api.Errno) {
	code, behind, e := readStatus(b)
	if e != api.OK {
		return 0, nil, 0, e
	}
	n, behind, e := readLength(behind)
	if e != api.OK {
		return 0, nil, 0, e
	}
	if len(behind) < n {
		return 0, nil, 0, api.ErrShort
	}
	return code, bytes.Clone(behind[:n]), len(b) - len(behind) + n, api.OK
}

// readStatus reads a first line and the name of the one behind it, and answers the code and what stands behind.
func readStatus(b []byte) (int, []byte, api.Errno) {
	for _, s := range statuses {
		// All codes have three digits, so none of these texts begins another one: the first answer but ErrForm is that of all.
		behind, e := cut(b, statusLine(s.code, s.reason)+lengthName)
		if e != api.ErrForm {
			return s.code, behind, e
		}
	}
	return 0, nil, api.ErrForm
}

// readLength reads a body's length and the ends of two lines, and answers what stands behind, too.
func readLength(b []byte) (int, []byte, api.Errno) {
	if len(b) == 0 {
		return 0, nil, api.ErrShort
	}
	behind := bytes.TrimLeft(b, digits)
	// A length's first digits are themselves one that an answer may have, so those that may go on need no look of their own.
	n, ok := text.ReadDec(string(b[:len(b)-len(behind)]))
	if !ok || n > api.MaxReply {
		return 0, nil, api.ErrForm
	}
	behind, e := cut(behind, lineEnd+lineEnd)
	return n, behind, e
}

// cut answers what stands behind a text; ErrShort, if the bytes are but a beginning of it; ErrForm, if they are something else.
func cut(b []byte, s string) ([]byte, api.Errno) {
	n := min(len(b), len(s))
	if string(b[:n]) != s[:n] {
		return nil, api.ErrForm
	}
	if n < len(s) {
		return nil, api.ErrShort
	}
	return b[n:], api.OK
}
