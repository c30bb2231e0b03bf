package wire

import (
	"strings"

	"inquest/api"
	"inquest/chunk"
	"inquest/text"
)

const (
	bearer  = "Bearer "
	between = ": " // a further line's name and its value
	maxName = 32   // bytes of a further line's name
)

// framing is what says where the body ends.
type framing int

const (
	byNothing framing = iota
	byLength
	byChunks
)

// head is what a request has ahead of its body.
type head struct {
	size       int    // bytes that came
	line       []byte // those of the line that did not end yet, without its CR
	behindCR   bool
	asked      api.Request // what the lines that ended say; the method is empty till the first one did
	further    int         // further lines that ended
	authorized bool        // beside the token, which may be empty
	framing    framing
	length     int
}

// take takes a byte of a head, and tells whether it was the last one.
func (h *head) take(b byte) (bool, api.Errno) {
	if h.size == api.MaxHead {
		return false, api.ErrBig
	}
	h.size++
	if (b == lf) != h.behindCR {
		return false, api.ErrForm
	}
	switch {
	case b == lf:
		line := string(h.line)
		h.line, h.behindCR = h.line[:0], false
		return h.endLine(line)
	case b == cr:
		h.behindCR = true
	case b >= 32 && b <= 126:
		h.line = append(h.line, b)
	default:
		return false, api.ErrForm
	}
	return false, api.OK
}

// endLine takes a line to its LF, and tells whether it ends the head.
func (h *head) endLine(line string) (bool, api.Errno) {
	if h.asked.Method == "" {
		return false, h.readFirst(line)
	}
	if line == "" {
		return true, api.OK
	}
	if h.further == api.MaxHeads {
		return false, api.ErrBig
	}
	h.further++
	return false, h.readFurther(line)
}

// readFirst reads the first line.
func (h *head) readFirst(line string) api.Errno {
	parts, _ := text.Fields(line, blank[0], 3)
	if len(parts) != 3 || !isMethod(parts[0]) || !isTarget(parts[1]) || parts[2] != protocol {
		return api.ErrForm
	}
	h.asked.Method, h.asked.Target = parts[0], parts[1]
	return api.OK
}

func isMethod(s string) bool { return s == "GET" || s == "PUT" || s == "POST" }

func isTarget(s string) bool {
	if len(s) > api.MaxTarget || !strings.HasPrefix(s, "/") {
		return false
	}
	for i := range len(s) {
		if !isSmall(s[i]) && !isDigit(s[i]) && s[i] != '-' && s[i] != '/' {
			return false
		}
	}
	return true
}

// readFurther reads a further line.
func (h *head) readFurther(line string) api.Errno {
	name, value, ok := strings.Cut(line, between)
	if !ok || !isName(name) {
		return api.ErrForm
	}
	switch strings.ToLower(name) {
	case "authorization":
		return h.authorize(value)
	case "content-length":
		return h.measure(value)
	case "transfer-encoding":
		return h.part(value)
	}
	return api.OK
}

func isName(s string) bool {
	if len(s) < 1 || len(s) > maxName {
		return false
	}
	for i := range len(s) {
		if !isSmall(s[i]) && !isLarge(s[i]) && s[i] != '-' {
			return false
		}
	}
	return true
}

// authorize takes what authorization says.
func (h *head) authorize(value string) api.Errno {
	token, ok := strings.CutPrefix(value, bearer)
	if !ok || h.authorized {
		return api.ErrForm
	}
	h.authorized, h.asked.Token = true, token
	return api.OK
}

// measure takes what content-length says.
func (h *head) measure(value string) api.Errno {
	n, ok := text.ReadDec(value)
	if !ok || h.framing != byNothing {
		return api.ErrForm
	}
	if n > api.MaxBody {
		return api.ErrBig
	}
	h.framing, h.length = byLength, n
	return api.OK
}

// part takes what transfer-encoding says.
func (h *head) part(value string) api.Errno {
	if value != "chunked" || h.framing != byNothing {
		return api.ErrForm
	}
	h.framing = byChunks
	return api.OK
}

// hasBody tells whether bytes of a body come behind the head: of a body in chunks some do, even if it says nothing.
func (h *head) hasBody() bool { return h.framing == byChunks || h.length > 0 }

// begunBody answers the body of the head, to which nothing came.
func (h *head) begunBody() body {
	if h.framing != byChunks {
		return body{left: h.length}
	}
	chunks, _ := chunk.New(api.MaxBody) // a bound that New takes
	return body{chunks: chunks}
}

func isSmall(c byte) bool { return 'a' <= c && c <= 'z' }

func isLarge(c byte) bool { return 'A' <= c && c <= 'Z' }

func isDigit(c byte) bool { return '0' <= c && c <= '9' }
