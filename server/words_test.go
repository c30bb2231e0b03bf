package server_test

import (
	"crypto/hmac"
	"crypto/sha256"
	"fmt"
	"math"
	"math/rand"
	"regexp"
	"strconv"

	"inquest/api"
	"inquest/disk"
	"inquest/route"
	"inquest/tenant"
	"inquest/wire"
)

// What the chapter says of a server, written anew, for the tests to hold the package against.

const (
	mostMembers = 8
	conns       = 16
	mostTime    = 1 << 40
	least       = math.MinInt
	greatest    = math.MaxInt
)

// words is a server by the chapter's words. Its tenants are those of package tenant, on disks of its own.
type words struct {
	key     string
	members []api.Member
	disks   []*disk.Disk
	tenants []*tenant.Tenant // nil: down
	came    [conns]string    // what belongs to no request that was whole
	deaf    [conns]bool
	now     int
	turns   int // since there is power
}

// sum answers a sum by a key.
func sum(key, text string) string {
	h := hmac.New(sha256.New, []byte(key))
	h.Write([]byte(text))
	return string(h.Sum(nil))
}

// signed answers a token, whatever its name and its time are.
func signed(key, name string, expiry int) string {
	claim := fmt.Sprintf("%s.%d", name, expiry)
	return fmt.Sprintf("%s.%x", claim, sum(key, claim))
}

// answered answers an answer's bytes.
func answered(code int, body string) string {
	b, err := wire.Answer(code, []byte(body))
	if err != api.OK {
		panic(fmt.Sprint(code, body, err))
	}
	return string(b)
}

// opens lets the power come on.
func (w *words) opens() {
	w.tenants = nil
	for k, m := range w.members {
		t, err := tenant.Open(w.disks[k], m.Limits, []byte(sum(w.key, "ledger "+m.Name)))
		if err != api.OK {
			t = nil
		}
		w.tenants = append(w.tenants, t)
	}
	w.came, w.deaf, w.turns = [conns]string{}, [conns]bool{}, 0
}

// token answers a token of the server.
func (w *words) token(name string, expiry int) string {
	return signed(sum(w.key, "token"), name, expiry)
}

var (
	goodName  = regexp.MustCompile(`\A[a-z][a-z0-9-]{0,15}\z`)
	goodToken = regexp.MustCompile(`\A([a-z][a-z0-9-]{0,15})\.(0|[1-9][0-9]{0,12})\.[0-9a-f]{64}\z`)
)

// mint answers what Mint has to answer.
func (w *words) mint(name string, expiry int) (string, api.Errno) {
	if !goodName.MatchString(name) || expiry < 0 || expiry > mostTime {
		return "", api.ErrArg
	}
	return w.token(name, expiry), api.OK
}

// who answers whose pass a token is, if it is taken.
func (w *words) who(token string) (string, bool) {
	parts := goodToken.FindStringSubmatch(token)
	if parts == nil {
		return "", false
	}
	expiry, _ := strconv.Atoi(parts[2])
	return parts[1], token == w.token(parts[1], expiry) && expiry <= mostTime && w.now < expiry
}

// place answers where the member of a name is; -1, if there is none.
func (w *words) place(name string) int {
	for k, m := range w.members {
		if m.Name == name {
			return k
		}
	}
	return -1
}

// tell answers what is told of a request.
func (w *words) tell(x api.Request) (int, string) {
	name, ok := w.who(x.Token)
	if !ok {
		return 401, ""
	}
	at := w.place(name)
	if at < 0 {
		return 403, ""
	}
	a, code := route.Parse(x)
	if code != 200 {
		return code, ""
	}
	if w.tenants[at] == nil {
		return 503, ""
	}
	told := w.tenants[at].Do(a, w.now)
	return told.Code, string(told.Body)
}

// hear answers what Hear has to answer.
func (w *words) hear(conn int, s string) string {
	if conn < 0 || conn >= conns || w.deaf[conn] {
		return ""
	}
	all := ""
	w.came[conn] += s
	for {
		x, n, err := wire.Whole([]byte(w.came[conn]))
		if err == api.ErrShort {
			return all
		}
		if err != api.OK {
			w.deaf[conn] = true
			return all + answered(map[bool]int{true: 413, false: 400}[err == api.ErrBig], "")
		}
		w.came[conn] = w.came[conn][n:]
		all += answered(w.tell(x))
	}
}

func (w *words) shut(conn int) {
	if conn >= 0 && conn < conns {
		w.came[conn], w.deaf[conn] = "", false
	}
}

func (w *words) pass(n int) {
	if n > mostTime-w.now {
		n = mostTime - w.now
	}
	if n > 0 {
		w.now += n
	}
}

// pick answers what Pick has to answer.
func (w *words) pick(n int) (int, int, bool) {
	at := w.turns % len(w.members)
	w.turns++
	if w.tenants[at] == nil {
		return at, 0, false
	}
	tries, done := w.tenants[at].Step(n)
	return at, tries, done
}

func (w *words) arm(i, n int) {
	if i >= 0 && i < len(w.members) {
		w.disks[i].Arm(n)
	}
}

func (w *words) crash(keep []bool, n int) {
	for _, d := range w.disks {
		d.Crash(keep)
		if n >= 0 {
			d.Arm(n)
		}
	}
	w.opens()
}

// do answers what Do has to answer.
func (w *words) do(x api.Deed) string {
	switch x.Kind {
	case 1:
		return w.hear(x.Conn, string(x.Bytes))
	case 2:
		w.shut(x.Conn)
	case 3:
		w.pass(x.N)
	case 4:
		w.pick(x.N)
	case 5:
		w.arm(x.Tenant, x.N)
	case 6:
		w.crash(x.Keep, x.N)
	}
	return ""
}

// ask answers a request's bytes.
func ask(method, target, token, body string) string {
	s := method + " " + target + " HTTP/1.1\r\n"
	if token != "" {
		s += "Authorization: Bearer " + token + "\r\n"
	}
	if body != "" {
		s += fmt.Sprintf("Content-Length: %d\r\n", len(body))
	}
	return s + "\r\n" + body
}

// chunked answers the bytes of a request whose body is in chunks of so many bytes.
func chunked(method, target, token, body string, size int) string {
	s := method + " " + target + " HTTP/1.1\r\nauthorization: Bearer " + token + "\r\ntransfer-encoding: chunked\r\n\r\n"
	for body != "" {
		n := min(size, len(body))
		s += fmt.Sprintf("%x\r\n%s\r\n", n, body[:n])
		body = body[n:]
	}
	return s + "0\r\n\r\n"
}

// cut answers a text in pieces of any size, by chance; some may be empty.
func cut(r *rand.Rand, s string) []string {
	var l []string
	for s != "" {
		n := min(len(s), r.Intn(1+r.Intn(1+len(s)))+r.Intn(2))
		l = append(l, s[:n])
		s = s[n:]
	}
	return l
}

// single answers a text in single bytes.
func single(s string) []string {
	var l []string
	for k := range len(s) {
		l = append(l, s[k:k+1])
	}
	return l
}
