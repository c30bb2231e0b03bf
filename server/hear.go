package server

import (
	"slices"

	"inquest/api"
	"inquest/route"
	"inquest/token"
	"inquest/wire"
)

// The statuses that are told.
const (
	toldDone   = 200
	toldWrong  = 400
	toldNobody = 401
	toldOther  = 403
	toldBig    = 413
)

// Hear takes bytes on a connection, and answers.
func (s *Server) Hear(conn int, b []byte) []byte {
	if !s.isConn(conn) {
		return nil
	}
	var all []byte
	for _, x := range b {
		all = append(all, s.hear(conn, x)...)
	}
	return all
}

// Shut makes a connection a new one.
func (s *Server) Shut(conn int) {
	if s.isConn(conn) {
		s.conns[conn] = wire.New()
	}
}

// isConn tells whether there is such a connection.
func (s *Server) isConn(conn int) bool { return s.isMade() && conn >= 0 && conn < len(s.conns) }

// hear takes one byte on a connection that there is, and answers what is told with it.
func (s *Server) hear(conn int, b byte) []byte {
	r := s.conns[conn]
	if r == nil {
		return nil
	}
	whole, err := r.Put(b)
	if err != api.OK {
		s.conns[conn] = nil
		return answer(refused(statusOf(err)))
	}
	if !whole {
		return nil
	}
	x, _ := r.Take()
	return answer(s.tell(x))
}

// statusOf answers the status that is told of an error of a reader.
func statusOf(err api.Errno) int {
	if err == api.ErrBig {
		return toldBig
	}
	return toldWrong
}

// tell answers what is told of a request.
func (s *Server) tell(x api.Request) api.Told {
	pass, err := token.Open(s.tokenKey(), x.Token, s.now)
	if err != api.OK {
		return refused(toldNobody)
	}
	at := slices.IndexFunc(s.members, named(pass.Name))
	if at < 0 {
		return refused(toldOther)
	}
	a, status := route.Parse(x)
	if status != toldDone {
		return refused(status)
	}
	return s.tenants[at].Do(a, s.now)
}

// refused tells a status alone.
func refused(status int) api.Told { return api.Told{Code: status} }

// answer answers the bytes of what is told: no status is without a reason, and no body too long.
func answer(told api.Told) []byte {
	b, _ := wire.Answer(told.Code, told.Body)
	return b
}
