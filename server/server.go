// Package server: who serves a tree of files, request by request. See doc/14-serve.md.
package server

import (
	"packthread/api"
	"packthread/nodes"
)

// acts: which act on the tree a request is, by its Kind. An Open and a Shutdown are none.
var acts = [...]int{
	api.ReadAt:  api.Get,
	api.WriteAt: api.Put,
	api.Status:  api.Stat,
	api.Names:   api.List,
	api.NewDir:  api.Mkdir,
	api.Delete:  api.Remove,
	api.Move:    api.Rename,
	api.Symlink: api.Link,
}

// Server: a tree, and what is open of it.
type Server struct {
	tree    *nodes.Tree
	handles handles
}

// New: one who serves a tree of the root alone.
func New() *Server {
	return &Server{tree: nodes.New()}
}

// Do: the reply to one more request.
func (s *Server) Do(r api.Request) api.Reply {
	out := s.serve(r)
	out.Mark = r.Mark
	return out
}

// serve: the reply to a request, without its Mark.
func (s *Server) serve(r api.Request) api.Reply {
	switch r.Kind {
	case api.Open:
		handle, code := s.open(r.Path, r.How)
		return api.Reply{Code: code, Handle: handle}
	case api.Shutdown:
		return api.Reply{Code: s.handles.shut(r.Handle)}
	case api.ReadAt, api.WriteAt:
		return s.work(r)
	case api.Status, api.Names, api.NewDir, api.Delete, api.Move, api.Symlink:
		return s.act(r.Path, r)
	}
	return api.Reply{Code: api.ErrKind}
}

// act: the reply to a request that is an act at this path. The act does not look at what the request's kind does not name.
func (s *Server) act(path string, r api.Request) api.Reply {
	x := s.tree.Do(api.Act{Kind: acts[r.Kind], Path: path, To: r.To, At: r.At, Count: r.Count, Data: r.Data})
	return api.Reply{Code: x.Code, Kind: x.Kind, Size: x.Size, Data: x.Data, Names: x.Names}
}

// work: the reply to a ReadAt or a WriteAt.
func (s *Server) work(r api.Request) api.Reply {
	p, code := s.handles.find(r.Handle)
	if code != api.OK {
		return api.Reply{Code: code}
	}
	needs, fits := api.ForRead, r.Count >= 1 && r.Count <= api.MaxChunk
	if r.Kind == api.WriteAt {
		needs, fits = api.ForWrite, len(r.Data) <= api.MaxChunk
	}
	switch {
	case p.how&needs == 0:
		return api.Reply{Code: api.ErrDenied}
	case !fits:
		return api.Reply{Code: api.ErrSize}
	}
	return s.act(p.path, r) // what stands at the path now may be another file than the one that was opened
}

// open: the number of a new handle.
func (s *Server) open(path string, how int) (int, api.Errno) {
	if !isHow(how) {
		return 0, api.ErrForm
	}
	at, code := s.handles.free()
	if code != api.OK {
		return 0, code
	}
	if code := s.prepare(path, how); code != api.OK {
		return 0, code
	}
	return s.handles.take(at, path, how), api.OK
}

// prepare: there is a file at this path then, as how it is opened asks for.
func (s *Server) prepare(path string, how int) api.Errno {
	x := s.tree.Do(api.Act{Kind: api.Stat, Path: path})
	switch {
	case x.Code == api.ErrNone && how&api.ForNew != 0:
		return s.tree.Do(api.Act{Kind: api.Make, Path: path}).Code // it has no bytes, so there is nothing to cut off
	case x.Code != api.OK:
		return x.Code
	case how&api.ForOnly != 0:
		return api.ErrTwice
	case x.Kind == api.Dir:
		return api.ErrDir
	case how&api.ForEmpty != 0:
		return s.tree.Do(api.Act{Kind: api.Cut, Path: path}).Code
	}
	return api.OK
}

// isHow: whether a file may be opened so.
func isHow(how int) bool {
	switch {
	case how < 0 || how > api.ForAll:
		return false
	case how&(api.ForRead|api.ForWrite) == 0:
		return false
	case how&api.ForOnly != 0 && how&api.ForNew == 0:
		return false
	}
	return how&api.ForEmpty == 0 || how&api.ForWrite != 0
}
