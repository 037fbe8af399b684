package talk_test

import (
	"encoding/binary"
	"slices"
	"strings"
	"testing"

	"packthread/api"
	"packthread/msg"
	"packthread/pipe"
	"packthread/serve"
)

// model: a talk, of which is known which hops both lines had, and which requests were served; it asks the layers below for all of these each time.
type model struct {
	line   api.Line
	hops   [2][]api.Hop
	held   [2][]byte
	served []api.Request
	made   int
	out    []int
}

func (m model) clone() model {
	for i := range 2 {
		m.hops[i], m.held[i] = slices.Clone(m.hops[i]), slices.Clone(m.held[i])
	}
	m.served, m.out = slices.Clone(m.served), slices.Clone(m.out)
	return m
}

// hop: what one more hop comes to.
func (m *model) hop(way int, h api.Hop) api.Passed {
	l := append(slices.Clone(m.hops[way]), h)
	got, _ := pipe.Play(m.line, l)
	x := got[len(l)-1]
	if x.Code == ok {
		m.hops[way] = l
	}
	return x
}

// give: the frame of these bytes.
func (m *model) give(way int, b []byte) {
	f := binary.BigEndian.AppendUint32(nil, uint32(len(b)))
	if x := m.hop(way, api.Hop{Kind: hopGive, Data: append(f, b...)}); x.Code != ok {
		panic("no Give of a talk is refused")
	}
}

// drain: what the frames have that are whole then, and the number of the frame that is put.
func (m *model) drain(way int) (l [][]byte, id int) {
	x := m.hop(way, api.Hop{Kind: hopDrain, Count: widest})
	b := append(m.held[way], x.Data...)
	for len(b) >= 4 {
		n := int(binary.BigEndian.Uint32(b))
		if len(b) < 4+n {
			break
		}
		l, b = append(l, b[4:4+n]), b[4+n:]
	}
	m.held[way] = slices.Clone(b)
	return l, x.Id
}

func (m *model) callOut(r api.Request) api.Talked {
	if len(m.out) == flight {
		return refused(errFull)
	}
	r.Mark = m.made + 1
	b, code := msg.Ask(r)
	if code != ok {
		return refused(code)
	}
	m.give(0, b)
	m.made++
	m.out = append(m.out, m.made)
	return made(m.made)
}

func (m *model) work() api.Talked {
	l, id := m.drain(0)
	for _, b := range l {
		r, code := msg.Asked(b)
		if code != ok {
			panic("each frame is of a request")
		}
		m.served = append(m.served, r)
		all, _ := serve.Play(m.served)
		b, code := msg.Answer(all[len(all)-1])
		if code != ok {
			panic("each reply has bytes")
		}
		m.give(1, b)
	}
	return worked(len(l), id)
}

func (m *model) hear() api.Talked {
	l, id := m.drain(1)
	x := heard(id)
	for _, b := range l {
		r, code := msg.Answered(b)
		at := slices.Index(m.out, r.Mark)
		if code != ok || at < 0 {
			panic("each frame is of a reply to a request that is out")
		}
		m.out = slices.Delete(m.out, at, at+1)
		x.Replies = append(x.Replies, r)
	}
	return x
}

// tell: what one more step comes to.
func (m *model) tell(s api.Step) api.Talked {
	switch s.Kind {
	case kindCallOut:
		return m.callOut(s.Request)
	case kindPass:
		if s.Way != 0 && s.Way != 1 {
			return refused(errRange)
		}
		if !slices.Contains([]int{hopSend, hopHit, hopCarry, hopReturn, hopExpire}, s.Hop.Kind) {
			return refused(errKind)
		}
		x := m.hop(s.Way, s.Hop)
		return api.Talked{Code: x.Code, Put: x.Put, Id: x.Id, Left: x.Left}
	case kindWork:
		return m.work()
	case kindHear:
		return m.hear()
	}
	return refused(errKind)
}

// script: steps, and what the model says of them.
type script struct {
	model
	steps []api.Step
	want  []api.Talked
}

func newScript(c api.Line) *script { return &script{model: model{line: c}} }

// add: what one more step comes to.
func (s *script) add(x api.Step) api.Talked {
	s.steps, s.want = append(s.steps, x), append(s.want, s.tell(x))
	return s.want[len(s.want)-1]
}

// calls: all these requests are made.
func (s *script) calls(t *testing.T, l ...api.Request) {
	t.Helper()
	for _, r := range l {
		if x := s.add(call(r)); x.Code != ok {
			t.Fatalf("%+v: %d", r, x.Code)
		}
	}
}

// clear: all that is to be sent on a way comes, and is heard of.
func (s *script) clear(way int) {
	s.add(expire(way))
	for {
		x := s.add(send(way))
		if !x.Put {
			return
		}
		y := s.add(carry(way, x.Id))
		s.add(bring(way, y.Id))
	}
}

// round: all requests that are out are served and heard of, without anything being lost any more; false: there are too many steps for that.
func (s *script) round() bool {
	for len(s.out) > 0 {
		s.clear(0)
		s.add(bring(0, s.add(work).Id))
		s.clear(1)
		s.add(bring(1, s.add(hear).Id))
		if len(s.steps) > events {
			return false
		}
	}
	return true
}

// replies: all that are told, one by one.
func replies(l []api.Talked) (out []api.Reply) {
	for _, x := range l {
		out = append(out, x.Replies...)
	}
	return out
}

// granted: the requests that were made, with their Marks.
func granted(l []api.Step, told []api.Talked) (out []api.Request) {
	for i, s := range l {
		if s.Kind == kindCallOut && told[i].Code == ok {
			r := s.Request
			r.Mark = told[i].Id
			out = append(out, r)
		}
	}
	return out
}

// isServed: the replies that are told are those of one who serves without any lines, to the first requests, or to all.
func isServed(t *testing.T, l []api.Step, told []api.Talked, all bool) {
	t.Helper()
	requests := granted(l, told)
	for i, r := range requests {
		if r.Mark != i+1 {
			t.Fatalf("%s\nthe request %d has the Mark %d", sketches(l), i, r.Mark)
		}
	}
	want, _ := serve.Play(requests)
	got := replies(told)
	if all && len(got) != len(want) || len(got) > len(want) {
		t.Fatalf("%s\n%d replies to %d requests", sketches(l), len(got), len(want))
	}
	if !slices.EqualFunc(got, want[:len(got)], sameReply) {
		t.Fatalf("%s\n%v, want %v", sketches(l), got, want)
	}
}

// check: the program says what the model says, and what is told is what is served without any lines.
func (s *script) check(t *testing.T, all bool) {
	t.Helper()
	isList(t, s.line, s.steps, s.want)
	isServed(t, s.steps, s.want, all)
}

func TestAllShortLists(t *testing.T) {
	alphabet := []api.Step{
		call(mkdir("/d")), call(list("/")), call(shut(-1)),
		send(0), carry(0, 0), carry(0, 1), bring(0, 1), expire(0), hit(0, 0, 11, 1),
		work, send(1), carry(1, 0), hear,
	}
	starts := [][]api.Step{nil, {call(mkdir("/e")), send(0), carry(0, 0), work}, {call(list("/")), call(mkdir("/e")), send(0), carry(0, 0), work, send(1)}}
	for _, c := range []api.Line{{Room: widest}, {First: 65535, Room: 14}} {
		for _, start := range starts {
			first := newScript(c)
			for _, s := range start {
				first.add(s)
			}
			var walk func(m model, l []api.Step, want []api.Talked, deep int)
			walk = func(m model, l []api.Step, want []api.Talked, deep int) {
				if deep == 4 {
					isList(t, c, l, want)
					return
				}
				for _, s := range alphabet {
					next := m.clone()
					x := next.tell(s)
					walk(next, append(l[:len(l):len(l)], s), append(want[:len(want):len(want)], x), deep+1)
				}
			}
			walk(first.model, first.steps, first.want, 0)
		}
	}
}

// dice: numbers that look as if by chance, the same ones each time.
func dice(seed uint32) func(n int) int {
	return func(n int) int {
		seed = seed*1664525 + 1013904223
		return int(seed>>8) % n
	}
}

// text: n bytes.
func text(n int) string {
	b := make([]byte, n)
	for i := range b {
		b[i] = byte(i*37 + i>>8*11 + 3)
	}
	return string(b)
}

// player: a script that is played by chance.
type player struct {
	*script
	chance func(n int) int
}

func (p player) one(l string) string {
	all := strings.Fields(l)
	return all[p.chance(len(all))]
}

func (p player) path() string {
	if p.chance(30) == 0 {
		return []string{"", "/", "\x00", strings.Repeat("/a", 13), strings.Repeat("/", long), strings.Repeat("/", long+1)}[p.chance(6)]
	}
	return p.one("/a /b /c /d /d/a /d/b /l /l/a")
}

func (p player) handle() int { return []int{0, 0, 0, 1, 1, 2, 8, 9, 16, -1}[p.chance(10)] }

func (p player) request() api.Request {
	switch p.chance(16) {
	case 0, 1, 2:
		return open(p.path(), []int{1, 2, 3, 7, 7, 7, 15, 23, 0, 32, 256, 1024}[p.chance(12)])
	case 3:
		return shut(p.handle())
	case 4, 5:
		return read(p.handle(), p.chance(50), []int{100, 100, 9, 0, 101, 65536}[p.chance(6)])
	case 6, 7, 8:
		return write(p.handle(), p.chance(50), text([]int{0, 1, 7, 30, chunk, chunk + 1}[p.chance(6)]))
	case 9:
		return status(p.path())
	case 10:
		return list(p.path())
	case 11, 12:
		return mkdir(p.path())
	case 13:
		return remove(p.path())
	case 14:
		return move(p.path(), p.path())
	}
	return []api.Request{link(p.path(), p.one("d . .. /b a")), {}, {Kind: 11}, {Kind: -1, Path: "/d"}, {Kind: kindNewDir, Path: "/x", How: 1}, {Kind: kindShutdown, To: "/"}}[p.chance(6)]
}

// number: of a frame of a way, mostly one of the last ones.
func (p player) number(way int) int {
	n := 0
	for _, h := range p.hops[way] {
		if h.Kind == hopSend || h.Kind == hopCarry || h.Kind == hopDrain {
			n++
		}
	}
	switch {
	case p.chance(40) == 0:
		return far()[p.chance(len(far()))]
	case p.chance(4) == 0:
		return p.chance(n + 2)
	}
	return n - 1 - p.chance(4)
}

func (p player) hop() api.Step {
	way := p.chance(2)
	switch p.chance(20) {
	case 0, 1, 2, 3, 4, 5:
		return send(way)
	case 6:
		return hit(way, p.number(way), p.chance(80), byte(p.chance(256)))
	case 7, 8, 9, 10, 11, 12, 13:
		return carry(way, p.number(way))
	case 14, 15, 16, 17:
		return bring(way, p.number(way))
	case 18:
		return expire(way)
	}
	n := p.chance(12)
	return pass([]int{0, 1, 2, -1}[n%4], api.Hop{Kind: []int{hopGive, hopShut, hopDrain}[n%3], Count: p.chance(99), Data: []byte(text(9))})
}

func (p player) step() api.Step {
	switch p.chance(30) {
	case 0, 1, 2, 3:
		return call(p.request())
	case 4, 5, 6:
		return work
	case 7, 8, 9:
		return hear
	case 10:
		return api.Step{Kind: []int{0, -1, 5, kindCallOut, kindCallOut}[p.chance(5)], Request: p.request()}
	}
	return p.hop()
}

// rooms: of the lines that are played on by chance.
var rooms = []int{1, 7, 30, 64, 65, 100, 300, 1000, widest, widest}

// mixed: so many steps.
func mixed(n int, seed uint32) *script {
	chance := dice(seed)
	p := player{newScript(api.Line{First: chance(round), Room: rooms[chance(len(rooms))]}), chance}
	for i := range n {
		p.add(litter(p.step(), i))
	}
	return p.script
}

func TestLongLists(t *testing.T) {
	codes := map[int]map[api.Errno]int{}
	several, told := 0, 0
	for n := range 400 {
		s := mixed(events, uint32(n))
		s.check(t, false)
		for i, x := range s.want {
			kind := s.steps[i].Kind*100 + s.steps[i].Hop.Kind
			if s.steps[i].Kind != kindPass {
				kind = s.steps[i].Kind * 100
			}
			if codes[kind] == nil {
				codes[kind] = map[api.Errno]int{}
			}
			codes[kind][x.Code]++
			told += len(x.Replies)
			if x.Count > 1 || len(x.Replies) > 1 {
				several++
			}
		}
	}
	for kind, all := range map[int][]api.Errno{
		100: {ok, errFull, errKind, errForm, errRange, errSize}, 300: {ok}, 400: {ok},
		200 + hopSend: {ok, errNone}, 200 + hopHit: {ok, errNone, errRange, errTwice}, 200 + hopCarry: {ok, errNone, errSum}, 200 + hopReturn: {ok, errNone, errSum}, 200 + hopExpire: {ok},
		200 + hopGive: {errKind, errRange}, 200 + hopDrain: {errKind, errRange}, 200 + hopShut: {errKind, errRange},
	} {
		for _, code := range all {
			if codes[kind][code] == 0 {
				t.Errorf("no step of kind %d came to %d", kind, code)
			}
		}
	}
	if several < 100 || told < 600 {
		t.Errorf("%d times several frames came at once; %d replies were told", several, told)
	}
}

// TestWhatIsRefusedDoesNothing: without all that was refused the rest comes to the same.
func TestWhatIsRefusedDoesNothing(t *testing.T) {
	for n := range 200 {
		s := mixed(events, uint32(n+5000))
		var l []api.Step
		var want []api.Talked
		for i, x := range s.want {
			if x.Code == ok {
				l, want = append(l, s.steps[i]), append(want, x)
			}
		}
		isList(t, s.line, l, want)
	}
}
