package talk_test

import (
	"testing"

	"packthread/api"
)

// P16.1: what comes of it.

// line: what happens to frames, by chance.
type line struct {
	*script
	chance func(n int) int
	late   [2][]int // frames that are held back, on their way there
	aback  [2][]int // and on their way back
	fates  *[6]int  // how often each fate was a frame's
}

// send: what is to be sent on a way is sent, and is lost, held back, harmed, doubled, or comes.
func (l *line) send(way int) {
	x := l.add(send(way))
	if !x.Put {
		return
	}
	fate := l.chance(8)
	l.fates[min(fate, 5)]++
	switch fate {
	case 0: // it is lost
	case 1, 2:
		l.late[way] = append(l.late[way], x.Id)
	case 3:
		l.add(hit(way, x.Id, l.chance(head), byte(1+l.chance(255))))
		l.carry(way, x.Id)
	case 4:
		l.carry(way, x.Id)
		l.carry(way, x.Id)
		l.late[way] = append(l.late[way], x.Id)
	default:
		l.carry(way, x.Id)
	}
}

// carry: a frame comes, and is told of, perhaps.
func (l *line) carry(way, id int) {
	if x := l.add(carry(way, id)); x.Put {
		l.bring(way, x.Id)
	}
}

func (l *line) bring(way, id int) {
	switch l.chance(6) {
	case 0: // it is lost
	case 1:
		l.aback[way] = append(l.aback[way], id)
	case 2:
		l.add(hit(way, id, l.chance(head), byte(1+l.chance(255))))
		l.add(bring(way, id))
	case 3:
		l.add(bring(way, id))
		l.aback[way] = append(l.aback[way], id)
	default:
		l.add(bring(way, id))
	}
}

// after: a frame that was held back comes; it may come once more later on.
func (l *line) after(way int) {
	if n := len(l.late[way]); n > 0 {
		l.carry(way, l.late[way][l.chance(n)])
	}
	if n := len(l.aback[way]); n > 0 {
		l.add(bring(way, l.aback[way][l.chance(n)]))
	}
}

// noisy: requests through such lines; at last all of them are served and heard of. The lines are clean then, but what was held back before comes still.
func noisy(seed uint32, fates *[6]int) (*script, bool) {
	chance := dice(seed)
	l := line{script: newScript(api.Line{First: chance(round), Room: []int{40, 64, 100, 500, widest}[chance(5)]}), chance: chance, fates: fates}
	p := player{l.script, chance}
	calls := 3 + chance(10)
	for len(l.steps) < 190 {
		switch way := chance(2); chance(12) {
		case 0, 1:
			if l.made < calls {
				l.add(call(p.request()))
			}
		case 2, 3, 4, 5:
			l.send(way)
		case 6:
			l.add(expire(way))
		case 7:
			l.after(way)
		case 8, 9:
			l.bring(0, l.add(work).Id)
		default:
			l.bring(1, l.add(hear).Id)
		}
	}
	l.after(0)
	l.after(1)
	return l.script, l.round()
}

// TestRepliesAreWhatTheyAreWithoutLines: each request is served once, in their order, whatever happens to frames.
func TestRepliesAreWhatTheyAreWithoutLines(t *testing.T) {
	var fates [6]int
	told, ended := 0, 0
	const plays = 1000
	for n := range plays {
		s, all := noisy(uint32(n+1), &fates)
		if all {
			ended++
		} else {
			s.steps, s.want = s.steps[:events], s.want[:events]
		}
		s.check(t, all)
		told += len(replies(s.want))
	}
	for fate, n := range fates {
		if n < plays {
			t.Errorf("fate %d: %d times", fate, n)
		}
	}
	if ended < plays*9/10 || told < 5*plays {
		t.Errorf("%d of %d plays ended; %d replies", ended, plays, told)
	}
}

// TestAFileThroughLines: it is written and read back in the same talk.
func TestAFileThroughLines(t *testing.T) {
	s := newScript(api.Line{First: 65300, Room: 300})
	s.calls(t, open("/f", both|forNew), write(0, 0, text(100)), write(0, 100, text(40)), read(0, 0, 100), read(0, 90, 100), shut(0))
	for n := 0; len(s.out) > 0 && len(s.steps) < events-12; n++ {
		for way := range 2 {
			x := s.add(send(way))
			if n%3 > 0 && x.Put { // each third frame is lost
				s.add(bring(way, s.add(carry(way, x.Id)).Id))
			}
			if n%5 == 4 {
				s.add(expire(way))
			}
		}
		s.add(bring(0, s.add(work).Id))
		s.add(bring(1, s.add(hear).Id))
	}
	s.check(t, true)
	got := replies(s.want)
	file := text(100) + text(40)
	if len(got) != 6 || string(got[3].Data) != file[:100] || string(got[4].Data) != file[90:] || got[2].Size != 140 {
		t.Fatalf("%v", got)
	}
}
