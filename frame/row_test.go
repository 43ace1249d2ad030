package frame_test

import (
	"fmt"
	"iter"
	"math/rand"
	"runtime"
	"sync"
	"testing"

	"cloister/api"
	"cloister/frame"
)

// tails is bytes of which Read takes no frame, for each of its errors.
func tails() []string {
	return []string{"", "\x00", "\xc4", "\xc5", "\xc5\x00\x00\x00", "\xc5\x00\x00\x00\x00", paperFrame("abc")[:11], "\xff" + paperFrame("abc"), head(65537) + great(50), paperFrame(great(65537)), turned(paperFrame("abc"), 6, 1) + paperFrame("d"), turned(paperFrame(""), 8, 128)}
}

// P9.3, P9.4: no frame, one, several, each with every tail behind.
func TestRows(t *testing.T) {
	for _, payloads := range [][]string{{}, {""}, {"\x07"}, {"", ""}, {"\x07", "", "\x01\x02"}, {"\xc5", "\xc5\xc5", row("x", "y"), ""}, {great(65536), "a", great(65536)}} {
		for _, tail := range tails() {
			tells(t, fmt.Sprintf("%d frames, %d bytes behind", len(payloads), len(tail)), row(payloads...)+tail, stepsOf(payloads...))
		}
	}
}

// P9.3, P9.4: what is behind a fault is not looked at, and the walk begins with the first byte, not with the first frame.
func TestRowsBehindFaults(t *testing.T) {
	for _, tail := range tails()[1:] {
		if len(tail) < 9 { // a beginning that takes what follows in
			continue
		}
		tells(t, "a fault ahead", tail+row("a", "b"), nil)
		tells(t, "a fault between", row("a")+tail+row("b"), stepsOf("a"))
	}
	tells(t, "a byte ahead", "\x00"+row("a", "b"), nil)
	tells(t, "a byte between", row("a")+"\x00"+row("b"), stepsOf("a"))
	tells(t, "a mark between", row("a")+"\xc5"+row("b"), stepsOf("a"))
}

// P9.3: one may leave early, at each place, and go over it anew, whole or not.
func TestLeftEarly(t *testing.T) {
	payloads := []string{"a", "", "ccc", "dd"}
	want := stepsOf(payloads...)
	all := frame.All([]byte(row(payloads...) + "\xc5"))
	for stay := range len(want) + 1 {
		var got []step
		for end, p := range all {
			if len(got) == stay {
				break
			}
			got = append(got, step{end, string(p)})
		}
		sameSteps(t, fmt.Sprint("left behind ", stay), got, want[:stay])
	}
	sameSteps(t, "whole, behind all that", walked(t, all), want)
}

// P9.3: once it was left a walk asks no more: its function is not called behind its false.
func TestNoCallBehindLeaving(t *testing.T) {
	all := frame.All([]byte(row("a", "b", "c")))
	for stay := 1; stay < 4; stay++ {
		calls := 0
		all(func(int, []byte) bool {
			calls++
			return calls < stay
		})
		same(t, fmt.Sprint("calls, left at the call ", stay), calls, stay)
	}
}

// firstOf leaves a function out of the midst of a walk.
func firstOf(all iter.Seq2[int, []byte]) (int, string) {
	for end, p := range all {
		return end, string(p)
	}
	return 0, ""
}

// P9.3: a walk left by a return, by a panic, by going on with an outer loop.
func TestOtherWaysToLeave(t *testing.T) {
	all := frame.All([]byte(row("a", "b", "c")))
	end, p := firstOf(all)
	same(t, "left by a return: place", end, 10)
	same(t, "left by a return: payload", p, "a")
	func() {
		defer func() { same(t, "what the loop's panic was", recover(), any("out")) }()
		for range all {
			panic("out")
		}
	}()
	rounds := 0
outer:
	for range 3 {
		for range all {
			rounds++
			continue outer
		}
	}
	same(t, "rounds", rounds, 3)
	sameSteps(t, "whole, behind all that", walked(t, all), stepsOf("a", "b", "c"))
}

// P9.3: a walk within a walk over the same answer.
func TestWalkWithinWalk(t *testing.T) {
	want := stepsOf("a", "", "ccc")
	all := frame.All([]byte(row("a", "", "ccc")))
	var outer []step
	for end, p := range all {
		outer = append(outer, step{end, string(p)})
		sameSteps(t, "within", walked(t, all), want)
		firstOf(all)
	}
	sameSteps(t, "around", outer, want)
}

// P9.3: two walks over the same answer, pulled in turns.
func TestWalksInTurns(t *testing.T) {
	payloads := []string{"a", "bb", "", "dddd"}
	all := frame.All([]byte(row(payloads...)))
	one, stopOne := iter.Pull2(all)
	two, stopTwo := iter.Pull2(all)
	defer stopTwo()
	var gotOne, gotTwo []step
	for i := range len(payloads) {
		end, p, is := one()
		same(t, "is there one", is, true)
		gotOne = append(gotOne, step{end, string(p)})
		if i%2 == 0 {
			end, p, _ = two()
			gotTwo = append(gotTwo, step{end, string(p)})
		}
	}
	_, _, is := one()
	same(t, "is there one behind the last", is, false)
	stopOne()
	sameSteps(t, "the one", gotOne, stepsOf(payloads...))
	sameSteps(t, "the other one", gotTwo, stepsOf(payloads[:2]...))
}

// P9.3: the bytes are those that b had when All was called, whatever becomes of them ahead of the walk, in its midst, and behind it.
func TestBytesOfTheCall(t *testing.T) {
	payloads := []string{"a", "", "ccc"}
	want := stepsOf(payloads...)
	given, whole := spare(row(payloads...))
	all := frame.All(given)
	clear(whole)
	sameSteps(t, "cleared", walked(t, all), want)
	copy(whole, row("other", "ones"))
	sameSteps(t, "other frames laid there", walked(t, all), want)

	given, whole = spare(row(payloads...))
	var got []step
	for end, p := range frame.All(given) {
		got = append(got, step{end, string(p)})
		clear(whole)
	}
	sameSteps(t, "cleared in the midst of it", got, want)

	given, whole = spare("\x00" + row(payloads...))
	all = frame.All(given)
	copy(whole, row(payloads...))
	sameSteps(t, "frames laid there behind the call", walked(t, all), nil)
}

// P9.3: what stands in the spare room behind b is none of its frames.
func TestSpareRoomIsNotRead(t *testing.T) {
	given, _ := spare(row("a"))
	sameSteps(t, "All", walked(t, frame.All(given)), stepsOf("a"))
	count, end := frame.Count(given)
	same(t, "Count's frames", count, 1)
	same(t, "Count's place", end, 10)
	given, _ = spare("")
	sameSteps(t, "All of nothing", walked(t, frame.All(given)), nil)
	_, _, code := frame.Read(given)
	same(t, "Read of nothing", code, api.ErrCut)
	for _, room := range []string{paperFrame("abc"), head(65537), "\xc5\xff\xff\xff\xff", "no mark"} {
		for n := range min(len(room), 5) {
			if n > 0 && room[0] != 197 {
				break
			}
			_, _, code = frame.Read([]byte(room)[:n])
			same(t, "Read of few bytes with others in their spare room", code, api.ErrCut)
		}
	}
	whole := []byte(paperFrame("abc"))
	for n := range whole {
		_, _, code = frame.Read(whole[:n])
		same(t, "Read of a beginning with the rest in its spare room", code, api.ErrCut)
	}
}

// P9.3: walks over one answer beside one another, from goroutines.
func TestWalksBesideOneAnother(t *testing.T) {
	payloads := []string{"a", "", "ccc", great(500)}
	want := stepsOf(payloads...)
	all := frame.All([]byte(row(payloads...)))
	results := make([][]step, 16)
	var group sync.WaitGroup
	for i := range results {
		group.Go(func() {
			for range 50 {
				results[i] = nil
				for end, p := range all {
					results[i] = append(results[i], step{end, string(p)})
					scribble(p)
				}
			}
		})
	}
	group.Wait()
	for _, got := range results {
		sameSteps(t, "beside one another", got, want)
	}
}

// P9.3: neither a call nor a walk that was left leaves a goroutine behind.
func TestNoGoroutines(t *testing.T) {
	before := runtime.NumGoroutine()
	b := []byte(row("a", "b", "c"))
	for range 200 {
		all := frame.All(b)
		firstOf(all)
		frame.Count(b)
	}
	if more := runtime.NumGoroutine() - before; more > 20 {
		t.Errorf("%d goroutines are left", more)
	}
}

// P9.4: Count is what All says, of bytes by chance.
func TestCountByChance(t *testing.T) {
	r := rand.New(rand.NewSource(94))
	for range 3000 {
		b := row(payloadsBy(r, 6)...) + tailBy(r)
		if len(b) > 0 && r.Intn(2) == 0 {
			b = turned(b, r.Intn(len(b)), byte(r.Intn(256)))
		}
		tells(t, "by chance", b, paperWalk(b))
	}
}
