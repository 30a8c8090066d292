package counter_test

import (
	"slices"
	"testing"

	"dictum/api"
	"dictum/counter"
	"dictum/force"
	"dictum/formula"
	"dictum/morph"
	"dictum/search"
	"dictum/worlds"
)

// refuting asks that a step's model is well-formed, that world 0 is its root and refutes the step's sequent, and answers it with its worlds' steps.
func refuting(t *testing.T, x *formula.Table, steps []api.Step, at int) (api.Model, []int) {
	t.Helper()
	m, l, e := counter.Model(x, steps, at)
	if e != api.OK {
		t.Fatalf("Model of %d of %s: error %d", at, showSteps(steps), e)
	}
	if e := worlds.Check(m); e != api.OK {
		t.Fatalf("%s: error %d", show(m), e)
	}
	if w, ok := worlds.Root(m); w != 0 || !ok {
		t.Fatalf("%s: the root is %d, %v", show(m), w, ok)
	}
	if is, e := counter.Refutes(x, m, 0, steps[at].Seq); !is || e != api.OK {
		t.Fatalf("%s does not refute %s: error %d; %s; rows %v", show(m), showSeq(steps[at].Seq), e, showSteps(steps), x.Rows())
	}
	if w, _ := counter.World(x, steps, at); w != l[0] || !slices.IsSortedFunc(l, func(a, b int) int { return b - a }) || len(l) != len(m.Up) {
		t.Fatalf("%s of %v; World %d", show(m), l, w)
	}
	return m, l
}

// TestFollowsModel: P20.5, the model of a step that is not proved is a countermodel, and each world of it forces just what world 0 of that world's own step's model does, which it refutes, too.
func TestFollowsModel(t *testing.T) {
	chance := newChance(8)
	many := 0
	for range 1500 {
		x, steps := someSteps(t, chance, 30)
		for at, step := range steps {
			if step.Proved || chance.IntN(3) > 0 {
				continue
			}
			m, l := refuting(t, x, steps, at)
			for w, i := range l {
				if steps[i].Proved || steps[i].Rule != api.RuleStuck {
					t.Fatalf("step %d of %s is a world", i, showSteps(steps))
				}
				own, _ := refuting(t, x, steps, i)
				here, e := force.All(x, m, w)
				there, other := force.All(x, own, 0)
				if here != there || e != api.OK || other != api.OK {
					t.Fatalf("world %d of %s and world 0 of %s force unlike formulas, errors %d, %d; rows %v", w, show(m), show(own), e, other, x.Rows())
				}
				if is, e := counter.Refutes(x, m, w, steps[i].Seq); !is || e != api.OK {
					t.Fatalf("world %d of %s does not refute %s, error %d", w, show(m), showSeq(steps[i].Seq), e)
				}
				many++
			}
		}
	}
	if many < 1000 {
		t.Errorf("%d worlds", many)
	}
}

// TestFollowsAbove: P20.5, above a world of a model stands its own step's model, each of its worlds that of the same step.
func TestFollowsAbove(t *testing.T) {
	chance := newChance(9)
	for range 700 {
		x, steps := someSteps(t, chance, 30)
		if len(steps) == 0 || steps[len(steps)-1].Proved {
			continue
		}
		m, l := refuting(t, x, steps, len(steps)-1)
		for w, i := range l {
			part, above, e := morph.Above(m, w)
			if e != api.OK {
				t.Fatal(e)
			}
			own, from := refuting(t, x, steps, i)
			var steps []int
			for _, v := range above {
				steps = append(steps, l[v])
			}
			if tidy, _ := worlds.Tidy(own); !alike(tidy, part) || !slices.Equal(steps, from) {
				t.Fatalf("above %d of %s stands %s of %v, not %s of %v", w, show(m), show(part), steps, show(own), from)
			}
		}
	}
}

// TestFollowsOneAnswer: P20.5, no step that is not proved has the sequent of one that is, in right steps of several searches, whichever rules they tried first.
func TestFollowsOneAnswer(t *testing.T) {
	chance := newChance(10)
	var again int
	for range 1500 {
		x, steps := someSteps(t, chance, 25)
		if len(steps) == 0 {
			continue
		}
		for range 3 {
			steps = behind(steps, find(t, x, steps[chance.IntN(len(steps))].Seq, chance, 150))
		}
		right(t, x, steps)
		known := map[api.Seq]bool{}
		for _, step := range steps {
			if is, ok := known[step.Seq]; ok {
				if again++; is != step.Proved {
					t.Fatalf("%s is proved and refuted: %s", showSeq(step.Seq), showSteps(steps))
				}
			}
			known[step.Seq] = step.Proved
		}
	}
	if again < 2000 {
		t.Errorf("%d sequents came again", again)
	}
}

// TestFollowsProved: P20.5, what is proved is refuted in no world of a model, those of refutations included.
func TestFollowsProved(t *testing.T) {
	chance := newChance(11)
	many := 0
	for range 1500 {
		x, steps := someSteps(t, chance, 30)
		l := []api.Model{someModel(chance, 6)}
		for at, step := range steps {
			if !step.Proved && len(l) < 5 {
				m, _, _ := counter.Model(x, steps, at)
				l = append(l, m)
			}
		}
		for _, step := range steps {
			if !step.Proved || chance.IntN(4) > 0 {
				continue
			}
			for _, m := range l {
				for w := range m.Up {
					if is, e := counter.Refutes(x, m, w, step.Seq); is || e != api.OK {
						t.Fatalf("world %d of %s refutes %s, error %d", w, show(m), showSeq(step.Seq), e)
					}
					many++
				}
			}
		}
	}
	if many < 3000 {
		t.Errorf("%d worlds", many)
	}
}

// TestFollowsHolds: P20.3, a sequent holds in a model (layer 18) just if no world refutes it.
func TestFollowsHolds(t *testing.T) {
	chance := newChance(12)
	for range 1500 {
		x, m := made(t, someRows(chance, 3+chance.IntN(20), 1+chance.IntN(12), 5)...), someModel(chance, 6)
		s := someSeq(chance, x.Len(), 3)
		holds, _ := force.Holds(x, m, s)
		some := false
		for w := range m.Up {
			is, _ := counter.Refutes(x, m, w, s)
			some = some || is
		}
		if some == holds {
			t.Fatalf("%s in %s: holds %v, is refuted %v; rows %v", showSeq(s), show(m), holds, some, x.Rows())
		}
	}
}

// TestFollowsShrink: P20.5, what Shrink answers is tidy, still refutes, and has world 0 for its root; each world above 0 was needed when it was looked at: without it, and with all worlds of lesser numbers and those greater ones that are left, world 0 does not refute.
func TestFollowsShrink(t *testing.T) {
	chance := newChance(13)
	many := 0
	for range 2500 {
		x, m := made(t, implications()...), someModel(chance, 10)
		s, ok := someRefuted(chance, x, m, 9)
		if !ok {
			continue
		}
		n, l, e := counter.Shrink(x, m, s)
		if tidy, _ := worlds.Tidy(n); e != api.OK || !alike(tidy, n) {
			t.Fatalf("%s, error %d", show(n), e)
		}
		if is, e := counter.Refutes(x, n, 0, s); !is || e != api.OK {
			t.Fatalf("%s does not refute %s: error %d", show(n), showSeq(s), e)
		}
		if w, ok := worlds.Root(n); w != 0 || !ok || l[0] != 0 {
			t.Fatalf("%s of %v: root %d, %v", show(n), l, w, ok)
		}
		above := plainAbove(m.Up)
		for i, w := range l[1:] {
			order, val := plainOf(above, m.Val, append(run(0, w), l[i+2:]...))
			if plainRefutes(plainForced(x.Rows(), order, val), 0, s) {
				t.Fatalf("world %d of %s is not needed for %s, and stays in %s of %v", w, show(m), showSeq(s), show(n), l)
			}
			many++
		}
	}
	if many < 1000 {
		t.Errorf("%d worlds", many)
	}
}

// TestFollowsSearch: P20.5, what layer 11 refutes has a countermodel within its budget, and what it proves has none.
func TestFollowsSearch(t *testing.T) {
	chance := newChance(14)
	count := map[bool]int{}
	for range 1500 {
		x := made(t, someRows(chance, 3+chance.IntN(40), 1+chance.IntN(20), 5)...)
		found, e := search.Run(x, someSeq(chance, x.Len(), 4), 500)
		if e != api.OK {
			continue
		}
		count[found.Proved]++
		last := len(found.Steps) - 1
		if found.Proved {
			refusesSteps(t, x, found.Steps, last, api.ErrArg)
			continue
		}
		m, _ := refuting(t, x, found.Steps, last)
		n, _, e := counter.Shrink(x, m, found.Steps[last].Seq)
		if is, _ := counter.Refutes(x, n, 0, found.Steps[last].Seq); !is || e != api.OK {
			t.Fatalf("%s became %s, error %d", show(m), show(n), e)
		}
	}
	if count[true] < 200 || count[false] < 200 {
		t.Error(count)
	}
}
