package tests

import (
	"math"
	"slices"
	"testing"

	"loop.example/g00668/impl"
)

func stashing(step int64, block int64, slot int64) impl.Move {
	return impl.Move{Kind: impl.PlStash, Step: step, Block: block, Slot: slot}
}

func doing(step int64, block int64) impl.Move {
	return impl.Move{Kind: impl.PlDo, Step: step, Block: block}
}

func movesAre(t *testing.T, what string, l []impl.Step, got impl.PlanOut, want []impl.Move) {
	t.Helper()
	if got.Code != impl.OK || !slices.Equal(got.Moves, want) {
		t.Errorf("%s: the plan of %s is %s, want %s", what, shown(l), shown(got), shown(want))
	}
}

func planFails(t *testing.T, what string, l []impl.Step, blocks int64, code int64) {
	t.Helper()
	if got := impl.PlanOf(l, blocks); got.Code != code || len(got.Moves) != 0 {
		t.Errorf("%s: the plan of %d steps for %d blocks is %s, want the code %d", what, len(l), blocks, shown(got), code)
	}
}

func slotsAre(t *testing.T, what string, l []impl.Move, want int64) {
	t.Helper()
	if got := impl.SlotsOf(l); got != want {
		t.Errorf("%s: SlotsOf(%s) = %d, want %d", what, shown(l), got, want)
	}
}

func sourceIs(t *testing.T, what string, l []impl.Move, done int64, block int64, want int64) {
	t.Helper()
	if got := impl.SourceOf(l, done, block); got != want {
		t.Errorf("%s: SourceOf(%s, %d, %d) = %d, want %d", what, shown(l), done, block, got, want)
	}
}

func runFails(t *testing.T, what string, image []string, l []impl.Step, moves []impl.Move, code int64) {
	t.Helper()
	if got := impl.PlanRun(image, l, moves); got.Code != code || len(got.Image) != 0 {
		t.Errorf("%s: %s with %s by %s yields %s, want the code %d", what, shown(image), shown(l), shown(moves), shown(got), code)
	}
}

// readsAnother reports whether a write reads a block that is not its own.
func readsAnother(s impl.Step) bool {
	return (s.Kind == impl.StCopy || s.Kind == impl.StXor) && s.From != s.To
}

func onlyWrites(l []impl.Step) []impl.Step {
	isLabel := func(s impl.Step) bool {
		return s.Kind == impl.StLabel
	}
	return slices.DeleteFunc(slices.Clone(l), isLabel)
}

// planExpected counts for each block the writes that have yet to read it.
func planExpected(l []impl.Step) []impl.Move {
	var moves []impl.Move
	writes, readers := onlyWrites(l), map[int64]int{}
	for _, s := range writes {
		if readsAnother(s) {
			readers[s.From]++
		}
	}
	isDone, stashed := map[int]bool{}, map[int64]bool{}
	for len(isDone) < len(writes) {
		first, free := -1, -1
		for i := len(writes) - 1; i >= 0; i-- {
			if !isDone[i] {
				first = i
				if readers[writes[i].To] == 0 || stashed[writes[i].To] {
					free = i
				}
			}
		}
		if free < 0 {
			to := writes[first].To
			moves = append(moves, stashing(int64(first), to, int64(len(stashed))))
			stashed[to] = true
			continue
		}
		moves = append(moves, doing(int64(free), writes[free].To))
		isDone[free] = true
		if readsAnother(writes[free]) {
			readers[writes[free].From]--
		}
	}
	return moves
}

// cyclesOf counts the cycles in which each write reads the block of another one.
func cyclesOf(l []impl.Step) int64 {
	from := map[int64]int64{}
	for _, s := range onlyWrites(l) {
		if readsAnother(s) {
			from[s.To] = s.From
		}
	}
	cycles := int64(0)
	for start := range from {
		if isLeastOfCycle(start, from) {
			cycles++
		}
	}
	return cycles
}

func isLeastOfCycle(start int64, from map[int64]int64) bool {
	at, there := start, true
	for range from {
		if at, there = from[at]; !there || at < start {
			return false
		}
		if at == start {
			return true
		}
	}
	return false
}

// inPlace follows where the original contents of each block are. It does not depend on the order that the program chooses.
type inPlace struct {
	t     *testing.T
	what  string
	moves []impl.Move
	whole map[int64]bool
	slots map[int64]int64
}

func (p *inPlace) fail(text string) {
	p.t.Helper()
	p.t.Errorf("%s: %s in %s", p.what, text, shown(p.moves))
}

func (p *inPlace) checkSources(done int64) {
	p.t.Helper()
	for block := range int64(impl.MaxBlocks) {
		want, there := p.slots[block]
		if !there {
			want = -1
		}
		sourceIs(p.t, p.what, p.moves, done, block, want)
	}
}

func (p *inPlace) stash(m impl.Move) {
	if _, there := p.slots[m.Block]; there || !p.whole[m.Block] || m.Slot != int64(len(p.slots)) {
		p.fail("a wrong stash")
	}
	p.slots[m.Block] = m.Slot
}

func (p *inPlace) write(s impl.Step) {
	_, there := p.slots[s.From]
	if (s.Kind == impl.StCopy || s.Kind == impl.StXor) && !p.whole[s.From] && !there {
		p.fail("a block is overwritten before it is read")
	}
	p.whole[s.To] = false
}

// checkMoves checks what every plan of a valid list has to do.
func checkMoves(t *testing.T, what string, l []impl.Step, moves []impl.Move) {
	t.Helper()
	writes := onlyWrites(l)
	p := &inPlace{t: t, what: what, moves: moves, whole: map[int64]bool{}, slots: map[int64]int64{}}
	for block := range int64(impl.MaxBlocks) {
		p.whole[block] = true
	}
	isDone := map[int64]bool{}
	for i, m := range moves {
		p.checkSources(int64(i))
		if m.Step < 0 || m.Step >= int64(len(writes)) || m.Block != writes[m.Step].To || isDone[m.Step] {
			p.fail("a move of another write")
			return
		}
		if m.Kind == impl.PlStash {
			p.stash(m)
			continue
		}
		if m.Kind != impl.PlDo || m.Slot != 0 {
			p.fail("a wrong move")
		}
		isDone[m.Step] = true
		p.write(writes[m.Step])
	}
	p.checkSources(int64(len(moves)))
	if len(isDone) != len(writes) {
		p.fail("a write is not done")
	}
	if 2*len(p.slots) > len(writes) {
		p.fail("more than half as many stashes as writes")
	}
	slotsAre(t, what, moves, int64(len(p.slots)))
	slotsAre(t, what+", by cycles", moves, cyclesOf(l))
}

// planIs expects a valid list, and checks its plan and what this makes of an image in place.
func planIs(t *testing.T, what string, image []string, l []impl.Step, want []impl.Move) {
	t.Helper()
	base, steps, moves := withRoomBehind(image), withRoomBehind(l), withRoomBehind(want)
	movesAre(t, what, l, impl.PlanOf(steps, int64(len(image))), want)
	made := impl.PlanRun(base, steps, moves)
	imageOutIs(t, what+", run", made, imageMade(image, l))
	blocksAre(t, what+", run and applied", made.Image, impl.ImageApply(image, l).Image)
	checkMoves(t, what, l, moves)
	onlyHas(t, what+", the image", base, image)
	onlyHas(t, what+", the steps", steps, l)
	onlyHas(t, what+", the moves", moves, want)
}

func planHolds(t *testing.T, what string, image []string, l []impl.Step) {
	t.Helper()
	planIs(t, what, image, l, planExpected(l))
}

func TestPlanConstants(t *testing.T) {
	listIs(t, "the kinds of moves", []int64{impl.PlStash, impl.PlDo}, []int64{1, 2})
}

func TestPlanExamples(t *testing.T) {
	exchange := []impl.Step{copying(0, 1), copying(1, 0)}
	planIs(t, "an exchange", letterImage("ab"), exchange, []impl.Move{{Kind: 1, Step: 0, Block: 0, Slot: 0}, {Kind: 2, Step: 0, Block: 0, Slot: 0}, {Kind: 2, Step: 1, Block: 1, Slot: 0}})
	imageOutIs(t, "an exchange", impl.PlanRun(letterImage("ab"), exchange, impl.PlanOf(exchange, 2).Moves), letterImage("ba"))
	order := []impl.Step{zeroing(0), copying(1, 0)}
	planIs(t, "a zero step of a block that is copied", letterImage("ab"), order, []impl.Move{{Kind: 2, Step: 1, Block: 1, Slot: 0}, {Kind: 2, Step: 0, Block: 0, Slot: 0}})
	imageOutIs(t, "a zero step of a block that is copied", impl.PlanRun(letterImage("ab"), order, impl.PlanOf(order, 2).Moves), []string{zeros8, "aaaaaaaa"})
}

type planned struct {
	what  string
	steps []impl.Step
	moves []impl.Move
}

// plansOfOrders are those of lists without cycles.
func plansOfOrders() []planned {
	return []planned{
		{"nil", nil, nil},
		{"empty", []impl.Step{}, nil},
		{"a label", labels(0), nil},
		{"labels", labels(1, 2, impl.MaxTime), nil},
		{"a zero step", []impl.Step{zeroing(0)}, []impl.Move{doing(0, 0)}},
		{"a put", []impl.Step{putting(3, data8)}, []impl.Move{doing(0, 3)}},
		{"a copy", []impl.Step{copying(2, 5)}, []impl.Move{doing(0, 2)}},
		{"an xor", []impl.Step{xoring(7, 0, data8)}, []impl.Move{doing(0, 7)}},
		{"a copy of its own block", []impl.Step{copying(4, 4)}, []impl.Move{doing(0, 4)}},
		{"an xor of its own block", []impl.Step{xoring(0, 0, data8)}, []impl.Move{doing(0, 0)}},
		{"writes that read nothing", []impl.Step{putting(3, data8), zeroing(0), zeroing(7)}, []impl.Move{doing(0, 3), doing(1, 0), doing(2, 7)}},
		{"a put before a zero step of block 0, which none reads", []impl.Step{putting(1, data8), zeroing(0)}, []impl.Move{doing(0, 1), doing(1, 0)}},
		{"a zero step and a put beside a write to block 0", []impl.Step{copying(0, 6), zeroing(1), putting(2, data8)}, []impl.Move{doing(0, 0), doing(1, 1), doing(2, 2)}},
		{"a copy from a block that an earlier step writes", []impl.Step{putting(3, data8), copying(1, 3)}, []impl.Move{doing(1, 1), doing(0, 3)}},
		{"a copy from a block that a later step writes", []impl.Step{copying(1, 3), putting(3, data8)}, []impl.Move{doing(0, 1), doing(1, 3)}},
		{"an xor from a block that an earlier step writes", []impl.Step{zeroing(3), xoring(1, 3, data8)}, []impl.Move{doing(1, 1), doing(0, 3)}},
		{"each reads the block of the next one", []impl.Step{copying(0, 1), copying(1, 2), xoring(2, 3, data8), zeroing(3)}, []impl.Move{doing(0, 0), doing(1, 1), doing(2, 2), doing(3, 3)}},
		{"each reads the block of the one before", []impl.Step{zeroing(0), copying(1, 0), xoring(2, 1, data8), copying(3, 2)}, []impl.Move{doing(3, 3), doing(2, 2), doing(1, 1), doing(0, 0)}},
		{"the first one that is not blocked, each time", []impl.Step{copying(1, 0), zeroing(5), copying(2, 1), putting(6, data8)}, []impl.Move{doing(1, 5), doing(2, 2), doing(0, 1), doing(3, 6)}},
		{"back to an earlier one, and on", []impl.Step{zeroing(4), zeroing(5), copying(1, 5), copying(2, 4), zeroing(3)}, []impl.Move{doing(2, 1), doing(1, 5), doing(3, 2), doing(0, 4), doing(4, 3)}},
		{"several that read one block", []impl.Step{zeroing(0), copying(1, 0), xoring(2, 0, data8), copying(3, 0), zeroing(4)}, []impl.Move{doing(1, 1), doing(2, 2), doing(3, 3), doing(0, 0), doing(4, 4)}},
		{"a copy of its own block that another one reads", []impl.Step{copying(2, 2), copying(3, 2)}, []impl.Move{doing(1, 3), doing(0, 2)}},
		{"an xor of its own block that another one reads", []impl.Step{xoring(2, 2, ones8), zeroing(0), xoring(3, 2, data8)}, []impl.Move{doing(1, 0), doing(2, 3), doing(0, 2)}},
		{"labels between the steps", []impl.Step{label(0), zeroing(0), label(1), label(2), copying(1, 0), label(3)}, []impl.Move{doing(1, 1), doing(0, 0)}},
		{"labels with the numbers of blocks", []impl.Step{label(1), zeroing(1), label(2), zeroing(2), label(3), zeroing(3)}, []impl.Move{doing(0, 1), doing(1, 2), doing(2, 3)}},
	}
}

// plansOfCycles need stashes.
func plansOfCycles() []planned {
	return []planned{
		{"an exchange, from the greater block on", []impl.Step{copying(1, 0), copying(0, 1)}, []impl.Move{stashing(0, 1, 0), doing(0, 1), doing(1, 0)}},
		{"an exchange of the first and the last block", []impl.Step{xoring(7, 0, data8), copying(0, 7)}, []impl.Move{stashing(0, 7, 0), doing(0, 7), doing(1, 0)}},
		{"an exchange with labels", []impl.Step{label(1), copying(3, 5), label(2), label(4), xoring(5, 3, data8), label(9)}, []impl.Move{stashing(0, 3, 0), doing(0, 3), doing(1, 5)}},
		{"an exchange behind another write", []impl.Step{putting(6, data8), copying(3, 5), copying(5, 3)}, []impl.Move{doing(0, 6), stashing(1, 3, 0), doing(1, 3), doing(2, 5)}},
		{"an exchange before another write", []impl.Step{copying(3, 5), copying(5, 3), zeroing(6)}, []impl.Move{doing(2, 6), stashing(0, 3, 0), doing(0, 3), doing(1, 5)}},
		{"three blocks, each reads the next one", []impl.Step{copying(0, 1), copying(1, 2), copying(2, 0)}, []impl.Move{stashing(0, 0, 0), doing(0, 0), doing(1, 1), doing(2, 2)}},
		{"three blocks, each reads the one before", []impl.Step{copying(0, 2), copying(1, 0), copying(2, 1)}, []impl.Move{stashing(0, 0, 0), doing(0, 0), doing(2, 2), doing(1, 1)}},
		{"three blocks, from the last one on", []impl.Step{copying(2, 0), xoring(1, 2, data8), copying(0, 1)}, []impl.Move{stashing(0, 2, 0), doing(0, 2), doing(2, 0), doing(1, 1)}},
		{"two exchanges", []impl.Step{copying(0, 1), copying(1, 0), copying(2, 3), copying(3, 2)}, []impl.Move{stashing(0, 0, 0), doing(0, 0), doing(1, 1), stashing(2, 2, 1), doing(2, 2), doing(3, 3)}},
		{"two exchanges, alternating", []impl.Step{copying(0, 1), copying(2, 3), copying(1, 0), copying(3, 2)}, []impl.Move{stashing(0, 0, 0), doing(0, 0), doing(2, 1), stashing(1, 2, 1), doing(1, 2), doing(3, 3)}},
		{"four exchanges", []impl.Step{copying(7, 6), copying(6, 7), copying(0, 5), copying(5, 0), copying(2, 1), copying(1, 2), copying(3, 4), copying(4, 3)}, []impl.Move{
			stashing(0, 7, 0), doing(0, 7), doing(1, 6), stashing(2, 0, 1), doing(2, 0), doing(3, 5), stashing(4, 2, 2), doing(4, 2), doing(5, 1), stashing(6, 3, 3), doing(6, 3), doing(7, 4)}},
		{"a cycle of three and an exchange", []impl.Step{copying(4, 6), copying(1, 2), copying(6, 5), copying(2, 1), copying(5, 4)}, []impl.Move{stashing(0, 4, 0), doing(0, 4), doing(2, 6), doing(4, 5), stashing(1, 1, 1), doing(1, 1), doing(3, 2)}},
		{"a write that reads a block of an exchange", []impl.Step{copying(0, 1), copying(1, 0), copying(2, 0)}, []impl.Move{doing(2, 2), stashing(0, 0, 0), doing(0, 0), doing(1, 1)}},
		{"a chain that reads an exchange", []impl.Step{copying(0, 1), copying(1, 0), copying(2, 0), copying(3, 2)}, []impl.Move{doing(3, 3), doing(2, 2), stashing(0, 0, 0), doing(0, 0), doing(1, 1)}},
		{"a chain before an exchange", []impl.Step{copying(5, 4), copying(4, 2), copying(2, 3), copying(3, 2)}, []impl.Move{doing(0, 5), doing(1, 4), stashing(2, 2, 0), doing(2, 2), doing(3, 3)}},
		{"two chains that read an exchange, and one that does not", []impl.Step{zeroing(7), copying(0, 1), copying(3, 1), copying(6, 7), copying(1, 0), copying(2, 0)}, []impl.Move{
			doing(2, 3), doing(3, 6), doing(0, 7), doing(5, 2), stashing(1, 0, 0), doing(1, 0), doing(4, 1)}},
		{"a copy of its own block beside an exchange", []impl.Step{copying(0, 1), copying(1, 0), copying(2, 2), copying(3, 2)}, []impl.Move{doing(3, 3), doing(2, 2), stashing(0, 0, 0), doing(0, 0), doing(1, 1)}},
		{"an xor of its own block between an exchange", []impl.Step{copying(4, 2), xoring(3, 3, data8), copying(2, 4)}, []impl.Move{doing(1, 3), stashing(0, 4, 0), doing(0, 4), doing(2, 2)}},
	}
}

func TestPlansMoveByMove(t *testing.T) {
	for _, k := range append(plansOfOrders(), plansOfCycles()...) {
		for _, image := range [][]string{letterImage("abcdefgh"), patternImage(impl.MaxBlocks), slices.Repeat([]string{zeros8}, impl.MaxBlocks)} {
			planIs(t, k.what, image, k.steps, k.moves)
			planIs(t, k.what+", with labels everywhere", image, labelled(onlyWrites(k.steps)), k.moves)
		}
		if !slices.Equal(planExpected(k.steps), k.moves) {
			t.Errorf("%s: the tests expect %s", k.what, shown(planExpected(k.steps)))
		}
	}
}

// rotated has for each block a write that reads the block some places further on.
func rotated(blocks int64, shift int64, s func(to int64, from int64) impl.Step) []impl.Step {
	var l []impl.Step
	for to := range blocks {
		l = append(l, s(to, (to+shift+blocks)%blocks))
	}
	return l
}

func xorWithData(to int64, from int64) impl.Step {
	return xoring(to, from, pattern(int(to) + impl.BlockSize)[to:])
}

func TestPlansOfRotations(t *testing.T) {
	for blocks := int64(2); blocks <= impl.MaxBlocks; blocks++ {
		upwards, downwards := []impl.Move{stashing(0, 0, 0), doing(0, 0)}, []impl.Move{stashing(0, 0, 0), doing(0, 0)}
		for at := int64(1); at < blocks; at++ {
			upwards = append(upwards, doing(at, at))
			downwards = append(downwards, doing(blocks-at, blocks-at))
		}
		for _, kind := range []func(to int64, from int64) impl.Step{copying, xorWithData} {
			for _, image := range [][]string{letterImage("abcdefgh"[:blocks]), patternImage(int(blocks))} {
				planIs(t, "each reads the next block", image, rotated(blocks, 1, kind), upwards)
				planIs(t, "each reads the next block, with labels", image, labelled(rotated(blocks, 1, kind)), upwards)
				planIs(t, "each reads the block before", image, rotated(blocks, -1, kind), downwards)
				for shift := range blocks {
					l := rotated(blocks, shift, kind)
					planHolds(t, "each reads one further on", image, l)
					slices.Reverse(l)
					planHolds(t, "each reads one further on, the other way round", image, l)
				}
			}
		}
	}
	made := impl.PlanRun(letterImage("abcdefgh"), rotated(8, 1, copying), impl.PlanOf(rotated(8, 1, copying), 8).Moves)
	imageOutIs(t, "eight blocks turned", made, letterImage("bcdefgha"))
}

func TestPlansOfChains(t *testing.T) {
	for blocks := int64(2); blocks <= impl.MaxBlocks; blocks++ {
		var ahead, behind []impl.Step
		var forwards, backwards []impl.Move
		for at := range blocks - 1 {
			ahead = append(ahead, copying(at, at+1))
			behind = append(behind, xorWithData(at+1, at))
			forwards = append(forwards, doing(at, at))
			backwards = append(backwards, doing(blocks-2-at, blocks-1-at))
		}
		for _, image := range [][]string{letterImage("abcdefgh"[:blocks]), patternImage(int(blocks))} {
			planIs(t, "each reads the next block", image, ahead, forwards)
			planIs(t, "each reads the block before", image, behind, backwards)
			planIs(t, "each reads the block before, with labels", image, labelled(behind), backwards)
			planIs(t, "and the last one is written", image, append(ahead, zeroing(blocks-1)), append(forwards, doing(blocks-1, blocks-1)))
			planIs(t, "and the first one is written", image, append(behind, zeroing(0)), append(backwards, doing(blocks-1, 0)))
			planHolds(t, "and the first one is written before", image, append([]impl.Step{putting(0, data8)}, behind...))
		}
	}
}

// everyList calls f with every list that has, for each block, a write of the given kinds, or none.
func everyList(blocks int64, kinds func(to int64) []impl.Step, f func(l []impl.Step)) {
	var extend func(l []impl.Step, to int64)
	extend = func(l []impl.Step, to int64) {
		if to == blocks {
			f(slices.Clone(l))
			return
		}
		extend(l, to+1)
		for _, s := range kinds(to) {
			extend(append(l, s), to+1)
		}
	}
	extend(nil, 0)
}

func TestPlansOfAllKindsInEveryOrder(t *testing.T) {
	for blocks := int64(1); blocks <= 3; blocks++ {
		image, lists := patternImage(int(blocks)), 0
		kinds := func(to int64) []impl.Step {
			l := []impl.Step{zeroing(to), putting(to, data8)}
			for from := range blocks {
				l = append(l, copying(to, from), xorWithData(to, from))
			}
			return l
		}
		everyList(blocks, kinds, func(l []impl.Step) {
			permuted(l, func(l []impl.Step) {
				lists++
				planHolds(t, "all kinds", image, l)
				planHolds(t, "all kinds, a label before", image, slices.Concat(labels(3), l))
				planHolds(t, "all kinds, labels behind", image, slices.Concat(l, labels(0, impl.MaxTime)))
				planHolds(t, "all kinds, labels everywhere", image, labelled(l))
			})
			if t.Failed() {
				t.FailNow()
			}
		})
		if want := []int{5, 1 + 2*6 + 2*36, 1 + 3*8 + 6*64 + 6*512}[blocks-1]; lists != want {
			t.Errorf("there were %d lists, want %d", lists, want)
		}
	}
}

func TestPlansOfReadersInEveryOrder(t *testing.T) {
	image := letterImage("abcd")
	kinds := func(to int64) []impl.Step {
		return []impl.Step{zeroing(to), copying(to, 0), copying(to, 1), copying(to, 2), copying(to, 3)}
	}
	slots := map[int64]int{}
	everyList(4, kinds, func(l []impl.Step) {
		permuted(l, func(l []impl.Step) {
			planHolds(t, "four blocks", image, l)
			slots[cyclesOf(l)]++
		})
		if t.Failed() {
			t.FailNow()
		}
	})
	if slots[0] < 1000 || slots[1] < 1000 || slots[2] != 3*24 {
		t.Errorf("so many lists had these numbers of cycles: %v", slots)
	}
}

func TestPlansOfPermutationsInEveryOrder(t *testing.T) {
	image := letterImage("abcde")
	slots := map[int64]int{}
	permuted(upTo(0, 5), func(froms []int64) {
		var l []impl.Step
		for to, from := range froms {
			l = append(l, copying(int64(to), from))
		}
		slots[cyclesOf(l)]++
		permuted(l, func(l []impl.Step) {
			planHolds(t, "a permutation", image, l)
		})
		if t.Failed() {
			t.FailNow()
		}
	})
	if slots[0] != 1 || slots[1] != 10+20+30+24 || slots[2] != 15+20 {
		t.Errorf("so many permutations had these numbers of cycles: %v", slots)
	}
}

func TestPlansOfOneStepForEachBlock(t *testing.T) {
	for blocks := int64(1); blocks <= impl.MaxBlocks; blocks++ {
		for kind := range 4 {
			for shift := range blocks {
				for _, image := range [][]string{patternImage(int(blocks)), letterImage("abcdefgh"[:blocks])} {
					l := oneForEachBlock(blocks, kind, shift)
					planHolds(t, "one for each block", image, l)
					planHolds(t, "one for each block, and labels", image, labelled(l))
					slices.Reverse(l)
					planHolds(t, "the other way round", image, l)
					planHolds(t, "the other way round, and labels", image, labelled(l))
				}
			}
		}
	}
}

func TestPlansOfStepsThatReadEachOther(t *testing.T) {
	for _, k := range crossings() {
		permuted(k.steps, func(l []impl.Step) {
			planHolds(t, k.what, letterImage("abcd"), l)
			planHolds(t, k.what+", with labels", letterImage("abcd"), labelled(l))
			imageOutIs(t, k.what, impl.PlanRun(letterImage("abcd"), l, impl.PlanOf(l, 4).Moves), k.want)
		})
	}
}

func TestPlansOfEveryValidStep(t *testing.T) {
	for blocks := int64(1); blocks <= impl.MaxBlocks; blocks++ {
		for _, s := range validSteps(blocks) {
			want := []impl.Move{doing(0, s.To)}
			if s.Kind == impl.StLabel {
				want = nil
			}
			planIs(t, "a valid step", patternImage(int(blocks)), []impl.Step{s}, want)
		}
	}
}

func TestPlansOfTheLongestLists(t *testing.T) {
	image := patternImage(impl.MaxBlocks)
	for _, l := range longestLists() {
		if len(l) != impl.MaxSteps {
			t.Fatalf("there are %d steps", len(l))
		}
		planHolds(t, "MaxSteps steps", image, l)
		planHolds(t, "MaxSteps - 1 steps", image, l[1:])
		planHolds(t, "MaxSteps - 1 steps", image, l[:len(l)-1])
	}
	planFails(t, "MaxSteps steps and a label", append(mostSteps(), label(impl.MaxTime)), impl.MaxBlocks, impl.ErrForm)
	planFails(t, "a label and MaxSteps steps", slices.Insert(mostSteps(), 1, label(1)), impl.MaxBlocks, impl.ErrForm)
	for _, count := range []int64{impl.MaxSteps + 1, impl.MaxSteps + 2, impl.MaxList - 1, impl.MaxList} {
		planFails(t, "too many labels", labels(upTo(0, count)...), impl.MaxBlocks, impl.ErrForm)
	}
}

func shuffled[T any](next func(limit int) int, l []T) []T {
	var fresh []T
	for _, v := range l {
		fresh = slices.Insert(fresh, next(len(fresh)+1), v)
	}
	return fresh
}

// fullList has a write for each block, most of which are in cycles, and often in exchanges.
func fullList(next func(limit int) int) []impl.Step {
	tos := shuffled(next, upTo(0, impl.MaxBlocks))
	froms := shuffled(next, tos)
	if next(4) == 0 {
		for i := range froms {
			froms[i] = tos[i^1]
		}
	}
	var l []impl.Step
	for i, to := range tos {
		switch next(15) {
		case 0:
			l = append(l, arbitraryWrite(next, to, impl.MaxBlocks))
		case 1, 2:
			l = append(l, xoring(to, froms[i], arbitraryData(next)))
		default:
			l = append(l, copying(to, froms[i]))
		}
	}
	return shuffled(next, l)
}

func TestAPlanPerformsEveryWriteOnceInPlace(t *testing.T) {
	next := numbers(61)
	slots, lengths := map[int64]int{}, map[int]int{}
	for i := range 12000 {
		image := arbitraryImage(next, 1+next(impl.MaxBlocks))
		l := arbitraryList(next, len(image))
		if i%3 == 0 {
			image, l = arbitraryImage(next, impl.MaxBlocks), fullList(next)
		}
		planHolds(t, "an arbitrary list", image, l)
		slots[cyclesOf(l)]++
		lengths[len(onlyWrites(l))]++
		if t.Failed() {
			return
		}
	}
	for count, least := range []int{3000, 1000, 500, 100, 100} {
		if slots[int64(count)] < least {
			t.Errorf("only %d lists had %d cycles", slots[int64(count)], count)
		}
	}
	for count := range impl.MaxBlocks + 1 {
		if lengths[count] < 100 {
			t.Errorf("only %d lists had %d writes", lengths[count], count)
		}
	}
}

func TestPlansOfDifferences(t *testing.T) {
	next := numbers(67)
	for range 4000 {
		old := arbitraryImage(next, 1+next(impl.MaxBlocks))
		fresh := edited(next, old)
		l := impl.StepsFor(old, fresh)
		planHolds(t, "a difference", old, l)
		imageOutIs(t, "a difference", impl.PlanRun(old, l, impl.PlanOf(l, int64(len(old))).Moves), fresh)
		if t.Failed() {
			return
		}
	}
}

func TestPlanOfDependsOnlyOnTheSteps(t *testing.T) {
	for blocks := int64(1); blocks <= impl.MaxBlocks; blocks++ {
		for shift := range blocks {
			for kind := range 4 {
				l := oneForEachBlock(blocks, kind, shift)
				want := planExpected(l)
				for have := blocks; have <= impl.MaxBlocks; have++ {
					movesAre(t, "more blocks", l, impl.PlanOf(l, have), want)
					planHolds(t, "more blocks", patternImage(int(have)), l)
				}
			}
		}
	}
}

func TestPlanOfErrors(t *testing.T) {
	for _, l := range listsOfEachCode() {
		if l.code == impl.OK {
			movesAre(t, l.what, l.steps, impl.PlanOf(l.steps, 2), planExpected(l.steps))
		} else {
			planFails(t, l.what, l.steps, 2, l.code)
		}
		for _, blocks := range []int64{0, -1, -2, impl.MaxBlocks + 1, impl.MaxBlocks + 2, 1<<8 + 2, 1<<32 + 2, -1<<32 + 2, math.MaxInt64, math.MinInt64, math.MinInt64 + 2} {
			planFails(t, l.what+", for no number of blocks", l.steps, blocks, impl.ErrForm)
		}
	}
	for _, l := range hugeStepLists() {
		for _, blocks := range append(edgesOfBlocks(), impl.MaxBlocks) {
			planFails(t, l.what, l.steps, blocks, impl.ErrSize)
		}
	}
}

func TestPlanOfAnyTwoSteps(t *testing.T) {
	steps := append(validSteps(2)[:20], copying(0, 2), putting(1, data8[1:]), label(5), label(3), impl.Step{}, zeroing(-1))
	seen := map[int64]int{}
	for _, a := range steps {
		for _, b := range steps {
			for blocks := int64(0); blocks <= impl.MaxBlocks+1; blocks++ {
				l := []impl.Step{a, b}
				code := listCode(l, blocks)
				if blocks < 1 || blocks > impl.MaxBlocks {
					code = impl.ErrForm
				}
				seen[code]++
				if code == impl.OK {
					movesAre(t, "two steps", l, impl.PlanOf(l, blocks), planExpected(l))
				} else {
					planFails(t, "two steps", l, blocks, code)
				}
			}
		}
	}
	for _, code := range []int64{impl.OK, impl.ErrForm, impl.ErrTwice, impl.ErrRange} {
		if seen[code] < 16 {
			t.Errorf("only %d lists had the code %d", seen[code], code)
		}
	}
}

// edgeKinds has numbers that are nearly the kinds of moves.
func edgeKinds() []int64 {
	return []int64{0, -1, -2, 3, 4, 1<<8 + 1, 1<<32 + 1, 1<<32 + 2, -1 << 32, math.MinInt64, math.MinInt64 + 1, math.MaxInt64}
}

func TestSlotsOf(t *testing.T) {
	known := []struct {
		what string
		l    []impl.Move
		want int64
	}{
		{"nil", nil, 0},
		{"empty", []impl.Move{}, 0},
		{"a stash", []impl.Move{stashing(0, 0, 0)}, 1},
		{"a write", []impl.Move{doing(0, 0)}, 0},
		{"no kind", []impl.Move{{}}, 0},
		{"a stash between writes", []impl.Move{doing(0, 0), stashing(1, 1, 0), doing(1, 1)}, 1},
		{"writes between stashes", []impl.Move{stashing(1, 1, 0), doing(1, 1), stashing(0, 0, 1)}, 2},
		{"equal stashes", []impl.Move{stashing(1, 1, 0), stashing(1, 1, 0), stashing(1, 1, 0)}, 3},
		{"a stash with great fields", []impl.Move{stashing(math.MaxInt64, math.MinInt64, math.MaxInt64)}, 1},
		{"a stash with negative fields", []impl.Move{doing(-1, -1), stashing(-1, -1, -1)}, 1},
		{"a write with a slot", []impl.Move{{Kind: impl.PlDo, Slot: 7}}, 0},
	}
	for _, k := range known {
		slotsAre(t, k.what, k.l, k.want)
	}
	for _, kind := range edgeKinds() {
		slotsAre(t, "another kind", []impl.Move{{Kind: kind}, stashing(0, 0, 0), {Kind: kind, Step: 1, Block: 1, Slot: 1}}, 1)
	}
}

// moveCounts has the sizes at the limits.
func moveCounts() []int {
	return []int{0, 1, 2, 12, 39, 40, 41, 42, impl.MaxList - 1, impl.MaxList, impl.MaxList + 1, 100000}
}

func TestSlotsOfTheLongestLists(t *testing.T) {
	for _, size := range moveCounts() {
		want := int64(size)
		if size > 40 {
			want = 0
		}
		slotsAre(t, "only stashes", slices.Repeat([]impl.Move{stashing(0, 0, 0)}, size), want)
		slotsAre(t, "only writes", slices.Repeat([]impl.Move{doing(0, 0)}, size), 0)
		for _, at := range []int{0, size / 2, size - 1} {
			l := slices.Repeat([]impl.Move{doing(3, 3)}, size)
			if at >= 0 && at < size {
				l[at] = stashing(0, 0, 0)
				slotsAre(t, "one stash", l, min(want, 1))
			}
		}
	}
}

func TestSourceOf(t *testing.T) {
	l := []impl.Move{doing(2, 5), stashing(0, 3, 0), doing(0, 3), stashing(1, 0, 1), doing(1, 0), stashing(4, 7, 2), doing(4, 7)}
	known := []struct {
		what  string
		l     []impl.Move
		block int64
		want  []int64
	}{
		{"a block in the first slot", l, 3, []int64{-1, -1, 0, 0, 0, 0, 0, 0}},
		{"the first block", l, 0, []int64{-1, -1, -1, -1, 1, 1, 1, 1}},
		{"the last block", l, 7, []int64{-1, -1, -1, -1, -1, -1, 2, 2}},
		{"a block that is only written", l, 5, []int64{-1, -1, -1, -1, -1, -1, -1, -1}},
		{"a block without a move", l, 1, []int64{-1, -1, -1, -1, -1, -1, -1, -1}},
		{"a block with the number of a step", l, 4, []int64{-1, -1, -1, -1, -1, -1, -1, -1}},
		{"a block with the number of a slot", l, 2, []int64{-1, -1, -1, -1, -1, -1, -1, -1}},
		{"the block before the first one", l, -1, slices.Repeat([]int64{-2}, 8)},
		{"the block behind the last one", l, 8, slices.Repeat([]int64{-2}, 8)},
		{"no moves", nil, 0, []int64{-1}},
		{"no moves, the last block", []impl.Move{}, 7, []int64{-1}},
		{"no moves, the block behind the last one", nil, 8, []int64{-2}},
		{"any slot", []impl.Move{stashing(0, 1, 399)}, 1, []int64{-1, 399}},
		{"the greatest slot", []impl.Move{stashing(0, 1, math.MaxInt64)}, 1, []int64{-1, math.MaxInt64}},
		{"the least slot", []impl.Move{stashing(0, 1, math.MinInt64)}, 1, []int64{-1, math.MinInt64}},
		{"two stashes of one block", []impl.Move{stashing(0, 1, 5), doing(0, 1), stashing(0, 1, 6)}, 1, []int64{-1, 5, 5, 5}},
		{"a write with a slot", []impl.Move{{Kind: impl.PlDo, Block: 1, Slot: 4}, stashing(0, 1, 6)}, 1, []int64{-1, -1, 6}},
		{"no kind", []impl.Move{{Slot: 4}, stashing(0, 0, 6)}, 0, []int64{-1, -1, 6}},
		{"a stash of a block that no image has", []impl.Move{stashing(0, 8, 4), stashing(0, -1, 5), stashing(0, 1<<32+1, 6)}, 1, []int64{-1, -1, -1, -1}},
		{"a block that no image has", []impl.Move{stashing(0, 8, 4)}, 8, []int64{-2, -2}},
	}
	for _, k := range known {
		for done, want := range k.want {
			sourceIs(t, k.what, k.l, int64(done), k.block, want)
		}
		sourceIs(t, k.what+", one move too many", k.l, int64(len(k.l)+1), k.block, -2)
		sourceIs(t, k.what+", a negative number of moves", k.l, -1, k.block, -2)
	}
	for _, kind := range edgeKinds() {
		sourceIs(t, "another kind", []impl.Move{{Kind: kind, Block: 2, Slot: 3}}, 1, 2, -1)
	}
}

func TestSourceOfNumbersOutside(t *testing.T) {
	l := []impl.Move{stashing(0, 0, 9), stashing(0, 1, 8), stashing(0, 7, 7)}
	for _, done := range []int64{-1, -2, -3, 4, 5, 8, 1 << 8, 1 << 32, 1<<32 + 1, -1 << 32, math.MaxInt64, math.MinInt64, math.MinInt64 + 3} {
		for _, block := range edgesOfBlocks() {
			sourceIs(t, "done outside", l, done, block, -2)
		}
	}
	for _, block := range blocksOutside(impl.MaxBlocks) {
		for done := range int64(4) {
			sourceIs(t, "a block outside", append(l[:2:2], stashing(0, block, 7)), done, block, -2)
		}
	}
}

func TestSourceOfTheLongestLists(t *testing.T) {
	for _, size := range moveCounts() {
		for _, at := range []int{0, size / 2, size - 1} {
			if at < 0 || at >= size {
				continue
			}
			l := slices.Repeat([]impl.Move{doing(3, 3)}, size)
			l[at] = stashing(2, 6, 11)
			if size > 40 {
				for _, done := range []int{0, 1, at, at + 1, 40, 41, size} {
					sourceIs(t, "too many moves", l, int64(done), 6, -2)
					sourceIs(t, "too many moves", l, int64(done), 3, -2)
				}
				continue
			}
			sourceIs(t, "not yet", l, int64(at), 6, -1)
			sourceIs(t, "just now", l, int64(at+1), 6, 11)
			sourceIs(t, "in the end", l, int64(size), 6, 11)
			sourceIs(t, "another block", l, int64(size), 3, -1)
			sourceIs(t, "one more", l, int64(size+1), 6, -2)
		}
	}
}

// sourceExpected goes backwards, where the program goes forwards.
func sourceExpected(l []impl.Move, done int64, block int64) int64 {
	if done < 0 || done > int64(len(l)) || block < 0 || block > 7 {
		return -2
	}
	source := int64(-1)
	for ; done > 0; done-- {
		if m := l[done-1]; m.Kind == 1 && m.Block == block {
			source = m.Slot
		}
	}
	return source
}

func TestSourceOfArbitraryMoves(t *testing.T) {
	next := numbers(71)
	seen := map[int64]int{}
	for range 4000 {
		var l []impl.Move
		stashes := int64(0)
		for range next(41) {
			m := impl.Move{Kind: int64(next(4)), Step: int64(next(10)), Block: int64(next(12) - 2), Slot: int64(next(6))}
			if m.Kind == impl.PlStash {
				stashes++
			}
			l = append(l, m)
		}
		slotsAre(t, "arbitrary moves", l, stashes)
		for done := int64(-1); done <= int64(len(l)+1); done++ {
			block := int64(next(10) - 1)
			want := sourceExpected(l, done, block)
			seen[want]++
			sourceIs(t, "arbitrary moves", l, done, block, want)
		}
		if t.Failed() {
			return
		}
	}
	for source := int64(-2); source < 6; source++ {
		if seen[source] < 1000 {
			t.Errorf("only %d blocks were at the place %d", seen[source], source)
		}
	}
}

// changedMoves has the move with each field changed.
func changedMoves(m impl.Move) []impl.Move {
	var l []impl.Move
	for _, by := range []int64{1, -1, 2, 8, 1 << 32, math.MinInt64} {
		l = append(l,
			impl.Move{Kind: m.Kind + by, Step: m.Step, Block: m.Block, Slot: m.Slot},
			impl.Move{Kind: m.Kind, Step: m.Step + by, Block: m.Block, Slot: m.Slot},
			impl.Move{Kind: m.Kind, Step: m.Step, Block: m.Block + by, Slot: m.Slot},
			impl.Move{Kind: m.Kind, Step: m.Step, Block: m.Block, Slot: m.Slot + by})
	}
	return append(l, impl.Move{})
}

// otherPlans has the moves with one too few, one too many, two exchanged or one changed.
func otherPlans(moves []impl.Move) [][]impl.Move {
	var l [][]impl.Move
	more := []impl.Move{{}, doing(0, 0), stashing(0, 0, 0), doing(int64(len(moves)), 0)}
	for i, m := range moves {
		l = append(l, moves[:i:i], slices.Delete(slices.Clone(moves), i, i+1))
		for _, extra := range append(more, m) {
			l = append(l, slices.Insert(slices.Clone(moves), i, extra))
		}
		for _, changed := range changedMoves(m) {
			other := slices.Clone(moves)
			other[i] = changed
			l = append(l, other)
		}
		for j := range i {
			other := slices.Clone(moves)
			other[i], other[j] = other[j], other[i]
			l = append(l, other)
		}
	}
	for _, extra := range more {
		l = append(l, append(slices.Clone(moves), extra))
	}
	return append(l, slices.Repeat(more, 10), make([]impl.Move, 41), make([]impl.Move, impl.MaxList-1), make([]impl.Move, impl.MaxList), slices.Concat(moves, make([]impl.Move, impl.MaxList-len(moves))))
}

func TestPlanRunTakesNoOtherMoves(t *testing.T) {
	image := letterImage("abcdefgh")
	for _, k := range append(plansOfOrders(), plansOfCycles()...) {
		for _, l := range [][]impl.Step{k.steps, labelled(onlyWrites(k.steps))} {
			for _, moves := range otherPlans(k.moves) {
				runFails(t, k.what, image, l, moves, impl.ErrState)
			}
		}
	}
}

// The moves would yield the updated image, but are not those of the plan.
func TestPlanRunTakesNoOtherOrder(t *testing.T) {
	known := []struct {
		what  string
		steps []impl.Step
		moves []impl.Move
	}{
		{"independent writes in the opposite order", []impl.Step{zeroing(0), zeroing(1)}, []impl.Move{doing(1, 1), doing(0, 0)}},
		{"a stash that is not needed", []impl.Step{zeroing(0)}, []impl.Move{stashing(0, 0, 0), doing(0, 0)}},
		{"a stash instead of another order", []impl.Step{zeroing(0), copying(1, 0)}, []impl.Move{stashing(0, 0, 0), doing(0, 0), doing(1, 1)}},
		{"a stash of the other block", []impl.Step{copying(0, 1), copying(1, 0)}, []impl.Move{stashing(1, 1, 0), doing(1, 1), doing(0, 0)}},
		{"another slot", []impl.Step{copying(0, 1), copying(1, 0)}, []impl.Move{stashing(0, 0, 1), doing(0, 0), doing(1, 1)}},
		{"a write that is done twice", []impl.Step{zeroing(0)}, []impl.Move{doing(0, 0), doing(0, 0)}},
		{"no write of a block to itself", []impl.Step{copying(1, 1)}, nil},
		{"the indexes among all steps", []impl.Step{label(1), zeroing(0)}, []impl.Move{doing(1, 0)}},
		{"the plan of other steps", []impl.Step{putting(0, data8)}, impl.PlanOf([]impl.Step{putting(1, data8)}, 2).Moves},
	}
	for _, k := range known {
		runFails(t, k.what, letterImage("ab"), k.steps, k.moves, impl.ErrState)
	}
	same := impl.PlanOf([]impl.Step{putting(0, ones8)}, 5).Moves
	imageOutIs(t, "equal moves of other steps", impl.PlanRun(letterImage("ab"), []impl.Step{zeroing(0)}, same), []string{zeros8, "bbbbbbbb"})
}

func TestPlanRunWithoutWrites(t *testing.T) {
	for _, v := range validImages() {
		for _, l := range [][]impl.Step{nil, {}, labels(0), labels(upTo(0, impl.MaxSteps)...)} {
			imageOutIs(t, v.what+", nil", impl.PlanRun(v.image, l, nil), v.image)
			imageOutIs(t, v.what+", empty", impl.PlanRun(v.image, l, []impl.Move{}), v.image)
			planIs(t, v.what, v.image, l, nil)
			for _, moves := range [][]impl.Move{{{}}, {doing(0, 0)}, {stashing(0, 0, 0)}} {
				runFails(t, v.what, v.image, l, moves, impl.ErrState)
			}
		}
	}
}

// movesOfEachSort are plans of some steps for two blocks, and no plans.
func movesOfEachSort() [][]impl.Move {
	return [][]impl.Move{nil, {doing(0, 0)}, {doing(0, 0), doing(1, 1)}, {stashing(0, 0, 0), doing(0, 0), doing(1, 1)}, {{}}, make([]impl.Move, 41), make([]impl.Move, impl.MaxList)}
}

func TestPlanRunChecksTheStepsBeforeTheMoves(t *testing.T) {
	for _, l := range listsOfEachCode() {
		for _, image := range [][]string{letterImage("ab"), {zeros8, zeros8}} {
			for _, moves := range movesOfEachSort() {
				if l.code != impl.OK {
					runFails(t, l.what, image, l.steps, moves, l.code)
				} else if slices.Equal(moves, planExpected(l.steps)) {
					imageOutIs(t, l.what, impl.PlanRun(image, l.steps, moves), imageMade(image, l.steps))
				} else {
					runFails(t, l.what, image, l.steps, moves, impl.ErrState)
				}
			}
		}
	}
}

func TestPlanRunNeedsTheNumberOfBlocksOfTheImage(t *testing.T) {
	for blocks := int64(1); blocks <= impl.MaxBlocks; blocks++ {
		last := blocks - 1
		for _, l := range [][]impl.Step{{zeroing(last)}, {putting(last, data8)}, {copying(last, 0)}, {copying(0, last)}, {xoring(0, last, data8), label(1)}, {label(1), zeroing(0), copying(last, last)}} {
			moves := impl.PlanOf(l, impl.MaxBlocks).Moves
			for have := 1; have <= impl.MaxBlocks; have++ {
				image := patternImage(have)
				switch {
				case blocks == 1 && len(l) == 3:
					runFails(t, "two writes to one block", image, l, moves, impl.ErrTwice)
				case int64(have) < blocks:
					runFails(t, "too few blocks", image, l, moves, impl.ErrForm)
					runFails(t, "too few blocks and no plan", image, l, append(moves, impl.Move{}), impl.ErrForm)
				default:
					planIs(t, "enough blocks", image, l, moves)
				}
			}
		}
	}
}

func TestPlanRunChecksTheImageFirst(t *testing.T) {
	for _, v := range invalidImages() {
		for _, l := range listsOfEachCode() {
			for _, moves := range movesOfEachSort() {
				runFails(t, v.what+" with "+l.what, v.image, l.steps, moves, impl.ErrForm)
			}
		}
		exchange := []impl.Step{copying(0, 1), copying(1, 0)}
		runFails(t, v.what, v.image, exchange, impl.PlanOf(exchange, 2).Moves, impl.ErrForm)
	}
}

func TestPlanRunSizeLimitsComeFirst(t *testing.T) {
	huge := [][]impl.Move{make([]impl.Move, impl.MaxList+1), slices.Repeat([]impl.Move{doing(0, 0)}, impl.MaxList+2), make([]impl.Move, 5000)}
	images := slices.Concat(validImages()[:4], invalidImages()[:12])
	lists := listsOfEachCode()
	for _, v := range append(images, hugeImages()...) {
		for _, l := range append(lists, hugeStepLists()...) {
			for _, moves := range huge {
				runFails(t, v.what+" with "+l.what+" and too many moves", v.image, l.steps, moves, impl.ErrSize)
			}
		}
	}
	for _, moves := range movesOfEachSort() {
		for _, v := range append(images, hugeImages()...) {
			for _, l := range hugeStepLists() {
				runFails(t, v.what+" with "+l.what, v.image, l.steps, moves, impl.ErrSize)
			}
		}
		for _, v := range hugeImages() {
			for _, l := range lists {
				runFails(t, v.what+" with "+l.what, v.image, l.steps, moves, impl.ErrSize)
			}
		}
	}
}

func overwriteMoves(l []impl.Move) {
	l = l[:cap(l)]
	for i := range l {
		l[i] = impl.Move{Kind: 99, Step: 99, Block: 99, Slot: 99}
	}
}

func TestPlansAreNewAndArgumentsNotChanged(t *testing.T) {
	for _, k := range append(plansOfOrders(), plansOfCycles()...) {
		for _, v := range []namedImage{{"valid", letterImage("abcdefgh")}, {"with too few blocks", letterImage("ab")}, {"invalid", []string{"a", "b"}}} {
			image, steps, moves := withRoomBehind(v.image), withRoomBehind(k.steps), withRoomBehind(k.moves)
			first := impl.PlanRun(image, steps, moves).Image
			before := slices.Clone(first)
			overwriteBlocks(impl.PlanRun(image, steps, moves).Image)
			blocksAre(t, "the first result", first, before)
			plan := impl.PlanOf(steps, impl.MaxBlocks).Moves
			overwriteMoves(impl.PlanOf(steps, impl.MaxBlocks).Moves)
			if !slices.Equal(plan, k.moves) {
				t.Errorf("%s: the plan changed to %s", k.what, shown(plan))
			}
			impl.PlanRun(image, steps, slices.Concat(moves, moves))
			impl.SlotsOf(moves)
			for _, block := range edgesOfBlocks() {
				impl.SourceOf(moves, int64(len(moves)), block)
			}
			onlyHas(t, "the image", image, v.image)
			onlyHas(t, "the steps", steps, k.steps)
			onlyHas(t, "the moves", moves, k.moves)
		}
	}
}
