package tests

import (
	"fmt"
	"math"
	"slices"
	"sync"
	"testing"

	"loop.example/g00055/impl"
)

func TestLabLimits(t *testing.T) {
	for name, pair := range map[string][2]int64{
		"MaxId":      {impl.MaxId, idMost},
		"MaxLeft":    {impl.MaxLeft, leftMost},
		"MaxSamples": {impl.MaxSamples, samplesMost},
		"MaxJobs":    {impl.MaxJobs, jobsMost},
		"MaxDeeds":   {impl.MaxDeeds, deedsMost},
		"PlShelf":    {impl.PlShelf, 1},
		"PlArm":      {impl.PlArm, 2},
		"PlBeam":     {impl.PlBeam, 3},
		"PlGone":     {impl.PlGone, 4},
		"JbWaits":    {impl.JbWaits, 1},
		"JbDone":     {impl.JbDone, 2},
		"JbOff":      {impl.JbOff, 3},
		"DdBring":    {impl.DdBring, 1},
		"DdAsk":      {impl.DdAsk, 2},
		"DdTake":     {impl.DdTake, 3},
		"DdPut":      {impl.DdPut, 4},
		"DdBack":     {impl.DdBack, 5},
		"DdMeasure":  {impl.DdMeasure, 6},
		"DdCancel":   {impl.DdCancel, 7},
		"DdThrow":    {impl.DdThrow, 8},
		"LbBad":      {impl.LbBad, 1},
		"LbDeed":     {impl.LbDeed, 2},
		"LbFull":     {impl.LbFull, 3},
		"LbThere":    {impl.LbThere, 4},
		"LbNone":     {impl.LbNone, 5},
		"LbPlace":    {impl.LbPlace, 6},
		"LbState":    {impl.LbState, 7},
		"LbLittle":   {impl.LbLittle, 8},
	} {
		if pair[0] != pair[1] {
			t.Error(name, pair)
		}
	}
}

func checkLab(t *testing.T, l impl.Lab) bool {
	t.Helper()
	got := impl.LabOk(l)
	if got != isLabByRule(l) {
		t.Errorf("%.300v: %v", l, got)
	}
	return got
}

func TestLabOkByHand(t *testing.T) {
	for name, l := range map[string]impl.Lab{
		"nothing":                {},
		"empty lists":            {Samples: []impl.Sample{}, Jobs: []impl.Job{}},
		"one sample":             labOf(samplesOf(sampleOf(1, shelf, 0)), nil),
		"samples alone":          labOf(samplesOf(sampleOf(1, shelf, 0), sampleOf(2, gone, 1000), sampleOf(1000000, shelf, 5)), nil),
		"on the arm":             labOf(samplesOf(sampleOf(4, shelf, 1), sampleOf(7, arm, 1)), nil),
		"in the beam":            labOf(samplesOf(sampleOf(4, beam, 1), sampleOf(7, gone, 1)), nil),
		"one of each":            labOf(samplesOf(sampleOf(4, beam, 1), sampleOf(5, arm, 1)), nil),
		"one of each, turned":    labOf(samplesOf(sampleOf(4, arm, 1), sampleOf(5, beam, 1)), nil),
		"many gone":              labOf(samplesOf(sampleOf(4, gone, 1), sampleOf(5, gone, 1), sampleOf(6, gone, 0)), nil),
		"a job that waits":       {Samples: samplesOf(sampleOf(4, shelf, 1)), Jobs: jobsOf(jobOf(4, 1, 9, waits))},
		"a job that is done":     {Samples: samplesOf(sampleOf(4, shelf, 1)), Jobs: jobsOf(jobOf(4, 1, 9, done)), Told: 9},
		"a job that is off":      {Samples: samplesOf(sampleOf(4, shelf, 1)), Jobs: jobsOf(jobOf(4, 1, 9, off))},
		"jobs in any order":      {Samples: samplesOf(sampleOf(4, shelf, 1), sampleOf(6, beam, 2)), Jobs: jobsOf(jobOf(6, 9, 9, done), jobOf(4, 2, 5, done), jobOf(6, 1, 1, off), jobOf(4, 1, 1, waits)), Told: 14},
		"waits for what is gone": {Samples: samplesOf(sampleOf(4, gone, 1)), Jobs: jobsOf(jobOf(4, 1, 1, waits))},
		"orders of two samples":  {Samples: samplesOf(sampleOf(1, shelf, 1), sampleOf(2, shelf, 1)), Jobs: jobsOf(jobOf(1, 2, 1, waits), jobOf(2, 1, 1, waits), jobOf(1, 1, 1, waits), jobOf(2, 2, 1, waits))},
		"by hand":                handLab(),
		"full":                   fullLab(),
	} {
		if !checkLab(t, l) {
			t.Error(name)
		}
	}
	for name, l := range wrongLabs() {
		if checkLab(t, l) {
			t.Error(name)
		}
	}
}

// Each number of a sample and of a job at its limits and past them.
func TestLabOkAtTheEdges(t *testing.T) {
	type edge struct {
		name      string
		low, high int64
		lab       func(n int64) impl.Lab
	}
	one := samplesOf(sampleOf(7, shelf, 5))
	for _, e := range []edge{
		{"Id", 1, idMost, func(n int64) impl.Lab { return labOf(samplesOf(sampleOf(n, shelf, 5)), nil) }},
		{"Id of a job's", 1, idMost, func(n int64) impl.Lab {
			return labOf(samplesOf(sampleOf(n, shelf, 5)), jobsOf(jobOf(n, 1, 1, waits)))
		}},
		{"Place", shelf, gone, func(n int64) impl.Lab { return labOf(samplesOf(sampleOf(7, n, 5)), nil) }},
		{"Left", 0, leftMost, func(n int64) impl.Lab { return labOf(samplesOf(sampleOf(7, shelf, n)), nil) }},
		{"Order", 1, idMost, func(n int64) impl.Lab { return labOf(one, jobsOf(jobOf(7, n, 5, waits))) }},
		{"Need", 1, leftMost, func(n int64) impl.Lab { return labOf(one, jobsOf(jobOf(7, 1, n, waits))) }},
		{"Need of what is done", 1, leftMost, func(n int64) impl.Lab { return labOf(one, jobsOf(jobOf(7, 1, n, done))) }},
		{"Need of what is off", 1, leftMost, func(n int64) impl.Lab { return labOf(one, jobsOf(jobOf(7, 1, n, off))) }},
		{"State", waits, off, func(n int64) impl.Lab {
			l := labOf(one, jobsOf(jobOf(7, 1, 5, n)))
			return l
		}},
	} {
		inside, outside := edgesOf(e.low, e.high)
		for _, n := range inside {
			if !checkLab(t, e.lab(n)) {
				t.Error(e.name, n)
			}
		}
		for _, n := range outside {
			if checkLab(t, e.lab(n)) {
				t.Error(e.name, n)
			}
		}
	}
	// Needs whose sum would come round to what is told.
	wrap := labOf(one, jobsOf(jobOf(7, 1, math.MaxInt64, done), jobOf(7, 2, math.MaxInt64, done), jobOf(7, 3, 2, done)))
	if checkLab(t, wrap) || wrap.Told != 0 {
		t.Error(wrap.Told)
	}
}

func TestLabOkOfAsManyAsThereMayBe(t *testing.T) {
	full := fullLab()
	if !checkLab(t, full) {
		t.Error("full")
	}
	more := cloneLab(full)
	more.Samples = append(more.Samples, sampleOf(5000, shelf, 1))
	if checkLab(t, more) {
		t.Error("samples")
	}
	more = cloneLab(full)
	more.Jobs = append(more.Jobs, jobOf(10, 5000, 1, waits))
	if checkLab(t, more) {
		t.Error("jobs")
	}
	most := cloneLab(full)
	for i := range most.Jobs {
		most.Jobs[i].Need, most.Jobs[i].State = leftMost, done
	}
	for told := int64(300000 - 1); told <= 300000+1; told++ {
		most.Told = told
		if checkLab(t, most) != (told == 300000) {
			t.Error(told)
		}
	}
	past := cloneLab(most)
	past.Jobs = append(past.Jobs, jobOf(10, 5000, leftMost, done))
	past.Told = 301000
	if checkLab(t, past) {
		t.Error("past Told")
	}
	for _, count := range []int{samplesMost - 1, samplesMost} {
		l := labOf(slices.Clone(full.Samples[:count]), nil)
		if !checkLab(t, l) {
			t.Error(count)
		}
		// The first one and the last one of so many are told wrong too.
		for _, at := range []int{0, count - 1} {
			wrong := cloneLab(l)
			wrong.Samples[at].Left = leftMost + 1
			if checkLab(t, wrong) {
				t.Error(count, at)
			}
		}
	}
	// A job that stands twice, the first and the last of as many as there may be.
	twice := cloneLab(full)
	twice.Jobs[jobsMost-1] = twice.Jobs[0]
	if checkLab(t, twice) {
		t.Error("twice")
	}
}

// spoiltLab changes one or two numbers, or what stands where.
func (d *dice) spoiltLab(l impl.Lab) impl.Lab {
	l = cloneLab(l)
	for range d.between(1, 2) {
		s, j := &impl.Sample{}, &impl.Job{}
		if len(l.Samples) > 0 {
			s = &l.Samples[d.between(0, int64(len(l.Samples)-1))]
		}
		if len(l.Jobs) > 0 {
			j = &l.Jobs[d.between(0, int64(len(l.Jobs)-1))]
		}
		switch d.between(0, 11) {
		case 0:
			s.Id += d.between(-1, 1)
		case 1:
			s.Place = d.between(shelf-1, gone+1)
		case 2:
			s.Left = d.wildUpTo(leftMost)
		case 3:
			s.Id = d.wildUpTo(idMost)
		case 4:
			j.Sample += d.between(-1, 1)
		case 5:
			j.Order = d.between(0, 3)
		case 6:
			j.Need = d.wildUpTo(leftMost)
		case 7:
			j.State = d.between(waits-1, off+1)
		case 8:
			l.Told += d.between(-1, 1)
		case 9:
			*s, *j = sampleOf(s.Id, beam, s.Left), jobOf(j.Sample, j.Order, d.between(1, 9), j.State)
		case 10:
			l.Jobs = append(l.Jobs, *j)
		case 11:
			l.Samples = slices.Insert(l.Samples, 0, *s)
		}
	}
	if d.between(0, 2) == 0 {
		l.Told = usedByRule(l.Jobs)
	}
	return l
}

func TestLabOkByRule(t *testing.T) {
	var d dice
	kinds := [2]int{}
	for range 20000 {
		l := d.drawnLab(int(d.between(0, 5)), int(d.between(0, 5)), 3)
		if !checkLab(t, l) {
			t.Fatal(l)
		}
		if checkLab(t, d.spoiltLab(l)) {
			kinds[0]++
		} else {
			kinds[1]++
		}
	}
	if slices.Min(kinds[:]) < 2000 {
		t.Error("too few of a kind:", kinds)
	}
}

// checkDo holds a deed against the reckoning of one's own, and what comes of it
// against what P21 tells; it answers the code.
func checkDo(t *testing.T, l impl.Lab, d impl.Deed) (impl.Lab, int64) {
	t.Helper()
	got, code := impl.LabDo(l, d)
	want, wantCode := doByRule(l, d)
	if code != wantCode || !sameLab(got, want) {
		t.Errorf("%v in %.400v: %v %.400v, not %v %.400v", d, l, code, got, wantCode, want)
	}
	checkKept21(t, l, got, code)
	return got, code
}

// checkKept21: P21 of one deed, by what the lab was and what it has come to.
func checkKept21(t *testing.T, was, is impl.Lab, code int64) {
	t.Helper()
	switch {
	case code == labBad:
		if isLabByRule(was) || !isZeroLab(is) {
			t.Errorf("%.300v %.300v", was, is)
		}
		return
	case code != 0:
		if !sameLab(was, is) {
			t.Errorf("%d changes %.300v to %.300v", code, was, is)
		}
		return
	}
	if !isLabByRule(is) {
		t.Errorf("not right: %.300v", is)
	}
	left, lost := bookOf(is), int64(0)
	for _, s := range was.Samples {
		now, ok := left.samples[s.Id]
		if !ok || now.Left > s.Left {
			t.Errorf("%v is lost: %.300v", s, is)
		}
		lost += s.Left - now.Left
	}
	if is.Told-was.Told != lost {
		t.Errorf("told %d, but %d is lost", is.Told-was.Told, lost)
	}
	if len(is.Jobs) < len(was.Jobs) || len(is.Samples)+len(is.Jobs) > len(was.Samples)+len(was.Jobs)+1 {
		t.Errorf("%.300v %.300v", was, is)
		return
	}
	for i, j := range was.Jobs {
		now := is.Jobs[i]
		state := now.State
		now.State = j.State
		if now != j || j.State != waits && state != j.State {
			t.Errorf("%v has come to %v", j, is.Jobs[i])
		}
	}
}

// deedCase: a deed in the hand lab, its code, and how the lab has changed.
type deedCase struct {
	deed   impl.Deed
	code   int64
	change func(l *impl.Lab)
}

func checkCases(t *testing.T, l impl.Lab, cases []deedCase) {
	t.Helper()
	for _, c := range cases {
		want := cloneLab(l)
		if c.change != nil {
			c.change(&want)
		}
		got, code := checkDo(t, l, c.deed)
		if code != c.code || !sameLab(got, want) {
			t.Errorf("%v: %d %v", c.deed, code, got)
		}
	}
}

func TestBringByHand(t *testing.T) {
	behind := func(at int, s impl.Sample) func(l *impl.Lab) {
		return func(l *impl.Lab) { l.Samples = slices.Insert(l.Samples, at, s) }
	}
	checkCases(t, handLab(), []deedCase{
		{deedOf(bring, 1, 0, 6), 0, behind(0, sampleOf(1, shelf, 6))},
		{deedOf(bring, 4, 0, 0), 0, behind(1, sampleOf(4, shelf, 0))},
		{deedOf(bring, 10, -1, 1000), 0, behind(4, sampleOf(10, shelf, 1000))},
		{deedOf(bring, 1000000, 0, 1), 0, behind(5, sampleOf(1000000, shelf, 1))},
		{deedOf(bring, 3, 0, 6), labThere, nil},
		{deedOf(bring, 9, 0, 6), labThere, nil},
		{deedOf(bring, 12, 0, 1000), labThere, nil},
		{deedOf(bring, 3, 0, 1001), labDeed, nil},
		{deedOf(bring, 0, 0, 6), labDeed, nil},
	})
	checkCases(t, impl.Lab{}, []deedCase{
		{deedOf(bring, 7, 0, 6), 0, func(l *impl.Lab) { l.Samples = samplesOf(sampleOf(7, shelf, 6)) }},
	})
}

func TestAskByHand(t *testing.T) {
	behind := func(j impl.Job) func(l *impl.Lab) {
		return func(l *impl.Lab) { l.Jobs = append(l.Jobs, j) }
	}
	checkCases(t, handLab(), []deedCase{
		{deedOf(ask, 3, 7, 6), 0, behind(jobOf(3, 7, 6, waits))},
		{deedOf(ask, 5, 1, 1000), 0, behind(jobOf(5, 1, 1000, waits))},
		{deedOf(ask, 8, 4, 1), 0, behind(jobOf(8, 4, 1, waits))},
		{deedOf(ask, 12, 1000000, 5), 0, behind(jobOf(12, 1000000, 5, waits))},
		{deedOf(ask, 3, 1, 6), labThere, nil},   // waits
		{deedOf(ask, 3, 4, 6), labThere, nil},   // done
		{deedOf(ask, 3, 3, 6), labThere, nil},   // off
		{deedOf(ask, 9, 7, 6), labThere, nil},   // gone, too
		{deedOf(ask, 9, 2, 6), labPlace, nil},   // gone
		{deedOf(ask, 4, 1, 6), labNone, nil},    // no sample
		{deedOf(ask, 13, 9, 6), labNone, nil},   // behind the last one
		{deedOf(ask, 4, 1, 0), labDeed, nil},    // no Need
		{deedOf(ask, 3, 1, 1001), labDeed, nil}, // too great
		{deedOf(ask, 3, 0, 6), labDeed, nil},
	})
}

func TestMovesByHand(t *testing.T) {
	moved := func(at int, place int64) func(l *impl.Lab) {
		return func(l *impl.Lab) { l.Samples[at].Place = place }
	}
	both := labOf(samplesOf(sampleOf(1, shelf, 1), sampleOf(2, arm, 1), sampleOf(3, beam, 1), sampleOf(4, gone, 1)), nil)
	checkCases(t, both, []deedCase{
		{deedOf(take, 1, 0, 0), labPlace, nil}, // the arm is taken
		{deedOf(take, 2, 0, 0), labPlace, nil}, // is there
		{deedOf(take, 3, 0, 0), labPlace, nil},
		{deedOf(take, 4, 0, 0), labPlace, nil},
		{deedOf(take, 5, 0, 0), labNone, nil},
		{deedOf(take, 0, 0, 0), labDeed, nil},
		{deedOf(put, 1, 0, 0), labPlace, nil},
		{deedOf(put, 2, 0, 0), labPlace, nil}, // the beam is taken
		{deedOf(put, 3, 0, 0), labPlace, nil}, // is there
		{deedOf(put, 4, 0, 0), labPlace, nil},
		{deedOf(put, 6, 0, 0), labNone, nil},
		{deedOf(back, 1, 0, 0), labPlace, nil},
		{deedOf(back, 2, 0, 0), 0, moved(1, shelf)},
		{deedOf(back, 3, 0, 0), labPlace, nil},
		{deedOf(back, 4, 0, 0), labPlace, nil},
		{deedOf(back, 1000000, 0, 0), labNone, nil},
		{deedOf(throw, 1, 0, 0), 0, moved(0, gone)},
		{deedOf(throw, 2, 0, 0), labPlace, nil},
		{deedOf(throw, 3, 0, 0), labPlace, nil},
		{deedOf(throw, 4, 0, 0), labPlace, nil},
		{deedOf(throw, 5, 0, 0), labNone, nil},
	})
	inBeam := labOf(samplesOf(sampleOf(1, shelf, 1), sampleOf(3, beam, 1)), nil)
	checkCases(t, inBeam, []deedCase{
		{deedOf(take, 1, 0, 0), 0, moved(0, arm)},
		{deedOf(take, 3, 0, 0), 0, moved(1, arm)},
		{deedOf(put, 1, 0, 0), labPlace, nil},
		{deedOf(back, 3, 0, 0), labPlace, nil},
	})
	onArm := labOf(samplesOf(sampleOf(1, shelf, 1), sampleOf(3, arm, 1)), nil)
	checkCases(t, onArm, []deedCase{
		{deedOf(take, 1, 0, 0), labPlace, nil},
		{deedOf(put, 3, 0, 0), 0, moved(1, beam)},
		{deedOf(back, 3, 0, 0), 0, moved(1, shelf)},
		{deedOf(put, 1, 0, 0), labPlace, nil},
	})
	onShelf := labOf(samplesOf(sampleOf(1, shelf, 0), sampleOf(3, shelf, 1000)), nil)
	checkCases(t, onShelf, []deedCase{
		{deedOf(take, 1, 0, 0), 0, moved(0, arm)},
		{deedOf(take, 3, 0, 0), 0, moved(1, arm)},
		{deedOf(throw, 3, 0, 0), 0, moved(1, gone)},
	})
}

func TestMeasureByHand(t *testing.T) {
	checkCases(t, handLab(), []deedCase{
		{deedOf(measure, 3, 1, 0), 0, func(l *impl.Lab) { // just as much is left as is needed
			l.Samples[0].Left, l.Jobs[0].State, l.Told = 0, done, l.Told+10
		}},
		{deedOf(measure, 3, 2, 0), labLittle, nil}, // one less than is needed
		{deedOf(measure, 3, 3, 0), labState, nil},  // off
		{deedOf(measure, 3, 4, 0), labState, nil},  // done
		{deedOf(measure, 3, 5, 0), labNone, nil},
		{deedOf(measure, 8, 2, 0), labPlace, nil},
		{deedOf(measure, 8, 1, 0), labPlace, nil}, // done, and on the shelf
		{deedOf(measure, 9, 1, 0), labPlace, nil}, // gone
		{deedOf(measure, 5, 1, 0), labNone, nil},  // no job, on the arm
		{deedOf(measure, 4, 1, 0), labNone, nil},  // no sample
		{deedOf(measure, 3, 0, 0), labDeed, nil},
	})
	more := changedLab(func(l *impl.Lab) { l.Samples[0].Left = 12 })
	checkCases(t, more, []deedCase{
		{deedOf(measure, 3, 1, 0), 0, func(l *impl.Lab) {
			l.Samples[0].Left, l.Jobs[0].State, l.Told = 2, done, l.Told+10
		}},
		{deedOf(measure, 3, 2, 0), 0, func(l *impl.Lab) {
			l.Samples[0].Left, l.Jobs[2].State, l.Told = 1, done, l.Told+11
		}},
	})
}

func TestCancelByHand(t *testing.T) {
	cancelled := func(at int) func(l *impl.Lab) {
		return func(l *impl.Lab) { l.Jobs[at].State = off }
	}
	checkCases(t, handLab(), []deedCase{
		{deedOf(cancel, 3, 1, 0), 0, cancelled(0)},
		{deedOf(cancel, 3, 2, 0), 0, cancelled(2)},
		{deedOf(cancel, 8, 9, 0), 0, cancelled(9)},
		{deedOf(cancel, 3, 3, 0), labState, nil},
		{deedOf(cancel, 3, 4, 0), labState, nil},
		{deedOf(cancel, 9, 7, 0), labState, nil},
		{deedOf(cancel, 3, 5, 0), labNone, nil},
		{deedOf(cancel, 4, 1, 0), labNone, nil},
		{deedOf(cancel, 12, 1, 0), labNone, nil},
		{deedOf(cancel, 3, 1000001, 0), labDeed, nil},
	})
	// One that waits for what is gone: no place is asked for.
	waiting := labOf(samplesOf(sampleOf(4, gone, 1)), jobsOf(jobOf(4, 1, 1, waits)))
	checkCases(t, waiting, []deedCase{
		{deedOf(cancel, 4, 1, 0), 0, cancelled(0)},
		{deedOf(measure, 4, 1, 0), labPlace, nil},
		{deedOf(throw, 4, 0, 0), labPlace, nil},
	})
}

func TestThrowByHand(t *testing.T) {
	checkCases(t, handLab(), []deedCase{
		{deedOf(throw, 8, 0, 0), 0, func(l *impl.Lab) { // of its jobs those that wait, of others none
			l.Samples[2].Place, l.Jobs[5].State, l.Jobs[9].State = gone, off, off
		}},
		{deedOf(throw, 12, 0, 0), 0, func(l *impl.Lab) { l.Samples[4].Place = gone }},
		{deedOf(throw, 3, 0, 0), labPlace, nil},
		{deedOf(throw, 5, 0, 0), labPlace, nil},
		{deedOf(throw, 9, 0, 0), labPlace, nil},
		{deedOf(throw, 11, 0, 0), labNone, nil},
	})
}

// Of each number that a deed uses its edges, and of those that it does not use
// any number; whatever else is wrong, that it is no deed comes first.
func TestDeedsAtTheEdges(t *testing.T) {
	l := labOf(
		samplesOf(sampleOf(1, beam, 5), sampleOf(2, shelf, 5), sampleOf(1000000, shelf, 5)),
		jobsOf(jobOf(1, 1, 1, waits), jobOf(1, 1000000, 1, waits)))
	wild := []int64{0, -1, 1, idMost, idMost + 1, 1 << 32, math.MaxInt64, math.MinInt64}
	for kind, r := range deedRules() {
		for _, other := range wild {
			right := deedOf(kind, 2, other, other)
			if r.usesOrder {
				right.Order = 1
			}
			if r.usesAmount {
				right.Amount = 1
			}
			if _, code := checkDo(t, l, right); code == labDeed {
				t.Error(right)
			}
		}
		for _, put := range []struct {
			uses      bool
			low, high int64
			change    func(d *impl.Deed, n int64)
		}{
			{true, 1, idMost, func(d *impl.Deed, n int64) { d.Sample = n }},
			{r.usesOrder, 1, idMost, func(d *impl.Deed, n int64) { d.Order = n }},
			{r.usesAmount, r.leastAmount, leftMost, func(d *impl.Deed, n int64) { d.Amount = n }},
		} {
			inside, outside := edgesOf(put.low, put.high)
			for _, n := range inside {
				d := deedOf(kind, 1, 1, 1)
				put.change(&d, n)
				if _, code := checkDo(t, l, d); code == labDeed {
					t.Error(d)
				}
			}
			for _, n := range outside {
				d := deedOf(kind, 1, 1, 1)
				put.change(&d, n)
				if _, code := checkDo(t, l, d); put.uses != (code == labDeed) {
					t.Error(d, code)
				}
				if _, code := checkDo(t, impl.Lab{}, d); put.uses != (code == labDeed) {
					t.Error(d, code)
				}
			}
		}
	}
	for _, kind := range []int64{0, 9, -1, 10, 1 << 32, 1<<32 + 1, math.MaxInt64, math.MinInt64} {
		for _, d := range []impl.Deed{{Kind: kind}, deedOf(kind, 1, 1, 1), deedOf(kind, 7, 7, 7)} {
			if _, code := checkDo(t, l, d); code != labDeed {
				t.Error(d, code)
			}
		}
	}
}

// What is brought or asked for with edge numbers stands in the lab so.
func TestEdgesAreKept(t *testing.T) {
	ids, _ := edgesOf(1, idMost)
	lefts, _ := edgesOf(0, leftMost)
	needs, _ := edgesOf(1, leftMost)
	for _, id := range ids {
		for _, left := range lefts {
			l, code := checkDo(t, impl.Lab{}, deedOf(bring, id, 0, left))
			if code != 0 || !slices.Equal(l.Samples, samplesOf(sampleOf(id, shelf, left))) {
				t.Error(id, left, code, l)
			}
			for _, order := range ids {
				for _, need := range needs {
					after, code := checkDo(t, l, deedOf(ask, id, order, need))
					if code != 0 || !slices.Equal(after.Jobs, jobsOf(jobOf(id, order, need, waits))) {
						t.Error(id, order, need, code, after)
					}
					after, _ = checkDo(t, after, deedOf(take, id, 0, 0))
					after, _ = checkDo(t, after, deedOf(put, id, 0, 0))
					after, code = checkDo(t, after, deedOf(measure, id, order, 0))
					if (code == 0) != (left >= need) || code == 0 && (after.Told != need || after.Samples[0].Left != left-need) {
						t.Error(id, order, need, left, code, after)
					}
				}
			}
		}
	}
}

func TestFullLab(t *testing.T) {
	full := fullLab()
	checkCases(t, full, []deedCase{
		{deedOf(bring, 5, 0, 1), labFull, nil},
		{deedOf(bring, 10, 0, 1), labFull, nil}, // there is one, but that is named behind
		{deedOf(bring, 10, 0, 1001), labDeed, nil},
		{deedOf(ask, 10, 99, 1), labFull, nil},
		{deedOf(ask, 10, 5, 1), labFull, nil}, // there is one
		{deedOf(ask, 11, 5, 1), labFull, nil}, // there is no sample
		{deedOf(ask, 10, 0, 1), labDeed, nil},
		{deedOf(take, 10, 0, 0), 0, func(l *impl.Lab) { l.Samples[0].Place = arm }},
		{deedOf(cancel, 10, 5, 0), 0, func(l *impl.Lab) { l.Jobs[0].State = off }},
		{deedOf(throw, 1000, 0, 0), 0, func(l *impl.Lab) { l.Samples[99].Place = gone }},
	})
	nearly := cloneLab(full)
	nearly.Samples = slices.Delete(nearly.Samples, 70, 71)
	nearly.Jobs = nearly.Jobs[:jobsMost-1]
	checkCases(t, nearly, []deedCase{
		{deedOf(bring, 5, 0, 1), 0, func(l *impl.Lab) { l.Samples = slices.Insert(l.Samples, 0, sampleOf(5, shelf, 1)) }},
		{deedOf(bring, 710, 0, 9), 0, func(l *impl.Lab) { l.Samples = slices.Insert(l.Samples, 70, sampleOf(710, shelf, 9)) }},
		{deedOf(bring, 1001, 0, 9), 0, func(l *impl.Lab) { l.Samples = append(l.Samples, sampleOf(1001, shelf, 9)) }},
		{deedOf(bring, 10, 0, 1), labThere, nil},
		{deedOf(ask, 10, 99, 7), 0, func(l *impl.Lab) { l.Jobs = append(l.Jobs, jobOf(10, 99, 7, waits)) }},
		{deedOf(ask, 10, 5, 1), labThere, nil},
		{deedOf(ask, 710, 5, 1), labNone, nil},
	})
	// One list that is full does not keep the other from growing.
	samples := labOf(slices.Clone(full.Samples), nil)
	jobs := cloneLab(full)
	jobs.Samples = jobs.Samples[:60]
	if _, code := checkDo(t, samples, deedOf(ask, 10, 1, 1)); code != 0 {
		t.Error(code)
	}
	if _, code := checkDo(t, jobs, deedOf(bring, 5, 0, 1)); code != 0 {
		t.Error(code)
	}
	// Samples that are gone and jobs that are off still count.
	for i := range full.Samples {
		full.Samples[i].Place = gone
	}
	for i := range full.Jobs {
		full.Jobs[i].State = off
	}
	if _, code := checkDo(t, full, deedOf(bring, 5, 0, 1)); code != labFull {
		t.Error(code)
	}
	if _, code := checkDo(t, full, deedOf(ask, 20, 99, 1)); code != labFull {
		t.Error(code)
	}
}

// All deeds of small numbers in all labs of two samples and of two jobs at most
// with small numbers; every pair of codes that can apply at once is met.
func TestDoInAllSmallLabs(t *testing.T) {
	jobLists := [][]impl.Job{nil}
	for state := int64(waits); state <= off; state++ {
		jobLists = append(jobLists, jobsOf(jobOf(1, 1, 2, state)))
		for other := int64(waits); other <= off; other++ {
			jobLists = append(jobLists, jobsOf(jobOf(2, 1, 1, state), jobOf(1, 1, 1, other)), jobsOf(jobOf(1, 2, 2, state), jobOf(1, 1, 1, other)))
		}
	}
	deeds := []impl.Deed{}
	for kind := int64(0); kind <= throw+1; kind++ {
		for sample := range int64(4) {
			for order := range int64(4) {
				for amount := range int64(2) {
					deeds = append(deeds, deedOf(kind, sample, order, amount))
				}
			}
		}
	}
	met := map[[2]int64]int{}
	for first := int64(shelf); first <= gone; first++ {
		for second := int64(shelf); second <= gone; second++ {
			for left := range int64(3) {
				for _, jobs := range jobLists {
					l := labOf(samplesOf(sampleOf(1, first, left), sampleOf(2, second, 1)), jobs)
					for _, d := range deeds {
						checkDo(t, l, d)
						codes := codesByRule(l, d)
						for i, code := range codes {
							for _, other := range codes[i+1:] {
								met[[2]int64{code, other}]++
							}
						}
					}
				}
			}
		}
	}
	for _, pair := range [][2]int64{
		{labDeed, labThere}, {labDeed, labNone}, {labDeed, labPlace}, {labThere, labPlace}, {labNone, labPlace},
		{labPlace, labState}, {labPlace, labLittle}, {labState, labLittle},
	} {
		if met[pair] == 0 {
			t.Error("never met at once:", pair)
		}
	}
}

// A lab that is not right is told ahead of all else, and nothing is answered.
func TestDoInWrongLabs(t *testing.T) {
	full := fullLab()
	full.Samples = append(full.Samples, sampleOf(2000, shelf, 1))
	labs := wrongLabs()
	labs["too many"] = full
	for name, l := range labs {
		for kind := int64(-1); kind <= throw+1; kind++ {
			for _, id := range []int64{0, 1, 3, 8, 10, 12} {
				if got, code := checkDo(t, l, deedOf(kind, id, 1, 1)); code != labBad || !isZeroLab(got) {
					t.Error(name, kind, id, code, got)
				}
			}
		}
	}
}

// Long rows of deeds: the lab is right behind each, and P21 holds of each.
func TestDoOverLongRows(t *testing.T) {
	var d dice
	codes := map[int64]int{}
	kinds := map[int64]int{}
	for _, row := range []struct {
		count                 int
		samples, orders, most int64
	}{{600, 3, 4, 40}, {600, 6, 8, 1000}, {600, 2, 100, 12}, {1500, 110, 4, 50}, {1500, 10, 40, 30}, {400, 1, 400, 3}} {
		for range 3 {
			var l impl.Lab
			measured := map[[2]int64]int{}
			brought := map[int64]int64{}
			for _, one := range d.deeds(row.count, row.samples, row.orders, row.most) {
				if d.between(0, 2) == 0 {
					one = d.fitting(l, row.samples, row.orders, row.most)
				}
				var code int64
				l, code = checkDo(t, l, one)
				codes[code]++
				if code != 0 {
					continue
				}
				kinds[one.Kind]++
				switch one.Kind {
				case bring:
					brought[one.Sample] = one.Amount
				case measure:
					measured[[2]int64{one.Sample, one.Order}]++
				}
			}
			checkBooks(t, l, brought, measured)
		}
	}
	for code := range int64(labLittle + 1) {
		if code != labBad && codes[code] < 20 {
			t.Error("too few of code", code, codes)
		}
	}
	for kind := range deedRules() {
		if kinds[kind] < 20 {
			t.Error("too few of kind", kind, kinds)
		}
	}
}

// checkBooks: no sample that was ever brought is lost, none was measured twice
// for one order, and what is used is in the book, of all and of each.
func checkBooks(t *testing.T, l impl.Lab, brought map[int64]int64, measured map[[2]int64]int) {
	t.Helper()
	used := map[int64]int64{}
	count := 0
	for _, j := range l.Jobs {
		key := [2]int64{j.Sample, j.Order}
		if (j.State == done) != (measured[key] == 1) || measured[key] > 1 {
			t.Error(j, measured[key])
		}
		if j.State == done {
			used[j.Sample] += j.Need
			count++
		}
	}
	if count != len(measured) || len(l.Samples) != len(brought) {
		t.Error(count, len(measured), len(l.Samples), len(brought))
	}
	all := int64(0)
	for _, s := range l.Samples {
		if brought[s.Id]-s.Left != used[s.Id] {
			t.Error(s, brought[s.Id], used[s.Id])
		}
		all += used[s.Id]
	}
	if all != l.Told {
		t.Error(all, l.Told)
	}
}

// Deeds in labs that come from anywhere.
func TestDoInDrawnLabs(t *testing.T) {
	var d dice
	codes := map[int64]int{}
	for range 6000 {
		l := d.drawnLab(int(d.between(0, 6)), int(d.between(0, 8)), 4)
		one := d.deed(5, 4, 3)
		if d.between(0, 1) == 0 && len(l.Jobs) > 0 { // of a job that there is
			j := l.Jobs[d.between(0, int64(len(l.Jobs)-1))]
			one.Sample, one.Order = j.Sample, j.Order
		}
		_, code := checkDo(t, l, one)
		codes[code]++
	}
	for _, code := range []int64{0, labDeed, labThere, labNone, labPlace, labState} {
		if codes[code] < 50 {
			t.Error("too few of code", code, codes)
		}
	}
}

// The same measurement, asked for and done a second time, is refused, whatever
// lies between.
func TestNothingIsMeasuredTwice(t *testing.T) {
	between := map[string][]impl.Deed{
		"nothing":        nil,
		"moved":          {deedOf(take, 7, 0, 0), deedOf(put, 7, 0, 0)},
		"back and again": {deedOf(take, 7, 0, 0), deedOf(back, 7, 0, 0), deedOf(take, 7, 0, 0), deedOf(put, 7, 0, 0)},
		"another order":  {deedOf(ask, 7, 2, 1), deedOf(measure, 7, 2, 0)},
		"another sample": {deedOf(bring, 8, 0, 9), deedOf(ask, 8, 1, 1)},
	}
	for name, deeds := range between {
		var l impl.Lab
		var code int64
		row := append([]impl.Deed{deedOf(bring, 7, 0, 100), deedOf(ask, 7, 1, 6), deedOf(take, 7, 0, 0), deedOf(put, 7, 0, 0), deedOf(measure, 7, 1, 0)}, deeds...)
		for _, one := range row {
			if l, code = checkDo(t, l, one); code != 0 {
				t.Fatal(name, one, code)
			}
		}
		told := l.Told
		for _, again := range []struct {
			deed impl.Deed
			code int64
		}{
			{deedOf(measure, 7, 1, 0), labState},
			{deedOf(ask, 7, 1, 6), labThere},
			{deedOf(ask, 7, 1, 1), labThere},
			{deedOf(cancel, 7, 1, 0), labState},
			{deedOf(measure, 7, 1, 0), labState},
			{deedOf(bring, 7, 0, 100), labThere},
		} {
			if l, code = checkDo(t, l, again.deed); code != again.code || l.Told != told {
				t.Error(name, again, code, l)
			}
		}
	}
}

func checkPlay(t *testing.T, deeds []impl.Deed) (impl.Lab, []int64) {
	t.Helper()
	got, codes := impl.LabPlay(deeds)
	want, wantCodes := playByRule(deeds)
	if !sameLab(got, want) || !slices.Equal(codes, wantCodes) {
		t.Errorf("%.300v: %.300v %.300v", deeds, got, codes)
	}
	return got, codes
}

func TestPlayByHand(t *testing.T) {
	deeds := []impl.Deed{
		deedOf(bring, 9, 0, 10), deedOf(bring, 4, 0, 3), deedOf(ask, 9, 1, 4), deedOf(ask, 9, 2, 7), deedOf(ask, 4, 1, 3),
		deedOf(measure, 9, 1, 0), deedOf(put, 9, 0, 0), deedOf(take, 9, 0, 0), deedOf(take, 4, 0, 0), deedOf(put, 9, 0, 0),
		deedOf(take, 4, 0, 0), deedOf(put, 4, 0, 0), deedOf(measure, 9, 1, 0), deedOf(measure, 9, 2, 0), deedOf(cancel, 9, 2, 0),
		deedOf(back, 4, 0, 0), deedOf(throw, 4, 0, 0), deedOf(cancel, 4, 1, 0), deedOf(ask, 4, 2, 1), deedOf(0, 4, 2, 1),
		deedOf(ask, 5, 2, 1), deedOf(bring, 4, 0, 1), deedOf(throw, 9, 0, 0),
	}
	want := []int64{
		0, 0, 0, 0, 0,
		labPlace, labPlace, 0, labPlace, 0,
		0, labPlace, 0, labLittle, 0,
		0, 0, labState, labPlace, labDeed,
		labNone, labThere, labPlace,
	}
	l, codes := checkPlay(t, deeds)
	if !slices.Equal(codes, want) {
		t.Error(codes)
	}
	end := impl.Lab{
		Samples: samplesOf(sampleOf(4, gone, 3), sampleOf(9, beam, 6)),
		Jobs:    jobsOf(jobOf(9, 1, 4, done), jobOf(9, 2, 7, off), jobOf(4, 1, 3, off)),
		Told:    4,
	}
	if !sameLab(l, end) {
		t.Error(l)
	}
	for _, none := range [][]impl.Deed{nil, {}} {
		if l, codes := checkPlay(t, none); !isZeroLab(l) || len(codes) != 0 {
			t.Error(l, codes)
		}
	}
}

// LabPlay is LabDo, one deed behind the other, from the lab with nothing.
func TestPlayIsDoOneByOne(t *testing.T) {
	var d dice
	for i := range 60 {
		deeds := d.deeds(int(d.between(0, 120)), 4, 6, 30)
		if i%3 == 0 && len(deeds) > 0 {
			deeds[d.between(0, int64(len(deeds)-1))] = d.wildDeed()
		}
		got, codes := checkPlay(t, deeds)
		var l impl.Lab
		for n, one := range deeds {
			var code int64
			l, code = impl.LabDo(l, one)
			if n >= len(codes) || codes[n] != code {
				t.Fatal(n, one, code, codes)
			}
		}
		if !sameLab(got, l) || len(codes) != len(deeds) || !impl.LabOk(got) {
			t.Error(got, l, len(codes))
		}
	}
}

func TestPlayTakesMaxDeedsAndNoMore(t *testing.T) {
	var d dice
	rows := map[string][]impl.Deed{
		"drawn":   d.deeds(deedsMost+1, 5, 40, 50),
		"no deed": make([]impl.Deed, deedsMost+1),
		"full":    nil,
	}
	for i := range int64(deedsMost + 1) {
		one := deedOf(ask, 1000-i%7, i, 1)
		if i < 110 {
			one = deedOf(bring, 1000-i, 0, leftMost)
		}
		rows["full"] = append(rows["full"], one)
	}
	for name, deeds := range rows {
		just, codes := checkPlay(t, deeds[:deedsMost])
		if len(codes) != deedsMost || !impl.LabOk(just) {
			t.Error(name, len(codes))
		}
		for _, past := range [][]impl.Deed{deeds, append(slices.Clone(deeds), deeds...)} {
			if l, codes := checkPlay(t, past); !isZeroLab(l) || len(codes) != 0 {
				t.Error(name, len(past), len(codes))
			}
		}
		if l, codes := checkPlay(t, deeds[:deedsMost-1]); len(codes) != deedsMost-1 || !impl.LabOk(l) {
			t.Error(name, len(codes))
		}
	}
	full, _ := impl.LabPlay(rows["full"][:deedsMost])
	if len(full.Samples) != samplesMost || len(full.Jobs) != jobsMost {
		t.Error(len(full.Samples), len(full.Jobs))
	}
	if l, codes := impl.LabPlay(make([]impl.Deed, 1000000)); !isZeroLab(l) || len(codes) != 0 {
		t.Error(len(codes))
	}
}

func TestLabArgumentsStay(t *testing.T) {
	var d dice
	labs := []impl.Lab{{}, handLab(), fullLab(), d.drawnLab(6, 9, 9)}
	for _, l := range wrongLabs() {
		labs = append(labs, l)
	}
	for _, l := range labs {
		given, guard := labWithRoom(l)
		for kind := int64(0); kind <= throw+1; kind++ {
			for _, id := range []int64{1, 3, 5, 8, 9, 10, 12, 20} {
				for _, order := range []int64{1, 2, 5} {
					impl.LabOk(given)
					got, _ := impl.LabDo(given, deedOf(kind, id, order, 2))
					spoilLab(got)
					if !guard() || !sameLab(given, l) {
						t.Fatalf("%d %d %d: %.300v", kind, id, order, l)
					}
				}
			}
		}
	}
	for _, count := range []int{0, 1, 50, deedsMost, deedsMost + 1} {
		deeds := d.deeds(count, 4, 9, 30)
		given, guard := withSpare(deeds, deedOf(bring, 77, 1, 1), deedOf(-1, -1, -1, -1))
		l, codes := impl.LabPlay(given)
		spoilLab(l)
		spoilNumbers(codes)
		if !guard() {
			t.Error(count)
		}
	}
}

// What lies behind a list's length is not of it.
func TestLabLeavesOutWhatLiesBehind(t *testing.T) {
	for _, l := range []impl.Lab{{}, handLab(), fullLab()} {
		given, _ := labWithRoom(l)
		if !impl.LabOk(given) {
			t.Errorf("%.300v", l)
		}
		for _, one := range []impl.Deed{deedOf(bring, 1, 0, 4), deedOf(ask, 8, 6, 1), deedOf(measure, 3, 1, 0), deedOf(throw, 8, 0, 0), deedOf(take, 1, 0, 0)} {
			got, code := impl.LabDo(given, one)
			want, wantCode := doByRule(l, one)
			if code != wantCode || !sameLab(got, want) {
				t.Errorf("%v %d %.300v", one, code, got)
			}
		}
	}
	given, _ := withSpare([]impl.Deed{deedOf(bring, 7, 0, 1)}, deedOf(bring, 8, 0, 1), deedOf(0, 0, 0, 0))
	if l, codes := impl.LabPlay(given); len(l.Samples) != 1 || !slices.Equal(codes, []int64{0}) {
		t.Error(l, codes)
	}
}

// sharesList: does some element of one list lie where one of the other does, or
// could?
func sharesList[T any](a, b []T) bool {
	a, b = a[:cap(a)], b[:cap(b)]
	for i := range a {
		for k := range b {
			if &a[i] == &b[k] {
				return true
			}
		}
	}
	return false
}

func TestLabAnswersAreNewMemory(t *testing.T) {
	given, _ := labWithRoom(handLab())
	for kind := int64(0); kind <= throw; kind++ {
		for _, id := range []int64{1, 3, 5, 8} {
			one := deedOf(kind, id, 1, 2)
			first, _ := impl.LabDo(given, one)
			second, code := impl.LabDo(given, one)
			if sharesList(first.Samples, given.Samples) || sharesList(first.Jobs, given.Jobs) ||
				sharesList(first.Samples, second.Samples) || sharesList(first.Jobs, second.Jobs) {
				t.Error(one, "memory is shared")
			}
			spoilLab(first)
			want, wantCode := doByRule(handLab(), one)
			if third, _ := impl.LabDo(given, one); code != wantCode || !sameLab(second, want) || !sameLab(third, want) {
				t.Error(one, code, second, third)
			}
		}
	}
	var d dice
	deeds := d.deeds(300, 5, 20, 30)
	first, codes := impl.LabPlay(deeds)
	want, wantCodes := playByRule(deeds)
	spoilLab(first)
	spoilNumbers(codes)
	if l, codes := impl.LabPlay(deeds); !sameLab(l, want) || !slices.Equal(codes, wantCodes) {
		t.Error(l, codes)
	}
	checkNewList(t, "LabPlay", func() []int64 {
		_, codes := impl.LabPlay(deeds)
		return codes
	})
}

// Every call answers the same, one behind the other and all at once.
func TestLabAnswersTheSame(t *testing.T) {
	shared := handLab()
	var all sync.WaitGroup
	for start := range 8 {
		all.Go(func() {
			d := dice(start)
			deeds := d.deeds(200, 4, 20, 30)
			want, wantCodes := playByRule(deeds)
			for range 20 {
				if l, codes := impl.LabPlay(deeds); !sameLab(l, want) || !slices.Equal(codes, wantCodes) {
					t.Error(start, l, codes)
				}
				one := d.deed(12, 9, 10)
				got, code := impl.LabDo(shared, one)
				if after, wantCode := doByRule(shared, one); code != wantCode || !sameLab(got, after) {
					t.Error(start, one, code)
				}
				if !impl.LabOk(shared) || impl.LabOk(impl.Lab{Told: int64(start) + 1}) {
					t.Error(start)
				}
			}
		})
	}
	all.Wait()
	if !sameLab(shared, handLab()) {
		t.Error(shared)
	}
}

// wildDeed is spoilt in one place nearly always.
func (d *dice) wildDeed() impl.Deed {
	one := d.deed(5, 5, 9)
	switch d.between(0, 5) {
	case 0:
		one.Kind = d.wildUpTo(throw)
	case 1:
		one.Sample = d.wildUpTo(idMost)
	case 2:
		one.Order = d.wildUpTo(idMost)
	case 3:
		one.Amount = d.wildUpTo(leftMost)
	case 4:
		one = deedOf(d.wildNumber(), d.wildNumber(), d.wildNumber(), d.wildNumber())
	}
	return one
}

// wildLab is right, spoilt, or of any numbers.
func (d *dice) wildLab() impl.Lab {
	switch d.between(0, 3) {
	case 0:
		return d.spoiltLab(d.drawnLab(int(d.between(0, 5)), int(d.between(0, 5)), 4))
	case 1:
		l := impl.Lab{Told: d.wildNumber()}
		for range d.between(0, 4) {
			l.Samples = append(l.Samples, sampleOf(d.wildNumber(), d.wildUpTo(gone), d.wildNumber()))
			l.Jobs = append(l.Jobs, jobOf(d.wildNumber(), d.wildNumber(), d.wildNumber(), d.wildUpTo(off)))
		}
		return l
	}
	return d.drawnLab(int(d.between(0, 5)), int(d.between(0, 5)), 4)
}

func TestLabAnswersAtEveryArgument(t *testing.T) {
	var d dice
	codes := map[int64]int{}
	for range 12000 {
		l, one := d.wildLab(), d.wildDeed()
		checkLab(t, l)
		if len(l.Jobs) > 0 && d.between(0, 2) == 0 {
			one = deedOf(d.between(ask, cancel), l.Jobs[0].Sample, l.Jobs[0].Order, 1)
		}
		_, code := checkDo(t, l, one)
		codes[code]++
	}
	for _, code := range []int64{0, labBad, labDeed, labThere, labNone, labPlace, labState} {
		if codes[code] < 50 {
			t.Error("too few of code", code, codes)
		}
	}
	for range 100 {
		deeds := []impl.Deed{}
		for range d.between(0, 40) {
			deeds = append(deeds, d.wildDeed())
		}
		checkPlay(t, deeds)
	}
	many := impl.Lab{Samples: make([]impl.Sample, 200000), Jobs: make([]impl.Job, 200000)}
	if l, code := impl.LabDo(many, deedOf(bring, 1, 1, 1)); impl.LabOk(many) || code != labBad || !isZeroLab(l) {
		t.Error(code)
	}
	if fmt.Sprint(impl.LabOk(impl.Lab{})) != "true" {
		t.Error("nothing at all")
	}
}
