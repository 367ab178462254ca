package tests

import (
	"cmp"
	"maps"
	"math"
	"slices"

	"loop.example/g00055/impl"
)

// The limits and codes as the document tells them.
const (
	idMost      = 1000000
	leftMost    = 1000
	samplesMost = 100
	jobsMost    = 300
	deedsMost   = 1000
)

const (
	shelf = 1 + iota
	arm
	beam
	gone
)

const (
	waits = 1 + iota
	done
	off
)

const (
	bring = 1 + iota
	ask
	take
	put
	back
	measure
	cancel
	throw
)

const (
	labBad = 1 + iota
	labDeed
	labFull
	labThere
	labNone
	labPlace
	labState
	labLittle
)

func sampleOf(id, place, left int64) impl.Sample {
	return impl.Sample{Id: id, Place: place, Left: left}
}

func jobOf(sample, order, need, state int64) impl.Job {
	return impl.Job{Sample: sample, Order: order, Need: need, State: state}
}

func deedOf(kind, sample, order, amount int64) impl.Deed {
	return impl.Deed{Kind: kind, Sample: sample, Order: order, Amount: amount}
}

func samplesOf(list ...impl.Sample) []impl.Sample { return list }

func jobsOf(list ...impl.Job) []impl.Job { return list }

// labOf tells what has been used by itself.
func labOf(samples []impl.Sample, jobs []impl.Job) impl.Lab {
	return impl.Lab{Samples: samples, Jobs: jobs, Told: usedByRule(jobs)}
}

func usedByRule(jobs []impl.Job) int64 {
	used := int64(0)
	for _, j := range jobs {
		if j.State == done {
			used += j.Need
		}
	}
	return used
}

func cloneLab(l impl.Lab) impl.Lab {
	return impl.Lab{Samples: slices.Clone(l.Samples), Jobs: slices.Clone(l.Jobs), Told: l.Told}
}

func sameLab(a, b impl.Lab) bool {
	return slices.Equal(a.Samples, b.Samples) && slices.Equal(a.Jobs, b.Jobs) && a.Told == b.Told
}

func isZeroLab(l impl.Lab) bool { return sameLab(l, impl.Lab{}) }

func isFrom(n, low, high int64) bool { return low <= n && n <= high }

// labBook has a lab's samples and jobs by their numbers, as they are asked for.
type labBook struct {
	samples map[int64]impl.Sample
	jobs    map[[2]int64]impl.Job
	at      map[int64]int
}

func bookOf(l impl.Lab) labBook {
	b := labBook{map[int64]impl.Sample{}, map[[2]int64]impl.Job{}, map[int64]int{}}
	for _, s := range l.Samples {
		b.samples[s.Id] = s
		b.at[s.Place]++
	}
	for _, j := range l.Jobs {
		b.jobs[[2]int64{j.Sample, j.Order}] = j
	}
	return b
}

// isLabByRule asks each word of what a right lab is by itself; where two samples
// have one Id, or two jobs one sample and order, the book has too few of them.
func isLabByRule(l impl.Lab) bool {
	book := bookOf(l)
	for _, s := range l.Samples {
		if !isFrom(s.Id, 1, idMost) || !isFrom(s.Place, shelf, gone) || !isFrom(s.Left, 0, leftMost) {
			return false
		}
	}
	for _, j := range l.Jobs {
		if !isFrom(j.Order, 1, idMost) || !isFrom(j.Need, 1, leftMost) || !isFrom(j.State, waits, off) {
			return false
		}
		if _, ok := book.samples[j.Sample]; !ok {
			return false
		}
	}
	byId := func(a, b impl.Sample) int { return cmp.Compare(a.Id, b.Id) }
	return slices.IsSortedFunc(l.Samples, byId) && len(book.samples) == len(l.Samples) && len(book.jobs) == len(l.Jobs) &&
		len(l.Samples) <= samplesMost && len(l.Jobs) <= jobsMost && book.at[arm] < 2 && book.at[beam] < 2 &&
		isFrom(l.Told, 0, 300000) && l.Told == usedByRule(l.Jobs)
}

// deedRule: what a kind of deed uses beside the sample's Id, and from where to
// where it moves (0: it does not).
type deedRule struct {
	usesOrder, usesAmount bool
	leastAmount           int64
	from                  []int64
	to                    int64
}

func deedRules() map[int64]deedRule {
	return map[int64]deedRule{
		bring:   {usesAmount: true},
		ask:     {usesOrder: true, usesAmount: true, leastAmount: 1, from: []int64{shelf, arm, beam}},
		take:    {from: []int64{shelf, beam}, to: arm},
		put:     {from: []int64{arm}, to: beam},
		back:    {from: []int64{arm}, to: shelf},
		measure: {usesOrder: true, from: []int64{beam}},
		cancel:  {usesOrder: true, from: []int64{shelf, arm, beam, gone}},
		throw:   {from: []int64{shelf}, to: gone},
	}
}

func isDeedByRule(d impl.Deed) bool {
	r, ok := deedRules()[d.Kind]
	return ok && isFrom(d.Sample, 1, idMost) && (!r.usesOrder || isFrom(d.Order, 1, idMost)) &&
		(!r.usesAmount || isFrom(d.Amount, r.leastAmount, leftMost))
}

// codesByRule has all codes that apply to a deed in a right lab, each asked by
// itself.
func codesByRule(l impl.Lab, d impl.Deed) []int64 {
	if !isLabByRule(l) {
		return []int64{labBad}
	}
	codes := []int64{}
	told := func(code int64, applies bool) {
		if applies {
			codes = append(codes, code)
		}
	}
	book, r := bookOf(l), deedRules()[d.Kind]
	s, isSample := book.samples[d.Sample]
	j, isJob := book.jobs[[2]int64{d.Sample, d.Order}]
	ofJob := d.Kind == measure || d.Kind == cancel
	told(labDeed, !isDeedByRule(d))
	told(labFull, d.Kind == bring && len(l.Samples) >= samplesMost || d.Kind == ask && len(l.Jobs) >= jobsMost)
	told(labThere, d.Kind == bring && isSample || d.Kind == ask && isJob)
	told(labNone, d.Kind != bring && !isSample || ofJob && !isJob)
	told(labPlace, d.Kind != bring && isSample && (!slices.Contains(r.from, s.Place) || (r.to == arm || r.to == beam) && book.at[r.to] > 0))
	told(labState, ofJob && isJob && j.State != waits)
	told(labLittle, d.Kind == measure && isJob && s.Left < j.Need)
	return codes
}

// doByRule makes the lab behind a deed anew from its book.
func doByRule(l impl.Lab, d impl.Deed) (impl.Lab, int64) {
	if codes := codesByRule(l, d); len(codes) > 0 {
		if codes[0] == labBad {
			return impl.Lab{}, labBad
		}
		return cloneLab(l), slices.Min(codes)
	}
	book, jobs := bookOf(l), slices.Clone(l.Jobs)
	s := book.samples[d.Sample]
	switch d.Kind {
	case bring:
		s = sampleOf(d.Sample, shelf, d.Amount)
	case ask:
		jobs = append(jobs, jobOf(d.Sample, d.Order, d.Amount, waits))
	case take, put, back, throw:
		s.Place = deedRules()[d.Kind].to
	case measure:
		s.Left -= book.jobs[[2]int64{d.Sample, d.Order}].Need
	}
	for i, j := range jobs {
		isIt := j.Sample == d.Sample && j.Order == d.Order
		switch {
		case d.Kind == measure && isIt:
			jobs[i].State = done
		case d.Kind == cancel && isIt, d.Kind == throw && j.Sample == d.Sample && j.State == waits:
			jobs[i].State = off
		}
	}
	book.samples[d.Sample] = s
	samples := slices.SortedFunc(maps.Values(book.samples), func(a, b impl.Sample) int { return cmp.Compare(a.Id, b.Id) })
	return labOf(samples, jobs), 0
}

func playByRule(deeds []impl.Deed) (impl.Lab, []int64) {
	var l impl.Lab
	codes := []int64{}
	if len(deeds) > deedsMost {
		return l, codes
	}
	for _, d := range deeds {
		var code int64
		l, code = doByRule(l, d)
		codes = append(codes, code)
	}
	return l, codes
}

// deed: of few samples and orders, so that deeds meet.
func (d *dice) deed(samples, orders, most int64) impl.Deed {
	return deedOf(d.between(bring, throw), d.between(1, samples), d.between(1, orders), d.between(0, most))
}

// deeds: a row in which samples are brought early and measured often.
func (d *dice) deeds(count int, samples, orders, most int64) []impl.Deed {
	list := []impl.Deed{}
	for i := range count {
		one := d.deed(samples, orders, most)
		switch {
		case one.Kind == throw && d.between(0, 3) > 0:
			one.Kind = measure
		case one.Kind == cancel && d.between(0, 2) > 0:
			one.Kind = ask
		case i < count/4 && d.between(0, 2) == 0:
			one.Kind = bring
		}
		list = append(list, one)
	}
	return list
}

// fitting: a deed that can be done, nearly always.
func (d *dice) fitting(l impl.Lab, samples, orders, most int64) impl.Deed {
	one := d.deed(samples, orders, most)
	for range 10 {
		if one.Kind != throw && len(codesByRule(l, one)) == 0 {
			break
		}
		one = d.deed(samples, orders, most)
		if waiting := slices.IndexFunc(l.Jobs, func(j impl.Job) bool { return j.State == waits }); waiting >= 0 {
			j := l.Jobs[waiting]
			one = deedOf(d.between(take, measure), j.Sample, j.Order, 0)
		}
	}
	return one
}

// drawnLab: a right lab as it may come from anywhere, not from deeds alone.
func (d *dice) drawnLab(samples, jobs int, most int64) impl.Lab {
	ids, orders := map[int64]int64{}, map[[2]int64]int64{}
	for len(ids) < samples {
		ids[d.between(1, max(int64(2*samples), most))] = 0
	}
	rising := slices.Sorted(maps.Keys(ids))
	list := []impl.Sample{}
	free := []int64{shelf, gone, shelf, arm, beam}
	for _, id := range rising {
		place := free[d.between(0, int64(len(free)-1))]
		if place == arm || place == beam {
			free = slices.DeleteFunc(slices.Clone(free), func(p int64) bool { return p == place })
		}
		list = append(list, sampleOf(id, place, d.between(0, leftMost)))
	}
	asked := []impl.Job{}
	for len(rising) > 0 && len(asked) < jobs {
		j := jobOf(rising[d.between(0, int64(len(rising)-1))], d.between(1, max(most, int64(2*jobs))), d.between(1, leftMost), d.between(waits, off))
		key := [2]int64{j.Sample, j.Order}
		if _, ok := orders[key]; !ok {
			orders[key] = 0
			asked = append(asked, j)
		}
	}
	return labOf(list, asked)
}

// fullLab has samplesMost samples with Ids 10, 20, .. and jobsMost jobs of the
// first ones.
func fullLab() impl.Lab {
	l := impl.Lab{}
	for i := range int64(samplesMost) {
		l.Samples = append(l.Samples, sampleOf(10*(i+1), shelf, leftMost))
	}
	for i := range int64(jobsMost) {
		l.Jobs = append(l.Jobs, jobOf(10*(i%50+1), 5+i/50, 1+i%3, waits))
	}
	return l
}

// handLab: samples in all places, jobs in all states.
func handLab() impl.Lab {
	return labOf(
		samplesOf(sampleOf(3, beam, 10), sampleOf(5, arm, 0), sampleOf(8, shelf, 7), sampleOf(9, gone, 4), sampleOf(12, shelf, 1000)),
		jobsOf(jobOf(3, 1, 10, waits), jobOf(8, 1, 2, done), jobOf(3, 2, 11, waits), jobOf(9, 7, 6, off), jobOf(3, 4, 5, done), jobOf(8, 2, 7, waits), jobOf(9, 1, 1, done), jobOf(8, 3, 1, off), jobOf(3, 3, 4, off), jobOf(8, 9, 3, waits)),
	)
}

func edgesOf(low, high int64) (inside, outside []int64) {
	inside = []int64{low, low + 1, high - 1, high}
	outside = []int64{low - 1, high + 1, low - 2, -high, high + 1<<32, math.MaxInt64, math.MinInt64}
	return inside, outside
}

// changedLabs: the hand lab with one number put in the place of another, by what
// was changed.
func changedLab(change func(l *impl.Lab)) impl.Lab {
	l := cloneLab(handLab())
	change(&l)
	return l
}

// wrongLabs: each is not right by one thing alone.
func wrongLabs() map[string]impl.Lab {
	out := map[string]impl.Lab{
		"told alone":             {Told: 1},
		"told below nothing":     {Told: -1},
		"a job alone":            labOf(nil, jobsOf(jobOf(1, 1, 1, waits))),
		"two of one Id":          labOf(samplesOf(sampleOf(4, shelf, 1), sampleOf(4, shelf, 1)), nil),
		"two of one Id, unlike":  labOf(samplesOf(sampleOf(4, shelf, 1), sampleOf(4, gone, 2)), nil),
		"falling":                labOf(samplesOf(sampleOf(5, shelf, 1), sampleOf(4, shelf, 1)), nil),
		"falling at the end":     labOf(samplesOf(sampleOf(1, shelf, 1), sampleOf(3, shelf, 1), sampleOf(2, shelf, 1)), nil),
		"two on the arm":         labOf(samplesOf(sampleOf(1, arm, 1), sampleOf(3, shelf, 1), sampleOf(4, arm, 1)), nil),
		"two in the beam":        labOf(samplesOf(sampleOf(1, beam, 1), sampleOf(3, arm, 1), sampleOf(4, beam, 1)), nil),
		"a job for none":         changedLab(func(l *impl.Lab) { l.Jobs[2].Sample = 4 }),
		"a job behind the last":  changedLab(func(l *impl.Lab) { l.Jobs[9].Sample = 13 }),
		"a job ahead of all":     changedLab(func(l *impl.Lab) { l.Jobs[0].Sample = 2 }),
		"two jobs for one order": changedLab(func(l *impl.Lab) { l.Jobs[5].Order = 1 }),
		"two jobs, both off":     changedLab(func(l *impl.Lab) { l.Jobs[7], l.Jobs[8] = jobOf(3, 6, 1, off), jobOf(3, 6, 2, off) }),
		"the last job twice":     changedLab(func(l *impl.Lab) { l.Jobs = append(l.Jobs, jobOf(8, 9, 3, waits)) }),
		"told one less":          changedLab(func(l *impl.Lab) { l.Told-- }),
		"told one more":          changedLab(func(l *impl.Lab) { l.Told++ }),
		"told nothing":           changedLab(func(l *impl.Lab) { l.Told = 0 }),
		"told what waits too":    changedLab(func(l *impl.Lab) { l.Told += 10 }),
		"told what is off too":   changedLab(func(l *impl.Lab) { l.Told += 6 }),
		"told turned round":      changedLab(func(l *impl.Lab) { l.Told = -l.Told }),
		"told past its range":    changedLab(func(l *impl.Lab) { l.Told = 300001 }),
		"told the most":          changedLab(func(l *impl.Lab) { l.Told = math.MaxInt64 }),
		"told the least":         changedLab(func(l *impl.Lab) { l.Told = math.MinInt64 }),
	}
	return out
}

// labWithRoom is the same lab in memory that goes on behind its lists.
func labWithRoom(l impl.Lab) (impl.Lab, func() bool) {
	samples, guardSamples := withSpare(l.Samples, sampleOf(math.MaxInt64, arm, 7), sampleOf(1, beam, -1))
	jobs, guardJobs := withSpare(l.Jobs, jobOf(math.MaxInt64, 1, 1, done), jobOf(1, 1, 5000, done))
	return impl.Lab{Samples: samples, Jobs: jobs, Told: l.Told}, func() bool { return guardSamples() && guardJobs() }
}

// spoilLab writes over all that an answer's memory has.
func spoilLab(l impl.Lab) {
	for i := range l.Samples[:cap(l.Samples)] {
		l.Samples[:cap(l.Samples)][i] = sampleOf(-9, -9, -9)
	}
	for i := range l.Jobs[:cap(l.Jobs)] {
		l.Jobs[:cap(l.Jobs)][i] = jobOf(-9, -9, -9, -9)
	}
}
