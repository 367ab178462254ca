package tests

import (
	"maps"
	"reflect"
	"runtime"
	"slices"
	"strings"
	"sync"
	"testing"
)

// whole: every function of every chapter.
func whole() map[string]asked {
	out := wholeOfChapters1To8()
	maps.Copy(out, wholeOfChapters9To17())
	return out
}

func TestWholeNamesEveryFunction(t *testing.T) {
	names := exportedFunctions(t)
	if got := slices.Sorted(maps.Keys(whole())); !slices.Equal(got, names) || len(names) != 124 {
		t.Errorf("%d %d: %v %v", len(got), len(names), got, names)
	}
}

// argumentsOf: likely ones, spoilt ones, zero values, or any at all.
func (d *dice) argumentsOf(a asked) []reflect.Value {
	out := []reflect.Value{}
	kind := d.between(0, 9)
	for _, likely := range a.arguments(d) {
		v := reflect.New(reflect.TypeOf(likely)).Elem()
		v.Set(d.laid(reflect.ValueOf(likely)))
		switch {
		case kind == 0:
			v.SetZero()
		case kind == 1:
			v.Set(d.laid(d.wild(v.Type(), 2)))
		case kind < 5 && d.between(0, 1) == 0:
			d.spoil(v)
			v.Set(d.laid(v))
		}
		out = append(out, v)
	}
	return out
}

// checkCall asks a function P23: it does not panic, its arguments stay, its
// answer is new memory, and it answers the same when it is asked again. It tells
// whether anything but zero values was answered.
func checkCall(t *testing.T, name string, a asked, arguments []reflect.Value) bool {
	t.Helper()
	given := writtenAll(arguments, true)
	first, said := called(a.function, arguments)
	if said != nil {
		t.Fatalf("%s panics at %.600s: %v", name, given, said)
	}
	second, _ := called(a.function, arguments)
	answer := writtenAll(first, false)
	if again := writtenAll(second, false); again != answer {
		t.Fatalf("%s at %.600s: %.300s, and then %.300s", name, given, answer, again)
	}
	checkMemory(t, name, arguments, first, second)
	for _, v := range first {
		overwrite(v)
	}
	third, _ := called(a.function, arguments)
	if behind := writtenAll(third, false); behind != answer || writtenAll(second, false) != answer {
		t.Fatalf("%s at %.600s: %.300s, and behind it %.300s", name, given, answer, behind)
	}
	if kept := writtenAll(arguments, true); kept != given {
		t.Fatalf("%s changes %.600s to %.600s", name, given, kept)
	}
	zero := []reflect.Value{}
	for _, v := range second {
		zero = append(zero, reflect.Zero(v.Type()))
	}
	return answer != writtenAll(zero, false)
}

// checkMemory: no list of an answer lies in an argument or in another answer,
// nor in another list of its own, and no text lies in an argument.
func checkMemory(t *testing.T, name string, arguments, first, second []reflect.Value) {
	t.Helper()
	own, other, given := allStretches(first), allStretches(second), allStretches(arguments)
	for i, s := range own {
		for _, g := range given {
			if s.meets(g) {
				t.Fatalf("%s: an answer lies in an argument", name)
			}
		}
		for _, o := range slices.Concat(own[:i], other) {
			if !s.isText && !o.isText && s.meets(o) {
				t.Fatalf("%s: two lists of answers share memory", name)
			}
		}
	}
	runtime.KeepAlive(arguments)
	runtime.KeepAlive(first)
	runtime.KeepAlive(second)
}

func TestWholeAnswersAtEveryArgument(t *testing.T) {
	for name, a := range whole() {
		var d dice
		told := 0
		for range 300 {
			if checkCall(t, name, a, d.argumentsOf(a)) {
				told++
			}
		}
		if told < 5 {
			t.Error(name, "tells too seldom anything:", told)
		}
	}
}

// Every function at once, each from many sides: what one answers hangs on no
// other.
func TestWholeAnswersTheSameAllAtOnce(t *testing.T) {
	type call struct {
		a         asked
		arguments []reflect.Value
		want      string
	}
	calls := []call{}
	d := dice(7)
	for _, name := range slices.Sorted(maps.Keys(whole())) {
		a := whole()[name]
		for range 4 {
			arguments := d.argumentsOf(a)
			answer, _ := called(a.function, arguments)
			calls = append(calls, call{a, arguments, writtenAll(answer, false)})
		}
	}
	var all sync.WaitGroup
	for start := range 8 {
		all.Go(func() {
			d := dice(start)
			for _, c := range shuffledList(&d, calls) {
				answer, said := called(c.a.function, c.arguments)
				if got := writtenAll(answer, false); said != nil || got != c.want {
					t.Errorf("%.300s: %.300s, not %.300s", writtenAll(c.arguments, false), got, c.want)
				}
			}
		})
	}
	all.Wait()
}

// The looks over values see what they are to see.
func TestWholeSeesWhatIsShared(t *testing.T) {
	list := []int64{1, 2, 3, 4}
	for _, pair := range [][2]any{
		{list[:2], list[2:]}, {list[:2:2], list[1:3]}, {[][]int64{list}, list[3:]}, {"abcd"[1:], strings.Clone("x")},
	} {
		a, b := stretchesOf(reflect.ValueOf(pair[0])), stretchesOf(reflect.ValueOf(pair[1]))
		meet := slices.ContainsFunc(a, func(s stretch) bool { return slices.ContainsFunc(b, s.meets) })
		if _, isText := pair[0].(string); meet == isText {
			t.Error(pair, meet)
		}
	}
	if a, b := stretchesOf(reflect.ValueOf(list[:2:2]))[0], stretchesOf(reflect.ValueOf(list[2:]))[0]; a.meets(b) {
		t.Error("lists one behind the other")
	}
	behind := writtenAll([]reflect.Value{reflect.ValueOf(list[:1])}, true)
	list[3] = 9
	if behind == writtenAll([]reflect.Value{reflect.ValueOf(list[:1])}, true) {
		t.Error("the room behind is not seen")
	}
	if out, said := called(func() int64 { panic("no") }, nil); said == nil || len(out) != 0 {
		t.Error(said)
	}
}
