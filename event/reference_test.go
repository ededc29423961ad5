package event_test

import (
	"fmt"
	"iter"
	"math"
	"reflect"
	"slices"
	"strings"
	"testing"

	"fencepost/alu"
	"fencepost/api"
)

// What the tests hold the package against: the chapter told once more, by the names of fields.

// kind is a line of the chapter's table.
type kind struct {
	number        int
	name          string
	fields        []string
	reads, writes bool
	ask           int
}

// kinds are all kinds of events. Deps' three lists count as fields.
func kinds() []kind {
	row := func(number int, name, fields string, reads, writes bool, ask int) kind {
		return kind{number, name, strings.Fields(fields), reads, writes, ask}
	}
	return []kind{
		row(1, "load", "Addr Load Deps.Addr Deps.Way", true, false, 1),
		row(2, "store", "Addr Store Deps.Addr Deps.Data Deps.Way", false, true, 2),
		row(3, "lr", "Addr Load Aq Rl Deps.Addr Deps.Way", true, false, 3),
		row(4, "sc", "Addr Store Aq Rl Pair Deps.Addr Deps.Data Deps.Way", false, true, 4),
		row(5, "amo", "Addr Load Store Aq Rl Deps.Addr Deps.Data Deps.Way", true, true, 5),
		row(6, "fence", "Pred Succ", false, false, 6),
	}
}

// kindOf answers the kind of a number, if there is one.
func kindOf(number int) (kind, bool) {
	for _, k := range kinds() {
		if k.number == number {
			return k, true
		}
	}
	return kind{}, false
}

func (k kind) has(field string) bool {
	return slices.Contains(k.fields, field)
}

func (k kind) memory() bool {
	return k.has("Addr")
}

// noKinds are numbers that no kind of event has.
func noKinds() []int {
	return []int{0, 7, 8, 9, -1, -6, 16, 255, 256 + 1, 1<<16 + 1, 1<<32 + 1, math.MaxInt, math.MinInt, math.MinInt + 1}
}

// fieldsOf answers all fields of an event by their names, Deps' lists each for itself.
func fieldsOf(e *api.Event) map[string]reflect.Value {
	l := map[string]reflect.Value{}
	v := reflect.ValueOf(e).Elem()
	for at := range v.NumField() {
		name := v.Type().Field(at).Name
		if name != "Deps" {
			l[name] = v.Field(at)
			continue
		}
		for list := range v.Field(at).NumField() {
			l["Deps."+v.Field(at).Type().Field(list).Name] = v.Field(at).Field(list)
		}
	}
	return l
}

// nought tells whether a field is nought, false, an empty list.
func nought(v reflect.Value) bool {
	if v.Kind() == reflect.Slice {
		return v.Len() == 0
	}
	return v.IsZero()
}

// plainCheck tells whether an event may be.
func plainCheck(e api.Event) bool {
	k, there := kindOf(e.Kind)
	if !there || e.Hart < 0 || e.Hart > 7 || e.At < 0 || e.Addr&7 != 0 {
		return false
	}
	for name, v := range fieldsOf(&e) {
		if !k.has(name) && name != "Hart" && name != "At" && name != "Kind" && !nought(v) {
			return false
		}
	}
	for _, l := range [][]int{e.Deps.Addr, e.Deps.Data, e.Deps.Way} {
		for at, event := range l {
			if event < 0 || event >= e.At || at > 0 && l[at-1] >= event {
				return false
			}
		}
	}
	for _, set := range []int{e.Pred, e.Succ} {
		if set < 0 || set > 15 {
			return false
		}
	}
	return k.name != "sc" || 0 <= e.Pair && e.Pair < e.At
}

// plainSame tells whether two events are the same.
func plainSame(a, b api.Event) bool {
	other := fieldsOf(&b)
	for name, v := range fieldsOf(&a) {
		if !reflect.DeepEqual(v.Interface(), other[name].Interface()) && !(nought(v) && nought(other[name])) {
			return false
		}
	}
	return true
}

// plainRow tells whether a list is a hart's row.
func plainRow(hart int, l []api.Event) bool {
	reserves := func(e api.Event) bool { return e.Kind == 3 || e.Kind == 4 }
	for at, e := range l {
		if e.Hart != hart || e.At != at || !plainCheck(e) {
			return false
		}
		if e.Kind != 4 {
			continue
		}
		if l[e.Pair].Kind != 3 || l[e.Pair].Addr != e.Addr || slices.ContainsFunc(l[e.Pair+1:at], reserves) {
			return false
		}
		for other := range at {
			if l[other].Kind == 4 && l[other].Pair == e.Pair {
				return false
			}
		}
	}
	return true
}

// plainOf answers the event that an ask makes, and whether it makes one.
func plainOf(hart, at int, a api.Ask, found uint64, pair int, d api.Deps) (api.Event, bool) {
	e := api.Event{Hart: hart, At: at, Kind: a.Kind}
	right := true
	switch a.Kind {
	case 1:
		e.Addr, e.Aq, e.Rl, e.Load, e.Deps = a.Addr, a.Aq, a.Rl, found, api.Deps{Addr: d.Addr, Way: d.Way}
	case 2:
		e.Addr, e.Aq, e.Rl, e.Store, e.Deps = a.Addr, a.Aq, a.Rl, a.Value, d
	case 3:
		e.Addr, e.Aq, e.Rl, e.Load, e.Deps = a.Addr, a.Aq, a.Rl, found, api.Deps{Addr: d.Addr, Way: d.Way}
	case 4:
		e.Addr, e.Aq, e.Rl, e.Store, e.Pair, e.Deps = a.Addr, a.Aq, a.Rl, a.Value, pair, d
	case 5:
		stores, err := alu.Amo(a.Op, found, a.Value)
		right = err == api.OK
		e.Addr, e.Aq, e.Rl, e.Load, e.Store, e.Deps = a.Addr, a.Aq, a.Rl, found, stores, d
	case 6:
		e.Pred, e.Succ = a.Pred, a.Succ
	default:
		right = false
	}
	if !right || !plainCheck(e) {
		return api.Event{}, false
	}
	return e, true
}

// plainText answers an event's text.
func plainText(e api.Event) string {
	if !plainCheck(e) {
		return ""
	}
	k, _ := kindOf(e.Kind)
	s := fmt.Sprintf("%d:%d %s", e.Hart, e.At, k.name)
	if k.memory() {
		s += fmt.Sprintf(" %016x", e.Addr)
	}
	if k.reads {
		s += fmt.Sprintf(" r%x", e.Load)
	}
	if k.writes {
		s += fmt.Sprintf(" w%x", e.Store)
	}
	return s
}

// base answers an event of a kind that may be, that has no nought in any of its fields.
func base(k kind) api.Event {
	e := api.Event{Hart: 3, At: 9, Kind: k.number}
	full := api.Event{
		Addr: 0x1238, Load: 17, Store: 18, Aq: true, Rl: true, Pred: 3, Succ: 9, Pair: 4,
		Deps: api.Deps{Addr: roomy(2, 5), Data: roomy(0, 5, 8), Way: roomy(1)},
	}
	to, from := fieldsOf(&e), fieldsOf(&full)
	for _, name := range k.fields {
		to[name].Set(from[name])
	}
	return e
}

// roomy answers a list with room to spare, and numbers in it that nobody may look at.
func roomy(l ...int) []int {
	return append(slices.Clone(l), 3, -5, 99)[:len(l)]
}

// numbers are some with edges among them.
func numbers() []uint64 {
	return []uint64{0, 1, 7, 8, 9, 10, 15, 16, 0xabc, 1<<31 - 1, 1 << 31, 1<<32 - 1, 1 << 32, 1<<63 - 1, 1 << 63, 0x0123456789abcdef, math.MaxUint64 - 7, math.MaxUint64}
}

// dice is a row of numbers without a rule to be seen in it, always the same.
type dice uint64

func (d *dice) below(n int) int {
	*d = *d*6364136223846793005 + 1442695040888963407
	return int(uint64(*d)>>33) % n
}

func pick[T any](d *dice, l ...T) T {
	return l[d.below(len(l))]
}

// list answers a list that mostly rises, of numbers mostly below at.
func (d *dice) list(at int) []int {
	var l []int
	for event := range min(max(at, 0), 12) {
		if d.below(4) == 0 {
			l = append(l, event)
		}
	}
	switch d.below(40) {
	case 0:
		l = append(l, at)
	case 1:
		l = append(l, -1)
	case 2:
		slices.Reverse(l)
	case 3:
		l = append(l, l...)
	}
	return roomy(l...)
}

// event answers one that may be or not: at random, mostly with the fields of its kind alone.
func (d *dice) event() api.Event {
	at := pick(d, 0, 1, 2, 5, 9, 12, 100, -1)
	k := kinds()[d.below(6)]
	full := api.Event{
		Hart: pick(d, 0, 1, 2, 3, 4, 5, 6, 7, 7, 0, 8, -1), At: at, Kind: k.number,
		Addr: pick(d, numbers()...), Load: pick(d, numbers()...), Store: pick(d, numbers()...),
		Aq: d.below(2) == 0, Rl: d.below(2) == 0,
		Pred: pick(d, 0, 1, 2, 3, 7, 8, 15, 15, 16, -1), Succ: pick(d, 0, 1, 2, 3, 7, 8, 15, 15, 16, -1),
		Pair: pick(d, 0, 1, 4, at-1, at, at+1, -1),
		Deps: api.Deps{Addr: d.list(at), Data: d.list(at), Way: d.list(at)},
	}
	if d.below(4) > 0 {
		full.Addr &^= 7
	}
	l := fieldsOf(&full)
	for name, v := range l {
		if !k.has(name) && name != "Hart" && name != "At" && name != "Kind" && d.below(30) > 0 {
			v.SetZero()
		}
	}
	if d.below(40) == 0 {
		full.Kind = pick(d, noKinds()...)
	}
	return full
}

// events goes through many events.
func events(seed dice, many int) iter.Seq[api.Event] {
	return func(yield func(api.Event) bool) {
		d := seed
		for range many {
			if !yield(d.event()) {
				return
			}
		}
	}
}

// lists answers all lists of an event.
func lists(e *api.Event) []*[]int {
	return []*[]int{&e.Deps.Addr, &e.Deps.Data, &e.Deps.Way}
}

// whole answers copies of lists, with their room to spare.
func whole(l []*[]int) [][]int {
	var c [][]int
	for _, p := range l {
		c = append(c, slices.Clone((*p)[:cap(*p)]))
	}
	return c
}

func sameLists(a, b [][]int) bool {
	return slices.EqualFunc(a, b, slices.Equal[[]int])
}

func TestReferenceHasAllKinds(t *testing.T) {
	want := []int{api.EvLoad, api.EvStore, api.EvLR, api.EvSC, api.EvAmo, api.EvFence}
	asks := []int{api.AskLoad, api.AskStore, api.AskLR, api.AskSC, api.AskAmo, api.AskFence}
	for at, k := range kinds() {
		if k.number != want[at] || k.ask != asks[at] {
			t.Errorf("%s is %d, asked by %d", k.name, k.number, k.ask)
		}
		if e := base(k); !plainCheck(e) {
			t.Errorf("%+v may not be", e)
		}
	}
	right := 0
	for e := range events(1, 4000) {
		if plainCheck(e) {
			right++
		}
	}
	if right < 1000 || right > 3000 {
		t.Errorf("%d of 4000 events may be", right)
	}
}
