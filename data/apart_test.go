package data_test

import (
	"slices"
	"testing"

	"fencepost/api"
	"fencepost/data"
)

// Rules 3 and 6: an answer is new memory, what was handed in stays as it was, and nothing is kept.

// roomy gives a list room to spare, with something in it.
func roomy[T any](l []T, spare ...T) []T {
	return append(slices.Clone(l), spare...)[:len(l)]
}

// wholly answers all that a list has, what is in its room to spare too.
func wholly[T any](l []T) []T {
	return slices.Clone(l[:cap(l)])
}

// overwrite writes over all that a list has, in its room to spare too.
func overwrite[T any](l []T, x T) {
	for at := range l[:cap(l)] {
		l[:cap(l)][at] = x
	}
}

func TestLayIsNewMemory(t *testing.T) {
	d := dice(7)
	for range 300 {
		l := roomy(d.pieces(1+d.below(20)), piece("spare", 1, -1), piece("", 0, 99), piece("spare", 1, -1))
		was, want := wholly(l), seats(l)
		a, _ := data.Lay(l)
		b, _ := data.Lay(l)
		if !slices.Equal(wholly(l), was) || !slices.Equal(a, want) || !slices.Equal(b, want) {
			t.Fatalf("%v, was %v: %v, %v, want %v", wholly(l), was, a, b, want)
		}
		overwrite(a, seat("x", -1, 99, 3))
		if !slices.Equal(wholly(l), was) || !slices.Equal(b, want) {
			t.Fatalf("answers share memory: %v, %v", wholly(l), b)
		}
		// What is handed in may be written over behind the call.
		overwrite(l, piece("y", 5, 1))
		if !slices.Equal(b, want) {
			t.Fatalf("an answer shares memory with what was handed in: %v", b)
		}
	}
}

func TestPiecesStayAsTheyWere(t *testing.T) {
	// The room to spare would be against each of these, if it were looked at.
	l := roomy([]api.Piece{piece("b", 2, 3), piece("a", 1, -1), piece("c", 4, 0)}, piece("b", 2, 3), api.Piece{}, piece("d", 65536, 1))
	was := wholly(l)
	for hart := -2; hart <= 8; hart++ {
		data.Part(l, hart)
	}
	if err, size := data.Check(l), data.Size(l); err != api.OK || size != 7 || !slices.Equal(wholly(l), was) {
		t.Errorf("%d, %d doubles, %v", err, size, wholly(l))
	}
	if from, to, err := data.Part(l, 3); from != 1048616 || to != 1048632 || err != api.OK {
		t.Errorf("%d, %d, %d", from, to, err)
	}
	for err, spoilt := range spoilt() {
		l := roomy(spoilt, piece("z", 1, 0))
		was := wholly(l)
		got, e := data.Lay(l)
		if e != err || len(got) > 0 || !slices.Equal(wholly(l), was) {
			t.Errorf("%v, %d, %v", got, e, wholly(l))
		}
	}
	// A list without pieces, behind which there are some.
	none := l[:0]
	if got, err := data.Lay(none); err != api.OK || len(got) > 0 || cap(got) > 0 || data.Size(none) != 0 || data.Check(none) != api.OK {
		t.Errorf("%v, %d", got, err)
	}
}

func TestSeatsStayAsTheyWere(t *testing.T) {
	l := roomy(some(t), seat("spare", 1, 0, 1<<21), seat("b", 1, -1, 1<<20))
	was := wholly(l)
	holdNotFound(t, l, "spare", 0)
	holdNoneAt(t, l, 1<<21, 1<<20+1)
	holdFind(t, l, "b", -1, l[0])
	holdAt(t, l, 1<<20+8, l[1], 0)
	if !slices.Equal(wholly(l), was) {
		t.Errorf("%v, was %v", wholly(l), was)
	}
	holdNotFound(t, l[:0], "b", -1)
	holdNoneAt(t, l[:0], 1<<20)
}

func TestAnswersHangOnWhatIsGivenAlone(t *testing.T) {
	l := []api.Piece{piece("a", 2, 1), piece("b", 1, -1), piece("a", 3, 0)}
	d := dice(8)
	for range 50 {
		holdPieces(t, l)
		holdPieces(t, d.spoil(d.pieces(9)))
		holdPieces(t, d.pieces(9))
		// Names that were there in another call are no names that were there.
		holdCheck(t, api.OK, l...)
		holdLay(t, l, seat("b", 1, -1, 1048576), seat("a", 3, 0, 1048584), seat("a", 2, 1, 1048608))
	}
}
