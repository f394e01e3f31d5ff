package a1_test

import (
	"math"
	"testing"

	"quadrille/a1"
)

// rects returns all rectangles with columns and rows of a list.
func rects(l []int) []a1.Rect {
	var all []a1.Rect
	for _, col := range l {
		for _, row := range l {
			for _, toCol := range l {
				for _, toRow := range l {
					all = append(all, a1.Rect{From: a1.Cell{Col: col, Row: row}, To: a1.Cell{Col: toCol, Row: toRow}})
				}
			}
		}
	}
	return all
}

// sorted returns the lesser number of two, and the greater one.
func sorted(a, b int) (int, int) {
	if a > b {
		return b, a
	}
	return a, b
}

// P7.3: whichever corners the two cells are; also of cells that are not valid.
func TestOrdered(t *testing.T) {
	for _, r := range rects([]int{math.MinInt, -3, 0, 1, 2, 3, 702, 703, 9999, math.MaxInt}) {
		firstCol, lastCol := sorted(r.From.Col, r.To.Col)
		firstRow, lastRow := sorted(r.From.Row, r.To.Row)
		want := a1.Rect{From: a1.Cell{Col: firstCol, Row: firstRow}, To: a1.Cell{Col: lastCol, Row: lastRow}}
		if got := r.Ordered(); got != want {
			t.Errorf("%v: Ordered = %v; want %v", r, got, want)
		}
	}
}

// P7.3: the cells on the edges belong to the rectangle, whichever corners the two cells are.
func TestHas(t *testing.T) {
	places := []int{-1, 0, 1, 2, 3, 4}
	for _, r := range rects(places) {
		firstCol, lastCol := sorted(r.From.Col, r.To.Col)
		firstRow, lastRow := sorted(r.From.Row, r.To.Row)
		in := map[a1.Cell]bool{}
		for col := firstCol; col <= lastCol; col++ {
			for row := firstRow; row <= lastRow; row++ {
				in[a1.Cell{Col: col, Row: row}] = true
			}
		}
		for col := -2; col <= 5; col++ {
			for row := -2; row <= 5; row++ {
				c := a1.Cell{Col: col, Row: row}
				if got := r.Has(c); got != in[c] {
					t.Errorf("%v: Has(%v) = %t; want %t", r, c, got, in[c])
				}
			}
		}
	}
}

// P7.3: columns and rows at the ends of all integers.
func TestHasFar(t *testing.T) {
	least, greatest := a1.Cell{Col: math.MinInt, Row: math.MinInt}, a1.Cell{Col: math.MaxInt, Row: math.MaxInt}
	all := a1.Rect{From: greatest, To: least}
	for _, c := range []a1.Cell{least, greatest, {}, {Col: math.MaxInt, Row: math.MinInt}, {Col: 702, Row: 9999}} {
		if !all.Has(c) {
			t.Errorf("the rectangle of all cells does not have %v", c)
		}
		if (a1.Rect{From: a1.Cell{Col: 5, Row: 5}, To: a1.Cell{Col: 5, Row: 5}}).Has(c) {
			t.Errorf("the rectangle of one cell has %v", c)
		}
	}
}

// P7.3: the two cells are named as they are, not in their order.
func TestRectText(t *testing.T) {
	for s, r := range map[string]a1.Rect{
		"A1:B2":         {From: a1.Cell{Col: 1, Row: 1}, To: a1.Cell{Col: 2, Row: 2}},
		"B2:A1":         {From: a1.Cell{Col: 2, Row: 2}, To: a1.Cell{Col: 1, Row: 1}},
		"C1:A4":         {From: a1.Cell{Col: 3, Row: 1}, To: a1.Cell{Col: 1, Row: 4}},
		"A4:C1":         {From: a1.Cell{Col: 1, Row: 4}, To: a1.Cell{Col: 3, Row: 1}},
		"AA10:AA10":     {From: a1.Cell{Col: 27, Row: 10}, To: a1.Cell{Col: 27, Row: 10}},
		"A1:ZZ9999":     {From: a1.Cell{Col: 1, Row: 1}, To: a1.Cell{Col: 702, Row: 9999}},
		"ZZ9999:A1":     {From: a1.Cell{Col: 702, Row: 9999}, To: a1.Cell{Col: 1, Row: 1}},
		"ZZ9999:ZZ9999": {From: a1.Cell{Col: 702, Row: 9999}, To: a1.Cell{Col: 702, Row: 9999}},
	} {
		if got := r.Text(); got != s {
			t.Errorf("%v: Text = %q; want %q", r, got, s)
		}
	}
}

// P7.3: there is no Text if one of the cells, or both, are not valid.
func TestRectTextOfNone(t *testing.T) {
	for _, r := range rects([]int{math.MinInt, -1, 0, 1, 2, 702, 703, 9999, 10000, math.MaxInt}) {
		want := ""
		if r.From.Right() && r.To.Right() {
			want = r.From.Text() + ":" + r.To.Text()
		}
		if got := r.Text(); got != want {
			t.Errorf("%v: Text = %q; want %q", r, got, want)
		}
	}
	if got := (a1.Rect{}).Text(); got != "" {
		t.Errorf("Text of the zero Rect = %q", got)
	}
}
