/-
A strings.Builder that is the first field of a struct of three cells: copyCheck, WriteString, String, by contracts; what they keep.
-/
import Derived.Test.YtlagjnlajkmmeaaDoorBRead
import Derived.Test.YtlagjnlajkmmeaaDoorTrOut
import Derived.Lib.Builder
import Derived.Lib.OthersKept
import Derived.Lib.UnsafeStr
import Derived.Laws.Externs
namespace Go.Proofs.YtlagjnlajkmmeaaDoor
open Go.RowKit

abbrev tU8 : TypeId := 5
/-- Block r, of type T, holds a Builder and one more cell; the Builder holds the bytes bs. -/
def Pr (T : TypeId) (B r : Nat) (nm : Value) (bs : List UInt8) (w : World) : Prop :=
  (T ≠ tU8 ∧ B ≤ r) ∧ ∃ p v, (p = .pointer none ∨ p = .pointer (some ⟨r, 0, none⟩)) ∧ w.heap[r]? = some (.cells #[p, v, nm] T (0, 0)) ∧ w.ownsRow B tU8 1 v bs.length (Lib.byteCells bs)
structure Fr (B r : Nat) (w w' : World) : Prop where
  below : Below B w w'
  kept : Lib.OthersKept tU8 (some r) w w'
theorem Fr.refl (B r : Nat) (w : World) : Fr B r w w := ⟨Below.refl _ _, Lib.OthersKept.refl _ _ _⟩
theorem Fr.trans {B r : Nat} {w w' w'' : World} (h : Fr B r w w') (k : Fr B r w' w'') : Fr B r w w'' := ⟨h.below.trans k.below, h.kept.trans k.kept⟩
theorem Fr.of {B r : Nat} {w w' : World} (h : Below w.heap.size w w') (hB : B ≤ w.heap.size) : Fr B r w w' :=
  ⟨h.mono hB, fun k o hk _ _ => (h.block k (Array.getElem?_eq_some_iff.1 hk).1).trans hk⟩
theorem Fr.size {B r : Nat} {w w' : World} (h : Fr B r w w') : w.heap.size ≤ w'.heap.size := h.below.size
theorem Fr.heap {B r g : Nat} {w w' : World} (h : Fr B r w w') {cs : Array Value} {T : TypeId} {z : Nat × Nat} (hg : w.heap[g]? = some (.cells cs T z)) (hr : g ≠ r) (hT : T ≠ tU8) : w'.heap[g]? = some (.cells cs T z) :=
  h.kept g _ hg (fun e => hr (Option.some.inj e)) (fun c fz e => hT (by injection e))
theorem Pr.lt {T : TypeId} {B r : Nat} {nm : Value} {bs : List UInt8} {w : World} (h : Pr T B r nm bs w) : r < w.heap.size := by
  obtain ⟨_, p, v, _, hh, _⟩ := h
  exact (Array.getElem?_eq_some_iff.1 hh).1
theorem Pr.base {T : TypeId} {B r : Nat} {nm : Value} {bs : List UInt8} {w : World} (h : Pr T B r nm bs w) : B ≤ w.heap.size := Nat.le_of_lt (Nat.lt_of_le_of_lt h.1.2 h.lt)
theorem Pr.keep {T : TypeId} {B r : Nat} {nm : Value} {bs : List UInt8} {w w' : World} (h : Pr T B r nm bs w) (hb : Below w.heap.size w w') : Pr T B r nm bs w' := by
  have hlt := h.lt
  obtain ⟨hB, p, v, hp, hh, ho⟩ := h
  exact ⟨hB, p, v, hp, (hb.block r hlt).trans hh, ownsRow_below ho hb (Nat.le_refl _)⟩
theorem Pr.alloc {T : TypeId} {B r : Nat} {nm : Value} {bs : List UInt8} {w : World} (h : Pr T B r nm bs w) (o : Obj) : Pr T B r nm bs (w.alloc o) := h.keep (below_alloc w o)
theorem Pr.ne {T : TypeId} {B r g : Nat} {nm : Value} {bs : List UInt8} {w : World} (h : Pr T B r nm bs w) {cs : Array Value} {t : TypeId} {z : Nat × Nat} (hg : w.heap[g]? = some (.cells cs t z)) (hT : T ≠ t) : g ≠ r := by
  obtain ⟨_, p, v, _, hh, _⟩ := h
  intro e
  subst e
  rw [hg] at hh
  injection hh with hh
  injection hh with _ e _
  exact hT e.symm
theorem Pr.new (T : TypeId) (hT : T ≠ tU8) (w : World) (nm : Value) : Pr T w.heap.size w.heap.size nm [] (w.alloc (.cells #[.pointer none, .slice none 0 0, nm] T)) :=
  ⟨⟨hT, Nat.le_refl _⟩, _, _, .inl rfl, heap_new rfl, World.ownsRow_nil _ _ _ _⟩
theorem str_cells (s : List UInt8) : Lib.strCells ⟨s.toArray⟩ = Lib.byteCells s := by simp [Lib.strCells, Lib.byteCells]
theorem byteCells_app (a b : List UInt8) : Lib.byteCells a ++ Lib.byteCells b = Lib.byteCells (a ++ b) := by simp [Lib.byteCells]
theorem info_bld : (Tryd.prog.info? 59).map (·.size) = some 2 := by kernel_rfl

section
variable {T : TypeId} {B r : Nat} {nm : Value} {bs : List UInt8} {w : World}
set_option maxHeartbeats 1000000 in
set_option maxRecDepth 100000 in
theorem cc_used (w : World) (h0 : w.cell? ⟨r, 0, none⟩ = some (.pointer (some ⟨r, 0, none⟩))) :
    Calls Tryd.prog 57 #[.pointer (some ⟨r, 0, none⟩)] w fun e w' => e = .returned (.tuple #[]) ∧ w' = w := by
  obtain ⟨j, hj, hjs⟩ := Option.map_eq_some_iff.1 info_bld
  go_enter Tryd.func57, Tryd.ntmps57
  go_wp2
  rw [Lib.run_neq_ptr_same w _ Tryd.underlying56 hj]
  go_wp2
  go_end0
  exact ⟨rfl, rfl⟩
set_option maxHeartbeats 1000000 in
set_option maxRecDepth 100000 in
theorem cc_fresh (hl : liesAt Tryd.prog Tryd.prog.depth T (3 / Tryd.prog.cellsOf T) 0 59 1 = true) (w : World) (h0 : w.cell? ⟨r, 0, none⟩ = some (.pointer none)) (hsh : w.shape? r = some (T, 3)) (hfz : w.frozen? ⟨r, 0, none⟩ = false) :
    Calls Tryd.prog 57 #[.pointer (some ⟨r, 0, none⟩)] w fun e w' => e = .returned (.tuple #[]) ∧ w' = w.setCell ⟨r, 0, none⟩ (.pointer (some ⟨r, 0, none⟩)) := by
  obtain ⟨j, hj, hjs⟩ := Option.map_eq_some_iff.1 info_bld
  go_enter Tryd.func57, Tryd.ntmps57
  go_wp2
  rw [Lib.run_to_unsafe w ⟨r, 0, none⟩ Tryd.underlying56 Tryd.underlying99 hj (by rw [hjs]; decide) hsh (Nat.zero_lt_succ 2)]
  simp only [Result.andThen]
  rw [Oper.upon_value]
  go_wp2
  rw [run_callFunc_extern Tryd.func67 (by kernel_rfl) (by kernel_rfl) (by kernel_rfl) (e := Extern.AbiNoEscape.same) (by kernel_rfl)]
  rw [Lib.run_noEscape]
  simp only [Result.andThen]
  rw [Oper.upon_value]
  go_wp2
  rw [Lib.run_from_unsafe w ⟨r, 0, none⟩ Tryd.underlying99 Tryd.underlying56 hj hsh hl]
  simp only [Result.andThen]
  rw [Oper.upon_value]
  go_wp2
  go_end0
  exact ⟨rfl, rfl⟩

/-- The Builder's own cell is laid. -/
theorem Pr.used (h : Pr T B r nm bs w) : Pr T B r nm bs (w.setCell ⟨r, 0, none⟩ (.pointer (some ⟨r, 0, none⟩))) := by
  obtain ⟨hB, p, v, hp, hh, ho⟩ := h
  refine ⟨hB, .pointer (some ⟨r, 0, none⟩), v, .inr rfl, by simp [World.setCell, Array.getElem?_modify, hh], ?_⟩
  exact ho.kept (row := some r) ⟨rfl, rfl, rfl, by simp [World.setCell], fun k _ hk => Below.heap_setCell _ _ _ _ (fun e => hk (by simp [e]))⟩ (Or.inr (Lib.ownBlock_ne ho hh hB.1))
theorem Fr.set (hB : B ≤ r) (i : Nat) (u : Value) (w : World) : Fr B r w (w.setCell ⟨r, i, none⟩ u) :=
  ⟨(Below.refl B w).setCell (p := ⟨r, i, none⟩) hB _, (Lib.OthersKept.refl _ _ w).setCell ⟨r, i, none⟩ rfl _⟩
theorem cc_any (hl : liesAt Tryd.prog Tryd.prog.depth T (3 / Tryd.prog.cellsOf T) 0 59 1 = true) (w : World) (h : Pr T B r nm bs w) :
    Calls Tryd.prog 57 #[.pointer (some ⟨r, 0, none⟩)] w fun e w' => e = .returned (.tuple #[]) ∧ Pr T B r nm bs w' ∧ w'.cell? ⟨r, 0, none⟩ = some (.pointer (some ⟨r, 0, none⟩)) ∧ Fr B r w w' := by
  have h0 := h
  obtain ⟨hB, p, v, hp, hh, ho⟩ := h
  rcases hp with rfl | rfl
  · refine (cc_fresh hl w (by rw [cell_of_row _ _ 0 _ _ _ hh]; rfl) (by simp [World.shape?, hh]) (by simp [World.frozen?, hh])).mono ?_
    rintro e w' ⟨rfl, rfl⟩
    exact ⟨rfl, h0.used, World.cell?_setCell_same w _ _ (by rw [cell_of_row _ _ 0 _ _ _ hh]; rfl), Fr.set hB.2 0 _ w⟩
  · refine (cc_used w (by rw [cell_of_row _ _ 0 _ _ _ hh]; rfl)).mono ?_
    rintro e w' ⟨rfl, rfl⟩
    exact ⟨rfl, h0, by rw [cell_of_row _ _ 0 _ _ _ hh]; rfl, Fr.refl _ _ _⟩

set_option maxHeartbeats 2000000 in
set_option maxRecDepth 100000 in
/-- A text is written. -/
theorem ws_any (hl : liesAt Tryd.prog Tryd.prog.depth T (3 / Tryd.prog.cellsOf T) 0 59 1 = true) (w : World) (h : Pr T B r nm bs w) (s : List UInt8) (hlen : bs.length + s.length ≤ 140737488355328) :
    Calls Tryd.prog 51 #[.pointer (some ⟨r, 0, none⟩), .string ⟨s.toArray⟩] w fun e w' => e = .returned (.tuple #[.int .i64 s.length, .nilIface]) ∧ Pr T B r nm (bs ++ s) w' ∧ Fr B r w w' := by
  obtain ⟨i0, hi, hz0, hz1, hz2⟩ := info_parts info_u8
  have hsz : (⟨s.toArray⟩ : ByteArray).size = s.length := rfl
  have HSC := Lib.hid (str_cells s)
  generalize hsb : (⟨s.toArray⟩ : ByteArray) = sb at *
  generalize hn : s.length = n at *
  clear hsb
  go_enter Tryd.func51, Tryd.ntmps51
  go_wp2_with fail
  go_at_call 57
  with_reducible refine (cc_any hl w h).mono ?_
  rintro e w1 ⟨rfl, h1, c0, hk1⟩
  have hlt := h1.lt
  have hbase := h1.base
  obtain ⟨hB, p, v, hp, hbk, hown⟩ := h1
  have c1 : w1.cell? ⟨r, 1, none⟩ = some v := by rw [cell_of_row _ _ 1 _ _ _ hbk]; rfl
  clear h
  go_wp2_with (at_builtin; refine Lib.wpList_append_own_string _ rfl _ _ 57 9 rfl B 5 i0 Tryd.underlying57 Tryd.underlying9 hi hz0 hz1 hz2 _ _ _ rfl hown sb rfl ?c3 ?c4 ?c5 ?_)
  case c3 => unfold maxLen; omega
  case c4 => omega
  case c5 => exact hbase
  intro v' w2 hown' hgrow _
  have hrk : v.ownBlock ≠ some r := Lib.ownBlock_ne hown hbk hB.1
  have hb2 : w2.heap[r]? = some (.cells #[p, v, nm] T (0, 0)) := (hgrow.block r hlt (fun e => hrk e.symm)).trans hbk
  have d1 : w2.cell? ⟨r, 1, none⟩ = some v := by rw [cell_of_row _ _ 1 _ _ _ hb2]; rfl
  have f1 : w2.frozen? ⟨r, 1, none⟩ = false := by simp [World.frozen?, hb2]
  obtain ⟨ao, n', cap, rfl⟩ : ∃ ao n' cap, v' = .slice ao n' cap := by
    rcases hown'.2 with ⟨hv, _⟩ | ⟨g, cap, cur, hv, _⟩
    · exact ⟨_, _, _, hv⟩
    · exact ⟨_, _, _, hv⟩
  go_wp2
  go_ret2
  refine ⟨by rw [← (show (sb.size : Int) = (n : Int) from by rw [hsz])]; rfl, ⟨hB, p, .slice ao n' cap, hp, by simp [World.setCell, Array.getElem?_modify, hb2], ?_⟩, ?_⟩
  · have ho2 : w2.ownsRow B tU8 1 (.slice ao n' cap) (bs ++ s).length (Lib.byteCells (bs ++ s)) := by
      rw [List.length_append, hn, ← byteCells_app, ← HSC.out]
      exact hown'
    exact ho2.kept (row := some r) ⟨rfl, rfl, rfl, by simp [World.setCell], fun k _ hk => Below.heap_setCell _ _ _ _ (fun e => hk (by simp [e]))⟩ (Or.inr (Lib.ownBlock_ne ho2 hb2 hB.1))
  · exact (hk1.trans ⟨(Below.refl B w1).grown hgrow hbase (fun k hk => (World.ownsRow.lt hown k hk).1), (Lib.OthersKept.refl _ _ w1).grown hgrow (Lib.ownsRowF_kind (World.ownsRowF_of hown))⟩).trans (Fr.set hB.2 1 _ w2)
end
end Go.Proofs.YtlagjnlajkmmeaaDoor
