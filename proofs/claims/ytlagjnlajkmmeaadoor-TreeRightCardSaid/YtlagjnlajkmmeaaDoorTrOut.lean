/-
A tree that is being built: its struct in a block of its own, its parts appended. Of no function of the program.
-/
import Derived.Test.YtlagjnlajkmmeaaDoorTrOwn
import Derived.Test.YtlagjnlajkmmeaaDoorTrRight
import Derived.Test.YtlagjnlajkmmeaaDoorBHeld
namespace Go.Proofs.YtlagjnlajkmmeaaDoor
open Go.RowKit

/-- Block g holds the struct; its parts so far are l. -/
structure OutSt (T : TypeId) (g : Nat) (k n : Int) (s : List UInt8) (f t : Int) (w : World) (v : Value) (l : List PartV) : Prop where
  row : w.heap[g]? = some (.cells #[.int .i64 k, .int .i64 n, .string ⟨s.toArray⟩, .int .i64 f, .int .i64 t, v] T (0, 0))
  own : OwnN T (g + 1) w v l
  deep : ∀ x ∈ l, FitN x.1 ∧ RdA (fun b => g < b ∧ v.ownBlock ≠ some b) w x.1.args x.2
theorem row6 {w : World} {g : Nat} {a b c d e f : Value} {T : TypeId} (h : w.heap[g]? = some (.cells #[a, b, c, d, e, f] T (0, 0))) :
    (w.cell? ⟨g, 0, none⟩ = some a ∧ w.cell? ⟨g, 1, none⟩ = some b ∧ w.cell? ⟨g, 2, none⟩ = some c ∧ w.cell? ⟨g, 3, none⟩ = some d ∧ w.cell? ⟨g, 4, none⟩ = some e ∧ w.cell? ⟨g, 5, none⟩ = some f) ∧ ∀ i, w.frozen? ⟨g, i, none⟩ = false :=
  ⟨⟨by rw [cell_of_row _ _ 0 _ _ _ h]; rfl, by rw [cell_of_row _ _ 1 _ _ _ h]; rfl, by rw [cell_of_row _ _ 2 _ _ _ h]; rfl, by rw [cell_of_row _ _ 3 _ _ _ h]; rfl, by rw [cell_of_row _ _ 4 _ _ _ h]; rfl, by rw [cell_of_row _ _ 5 _ _ _ h]; rfl⟩, fun i => by simp [World.frozen?, h]⟩
theorem heap_setN {w : World} {b g i : Nat} {v : Value} (h : b ≠ g) : (w.setCell ⟨b, i, none⟩ v).heap[g]? = w.heap[g]? := by
  simp [World.setCell, Array.getElem?_modify, h]
theorem size_set {w : World} {a : Addr} {v : Value} : (w.setCell a v).heap.size = w.heap.size := by simp [World.setCell]
section
variable {T : TypeId} {g : Nat} {k n : Int} {s : List UInt8} {f t : Int} {w w' : World} {v v' : Value} {l : List PartV}
theorem OutSt.below (h : OutSt T g k n s f t w v l) (hb : Below w.heap.size w w') : OutSt T g k n s f t w' v l :=
  ⟨by rw [hb.block g (Array.getElem?_eq_some_iff.1 h.row).1]; exact h.row, h.own.below hb, fun x hx => ⟨(h.deep x hx).1, (h.deep x hx).2.below hb⟩⟩
theorem OutSt.own_lt (h : OutSt T g k n s f t w v l) : ∀ b, v.ownBlock = some b → g < b ∧ b < w.heap.size := fun b hb => by
  have := World.ownsRow.lt h.own b hb
  omega
theorem OutSt.push (h : OutSt T g k n s f t w v l) {y : Tr} {u : Value} (ho : OwnN T (g + 1) w' v' (l ++ [(y, u)])) (hg : w.grownBy w' v.ownBlock) (hv : v'.ownBlock = v.ownBlock ∨ v'.ownBlock = some w.heap.size)
    (hy : FitN y) (hd : RdA (fun b => g < b ∧ v.ownBlock ≠ some b) w y.args u) : OutSt T g k n s f t (w'.setCell ⟨g, 5, none⟩ v') v' (l ++ [(y, u)]) := by
  have hlt := h.own_lt
  have hgl : g < w.heap.size := (Array.getElem?_eq_some_iff.1 h.row).1
  have hrow : w'.heap[g]? = _ := (hg.block g hgl (fun e => by have := (hlt g e.symm).1; omega)).trans h.row
  have keep : ∀ {l : List Tr} {u : Value}, RdA (fun b => g < b ∧ v.ownBlock ≠ some b) w l u → RdA (fun b => g < b ∧ v'.ownBlock ≠ some b) (w'.setCell ⟨g, 5, none⟩ v') l u := fun hr => by
    refine hr.keep (fun b hb hbl => ?_) (by rw [size_set]; exact hg.size)
    have h1 : v'.ownBlock ≠ some b := by
      rcases hv with e | e
      · rw [e]; exact hb.2
      · rw [e]; intro e2; injection e2 with e2; omega
    have h2 : (w'.setCell ⟨g, 5, none⟩ v').heap[b]? = w.heap[b]? := by
      rw [heap_setN (by omega)]
      exact hg.block b hbl (fun e => hb.2 e.symm)
    exact ⟨⟨hb.1, h1⟩, h2⟩
  refine ⟨?_, ?_, fun x hx => ?_⟩
  · simp [World.setCell, Array.getElem?_modify, hrow]
  · refine ⟨ho.1, ?_⟩
    rcases ho.2 with h2 | ⟨b, cap, cur, hv2, hb2, hh, r⟩
    · exact .inl h2
    · exact .inr ⟨b, cap, cur, hv2, hb2, by rw [heap_setN (by omega)]; exact hh, r⟩
  · rcases List.mem_append.1 hx with hx | hx
    · exact ⟨(h.deep x hx).1, keep (h.deep x hx).2⟩
    · obtain rfl := List.mem_singleton.1 hx
      exact ⟨hy, keep hd⟩
/-- The struct stands whole: what it reads as. -/
theorem OutSt.rdA (h : OutSt T g k n s f t w v l) : RdA (fun b => g < b) w (l.map (·.1)) v :=
  h.own.rdA (fun x hx => ⟨(h.deep x hx).1, (h.deep x hx).2.imp (fun b hb => hb.1)⟩) (fun b hb => (h.own_lt b hb).1)
end
theorem OutSt.new {T : TypeId} {g : Nat} (w : World) (hg : g = w.heap.size) (k n : Int) (s : List UInt8) (f t : Int) : OutSt T g k n s f t (w.alloc (.cells #[.int .i64 k, .int .i64 n, .string ⟨s.toArray⟩, .int .i64 f, .int .i64 t, .slice none 0 0] T)) (.slice none 0 0) [] :=
  ⟨heap_new hg, OwnN.nil _ _ _, fun x hx => by cases hx⟩
/-- Six stores. -/
theorem set6 {w : World} {b : Nat} {x0 x1 x2 x3 x4 x5 y0 y1 y2 y3 y4 y5 : Value} {T : TypeId} (h : w.heap[b]? = some (.cells #[y0, y1, y2, y3, y4, y5] T (0, 0))) :
    ((((((w.setCell ⟨b, 0, none⟩ x0).setCell ⟨b, 1, none⟩ x1).setCell ⟨b, 2, none⟩ x2).setCell ⟨b, 3, none⟩ x3).setCell ⟨b, 4, none⟩ x4).setCell ⟨b, 5, none⟩ x5).heap[b]? = some (.cells #[x0, x1, x2, x3, x4, x5] T (0, 0)) := by
  simp [World.setCell, Array.getElem?_modify, h]
theorem below_set {b : Nat} {w w' : World} (h : Below b w w') (i : Nat) (x : Value) : Below b w (w'.setCell ⟨b, i, none⟩ x) :=
  ⟨h.os, h.tape, h.output, by rw [size_set]; exact h.size, fun k hk => by rw [heap_setN (by omega)]; exact h.block k hk⟩
/-- The result's cells are laid, at block b. -/
theorem fin6 {w w' : World} {b : Nat} (hb : Below b w w') {y0 y1 y2 y3 y4 y5 : Value} {T : TypeId} (h : w'.heap[b]? = some (.cells #[y0, y1, y2, y3, y4, y5] T (0, 0))) (x0 x1 x2 x3 x4 x5 : Value) (wf : World)
    (hwf : wf = ((((((w'.setCell ⟨b, 0, none⟩ x0).setCell ⟨b, 1, none⟩ x1).setCell ⟨b, 2, none⟩ x2).setCell ⟨b, 3, none⟩ x3).setCell ⟨b, 4, none⟩ x4).setCell ⟨b, 5, none⟩ x5)) :
    Below b w wf ∧ wf.heap[b]? = some (.cells #[x0, x1, x2, x3, x4, x5] T (0, 0)) ∧ wf.heap.size = w'.heap.size ∧ ∀ i, i ≠ b → wf.heap[i]? = w'.heap[i]? := by
  refine ⟨?_, ?_, ?_, fun i hi => ?_⟩
  · rw [hwf]
    exact below_set (below_set (below_set (below_set (below_set (below_set hb _ _) _ _) _ _) _ _) _ _) _ _
  · rw [hwf]
    exact set6 h
  · rw [hwf, size_set, size_set, size_set, size_set, size_set, size_set]
  · rw [hwf, heap_setN (Ne.symm hi), heap_setN (Ne.symm hi), heap_setN (Ne.symm hi), heap_setN (Ne.symm hi), heap_setN (Ne.symm hi), heap_setN (Ne.symm hi)]
/-- An append of a part as a step of a region that draws its order. -/
theorem step_appN {T ST : TypeId} (hT : infoN T) (hST : Tryd.prog.underlying ST = some (.slice T)) {ops : Array Oper} {o : Oper} {a : Act} {K : Act → World → Prop} {Q : Exit → Act → World → Prop} {E : Prop} {w : World} (hgd : o.guard = none) (s x : Operand)
    (ho : o.op = Op.call { callee := Callee.builtin Builtin.append, args := #[s, x], argTypes := #[ST, ST] }) (B : Nat) (v : Value) (l : List PartV) (hs : a.eval s = v) (hown : OwnN T B w v l)
    (g off cap : Nat) (y : Tr) (u : Value) (hx : a.eval x = .slice (some ⟨g, off, none⟩) 1 cap) (hcap : 1 ≤ cap) (hm : cap ≤ maxLen) (hc : At6 w g off y.kind y.num y.text y.a y.b u) (hlit : ∃ A n c, u = .slice A n c) (hl : l.length + 1 ≤ 1000000) (hB : B ≤ w.heap.size)
    (h : ∀ v' w', OwnN T B w' v' (l ++ [(y, u)]) → Below B w w' → w.grownBy w' v.ownBlock → (v'.ownBlock = v.ownBlock ∨ v'.ownBlock = some w.heap.size) → K (a.put o.dst v') w') :
    if Region.wanted o (yielded ops a.tmps) = true then Oper.wp Tryd.prog o a w K Q else E := by
  have hw : Region.wanted o (yielded ops a.tmps) = true := by simp [Region.wanted, hgd]
  rw [if_pos hw]
  obtain ⟨v', w', hr, h1, h2, h3, h4⟩ := run_appN hT hST w o.type B v l hown g off cap y u hcap hm hc hlit hl hB
  unfold Oper.wp
  simp [execOp, ho, resolve, invoke, builtin, hs, hx, hr, Result.andThen]
  exact h v' w' h1 h2 h3 h4
section
theorem loadVar_node {T : TypeId} (hT : infoN T) {w : World} {b : Nat} {a0 a1 a2 a3 a4 a5 : Value} (c : w.cell? ⟨b, 0, none⟩ = some a0 ∧ w.cell? ⟨b, 1, none⟩ = some a1 ∧ w.cell? ⟨b, 2, none⟩ = some a2 ∧ w.cell? ⟨b, 3, none⟩ = some a3 ∧ w.cell? ⟨b, 4, none⟩ = some a4 ∧ w.cell? ⟨b, 5, none⟩ = some a5)
    (hld : (loadVar T ⟨b, 0, none⟩).run Tryd.prog w = .ok (.agg #[a0, a1, a2, a3, a4, a5]) w) {fn : Func} {t : Tmp} (h : fn.results = #[.cell t T]) {tmps : Array Value} (ht : tmps.getD t undef = .pointer (some ⟨b, 0, none⟩)) :
    (results fn tmps).run Tryd.prog w = .ok (.agg #[a0, a1, a2, a3, a4, a5]) w := by
  have ht' : tmps[t]?.getD undef = .pointer (some ⟨b, 0, none⟩) := by simpa using ht
  simp [results, h, ht', asAddr, hld]
end
end Go.Proofs.YtlagjnlajkmmeaaDoor
