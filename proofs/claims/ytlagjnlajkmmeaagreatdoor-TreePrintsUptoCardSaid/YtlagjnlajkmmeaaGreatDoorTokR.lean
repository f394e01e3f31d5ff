/-
The reference of stage 8: run and begins, by contracts.
The reference of stage 8: quoted, by a contract.
The reference of stage 8: one, by a contract: numbers, names, texts, the fault.
Slices of the reference's tokens that read as lists; appended.
The reference of stage 8: Split, by a contract.
The laws' same: two slices of tokens that read alike are the same.
What the laws of stage 8 ask of package token's Split; the chapter's example, and the law TokenSplits, over it.
The reference of stage 8: Quote, by a contract; the law TokenQuotes over what it asks of package token.
-/
import Derived.Test.YtlagjnlajkmmeaaGreatDoorTokM
import Derived.Test.YtlagjnlajkmmeaaGreatDoorBRead
import Derived.Lib.Strings
import Derived.LoopTactic
import Derived.Laws.IdiomStrings
import Derived.Test.YtlagjnlajkmmeaaGreatDoorBHeld
namespace Go.Proofs.YtlagjnlajkmmeaaGreatDoor
open Go.RowKit Go.Proofs.YtlagjnlajkmmeaaGreatDoor.Tok

theorem runB_at : ∀ {p : UInt8 → Bool} {l : List UInt8} {k : Nat}, k ≤ l.length → (∀ j c, j < k → l[j]? = some c → p c = true) → (∀ c, l[k]? = some c → p c = false) → runB p l = k
  | p, [], k, hk, _, _ => by
    obtain rfl : k = 0 := by simpa using hk
    rfl
  | p, c :: t, 0, _, _, h => by
    have h0 := h c rfl
    simp [runB, h0]
  | p, c :: t, k + 1, hk, hj, h => by
    have h0 := hj 0 c (by omega) rfl
    have e := runB_at (p := p) (l := t) (k := k) (by simpa using hk) (fun j d hd hx => hj (j + 1) d (by omega) (by simpa using hx)) (fun d hd => h d (by simpa using hd))
    unfold runB at e ⊢
    rw [List.takeWhile_cons, if_pos h0, List.length_cons, e]
theorem ba_neT {a b : ByteArray} (h : a ≠ b) : (a.toList == b.toList) = false := by
  cases hq : a.toList == b.toList with
  | false => rfl
  | true =>
    have h4 := eq_of_beq hq
    rw [Lib.toList_data, Lib.toList_data] at h4
    exact absurd (ByteArray.ext (Array.ext' h4)) h
theorem ba_eqT {l m : List UInt8} : ((⟨l.toArray⟩ : ByteArray) = ⟨m.toArray⟩) ↔ l = m := by
  constructor
  · intro h
    have := congrArg (fun b : ByteArray => b.data.toList) h
    simpa using this
  · rintro rfl; rfl
theorem ext_T (l : List UInt8) (i j : Nat) : (⟨l.toArray⟩ : ByteArray).extract i j = ⟨((l.drop i).take (j - i)).toArray⟩ := by
  apply ByteArray.ext
  simp

end Go.Proofs.YtlagjnlajkmmeaaGreatDoor

namespace Go.Proofs.YtlagjnlajkmmeaaGreatDoor
open Go.RowKit Go.Proofs.YtlagjnlajkmmeaaGreatDoor.Tok

theorem ba_appT (xs ys : List UInt8) : (⟨xs.toArray⟩ ++ ⟨ys.toArray⟩ : ByteArray) = ⟨(xs ++ ys).toArray⟩ := by
  apply ByteArray.ext
  simp
def quotedT : Option (List UInt8 × Nat) → Value
  | some (x, k) => .tuple #[.string ⟨x.toArray⟩, .int .i64 ((k + 1 : Nat) : Int)]
  | none => .tuple #[.string ⟨#[]⟩, .int .i64 0]
theorem q_two {l : List UInt8} {i : Nat} (h : [34, 34].isPrefixOf (l.drop i) = true) : quotedF (l.drop i) = (quotedF (l.drop (i + 2))).map (fun x => (34 :: x.1, x.2 + 2)) := by
  obtain ⟨r, hr⟩ := List.isPrefixOf_iff_prefix.1 h
  have e : l.drop (i + 2) = r := by rw [← List.drop_drop, ← hr]; rfl
  rw [← hr, e]
  show quotedF (34 :: 34 :: r) = _
  simp [quotedF]
theorem q_one {l : List UInt8} {i : Nat} (hc : l[i]? = some 34) (h : [34, 34].isPrefixOf (l.drop i) = false) : quotedF (l.drop i) = some ([], 1) := by
  have e : l.drop i = 34 :: l.drop (i + 1) := by
    have hi := (List.getElem?_eq_some_iff.1 hc)
    rw [List.drop_eq_getElem_cons hi.1, hi.2]
  rw [e] at h ⊢
  cases hr : l.drop (i + 1) with
  | nil => simp [quotedF]
  | cons d r =>
    rw [hr] at h
    have hd : d ≠ 34 := fun q => by subst q; simp at h
    simp [quotedF, hd]
theorem q_other {l : List UInt8} {i : Nat} {c : UInt8} (hc : l[i]? = some c) (h : c ≠ 34) : quotedF (l.drop i) = (quotedF (l.drop (i + 1))).map (fun x => (c :: x.1, x.2 + 1)) := by
  have e : l.drop i = c :: l.drop (i + 1) := by
    have hi := (List.getElem?_eq_some_iff.1 hc)
    rw [List.drop_eq_getElem_cons hi.1, hi.2]
  rw [e]
  cases hr : l.drop (i + 1) with
  | nil => simp [quotedF, h]
  | cons d r => simp [quotedF, h]
/-- What is read so far, and what is to come. -/
def Quo (l : List UInt8) (p i : Nat) (t : List UInt8) : Prop := quotedF (l.drop (p + 1)) = (quotedF (l.drop i)).map (fun x => (t ++ x.1, i - (p + 1) + x.2))
theorem Quo.start (l : List UInt8) (p : Nat) : Quo l p (p + 1) [] := by
  unfold Quo
  cases quotedF (l.drop (p + 1)) with
  | none => rfl
  | some x => simp
theorem Quo.step {l : List UInt8} {p i m : Nat} {t u : List UInt8} (h : Quo l p i t) (hi : p + 1 ≤ i) (e : quotedF (l.drop i) = (quotedF (l.drop (i + m))).map (fun x => (u ++ x.1, x.2 + m))) : Quo l p (i + m) (t ++ u) := by
  unfold Quo at h ⊢
  rw [h, e]
  cases quotedF (l.drop (i + m)) with
  | none => rfl
  | some x =>
    simp
    omega

end Go.Proofs.YtlagjnlajkmmeaaGreatDoor

namespace Go.Proofs.YtlagjnlajkmmeaaGreatDoor
open Go.RowKit Go.Proofs.YtlagjnlajkmmeaaGreatDoor.Tok

def tokV (k : Int) (x : ByteArray) (p : Int) : Value := .agg #[.int .i64 k, .string x, .int .i64 p]
/-- What one answers. -/
def oneT (p : Nat) (o : Option (Nat × List UInt8 × Nat)) (v : Value) : Prop := match o with
  | some (k, x, n) => v = .tuple #[tokV k ⟨x.toArray⟩ p, .int .i64 (n : Int)]
  | none => ∃ (a : Int) (b : ByteArray) (c : Int), v = .tuple #[tokV a b c, .int .i64 0]
theorem cells3 (w : World) {g : Nat} (hg : g = w.heap.size) (x y z : Value) (T : TypeId) : (w.alloc (.cells #[x, y, z] T)).cell? ⟨g, 0, none⟩ = some x ∧ (w.alloc (.cells #[x, y, z] T)).cell? ⟨g, 1, none⟩ = some y ∧ (w.alloc (.cells #[x, y, z] T)).cell? ⟨g, 2, none⟩ = some z := by
  have h1 : (w.alloc (.cells #[x, y, z] T)).heap[g]? = some (.cells #[x, y, z] T (0, 0)) := heap_new hg
  exact ⟨by rw [cell_of_row _ _ 0 _ _ _ h1]; rfl, by rw [cell_of_row _ _ 1 _ _ _ h1]; rfl, by rw [cell_of_row _ _ 2 _ _ _ h1]; rfl⟩

theorem heap_setT {w : World} {b g i : Nat} {v : Value} (h : b ≠ g) : (w.setCell ⟨b, i, none⟩ v).heap[g]? = w.heap[g]? := by
  simp [World.setCell, Array.getElem?_modify, h]
theorem set3 {w : World} {b : Nat} {x y z x' y' z' : Value} {T : TypeId} (h : w.heap[b]? = some (.cells #[x', y', z'] T (0, 0))) :
    (((w.setCell ⟨b, 0, none⟩ x).setCell ⟨b, 1, none⟩ y).setCell ⟨b, 2, none⟩ z).cell? ⟨b, 0, none⟩ = some x ∧ (((w.setCell ⟨b, 0, none⟩ x).setCell ⟨b, 1, none⟩ y).setCell ⟨b, 2, none⟩ z).cell? ⟨b, 1, none⟩ = some y ∧ (((w.setCell ⟨b, 0, none⟩ x).setCell ⟨b, 1, none⟩ y).setCell ⟨b, 2, none⟩ z).cell? ⟨b, 2, none⟩ = some z := by
  have h1 : (((w.setCell ⟨b, 0, none⟩ x).setCell ⟨b, 1, none⟩ y).setCell ⟨b, 2, none⟩ z).heap[b]? = some (.cells #[x, y, z] T (0, 0)) := by
    simp [World.setCell, Array.getElem?_modify, h]
  exact ⟨by rw [cell_of_row _ _ 0 _ _ _ h1]; rfl, by rw [cell_of_row _ _ 1 _ _ _ h1]; rfl, by rw [cell_of_row _ _ 2 _ _ _ h1]; rfl⟩
theorem below_set3 {w w' : World} (hb : Below w.heap.size w w') (x y z : Value) : Below w.heap.size w (((w'.setCell ⟨w.heap.size, 0, none⟩ x).setCell ⟨w.heap.size, 1, none⟩ y).setCell ⟨w.heap.size, 2, none⟩ z) := by
  refine ⟨hb.os, hb.tape, hb.output, ?_, fun i hi => ?_⟩
  · have := hb.size
    simpa [World.setCell] using this
  · rw [heap_setT (by omega), heap_setT (by omega), heap_setT (by omega)]; exact hb.block i hi
theorem keep_set3 {w : World} {b g i : Nat} {x y z v : Value} (h : w.cell? ⟨g, i, none⟩ = some v) (hne : b ≠ g) : (((w.setCell ⟨b, 0, none⟩ x).setCell ⟨b, 1, none⟩ y).setCell ⟨b, 2, none⟩ z).cell? ⟨g, i, none⟩ = some v := by
  have hb : (((w.setCell ⟨b, 0, none⟩ x).setCell ⟨b, 1, none⟩ y).setCell ⟨b, 2, none⟩ z).heap[g]? = w.heap[g]? := by
    rw [heap_setT hne, heap_setT hne, heap_setT hne]
  exact (World.cell?_of_block (a := ⟨g, i, none⟩) hb).trans h
def signsC : Array Value := (signsL.map (fun x => Value.string ⟨x.toArray⟩)).toArray
theorem signs_cell (w : World) {g k : Nat} {x : List UInt8} (hg : g = w.heap.size) (hk : signsL[k]? = some x) (T : TypeId) : (w.alloc (.cells signsC T)).cell? ⟨g, k, none⟩ = some (.string ⟨x.toArray⟩) := by
  have h1 : (w.alloc (.cells signsC T)).heap[g]? = some (.cells signsC T (0, 0)) := heap_new hg
  rw [cell_of_row _ _ k _ _ _ h1]
  simp [signsC, hk]
theorem find_at {l : List (List UInt8)} {q : List UInt8 → Bool} {k : Nat} {x : List UInt8} (hx : l[k]? = some x) (hq : q x = true) (hj : ∀ (j : Nat) y, j < k → l[j]? = some y → q y = false) : l.find? q = some x := by
  rw [List.find?_eq_some_iff_getElem]
  have h := List.getElem?_eq_some_iff.1 hx
  refine ⟨hq, k, h.1, h.2, fun j hjk => ?_⟩
  rw [hj j _ hjk (List.getElem?_eq_getElem (by have := h.1; omega))]; rfl
theorem find_no {l : List (List UInt8)} {q : List UInt8 → Bool} (hj : ∀ (j : Nat) y, l[j]? = some y → q y = false) : l.find? q = none := by
  rw [List.find?_eq_none]
  intro x hx
  obtain ⟨j, hj2, rfl⟩ := List.getElem_of_mem hx
  rw [hj j _ (List.getElem?_eq_getElem hj2)]
  simp

end Go.Proofs.YtlagjnlajkmmeaaGreatDoor

namespace Go.Proofs.YtlagjnlajkmmeaaGreatDoor
open Go.RowKit Go.Proofs.YtlagjnlajkmmeaaGreatDoor.Tok

abbrev TokD := Nat × List UInt8 × Nat
def tokC (x : TokD) : List Value := [.int .i64 (x.1 : Int), .string ⟨x.2.1.toArray⟩, .int .i64 (x.2.2 : Int)]
/-- The cells at b, off are this token's. -/
def TokAt (w : World) (b off : Nat) (x : TokD) : Prop := w.cell? ⟨b, off, none⟩ = some (.int .i64 (x.1 : Int)) ∧ w.cell? ⟨b, off + 1, none⟩ = some (.string ⟨x.2.1.toArray⟩) ∧ w.cell? ⟨b, off + 2, none⟩ = some (.int .i64 (x.2.2 : Int))
/-- The slice value v reads as these tokens. -/
def RdT (w : World) (v : Value) (l : List TokD) : Prop :=
  (∃ p c, v = .slice p 0 c ∧ l = [] ∧ (p = none → c = 0)) ∨ ∃ b off cap, v = .slice (some ⟨b, off, none⟩) l.length cap ∧ l.length ≤ cap ∧ cap ≤ maxLen ∧ b < w.heap.size ∧
    ∀ (j : Nat) x, l[j]? = some x → TokAt w b (off + j * 3) x
theorem TokAt.below {w w' : World} {b off : Nat} {x : TokD} (h : TokAt w b off x) (hb : Below w.heap.size w w') : TokAt w' b off x := by
  obtain ⟨h0, h1, h2⟩ := h
  have hl := World.block_lt_of_cell? _ _ h0
  exact ⟨by rw [bcell hb _ _ hl]; exact h0, by rw [bcell hb _ _ hl]; exact h1, by rw [bcell hb _ _ hl]; exact h2⟩
theorem RdT.below {w w' : World} {v : Value} {l : List TokD} (h : RdT w v l) (hb : Below w.heap.size w w') : RdT w' v l := by
  rcases h with h | ⟨b, off, cap, rfl, hcap, hm, hlt, hc⟩
  · exact .inl h
  · exact .inr ⟨b, off, cap, rfl, hcap, hm, Nat.lt_of_lt_of_le hlt hb.size, fun j x hx => (hc j x hx).below hb⟩
theorem RdT.named {w : World} {v : Value} {l : List TokD} (h : RdT w v l) : ∃ A n c, v = .slice A n c ∧ n = l.length := by
  rcases h with ⟨p, c, rfl, rfl, _⟩ | ⟨b, off, cap, rfl, _⟩
  · exact ⟨p, 0, c, rfl, rfl⟩
  · exact ⟨_, _, cap, rfl, rfl⟩
theorem RdT.at_ {w : World} {A : Option Addr} {n c k : Nat} {l : List TokD} {x : TokD} (h : RdT w (.slice A n c) l) (hx : l[k]? = some x) :
    ∃ b off, A = some ⟨b, off, none⟩ ∧ TokAt w b (off + k * 3) x := by
  rcases h with ⟨p, c', hv, rfl, _⟩ | ⟨b, off, cap, hv, hcap, hm, hb, hc⟩
  · simp at hx
  · simp only [Value.slice.injEq] at hv
    obtain ⟨rfl, _, _⟩ := hv
    exact ⟨b, off, rfl, hc k x hx⟩
theorem flatT_get : ∀ (l : List TokD) (j : Nat) (x : TokD), l[j]? = some x → (l.flatMap tokC)[j * 3]? = some (.int .i64 (x.1 : Int)) ∧ (l.flatMap tokC)[j * 3 + 1]? = some (.string ⟨x.2.1.toArray⟩) ∧ (l.flatMap tokC)[j * 3 + 2]? = some (.int .i64 (x.2.2 : Int))
  | [], _, _, h => by simp at h
  | y :: t, 0, x, h => by simp at h; subst h; exact ⟨rfl, rfl, rfl⟩
  | y :: t, j + 1, x, h => by
    have ih := flatT_get t j x (by simpa using h)
    have e : (y :: t).flatMap tokC = .int .i64 (y.1 : Int) :: .string ⟨y.2.1.toArray⟩ :: .int .i64 (y.2.2 : Int) :: t.flatMap tokC := rfl
    rw [e, show (j + 1) * 3 = j * 3 + 1 + 1 + 1 from by omega, show j * 3 + 1 + 1 + 1 + 1 = (j * 3 + 1) + 1 + 1 + 1 from by omega, show j * 3 + 1 + 1 + 1 + 2 = (j * 3 + 2) + 1 + 1 + 1 from by omega]
    simp only [List.getElem?_cons_succ]
    exact ih
theorem flatT_len : ∀ l : List TokD, (l.flatMap tokC).length = l.length * 3
  | [] => rfl
  | y :: t => by
    have e : (y :: t).flatMap tokC = .int .i64 (y.1 : Int) :: .string ⟨y.2.1.toArray⟩ :: .int .i64 (y.2.2 : Int) :: t.flatMap tokC := rfl
    rw [e, List.length_cons, List.length_cons, List.length_cons, flatT_len t, List.length_cons]; omega
theorem cells_ofT {w : World} {b off : Nat} {l : List TokD} (hc : ∀ (j : Nat) x, l[j]? = some x → TokAt w b (off + j * 3) x) :
    ∀ i u, (l.flatMap tokC)[i]? = some u → w.cell? ((⟨b, off, none⟩ : Addr).add i) = some u := by
  intro i u hu
  have hi : i < l.length * 3 := by
    have := (List.getElem?_eq_some_iff.1 hu).1
    rw [flatT_len] at this; exact this
  obtain ⟨x, hx⟩ : ∃ x, l[i / 3]? = some x := ⟨_, List.getElem?_eq_getElem (by omega)⟩
  obtain ⟨g0, g1, g2⟩ := flatT_get l (i / 3) x hx
  obtain ⟨c0, c1, c2⟩ := hc (i / 3) x hx
  rw [Addr.add_lit]
  have h3 : i % 3 = 0 ∨ i % 3 = 1 ∨ i % 3 = 2 := by omega
  rcases h3 with h | h | h
  · have e : i = i / 3 * 3 := by omega
    rw [← e] at g0 c0
    rw [c0, ← g0]; exact hu
  · have e : i = i / 3 * 3 + 1 := by omega
    rw [← e] at g1
    rw [show off + i / 3 * 3 + 1 = off + i from by omega] at c1
    rw [c1, ← g1]; exact hu
  · have e : i = i / 3 * 3 + 2 := by omega
    rw [← e] at g2
    rw [show off + i / 3 * 3 + 2 = off + i from by omega] at c2
    rw [c2, ← g2]; exact hu
end Go.Proofs.YtlagjnlajkmmeaaGreatDoor

namespace Go.Proofs.YtlagjnlajkmmeaaGreatDoor
open Go.RowKit Go.Proofs.YtlagjnlajkmmeaaGreatDoor.Tok

/-- What is read so far, and what is to come. -/
def Spl (l : List UInt8) (p : Nat) (o : List TokD) : Prop := splitF l 0 = match splitF (l.drop p) p with
  | .ok r => .ok (o ++ r)
  | .error e => .error e
theorem Spl.start (l : List UInt8) : Spl l 0 [] := by
  unfold Spl
  rw [List.drop_zero]
  cases splitF l 0 <;> rfl
theorem drop_cons {l : List UInt8} {p : Nat} {c : UInt8} (hc : l[p]? = some c) : l.drop p = c :: l.drop (p + 1) := by
  have hi := (List.getElem?_eq_some_iff.1 hc)
  rw [List.drop_eq_getElem_cons hi.1, hi.2]
theorem Spl.blank {l : List UInt8} {p : Nat} {o : List TokD} (h : Spl l p o) (hc : l[p]? = some 32) : Spl l (p + 1) o := by
  unfold Spl at h ⊢
  rw [h, drop_cons hc, splitF_blank]
theorem Spl.step {l : List UInt8} {p k n : Nat} {c : UInt8} {x : List UInt8} {o : List TokD} (h : Spl l p o) (hc : l[p]? = some c) (h32 : c ≠ 32) (ho : oneF (l.drop p) = some (k, x, n)) : Spl l (p + n) (o ++ [(k, x, p)]) := by
  unfold Spl at h ⊢
  rw [h]
  have e := drop_cons hc
  rw [e] at ho
  rw [e, splitF_some h32 ho, ← e, List.drop_drop]
  cases splitF (l.drop (p + n)) (p + n) with
  | ok r => simp
  | error e => rfl
theorem Spl.stop {l : List UInt8} {p : Nat} {c : UInt8} {o : List TokD} (h : Spl l p o) (hc : l[p]? = some c) (h32 : c ≠ 32) (ho : oneF (l.drop p) = none) : splitF l 0 = .error p := by
  unfold Spl at h
  rw [h]
  have e := drop_cons hc
  rw [e] at ho
  rw [e, splitF_none h32 ho]
theorem Spl.done {l : List UInt8} {p : Nat} {o : List TokD} (h : Spl l p o) (hp : l.length ≤ p) : splitF l 0 = .ok o := by
  unfold Spl at h
  rw [h, List.drop_eq_nil_of_le hp, splitF_nil]
  simp

end Go.Proofs.YtlagjnlajkmmeaaGreatDoor

namespace Go.Proofs.YtlagjnlajkmmeaaGreatDoor
open Go.RowKit Go.Proofs.YtlagjnlajkmmeaaGreatDoor.Tok

/-- A token's cells, its text as the world has it. -/
def Tok3 (w : World) (b off k : Nat) (s : ByteArray) (p : Nat) : Prop := w.cell? ⟨b, off, none⟩ = some (.int .i64 (k : Int)) ∧ w.cell? ⟨b, off + 1, none⟩ = some (.string s) ∧ w.cell? ⟨b, off + 2, none⟩ = some (.int .i64 (p : Int))
theorem Tok3.below {w w' : World} {b off k p : Nat} {s : ByteArray} (h : Tok3 w b off k s p) (hb : Below w.heap.size w w') : Tok3 w' b off k s p := by
  obtain ⟨h0, h1, h2⟩ := h
  have hl := World.block_lt_of_cell? _ _ h0
  exact ⟨by rw [bcell hb _ _ hl]; exact h0, by rw [bcell hb _ _ hl]; exact h1, by rw [bcell hb _ _ hl]; exact h2⟩
end Go.Proofs.YtlagjnlajkmmeaaGreatDoor

namespace Go.Proofs.YtlagjnlajkmmeaaGreatDoor
open Go.RowKit Go.Proofs.YtlagjnlajkmmeaaGreatDoor.Tok

/-- What the program's Split answers. -/
def psplitT (w : World) (r : Except Nat (List TokD)) (v : Value) : Prop := match r with
  | .ok l => ∃ u, v = .tuple #[u, .int .i64 0, .int .i64 0] ∧ RdT w u l
  | .error p => v = .tuple #[.slice none 0 0, .int .i64 (p : Int), .int .i64 21]
/-- E: what the world holds (tables of the library). -/
structure TokOk (E : World → Prop) : Prop where
  keep : ∀ {w w'}, E w → Below w.heap.size w w' → E w'
  split : ∀ (l : List UInt8) w, E w → l.length ≤ 1300 → Calls Tryz.prog 60 #[.string ⟨l.toArray⟩] w fun e w' => (∃ v, e = .returned v ∧ psplitT w' (splitF l 0) v) ∧ Below w.heap.size w w'

theorem RdT.lit (w : World) {g : Nat} (hg : g = w.heap.size) (l : List TokD) (T : TypeId) (hl : l.length ≤ 1000) : RdT (w.alloc (.cells (l.flatMap tokC).toArray T)) (.slice (some ⟨g, 0, none⟩) l.length l.length) l := by
  have h1 : (w.alloc (.cells (l.flatMap tokC).toArray T)).heap[g]? = some (.cells (l.flatMap tokC).toArray T (0, 0)) := heap_new hg
  refine .inr ⟨g, 0, l.length, rfl, Nat.le_refl _, by unfold maxLen; omega, by rw [hg]; simp, fun j x hj => ?_⟩
  obtain ⟨e0, e1, e2⟩ := flatT_get l j x hj
  rw [Nat.zero_add]
  exact ⟨by rw [cell_of_row _ _ _ _ _ _ h1]; simpa using e0, by rw [cell_of_row _ _ _ _ _ _ h1]; simpa using e1, by rw [cell_of_row _ _ _ _ _ _ h1]; simpa using e2⟩
def exT : List TokD := [(3, [65, 49], 0), (4, [60, 61], 2), (1, [50, 46, 53], 4)]
theorem split_ex : splitF [65, 49, 60, 61, 50, 46, 53] 0 = .ok exT := by rfl
end Go.Proofs.YtlagjnlajkmmeaaGreatDoor

namespace Go.Proofs.YtlagjnlajkmmeaaGreatDoor
open Go.RowKit Go.Proofs.YtlagjnlajkmmeaaGreatDoor.Tok

theorem esc_snoc {l : List UInt8} {i : Nat} {c : UInt8} (h : l[i]? = some c) : escL (l.take (i + 1)) = escL (l.take i) ++ (if c = 34 then [34, 34] else [c]) := by
  unfold escL
  rw [List.take_add_one, h, List.flatMap_append]
  simp

set_option maxRecDepth 20000 in
set_option maxHeartbeats 2000000 in
theorem rquote_any (l : List UInt8) (hl : l.length ≤ 100000) (w : World) :
    Calls Tryz.prog 24 #[.string ⟨l.toArray⟩] w fun e w' => e = .returned (.string ⟨(quoteL l).toArray⟩) ∧ w' = w := by
  obtain ⟨n, hn⟩ : ∃ n, n = l.length := ⟨_, rfl⟩
  have hsz : (⟨l.toArray⟩ : ByteArray).size = n := by rw [hn]; rfl
  rw [← hn] at hl
  have HN := Lib.hid hn
  clear hn
  go_enter Tryz.func24, Tryz.ntmps24
  go_wp2
  go_loop [3, 4] (fun a b => ∃ (i : Nat) (t : List UInt8), i ≤ n ∧ t.length ≤ 2 * i + 1 ∧ a = .string ⟨t.toArray⟩ ∧ b = .int .i64 (i : Int) ∧ Hid (t = 34 :: escL (l.take i))) (fun _ b => n - (intOf b).toNat)
  case atStart => exact ⟨0, [34], Nat.zero_le _, by simp, rfl, rfl, Lib.hid (by simp [escL])⟩
  case round =>
    obtain ⟨i, t, hi, ht, rfl, rfl, HT⟩ := hrel
    have htz : (⟨t.toArray⟩ : ByteArray).size = t.length := rfl
    by_cases hge : n ≤ i
    · have hba : (⟨t.toArray⟩ ++ ⟨#[34]⟩ : ByteArray) = ⟨(quoteL l).toArray⟩ := by
        rw [show (⟨#[34]⟩ : ByteArray) = ⟨[34].toArray⟩ from rfl, ba_appT, HT.out, List.take_of_length_le (by rw [← HN.out]; exact hge)]
        rfl
      have HBA := Lib.hid hba
      clear hba
      go_wp2_with fail
      go_ret
      exact ⟨by rw [← HBA.out]; rfl, rfl⟩
    · have hlt : i < n := by omega
      clear hge
      obtain ⟨c, hc⟩ : ∃ c, l[i]? = some c := ⟨_, List.getElem?_eq_getElem (by rw [← HN.out]; exact hlt)⟩
      have hget : ∀ h, (⟨l.toArray⟩ : ByteArray)[i]'h = c := fun h => (List.getElem?_eq_some_iff.1 hc).2
      have hext : (⟨l.toArray⟩ : ByteArray).extract i (i + 1) = ⟨[c].toArray⟩ := by
        rw [ext_T]
        have hi2 := (List.getElem?_eq_some_iff.1 hc)
        rw [List.drop_eq_getElem_cons hi2.1, hi2.2, show i + 1 - i = 1 from by omega]
        rfl
      have hs := esc_snoc hc
      by_cases h34 : c = 34
      · subst h34
        rw [if_pos rfl] at hs
        have hba : (⟨t.toArray⟩ ++ ⟨#[34]⟩ : ByteArray) = ⟨(t ++ [34]).toArray⟩ := ba_appT t [34]
        have hbs : (⟨(t ++ [34]).toArray⟩ : ByteArray).size = t.length + 1 := by show (t ++ [34]).toArray.size = _; simp
        have hba2 : (⟨(t ++ [34]).toArray⟩ ++ ⟨#[34]⟩ : ByteArray) = ⟨(t ++ [34, 34]).toArray⟩ := by rw [show (⟨#[34]⟩ : ByteArray) = ⟨[34].toArray⟩ from rfl, ba_appT, List.append_assoc]; try rfl
        have HT2 := Lib.hid (show t ++ [34, 34] = 34 :: escL (l.take (i + 1)) from by rw [hs, HT.out]; rfl)
        have HBA2 := Lib.hid hba2
        clear hc hs hba2
        go_wp2_with fail
        go_round
        case rel => exact ⟨i + 1, t ++ [34, 34], by omega, by simp; omega, by rw [← HBA2.out]; try rfl, by go_num, HT2⟩
        case measure => simp [intOf]; omega
      · have h34n : c.toNat ≠ 34 := fun e => h34 (by rw [← UInt8.ofNat_toNat (x := c), e]; rfl)
        have h34b : ((c.toNat : Int) == 34) = false := by simp; omega
        rw [if_neg h34] at hs
        have hba : (⟨t.toArray⟩ ++ ⟨[c].toArray⟩ : ByteArray) = ⟨(t ++ [c]).toArray⟩ := ba_appT t [c]
        have HT2 := Lib.hid (show t ++ [c] = 34 :: escL (l.take (i + 1)) from by rw [hs, HT.out]; rfl)
        have HBA := Lib.hid hba
        clear hc hs hba h34
        go_wp2_with fail
        go_round
        case rel => exact ⟨i + 1, t ++ [c], by omega, by simp; omega, by rw [← HBA.out], by go_num, HT2⟩
        case measure => simp [intOf]; omega

/-- What the law asks of package token's Quote; E: what the world holds. -/
structure TokQ (E : World → Prop) : Prop where
  quote : ∀ (l : List UInt8) w, E w → l.length ≤ 600 → Calls Tryz.prog 31 #[.string ⟨l.toArray⟩] w fun e w' => e = .returned (.string ⟨(quoteL l).toArray⟩) ∧ Below w.heap.size w w'

end Go.Proofs.YtlagjnlajkmmeaaGreatDoor
