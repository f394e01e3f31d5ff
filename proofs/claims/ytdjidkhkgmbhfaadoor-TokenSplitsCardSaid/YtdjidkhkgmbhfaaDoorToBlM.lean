/-
What TokenBlanks has built so far. Of no function of the program.
-/
import Derived.Test.YtdjidkhkgmbhfaaDoorToBld
namespace Go.Proofs.YtdjidkhkgmbhfaaDoor.Tok
open Go.Proofs.YtdjidkhkgmbhfaaDoor

abbrev TokD' := Nat × List UInt8 × Nat
/-- The tokens' places ascend from p on, up to n. -/
def AscT (n : Nat) : Nat → List TokD' → Prop
  | p, [] => p ≤ n
  | p, (_, _, a) :: ts => p ≤ a ∧ a ≤ n ∧ AscT n a ts
theorem AscT.le {n : Nat} : ∀ {ts : List TokD'} {p : Nat}, AscT n p ts → p ≤ n
  | [], _, h => h
  | (_, _, _) :: _, _, h => Nat.le_trans h.1 h.2.1
theorem AscT.mono {n p q : Nat} {ts : List TokD'} (hq : q ≤ p) (h : AscT n p ts) : AscT n q ts := by
  cases ts with
  | nil => exact Nat.le_trans hq h
  | cons y t => obtain ⟨k, x, a⟩ := y; exact ⟨Nat.le_trans hq h.1, h.2⟩
theorem asc_split : ∀ {ts : List TokD'} {l : List UInt8} {p n : Nat}, splitF l p = .ok ts → p + l.length ≤ n → AscT n p ts
  | [], l, p, n, _, hn => by show p ≤ n; omega
  | (k, x, a) :: ts, l, p, n, h, hn => by
    obtain ⟨h1, h2, c, r, m, h3, h4, h5, h6⟩ := split_first h
    have hl := congrArg List.length h3
    rw [List.length_drop, List.length_cons] at hl
    have hp := oneF_pos h5
    rw [List.length_cons] at hp
    have hlen : a + m + ((c :: r).drop m).length ≤ n := by
      rw [List.length_drop, List.length_cons]; omega
    have ih := asc_split h6 hlen
    exact ⟨h1, by omega, ih.mono (by omega)⟩
/-- Behind i rounds: the text t and the tokens ws stand, the last piece began at p. -/
def Bl (l : List UInt8) (b : Nat → Nat) (toks : List TokD') (i p : Nat) (t : List UInt8) (ws : List TokD') : Prop :=
  (bld l b toks 0 0 0).1 = t ++ (bld l b (toks.drop i) p i t.length).1 ∧ (bld l b toks 0 0 0).2 = ws ++ (bld l b (toks.drop i) p i t.length).2 ∧ AscT l.length p (toks.drop i)
theorem Bl.start {l : List UInt8} (b : Nat → Nat) {toks : List TokD'} (h : splitF l 0 = .ok toks) : Bl l b toks 0 0 [] [] :=
  ⟨rfl, rfl, asc_split h (by omega)⟩
/-- One round with a token. -/
theorem Bl.step {l t : List UInt8} {b : Nat → Nat} {toks ws : List TokD'} {i p k a : Nat} {x : List UInt8} (h : Bl l b toks i p t ws) (hx : toks[i]? = some (k, x, a)) :
    Bl l b toks (i + 1) a (t ++ ((l.drop p).take (a - p) ++ blanks (b i))) (ws ++ [(k, x, (t ++ ((l.drop p).take (a - p) ++ blanks (b i))).length)]) := by
  obtain ⟨h1, h2, h3⟩ := h
  have hi := (List.getElem?_eq_some_iff.1 hx)
  have e : toks.drop i = (k, x, a) :: toks.drop (i + 1) := by rw [List.drop_eq_getElem_cons hi.1, hi.2]
  rw [e] at h1 h2 h3
  have hlen : (t ++ ((l.drop p).take (a - p) ++ blanks (b i))).length = t.length + ((l.drop p).take (a - p) ++ blanks (b i)).length := List.length_append
  refine ⟨?_, ?_, h3.2.2⟩
  · rw [h1, hlen]
    show t ++ (((l.drop p).take (a - p) ++ blanks (b i)) ++ _) = _
    rw [← List.append_assoc]
  · rw [h2, hlen]
    show ws ++ ((k, x, t.length + _) :: _) = _
    rw [List.append_assoc]; rfl
/-- The last round. -/
theorem Bl.last {l t : List UInt8} {b : Nat → Nat} {toks ws : List TokD'} {p : Nat} (h : Bl l b toks toks.length p t ws) :
    t ++ (l.drop p ++ blanks (b toks.length)) = (bld l b toks 0 0 0).1 ∧ ws = (bld l b toks 0 0 0).2 := by
  obtain ⟨h1, h2, _⟩ := h
  rw [List.drop_length] at h1 h2
  exact ⟨h1.symm, by rw [h2]; exact (List.append_nil ws).symm⟩
theorem Bl.token {l t : List UInt8} {b : Nat → Nat} {toks ws : List TokD'} {i p k a : Nat} {x : List UInt8} (h : Bl l b toks i p t ws) (hx : toks[i]? = some (k, x, a)) : p ≤ a ∧ a ≤ l.length := by
  have hi := (List.getElem?_eq_some_iff.1 hx)
  have e : toks.drop i = (k, x, a) :: toks.drop (i + 1) := by rw [List.drop_eq_getElem_cons hi.1, hi.2]
  have h3 := h.2.2
  rw [e] at h3
  exact ⟨h3.1, h3.2.1⟩
theorem bld_len (l : List UInt8) (b : Nat → Nat) (hb : ∀ i, b i ≤ 3) : ∀ (ts : List TokD') (p i q : Nat), AscT l.length p ts → (bld l b ts p i q).1.length ≤ (l.length - p) + 3 * (ts.length + 1)
  | [], p, i, q, h => by
    show (l.drop p ++ blanks (b i)).length ≤ _
    have := hb i
    have hbl : (blanks (b i)).length = b i := by simp [blanks]
    rw [List.length_append, List.length_drop, hbl, List.length_nil]
    omega
  | (k, x, a) :: ts, p, i, q, h => by
    have hq := bld_len l b hb ts a (i + 1) (q + ((l.drop p).take (a - p) ++ blanks (b i)).length) h.2.2
    have h1 : p ≤ a := h.1
    have h2 : a ≤ l.length := h.2.1
    have hi := hb i
    have hbl : (blanks (b i)).length = b i := by simp [blanks]
    have e : (bld l b ((k, x, a) :: ts) p i q).1.length = ((l.drop p).take (a - p) ++ blanks (b i)).length + (bld l b ts a (i + 1) (q + ((l.drop p).take (a - p) ++ blanks (b i)).length)).1.length := List.length_append
    have e2 : ((l.drop p).take (a - p) ++ blanks (b i)).length = (a - p) + b i := by
      rw [List.length_append, List.length_take, List.length_drop, hbl]; omega
    rw [e, List.length_cons]
    generalize (bld l b ts a (i + 1) (q + ((l.drop p).take (a - p) ++ blanks (b i)).length)).1.length = z at hq ⊢
    rw [e2]
    omega
theorem Bl.len {l t : List UInt8} {b : Nat → Nat} {toks ws : List TokD'} {i p : Nat} (h : Bl l b toks i p t ws) : t.length ≤ (bld l b toks 0 0 0).1.length := by
  rw [h.1, List.length_append]; omega
end Go.Proofs.YtdjidkhkgmbhfaaDoor.Tok
