/-
Plain maths of package tree's own text: a name is a single token; what is asked of a node; a node's precedence. Of no function of the program.
-/
import Derived.Test.YtlagjnlajkmmeaaDoorTrSN
import Derived.Test.YtlagjnlajkmmeaaDoorTokM
namespace Go.Proofs.YtlagjnlajkmmeaaDoor
open Go.RowKit Go.Proofs.YtlagjnlajkmmeaaDoor.Tok

theorem up_lt (c : UInt8) : upB c = isLt c := rfl
theorem dig_dg (c : UInt8) : digB c = isDg c := rfl
theorem chk_all : ∀ (l : List UInt8) (i : Nat), 0 < i → (chkF l i = true ↔ ∀ c ∈ l, isLd c = true)
  | [], _, _ => by simp [chkF]
  | c :: l, i, h => by
    unfold chkF
    rw [Bool.and_eq_true, chk_all l (i + 1) (by omega), up_lt, dig_dg, decide_eq_true h, Bool.and_true]
    simp only [List.mem_cons, forall_eq_or_imp, isLd, Bool.or_comm]
theorem chk_head (c : UInt8) (l : List UInt8) : chkF (c :: l) 0 = true ↔ isLt c = true ∧ ∀ d ∈ l, isLd d = true := by
  unfold chkF
  rw [Bool.and_eq_true, chk_all l (0 + 1) (by omega), up_lt, dig_dg]
  simp
theorem lt_not_dg {c : UInt8} (h : isLt c = true) : isDg c = false := by
  unfold isLt at h
  unfold isDg
  have := of_decide_eq_true h
  exact decide_eq_false (by omega)
theorem runB_all {p : UInt8 → Bool} : ∀ {l : List UInt8}, (∀ c ∈ l, p c = true) → runB p l = l.length
  | [], _ => rfl
  | c :: l, h => by
    unfold runB
    rw [List.takeWhile_cons, if_pos (h c (by simp)), List.length_cons, List.length_cons]
    have := runB_all (l := l) fun d hd => h d (by simp [hd])
    unfold runB at this
    rw [this]
theorem runB_full {p : UInt8 → Bool} : ∀ {l : List UInt8}, runB p l = l.length → ∀ c ∈ l, p c = true
  | [], _ => by simp
  | c :: l, h => by
    unfold runB at h
    rw [List.takeWhile_cons] at h
    split at h
    · rename_i hc
      intro d hd
      rcases List.mem_cons.1 hd with rfl | hd
      · exact hc
      · exact runB_full (l := l) (by unfold runB; simpa using h) d hd
    · simp at h
theorem runB_zero_head {p : UInt8 → Bool} {c : UInt8} {l : List UInt8} : runB p (c :: l) = 0 ↔ p c = false := by
  unfold runB
  rw [List.takeWhile_cons]
  cases p c <;> simp
/-- A name of at least one byte is one token. -/
theorem one_nameT {l : List UInt8} (h : chkF l 0 = true) (h1 : 1 ≤ l.length) : oneF l = some (3, l, l.length) := by
  cases l with
  | nil => simp at h1
  | cons c r =>
    obtain ⟨hc, hr⟩ := (chk_head c r).1 h
    have hall : ∀ d ∈ c :: r, isLd d = true := by
      intro d hd
      rcases List.mem_cons.1 hd with rfl | hd
      · unfold isLd; rw [hc, Bool.or_true]
      · exact hr d hd
    have h0 : runB isDg (c :: r) = 0 := runB_zero_head.2 (lt_not_dg hc)
    have hL := runB_all hall
    unfold oneF
    rw [if_neg (by simp [h0]), if_pos (by rw [hL]; simp), hL, List.take_length]
theorem name_split1 {l : List UInt8} (h : nameF l = true) : splitF l 0 = .ok [(3, l, 0)] := by
  unfold nameF at h
  obtain ⟨h1, h2⟩ := Bool.and_eq_true_iff.1 h
  have h3 := of_decide_eq_true h2
  have ho := one_nameT h1 h3.1
  cases l with
  | nil => simp at h3
  | cons c r =>
    have hc : c ≠ 32 := by
      intro e
      subst e
      have := ((chk_head 32 r).1 h1).1
      exact absurd this (by decide)
    rw [splitF_some hc ho, List.drop_length, splitF_nil]
/-- The text of a token of kind 3 is a piece of the whole's. -/
theorem split_text : ∀ (n : Nat) (l : List UInt8) (p : Nat) (ts : List (Nat × List UInt8 × Nat)), l.length ≤ n → splitF l p = .ok ts → ∀ t ∈ ts, t.1 = 3 → t.2.1.length ≤ l.length
  | n, [], p, ts, _, h => by
    rw [splitF_nil] at h
    injection h with h
    subst h
    simp
  | 0, c :: r, p, ts, hn, _ => by simp at hn
  | n + 1, c :: r, p, ts, hn, h => by
    simp only [List.length_cons] at hn
    by_cases hc : c = 32
    · subst hc
      rw [splitF_blank] at h
      intro t ht h3
      have := split_text n r (p + 1) ts (by omega) h t ht h3
      simp only [List.length_cons]; omega
    · cases ho : oneF (c :: r) with
      | none => rw [splitF_none hc ho] at h; cases h
      | some t =>
        obtain ⟨k, x, m⟩ := t
        have hp := oneF_pos ho
        rw [splitF_some hc ho] at h
        cases hr : splitF ((c :: r).drop m) (p + m) with
        | error e => rw [hr] at h; cases h
        | ok us =>
          rw [hr] at h
          injection h with h
          subst h
          intro t ht h3
          rcases List.mem_cons.1 ht with rfl | ht
          · simp only at h3 ⊢
            unfold oneF at ho
            split at ho
            · split at ho
              · split at ho
                · cases ho
                · injection ho with ho; injection ho with e _; omega
              · injection ho with ho; injection ho with e _; omega
            · split at ho
              · injection ho with ho; injection ho with _ ho; injection ho with e _
                rw [← e, List.length_take]; omega
              · split at ho
                · rw [Option.map_eq_some_iff] at ho; obtain ⟨y, _, e⟩ := ho; injection e with e _; omega
                · split at ho
                  · injection ho with ho; injection ho with e _; omega
                  · rw [Option.map_eq_some_iff] at ho; obtain ⟨y, _, e⟩ := ho; injection e with e _; omega
          · have hd : ((c :: r).drop m).length ≤ n := by rw [List.length_drop]; simp; omega
            have := split_text n _ (p + m) us hd hr t ht h3
            rw [List.length_drop] at this
            omega
theorem name_split2 {l : List UInt8} {q : Nat} (hl : l.length ≤ 32) (h : splitF l 0 = .ok [(3, l, q)]) : nameF l = true := by
  cases l with
  | nil => rw [splitF_nil] at h; injection h with h; cases h
  | cons c r =>
    by_cases hc : c = 32
    · subst hc
      rw [splitF_blank] at h
      have := split_text _ r 1 _ (Nat.le_refl _) h (3, 32 :: r, q) (by simp) rfl
      simp only [List.length_cons] at this
      omega
    · cases ho : oneF (c :: r) with
      | none => rw [splitF_none hc ho] at h; cases h
      | some t =>
        obtain ⟨k, x, m⟩ := t
        rw [splitF_some hc ho] at h
        cases hr : splitF ((c :: r).drop m) (0 + m) with
        | error e => rw [hr] at h; cases h
        | ok us =>
          rw [hr] at h
          injection h with h
          injection h with h _
          injection h with hk h
          injection h with hx _
          subst hk hx
          unfold oneF at ho
          split at ho
          · split at ho
            · split at ho
              · cases ho
              · injection ho with ho; injection ho with e _; omega
            · injection ho with ho; injection ho with e _; omega
          · rename_i h0
            split at ho
            · injection ho with ho; injection ho with _ ho; injection ho with e _
              have hfull : runB isLd (c :: r) = (c :: r).length := by
                have := congrArg List.length e
                rw [List.length_take] at this
                have := runB_le isLd (c :: r)
                omega
              have hall := runB_full hfull
              have hd : isDg c = false := runB_zero_head.1 (by simpa using h0)
              have hlc : isLt c = true := by
                have := hall c (by simp)
                unfold isLd at this
                rw [hd, Bool.false_or] at this
                exact this
              unfold nameF
              rw [(chk_head c r).2 ⟨hlc, fun d hd => hall d (by simp [hd])⟩, Bool.true_and]
              exact decide_eq_true ⟨by simp, hl⟩
            · split at ho
              · rw [Option.map_eq_some_iff] at ho; obtain ⟨y, _, e⟩ := ho; injection e with e _; omega
              · split at ho
                · injection ho with ho; injection ho with e _; omega
                · rw [Option.map_eq_some_iff] at ho; obtain ⟨y, _, e⟩ := ho; injection e with e _; omega
theorem name_long {l : List UInt8} (h : 32 < l.length) : nameF l = false := by
  unfold nameF
  rw [decide_eq_false (by omega), Bool.and_false]
/-- How many levels are left. -/
theorem rightL_cons (x : Tr) (l : List Tr) (m : Int) : rightL (x :: l) m = (rightF x m && rightL l m) := by conv => lhs; unfold rightL
theorem rightF_zero (x : Tr) : rightF x 0 = false := by
  rw [rightF_eq]; rfl
theorem rightF_pos (x : Tr) (m : Int) (h : 1 ≤ m) : rightF x m = (nodeOk x.kind x.num x.text x.args.length && rightL x.args (m - 1)) := by
  rw [rightF_eq, decide_eq_true h, Bool.true_and]
theorem ok_leaf {k n : Int} {s : List UInt8} {m : Nat} (h : k = 2 ∨ k = 3 ∨ k = 4 ∨ k = 8) : nodeOk k n s m = decide (m = 0) := by
  unfold nodeOk
  rcases h with rfl | rfl | rfl | rfl <;> by_cases hm : m = 0 <;> simp [hm]
theorem ok_one {k n : Int} {s : List UInt8} {m : Nat} (h : k = 1) : nodeOk k n s m = (decide (m = 0) && decide (0 ≤ n)) := by
  subst h
  unfold nodeOk
  by_cases hm : m = 0 <;> by_cases hn : 0 ≤ n <;> simp [hm, hn] <;> omega
theorem ok_five {k n : Int} {s : List UInt8} {m : Nat} (h : k = 5) : nodeOk k n s m = decide (m = 1) := by
  subst h
  unfold nodeOk
  by_cases hm : m = 1 <;> simp [hm]
theorem ok_six {k n : Int} {s : List UInt8} {m : Nat} (h : k = 6) : nodeOk k n s m = (decide (m = 2) && decide (0 < levelF s)) := by
  subst h
  unfold nodeOk
  by_cases hm : m = 2
  · by_cases hn : levelF s = 0
    · simp [hm, hn]
    · have : 0 < levelF s := by omega
      simp [hm, hn, this]
  · simp [hm]
theorem ok_seven {k n : Int} {s : List UInt8} {m : Nat} (h : k = 7) : nodeOk k n s m = (decide (m ≤ 16) && nameF s) := by
  subst h
  unfold nodeOk
  by_cases hm : m ≤ 16 <;> cases nameF s <;> simp [hm] <;> omega
theorem ok_else {k n : Int} {s : List UInt8} {m : Nat} (h : k < 1 ∨ 8 < k) : nodeOk k n s m = false := by
  unfold nodeOk
  rw [decide_eq_false (by omega)]
  rfl
end Go.Proofs.YtlagjnlajkmmeaaDoor
