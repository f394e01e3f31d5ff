/-
A token is told by its own bytes and the next one. Of no function of the program.
-/
import Derived.Test.YtdjidkhkgmbhfaaDoorToRun
namespace Go.Proofs.YtdjidkhkgmbhfaaDoor.Tok
open Go.Proofs.YtdjidkhkgmbhfaaDoor

theorem run_facts (p : UInt8 → Bool) : ∀ l : List UInt8, (∀ (j : Nat) c, j < runB p l → l[j]? = some c → p c = true) ∧ (∀ c, l[runB p l]? = some c → p c = false)
  | [] => by simp [runB]
  | x :: t => by
    obtain ⟨h1, h2⟩ := run_facts p t
    by_cases hx : p x = true
    · have e : runB p (x :: t) = runB p t + 1 := by unfold runB; rw [List.takeWhile_cons, if_pos hx, List.length_cons]
      rw [e]
      refine ⟨fun j c hj hc => ?_, fun c hc => h2 c (by simpa using hc)⟩
      cases j with
      | zero => simp at hc; subst hc; exact hx
      | succ j => exact h1 j c (by omega) (by simpa using hc)
    · have e : runB p (x :: t) = 0 := by unfold runB; rw [List.takeWhile_cons, if_neg hx]; rfl
      rw [e]
      refine ⟨fun j c hj => by omega, fun c hc => ?_⟩
      simp at hc; subst hc
      simpa using hx
theorem app_get {l r : List UInt8} {n : Nat} (hn : n ≤ l.length) (j : Nat) : (l.take n ++ r)[j]? = if j < n then l[j]? else r[j - n]? := by
  by_cases h : j < n
  · rw [if_pos h, List.getElem?_append_left (by rw [List.length_take]; omega), List.getElem?_take, if_pos h]
  · rw [if_neg h, List.getElem?_append_right (by rw [List.length_take]; omega), List.length_take, Nat.min_eq_left hn]
theorem run_local {p : UInt8 → Bool} {l r : List UInt8} {n : Nat} (hn : n ≤ l.length) (hj : runB p l < n ∨ (runB p l = n ∧ ∀ c, r.head? = some c → p c = false)) : runB p (l.take n ++ r) = runB p l := by
  obtain ⟨h1, h2⟩ := run_facts p l
  have hle : runB p l ≤ n := by omega
  refine runB_at (by rw [List.length_append, List.length_take]; omega) (fun j c hjk hc => ?_) (fun c hc => ?_)
  · rw [app_get hn, if_pos (by omega)] at hc
    exact h1 j c hjk hc
  · rw [app_get hn] at hc
    rcases hj with h | ⟨h, hr⟩
    · rw [if_pos h] at hc; exact h2 c hc
    · rw [if_neg (by omega), h, Nat.sub_self] at hc
      exact hr c (by rw [List.head?_eq_getElem?]; exact hc)
/-- What follows: nothing, a blank, or what followed. -/
def Next (l r : List UInt8) (n : Nat) : Prop := ∀ c, r.head? = some c → c = 32 ∨ l[n]? = some c
theorem take_len_app {l r : List UInt8} {n : Nat} (hn : n ≤ l.length) : (l.take n ++ r).take n = l.take n ∧ (l.take n ++ r).drop n = r := by
  have e : (l.take n).length = n := by rw [List.length_take]; omega
  exact ⟨by rw [List.take_append_of_le_length (by omega), List.take_take, Nat.min_self], by rw [List.drop_append_of_le_length (by omega), List.drop_of_length_le (by omega)]; rfl⟩
theorem dot_head {r : List UInt8} : [46].isPrefixOf r = true ↔ r.head? = some 46 := by
  cases r with
  | nil => simp
  | cons c t => simp [List.isPrefixOf]; exact ⟨fun h => h.symm, fun h => h.symm⟩
theorem quo_local : ∀ {t r : List UInt8} {y : List UInt8} {k : Nat}, quotedF t = some (y, k) → r.head? ≠ some 34 → quotedF (t.take k ++ r) = some (y, k)
  | [], _, _, _, h, _ => by simp [quotedF] at h
  | [c], r, y, k, h, hr => by
    unfold quotedF at h
    split at h
    · rename_i hc
      injection h with h
      injection h with e1 e2
      subst e1 e2 hc
      cases r with
      | nil => rfl
      | cons d u =>
        have hd : d ≠ 34 := fun e => hr (by subst e; rfl)
        simp [quotedF, hd]
    · cases h
  | c :: d :: u, r, y, k, h, hr => by
    unfold quotedF at h
    split at h
    · rename_i hc
      split at h
      · rename_i hd
        rw [Option.map_eq_some_iff] at h
        obtain ⟨z, hz, e⟩ := h
        obtain ⟨z1, z2⟩ := z
        injection e with e1 e2
        subst e1 e2 hc hd
        have ih := quo_local hz hr
        show quotedF (34 :: 34 :: (u.take z2 ++ r)) = _
        simp [quotedF, ih]
      · rename_i hd
        injection h with h
        injection h with e1 e2
        subst e1 e2 hc
        cases r with
        | nil => rfl
        | cons a v =>
          have ha : a ≠ 34 := fun e => hr (by subst e; rfl)
          simp [quotedF, ha]
    · rename_i hc
      rw [Option.map_eq_some_iff] at h
      obtain ⟨z, hz, e⟩ := h
      obtain ⟨z1, z2⟩ := z
      injection e with e1 e2
      subst e1 e2
      have ih := quo_local hz hr
      have hp := quotedF_pos hz
      simp only at hp
      obtain ⟨m, rfl⟩ : ∃ m, z2 = m + 1 := ⟨z2 - 1, by omega⟩
      have e3 : (c :: d :: u).take (m + 1 + 1) ++ r = c :: ((d :: u).take (m + 1) ++ r) := rfl
      have e4 : (d :: u).take (m + 1) ++ r = d :: (u.take m ++ r) := rfl
      rw [e3]
      rw [e4] at ih ⊢
      unfold quotedF
      rw [if_neg hc, ih]
      rfl
theorem quo_next : ∀ {t : List UInt8} {y : List UInt8} {k : Nat}, quotedF t = some (y, k) → t[k]? ≠ some 34
  | [], _, _, h => by simp [quotedF] at h
  | [c], y, k, h => by
    unfold quotedF at h
    split at h
    · injection h with h
      injection h with e1 e2
      subst e1 e2
      simp
    · cases h
  | c :: d :: u, y, k, h => by
    unfold quotedF at h
    split at h
    · split at h
      · rw [Option.map_eq_some_iff] at h
        obtain ⟨z, hz, e⟩ := h
        obtain ⟨z1, z2⟩ := z
        injection e with e1 e2
        subst e1 e2
        simpa using quo_next hz
      · rename_i hd
        injection h with h
        injection h with e1 e2
        subst e1 e2
        simpa using hd
    · rw [Option.map_eq_some_iff] at h
      obtain ⟨z, hz, e⟩ := h
      obtain ⟨z1, z2⟩ := z
      injection e with e1 e2
      subst e1 e2
      simpa using quo_next hz
theorem find_sub {q q' : List UInt8 → Bool} {x : List UInt8} : ∀ {L : List (List UInt8)}, (∀ y ∈ L, q' y = true → q y = true) → L.find? q = some x → q' x = true → L.find? q' = some x
  | [], _, h, _ => by simp at h
  | a :: L, hs, h, hx => by
    rw [List.find?_cons] at h ⊢
    by_cases ha : q a = true
    · rw [ha] at h
      injection h with h
      subst h
      rw [hx]
    · have ha2 : q a = false := by simpa using ha
      have ha3 : q' a = false := by
        cases hq : q' a with
        | false => rfl
        | true => exact absurd (hs a List.mem_cons_self hq) ha
      rw [ha2] at h
      rw [ha3]
      exact find_sub (fun y hy => hs y (List.mem_cons_of_mem _ hy)) h hx
theorem signs_two : ∀ y ∈ signsL, y.length ≤ 2 ∧ (∀ b, y[1]? = some b → b ≠ 32) ∧ y.head? ≠ some 35 ∧ y.head? ≠ none := by decide
theorem sign_next {l r x : List UInt8} (hx : x.isPrefixOf l = true) (hx1 : 1 ≤ x.length) (hr : Next l r x.length) : ∀ y ∈ signsL, y.isPrefixOf (x ++ r) = true → y.isPrefixOf l = true := by
  intro y hy hp
  obtain ⟨h2, hb, _, _⟩ := signs_two y hy
  have px := List.isPrefixOf_iff_prefix.1 hx
  have py := List.isPrefixOf_iff_prefix.1 hp
  by_cases hl : y.length ≤ x.length
  · exact List.isPrefixOf_iff_prefix.2 ((List.prefix_of_prefix_length_le py (List.prefix_append x r) hl).trans px)
  · obtain ⟨a, rfl⟩ := List.length_eq_one_iff.1 (show x.length = 1 by omega)
    obtain ⟨c, b, rfl⟩ : ∃ c b, y = [c, b] := by
      match y, h2, hl with
      | [], _, hl => simp at hl
      | [c], _, hl => simp at hl
      | [c, b], _, _ => exact ⟨c, b, rfl⟩
      | c :: b :: d :: t, h2, _ => simp at h2
    obtain ⟨u, hu⟩ := py
    obtain ⟨v, hv⟩ := px
    have e1 : c = a := by simpa using congrArg List.head? hu
    have e2 : r.head? = some b := by
      have := congrArg (fun z : List UInt8 => z[1]?) hu
      simp at this
      rw [List.head?_eq_getElem?]; exact this.symm
    rcases hr b e2 with h32 | h1
    · exact absurd h32 (hb b rfl)
    · subst e1
      rw [← hv] at h1 ⊢
      cases v with
      | nil => simp at h1
      | cons d t =>
        simp at h1
        subst h1
        simp [List.isPrefixOf]
theorem one_local {l r : List UInt8} {k n : Nat} {x : List UInt8} (h : oneF l = some (k, x, n)) (hr : Next l r n) : oneF (l.take n ++ r) = some (k, x, n) := by
  have hp := oneF_pos h
  obtain ⟨hn1, hn⟩ := hp
  obtain ⟨htk, hdr⟩ := take_len_app (r := r) hn
  have hget := fun j => app_get (r := r) hn j
  have hhead : (l.take n ++ r).head? = l.head? := by rw [List.head?_eq_getElem?, List.head?_eq_getElem?, hget, if_pos (by omega)]
  have noD : ∀ c : UInt8, c = 32 → isDg c = false := by rintro c rfl; decide
  have noL : ∀ c : UInt8, c = 32 → isLd c = false := by rintro c rfl; decide
  obtain ⟨_, fd⟩ := run_facts isDg l
  obtain ⟨_, fl⟩ := run_facts isLd l
  unfold oneF at h
  by_cases h0 : runB isDg l ≠ 0
  · rw [if_pos h0] at h
    cases hb : [46].isPrefixOf (l.drop (runB isDg l)) with
    | true =>
      rw [hb] at h
      simp only [if_true] at h
      split at h
      · cases h
      · rename_i hm
        injection h with h
        injection h with e1 h
        injection h with e2 e3
        have hrun : runB isDg (l.take n ++ r) = runB isDg l := run_local hn (.inl (by omega))
        have hdot : [46].isPrefixOf ((l.take n ++ r).drop (runB isDg l)) = true := by
          rw [dot_head] at hb ⊢
          rw [List.head?_drop] at hb ⊢
          rw [hget, if_pos (by omega)]; exact hb
        have hd2 : (l.take n ++ r).drop (runB isDg l + 1) = (l.drop (runB isDg l + 1)).take (runB isDg (l.drop (runB isDg l + 1))) ++ r := by
          rw [List.drop_append_of_le_length (by rw [List.length_take]; omega), List.drop_take]
          congr 2
          omega
        have hrun2 : runB isDg ((l.drop (runB isDg l + 1)).take (runB isDg (l.drop (runB isDg l + 1))) ++ r) = runB isDg (l.drop (runB isDg l + 1)) := by
          refine run_local (runB_le _ _) (.inr ⟨rfl, fun c hc => ?_⟩)
          rcases hr c hc with h32 | hl
          · exact noD c h32
          · refine (run_facts isDg (l.drop (runB isDg l + 1))).2 c ?_
            rw [List.getElem?_drop, e3]; exact hl
        unfold oneF
        rw [hrun, if_pos h0, hdot, if_pos rfl, hd2, hrun2, if_neg hm, e3, htk, ← e2, ← e1]
        rw [e3]
    | false =>
      rw [hb] at h
      simp only [Bool.false_eq_true, if_false] at h
      injection h with h
      injection h with e1 h
      injection h with e2 e3
      have hrun : runB isDg (l.take n ++ r) = runB isDg l := run_local hn (.inr ⟨e3, fun c hc => by
        rcases hr c hc with h32 | hl
        · exact noD c h32
        · exact fd c (by rw [e3]; exact hl)⟩)
      have hdot : [46].isPrefixOf r = false := by
        cases hq : [46].isPrefixOf r with
        | false => rfl
        | true =>
          rw [dot_head] at hq
          rcases hr 46 hq with h32 | hl
          · exact absurd h32 (by decide)
          · have : [46].isPrefixOf (l.drop (runB isDg l)) = true := by
              rw [dot_head, List.head?_drop, e3]; exact hl
            rw [hb] at this
            cases this
      unfold oneF
      rw [hrun, if_pos h0, e3, hdr, hdot, if_neg (by simp), htk, ← e2, ← e1, e3]
  · rw [if_neg h0] at h
    have hz : runB isDg l = 0 := by simpa using h0
    have hrun : runB isDg (l.take n ++ r) = 0 := by rw [run_local hn (.inl (by omega))]; exact hz
    by_cases h1 : runB isLd l ≠ 0
    · rw [if_pos h1] at h
      injection h with h
      injection h with e1 h
      injection h with e2 e3
      have hrunL : runB isLd (l.take n ++ r) = runB isLd l := run_local hn (.inr ⟨e3, fun c hc => by
        rcases hr c hc with h32 | hl
        · exact noL c h32
        · exact fl c (by rw [e3]; exact hl)⟩)
      unfold oneF
      rw [hrun, if_neg (by simp), hrunL, if_pos h1, e3, htk, ← e2, ← e1, e3]
    · rw [if_neg h1] at h
      have hzl : runB isLd l = 0 := by simpa using h1
      have hrunL : runB isLd (l.take n ++ r) = 0 := by rw [run_local hn (.inl (by omega))]; exact hzl
      by_cases h34 : l.head? = some 34
      · rw [if_pos h34] at h
        rw [Option.map_eq_some_iff] at h
        obtain ⟨z, hz2, e⟩ := h
        obtain ⟨z1, z2⟩ := z
        injection e with e1 e
        injection e with e2 e3
        simp only at e2 e3
        subst e1 e2 e3
        have htail : (l.take (z2 + 1) ++ r).tail = l.tail.take z2 ++ r := by
          cases l with
          | nil => simp at h34
          | cons c t => rfl
        have hq := quo_local (r := r) hz2 (fun e => by
          rcases hr 34 e with h32 | hl
          · exact absurd h32 (by decide)
          · refine quo_next hz2 ?_
            rw [List.getElem?_tail]; exact hl)
        unfold oneF
        rw [hrun, if_neg (by simp), hrunL, if_neg (by simp), hhead, if_pos h34, htail, hq]
        rfl
      · rw [if_neg h34] at h
        cases hf : faultL.isPrefixOf l with
        | true =>
          rw [hf] at h
          simp only [if_true] at h
          injection h with h
          injection h with e1 h
          injection h with e2 e3
          have e4 : l.take n = faultL := by
            rw [← e3]
            exact (List.prefix_iff_eq_take.1 (List.isPrefixOf_iff_prefix.1 hf)).symm
          have hf2 : faultL.isPrefixOf (l.take n ++ r) = true := by
            rw [e4]; exact List.isPrefixOf_iff_prefix.2 (List.prefix_append _ _)
          unfold oneF
          rw [hrun, if_neg (by simp), hrunL, if_neg (by simp), hhead, if_neg h34, hf2, if_pos rfl, ← e1, ← e2, ← e3]
        | false =>
          rw [hf] at h
          simp only [Bool.false_eq_true, if_false] at h
          rw [Option.map_eq_some_iff] at h
          obtain ⟨y, hy, e⟩ := h
          injection e with e1 e
          injection e with e2 e3
          subst e1 e2
          have hmem := List.mem_of_find?_eq_some hy
          have hpre0 := List.find?_some hy
          have hpre : y.isPrefixOf l = true := hpre0
          have hy1 := signs_pos y hmem
          have e4 : l.take n = y := by
            rw [← e3]
            exact (List.prefix_iff_eq_take.1 (List.isPrefixOf_iff_prefix.1 hpre)).symm
          have hf2 : faultL.isPrefixOf (l.take n ++ r) = false := by
            cases hq : faultL.isPrefixOf (l.take n ++ r) with
            | false => rfl
            | true =>
              obtain ⟨u, hu⟩ := List.isPrefixOf_iff_prefix.1 hq
              have h35 : (l.take n ++ r).head? = some 35 := by rw [← hu]; rfl
              rw [e4] at h35
              have := (signs_two y hmem).2.2.1
              cases y with
              | nil => simp at hy1
              | cons a t => exact absurd h35 this
          have hfind : signsL.find? (fun z => z.isPrefixOf (l.take n ++ r)) = some y := by
            refine find_sub (q := fun z => z.isPrefixOf l) ?_ hy ?_
            · rw [e4]; rw [← e3] at hr; exact sign_next hpre hy1 hr
            · rw [e4]; exact List.isPrefixOf_iff_prefix.2 (List.prefix_append _ _)
          unfold oneF
          rw [hrun, if_neg (by simp), hrunL, if_neg (by simp), hhead, if_neg h34, hf2, if_neg (by simp), hfind, ← e3]
          rfl
end Go.Proofs.YtdjidkhkgmbhfaaDoor.Tok
