/-
The program's first, by a contract: which token begins a text.
-/
import Derived.Test.YtlagjnlajkmmeaaGreatDoorTpS
import Derived.Test.YtlagjnlajkmmeaaGreatDoorTpC
namespace Go.Proofs.YtlagjnlajkmmeaaGreatDoor
open Go.RowKit Go.Proofs.YtlagjnlajkmmeaaGreatDoor.Tok

/-- What first answers. -/
def firstT (r : Option (Nat × List UInt8 × Nat)) (v : Value) : Prop := match r with
  | none => ∃ k : Int, v = .tuple #[.int .i64 k, .int .i64 0]
  | some (k, _, n) => v = .tuple #[.int .i64 (k : Int), .int .i64 (n : Int)]
theorem run_yes {p : UInt8 → Bool} {c : UInt8} {r : List UInt8} (h : p c = true) : runB p (c :: r) ≠ 0 := by rw [runB_cons h]; omega
theorem run_no {p : UInt8 → Bool} {c : UInt8} {r : List UInt8} (h : p c = false) : runB p (c :: r) = 0 := by
  unfold runB
  rw [List.takeWhile_cons, if_neg (by simp [h])]
  rfl
theorem one_num {c : UInt8} {r : List UInt8} (h : isDg c = true) : oneF (c :: r) = if numN (c :: r) = 0 then none else some (1, (c :: r).take (numN (c :: r)), numN (c :: r)) := by
  have h1 := run_yes (r := r) h
  unfold oneF numN
  rw [if_pos h1]
  split
  · split
    · rw [if_pos rfl]
    · rw [if_neg (by omega)]
  · simp [h1]
theorem one_name {c : UInt8} {r : List UInt8} (h : isDg c = false) (h2 : isLt c = true) : oneF (c :: r) = some (3, (c :: r).take (1 + runB isLd r), 1 + runB isLd r) := by
  have h1 := runB_cons (p := isLd) (c := c) (r := r) (by simp [isLd, h2])
  unfold oneF
  rw [run_no h, if_neg (by simp), h1, if_pos (by omega)]
theorem one_text {r : List UInt8} : oneF (34 :: r) = (quotedF r).map (fun x => (2, x.1, x.2 + 1)) := by
  unfold oneF
  rw [run_no (by decide), if_neg (by simp), run_no (by decide), if_neg (by simp), if_pos (by rfl)]
  rfl
theorem one_fault {c : UInt8} {r : List UInt8} (h : isDg c = false) (h2 : isLt c = false) (h3 : c ≠ 34) (h4 : faultL.isPrefixOf (c :: r) = true) : oneF (c :: r) = some (5, faultL, 5) := by
  unfold oneF
  rw [run_no h, if_neg (by simp), run_no (by simp [isLd, h, h2]), if_neg (by simp), if_neg (by simpa using h3), if_pos h4]
theorem one_sign {c : UInt8} {r : List UInt8} (h : isDg c = false) (h2 : isLt c = false) (h3 : c ≠ 34) (h4 : faultL.isPrefixOf (c :: r) = false) : oneF (c :: r) = (signsL.find? (fun x => x.isPrefixOf (c :: r))).map (fun x => (4, x, x.length)) := by
  unfold oneF
  rw [run_no h, if_neg (by simp), run_no (by simp [isLd, h, h2]), if_neg (by simp), if_neg (by simpa using h3), if_neg (by simp [h4])]
theorem first_num {l : List UInt8} {c : UInt8} {r : List UInt8} (hl : l = c :: r) (h : isDg c = true) : firstT (oneF l) (.tuple #[.int .i64 1, .int .i64 (numN l : Int)]) := by
  subst hl
  rw [one_num h]
  by_cases h0 : numN (c :: r) = 0
  · rw [if_pos h0, h0]; exact ⟨1, rfl⟩
  · rw [if_neg h0]; exact rfl
theorem first_text {l r : List UInt8} (hl : l = 34 :: r) : firstT (oneF l) (.tuple #[.int .i64 2, .int .i64 (textN l : Int)]) := by
  subst hl
  rw [one_text]
  unfold textN qn
  show firstT ((quotedF r).map _) (.tuple #[.int .i64 2, .int .i64 ((match (quotedF r).map (·.2) with | .none => 0 | .some m => m + 1 : Nat) : Int)])
  cases quotedF r with
  | none => exact ⟨2, rfl⟩
  | some x => exact rfl
theorem first_sign {l : List UInt8} {c : UInt8} {r : List UInt8} (hl : l = c :: r) (h : isDg c = false) (h2 : isLt c = false) (h3 : c ≠ 34) (h4 : faultL.isPrefixOf l = false) : firstT (oneF l) (.tuple #[.int .i64 4, .int .i64 (signN l : Int)]) := by
  subst hl
  rw [one_sign h h2 h3 h4]
  unfold signN
  cases signsL.find? (fun x => x.isPrefixOf (c :: r)) with
  | none => exact ⟨4, rfl⟩
  | some x => exact rfl

set_option maxRecDepth 20000 in
set_option maxHeartbeats 2000000 in
theorem first_any (l : List UInt8) (c : UInt8) (r : List UInt8) (hl : l = c :: r) (hlen : l.length ≤ 100000) (w : World) (hE : EnvT w) :
    Calls Tryz.prog 74 #[.string ⟨l.toArray⟩] w fun e w' => (∃ v, e = .returned v ∧ firstT (oneF l) v) ∧ w' = w := by
  have h0 : l[0]? = some c := by rw [hl]; rfl
  have hsz : (⟨l.toArray⟩ : ByteArray).size = l.length := rfl
  have hpos : 0 < l.length := by rw [hl]; simp
  have hget : ∀ h, (⟨l.toArray⟩ : ByteArray)[0]'h = c := fun h => (List.getElem?_eq_some_iff.1 h0).2
  have hdig := digit_any c w
  have hlet := letter_any c w
  cases hD : isDg c with
  | true =>
    rw [hD] at hdig
    have HR := Lib.hid (first_num hl hD)
    have HN := Lib.hid (number_size l c h0 hD (by omega) w)
    have HDI := Lib.hid hdig
    obtain ⟨K, hK⟩ : ∃ K, K = numN l := ⟨_, rfl⟩
    rw [← hK] at HR HN
    obtain ⟨n, hn⟩ : ∃ n, n = l.length := ⟨_, rfl⟩
    rw [← hn] at hsz hpos hlen
    clear h0 hdig hlet hD hE hK hl hn
    generalize (⟨l.toArray⟩ : ByteArray) = lb at *
    go_enter Tryz.func74, Tryz.ntmps74
    go_wp2_with (first | (go_at_call 88; (with_reducible refine (HDI.out).mono ?_); rintro e w1 ⟨rfl, rfl⟩) | (go_at_call 89; (with_reducible refine (HN.out).mono ?_); rintro e w1 ⟨rfl, rfl⟩))
    go_ret2
    exact ⟨⟨_, rfl, HR.out⟩, rfl⟩
  | false =>
    rw [hD] at hdig
    have HDI := Lib.hid hdig
    cases hL : isLt c with
    | true =>
      rw [hL] at hlet
      have hone : oneF l = some (3, l.take (1 + runB isLd r), 1 + runB isLd r) := by rw [hl]; exact one_name hD hL
      have HN := Lib.hid (name_size l (by omega) (by omega) w)
      have htl : l.tail = r := by rw [hl]; rfl
      rw [htl] at HN
      obtain ⟨K, hK⟩ : ∃ K, K = 1 + runB isLd r := ⟨_, rfl⟩
      rw [← hK] at hone HN
      have HR : Hid (firstT (oneF l) (.tuple #[.int .i64 3, .int .i64 (K : Int)])) := Lib.hid (by rw [hone]; exact rfl)
      have HLE := Lib.hid hlet
      obtain ⟨n, hn⟩ : ∃ n, n = l.length := ⟨_, rfl⟩
      rw [← hn] at hsz hpos hlen
      clear h0 hdig hlet hD hL hE hK hl hn hone htl
      generalize (⟨l.toArray⟩ : ByteArray) = lb at *
      go_enter Tryz.func74, Tryz.ntmps74
      go_wp2_with (first | (go_at_call 88; (with_reducible refine (HDI.out).mono ?_); rintro e w1 ⟨rfl, rfl⟩) | (go_at_call 90; (with_reducible refine (HLE.out).mono ?_); rintro e w1 ⟨rfl, rfl⟩) | (go_at_call 91; (with_reducible refine (HN.out).mono ?_); rintro e w1 ⟨rfl, rfl⟩))
      go_ret2
      exact ⟨⟨_, rfl, HR.out⟩, rfl⟩
    | false =>
      rw [hL] at hlet
      have HLE := Lib.hid hlet
      by_cases hq : c.toNat = 34
      · have hc34 : c = 34 := by rw [← UInt8.ofNat_toNat (x := c), hq]; rfl
        have HR := Lib.hid (first_text (l := l) (r := r) (by rw [hl, hc34]))
        have HN := Lib.hid (text_size l (by omega) (by omega) w)
        have hqb : ((c.toNat : Int) == 34) = true := by simp; omega
        obtain ⟨K, hK⟩ : ∃ K, K = textN l := ⟨_, rfl⟩
        rw [← hK] at HR HN
        obtain ⟨n, hn⟩ : ∃ n, n = l.length := ⟨_, rfl⟩
        rw [← hn] at hsz hpos hlen
        clear h0 hdig hlet hD hL hE hK hl hn hq hc34
        generalize (⟨l.toArray⟩ : ByteArray) = lb at *
        go_enter Tryz.func74, Tryz.ntmps74
        go_wp2_with (first | (go_at_call 88; (with_reducible refine (HDI.out).mono ?_); rintro e w1 ⟨rfl, rfl⟩) | (go_at_call 90; (with_reducible refine (HLE.out).mono ?_); rintro e w1 ⟨rfl, rfl⟩) | (go_at_call 92; (with_reducible refine (HN.out).mono ?_); rintro e w1 ⟨rfl, rfl⟩))
        go_ret2
        exact ⟨⟨_, rfl, HR.out⟩, rfl⟩
      · have hqb : ((c.toNat : Int) == 34) = false := by simp; omega
        have h34 : c ≠ 34 := fun e => hq (by rw [e]; rfl)
        have hpf := hasPre_any l faultL (by omega) (by decide) w
        have hfl : (⟨faultL.toArray⟩ : ByteArray) = ⟨#[35, 82, 69, 70, 33]⟩ := rfl
        rw [hfl] at hpf
        cases hF : faultL.isPrefixOf l with
        | true =>
          rw [hF] at hpf
          have hone : oneF l = some (5, faultL, 5) := by rw [hl]; exact one_fault hD hL h34 (by rw [← hl]; exact hF)
          have HR : Hid (firstT (oneF l) (.tuple #[.int .i64 5, .int .i64 5])) := Lib.hid (by rw [hone]; exact rfl)
          have HPF := Lib.hid hpf
          obtain ⟨n, hn⟩ : ∃ n, n = l.length := ⟨_, rfl⟩
          rw [← hn] at hsz hpos hlen
          clear h0 hdig hlet hD hL hE hl hn hq h34 hone hpf hF hfl
          generalize (⟨l.toArray⟩ : ByteArray) = lb at *
          go_enter Tryz.func74, Tryz.ntmps74
          go_wp2_with (first | (go_at_call 88; (with_reducible refine (HDI.out).mono ?_); rintro e w1 ⟨rfl, rfl⟩) | (go_at_call 90; (with_reducible refine (HLE.out).mono ?_); rintro e w1 ⟨rfl, rfl⟩) | (go_at_call 93; (with_reducible refine (HPF.out).mono ?_); rintro e w1 ⟨rfl, rfl⟩))
          go_ret2
          exact ⟨⟨_, rfl, HR.out⟩, rfl⟩
        | false =>
          rw [hF] at hpf
          have HR := Lib.hid (first_sign hl hD hL h34 hF)
          have HN := Lib.hid (sign_size l (by omega) w hE)
          obtain ⟨K, hK⟩ : ∃ K, K = signN l := ⟨_, rfl⟩
          rw [← hK] at HR HN
          have HPF := Lib.hid hpf
          obtain ⟨n, hn⟩ : ∃ n, n = l.length := ⟨_, rfl⟩
          rw [← hn] at hsz hpos hlen
          clear h0 hdig hlet hD hL hE hl hn hq h34 hpf hF hfl hK
          generalize (⟨l.toArray⟩ : ByteArray) = lb at *
          go_enter Tryz.func74, Tryz.ntmps74
          go_wp2_with (first | (go_at_call 88; (with_reducible refine (HDI.out).mono ?_); rintro e w1 ⟨rfl, rfl⟩) | (go_at_call 90; (with_reducible refine (HLE.out).mono ?_); rintro e w1 ⟨rfl, rfl⟩) | (go_at_call 93; (with_reducible refine (HPF.out).mono ?_); rintro e w1 ⟨rfl, rfl⟩) | (go_at_call 94; (with_reducible refine (HN.out).mono ?_); rintro e w1 ⟨rfl, rfl⟩))
          go_ret2
          exact ⟨⟨_, rfl, HR.out⟩, rfl⟩
end Go.Proofs.YtlagjnlajkmmeaaGreatDoor
