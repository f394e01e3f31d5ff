/-
The reference of stage 4: Run, by a contract.
-/
import Derived.Test.YtcgkigcokjdkjaaWTake
namespace Go.Proofs.Ytcgkigcokjdkjaa
open Go.RowKit
open Wire (numL valL takeL runL bytesL)

/-- A part of a slice that reads, by its place and length. -/
theorem Rd.window {w : World} {b off n cap : Nat} {xs : List Nat} (h : Rd w (.slice (some ⟨b, off, none⟩) n cap) xs) (hn : 0 < n) (k m : Nat) (hk : k + m ≤ n) : Rd w (.slice (some ⟨b, off + k, none⟩) m (cap - k)) ((xs.drop k).take m) := by
  rcases Nat.eq_zero_or_pos m with rfl | hm
  · exact .inl ⟨_, _, rfl, by simp, fun h => by cases h⟩
  · have h1 := h.drop hn k (by omega)
    exact h1.take (by omega) m (by omega)

set_option maxRecDepth 20000 in
set_option maxHeartbeats 1000000 in
theorem rrun_any (v : Value) (b : List Nat) (w : World) (h : Rd w v b) (hl : b.length ≤ 100000) (hx : ∀ x ∈ b, x < 256) :
    Calls Try.prog 15 #[v] w fun e w' => ∃ v', e = .returned (.tuple #[v', .int .i64 ((runL b).2 : Nat)]) ∧ (∀ w0, Rd w0 v b → Rd w0 v' (runL b).1) ∧ Below w.heap.size w w' := by
  have htake := rtake_any v b w h hl hx
  have hle := Wire.takeL_le b
  have hrun : runL b = if (takeL b).2 = 0 ∨ 65536 < (takeL b).1 ∨ b.length - (takeL b).2 < (takeL b).1 then ([], 0) else ((b.drop (takeL b).2).take (takeL b).1, (takeL b).2 + (takeL b).1) := rfl
  generalize (takeL b).1 = tn at htake hle hrun
  generalize (takeL b).2 = tk at htake hle hrun
  have htk := hle.1
  obtain ⟨A, n, c, rfl, hn⟩ := h.named
  rw [← hn] at hrun htk hl
  have HT := Lib.hid htake
  have HR := Lib.hid h
  have HU := Lib.hid hrun
  have nilR : ∀ w', Rd w' (.slice none 0 0) [] := fun w' => .inl ⟨none, 0, rfl, rfl, fun _ => rfl⟩
  clear htake h hrun hle hx hn
  by_cases h0 : tk = 0
  · have hu := HU.out
    rw [if_pos (Or.inl h0)] at hu
    have HV := Lib.hid hu
    have d1 : (((tk : Int)) == 0) = true := by simp; exact h0
    clear hu HU
    go_enter Try.func15, Try.ntmps15
    go_wp2_with (go_at_call 14; (with_reducible refine (HT.out).mono ?_); rintro e w1 ⟨rfl, hb1⟩)
    go_ret2
    exact ⟨.slice none 0 0, by rw [HV.out]; rfl, fun w0 _ => by rw [HV.out]; exact nilR _, hb1⟩
  · have d1 : (((tk : Int)) == 0) = false := by simp; exact h0
    by_cases h1 : 65536 < tn
    · have hu := HU.out
      rw [if_pos (Or.inr (Or.inl h1))] at hu
      have HV := Lib.hid hu
      clear hu HU h0
      go_enter Try.func15, Try.ntmps15
      go_wp2_with (go_at_call 14; (with_reducible refine (HT.out).mono ?_); rintro e w1 ⟨rfl, hb1⟩)
      go_ret2
      exact ⟨.slice none 0 0, by rw [HV.out]; rfl, fun w0 _ => by rw [HV.out]; exact nilR _, hb1⟩
    · by_cases h2 : n - tk < tn
      · have hu := HU.out
        rw [if_pos (Or.inr (Or.inr h2))] at hu
        have HV := Lib.hid hu
        have h3 : (n : Int) - (tk : Int) < (tn : Int) := by omega
        have h4 : tn ≤ 65536 := by omega
        clear hu HU h0 h1 h2
        go_enter Try.func15, Try.ntmps15
        go_wp2_with (go_at_call 14; (with_reducible refine (HT.out).mono ?_); rintro e w1 ⟨rfl, hb1⟩)
        go_ret2
        exact ⟨.slice none 0 0, by rw [HV.out]; rfl, fun w0 _ => by rw [HV.out]; exact nilR _, hb1⟩
      · have hu := HU.out
        rw [if_neg (by omega)] at hu
        have HV := Lib.hid hu
        have h3 : (tn : Int) ≤ (n : Int) - (tk : Int) := by omega
        have h4 : tn ≤ 65536 := by omega
        have h6 : tk + tn ≤ n := by omega
        obtain ⟨b0, off, rfl, hcn, hcm⟩ := HR.out.addr (by omega)
        have hw := fun w0 (h : Rd w0 (.slice (some ⟨b0, off, none⟩) n c) b) => h.window (show 0 < n by omega) tk tn h6
        have HW := Lib.hid hw
        have hcm2 : c ≤ 9223372036854775807 := by unfold maxLen at hcm; exact hcm
        clear hu HU h0 h1 h2 hcm hw
        by_cases hck : c = tk
        · obtain rfl : tn = 0 := by omega
          obtain rfl : tk = c := hck.symm
          go_enter Try.func15, Try.ntmps15
          go_wp2_with (go_at_call 14; (with_reducible refine (HT.out).mono ?_); rintro e w1 ⟨rfl, hb1⟩)
          go_ret2
          refine ⟨_, by rw [HV.out]; rfl, fun w0 _ => ?_, hb1⟩
          rw [HV.out]
          exact .inl ⟨_, _, rfl, by simp, fun h => by cases h⟩
        · have hck2 : (c = tk) = False := by simp; exact hck
          go_enter Try.func15, Try.ntmps15
          go_wp2_with (go_at_call 14; (with_reducible refine (HT.out).mono ?_); rintro e w1 ⟨rfl, hb1⟩)
          go_ret2
          refine ⟨.slice (some ⟨b0, off + tk, none⟩) tn (c - tk), ?_, ?_, hb1⟩
          · rw [HV.out]; simp
          · intro w0 h0; rw [HV.out]; exact HW.out w0 h0
end Go.Proofs.Ytcgkigcokjdkjaa
