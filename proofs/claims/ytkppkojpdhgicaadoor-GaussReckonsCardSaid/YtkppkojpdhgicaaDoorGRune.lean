/-
strings.IndexRune in the string of the two signs, for every rune: it is found exactly if it is one of them.
-/
import Derived.Test.YtkppkojpdhgicaaDoorGEnv
import Derived.Laws.RangeString
import Derived.Laws.Runes
import Derived.Laws.Strings3
import Derived.Deep.LoopGhost
import Derived.LoopTactic
import Derived.Deep.QuietTactic
import Derived.BigQuiet
namespace Go.Proofs.YtkppkojpdhgicaaDoor
open Go.RowKit Go.Proofs.YtkppkojpdhgicaaDoor.Gf

set_option maxRecDepth 20000 in
set_option maxHeartbeats 2000000 in
/-- A rune of more than two bytes. -/
theorem ixr_long (r : Int) (h0 : 2048 ≤ r) (hv : Lib.validRune r = true) (hne : r ≠ 65533) (w : World) :
    Calls Tryd.prog 37 #[.string ⟨#[43, 45]⟩, .int .i32 r] w fun e w' => e = .returned (.int .i64 (-1)) ∧ Below w.heap.size w w' := by
  obtain ⟨rs, hrs⟩ : ∃ rs, Utf8.encode r = rs := ⟨_, rfl⟩
  have hsz : 3 ≤ rs.size := by
    rw [← hrs]
    unfold Utf8.encode
    have hva : Utf8.valid r = true := by
      unfold Lib.validRune at hv; unfold Utf8.valid
      simp at hv ⊢; omega
    rw [hva]
    simp only [if_true]
    rw [if_neg (by omega), if_neg (by omega)]
    split <;> simp [ByteArray.size]
  have k1 : ((r : Int) == 65533) = false := by simpa using hne
  have HV := Lib.hid hv
  have hsm : rs.size ≤ 4 := by
    rw [← hrs]
    unfold Utf8.encode
    simp only
    repeat' split
    all_goals simp [ByteArray.size]
  clear hne hv
  go_enter Tryd.func37, Tryd.ntmps37
  go_wp2_with (go_at_call 50; go_must (refine (Tryd.utf8_ValidRune r _).mono ?_); rintro e w' ⟨rfl, rfl⟩; rw [HV.out])
  go_step3
  go_wp2
  refine wp_loop_rounds 1 ?_; rw [rounds_succ]
  go_wp2
  rw [Exit.noGoto_ret]
  go_ret
  exact ⟨rfl, Below.refl _ _⟩

theorem below_drewN {B : Nat} {a w : World} (h : Below B a w) (n : Nat) : Below B a (w.drewN n) := ⟨h.os, h.tape, h.output, h.size, h.block⟩
theorem ixb_nil (c : Int) (s : ByteArray) (hs : s.data.toList = []) (w : World) :
    Calls Tryd.prog 49 #[.string s, .int .u8 c] w fun e w' => e = .returned (.int .i64 (-1)) ∧ w' = w := by
  have h := Tryd.strings_IndexByte s c w
  rw [hs] at h
  exact h

set_option maxRecDepth 20000 in
set_option maxHeartbeats 2000000 in
/-- A rune of two bytes. -/
theorem ixr_two (r : Int) (h0 : 128 ≤ r) (h1 : r < 2048) (w : World) :
    Calls Tryd.prog 37 #[.string ⟨#[43, 45]⟩, .int .i32 r] w fun e w' => e = .returned (.int .i64 (-1)) ∧ Below w.heap.size w w' := by
  obtain ⟨c, d, hrs, hd⟩ : ∃ c d : UInt8, Utf8.encode r = ⟨#[c, d]⟩ ∧ 128 ≤ d.toNat := by
    unfold Utf8.encode
    have hva : Utf8.valid r = true := by
      unfold Utf8.valid; simp; omega
    rw [hva]
    simp only [if_true]
    rw [if_neg (by omega), if_pos (by omega)]
    refine ⟨_, _, rfl, ?_⟩
    rw [UInt8.toNat_ofNat']
    omega
  have k1 : ((r : Int) == 65533) = false := beq_eq_false_iff_ne.2 (by omega)
  have hv : Lib.validRune r = true := by unfold Lib.validRune; simp; omega
  have HV := Lib.hid hv
  clear hv
  have k2 : ((((⟨#[43, 45]⟩ : ByteArray)[1]'(by decide)).toNat : Int) != (((⟨#[c, d]⟩ : ByteArray)[1]'(by simp [ByteArray.size])).toNat : Int)) = true := by
    show ((45 : Int) != (d.toNat : Int)) = true
    simp; omega
  go_enter Tryd.func37, Tryd.ntmps37
  go_wp2_with (go_at_call 50; go_must (refine (Tryd.utf8_ValidRune r _).mono ?_); rintro e w' ⟨rfl, rfl⟩; rw [HV.out])
  go_step3
  go_wp2
  refine wp_loop_rounds 1 ?_; rw [rounds_succ]
  go_wp2
  go_step3
  go_wp2
  go_quiet (fail)
  obtain ⟨W1, hW1⟩ : ∃ W1, W1 = w'.drewN nq := ⟨_, rfl⟩
  rw [← hW1]
  have hb1 : Below w'.heap.size w' W1 := hW1 ▸ below_drewN (Below.refl _ _) nq
  clear hW1
  go_wp2
  go_quiet ((go_at_call 49; exact Calls.quiet_of_same (ixb_nil _ _ (by rfl) _)))
  go_wp2
  rw [Exit.noGoto_ret]
  go_simp
  go_ret
  exact ⟨rfl, below_drewN hb1 _⟩

set_option maxRecDepth 20000 in
set_option maxHeartbeats 2000000 in
/-- The rune of an error. -/
theorem ixr_err (w : World) :
    Calls Tryd.prog 37 #[.string ⟨#[43, 45]⟩, .int .i32 65533] w fun e w' => e = .returned (.int .i64 (-1)) ∧ Below w.heap.size w w' := by
  have n0 : ∀ ty, (Instr.next (.pointer (some ⟨w.heap.size, 0, none⟩)) true ty).run Tryd.prog (w.iter ⟨#[43, 45]⟩ 0) = .ok (.tuple #[.bool true, .int .i64 0, .int .i32 43]) (w.iter ⟨#[43, 45]⟩ 1) := fun ty => run_next_ascii (P := Tryd.prog) w ⟨#[43, 45]⟩ 0 ty (by decide) (by decide)
  have n1 : ∀ ty, (Instr.next (.pointer (some ⟨w.heap.size, 0, none⟩)) true ty).run Tryd.prog (w.iter ⟨#[43, 45]⟩ 1) = .ok (.tuple #[.bool true, .int .i64 1, .int .i32 45]) (w.iter ⟨#[43, 45]⟩ 2) := fun ty => run_next_ascii (P := Tryd.prog) w ⟨#[43, 45]⟩ 1 ty (by decide) (by decide)
  have n2 := fun ty => run_next_end (P := Tryd.prog) w ⟨#[43, 45]⟩ 2 ty (by decide)
  go_enter Tryd.func37, Tryd.ntmps37
  go_wp2
  refine wp_loop_rounds 3 ?_; rw [rounds_succ]
  go_wp2
  rw [rounds_succ]
  go_wp2
  rw [rounds_succ]
  go_wp2
  go_ret
  exact ⟨rfl, (Below.refl _ w).alloc (Nat.le_refl _) _⟩

set_option maxRecDepth 20000 in
set_option maxHeartbeats 2000000 in
/-- A rune that is none. -/
theorem ixr_bad (r : Int) (h0 : 128 ≤ r) (hne : r ≠ 65533) (hv : Lib.validRune r = false) (w : World) :
    Calls Tryd.prog 37 #[.string ⟨#[43, 45]⟩, .int .i32 r] w fun e w' => e = .returned (.int .i64 (-1)) ∧ Below w.heap.size w w' := by
  have k1 : ((r : Int) == 65533) = false := beq_eq_false_iff_ne.2 hne
  have HV := Lib.hid hv
  clear hv hne
  go_enter Tryd.func37, Tryd.ntmps37
  go_wp2_with (go_at_call 50; go_must (refine (Tryd.utf8_ValidRune r _).mono ?_); rintro e w' ⟨rfl, rfl⟩; rw [HV.out])
  go_ret
  exact ⟨rfl, Below.refl _ _⟩

theorem ixb_signs (n : Nat) (h : n < 128) : (0 ≤ Lib.indexByte [43, 45] (n : Int).toNat.toUInt8 ↔ n = 43 ∨ n = 45) ∧ -1 ≤ Lib.indexByte [43, 45] (n : Int).toNat.toUInt8 ∧ Lib.indexByte [43, 45] (n : Int).toNat.toUInt8 ≤ 1 := by
  revert n
  decide +kernel

/-- strings.IndexRune in the two signs. -/
theorem ixr_any (r : Nat) (w : World) :
    Calls Tryd.prog 37 #[.string ⟨#[43, 45]⟩, .int .i32 (r : Int)] w fun e w' => (∃ v : Int, e = .returned (.int .i64 v) ∧ (0 ≤ v ↔ (r = 43 ∨ r = 45)) ∧ -1 ≤ v ∧ v ≤ 1) ∧ Below w.heap.size w w' := by
  by_cases h1 : r < 128
  · obtain ⟨p, q, s⟩ := ixb_signs r h1
    exact (Tryd.strings_IndexRune_ascii ⟨#[43, 45]⟩ r w (by omega) (by omega)).mono fun e w' ⟨he, hw⟩ => ⟨⟨_, he, p, q, s⟩, hw ▸ Below.refl _ _⟩
  have hno : ∀ (e : Ending) (w' : World), (e = .returned (.int .i64 (-1)) ∧ Below w.heap.size w w') → (∃ v : Int, e = .returned (.int .i64 v) ∧ (0 ≤ v ↔ (r = 43 ∨ r = 45)) ∧ -1 ≤ v ∧ v ≤ 1) ∧ Below w.heap.size w w' := fun e w' ⟨he, hb⟩ => ⟨⟨-1, he, by omega, by omega, by omega⟩, hb⟩
  by_cases h2 : r = 65533
  · subst h2; exact (ixr_err w).mono hno
  cases hv : Lib.validRune (r : Int) with
  | false => exact (ixr_bad r (by omega) (by omega) hv w).mono hno
  | true =>
    by_cases h3 : r < 2048
    · exact (ixr_two r (by omega) (by omega) w).mono hno
    · exact (ixr_long r (by omega) hv (by omega) w).mono hno
theorem ixr_no (r : Nat) (h : ¬ (r = 43 ∨ r = 45)) (w : World) :
    Calls Tryd.prog 37 #[.string ⟨#[43, 45]⟩, .int .i32 (r : Int)] w fun e w' => e = .returned (.int .i64 (-1)) ∧ Below w.heap.size w w' :=
  (ixr_any r w).mono fun e w' ⟨⟨v, he, h1, h2, _⟩, hb⟩ => ⟨by rw [he, show v = -1 by rcases Int.lt_or_le v 0 with h' | h'; omega; exact absurd (h1.1 h') h], hb⟩
theorem ixr_yes (r : Nat) (h : r = 43 ∨ r = 45) (w : World) :
    Calls Tryd.prog 37 #[.string ⟨#[43, 45]⟩, .int .i32 (r : Int)] w fun e w' => (∃ v : Int, e = .returned (.int .i64 v) ∧ 0 ≤ v ∧ v ≤ 1) ∧ Below w.heap.size w w' :=
  (ixr_any r w).mono fun e w' ⟨⟨v, he, h1, _, h3⟩, hb⟩ => ⟨⟨v, he, h1.2 h, h3⟩, hb⟩
end Go.Proofs.YtkppkojpdhgicaaDoor
