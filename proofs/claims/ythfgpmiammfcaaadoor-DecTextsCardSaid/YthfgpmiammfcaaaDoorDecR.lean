/-
The program's dec.Round, dec.Floor and dec.Mod, by contracts.
-/
import Derived.Test.YthfgpmiammfcaaaDoorDecQ
namespace Go.Proofs.YthfgpmiammfcaaaDoor
open Go.RowKit

/-- How many places are rounded away. -/
def away (p : Int) : Nat := (6 - min (max p 0) 6).toNat
theorem away_le (p : Int) : away p ≤ 6 := by unfold away; omega
theorem pow_le (k : Nat) (h : k ≤ 6) : 10 ^ k ≤ 1000000 ∧ 0 < 10 ^ k := ⟨Nat.pow_le_pow_right (by decide) h, Nat.pow_pos (by decide)⟩

set_option maxRecDepth 20000 in
set_option maxHeartbeats 1000000 in
/-- dec.unitOf. -/
theorem unit_any (p : Int) (hp : I64 p) (u : Nat) (hu : 10 ^ away p = u) (w : World) :
    Calls Tryd.prog 43 #[.int .i64 p] w fun e w' => e = .returned (.int .u64 (u : Int)) ∧ w = w' := by
  obtain ⟨hp1, hp2⟩ := hp
  have hc : ((away p : Nat) : Int) = 6 - min (max p 0) 6 := by unfold away; omega
  have HC := Lib.hid hc; clear hc
  have HU := Lib.hid hu; clear hu
  go_enter Tryd.func43, Tryd.ntmps43
  go_wp2
  go_loop [3, 8] (fun uv kv => ∃ k v : Nat, (k : Int) ≤ 6 - min (max p 0) 6 ∧ kv = .int .i64 (k : Int) ∧ uv = .int .u64 (v : Int) ∧ v ≤ 1000000 ∧ Hid (10 ^ k = v))
    (fun _ k => (6 - intOf k).toNat)
  case atStart => exact ⟨0, 1, by omega, rfl, rfl, by omega, rfl⟩
  case round =>
    obtain ⟨k, v, hk, rfl, rfl, hv, hpw⟩ := hrel
    by_cases hgo : (k : Int) < 6 - min (max p 0) 6
    · have hv2 : 10 ^ (k + 1) = v * 10 := by rw [Nat.pow_succ, hpw.out]
      have hv3 := (pow_le (k + 1) (by omega)).1
      rw [hv2] at hv3
      have HV2 := Lib.hid hv2; clear hv2
      go_wp2
      go_round
      case rel => exact ⟨k + 1, v * 10, by omega, by go_num, by go_num, hv3, HV2.out⟩
      case measure => simp [intOf] <;> omega
    · have hka : k = away p := by have := HC.out; omega
      have hvu : v = u := by rw [← hpw.out, hka, HU.out]
      subst hvu
      clear hka
      go_wp2
      go_ret
      exact ⟨rfl, rfl⟩

theorem rnd_mul (n u : Nat) : rnd n u * u = (n - n % u) + if u ≤ 2 * (n % u) then u else 0 := by
  unfold rnd
  have h := Nat.div_add_mod n u
  rw [Nat.add_mul, Nat.mul_comm (n / u) u]
  split <;> omega

set_option maxRecDepth 20000 in
set_option maxHeartbeats 1000000 in
/-- dec.Round. -/
theorem round_any (a p : Int) (ha : I64 a) (hp : I64 p) (w : World) :
    Calls Tryd.prog 25 #[.int .i64 a, .int .i64 p] w fun e w' =>
      e = .returned (.tuple #[.int .i64 (toI (sgn (decide (a < 0)) (rnd a.natAbs (10 ^ away p) * 10 ^ away p))).1, .int .i64 (toI (sgn (decide (a < 0)) (rnd a.natAbs (10 ^ away p) * 10 ^ away p))).2]) ∧ w = w' := by
  obtain ⟨hu6, hu0⟩ := pow_le (away p) (away_le p)
  obtain ⟨u, hu⟩ : ∃ u, 10 ^ away p = u := ⟨_, rfl⟩
  have hun := fun w => unit_any p hp u hu w
  have hsa := fun w => size_any a ha w
  rw [hu] at hu6 hu0 ⊢
  rw [rnd_mul]
  have hna : a.natAbs ≤ 9223372036854775808 := by unfold I64 at ha; omega
  obtain ⟨n, hn⟩ : ∃ n, a.natAbs = n := ⟨_, rfl⟩
  rw [hn] at hsa hna ⊢
  have hr := Nat.mod_lt n hu0
  have hr2 := Nat.mod_le n u
  have er : (n : Int) % (u : Int) = ((n % u : Nat) : Int) := by simp
  obtain ⟨r, hrr⟩ : ∃ r, n % u = r := ⟨_, rfl⟩
  rw [hrr] at hr hr2 er ⊢
  have hu1 : 1 ≤ u := hu0
  obtain ⟨m, hm⟩ : ∃ m, decide (a < 0) = m := ⟨_, rfl⟩
  have HM := Lib.hid hm
  rw [hm]
  clear hn hu hrr hm
  by_cases hup : u ≤ 2 * r
  · rw [if_pos hup]
    have hsg := fun w => signed_any m (n - r + u) (by omega) w
    rw [show ((n - r + u : Nat) : Int) = (n : Int) - (r : Int) + (u : Int) from by omega] at hsg
    go_enter Tryd.func25, Tryd.ntmps25
    go_wp2_with (first
      | (go_at_call 43; go_must (refine (hun _).mono ?_); rintro e w' ⟨rfl, rfl⟩)
      | (go_at_call 40; go_must (refine (hsa _).mono ?_); rintro e w' ⟨rfl, rfl⟩)
      | (go_at_call 44; rw [HM.out]; go_must (refine (hsg _).mono ?_); rintro e w' ⟨rfl, rfl⟩))
    go_ret2
    exact ⟨rfl, rfl⟩
  · rw [if_neg hup, Nat.add_zero]
    have hsg := fun w => signed_any m (n - r) (by omega) w
    rw [show ((n - r : Nat) : Int) = (n : Int) - (r : Int) from by omega] at hsg
    go_enter Tryd.func25, Tryd.ntmps25
    go_wp2_with (first
      | (go_at_call 43; go_must (refine (hun _).mono ?_); rintro e w' ⟨rfl, rfl⟩)
      | (go_at_call 40; go_must (refine (hsa _).mono ?_); rintro e w' ⟨rfl, rfl⟩)
      | (go_at_call 44; rw [HM.out]; go_must (refine (hsg _).mono ?_); rintro e w' ⟨rfl, rfl⟩))
    go_ret2
    exact ⟨rfl, rfl⟩

theorem tmod_sgn (a b : Int) : a.tmod b = sgn (decide (a < 0)) (a.natAbs % b.natAbs) := by
  have hb : a.tmod b = a.tmod (b.natAbs : Int) := by
    rcases Int.natAbs_eq b with h | h
    · rw [← h]
    · conv => lhs; rw [h]
      rw [Int.tmod_neg]
  rw [hb]
  unfold sgn
  by_cases h : a < 0
  · simp only [h, decide_true, if_true]
    have e : a = -((a.natAbs : Nat) : Int) := by omega
    conv => lhs; rw [e]
    rw [Int.neg_tmod, Int.ofNat_tmod]
  · simp only [h, decide_false]
    rw [if_neg (by simp)]
    have e : a = ((a.natAbs : Nat) : Int) := by omega
    conv => lhs; rw [e]
    rw [Int.ofNat_tmod]
theorem tmod_mil (a : Int) : -1000000 < a.tmod 1000000 ∧ (a.tmod 1000000 < 0 → a.tmod 1000000 + 1000000 = a % 1000000) ∧ (¬ a.tmod 1000000 < 0 → a.tmod 1000000 = a % 1000000) := by
  rw [tmod_sgn]
  unfold sgn
  have h1 : (1000000 : Int).natAbs = 1000000 := rfl
  rw [h1]
  by_cases h : a < 0 <;> simp [h] <;> omega

/-- What is left of a by b, with the sign of b. -/
def fm (a b : Int) : Int := if a.tmod b ≠ 0 ∧ ¬ (a.tmod b < 0 ↔ b < 0) then a.tmod b + b else a.tmod b

set_option maxRecDepth 20000 in
set_option maxHeartbeats 1000000 in
/-- dec.Floor. -/
theorem floor_any (a : Int) (ha : I64 a) (w : World) :
    Calls Tryd.prog 27 #[.int .i64 a] w fun e w' => e = .returned (.tuple #[.int .i64 (toI (a - a % 1000000)).1, .int .i64 (toI (a - a % 1000000)).2]) ∧ w = w' := by
  obtain ⟨ha1, ha2⟩ := ha
  have hs := fun w => sub_any a (a % 1000000) ⟨ha1, ha2⟩ (by unfold I64; omega) w
  by_cases h : a.tmod 1000000 < 0
  · have e := (tmod_mil a).2.1 h
    have E := Lib.hid e; clear e
    have hb := (tmod_mil a).1
    go_enter Tryd.func27, Tryd.ntmps27
    go_wp2_with (go_at_call 11; rw [E.out]; go_must (refine (hs _).mono ?_); rintro e w' ⟨rfl, rfl⟩)
    go_ret2
    exact ⟨rfl, rfl⟩
  · have e := (tmod_mil a).2.2 h
    have E := Lib.hid e; clear e
    go_enter Tryd.func27, Tryd.ntmps27
    go_wp2_with (go_at_call 11; rw [E.out]; go_must (refine (hs _).mono ?_); rintro e w' ⟨rfl, rfl⟩)
    go_ret2
    exact ⟨rfl, rfl⟩

set_option maxRecDepth 20000 in
set_option maxHeartbeats 1000000 in
/-- dec.Mod. -/
theorem mod_any (a b : Int) (ha : I64 a) (hb : I64 b) (hb0 : b ≠ 0) (w : World) :
    Calls Tryd.prog 29 #[.int .i64 a, .int .i64 b] w fun e w' => e = .returned (.tuple #[.int .i64 (fm a b), .int .i64 0]) ∧ w = w' := by
  have hb00 : (b == 0) = false := by simpa using hb0
  go_enter Tryd.func29, Tryd.ntmps29
  go_wp2
  · have h : a.tmod b = 0 := by assumption
    go_ret2
    refine ⟨ret_ii ?_ rfl, rfl⟩
    unfold fm
    rw [if_neg (by simp [h]), h]
  · have h : (a.tmod b != 0) = true ∧ (!decide (a.tmod b < 0) == decide (b < 0)) = true := by assumption
    have h1 : a.tmod b ≠ 0 := by simpa using h.1
    have h2 : ¬ (a.tmod b < 0 ↔ b < 0) := by
      have := h.2
      by_cases g1 : a.tmod b < 0 <;> by_cases g2 : b < 0 <;> simp [g1, g2] at this ⊢
    have hw : wrap64 (a.tmod b + b) = a.tmod b + b := by
      have h3 := tmod_sgn a b
      have h4 := Nat.mod_lt a.natAbs (show 0 < b.natAbs by omega)
      unfold sgn at h3
      obtain ⟨hb1, hb2⟩ := hb
      unfold wrap64
      split at h3 <;> omega
    go_ret2
    refine ⟨ret_ii ?_ rfl, rfl⟩
    unfold fm
    rw [if_pos ⟨h1, h2⟩]
    exact hw
  · have h : (a.tmod b != 0) = false ∨ (!decide (a.tmod b < 0) == decide (b < 0)) = false := by assumption
    have h2 : ¬ (a.tmod b ≠ 0 ∧ ¬ (a.tmod b < 0 ↔ b < 0)) := by
      intro ⟨g, g'⟩
      rcases h with h | h
      · exact g (by simpa using h)
      · apply g'
        by_cases g1 : a.tmod b < 0 <;> by_cases g2 : b < 0 <;> simp [g1, g2] at h ⊢
    go_ret2
    refine ⟨ret_ii ?_ rfl, rfl⟩
    unfold fm
    rw [if_neg h2]
end Go.Proofs.YthfgpmiammfcaaaDoor
