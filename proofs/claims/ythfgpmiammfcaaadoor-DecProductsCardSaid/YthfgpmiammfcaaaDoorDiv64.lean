/-
math/bits.Div64, by its contract.
-/
import Derived.Test.YthfgpmiammfcaaaDoorDecQ
import Derived.Test.YthfgpmiammfcaaaDoorKnuth
import Derived.Laws.BitsAllLaws
import Derived.Deep.DeepCutAuto
import Derived.Deep.CutBlock
import Derived.Lib.ItoaNum
namespace Go.Proofs.YthfgpmiammfcaaaDoor
open Go.RowKit

/-- What Div64 reckons ahead of its digits, in the walk's own spelling. -/
structure Pre (hi lo y s Y y1 y0 H t U L l1 l0 : Nat) : Prop where
  hs : s ≤ 63
  lz : (64 - (Lib.bitLen ((y : Int)).toNat : Int)) = (s : Int)
  e1 : IntKind.u64.wrap ((y : Int) * 2 ^ s) = (Y : Int)
  e2 : (Y : Int) / 4294967296 = (y1 : Int)
  e3 : bits BinOp.and IntKind.u64 (Y : Int) 4294967295 = (y0 : Int)
  e4 : IntKind.u64.wrap ((hi : Int) * 2 ^ s) = (H : Int)
  e5 : (lo : Int) / 2 ^ (64 - s) = (t : Int)
  e6 : bits BinOp.or IntKind.u64 (H : Int) (t : Int) = (U : Int)
  e7 : IntKind.u64.wrap ((lo : Int) * 2 ^ s) = (L : Int)
  e8 : (L : Int) / 4294967296 = (l1 : Int)
  e9 : bits BinOp.and IntKind.u64 (L : Int) 4294967295 = (l0 : Int)
  hY : Y = y * 2 ^ s
  hY2 : Y = y1 * 4294967296 + y0
  hL : L = l1 * 4294967296 + l0
  hy1 : 2147483648 ≤ y1
  hy1' : y1 < 4294967296
  hy0 : y0 < 4294967296
  hl1 : l1 < 4294967296
  hl0 : l0 < 4294967296
  hU : U < Y
  hN : (hi * 18446744073709551616 + lo) * 2 ^ s = U * 18446744073709551616 + L

theorem pre_any (hi lo y : Nat) (hl : lo < 18446744073709551616) (hy : hi < y) (hy2 : y < 18446744073709551616) : ∃ s Y y1 y0 H t U L l1 l0, Pre hi lo y s Y y1 y0 H t U L l1 l0 := by
  have hb := Lib.bitLenAux_bounds 64 y hy2 (by omega)
  have hb64 : Lib.bitLen y ≤ 64 := Lib.bitLen_le y 64 (Nat.le_refl _) hy2
  obtain ⟨bl, hbl⟩ : ∃ bl, Lib.bitLen y = bl := ⟨_, rfl⟩
  have hbl' : Lib.bitLenAux 64 y = bl := hbl
  rw [hbl'] at hb
  rw [hbl] at hb64
  obtain ⟨b1, b2, b3⟩ := hb
  obtain ⟨s, hs⟩ : ∃ s, 64 - bl = s := ⟨_, rfl⟩
  have hp : 0 < 2 ^ s := Nat.pow_pos (by decide)
  have hYlo : 9223372036854775808 ≤ y * 2 ^ s := by
    have h1 : 2 ^ (bl - 1) * 2 ^ s ≤ y * 2 ^ s := Nat.mul_le_mul_right _ b2
    rw [← Nat.pow_add, show bl - 1 + s = 63 from by omega] at h1
    exact h1
  have hYhi : y * 2 ^ s < 18446744073709551616 := by
    have h1 : y * 2 ^ s < 2 ^ bl * 2 ^ s := Nat.mul_lt_mul_of_pos_right b3 hp
    rw [← Nat.pow_add, show bl + s = 64 from by omega] at h1
    exact h1
  have hH : hi * 2 ^ s + 2 ^ s ≤ y * 2 ^ s := by
    have h1 : (hi + 1) * 2 ^ s ≤ y * 2 ^ s := Nat.mul_le_mul_right _ hy
    rw [Nat.add_mul, Nat.one_mul] at h1; exact h1
  have hsplit : 18446744073709551616 = 2 ^ (64 - s) * 2 ^ s := by
    rw [← Nat.pow_add, show 64 - s + s = 64 from by omega]
  have hq : 0 < 2 ^ (64 - s) := Nat.pow_pos (by decide)
  have ht : lo / 2 ^ (64 - s) < 2 ^ s := by
    rw [Nat.div_lt_iff_lt_mul hq, Nat.mul_comm, ← hsplit]; exact hl
  have hor : (hi * 2 ^ s) ||| (lo / 2 ^ (64 - s)) = hi * 2 ^ s + lo / 2 ^ (64 - s) := nat_join s _ _ (Nat.mul_mod_left _ _) ht
  have hlo : lo * 2 ^ s % 18446744073709551616 = lo % 2 ^ (64 - s) * 2 ^ s := by
    rw [hsplit, Nat.mul_mod_mul_right]
  have hN : (hi * 18446744073709551616 + lo) * 2 ^ s = (hi * 2 ^ s + lo / 2 ^ (64 - s)) * 18446744073709551616 + lo * 2 ^ s % 18446744073709551616 := by
    have h1 := Nat.div_add_mod lo (2 ^ (64 - s))
    have h2 : lo * 2 ^ s = (2 ^ (64 - s) * (lo / 2 ^ (64 - s)) + lo % 2 ^ (64 - s)) * 2 ^ s := by rw [h1]
    rw [hlo, Nat.add_mul, Nat.add_mul, h2, Nat.add_mul]
    have h3 : hi * 18446744073709551616 * 2 ^ s = hi * 2 ^ s * 18446744073709551616 := Nat.mul_right_comm _ _ _
    have h4 : 2 ^ (64 - s) * (lo / 2 ^ (64 - s)) * 2 ^ s = lo / 2 ^ (64 - s) * 18446744073709551616 := by
      rw [hsplit, Nat.mul_comm (2 ^ (64 - s)) (lo / 2 ^ (64 - s)), Nat.mul_assoc]
    rw [h3, h4, Nat.add_assoc]
  have cast2 : ∀ k : Nat, (2 : Int) ^ k = ((2 ^ k : Nat) : Int) := fun k => by simp
  obtain ⟨Y, hY⟩ : ∃ Y, y * 2 ^ s = Y := ⟨_, rfl⟩
  obtain ⟨L, hL⟩ : ∃ L, lo * 2 ^ s % 18446744073709551616 = L := ⟨_, rfl⟩
  have hL64 : L < 18446744073709551616 := hL ▸ Nat.mod_lt _ (by decide)
  refine ⟨s, Y, Y / 4294967296, Y % 4294967296, hi * 2 ^ s, lo / 2 ^ (64 - s), hi * 2 ^ s + lo / 2 ^ (64 - s), L, L / 4294967296, L % 4294967296, ?_⟩
  rw [hY] at hYlo hYhi hH
  rw [hL] at hN
  refine ⟨by omega, ?_, ?_, by omega, ?_, ?_, ?_, ?_, ?_, by omega, ?_, hY.symm, by omega, by omega, by omega, by omega, by omega, by omega, by omega, by omega, hN⟩
  · rw [show ((y : Int)).toNat = y from rfl, hbl]; omega
  · rw [u64wrap, cast2, ← Int.natCast_mul, hY]; omega
  · rw [show (4294967295 : Int) = ((4294967295 : Nat) : Int) from rfl, u64_and_nat _ _ hYhi (by decide), nat_mask32]
  · rw [u64wrap, cast2, ← Int.natCast_mul]; omega
  · rw [cast2]; simp
  · rw [u64_or_nat _ _ (by omega) (by omega), hor]
  · rw [u64wrap, cast2, ← Int.natCast_mul, ← hL]; omega
  · rw [show (4294967295 : Int) = ((4294967295 : Nat) : Int) from rfl, u64_and_nat _ _ hL64 (by decide), nat_mask32]

theorem ret_u {k : IntKind} {a b : Int} (h : a = b) : Value.int k a = Value.int k b := by rw [h]

set_option maxRecDepth 20000 in
set_option maxHeartbeats 4000000 in
theorem div64_hi (hi lo y : Nat) (hh : 0 < hi) (hl : lo < 18446744073709551616) (hy : hi < y) (hy2 : y < 18446744073709551616) : DivAt hi lo y := by
  intro w
  obtain ⟨s, Y, y1, y0, H, t, U, L, l1, l0, P⟩ := pre_any hi lo y hl hy hy2
  have hlz := fun w => Tryd.bits_LeadingZeros64 (y : Int) w (by omega) (by omega)
  rw [P.lz] at hlz
  obtain ⟨hs, -, e1, e2, e3, e4, e5, e6, e7, e8, e9, hY, hY2, hL, hy1, hy1', hy0, hl1, hl0, hU, hN⟩ := id P
  have K1 := Kn.start (l := l1) hy1 hy1' hy0 hl1 (hY2 ▸ hU)
  obtain ⟨q, hq⟩ : ∃ q, U / y1 = q := ⟨_, rfl⟩
  obtain ⟨r, hr⟩ : ∃ r, U % y1 = r := ⟨_, rfl⟩
  have hr32 := K1.rlt
  rw [hq, hr] at K1
  rw [hr] at hr32
  have hqy := K1.eq
  obtain ⟨p, hp⟩ : ∃ p, q * y1 = p := ⟨_, rfl⟩
  have e10 : (U : Int) / (y1 : Int) = (q : Int) := by rw [← hq]; simp
  have e11 : (q : Int) * (y1 : Int) = (p : Int) := by rw [← hp]; simp
  have e12 : (U : Int) - (p : Int) = (r : Int) := by rw [hp] at hqy; omega
  have hq1 := K1.lim
  have hp1 : p ≤ U := by rw [hp] at hqy; omega
  have hU64 : U < 18446744073709551616 := by omega
  have PP := Lib.hid P
  have HYY := Lib.hid hY; have HY2 := Lib.hid hY2; have HL := Lib.hid hL; have HN := Lib.hid hN
  clear hY hY2 hL hN hq hr hp hqy P
  go_enter Tryd.func55, Tryd.ntmps55
  obtain ⟨Q, hQ⟩ : ∃ Q, (U * 4294967296 + l1) / (y1 * 4294967296 + y0) = Q := ⟨_, rfl⟩
  rw [hQ] at K1
  have HQ := Lib.hid hQ; clear hQ
  go_upto_block 0 with (go_at_call 63; go_must (refine (hlz _).mono ?_); rintro e w' ⟨rfl, rfl⟩)
  rename ¬ y ≤ hi => hN0
  go_cut [15, 16] (fun qv rv wx => qv = .int .u64 (Q : Int) ∧ wx = w')
  case first =>
    clear e1 e2 e3 e4 e5 e6 e7 e8 e9 e10 e11 e12 hU hU64 hq1 hp1 hs hl hy hy2 hlz hN0
    go_wp2_with fail
    go_loop [15, 16] (fun qv rv => ∃ q r : Nat, qv = .int .u64 (q : Int) ∧ rv = .int .u64 (r : Int) ∧ r < 4294967296 ∧ q ≤ 4294967297 ∧ Kn.At U l1 y1 y0 Q q r)
      (fun qv _ => (intOf qv).toNat)
    case atStart => exact ⟨q, r, rfl, rfl, hr32, K1.lim, K1⟩
    case round =>
      obtain ⟨q, r, rfl, rfl, hr, hq, K⟩ := hrel
      rcases (show 4294967296 ≤ q ∨ (q < 4294967296 ∧ 4294967296 * r + l1 < q * y0) ∨ (q < 4294967296 ∧ q * y0 ≤ 4294967296 * r + l1) from by omega) with g | ⟨g, g'⟩ | ⟨g, g'⟩
      · obtain ⟨K', hq'⟩ := K.down (K.lt_of_big (by omega))
        have t1 : (4294967296 : Int) ≤ (q : Int) := by omega
        rcases (show 4294967296 ≤ r + y1 ∨ r + y1 < 4294967296 from by omega) with hb | hb
        · have hend := K'.stop_break hq' hb
          have HE := Lib.hid hend; clear hend
          have t3 : decide ((4294967296 : Int) ≤ (r : Int) + (y1 : Int)) = true := by simp <;> omega
          go_wp2_with fail
          go_meet
          exact ⟨ret_u (by have := HE.out; omega), rfl⟩
        · have t3 : decide ((4294967296 : Int) ≤ (r : Int) + (y1 : Int)) = false := by simp <;> omega
          go_wp2_with fail
          go_round
          case rel => exact ⟨q - 1, r + y1, by go_num, by go_num, by omega, by omega, K'⟩
          case measure => simp [intOf] <;> omega
      · obtain ⟨K', hq'⟩ := K.down (K.lt_of_test g')
        have hq0 : 0 < q := by have := K.lt_of_test g'; omega
        obtain ⟨p, hp⟩ : ∃ p, q * y0 = p := ⟨_, rfl⟩
        have e13 : (q : Int) * (y0 : Int) = (p : Int) := by rw [← hp]; simp
        rw [hp] at g'
        have hp2 : p ≤ 4294967295 * 4294967295 := by rw [← hp]; exact Nat.mul_le_mul (by omega) (by omega)
        clear hp
        have t1 : (q : Int) < 4294967296 := by omega
        have t2 : decide (4294967296 * (r : Int) + (l1 : Int) < (p : Int)) = true := by simp <;> omega
        rcases (show 4294967296 ≤ r + y1 ∨ r + y1 < 4294967296 from by omega) with hb | hb
        · have hend := K'.stop_break hq' hb
          have HE := Lib.hid hend; clear hend
          have t3 : decide ((4294967296 : Int) ≤ (r : Int) + (y1 : Int)) = true := by simp <;> omega
          go_wp2_with fail
          go_meet
          exact ⟨ret_u (by have := HE.out; omega), rfl⟩
        · have t3 : decide ((4294967296 : Int) ≤ (r : Int) + (y1 : Int)) = false := by simp <;> omega
          go_wp2_with fail
          go_round
          case rel => exact ⟨q - 1, r + y1, by go_num, by go_num, by omega, by omega, K'⟩
          case measure => simp [intOf] <;> omega
      · have hend := K.stop_test (by omega)
        have HE := Lib.hid hend; clear hend
        obtain ⟨p, hp⟩ : ∃ p, q * y0 = p := ⟨_, rfl⟩
        have e13 : (q : Int) * (y0 : Int) = (p : Int) := by rw [← hp]; simp
        rw [hp] at g'
        have hp2 : p ≤ 4294967295 * 4294967295 := by rw [← hp]; exact Nat.mul_le_mul (by omega) (by omega)
        clear hp
        have t1 : (q : Int) < 4294967296 := by omega
        have t2 : decide (4294967296 * (r : Int) + (l1 : Int) < (p : Int)) = false := by simp <;> omega
        have t1' : decide ((4294967296 : Int) ≤ (q : Int)) = false := by simp <;> omega
        go_wp2_with fail
        go_meet
        exact ⟨ret_u (by have := HE.out; omega), rfl⟩
  case rest =>
    obtain ⟨rfl, rfl⟩ := hcut
    rename ¬ y ≤ hi => hN0
    clear hN0 e10 e11 e12 hq1 hp1 hr32
    have hY0 : 0 < Y := by have := HY2.out; omega
    have hYe : y1 * 4294967296 + y0 = Y := HY2.out.symm
    have hY64 : Y < 18446744073709551616 := by omega
    have hQ1 : (U * 4294967296 + l1) / Y = Q := hYe ▸ HQ.out
    have hQ32 : Q < 4294967296 := K1.hQ ▸ Kn.digit_lt hy1 hl1 K1.hU
    obtain ⟨R1, hR1⟩ : ∃ R1, (U * 4294967296 + l1) % Y = R1 := ⟨_, rfl⟩
    have hR1Y : R1 < Y := hR1 ▸ Nat.mod_lt _ hY0
    obtain ⟨P1, hP1⟩ : ∃ P1, Q * Y = P1 := ⟨_, rfl⟩
    have f1 : (Q : Int) * (Y : Int) = (P1 : Int) := by rw [← hP1]; simp
    have hX1 : P1 + R1 = U * 4294967296 + l1 := by
      have := Nat.div_add_mod (U * 4294967296 + l1) Y
      rw [hQ1, hR1, Nat.mul_comm, hP1] at this; exact this
    have f2 : IntKind.u64.wrap (IntKind.u64.wrap (IntKind.u64.wrap ((U : Int) * 4294967296) + (l1 : Int)) - IntKind.u64.wrap (P1 : Int)) = (R1 : Int) := by
      simp only [u64wrap]; omega
    have K2 := Kn.start (l := l0) hy1 hy1' hy0 hl0 (hYe ▸ hR1Y)
    obtain ⟨q0, hq0⟩ : ∃ q, R1 / y1 = q := ⟨_, rfl⟩
    obtain ⟨r0, hr0⟩ : ∃ r, R1 % y1 = r := ⟨_, rfl⟩
    have hr32' := K2.rlt
    rw [hq0, hr0] at K2
    rw [hr0] at hr32'
    have hqy0 := K2.eq
    obtain ⟨p0, hp0⟩ : ∃ p, q0 * y1 = p := ⟨_, rfl⟩
    have e10 : (R1 : Int) / (y1 : Int) = (q0 : Int) := by rw [← hq0]; simp
    have e11 : (q0 : Int) * (y1 : Int) = (p0 : Int) := by rw [← hp0]; simp
    have e12 : (R1 : Int) - (p0 : Int) = (r0 : Int) := by rw [hp0] at hqy0; omega
    have hq1 := K2.lim
    have hp1 : p0 ≤ R1 := by rw [hp0] at hqy0; omega
    have hR64 : R1 < 18446744073709551616 := by omega
    obtain ⟨Q0, hQ0⟩ : ∃ Q0, (R1 * 4294967296 + l0) / (y1 * 4294967296 + y0) = Q0 := ⟨_, rfl⟩
    rw [hQ0] at K2
    have HX1 := Lib.hid hX1; have HR1 := Lib.hid hR1; have HQ1 := Lib.hid hQ1; have HQ0 := Lib.hid hQ0; have HYe := Lib.hid hYe
    clear hX1 hR1 hQ1 hQ0 hYe hP1 hq0 hr0 hp0 hqy0
    go_upto_block 2 with (fail)
    go_cut [16, 18] (fun _ qv wx => qv = .int .u64 (Q0 : Int) ∧ wx = wc)
    case first =>
      clear e1 e2 e3 e4 e5 e6 e7 e8 e9 e10 e11 e12 f1 f2 hU hU64 hq1 hp1 hs hl hy hy2 hlz hR1Y hR64 hQ32 hY64 hY0
      go_wp2_with fail
      go_loop [16, 18] (fun rv qv => ∃ q r : Nat, qv = .int .u64 (q : Int) ∧ rv = .int .u64 (r : Int) ∧ r < 4294967296 ∧ q ≤ 4294967297 ∧ Kn.At R1 l0 y1 y0 Q0 q r)
        (fun _ qv => (intOf qv).toNat)
      case atStart => exact ⟨q0, r0, rfl, rfl, hr32', K2.lim, K2⟩
      case round =>
        obtain ⟨q, r, rfl, rfl, hr, hq, K⟩ := hrel
        rcases (show 4294967296 ≤ q ∨ (q < 4294967296 ∧ 4294967296 * r + l0 < q * y0) ∨ (q < 4294967296 ∧ q * y0 ≤ 4294967296 * r + l0) from by omega) with g | ⟨g, g'⟩ | ⟨g, g'⟩
        · obtain ⟨K', hq'⟩ := K.down (K.lt_of_big (by omega))
          have t1 : (4294967296 : Int) ≤ (q : Int) := by omega
          rcases (show 4294967296 ≤ r + y1 ∨ r + y1 < 4294967296 from by omega) with hb | hb
          · have hend := K'.stop_break hq' hb
            have HE := Lib.hid hend; clear hend
            have t3 : decide ((4294967296 : Int) ≤ (r : Int) + (y1 : Int)) = true := by simp <;> omega
            go_wp2_with fail
            go_meet
            exact ⟨ret_u (by have := HE.out; omega), rfl⟩
          · have t3 : decide ((4294967296 : Int) ≤ (r : Int) + (y1 : Int)) = false := by simp <;> omega
            go_wp2_with fail
            go_round
            case rel => exact ⟨q - 1, r + y1, by go_num, by go_num, by omega, by omega, K'⟩
            case measure => simp [intOf] <;> omega
        · obtain ⟨K', hq'⟩ := K.down (K.lt_of_test g')
          have hq0 : 0 < q := by have := K.lt_of_test g'; omega
          obtain ⟨p, hp⟩ : ∃ p, q * y0 = p := ⟨_, rfl⟩
          have e13 : (q : Int) * (y0 : Int) = (p : Int) := by rw [← hp]; simp
          rw [hp] at g'
          have hp2 : p ≤ 4294967295 * 4294967295 := by rw [← hp]; exact Nat.mul_le_mul (by omega) (by omega)
          clear hp
          have t1 : (q : Int) < 4294967296 := by omega
          have t2 : decide (4294967296 * (r : Int) + (l0 : Int) < (p : Int)) = true := by simp <;> omega
          rcases (show 4294967296 ≤ r + y1 ∨ r + y1 < 4294967296 from by omega) with hb | hb
          · have hend := K'.stop_break hq' hb
            have HE := Lib.hid hend; clear hend
            have t3 : decide ((4294967296 : Int) ≤ (r : Int) + (y1 : Int)) = true := by simp <;> omega
            go_wp2_with fail
            go_meet
            exact ⟨ret_u (by have := HE.out; omega), rfl⟩
          · have t3 : decide ((4294967296 : Int) ≤ (r : Int) + (y1 : Int)) = false := by simp <;> omega
            go_wp2_with fail
            go_round
            case rel => exact ⟨q - 1, r + y1, by go_num, by go_num, by omega, by omega, K'⟩
            case measure => simp [intOf] <;> omega
        · have hend := K.stop_test (by omega)
          have HE := Lib.hid hend; clear hend
          obtain ⟨p, hp⟩ : ∃ p, q * y0 = p := ⟨_, rfl⟩
          have e13 : (q : Int) * (y0 : Int) = (p : Int) := by rw [← hp]; simp
          rw [hp] at g'
          have hp2 : p ≤ 4294967295 * 4294967295 := by rw [← hp]; exact Nat.mul_le_mul (by omega) (by omega)
          clear hp
          have t1 : (q : Int) < 4294967296 := by omega
          have t2 : decide (4294967296 * (r : Int) + (l0 : Int) < (p : Int)) = false := by simp <;> omega
          have t1' : decide ((4294967296 : Int) ≤ (q : Int)) = false := by simp <;> omega
          go_wp2_with fail
          go_meet
          exact ⟨ret_u (by have := HE.out; omega), rfl⟩
    case rest =>
      obtain ⟨rfl, rfl⟩ := hcut
      have hQ032 : Q0 < 4294967296 := K2.hQ ▸ Kn.digit_lt hy1 hl0 K2.hU
      obtain ⟨R0, hR0⟩ : ∃ R0, (R1 * 4294967296 + l0) % Y = R0 := ⟨_, rfl⟩
      have hR0Y : R0 < Y := hR0 ▸ Nat.mod_lt _ hY0
      obtain ⟨P0, hP0⟩ : ∃ P0, Q0 * Y = P0 := ⟨_, rfl⟩
      have hQ0' : (R1 * 4294967296 + l0) / Y = Q0 := HYe.out ▸ HQ0.out
      have f3 : (Q0 : Int) * (Y : Int) = (P0 : Int) := by rw [← hP0]; simp
      have hX0 : P0 + R0 = R1 * 4294967296 + l0 := by
        have := Nat.div_add_mod (R1 * 4294967296 + l0) Y
        rw [hQ0', hR0, Nat.mul_comm, hP0] at this; exact this
      have f4 : IntKind.u64.wrap (IntKind.u64.wrap (IntKind.u64.wrap ((R1 : Int) * 4294967296) + (l0 : Int)) - IntKind.u64.wrap (P0 : Int)) = (R0 : Int) := by
        simp only [u64wrap]; omega
      have f5 : (R0 : Int) / 2 ^ s = ((R0 / 2 ^ s : Nat) : Int) := by simp
      have hk : 0 < 2 ^ s := Nat.pow_pos (by decide)
      have T := Kn.two hY0 HN.out HL.out HQ1.out.symm HR1.out.symm hQ0'.symm hR0.symm
      have S := Kn.shifted (N := hi * 18446744073709551616 + lo) (y := y) hk
      rw [← HYY.out] at S
      have G1 : (hi * 18446744073709551616 + lo) / y = Q * 4294967296 + Q0 := by rw [← S.1, T.1]
      have G2 : (hi * 18446744073709551616 + lo) % y = R0 / 2 ^ s := by rw [← S.2, T.2]
      have HG1 := Lib.hid G1; have HG2 := Lib.hid G2
      clear T S G1 G2 hX0 hR0 hP0 hQ0' f5
      go_wp2_with fail
      go_ret2
      refine ⟨ret_ii ?_ ?_, 0, rfl⟩
      · rw [HG1.out]; simp
      · rw [HG2.out]; simp

/-- math/bits.Div64, wherever it has an answer. -/
theorem div64_any (hi lo y : Nat) (hl : lo < 18446744073709551616) (hy : hi < y) (hy2 : y < 18446744073709551616) : DivAt hi lo y := by
  rcases Nat.eq_zero_or_pos hi with h | h
  · subst h; exact div64_lo lo y hl hy hy2
  · exact div64_hi hi lo y h hl hy hy2
end Go.Proofs.YthfgpmiammfcaaaDoor
