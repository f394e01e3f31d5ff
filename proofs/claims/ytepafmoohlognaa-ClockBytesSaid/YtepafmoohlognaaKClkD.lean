/-
Package clock: Put and Take, by contracts; what the law ClockBytes asks of them.
-/
import Derived.Test.YtepafmoohlognaaKClkC
import Derived.Test.YtepafmoohlognaaKBytes
namespace Go.Proofs.Ytepafmoohlognaa
open Go.RowKit
open Wire (numL valL takeL runL bytesL)

theorem cut_pad_eq (ns : List Nat) : cutF (padF ns) = cutF ns := by unfold padF; rw [cut_app]
/-- A row of unsigned integers below a bound is kept. -/
theorem RdU.belowB {B : Nat} {w w' : World} {v : Value} {ns : List Nat} (h : RdU w v ns) (hb : Below B w w') (hB : ns = [] ∨ ∀ k, v.ownBlock = some k → k < B) : RdU w' v ns := by
  refine h.other hb.size ?_
  rcases hB with e | e
  · exact .inl e
  · exact .inr fun b hk => hb.block b (e b hk)

set_option maxRecDepth 20000 in
set_option maxHeartbeats 1000000 in
theorem put_clk (B g : Nat) (v : Value) (xs : List Nat) (ns : List Nat) (u : Value) (w : World) (hf : FitC ns) (hu : RdU w u ns) (hB : ns = [] ∨ ∀ k, u.ownBlock = some k → k < B) (hw : Wr B w g v xs) (hl : xs.length ≤ 100000) (hBw : B ≤ w.heap.size) :
    Calls Try.prog 18 #[.pointer (some ⟨g, 0, none⟩), u] w fun e w' => ∃ u' v', e = .returned u' ∧ Wr B w' g v' (xs ++ clkL (cutF (padF ns))) ∧ Kept g v v' w w' := by
  rw [cut_pad_eq]
  obtain ⟨A, n, c, rfl, hn⟩ := hu.named
  have hfit := hf.1
  have hcx : ∀ x ∈ cutF ns, x < 18446744073709551616 := fun x h => hf.2 x (List.mem_of_mem_take h)
  have hS : Calls Try.prog 30 #[.slice A n c] w fun e w' => e = .returned (.slice A (cutN ns) c) ∧ w = w' := (short_clk ns n c A hn (by omega) w hu).mono (fun e w' ⟨m, h1, h2, _, h4⟩ => ⟨by rw [h1, h2], h4⟩)
  have hrn : cutN ns ≤ n := by rw [hn]; exact cutN_le ns
  have hq1 : RdU w (.slice A (cutN ns) c) (cutF ns) := hu.upto _ hrn
  have hq2 : cutF ns = [] ∨ ∀ k, (Value.slice A (cutN ns) c).ownBlock = some k → k < B := by
    rcases hB with e | e
    · subst e; exact .inl rfl
    · exact .inr fun k hk => e k (by
        rcases A with _ | a
        · cases hk
        · exact hk)
  have hrl := hq1.cap.1
  obtain ⟨cs, hcs⟩ : ∃ cs, cs = cutF ns := ⟨_, rfl⟩
  rw [← hcs] at hq1 hq2 hcx hrl ⊢
  have HW := Lib.hid hw
  have HBW := Lib.hid hBw
  have hn64 : n ≤ 64 := by omega
  generalize cutN ns = r at *
  have HS := Lib.hid hS
  have HCX := Lib.hid hcx
  have HQ1 := Lib.hid hq1
  have HQ2 := Lib.hid hq2
  have HRL := Lib.hid hrl
  have hnum := wnum_any B g v xs r (by omega) w HW.out (by omega) HBW.out
  have HNUM := Lib.hid hnum
  clear hf hu hB hw hBw hcx hn hfit hcs hq1 hq2 hrl hnum hS
  go_enter Try.func18, Try.ntmps18
  go_wp2_with (first
    | (go_at_call 30; (with_reducible refine (HS.out).mono ?_); rintro e w1 ⟨rfl, rfl⟩)
    | (go_at_call 33; (with_reducible refine (HNUM.out).mono ?_); rintro e w2 ⟨v2, rfl, hw2, hk2⟩; have HW2 := Lib.hid hw2; have HK2 := Lib.hid hk2; clear hw2 hk2))
  go_loopw [15] (fun i wr => ∃ (k : Nat), k ≤ r ∧ i = .int .i64 (k : Int) ∧ Hid (∃ v', Wr B wr g v' (xs ++ (numL r ++ numsL (cs.take k))) ∧ Kept g v v' w wr)) (fun i _ => r - (intOf i).toNat)
  case atStart => exact ⟨0, Nat.zero_le _, rfl, Lib.hid ⟨v2, by simpa [numsL] using HW2.out, HK2.out⟩⟩
  case round =>
    obtain ⟨k, hk, rfl, HI⟩ := hrel
    obtain ⟨v3, hw3, hk3⟩ := HI.out
    have hb3 : Below B w wr := hk3.below HW.out.1 HW.out.base HBW.out
    by_cases hkr : k < r
    · obtain ⟨x, hx⟩ : ∃ x, cs[k]? = some x := ⟨_, List.getElem?_eq_getElem (by rw [← HRL.out]; exact hkr)⟩
      obtain ⟨b, off, rfl, hcell⟩ := (HQ1.out.belowB hb3 HQ2.out).at_ hx
      have p0 := hcell wr (Below.refl _ _)
      have hxb := HCX.out x (List.mem_of_getElem? hx)
      have hlen : (xs ++ (numL r ++ numsL (cs.take k))).length ≤ 900000 := by
        have h1 := Wire.numL_length_10 (show r < 18446744073709551616 by omega)
        have h2 := numsL_len (ns := cs.take k) (fun x h => HCX.out x (List.mem_of_mem_take h))
        rw [List.length_take] at h2
        rw [List.length_append, List.length_append]
        omega
      have hnum := wnum_any B g v3 _ x hxb wr hw3 hlen (Nat.le_trans HBW.out hk3.size)
      have he : xs ++ (numL r ++ numsL (cs.take k)) ++ numL x = xs ++ (numL r ++ numsL (cs.take (k + 1))) := by
        rw [numsL_snoc hx]; simp [List.append_assoc]
      rw [he] at hnum
      have HNUM := Lib.hid hnum
      have HK3 := Lib.hid hk3
      clear hx hcell hxb hlen hnum he hw3 hk3 hb3 HI
      go_wp2_with (go_at_call 33; (with_reducible refine (HNUM.out).mono ?_); rintro e w4 ⟨v4, rfl, hw4, hk4⟩; have HW4 := Lib.hid hw4; have HK4 := Lib.hid hk4; clear hw4 hk4)
      go_roundw
      case rel => exact ⟨k + 1, by omega, by go_num, Lib.hid ⟨v4, HW4.out, HK3.out.trans HK4.out⟩⟩
      case measure => simp [intOf]; omega
    · obtain rfl : k = r := by omega
      have he : numL k ++ numsL (cs.take k) = clkL cs := by
        unfold clkL
        rw [List.take_of_length_le (by rw [← HRL.out]; exact Nat.le_refl _), ← HRL.out]
      rw [he] at hw3
      have HW3 := Lib.hid hw3
      have HK3 := Lib.hid hk3
      clear he hw3 hk3 hb3 HI hkr
      go_wp2
      refine bodyPost_end (results_none rfl _ _ _) rfl ?_
      exact ⟨_, v3, rfl, HW3.out, HK3.out⟩
end Go.Proofs.Ytepafmoohlognaa
