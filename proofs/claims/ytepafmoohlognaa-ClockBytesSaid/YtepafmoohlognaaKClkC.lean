/-
Package clock: Join and Meet, by contracts; what the laws ask of Join, Meet, Within, Same, Apart.
-/
import Derived.Test.YtepafmoohlognaaKClkB
namespace Go.Proofs.Ytepafmoohlognaa
open Go.RowKit

set_option maxRecDepth 20000 in
theorem join_clk (xs ys : List Nat) (v u : Value) (w : World) (h1 : FitC xs) (h2 : FitC ys) (h : RdU w v xs) (hu : RdU w u ys) :
    Calls Try.prog 11 #[v, u] w fun e w' => ∃ r L, e = .returned (.slice (some ⟨w.heap.size, 0, none⟩) r L) ∧ RdU w' (.slice (some ⟨w.heap.size, 0, none⟩) r L) (joinV xs ys) ∧ Below w.heap.size w w' := by
  have HC := Lib.hid (combMax_any xs ys v u h1 h2 w h hu)
  clear h1 h2 h hu
  go_enter Try.func11, Try.ntmps11
  go_wp2_with (go_at_call 27; (with_reducible refine (HC.out).mono ?_); rintro e w1 ⟨r, L, rfl, hr1, hb1⟩; have HR1 := Lib.hid hr1; clear hr1)
  go_ret
  exact ⟨r, L, rfl, HR1.out, hb1⟩

/-- A slice of clocks without its first one. -/
theorem RdC.tail {w : World} {A : Option Addr} {m c : Nat} {x : List Nat} {ls : List (List Nat)} (h : RdC w (.slice A (m + 1) c) (x :: ls)) :
    ∃ AA, (∀ W, (Instr.slice 38 (.slice A (m + 1) c) (some (.int .i64 1)) none none).run Try.prog W = .ok (.slice AA m (c - 1)) W) ∧ RdC w (.slice AA m (c - 1)) ls := by
  obtain ⟨i0, hi, hz0, hz1, hz2⟩ := info_parts info_clock
  have he : Try.prog.elem 38 = 25 := by kernel_rfl
  have hrun : ∀ W, (Instr.slice 38 (.slice A (m + 1) c) (some (.int .i64 ((1 : Nat) : Int))) none none).run Try.prog W = .ok (.slice (if c = 1 then A else A.map (·.add 1)) m (c - 1)) W := fun W => by
    rw [run_slice_l (P := Try.prog) W 38 A (m + 1) c (by rw [he]; exact Try.underlying38) .i64 ((1 : Nat) : Int) (by omega) (by omega), he]
    have hs : (sizeOf 25).run Try.prog W = .ok 1 W := by simp [sizeOf, typeInfo, hi, hz1]
    rw [hs]
    simp [Result.andThen, sliced]
  refine ⟨_, hrun, ?_⟩
  rcases h with ⟨p, c', hv, e, _⟩ | ⟨b, off, cap, hv, hcap, hm, hb, hc⟩
  · cases e
  · simp only [Value.slice.injEq, List.length_cons] at hv
    obtain ⟨rfl, hml, rfl⟩ := hv
    have hml : m = ls.length := by omega
    subst hml
    rw [List.length_cons] at hcap
    by_cases hc1 : c = 1
    · have hl0 : ls.length = 0 := by omega
      have hls : ls = [] := List.eq_nil_of_length_eq_zero hl0
      subst hls
      exact .inl ⟨_, _, rfl, rfl, fun e => by rw [if_pos hc1] at e; cases e⟩
    · rw [if_neg hc1]
      refine .inr ⟨b, off + 1, c - 1, rfl, by omega, by omega, hb, fun j xs hj => ?_⟩
      obtain ⟨u, h1, h2⟩ := hc (j + 1) xs (by simpa using hj)
      exact ⟨u, by rw [show off + 1 + j = off + (j + 1) from by omega]; exact h1, h2⟩

set_option maxRecDepth 20000 in
set_option maxHeartbeats 2000000 in
theorem meet_clk (ls : List (List Nat)) (v : Value) (w : World) (hl : ls.length ≤ 20) (hf : ∀ xs ∈ ls, FitC xs) (h : RdC w v ls) :
    Calls Try.prog 13 #[v] w fun e w' => ∃ v', e = .returned v' ∧ RdU w' v' (meetV ls) ∧ Below w.heap.size w w' := by
  obtain ⟨A, n, c, rfl, hn⟩ := h.named
  rcases ls with _ | ⟨x0, ls⟩
  · obtain rfl : n = 0 := hn
    clear h hl hf
    go_enter Try.func13, Try.ntmps13
    go_wp2
    go_ret
    exact ⟨_, rfl, .inl ⟨none, 0, rfl, rfl, fun _ => rfl⟩, Below.refl _ _⟩
  · rw [List.length_cons] at hn hl
    obtain ⟨m, rfl⟩ : ∃ m, n = m + 1 := ⟨ls.length, hn⟩
    have hm : m = ls.length := by omega
    have HF0 := hf x0 (List.mem_cons_self ..)
    have HFR := Lib.hid (fun xs (h : xs ∈ ls) => hf xs (List.mem_cons_of_mem _ h))
    obtain ⟨b, off, u0, rfl, hu0, hcell⟩ := h.at_ (k := 0) (xs := x0) rfl
    obtain ⟨AA, hq, htl⟩ := h.tail
    have p0 := hcell w (Below.refl _ _)
    rw [Nat.add_zero] at p0
    have t0 : ((m : Int) + 1 == 0) = false := by simp; omega
    obtain ⟨A0, n0, c0, rfl, hn0⟩ := hu0.named
    have hfit := HF0.1
    have HX0 := Lib.hid HF0
    have HU0 := Lib.hid hu0
    have HTL := Lib.hid htl
    have HM := Lib.hid hm
    have HS := Lib.hid (short_clk x0 n0 c0 A0 hn0 (by omega) w hu0)
    have hm20 : m ≤ 20 := by omega
    clear h hl hf hn hm hcell htl hn0 hu0 HF0 hfit
    go_enter Try.func13, Try.ntmps13
    go_wp2_with (go_at_call 30; (with_reducible refine (HS.out).mono ?_); rintro e w1 ⟨r, rfl, hr, hrn, rfl⟩; have HR := Lib.hid (HU0.out.upto r hrn); have HRR := Lib.hid hr; clear hr)
    have hcu : x0.take r = cutF (meetF (padF x0) (ls.take 0)) := by
      rw [List.take_zero, HRR.out]
      show cutF x0 = cutF (padF x0)
      unfold padF
      rw [cut_app]
    have hr2 := HR.out
    rw [hcu] at hr2
    have hcl := clone_clk _ _ w hr2 (by have := cut_len (meetF_len (ls := ls.take 0) (padF_len HX0.out.1) (by simp)); omega)
    have HCL := Lib.hid hcl
    clear hcl hr2 hcu
    go_wp2_with (go_at_call 29; (with_reducible refine (HCL.out).mono ?_); rintro e w2 ⟨v2, rfl, ho2, hb2⟩; have HO2 := Lib.hid ho2.rd; clear ho2)
    go_loopw [3, 17] (fun mv i wr => ∃ (k : Nat), k ≤ m ∧ i = .int .i64 (k : Int) ∧ Hid (RdU wr mv (cutF (meetF (padF x0) (ls.take k))) ∧ Below w.heap.size w wr)) (fun _ i _ => m - (intOf i).toNat)
    case atStart => exact ⟨0, Nat.zero_le _, rfl, Lib.hid ⟨HO2.out, hb2⟩⟩
    case round =>
      obtain ⟨k, hk, rfl, HI⟩ := hrel
      clear p0 hq
      by_cases hkn : k < m
      · obtain ⟨xs, hx⟩ : ∃ xs, ls[k]? = some xs := ⟨_, List.getElem?_eq_getElem (by rw [← HM.out]; exact hkn)⟩
        obtain ⟨b1, off1, u1, rfl, hu1, hcell1⟩ := HTL.out.at_ hx
        have p1 := hcell1 wr HI.out.2
        have hmem : xs ∈ ls := List.mem_of_getElem? hx
        have hF := meetF_len (F := padF x0) (ls := ls.take k) (padF_len HX0.out.1) (fun ys hy => HFR.out ys (List.mem_of_mem_take hy))
        have hG := meetF_fit (F := padF x0) (ls := ls.take k) (pad_fit HX0.out) (fun ys hy => HFR.out ys (List.mem_of_mem_take hy))
        have hc := combMin_any _ xs _ u1 (cut_fit hF hG) (HFR.out xs hmem) wr HI.out.1 (hu1.below HI.out.2)
        rw [pad_cut hF, ← meetF_snoc hx] at hc
        have HC := Lib.hid hc
        clear hx hcell1 hmem hF hG hc hu1
        go_wp2_with (go_at_call 27; (with_reducible refine (HC.out).mono ?_); rintro e w3 ⟨r3, L3, rfl, hr3, hb3⟩; have HR3 := Lib.hid hr3; clear hr3)
        go_roundw
        case rel => exact ⟨k + 1, by omega, by go_num, Lib.hid ⟨HR3.out, HI.out.2.trans (hb3.mono HI.out.2.size)⟩⟩
        case measure => simp [intOf]; omega
      · obtain rfl : k = m := by omega
        have he : meetV (x0 :: ls) = cutF (meetF (padF x0) (ls.take k)) := by
          rw [List.take_of_length_le (by rw [← HM.out]; exact Nat.le_refl _)]; rfl
        have HE := Lib.hid he
        clear hkn he
        go_wp2
        go_ret
        exact ⟨_, rfl, by rw [HE.out]; exact HI.out.1, HI.out.2⟩

/-- What the laws ask of Join, Meet, Within, Same, Apart: here of any world. -/
theorem clock_ok (E : World → Prop) (keep : ∀ {w w' : World}, E w → Below w.heap.size w w' → E w') : ClockOk E where
  keep := keep
  joinA xs ys v u w _ h1 h2 h hu := (join_clk xs ys v u w h1 h2 h hu).mono (fun e w' ⟨r, L, h3, h4, h5⟩ => ⟨_, h3, h4, h5, .inr fun k hk => .inr (.inr (Nat.le_of_eq (Option.some.inj hk)))⟩)
  meet ls v w _ hl hf h := meet_clk ls v w hl hf h
  within xs ys v u w _ h1 h2 h hu := (within_any xs ys v u w h1 h2 h hu).mono (fun e w' ⟨h3, h4⟩ => ⟨h3, h4 ▸ Below.refl _ _⟩)
  same xs ys v u w _ h1 h2 h hu := (same_clk xs ys v u w h1 h2 h hu).mono (fun e w' ⟨h3, h4⟩ => ⟨h3, h4 ▸ Below.refl _ _⟩)
  apart xs ys v u w _ h1 h2 h hu := (apart_clk xs ys v u w h1 h2 h hu).mono (fun e w' ⟨h3, h4⟩ => ⟨h3, h4 ▸ Below.refl _ _⟩)
end Go.Proofs.Ytepafmoohlognaa
