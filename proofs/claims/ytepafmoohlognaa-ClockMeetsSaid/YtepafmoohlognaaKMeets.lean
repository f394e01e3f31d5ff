/-
The law ClockMeets, over contracts of package clock.
-/
import Derived.Test.YtepafmoohlognaaKMSt
import Derived.Test.YtepafmoohlognaaKOrders
namespace Go.Proofs.Ytepafmoohlognaa
open Go.RowKit

theorem step_loadF {ops : Array Oper} {o : Oper} {a : Act} {K : Act → World → Prop} {Q : Exit → Act → World → Prop} {E : Prop} {w : World} (hgd : o.guard = none) (x : Operand) (ho : o.op = .load 28 x)
    (g : Nat) (hx : a.eval x = .pointer (some ⟨g, 0, none⟩)) (F : List Nat) (hr : Row w g F) (h : K (a.put o.dst (.agg (fullA F))) w) :
    if Region.wanted o (yielded ops a.tmps) = true then Oper.wp Try.prog o a w K Q else E := by
  have hw : Region.wanted o (yielded ops a.tmps) = true := by simp [Region.wanted, hgd]
  rw [if_pos hw]
  have hl := run_loadAt_mid (P := Try.prog) w g 0 28 (F.map nu) _ hr.range Try.underlying28 rfl (by rw [info_full]; simp [hr.2])
  unfold Oper.wp execOp
  simp only [ho, hx]
  rw [Sem.run_bind, hl]
  exact h

set_option maxRecDepth 20000 in
set_option maxHeartbeats 8000000 in
theorem meets_fit {E : World → Prop} (K : ClockOk E) (ls : List (List Nat)) (cs : List Nat) (n cap n0 c0 : Nat) (A A0 : Option Addr) (hn : n = ls.length) (hn20 : n ≤ 20) (hn0 : n0 = cs.length) (hc : FitC cs) (hb : ∀ xs ∈ ls, ∀ x ∈ xs, x < 18446744073709551616) (w : World) (hE : E w) (hr : RdC w (.slice A n cap) ls) (hrc : RdU w (.slice A0 n0 c0) cs) :
    Calls Try.prog 4 #[.slice A n cap, .slice A0 n0 c0] w fun e w' => e = .returned (.bool true) ∧ Below w.heap.size w w' := by
  have hn064 : n0 ≤ 64 := by rw [hn0]; exact hc.1
  have HE0 := Lib.hid hE
  have HKEEP := Lib.hid (fun w w' (h : E w) hb => K.keep (w' := w') h hb)
  have HAW := Lib.hid (fun W h => awake_any K W h)
  have HR := Lib.hid hr
  have HC := Lib.hid hrc
  have HN := Lib.hid hn
  have HB := Lib.hid hb
  have HFC := Lib.hid hc
  have HK := Lib.hid K
  have hsh := short_form n0 c0 A0 (by omega) w
  rw [decide_eq_true hn064] at hsh
  have HSH0 := Lib.hid hsh
  have HRW0 := Lib.hid (row_zero w)
  clear hE hr hrc hn hb hc hsh K hn0 hn064
  go_enter Try.func4, Try.ntmps4
  go_wp2_with (first
    | (refine wp_storeF rfl _ _ rfl w.heap.size rfl zeroF zeroF rfl HRW0.out rfl ?_; intro wz hrz hoz hbz; have HRZ := Lib.hid hrz; have HBZ := Lib.hid ((below_alloc w _).trans (hbz _ (Nat.le_refl _))); clear hrz hoz hbz)
    | (go_at_call 6; (with_reducible refine HSH0.out.mono ?_); rintro e w1 ⟨rfl, rfl⟩))
  generalize Value.agg #[.int .u64 0, .int .u64 0, .int .u64 0, .int .u64 0, .int .u64 0, .int .u64 0, .int .u64 0, .int .u64 0, .int .u64 0, .int .u64 0, .int .u64 0, .int .u64 0, .int .u64 0, .int .u64 0, .int .u64 0, .int .u64 0, .int .u64 0, .int .u64 0, .int .u64 0, .int .u64 0, .int .u64 0, .int .u64 0, .int .u64 0, .int .u64 0, .int .u64 0, .int .u64 0, .int .u64 0, .int .u64 0, .int .u64 0, .int .u64 0, .int .u64 0, .int .u64 0, .int .u64 0, .int .u64 0, .int .u64 0, .int .u64 0, .int .u64 0, .int .u64 0, .int .u64 0, .int .u64 0, .int .u64 0, .int .u64 0, .int .u64 0, .int .u64 0, .int .u64 0, .int .u64 0, .int .u64 0, .int .u64 0, .int .u64 0, .int .u64 0, .int .u64 0, .int .u64 0, .int .u64 0, .int .u64 0, .int .u64 0, .int .u64 0, .int .u64 0, .int .u64 0, .int .u64 0, .int .u64 0, .int .u64 0, .int .u64 0, .int .u64 0, .int .u64 0] = zz
  go_loopw [5, 7, 8, 9, 10] (fun v pv qv jn iv wr => ∃ (k : Nat) (us : List Value) (p q : Bool), k ≤ n ∧ iv = .int .i64 (k : Int) ∧ pv = .bool p ∧ qv = .bool q ∧ Hid (St w wr v jn us (fAt ls k) (jnAt ls k)) ∧ Hid (p = inAt cs ls k ∧ q = arAt cs ls k) ∧ Hid (us.length = k ∧ (∀ (j : Nat) (u : Value) (xs : List Nat), us[j]? = some u → ls[j]? = some xs → RdU w u xs) ∧ ∀ xs ∈ ls.take k, FitC xs)) (fun _ _ _ _ iv _ => n - (intOf iv).toNat)
  case atStart =>
    refine ⟨0, [], true, true, Nat.zero_le _, rfl, rfl, rfl, Lib.hid ⟨OwnV.nil _ _, HRZ.out.below (below_alloc _ _), .inl ⟨_, _, rfl, rfl, fun e => by cases e⟩, .inl rfl, HBZ.out.trans ((below_alloc _ _).mono HBZ.out.size)⟩, Lib.hid ⟨rfl, rfl⟩, Lib.hid ⟨rfl, ?_, ?_⟩⟩
    · intro j u xs h; simp at h
    · intro xs h; simp at h
  case round =>
    obtain ⟨k, us, p, q, hk, rfl, rfl, rfl, HS, HPQ, HUS⟩ := hrel
    by_cases hkn : k < n
    · obtain ⟨xs, hxs⟩ : ∃ xs, ls[k]? = some xs := ⟨_, List.getElem?_eq_getElem (by rw [← HN.out]; exact hkn)⟩
      obtain ⟨b, off, u, rfl, hu, hcell⟩ := HR.out.at_ hxs
      obtain ⟨A1, n1, c1, rfl, hn1⟩ := hu.named
      have hn1m : n1 ≤ 9223372036854775807 := by
        have := hu.len
        unfold maxLen at this
        omega
      have HXS := Lib.hid hxs
      have HCELL := Lib.hid hcell
      have HU := Lib.hid hu
      have HN1 := Lib.hid hn1
      have hsh := fun W => short_form n1 c1 A1 hn1m W
      have p0 := hcell wr HS.out.bel
      clear hxs hcell hu hn1 hn1m
      by_cases hn64 : n1 ≤ 64
      · rw [decide_eq_true hn64] at hsh
        have HSH := Lib.hid (hsh wr)
        have HF : Hid (FitC xs) := Lib.hid ⟨by rw [← HN1.out]; exact hn64, HB.out xs (List.mem_of_getElem? HXS.out)⟩
        have HPX := Lib.hid (padF_len HF.out.1)
        have HSA := Lib.hid (HS.out.below (below_alloc wr (.cells #[.slice A1 n1 c1] 25)))
        have HCC : Hid ((wr.alloc (.cells #[.slice A1 n1 c1] 25)).cell? ⟨wr.heap.size, 0, none⟩ = some (.slice A1 n1 c1)) := Lib.hid (by rw [cell_of_row _ _ 0 _ _ _ (heap_new rfl)]; rfl)
        have HUL : Hid (us.length ≤ 1000000) := Lib.hid (by have := HUS.out.1; omega)
        have HBA : Hid (w.heap.size + 1 ≤ (wr.alloc (.cells #[.slice A1 n1 c1] 25)).heap.size) := Lib.hid (by have := HSA.out.row.lt; omega)
        have HFT : Hid (∀ zs ∈ ls.take (k + 1), FitC zs) := Lib.hid (by
          intro zs hz
          rw [List.take_add_one, HXS.out] at hz
          rcases List.mem_append.1 hz with hz | hz
          · exact HUS.out.2.2 zs hz
          · obtain rfl : zs = xs := by simpa using hz
            exact HF.out)
        have HUS2 : Hid ((us ++ [Value.slice A1 n1 c1]).length = k + 1 ∧ (∀ (j : Nat) (u : Value) (xs : List Nat), (us ++ [Value.slice A1 n1 c1])[j]? = some u → ls[j]? = some xs → RdU w u xs) ∧ ∀ xs ∈ ls.take (k + 1), FitC xs) := Lib.hid (by
          refine ⟨by rw [List.length_append, HUS.out.1]; rfl, ?_, HFT.out⟩
          intro j u zs h1 h2
          rcases Nat.lt_or_ge j us.length with h | h
          · rw [List.getElem?_append_left h] at h1
            exact HUS.out.2.1 j u zs h1 h2
          · rw [List.getElem?_append_right h] at h1
            obtain ⟨e1, e2⟩ : j - us.length = 0 ∧ Value.slice A1 n1 c1 = u := by
              rcases hj : j - us.length with _ | m
              · rw [hj] at h1
                exact ⟨rfl, by simpa using h1⟩
              · rw [hj] at h1
                simp at h1
            obtain rfl : j = k := by have := HUS.out.1; omega
            rw [HXS.out] at h2
            obtain rfl := Option.some.inj h2
            rw [← e2]
            exact HU.out)
        have HJF := Lib.hid (jn_fit fit_nil HUS.out.2.2 : FitC (jnAt ls k))
        have HWI := Lib.hid (fun W h a b => HK.out.within cs xs (.slice A0 n0 c0) (.slice A1 n1 c1) W h HFC.out HF.out a b)
        have HWA := Lib.hid (fun W h a b => HK.out.within xs cs (.slice A1 n1 c1) (.slice A0 n0 c0) W h HF.out HFC.out a b)
        have hjo := fun v W h a b => HK.out.joinA (jnAt ls k) xs v (.slice A1 n1 c1) W h HJF.out HF.out a b
        rw [← jnAt_snoc HXS.out] at hjo
        have HJOIN := Lib.hid hjo
        have HNK : Hid (k + 1 ≤ n) := Lib.hid hkn
        clear hsh hjo
        by_cases hk0 : k = 0
        · have t0 : ((k : Int) == 0) = true := by simp; omega
          have HOF := Lib.hid (fun W h => rof_form xs n1 c1 A1 HN1.out hn64 W h)
          have HFX := Lib.hid (show List.zipWith min (padF xs) (padF xs) = fAt ls (k + 1) by have e := hk0; subst e; exact fAt_one HXS.out)
          have HCELL0 : Hid (∀ w', Below w.heap.size w w' → w'.cell? ⟨b, off, none⟩ = some (.slice A1 n1 c1)) := Lib.hid (by have e := hk0; subst e; exact HCELL.out)
          have hn0 : 0 < n := by omega
          clear hk0
          go_wp2_with (first
            | (at_builtin; refine wp_appV 38 Try.underlying38 rfl _ _ rfl (w.heap.size + 1) u5 us rfl (HSA.out.own) wr.heap.size 0 1 A1 n1 c1 rfl HCC.out (by decide) (by decide) HUL.out HBA.out ?_; intro v2 w2 ho2 hb2 hg2 hv2; have HS2 := Lib.hid (HSA.out.app ho2 hg2 hv2); have p1 := HCELL0.out w2 HS2.out.bel; clear ho2 hb2 hg2 hv2)
            | (go_at_call 6; (with_reducible refine HSH.out.mono ?_); rintro e w9 ⟨rfl, rfl⟩)
            | (go_at_call 8; (with_reducible refine (HOF.out _ (HU.out.below HS2.out.bel)).mono ?_); rintro e w3 ⟨rfl, hb3⟩; have HS3 := Lib.hid (HS2.out.below hb3))
            | (refine wp_storeF rfl _ _ rfl w.heap.size rfl _ (padF xs) rfl HS3.out.row HPX.out ?_; intro w4 hr4 ho4 hb4; have HS4 := Lib.hid (HS3.out.store hr4 ho4 hb4); clear hr4 ho4 hb4))
          obtain ⟨F3, hf3⟩ : ∃ F3, F3 = padF xs := ⟨_, rfl⟩
          have hs4 := HS4.out
          have hfx := HFX.out
          have hl3 := HPX.out
          rw [← hf3] at hs4 hl3
          rw [show List.zipWith min (padF xs) (padF xs) = List.zipWith min F3 (padF xs) by rw [hf3]] at hfx
          have HSF := Lib.hid hs4
          have HFX3 := Lib.hid hfx
          have HF3 := Lib.hid hl3
          clear hs4 hfx hl3 hf3 HS4
          refine wp_region_noPanic ?_
          refine wp_region_held_drew (S := fun w9 => Below w.heap.size w w9) (by kernel_rfl) (Below.drew HSF.out.bel) (fun HS0 => ?_)
          have HSD := Lib.hid (HSF.out.below (Below.drew (Below.refl _ w4)))
          refine wpAnyH_take (i := 1) (v := ?_) rfl (by kernel_rfl) (by kernel_rfl) (by kernel_rfl) (fun _ _ _ h => h) (Or.inl ⟨by rfl, ?_⟩) HS0 ?_
          rotate_left
          · intro w hE; go_simp; try with_reducible rfl
          simp only [List.getElem_toArray, List.getElem_cons_succ, List.getElem_cons_zero, Act.put, List.setIfInBounds_toArray, List.set_cons_zero, List.set_cons_succ]
          refine wpAnyH_take (i := 2) (v := ?_) rfl (by kernel_rfl) (by kernel_rfl) (by kernel_rfl) (fun _ _ _ h => h) (Or.inl ⟨by rfl, ?_⟩) HS0 ?_
          rotate_left
          · intro w hE; go_simp; try with_reducible rfl
          simp only [List.getElem_toArray, List.getElem_cons_succ, List.getElem_cons_zero, Act.put, List.setIfInBounds_toArray, List.set_cons_zero, List.set_cons_succ]
          refine wpAnyH_take (i := 3) (v := ?_) rfl (by kernel_rfl) (by kernel_rfl) (by kernel_rfl) (fun _ _ _ h => h) (Or.inl ⟨by rfl, ?_⟩) HS0 ?_
          rotate_left
          · intro w hE; go_simp; try with_reducible rfl
          simp only [List.getElem_toArray, List.getElem_cons_succ, List.getElem_cons_zero, Act.put, List.setIfInBounds_toArray, List.set_cons_zero, List.set_cons_succ]
          refine wpAnyH_take (i := 4) (v := ?_) rfl (by kernel_rfl) (by kernel_rfl) (by kernel_rfl) (fun _ _ _ h => h) (Or.inl ⟨by rfl, ?_⟩) HS0 ?_
          rotate_left
          · intro w hE; have p9 := HCELL.out _ hE; go_simp; try with_reducible rfl
          simp only [List.getElem_toArray, List.getElem_cons_succ, List.getElem_cons_zero, Act.put, List.setIfInBounds_toArray, List.set_cons_zero, List.set_cons_succ]
          refine wpAnyH_ready (rs := [0, 5]) (by kernel_rfl) (by simp) ?_
          refine AllReadyH.cons rfl (fun K hK => ?_) (AllReadyH.cons rfl (fun K hK => ?_) AllReadyH.nil)
          · refine step_loadF rfl _ rfl w.heap.size rfl _ HSD.out.row ?_
            refine hK.out _ _ HSD.out.bel (fun HG1 => ?_)
            clear hK
            try simp only [List.getElem_toArray, List.getElem_cons_succ, List.getElem_cons_zero, Act.put, List.setIfInBounds_toArray, List.set_cons_zero, List.set_cons_succ]
            refine wpAnyH_ready (rs := [5]) (by kernel_rfl) (by simp) ?_
            refine AllReadyH.cons rfl (fun K hK => ?_) AllReadyH.nil
            go_simp
            go_at_call 8
            refine (rof_form xs n1 c1 A1 HN1.out hn64 _ (HU.out.below HSD.out.bel)).mono ?_
            rintro e wo ⟨rfl, hbwo⟩
            have HSE := Lib.hid (HSD.out.below hbwo)
            go_simp
            refine hK.out _ _ HSE.out.bel (fun HG2 => ?_)
            clear hK
            try simp only [List.getElem_toArray, List.getElem_cons_succ, List.getElem_cons_zero, Act.put, List.setIfInBounds_toArray, List.set_cons_zero, List.set_cons_succ]
            refine wpAnyH_ready (rs := [6]) (by kernel_rfl) (by simp) ?_
            refine AllReadyH.cons rfl (fun K hK => ?_) AllReadyH.nil
            go_simp
            go_at_call 14
            refine (rmeet_form _ _ HF3.out HPX.out _).mono ?_
            rintro e wn ⟨rfl, hbwn⟩
            have HSN := Lib.hid (HSE.out.below hbwn)
            go_simp
            refine hK.out _ _ HSN.out.bel (fun HG3 => ?_)
            clear hK
            try simp only [List.getElem_toArray, List.getElem_cons_succ, List.getElem_cons_zero, Act.put, List.setIfInBounds_toArray, List.set_cons_zero, List.set_cons_succ]
            refine wpAnyH_ready (rs := [7]) (by kernel_rfl) (by simp) ?_
            refine AllReadyH.cons rfl (fun K hK => ?_) AllReadyH.nil
            refine step_storeF rfl _ _ rfl w.heap.size rfl _ (List.zipWith min (F3) (padF xs)) rfl HSN.out.row (zip_len HF3.out HPX.out) ?_
            intro wst hrs hos hbs
            have HST0 := Lib.hid (HSN.out.store hrs hos hbs)
            refine hK.out _ _ HST0.out.bel (fun HG4 => ?_)
            clear hK
            try simp only [List.getElem_toArray, List.getElem_cons_succ, List.getElem_cons_zero, Act.put, List.setIfInBounds_toArray, List.set_cons_zero, List.set_cons_succ]
            refine wpAnyH_done (by kernel_rfl) ?_ _
            refine NoPanic.normal ?_
            have hst := HST0.out
            rw [HFX3.out] at hst
            have HST := Lib.hid hst
            clear hst hrs hos hbs HST0 HG1 HG2 HG3 HG4 HSN
            cases p
            · cases q
              · go_wp2_with fail
                refine (HJOIN.out _ _ (HKEEP.out _ _ HE0.out HST.out.bel) HST.out.jrd (HU.out.below HST.out.bel)).mono ?_
                rintro e w7 ⟨j7, rfl, hr7, hb7, hc7⟩
                have HS7 := Lib.hid (HST.out.join HU.out hr7 hb7 hc7)
                clear hr7 hb7 hc7
                go_wp2
                go_roundw
                case rel => exact ⟨k + 1, (us ++ [Value.slice A1 n1 c1]), _, _, by omega, by go_num, rfl, rfl, Lib.hid HS7.out, Lib.hid ⟨by rw [inAt_snoc HXS.out, ← HPQ.out.1]; rfl, by rw [arAt_snoc HXS.out, ← HPQ.out.2]; rfl⟩, HUS2⟩
                case measure => simp [intOf]; omega
              · go_wp2_with fail
                refine (HWA.out _ (HKEEP.out _ _ HE0.out HST.out.bel) (HU.out.below HST.out.bel) (HC.out.below HST.out.bel)).mono ?_
                rintro e w6 ⟨rfl, hb6⟩
                have HS6 := Lib.hid (HST.out.below hb6)
                go_wp2_with fail
                refine (HJOIN.out _ _ (HKEEP.out _ _ HE0.out HS6.out.bel) HS6.out.jrd (HU.out.below HS6.out.bel)).mono ?_
                rintro e w7 ⟨j7, rfl, hr7, hb7, hc7⟩
                have HS7 := Lib.hid (HS6.out.join HU.out hr7 hb7 hc7)
                clear hr7 hb7 hc7
                go_wp2
                go_roundw
                case rel => exact ⟨k + 1, (us ++ [Value.slice A1 n1 c1]), _, _, by omega, by go_num, rfl, rfl, Lib.hid HS7.out, Lib.hid ⟨by rw [inAt_snoc HXS.out, ← HPQ.out.1]; rfl, by rw [arAt_snoc HXS.out, ← HPQ.out.2]; rfl⟩, HUS2⟩
                case measure => simp [intOf]; omega
            · cases q
              · go_wp2_with fail
                refine (HWI.out _ (HKEEP.out _ _ HE0.out HST.out.bel) (HC.out.below HST.out.bel) (HU.out.below HST.out.bel)).mono ?_
                rintro e w5 ⟨rfl, hb5⟩
                have HS5 := Lib.hid (HST.out.below hb5)
                go_wp2_with fail
                refine (HJOIN.out _ _ (HKEEP.out _ _ HE0.out HS5.out.bel) HS5.out.jrd (HU.out.below HS5.out.bel)).mono ?_
                rintro e w7 ⟨j7, rfl, hr7, hb7, hc7⟩
                have HS7 := Lib.hid (HS5.out.join HU.out hr7 hb7 hc7)
                clear hr7 hb7 hc7
                go_wp2
                go_roundw
                case rel => exact ⟨k + 1, (us ++ [Value.slice A1 n1 c1]), _, _, by omega, by go_num, rfl, rfl, Lib.hid HS7.out, Lib.hid ⟨by rw [inAt_snoc HXS.out, ← HPQ.out.1]; rfl, by rw [arAt_snoc HXS.out, ← HPQ.out.2]; rfl⟩, HUS2⟩
                case measure => simp [intOf]; omega
              · go_wp2_with fail
                refine (HWI.out _ (HKEEP.out _ _ HE0.out HST.out.bel) (HC.out.below HST.out.bel) (HU.out.below HST.out.bel)).mono ?_
                rintro e w5 ⟨rfl, hb5⟩
                have HS5 := Lib.hid (HST.out.below hb5)
                go_wp2_with fail
                refine (HWA.out _ (HKEEP.out _ _ HE0.out HS5.out.bel) (HU.out.below HS5.out.bel) (HC.out.below HS5.out.bel)).mono ?_
                rintro e w6 ⟨rfl, hb6⟩
                have HS6 := Lib.hid (HS5.out.below hb6)
                go_wp2_with fail
                refine (HJOIN.out _ _ (HKEEP.out _ _ HE0.out HS6.out.bel) HS6.out.jrd (HU.out.below HS6.out.bel)).mono ?_
                rintro e w7 ⟨j7, rfl, hr7, hb7, hc7⟩
                have HS7 := Lib.hid (HS6.out.join HU.out hr7 hb7 hc7)
                clear hr7 hb7 hc7
                go_wp2
                go_roundw
                case rel => exact ⟨k + 1, (us ++ [Value.slice A1 n1 c1]), _, _, by omega, by go_num, rfl, rfl, Lib.hid HS7.out, Lib.hid ⟨by rw [inAt_snoc HXS.out, ← HPQ.out.1]; rfl, by rw [arAt_snoc HXS.out, ← HPQ.out.2]; rfl⟩, HUS2⟩
                case measure => simp [intOf]; omega
          · go_simp
            go_at_call 8
            refine (rof_form xs n1 c1 A1 HN1.out hn64 _ (HU.out.below HSD.out.bel)).mono ?_
            rintro e wo ⟨rfl, hbwo⟩
            have HSE := Lib.hid (HSD.out.below hbwo)
            go_simp
            refine hK.out _ _ HSE.out.bel (fun HG1 => ?_)
            clear hK
            try simp only [List.getElem_toArray, List.getElem_cons_succ, List.getElem_cons_zero, Act.put, List.setIfInBounds_toArray, List.set_cons_zero, List.set_cons_succ]
            refine wpAnyH_ready (rs := [0]) (by kernel_rfl) (by simp) ?_
            refine AllReadyH.cons rfl (fun K hK => ?_) AllReadyH.nil
            refine step_loadF rfl _ rfl w.heap.size rfl _ HSE.out.row ?_
            refine hK.out _ _ HSE.out.bel (fun HG2 => ?_)
            clear hK
            try simp only [List.getElem_toArray, List.getElem_cons_succ, List.getElem_cons_zero, Act.put, List.setIfInBounds_toArray, List.set_cons_zero, List.set_cons_succ]
            refine wpAnyH_ready (rs := [6]) (by kernel_rfl) (by simp) ?_
            refine AllReadyH.cons rfl (fun K hK => ?_) AllReadyH.nil
            go_simp
            go_at_call 14
            refine (rmeet_form _ _ HF3.out HPX.out _).mono ?_
            rintro e wn ⟨rfl, hbwn⟩
            have HSN := Lib.hid (HSE.out.below hbwn)
            go_simp
            refine hK.out _ _ HSN.out.bel (fun HG3 => ?_)
            clear hK
            try simp only [List.getElem_toArray, List.getElem_cons_succ, List.getElem_cons_zero, Act.put, List.setIfInBounds_toArray, List.set_cons_zero, List.set_cons_succ]
            refine wpAnyH_ready (rs := [7]) (by kernel_rfl) (by simp) ?_
            refine AllReadyH.cons rfl (fun K hK => ?_) AllReadyH.nil
            refine step_storeF rfl _ _ rfl w.heap.size rfl _ (List.zipWith min (F3) (padF xs)) rfl HSN.out.row (zip_len HF3.out HPX.out) ?_
            intro wst hrs hos hbs
            have HST0 := Lib.hid (HSN.out.store hrs hos hbs)
            refine hK.out _ _ HST0.out.bel (fun HG4 => ?_)
            clear hK
            try simp only [List.getElem_toArray, List.getElem_cons_succ, List.getElem_cons_zero, Act.put, List.setIfInBounds_toArray, List.set_cons_zero, List.set_cons_succ]
            refine wpAnyH_done (by kernel_rfl) ?_ _
            refine NoPanic.normal ?_
            have hst := HST0.out
            rw [HFX3.out] at hst
            have HST := Lib.hid hst
            clear hst hrs hos hbs HST0 HG1 HG2 HG3 HG4 HSN
            cases p
            · cases q
              · go_wp2_with fail
                refine (HJOIN.out _ _ (HKEEP.out _ _ HE0.out HST.out.bel) HST.out.jrd (HU.out.below HST.out.bel)).mono ?_
                rintro e w7 ⟨j7, rfl, hr7, hb7, hc7⟩
                have HS7 := Lib.hid (HST.out.join HU.out hr7 hb7 hc7)
                clear hr7 hb7 hc7
                go_wp2
                go_roundw
                case rel => exact ⟨k + 1, (us ++ [Value.slice A1 n1 c1]), _, _, by omega, by go_num, rfl, rfl, Lib.hid HS7.out, Lib.hid ⟨by rw [inAt_snoc HXS.out, ← HPQ.out.1]; rfl, by rw [arAt_snoc HXS.out, ← HPQ.out.2]; rfl⟩, HUS2⟩
                case measure => simp [intOf]; omega
              · go_wp2_with fail
                refine (HWA.out _ (HKEEP.out _ _ HE0.out HST.out.bel) (HU.out.below HST.out.bel) (HC.out.below HST.out.bel)).mono ?_
                rintro e w6 ⟨rfl, hb6⟩
                have HS6 := Lib.hid (HST.out.below hb6)
                go_wp2_with fail
                refine (HJOIN.out _ _ (HKEEP.out _ _ HE0.out HS6.out.bel) HS6.out.jrd (HU.out.below HS6.out.bel)).mono ?_
                rintro e w7 ⟨j7, rfl, hr7, hb7, hc7⟩
                have HS7 := Lib.hid (HS6.out.join HU.out hr7 hb7 hc7)
                clear hr7 hb7 hc7
                go_wp2
                go_roundw
                case rel => exact ⟨k + 1, (us ++ [Value.slice A1 n1 c1]), _, _, by omega, by go_num, rfl, rfl, Lib.hid HS7.out, Lib.hid ⟨by rw [inAt_snoc HXS.out, ← HPQ.out.1]; rfl, by rw [arAt_snoc HXS.out, ← HPQ.out.2]; rfl⟩, HUS2⟩
                case measure => simp [intOf]; omega
            · cases q
              · go_wp2_with fail
                refine (HWI.out _ (HKEEP.out _ _ HE0.out HST.out.bel) (HC.out.below HST.out.bel) (HU.out.below HST.out.bel)).mono ?_
                rintro e w5 ⟨rfl, hb5⟩
                have HS5 := Lib.hid (HST.out.below hb5)
                go_wp2_with fail
                refine (HJOIN.out _ _ (HKEEP.out _ _ HE0.out HS5.out.bel) HS5.out.jrd (HU.out.below HS5.out.bel)).mono ?_
                rintro e w7 ⟨j7, rfl, hr7, hb7, hc7⟩
                have HS7 := Lib.hid (HS5.out.join HU.out hr7 hb7 hc7)
                clear hr7 hb7 hc7
                go_wp2
                go_roundw
                case rel => exact ⟨k + 1, (us ++ [Value.slice A1 n1 c1]), _, _, by omega, by go_num, rfl, rfl, Lib.hid HS7.out, Lib.hid ⟨by rw [inAt_snoc HXS.out, ← HPQ.out.1]; rfl, by rw [arAt_snoc HXS.out, ← HPQ.out.2]; rfl⟩, HUS2⟩
                case measure => simp [intOf]; omega
              · go_wp2_with fail
                refine (HWI.out _ (HKEEP.out _ _ HE0.out HST.out.bel) (HC.out.below HST.out.bel) (HU.out.below HST.out.bel)).mono ?_
                rintro e w5 ⟨rfl, hb5⟩
                have HS5 := Lib.hid (HST.out.below hb5)
                go_wp2_with fail
                refine (HWA.out _ (HKEEP.out _ _ HE0.out HS5.out.bel) (HU.out.below HS5.out.bel) (HC.out.below HS5.out.bel)).mono ?_
                rintro e w6 ⟨rfl, hb6⟩
                have HS6 := Lib.hid (HS5.out.below hb6)
                go_wp2_with fail
                refine (HJOIN.out _ _ (HKEEP.out _ _ HE0.out HS6.out.bel) HS6.out.jrd (HU.out.below HS6.out.bel)).mono ?_
                rintro e w7 ⟨j7, rfl, hr7, hb7, hc7⟩
                have HS7 := Lib.hid (HS6.out.join HU.out hr7 hb7 hc7)
                clear hr7 hb7 hc7
                go_wp2
                go_roundw
                case rel => exact ⟨k + 1, (us ++ [Value.slice A1 n1 c1]), _, _, by omega, by go_num, rfl, rfl, Lib.hid HS7.out, Lib.hid ⟨by rw [inAt_snoc HXS.out, ← HPQ.out.1]; rfl, by rw [arAt_snoc HXS.out, ← HPQ.out.2]; rfl⟩, HUS2⟩
                case measure => simp [intOf]; omega
        · have t0 : ((k : Int) == 0) = false := by simp; omega
          have HFX := Lib.hid (fAt_snoc hk0 HXS.out)
          clear hk0
          go_wp2_with (first
            | (at_builtin; refine wp_appV 38 Try.underlying38 rfl _ _ rfl (w.heap.size + 1) u5 us rfl (HSA.out.own) wr.heap.size 0 1 A1 n1 c1 rfl HCC.out (by decide) (by decide) HUL.out HBA.out ?_; intro v2 w2 ho2 hb2 hg2 hv2; have HS2 := Lib.hid (HSA.out.app ho2 hg2 hv2); have p1 := HCELL.out w2 HS2.out.bel; clear ho2 hb2 hg2 hv2)
            | (go_at_call 6; (with_reducible refine HSH.out.mono ?_); rintro e w9 ⟨rfl, rfl⟩))
          have HF3 := Lib.hid HS2.out.row.2
          refine wp_region_noPanic ?_
          refine wp_region_held_drew (S := fun w9 => Below w.heap.size w w9) (by kernel_rfl) (Below.drew HS2.out.bel) (fun HS0 => ?_)
          have HSD := Lib.hid (HS2.out.below (Below.drew (Below.refl _ w2)))
          refine wpAnyH_take (i := 1) (v := ?_) rfl (by kernel_rfl) (by kernel_rfl) (by kernel_rfl) (fun _ _ _ h => h) (Or.inl ⟨by rfl, ?_⟩) HS0 ?_
          rotate_left
          · intro w hE; go_simp; try with_reducible rfl
          simp only [List.getElem_toArray, List.getElem_cons_succ, List.getElem_cons_zero, Act.put, List.setIfInBounds_toArray, List.set_cons_zero, List.set_cons_succ]
          refine wpAnyH_take (i := 2) (v := ?_) rfl (by kernel_rfl) (by kernel_rfl) (by kernel_rfl) (fun _ _ _ h => h) (Or.inl ⟨by rfl, ?_⟩) HS0 ?_
          rotate_left
          · intro w hE; go_simp; try with_reducible rfl
          simp only [List.getElem_toArray, List.getElem_cons_succ, List.getElem_cons_zero, Act.put, List.setIfInBounds_toArray, List.set_cons_zero, List.set_cons_succ]
          refine wpAnyH_take (i := 3) (v := ?_) rfl (by kernel_rfl) (by kernel_rfl) (by kernel_rfl) (fun _ _ _ h => h) (Or.inl ⟨by rfl, ?_⟩) HS0 ?_
          rotate_left
          · intro w hE; go_simp; try with_reducible rfl
          simp only [List.getElem_toArray, List.getElem_cons_succ, List.getElem_cons_zero, Act.put, List.setIfInBounds_toArray, List.set_cons_zero, List.set_cons_succ]
          refine wpAnyH_take (i := 4) (v := ?_) rfl (by kernel_rfl) (by kernel_rfl) (by kernel_rfl) (fun _ _ _ h => h) (Or.inl ⟨by rfl, ?_⟩) HS0 ?_
          rotate_left
          · intro w hE; have p9 := HCELL.out _ hE; go_simp; try with_reducible rfl
          simp only [List.getElem_toArray, List.getElem_cons_succ, List.getElem_cons_zero, Act.put, List.setIfInBounds_toArray, List.set_cons_zero, List.set_cons_succ]
          refine wpAnyH_ready (rs := [0, 5]) (by kernel_rfl) (by simp) ?_
          refine AllReadyH.cons rfl (fun K hK => ?_) (AllReadyH.cons rfl (fun K hK => ?_) AllReadyH.nil)
          · refine step_loadF rfl _ rfl w.heap.size rfl _ HSD.out.row ?_
            refine hK.out _ _ HSD.out.bel (fun HG1 => ?_)
            clear hK
            try simp only [List.getElem_toArray, List.getElem_cons_succ, List.getElem_cons_zero, Act.put, List.setIfInBounds_toArray, List.set_cons_zero, List.set_cons_succ]
            refine wpAnyH_ready (rs := [5]) (by kernel_rfl) (by simp) ?_
            refine AllReadyH.cons rfl (fun K hK => ?_) AllReadyH.nil
            go_simp
            go_at_call 8
            refine (rof_form xs n1 c1 A1 HN1.out hn64 _ (HU.out.below HSD.out.bel)).mono ?_
            rintro e wo ⟨rfl, hbwo⟩
            have HSE := Lib.hid (HSD.out.below hbwo)
            go_simp
            refine hK.out _ _ HSE.out.bel (fun HG2 => ?_)
            clear hK
            try simp only [List.getElem_toArray, List.getElem_cons_succ, List.getElem_cons_zero, Act.put, List.setIfInBounds_toArray, List.set_cons_zero, List.set_cons_succ]
            refine wpAnyH_ready (rs := [6]) (by kernel_rfl) (by simp) ?_
            refine AllReadyH.cons rfl (fun K hK => ?_) AllReadyH.nil
            go_simp
            go_at_call 14
            refine (rmeet_form _ _ HF3.out HPX.out _).mono ?_
            rintro e wn ⟨rfl, hbwn⟩
            have HSN := Lib.hid (HSE.out.below hbwn)
            go_simp
            refine hK.out _ _ HSN.out.bel (fun HG3 => ?_)
            clear hK
            try simp only [List.getElem_toArray, List.getElem_cons_succ, List.getElem_cons_zero, Act.put, List.setIfInBounds_toArray, List.set_cons_zero, List.set_cons_succ]
            refine wpAnyH_ready (rs := [7]) (by kernel_rfl) (by simp) ?_
            refine AllReadyH.cons rfl (fun K hK => ?_) AllReadyH.nil
            refine step_storeF rfl _ _ rfl w.heap.size rfl _ (List.zipWith min (fAt ls k) (padF xs)) rfl HSN.out.row (zip_len HF3.out HPX.out) ?_
            intro wst hrs hos hbs
            have HST0 := Lib.hid (HSN.out.store hrs hos hbs)
            refine hK.out _ _ HST0.out.bel (fun HG4 => ?_)
            clear hK
            try simp only [List.getElem_toArray, List.getElem_cons_succ, List.getElem_cons_zero, Act.put, List.setIfInBounds_toArray, List.set_cons_zero, List.set_cons_succ]
            refine wpAnyH_done (by kernel_rfl) ?_ _
            refine NoPanic.normal ?_
            have hst := HST0.out
            rw [HFX.out] at hst
            have HST := Lib.hid hst
            clear hst hrs hos hbs HST0 HG1 HG2 HG3 HG4 HSN
            cases p
            · cases q
              · go_wp2_with fail
                refine (HJOIN.out _ _ (HKEEP.out _ _ HE0.out HST.out.bel) HST.out.jrd (HU.out.below HST.out.bel)).mono ?_
                rintro e w7 ⟨j7, rfl, hr7, hb7, hc7⟩
                have HS7 := Lib.hid (HST.out.join HU.out hr7 hb7 hc7)
                clear hr7 hb7 hc7
                go_wp2
                go_roundw
                case rel => exact ⟨k + 1, (us ++ [Value.slice A1 n1 c1]), _, _, by omega, by go_num, rfl, rfl, Lib.hid HS7.out, Lib.hid ⟨by rw [inAt_snoc HXS.out, ← HPQ.out.1]; rfl, by rw [arAt_snoc HXS.out, ← HPQ.out.2]; rfl⟩, HUS2⟩
                case measure => simp [intOf]; omega
              · go_wp2_with fail
                refine (HWA.out _ (HKEEP.out _ _ HE0.out HST.out.bel) (HU.out.below HST.out.bel) (HC.out.below HST.out.bel)).mono ?_
                rintro e w6 ⟨rfl, hb6⟩
                have HS6 := Lib.hid (HST.out.below hb6)
                go_wp2_with fail
                refine (HJOIN.out _ _ (HKEEP.out _ _ HE0.out HS6.out.bel) HS6.out.jrd (HU.out.below HS6.out.bel)).mono ?_
                rintro e w7 ⟨j7, rfl, hr7, hb7, hc7⟩
                have HS7 := Lib.hid (HS6.out.join HU.out hr7 hb7 hc7)
                clear hr7 hb7 hc7
                go_wp2
                go_roundw
                case rel => exact ⟨k + 1, (us ++ [Value.slice A1 n1 c1]), _, _, by omega, by go_num, rfl, rfl, Lib.hid HS7.out, Lib.hid ⟨by rw [inAt_snoc HXS.out, ← HPQ.out.1]; rfl, by rw [arAt_snoc HXS.out, ← HPQ.out.2]; rfl⟩, HUS2⟩
                case measure => simp [intOf]; omega
            · cases q
              · go_wp2_with fail
                refine (HWI.out _ (HKEEP.out _ _ HE0.out HST.out.bel) (HC.out.below HST.out.bel) (HU.out.below HST.out.bel)).mono ?_
                rintro e w5 ⟨rfl, hb5⟩
                have HS5 := Lib.hid (HST.out.below hb5)
                go_wp2_with fail
                refine (HJOIN.out _ _ (HKEEP.out _ _ HE0.out HS5.out.bel) HS5.out.jrd (HU.out.below HS5.out.bel)).mono ?_
                rintro e w7 ⟨j7, rfl, hr7, hb7, hc7⟩
                have HS7 := Lib.hid (HS5.out.join HU.out hr7 hb7 hc7)
                clear hr7 hb7 hc7
                go_wp2
                go_roundw
                case rel => exact ⟨k + 1, (us ++ [Value.slice A1 n1 c1]), _, _, by omega, by go_num, rfl, rfl, Lib.hid HS7.out, Lib.hid ⟨by rw [inAt_snoc HXS.out, ← HPQ.out.1]; rfl, by rw [arAt_snoc HXS.out, ← HPQ.out.2]; rfl⟩, HUS2⟩
                case measure => simp [intOf]; omega
              · go_wp2_with fail
                refine (HWI.out _ (HKEEP.out _ _ HE0.out HST.out.bel) (HC.out.below HST.out.bel) (HU.out.below HST.out.bel)).mono ?_
                rintro e w5 ⟨rfl, hb5⟩
                have HS5 := Lib.hid (HST.out.below hb5)
                go_wp2_with fail
                refine (HWA.out _ (HKEEP.out _ _ HE0.out HS5.out.bel) (HU.out.below HS5.out.bel) (HC.out.below HS5.out.bel)).mono ?_
                rintro e w6 ⟨rfl, hb6⟩
                have HS6 := Lib.hid (HS5.out.below hb6)
                go_wp2_with fail
                refine (HJOIN.out _ _ (HKEEP.out _ _ HE0.out HS6.out.bel) HS6.out.jrd (HU.out.below HS6.out.bel)).mono ?_
                rintro e w7 ⟨j7, rfl, hr7, hb7, hc7⟩
                have HS7 := Lib.hid (HS6.out.join HU.out hr7 hb7 hc7)
                clear hr7 hb7 hc7
                go_wp2
                go_roundw
                case rel => exact ⟨k + 1, (us ++ [Value.slice A1 n1 c1]), _, _, by omega, by go_num, rfl, rfl, Lib.hid HS7.out, Lib.hid ⟨by rw [inAt_snoc HXS.out, ← HPQ.out.1]; rfl, by rw [arAt_snoc HXS.out, ← HPQ.out.2]; rfl⟩, HUS2⟩
                case measure => simp [intOf]; omega
          · go_simp
            go_at_call 8
            refine (rof_form xs n1 c1 A1 HN1.out hn64 _ (HU.out.below HSD.out.bel)).mono ?_
            rintro e wo ⟨rfl, hbwo⟩
            have HSE := Lib.hid (HSD.out.below hbwo)
            go_simp
            refine hK.out _ _ HSE.out.bel (fun HG1 => ?_)
            clear hK
            try simp only [List.getElem_toArray, List.getElem_cons_succ, List.getElem_cons_zero, Act.put, List.setIfInBounds_toArray, List.set_cons_zero, List.set_cons_succ]
            refine wpAnyH_ready (rs := [0]) (by kernel_rfl) (by simp) ?_
            refine AllReadyH.cons rfl (fun K hK => ?_) AllReadyH.nil
            refine step_loadF rfl _ rfl w.heap.size rfl _ HSE.out.row ?_
            refine hK.out _ _ HSE.out.bel (fun HG2 => ?_)
            clear hK
            try simp only [List.getElem_toArray, List.getElem_cons_succ, List.getElem_cons_zero, Act.put, List.setIfInBounds_toArray, List.set_cons_zero, List.set_cons_succ]
            refine wpAnyH_ready (rs := [6]) (by kernel_rfl) (by simp) ?_
            refine AllReadyH.cons rfl (fun K hK => ?_) AllReadyH.nil
            go_simp
            go_at_call 14
            refine (rmeet_form _ _ HF3.out HPX.out _).mono ?_
            rintro e wn ⟨rfl, hbwn⟩
            have HSN := Lib.hid (HSE.out.below hbwn)
            go_simp
            refine hK.out _ _ HSN.out.bel (fun HG3 => ?_)
            clear hK
            try simp only [List.getElem_toArray, List.getElem_cons_succ, List.getElem_cons_zero, Act.put, List.setIfInBounds_toArray, List.set_cons_zero, List.set_cons_succ]
            refine wpAnyH_ready (rs := [7]) (by kernel_rfl) (by simp) ?_
            refine AllReadyH.cons rfl (fun K hK => ?_) AllReadyH.nil
            refine step_storeF rfl _ _ rfl w.heap.size rfl _ (List.zipWith min (fAt ls k) (padF xs)) rfl HSN.out.row (zip_len HF3.out HPX.out) ?_
            intro wst hrs hos hbs
            have HST0 := Lib.hid (HSN.out.store hrs hos hbs)
            refine hK.out _ _ HST0.out.bel (fun HG4 => ?_)
            clear hK
            try simp only [List.getElem_toArray, List.getElem_cons_succ, List.getElem_cons_zero, Act.put, List.setIfInBounds_toArray, List.set_cons_zero, List.set_cons_succ]
            refine wpAnyH_done (by kernel_rfl) ?_ _
            refine NoPanic.normal ?_
            have hst := HST0.out
            rw [HFX.out] at hst
            have HST := Lib.hid hst
            clear hst hrs hos hbs HST0 HG1 HG2 HG3 HG4 HSN
            cases p
            · cases q
              · go_wp2_with fail
                refine (HJOIN.out _ _ (HKEEP.out _ _ HE0.out HST.out.bel) HST.out.jrd (HU.out.below HST.out.bel)).mono ?_
                rintro e w7 ⟨j7, rfl, hr7, hb7, hc7⟩
                have HS7 := Lib.hid (HST.out.join HU.out hr7 hb7 hc7)
                clear hr7 hb7 hc7
                go_wp2
                go_roundw
                case rel => exact ⟨k + 1, (us ++ [Value.slice A1 n1 c1]), _, _, by omega, by go_num, rfl, rfl, Lib.hid HS7.out, Lib.hid ⟨by rw [inAt_snoc HXS.out, ← HPQ.out.1]; rfl, by rw [arAt_snoc HXS.out, ← HPQ.out.2]; rfl⟩, HUS2⟩
                case measure => simp [intOf]; omega
              · go_wp2_with fail
                refine (HWA.out _ (HKEEP.out _ _ HE0.out HST.out.bel) (HU.out.below HST.out.bel) (HC.out.below HST.out.bel)).mono ?_
                rintro e w6 ⟨rfl, hb6⟩
                have HS6 := Lib.hid (HST.out.below hb6)
                go_wp2_with fail
                refine (HJOIN.out _ _ (HKEEP.out _ _ HE0.out HS6.out.bel) HS6.out.jrd (HU.out.below HS6.out.bel)).mono ?_
                rintro e w7 ⟨j7, rfl, hr7, hb7, hc7⟩
                have HS7 := Lib.hid (HS6.out.join HU.out hr7 hb7 hc7)
                clear hr7 hb7 hc7
                go_wp2
                go_roundw
                case rel => exact ⟨k + 1, (us ++ [Value.slice A1 n1 c1]), _, _, by omega, by go_num, rfl, rfl, Lib.hid HS7.out, Lib.hid ⟨by rw [inAt_snoc HXS.out, ← HPQ.out.1]; rfl, by rw [arAt_snoc HXS.out, ← HPQ.out.2]; rfl⟩, HUS2⟩
                case measure => simp [intOf]; omega
            · cases q
              · go_wp2_with fail
                refine (HWI.out _ (HKEEP.out _ _ HE0.out HST.out.bel) (HC.out.below HST.out.bel) (HU.out.below HST.out.bel)).mono ?_
                rintro e w5 ⟨rfl, hb5⟩
                have HS5 := Lib.hid (HST.out.below hb5)
                go_wp2_with fail
                refine (HJOIN.out _ _ (HKEEP.out _ _ HE0.out HS5.out.bel) HS5.out.jrd (HU.out.below HS5.out.bel)).mono ?_
                rintro e w7 ⟨j7, rfl, hr7, hb7, hc7⟩
                have HS7 := Lib.hid (HS5.out.join HU.out hr7 hb7 hc7)
                clear hr7 hb7 hc7
                go_wp2
                go_roundw
                case rel => exact ⟨k + 1, (us ++ [Value.slice A1 n1 c1]), _, _, by omega, by go_num, rfl, rfl, Lib.hid HS7.out, Lib.hid ⟨by rw [inAt_snoc HXS.out, ← HPQ.out.1]; rfl, by rw [arAt_snoc HXS.out, ← HPQ.out.2]; rfl⟩, HUS2⟩
                case measure => simp [intOf]; omega
              · go_wp2_with fail
                refine (HWI.out _ (HKEEP.out _ _ HE0.out HST.out.bel) (HC.out.below HST.out.bel) (HU.out.below HST.out.bel)).mono ?_
                rintro e w5 ⟨rfl, hb5⟩
                have HS5 := Lib.hid (HST.out.below hb5)
                go_wp2_with fail
                refine (HWA.out _ (HKEEP.out _ _ HE0.out HS5.out.bel) (HU.out.below HS5.out.bel) (HC.out.below HS5.out.bel)).mono ?_
                rintro e w6 ⟨rfl, hb6⟩
                have HS6 := Lib.hid (HS5.out.below hb6)
                go_wp2_with fail
                refine (HJOIN.out _ _ (HKEEP.out _ _ HE0.out HS6.out.bel) HS6.out.jrd (HU.out.below HS6.out.bel)).mono ?_
                rintro e w7 ⟨j7, rfl, hr7, hb7, hc7⟩
                have HS7 := Lib.hid (HS6.out.join HU.out hr7 hb7 hc7)
                clear hr7 hb7 hc7
                go_wp2
                go_roundw
                case rel => exact ⟨k + 1, (us ++ [Value.slice A1 n1 c1]), _, _, by omega, by go_num, rfl, rfl, Lib.hid HS7.out, Lib.hid ⟨by rw [inAt_snoc HXS.out, ← HPQ.out.1]; rfl, by rw [arAt_snoc HXS.out, ← HPQ.out.2]; rfl⟩, HUS2⟩
                case measure => simp [intOf]; omega
      · rw [decide_eq_false hn64] at hsh
        have HSH := Lib.hid (hsh wr)
        clear hsh
        go_wp2_with (first
          | (go_at_call 6; (with_reducible refine HSH.out.mono ?_); rintro e w9 ⟨rfl, rfl⟩)
          | (go_at_call 7; (with_reducible refine (HAW.out _ (HKEEP.out _ _ HE0.out HS.out.bel)).mono ?_); rintro e w9 ⟨rfl, hb9⟩))
        go_ret
        exact ⟨rfl, HS.out.bel.trans (hb9.mono HS.out.bel.size)⟩
    · obtain rfl : k = n := by omega
      have hfit : ∀ xs ∈ ls, FitC xs := by
        have := HUS.out.2.2
        rwa [HN.out, List.take_of_length_le (Nat.le_refl _)] at this
      have HRC := Lib.hid (HS.out.own.rd (ls := ls) (HUS.out.1.trans HN.out) (fun j u xs h1 h2 => (HUS.out.2.1 j u xs h1 h2).below HS.out.bel) : RdC wr u5 ls)
      have HMEET := Lib.hid (fun v W h a => HK.out.meet ls v W h (by rw [← HN.out]; exact hn20) hfit a)
      have him := fun v W h => is_any (meetV ls) (fAt ls k) v (Nat.le_trans (meetV_fit hfit).1 (by decide)) (fAt_len hfit k) W h
      rw [decide_eq_true (show meetV ls = cutF (fAt ls k) by rw [fAt_end ls, HN.out])] at him
      have HISM := Lib.hid him
      have hjn := fun v W h a b => HK.out.within (jnAt ls k) cs v (.slice A0 n0 c0) W h (jnAt_fit hfit k) HFC.out a b
      rw [show withinB (padF (jnAt ls k)) (padF cs) = q by rw [HPQ.out.2, HN.out]; exact within_join HFC.out hfit] at hjn
      have HWJ := Lib.hid hjn
      clear him hjn hkn
      by_cases hk0 : k = 0
      · have t0 : ((k : Int) == 0) = true := by simp; omega
        clear hk0 hfit
        go_wp2_with fail
        refine (HMEET.out _ _ (HKEEP.out _ _ HE0.out HS.out.bel) HRC.out).mono ?_
        rintro e wm ⟨vm, rfl, hrm, hbm⟩
        have HRM := Lib.hid hrm
        have HSM := Lib.hid (HS.out.below hbm)
        clear hrm
        go_wp2_with (refine wp_loadF rfl _ rfl w.heap.size rfl _ HSM.out.row ?_)
        refine (HISM.out _ _ HRM.out).mono ?_
        rintro e w3 ⟨rfl, hb3⟩
        have HS3 := Lib.hid (HSM.out.below hb3)
        go_wp2_with fail
        refine (HWJ.out _ _ (HKEEP.out _ _ HE0.out HS3.out.bel) HS3.out.jrd (HC.out.below HS3.out.bel)).mono ?_
        rintro e w5 ⟨rfl, hb5⟩
        have HS5 := Lib.hid (HS3.out.below hb5)
        go_wp2_with fail
        refine (HAW.out _ (HKEEP.out _ _ HE0.out HS5.out.bel)).mono ?_
        rintro e w6 ⟨rfl, hb6⟩
        go_wp2
        go_ret
        exact ⟨rfl, HS5.out.bel.trans (hb6.mono HS5.out.bel.size)⟩
      · have t0 : ((k : Int) == 0) = false := by simp; omega
        have hwm := fun v W h a b => HK.out.within cs (meetV ls) (.slice A0 n0 c0) v W h HFC.out (meetV_fit hfit) a b
        rw [show withinB (padF cs) (padF (meetV ls)) = p by rw [HPQ.out.1, HN.out]; exact within_meet HFC.out (by intro e; have := HN.out; rw [e] at this; exact hk0 this) hfit] at hwm
        have HWM := Lib.hid hwm
        clear hk0 hfit hwm
        go_wp2_with fail
        refine (HMEET.out _ _ (HKEEP.out _ _ HE0.out HS.out.bel) HRC.out).mono ?_
        rintro e wm ⟨vm, rfl, hrm, hbm⟩
        have HRM := Lib.hid hrm
        have HSM := Lib.hid (HS.out.below hbm)
        clear hrm
        go_wp2_with (refine wp_loadF rfl _ rfl w.heap.size rfl _ HSM.out.row ?_)
        refine (HISM.out _ _ HRM.out).mono ?_
        rintro e w3 ⟨rfl, hb3⟩
        have HS3 := Lib.hid (HSM.out.below hb3)
        go_wp2_with fail
        refine (HWM.out _ _ (HKEEP.out _ _ HE0.out HS3.out.bel) (HC.out.below HS3.out.bel) (HRM.out.below hb3)).mono ?_
        rintro e w4 ⟨rfl, hb4⟩
        have HS4 := Lib.hid (HS3.out.below hb4)
        go_wp2_with fail
        refine (HWJ.out _ _ (HKEEP.out _ _ HE0.out HS4.out.bel) HS4.out.jrd (HC.out.below HS4.out.bel)).mono ?_
        rintro e w5 ⟨rfl, hb5⟩
        have HS5 := Lib.hid (HS4.out.below hb5)
        go_wp2_with fail
        refine (HAW.out _ (HKEEP.out _ _ HE0.out HS5.out.bel)).mono ?_
        rintro e w6 ⟨rfl, hb6⟩
        go_wp2
        go_ret
        exact ⟨rfl, HS5.out.bel.trans (hb6.mono HS5.out.bel.size)⟩
theorem RdC.len {w : World} {v : Value} {ls : List (List Nat)} (h : RdC w v ls) : ls.length ≤ maxLen := by
  rcases h with ⟨_, _, _, rfl, _⟩ | ⟨_, _, cap, _, h1, h2, _⟩
  · exact Nat.zero_le _
  · exact Nat.le_trans h1 h2
set_option maxRecDepth 20000 in
set_option maxHeartbeats 1000000 in
theorem meets_any {E : World → Prop} (K : ClockOk E) (ls : List (List Nat)) (cs : List Nat) (v u : Value) (hb : ∀ xs ∈ ls, ∀ x ∈ xs, x < 18446744073709551616) (h2 : ∀ x ∈ cs, x < 18446744073709551616) (w : World) (hE : E w) (hr1 : RdC w v ls) (hr2 : RdU w u cs) :
    Calls Try.prog 4 #[v, u] w fun e w' => e = .returned (.bool true) ∧ Below w.heap.size w w' := by
  have l1 := hr1.len
  have l2 := hr2.len
  unfold maxLen at l1 l2
  obtain ⟨A1, n1, c1, rfl, hn1⟩ := hr1.named
  obtain ⟨A2, n2, c2, rfl, hn2⟩ := hr2.named
  by_cases s1 : n1 ≤ 20
  · by_cases s2 : n2 ≤ 64
    · exact meets_fit K ls cs n1 c1 n2 c2 A1 A2 hn1 s1 hn2 ⟨hn2 ▸ s2, h2⟩ hb w hE hr1 hr2
    · have HAW := Lib.hid (awake_any K w hE)
      have d2 : decide (n2 ≤ 64) = false := decide_eq_false s2
      have hs2 := short_form n2 c2 A2 (by omega) w
      rw [d2] at hs2
      clear hr1 hr2 hn1 hn2 hb h2 K hE s2 d2
      go_enter Try.func4, Try.ntmps4
      go_wp2_with (first
        | (go_at_call 6; (with_reducible refine hs2.mono ?_); rintro e w1 ⟨rfl, rfl⟩)
        | (go_at_call 7; (with_reducible refine (HAW.out).mono ?_); rintro e w1 ⟨rfl, hb1⟩))
      go_ret
      exact ⟨rfl, hb1⟩
  · have HAW := Lib.hid (awake_any K w hE)
    have s3 : 20 < n1 := by omega
    clear hr1 hr2 hn2 hb h2 K hE s1
    go_enter Try.func4, Try.ntmps4
    go_wp2_with (first
      | (go_at_call 7; (with_reducible refine (HAW.out).mono ?_); rintro e w1 ⟨rfl, hb1⟩))
    go_ret
    exact ⟨rfl, hb1⟩
end Go.Proofs.Ytepafmoohlognaa
