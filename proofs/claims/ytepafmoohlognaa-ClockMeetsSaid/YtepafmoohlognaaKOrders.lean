/-
The law ClockOrders, over contracts of package clock.
-/
import Derived.Test.YtepafmoohlognaaKAwake
namespace Go.Proofs.Ytepafmoohlognaa
open Go.RowKit

set_option maxRecDepth 20000 in
set_option maxHeartbeats 8000000 in
theorem orders_t {E : World → Prop} (K : ClockOk E) (xs ys : List Nat) (n1 c1 n2 c2 : Nat) (A1 A2 : Option Addr) (hn1 : n1 = xs.length) (hn2 : n2 = ys.length) (h1 : FitC xs) (h2 : FitC ys) (hp : withinB (padF xs) (padF ys) = true) (q : Bool) (hq : withinB (padF ys) (padF xs) = q) (w : World) (hE : E w) (hr1 : RdU w (.slice A1 n1 c1) xs) (hr2 : RdU w (.slice A2 n2 c2) ys) :
    Calls Try.prog 3 #[.slice A1 n1 c1, .slice A2 n2 c2] w fun e w' => e = .returned (.bool true) ∧ Below w.heap.size w w' := by
  have HE0 := Lib.hid hE
  have HKEEP := Lib.hid (fun w w' (h : E w) hb => K.keep (w' := w') h hb)
  have HAW := Lib.hid (fun W h => awake_any K W h)
  have HR1 := Lib.hid hr1
  have HR2 := Lib.hid hr2
  have HN1 := Lib.hid hn1
  have HN2 := Lib.hid hn2
  have hn64 : n1 ≤ 64 := by rw [hn1]; exact h1.1
  have hm64 : n2 ≤ 64 := by rw [hn2]; exact h2.1
  have HP1 := Lib.hid (padF_len h1.1)
  have HP2 := Lib.hid (padF_len h2.1)
  have HJOIN := Lib.hid (fun w2 h a b => K.join xs ys (.slice A1 n1 c1) (.slice A2 n2 c2) w2 h h1 h2 a b)
  have HRJOIN := Lib.hid (fun w2 => rjoin_form (padF xs) (padF ys) HP1.out HP2.out w2)
  have hij := fun v W h => is_any (joinV xs ys) (List.zipWith max (padF xs) (padF ys)) v (Nat.le_trans (join_len h1 h2) (by decide)) (zip_len HP1.out HP2.out) W h
  rw [decide_eq_true (show joinV xs ys = cutF (List.zipWith max (padF xs) (padF ys)) from rfl)] at hij
  have HISJ := Lib.hid hij
  have HMEET := Lib.hid (fun v w2 h a => K.meet [xs, ys] v w2 h (show 2 ≤ 20 by decide) (by intro zs hz; rcases List.mem_cons.1 hz with rfl | hz; exact h1; rcases List.mem_singleton.1 hz with rfl; exact h2) a)
  have HRMEET := Lib.hid (fun w2 => rmeet_form (padF xs) (padF ys) HP1.out HP2.out w2)
  have him := fun v W h => is_any (meetV [xs, ys]) (List.zipWith min (padF xs) (padF ys)) v (Nat.le_trans (cut_len (zip_len HP1.out HP2.out)) (by decide)) (zip_len HP1.out HP2.out) W h
  rw [decide_eq_true (show meetV [xs, ys] = cutF (List.zipWith min (padF xs) (padF ys)) from rfl)] at him
  have HISM := Lib.hid him
  have hwi := fun w2 h a b => K.within xs ys (.slice A1 n1 c1) (.slice A2 n2 c2) w2 h h1 h2 a b
  have hsa := fun w2 h a b => K.same xs ys (.slice A1 n1 c1) (.slice A2 n2 c2) w2 h h1 h2 a b
  have hap := fun w2 h a b => K.apart xs ys (.slice A1 n1 c1) (.slice A2 n2 c2) w2 h h1 h2 a b
  have hrw := fun w2 => rwithin_form (padF xs) (padF ys) HP1.out HP2.out w2
  have hrb := fun w2 => rwithin_form (padF ys) (padF xs) HP2.out HP1.out w2
  rw [hp] at hwi hsa hap hrw
  rw [hq] at hsa hap hrb
  simp only [Bool.true_and, Bool.false_and, Bool.not_true, Bool.not_false] at hsa hap
  have HWITHIN := Lib.hid hwi
  have HSAME := Lib.hid hsa
  have HAPART := Lib.hid hap
  have HRW := Lib.hid hrw
  have HRB := Lib.hid hrb
  clear hE hr1 hr2 hn1 hn2 hij him hwi hsa hap hrw hrb hp hq h1 h2 K
  go_enter Try.func3, Try.ntmps3
  go_wp2_with (first
    | (refine wp_storeF rfl _ _ rfl wb.heap.size rfl (List.replicate 64 0) (padF xs) rfl (twoF_start wb).1 HP1.out ?_; intro wc hrc hoc hbc; have HRC := Lib.hid hrc; have HOC := Lib.hid hoc; have HBC := Lib.hid hbc; clear hrc hoc hbc)
    | (refine wp_storeF rfl _ _ rfl (wb.heap.size + 1) rfl (List.replicate 64 0) (padF ys) rfl ((twoF_start wb).2.1.block (HOC.out _ (by omega))) HP2.out ?_; intro wd hrd hod hbd; have HRD := Lib.hid hrd; have HOD := Lib.hid hod; have HBD := Lib.hid hbd; clear hrd hod hbd)
    | (go_at_call 6; (with_reducible refine (short_form n1 c1 A1 (by omega) _).mono ?_); rintro e w1 ⟨rfl, rfl⟩)
    | (go_at_call 6; (with_reducible refine (short_form n2 c2 A2 (by omega) _).mono ?_); rintro e w1 ⟨rfl, rfl⟩)
    | (go_at_call 8; (with_reducible refine (rof_form xs n1 c1 A1 HN1.out (by omega) _ HR1.out).mono ?_); rintro e wa ⟨rfl, hba⟩)
    | (go_at_call 8; (with_reducible refine (rof_form ys n2 c2 A2 HN2.out (by omega) _ (HR2.out.below hba)).mono ?_); rintro e wb ⟨rfl, hbb⟩))
  have hxd : Below w.heap.size w wd := hba.trans ((hbb.trans (((twoF_start wb).2.2.trans ((HBC.out _ (Nat.le_refl _)).trans (HBD.out _ (Nat.le_succ _)))).mono hbb.size)).mono hba.size)
  have HRF := Lib.hid (HRC.out.block (HOD.out _ (show wb.heap.size ≠ wb.heap.size + 1 by omega)))
  have HRG := Lib.hid HRD.out
  clear hba hbb HRC HOC HBC HRD HOD HBD
  refine wp_region_noPanic ?_
  refine wp_region_below (by kernel_rfl) (fun HS0 => ?_)
  refine wpAnyH_take (i := 0) (v := _) rfl (by kernel_rfl) (by kernel_rfl) (by kernel_rfl) (fun _ _ _ h => h) (takeF (by rfl) _ rfl _ rfl _ (fun w hE => HRF.out.below hE)) HS0 ?_
  simp only [List.getElem_toArray, List.getElem_cons_succ, List.getElem_cons_zero, Act.put, List.setIfInBounds_toArray, List.set_cons_zero, List.set_cons_succ]
  refine wpAnyH_take (i := 1) (v := _) rfl (by kernel_rfl) (by kernel_rfl) (by kernel_rfl) (fun _ _ _ h => h) (takeF (by rfl) _ rfl _ rfl _ (fun w hE => HRG.out.below hE)) HS0 ?_
  simp only [List.getElem_toArray, List.getElem_cons_succ, List.getElem_cons_zero, Act.put, List.setIfInBounds_toArray, List.set_cons_zero, List.set_cons_succ]
  refine wpAnyH_take (i := 3) (v := _) rfl (by kernel_rfl) (by kernel_rfl) (by kernel_rfl) (fun _ _ _ h => h) (takeF (by rfl) _ rfl _ rfl _ (fun w hE => HRG.out.below hE)) HS0 ?_
  simp only [List.getElem_toArray, List.getElem_cons_succ, List.getElem_cons_zero, Act.put, List.setIfInBounds_toArray, List.set_cons_zero, List.set_cons_succ]
  refine wpAnyH_take (i := 4) (v := _) rfl (by kernel_rfl) (by kernel_rfl) (by kernel_rfl) (fun _ _ _ h => h) (takeF (by rfl) _ rfl _ rfl _ (fun w hE => HRF.out.below hE)) HS0 ?_
  simp only [List.getElem_toArray, List.getElem_cons_succ, List.getElem_cons_zero, Act.put, List.setIfInBounds_toArray, List.set_cons_zero, List.set_cons_succ]
  refine wpAnyH_ready (rs := [2]) (by kernel_rfl) (by simp) ?_
  refine AllReadyH.cons rfl (fun K hK => ?_) AllReadyH.nil
  go_simp
  go_at_call 9
  refine (HRW.out _).mono ?_
  rintro e wX ⟨rfl, hbwX⟩
  go_simp
  refine hK.out _ _ (HS0.trans hbwX) (fun HS1 => ?_)
  clear hK
  have hxwX := HS0.trans hbwX
  try simp only [List.getElem_toArray, List.getElem_cons_succ, List.getElem_cons_zero, Act.put, List.setIfInBounds_toArray, List.set_cons_zero, List.set_cons_succ]
  refine wpAnyH_ready (rs := [5]) (by kernel_rfl) (by simp) ?_
  refine AllReadyH.cons rfl (fun K hK => ?_) AllReadyH.nil
  go_simp
  go_at_call 9
  refine (HRB.out _).mono ?_
  rintro e wY ⟨rfl, hbwY⟩
  go_simp
  refine hK.out _ _ (hxwX.trans (hbwY.mono hxwX.size)) (fun HS2 => ?_)
  clear hK
  have hxwY := hxwX.trans (hbwY.mono hxwX.size)
  try simp only [List.getElem_toArray, List.getElem_cons_succ, List.getElem_cons_zero, Act.put, List.setIfInBounds_toArray, List.set_cons_zero, List.set_cons_succ]
  refine wpAnyH_take (i := 6) (v := ?_) rfl (by kernel_rfl) (by kernel_rfl) (by kernel_rfl) (fun _ _ _ h => h) (Or.inl ⟨by rfl, ?_⟩) HS2 ?_
  rotate_left
  · intro w hE; go_simp; try with_reducible rfl
  simp only [List.getElem_toArray, List.getElem_cons_succ, List.getElem_cons_zero, Act.put, List.setIfInBounds_toArray, List.set_cons_zero, List.set_cons_succ]
  refine wpAnyH_take (i := 7) (v := ?_) rfl (by kernel_rfl) (by kernel_rfl) (by kernel_rfl) (fun _ _ _ h => h) (Or.inl ⟨by rfl, ?_⟩) HS2 ?_
  rotate_left
  · intro w hE; go_simp; try with_reducible rfl
  simp only [List.getElem_toArray, List.getElem_cons_succ, List.getElem_cons_zero, Act.put, List.setIfInBounds_toArray, List.set_cons_zero, List.set_cons_succ]
  refine wpAnyH_done (by kernel_rfl) ?_ _
  refine NoPanic.normal ?_
  go_wp2_with fail
  have hxy := hxd.trans (hxwY.mono hxd.size)
  have HE := Lib.hid (HKEEP.out _ _ HE0.out hxy)
  have HR1 := Lib.hid (HR1.out.below hxy)
  have HR2 := Lib.hid (HR2.out.below hxy)
  have HRF := Lib.hid (HRF.out.below hxwY)
  have HRG := Lib.hid (HRG.out.below hxwY)
  clear hxwX hbwX hbwY hxd HS0
  refine wp_region_noPanic ?_
  refine wp_region_below (by kernel_rfl) (fun HS0 => ?_)
  refine wpAnyH_take (i := 0) (v := ?_) rfl (by kernel_rfl) (by kernel_rfl) (by kernel_rfl) (fun _ _ _ h => h) (Or.inl ⟨by rfl, ?_⟩) HS0 ?_
  rotate_left
  · intro w hE; go_simp; try with_reducible rfl
  simp only [List.getElem_toArray, List.getElem_cons_succ, List.getElem_cons_zero, Act.put, List.setIfInBounds_toArray, List.set_cons_zero, List.set_cons_succ]
  refine wpAnyH_take (i := 1) (v := ?_) rfl (by kernel_rfl) (by kernel_rfl) (by kernel_rfl) (fun _ _ _ h => h) (Or.inl ⟨by rfl, ?_⟩) HS0 ?_
  rotate_left
  · intro w hE; go_simp; try with_reducible rfl
  simp only [List.getElem_toArray, List.getElem_cons_succ, List.getElem_cons_zero, Act.put, List.setIfInBounds_toArray, List.set_cons_zero, List.set_cons_succ]
  refine wpAnyH_take (i := 3) (v := _) rfl (by kernel_rfl) (by kernel_rfl) (by kernel_rfl) (fun _ _ _ h => h) (takeF (by rfl) _ rfl _ rfl _ (fun w hE => HRF.out.below hE)) HS0 ?_
  simp only [List.getElem_toArray, List.getElem_cons_succ, List.getElem_cons_zero, Act.put, List.setIfInBounds_toArray, List.set_cons_zero, List.set_cons_succ]
  refine wpAnyH_take (i := 4) (v := _) rfl (by kernel_rfl) (by kernel_rfl) (by kernel_rfl) (fun _ _ _ h => h) (takeF (by rfl) _ rfl _ rfl _ (fun w hE => HRG.out.below hE)) HS0 ?_
  simp only [List.getElem_toArray, List.getElem_cons_succ, List.getElem_cons_zero, Act.put, List.setIfInBounds_toArray, List.set_cons_zero, List.set_cons_succ]
  refine wpAnyH_ready (rs := [2]) (by kernel_rfl) (by simp) ?_
  refine AllReadyH.cons rfl (fun K hK => ?_) AllReadyH.nil
  go_simp
  go_at_call 11
  refine (HJOIN.out _ (HKEEP.out _ _ HE.out HS0) (HR1.out.below HS0) (HR2.out.below HS0)).mono ?_
  rintro e wA ⟨vwA, rfl, hrwA, hbwA⟩
  go_simp
  refine hK.out _ _ (HS0.trans (hbwA.mono HS0.size)) (fun HS1 => ?_)
  clear hK
  have hxwA := HS0.trans (hbwA.mono HS0.size)
  have HRwA := Lib.hid hrwA
  clear hrwA
  try simp only [List.getElem_toArray, List.getElem_cons_succ, List.getElem_cons_zero, Act.put, List.setIfInBounds_toArray, List.set_cons_zero, List.set_cons_succ]
  refine wpAnyH_ready (rs := [5]) (by kernel_rfl) (by simp) ?_
  refine AllReadyH.cons rfl (fun K hK => ?_) AllReadyH.nil
  go_simp
  go_at_call 12
  refine (HRJOIN.out _).mono ?_
  rintro e wB ⟨rfl, hbwB⟩
  go_simp
  refine hK.out _ _ (hxwA.trans (hbwB.mono hxwA.size)) (fun HS2 => ?_)
  clear hK
  have hxwB := hxwA.trans (hbwB.mono hxwA.size)
  try simp only [List.getElem_toArray, List.getElem_cons_succ, List.getElem_cons_zero, Act.put, List.setIfInBounds_toArray, List.set_cons_zero, List.set_cons_succ]
  refine wpAnyH_ready (rs := [6]) (by kernel_rfl) (by simp) ?_
  refine AllReadyH.cons rfl (fun K hK => ?_) AllReadyH.nil
  go_simp
  go_at_call 10
  refine (HISJ.out _ _ (HRwA.out.below hbwB)).mono ?_
  rintro e wC ⟨rfl, hbwC⟩
  go_simp
  refine hK.out _ _ (hxwB.trans (hbwC.mono hxwB.size)) (fun HS3 => ?_)
  clear hK
  have hxwC := hxwB.trans (hbwC.mono hxwB.size)
  try simp only [List.getElem_toArray, List.getElem_cons_succ, List.getElem_cons_zero, Act.put, List.setIfInBounds_toArray, List.set_cons_zero, List.set_cons_succ]
  refine wpAnyH_take (i := 7) (v := ?_) rfl (by kernel_rfl) (by kernel_rfl) (by kernel_rfl) (fun _ _ _ h => h) (Or.inl ⟨by rfl, ?_⟩) HS3 ?_
  rotate_left
  · intro w hE; go_simp; try with_reducible rfl
  simp only [List.getElem_toArray, List.getElem_cons_succ, List.getElem_cons_zero, Act.put, List.setIfInBounds_toArray, List.set_cons_zero, List.set_cons_succ]
  refine wpAnyH_take (i := 8) (v := ?_) rfl (by kernel_rfl) (by kernel_rfl) (by kernel_rfl) (fun _ _ _ h => h) (Or.inl ⟨by rfl, ?_⟩) HS3 ?_
  rotate_left
  · intro w hE; go_simp; try with_reducible rfl
  simp only [List.getElem_toArray, List.getElem_cons_succ, List.getElem_cons_zero, Act.put, List.setIfInBounds_toArray, List.set_cons_zero, List.set_cons_succ]
  refine wpAnyH_take (i := 9) (v := ?_) rfl (by kernel_rfl) (by kernel_rfl) (by kernel_rfl) (fun _ _ _ h => h) (Or.inl ⟨by rfl, ?_⟩) HS3 ?_
  rotate_left
  · intro w hE; go_simp; try with_reducible rfl
  simp only [List.getElem_toArray, List.getElem_cons_succ, List.getElem_cons_zero, Act.put, List.setIfInBounds_toArray, List.set_cons_zero, List.set_cons_succ]
  refine wpAnyH_take (i := 12) (v := _) rfl (by kernel_rfl) (by kernel_rfl) (by kernel_rfl) (fun _ _ _ h => h) (takeF (by rfl) _ rfl _ rfl _ (fun w hE => HRF.out.below hE)) HS3 ?_
  simp only [List.getElem_toArray, List.getElem_cons_succ, List.getElem_cons_zero, Act.put, List.setIfInBounds_toArray, List.set_cons_zero, List.set_cons_succ]
  refine wpAnyH_take (i := 13) (v := _) rfl (by kernel_rfl) (by kernel_rfl) (by kernel_rfl) (fun _ _ _ h => h) (takeF (by rfl) _ rfl _ rfl _ (fun w hE => HRG.out.below hE)) HS3 ?_
  simp only [List.getElem_toArray, List.getElem_cons_succ, List.getElem_cons_zero, Act.put, List.setIfInBounds_toArray, List.set_cons_zero, List.set_cons_succ]
  refine wpAnyH_ready (rs := [10]) (by kernel_rfl) (by simp) ?_
  refine AllReadyH.cons rfl (fun K hK => ?_) AllReadyH.nil
  go_simp
  have hcc := RdC.two (w := wC) rfl (HR1.out.below hxwC) (HR2.out.below hxwC) 25
  refine hK.out _ _ (hxwC.alloc hxwC.size _) (fun HS4 => ?_)
  clear hK
  have HCC := Lib.hid hcc
  have hxC1 := hxwC.alloc hxwC.size (.cells #[.slice A1 n1 c1, .slice A2 n2 c2] 25)
  clear hcc
  try simp only [List.getElem_toArray, List.getElem_cons_succ, List.getElem_cons_zero, Act.put, List.setIfInBounds_toArray, List.set_cons_zero, List.set_cons_succ]
  refine wpAnyH_ready (rs := [11]) (by kernel_rfl) (by simp) ?_
  refine AllReadyH.cons rfl (fun K hK => ?_) AllReadyH.nil
  go_simp
  go_at_call 13
  refine (HMEET.out _ _ (HKEEP.out _ _ HE.out hxC1) HCC.out).mono ?_
  rintro e wD ⟨vwD, rfl, hrwD, hbwD⟩
  go_simp
  refine hK.out _ _ (hxC1.trans (hbwD.mono hxC1.size)) (fun HS5 => ?_)
  clear hK
  have hxwD := hxC1.trans (hbwD.mono hxC1.size)
  have HRwD := Lib.hid hrwD
  clear hrwD
  try simp only [List.getElem_toArray, List.getElem_cons_succ, List.getElem_cons_zero, Act.put, List.setIfInBounds_toArray, List.set_cons_zero, List.set_cons_succ]
  refine wpAnyH_ready (rs := [14]) (by kernel_rfl) (by simp) ?_
  refine AllReadyH.cons rfl (fun K hK => ?_) AllReadyH.nil
  go_simp
  go_at_call 14
  refine (HRMEET.out _).mono ?_
  rintro e wE ⟨rfl, hbwE⟩
  go_simp
  refine hK.out _ _ (hxwD.trans (hbwE.mono hxwD.size)) (fun HS6 => ?_)
  clear hK
  have hxwE := hxwD.trans (hbwE.mono hxwD.size)
  try simp only [List.getElem_toArray, List.getElem_cons_succ, List.getElem_cons_zero, Act.put, List.setIfInBounds_toArray, List.set_cons_zero, List.set_cons_succ]
  refine wpAnyH_ready (rs := [15]) (by kernel_rfl) (by simp) ?_
  refine AllReadyH.cons rfl (fun K hK => ?_) AllReadyH.nil
  go_simp
  go_at_call 10
  refine (HISM.out _ _ (HRwD.out.below hbwE)).mono ?_
  rintro e wF ⟨rfl, hbwF⟩
  go_simp
  refine hK.out _ _ (hxwE.trans (hbwF.mono hxwE.size)) (fun HS7 => ?_)
  clear hK
  have hxwF := hxwE.trans (hbwF.mono hxwE.size)
  try simp only [List.getElem_toArray, List.getElem_cons_succ, List.getElem_cons_zero, Act.put, List.setIfInBounds_toArray, List.set_cons_zero, List.set_cons_succ]
  refine wpAnyH_take (i := 16) (v := ?_) rfl (by kernel_rfl) (by kernel_rfl) (by kernel_rfl) (fun _ _ _ h => h) (Or.inl ⟨by rfl, ?_⟩) HS7 ?_
  rotate_left
  · intro w hE; go_simp; try with_reducible rfl
  simp only [List.getElem_toArray, List.getElem_cons_succ, List.getElem_cons_zero, Act.put, List.setIfInBounds_toArray, List.set_cons_zero, List.set_cons_succ]
  refine wpAnyH_take (i := 17) (v := ?_) rfl (by kernel_rfl) (by kernel_rfl) (by kernel_rfl) (fun _ _ _ h => h) (Or.inl ⟨by rfl, ?_⟩) HS7 ?_
  rotate_left
  · intro w hE; go_simp; try with_reducible rfl
  simp only [List.getElem_toArray, List.getElem_cons_succ, List.getElem_cons_zero, Act.put, List.setIfInBounds_toArray, List.set_cons_zero, List.set_cons_succ]
  refine wpAnyH_take (i := 18) (v := ?_) rfl (by kernel_rfl) (by kernel_rfl) (by kernel_rfl) (fun _ _ _ h => h) (Or.inl ⟨by rfl, ?_⟩) HS7 ?_
  rotate_left
  · intro w hE; go_simp; try with_reducible rfl
  simp only [List.getElem_toArray, List.getElem_cons_succ, List.getElem_cons_zero, Act.put, List.setIfInBounds_toArray, List.set_cons_zero, List.set_cons_succ]
  refine wpAnyH_take (i := 19) (v := ?_) rfl (by kernel_rfl) (by kernel_rfl) (by kernel_rfl) (fun _ _ _ h => h) (Or.inl ⟨by rfl, ?_⟩) HS7 ?_
  rotate_left
  · intro w hE; go_simp; try with_reducible rfl
  simp only [List.getElem_toArray, List.getElem_cons_succ, List.getElem_cons_zero, Act.put, List.setIfInBounds_toArray, List.set_cons_zero, List.set_cons_succ]
  refine wpAnyH_take (i := 21) (v := ?_) rfl (by kernel_rfl) (by kernel_rfl) (by kernel_rfl) (fun _ _ _ h => h) (Or.inl ⟨by rfl, ?_⟩) HS7 ?_
  rotate_left
  · intro w hE; go_simp; try with_reducible rfl
  simp only [List.getElem_toArray, List.getElem_cons_succ, List.getElem_cons_zero, Act.put, List.setIfInBounds_toArray, List.set_cons_zero, List.set_cons_succ]
  refine wpAnyH_ready (rs := [20]) (by kernel_rfl) (by simp) ?_
  refine AllReadyH.cons rfl (fun K hK => ?_) AllReadyH.nil
  go_simp
  go_at_call 15
  refine (HWITHIN.out _ (HKEEP.out _ _ HE.out hxwF) (HR1.out.below hxwF) (HR2.out.below hxwF)).mono ?_
  rintro e wG ⟨rfl, hbwG⟩
  go_simp
  refine hK.out _ _ (hxwF.trans (hbwG.mono hxwF.size)) (fun HS8 => ?_)
  clear hK
  have hxwG := hxwF.trans (hbwG.mono hxwF.size)
  try simp only [List.getElem_toArray, List.getElem_cons_succ, List.getElem_cons_zero, Act.put, List.setIfInBounds_toArray, List.set_cons_zero, List.set_cons_succ]
  refine wpAnyH_take (i := 22) (v := ?_) rfl (by kernel_rfl) (by kernel_rfl) (by kernel_rfl) (fun _ _ _ h => h) (Or.inl ⟨by rfl, ?_⟩) HS8 ?_
  rotate_left
  · intro w hE; go_simp; try with_reducible rfl
  simp only [List.getElem_toArray, List.getElem_cons_succ, List.getElem_cons_zero, Act.put, List.setIfInBounds_toArray, List.set_cons_zero, List.set_cons_succ]
  refine wpAnyH_take (i := 23) (v := ?_) rfl (by kernel_rfl) (by kernel_rfl) (by kernel_rfl) (fun _ _ _ h => h) (Or.inl ⟨by rfl, ?_⟩) HS8 ?_
  rotate_left
  · intro w hE; go_simp; try with_reducible rfl
  simp only [List.getElem_toArray, List.getElem_cons_succ, List.getElem_cons_zero, Act.put, List.setIfInBounds_toArray, List.set_cons_zero, List.set_cons_succ]
  refine wpAnyH_take (i := 24) (v := ?_) rfl (by kernel_rfl) (by kernel_rfl) (by kernel_rfl) (fun _ _ _ h => h) (Or.inl ⟨by rfl, ?_⟩) HS8 ?_
  rotate_left
  · intro w hE; go_simp; try with_reducible rfl
  simp only [List.getElem_toArray, List.getElem_cons_succ, List.getElem_cons_zero, Act.put, List.setIfInBounds_toArray, List.set_cons_zero, List.set_cons_succ]
  refine wpAnyH_take (i := 25) (v := ?_) rfl (by kernel_rfl) (by kernel_rfl) (by kernel_rfl) (fun _ _ _ h => h) (Or.inl ⟨by rfl, ?_⟩) HS8 ?_
  rotate_left
  · intro w hE; go_simp; try with_reducible rfl
  simp only [List.getElem_toArray, List.getElem_cons_succ, List.getElem_cons_zero, Act.put, List.setIfInBounds_toArray, List.set_cons_zero, List.set_cons_succ]
  refine wpAnyH_take (i := 26) (v := ?_) rfl (by kernel_rfl) (by kernel_rfl) (by kernel_rfl) (fun _ _ _ h => h) (Or.inl ⟨by rfl, ?_⟩) HS8 ?_
  rotate_left
  · intro w hE; go_simp; try with_reducible rfl
  simp only [List.getElem_toArray, List.getElem_cons_succ, List.getElem_cons_zero, Act.put, List.setIfInBounds_toArray, List.set_cons_zero, List.set_cons_succ]
  refine wpAnyH_take (i := 28) (v := ?_) rfl (by kernel_rfl) (by kernel_rfl) (by kernel_rfl) (fun _ _ _ h => h) (Or.inl ⟨by rfl, ?_⟩) HS8 ?_
  rotate_left
  · intro w hE; go_simp; try with_reducible rfl
  simp only [List.getElem_toArray, List.getElem_cons_succ, List.getElem_cons_zero, Act.put, List.setIfInBounds_toArray, List.set_cons_zero, List.set_cons_succ]
  refine wpAnyH_ready (rs := [27]) (by kernel_rfl) (by simp) ?_
  refine AllReadyH.cons rfl (fun K hK => ?_) AllReadyH.nil
  go_simp
  go_at_call 16
  refine (HSAME.out _ (HKEEP.out _ _ HE.out hxwG) (HR1.out.below hxwG) (HR2.out.below hxwG)).mono ?_
  rintro e wH ⟨rfl, hbwH⟩
  go_simp
  refine hK.out _ _ (hxwG.trans (hbwH.mono hxwG.size)) (fun HS9 => ?_)
  clear hK
  have hxwH := hxwG.trans (hbwH.mono hxwG.size)
  try simp only [List.getElem_toArray, List.getElem_cons_succ, List.getElem_cons_zero, Act.put, List.setIfInBounds_toArray, List.set_cons_zero, List.set_cons_succ]
  refine wpAnyH_take (i := 29) (v := ?_) rfl (by kernel_rfl) (by kernel_rfl) (by kernel_rfl) (fun _ _ _ h => h) (Or.inl ⟨by rfl, ?_⟩) HS9 ?_
  rotate_left
  · intro w hE; go_simp; try with_reducible rfl
  simp only [List.getElem_toArray, List.getElem_cons_succ, List.getElem_cons_zero, Act.put, List.setIfInBounds_toArray, List.set_cons_zero, List.set_cons_succ]
  refine wpAnyH_take (i := 30) (v := ?_) rfl (by kernel_rfl) (by kernel_rfl) (by kernel_rfl) (fun _ _ _ h => h) (Or.inl ⟨by rfl, ?_⟩) HS9 ?_
  rotate_left
  · intro w hE; go_simp; try with_reducible rfl
  simp only [List.getElem_toArray, List.getElem_cons_succ, List.getElem_cons_zero, Act.put, List.setIfInBounds_toArray, List.set_cons_zero, List.set_cons_succ]
  refine wpAnyH_take (i := 31) (v := ?_) rfl (by kernel_rfl) (by kernel_rfl) (by kernel_rfl) (fun _ _ _ h => h) (Or.inl ⟨by rfl, ?_⟩) HS9 ?_
  rotate_left
  · intro w hE; go_simp; try with_reducible rfl
  simp only [List.getElem_toArray, List.getElem_cons_succ, List.getElem_cons_zero, Act.put, List.setIfInBounds_toArray, List.set_cons_zero, List.set_cons_succ]
  refine wpAnyH_take (i := 32) (v := ?_) rfl (by kernel_rfl) (by kernel_rfl) (by kernel_rfl) (fun _ _ _ h => h) (Or.inl ⟨by rfl, ?_⟩) HS9 ?_
  rotate_left
  · intro w hE; go_simp; try with_reducible rfl
  simp only [List.getElem_toArray, List.getElem_cons_succ, List.getElem_cons_zero, Act.put, List.setIfInBounds_toArray, List.set_cons_zero, List.set_cons_succ]
  refine wpAnyH_take (i := 33) (v := ?_) rfl (by kernel_rfl) (by kernel_rfl) (by kernel_rfl) (fun _ _ _ h => h) (Or.inl ⟨by rfl, ?_⟩) HS9 ?_
  rotate_left
  · intro w hE; go_simp; try with_reducible rfl
  simp only [List.getElem_toArray, List.getElem_cons_succ, List.getElem_cons_zero, Act.put, List.setIfInBounds_toArray, List.set_cons_zero, List.set_cons_succ]
  refine wpAnyH_take (i := 34) (v := ?_) rfl (by kernel_rfl) (by kernel_rfl) (by kernel_rfl) (fun _ _ _ h => h) (Or.inl ⟨by rfl, ?_⟩) HS9 ?_
  rotate_left
  · intro w hE; go_simp; try with_reducible rfl
  simp only [List.getElem_toArray, List.getElem_cons_succ, List.getElem_cons_zero, Act.put, List.setIfInBounds_toArray, List.set_cons_zero, List.set_cons_succ]
  refine wpAnyH_take (i := 35) (v := ?_) rfl (by kernel_rfl) (by kernel_rfl) (by kernel_rfl) (fun _ _ _ h => h) (Or.inl ⟨by rfl, ?_⟩) HS9 ?_
  rotate_left
  · intro w hE; go_simp; try with_reducible rfl
  simp only [List.getElem_toArray, List.getElem_cons_succ, List.getElem_cons_zero, Act.put, List.setIfInBounds_toArray, List.set_cons_zero, List.set_cons_succ]
  refine wpAnyH_take (i := 36) (v := ?_) rfl (by kernel_rfl) (by kernel_rfl) (by kernel_rfl) (fun _ _ _ h => h) (Or.inl ⟨by rfl, ?_⟩) HS9 ?_
  rotate_left
  · intro w hE; go_simp; try with_reducible rfl
  simp only [List.getElem_toArray, List.getElem_cons_succ, List.getElem_cons_zero, Act.put, List.setIfInBounds_toArray, List.set_cons_zero, List.set_cons_succ]
  refine wpAnyH_take (i := 38) (v := ?_) rfl (by kernel_rfl) (by kernel_rfl) (by kernel_rfl) (fun _ _ _ h => h) (Or.inl ⟨by rfl, ?_⟩) HS9 ?_
  rotate_left
  · intro w hE; go_simp; try with_reducible rfl
  simp only [List.getElem_toArray, List.getElem_cons_succ, List.getElem_cons_zero, Act.put, List.setIfInBounds_toArray, List.set_cons_zero, List.set_cons_succ]
  refine wpAnyH_take (i := 39) (v := ?_) rfl (by kernel_rfl) (by kernel_rfl) (by kernel_rfl) (fun _ _ _ h => h) (Or.inl ⟨by rfl, ?_⟩) HS9 ?_
  rotate_left
  · intro w hE; go_simp; try with_reducible rfl
  simp only [List.getElem_toArray, List.getElem_cons_succ, List.getElem_cons_zero, Act.put, List.setIfInBounds_toArray, List.set_cons_zero, List.set_cons_succ]
  refine wpAnyH_ready (rs := [37]) (by kernel_rfl) (by simp) ?_
  refine AllReadyH.cons rfl (fun K hK => ?_) AllReadyH.nil
  go_simp
  go_at_call 17
  refine (HAPART.out _ (HKEEP.out _ _ HE.out hxwH) (HR1.out.below hxwH) (HR2.out.below hxwH)).mono ?_
  rintro e wI ⟨rfl, hbwI⟩
  go_simp
  refine hK.out _ _ (hxwH.trans (hbwI.mono hxwH.size)) (fun HS10 => ?_)
  clear hK
  have hxwI := hxwH.trans (hbwI.mono hxwH.size)
  try simp only [List.getElem_toArray, List.getElem_cons_succ, List.getElem_cons_zero, Act.put, List.setIfInBounds_toArray, List.set_cons_zero, List.set_cons_succ]
  refine wpAnyH_take (i := 40) (v := ?_) rfl (by kernel_rfl) (by kernel_rfl) (by kernel_rfl) (fun _ _ _ h => h) (Or.inl ⟨by rfl, ?_⟩) HS10 ?_
  rotate_left
  · intro w hE; go_simp; try with_reducible rfl
  simp only [List.getElem_toArray, List.getElem_cons_succ, List.getElem_cons_zero, Act.put, List.setIfInBounds_toArray, List.set_cons_zero, List.set_cons_succ]
  refine wpAnyH_take (i := 41) (v := undef) rfl (by kernel_rfl) (by kernel_rfl) (by kernel_rfl) (fun _ _ _ h => h) (Or.inr ⟨by rfl, rfl⟩) HS10 ?_
  simp only [List.getElem_toArray, List.getElem_cons_succ, List.getElem_cons_zero, Act.put, List.setIfInBounds_toArray, List.set_cons_zero, List.set_cons_succ]
  refine wpAnyH_take (i := 42) (v := undef) rfl (by kernel_rfl) (by kernel_rfl) (by kernel_rfl) (fun _ _ _ h => h) (Or.inr ⟨by rfl, rfl⟩) HS10 ?_
  simp only [List.getElem_toArray, List.getElem_cons_succ, List.getElem_cons_zero, Act.put, List.setIfInBounds_toArray, List.set_cons_zero, List.set_cons_succ]
  refine wpAnyH_take (i := 43) (v := ?_) rfl (by kernel_rfl) (by kernel_rfl) (by kernel_rfl) (fun _ _ _ h => h) (Or.inl ⟨by rfl, ?_⟩) HS10 ?_
  rotate_left
  · intro w hE; go_simp; try with_reducible rfl
  simp only [List.getElem_toArray, List.getElem_cons_succ, List.getElem_cons_zero, Act.put, List.setIfInBounds_toArray, List.set_cons_zero, List.set_cons_succ]
  refine wpAnyH_take (i := 44) (v := ?_) rfl (by kernel_rfl) (by kernel_rfl) (by kernel_rfl) (fun _ _ _ h => h) (Or.inl ⟨by rfl, ?_⟩) HS10 ?_
  rotate_left
  · intro w hE; go_simp; try with_reducible rfl
  simp only [List.getElem_toArray, List.getElem_cons_succ, List.getElem_cons_zero, Act.put, List.setIfInBounds_toArray, List.set_cons_zero, List.set_cons_succ]
  refine wpAnyH_take (i := 45) (v := ?_) rfl (by kernel_rfl) (by kernel_rfl) (by kernel_rfl) (fun _ _ _ h => h) (Or.inl ⟨by rfl, ?_⟩) HS10 ?_
  rotate_left
  · intro w hE; go_simp; try with_reducible rfl
  simp only [List.getElem_toArray, List.getElem_cons_succ, List.getElem_cons_zero, Act.put, List.setIfInBounds_toArray, List.set_cons_zero, List.set_cons_succ]
  refine wpAnyH_take (i := 46) (v := ?_) rfl (by kernel_rfl) (by kernel_rfl) (by kernel_rfl) (fun _ _ _ h => h) (Or.inl ⟨by rfl, ?_⟩) HS10 ?_
  rotate_left
  · intro w hE; go_simp; try with_reducible rfl
  simp only [List.getElem_toArray, List.getElem_cons_succ, List.getElem_cons_zero, Act.put, List.setIfInBounds_toArray, List.set_cons_zero, List.set_cons_succ]
  refine wpAnyH_ready (rs := [47]) (by kernel_rfl) (by simp) ?_
  refine AllReadyH.cons rfl (fun K hK => ?_) AllReadyH.nil
  go_simp
  go_at_call 7
  refine (HAW.out _ (HKEEP.out _ _ HE.out hxwI)).mono ?_
  rintro e wJ ⟨rfl, hbwJ⟩
  go_simp
  refine hK.out _ _ (hxwI.trans (hbwJ.mono hxwI.size)) (fun HS11 => ?_)
  clear hK
  have hxwJ := hxwI.trans (hbwJ.mono hxwI.size)
  try simp only [List.getElem_toArray, List.getElem_cons_succ, List.getElem_cons_zero, Act.put, List.setIfInBounds_toArray, List.set_cons_zero, List.set_cons_succ]
  refine wpAnyH_take (i := 48) (v := ?_) rfl (by kernel_rfl) (by kernel_rfl) (by kernel_rfl) (fun _ _ _ h => h) (Or.inl ⟨by rfl, ?_⟩) HS11 ?_
  rotate_left
  · intro w hE; go_simp; try with_reducible rfl
  simp only [List.getElem_toArray, List.getElem_cons_succ, List.getElem_cons_zero, Act.put, List.setIfInBounds_toArray, List.set_cons_zero, List.set_cons_succ]
  refine wpAnyH_take (i := 49) (v := ?_) rfl (by kernel_rfl) (by kernel_rfl) (by kernel_rfl) (fun _ _ _ h => h) (Or.inl ⟨by rfl, ?_⟩) HS11 ?_
  rotate_left
  · intro w hE; go_simp; try with_reducible rfl
  simp only [List.getElem_toArray, List.getElem_cons_succ, List.getElem_cons_zero, Act.put, List.setIfInBounds_toArray, List.set_cons_zero, List.set_cons_succ]
  refine wpAnyH_done (by kernel_rfl) ?_ _
  refine NoPanic.normal ?_
  go_wp2
  go_ret
  exact ⟨rfl, hxy.trans (hxwJ.mono hxy.size)⟩

set_option maxRecDepth 20000 in
set_option maxHeartbeats 8000000 in
theorem orders_f {E : World → Prop} (K : ClockOk E) (xs ys : List Nat) (n1 c1 n2 c2 : Nat) (A1 A2 : Option Addr) (hn1 : n1 = xs.length) (hn2 : n2 = ys.length) (h1 : FitC xs) (h2 : FitC ys) (hp : withinB (padF xs) (padF ys) = false) (q : Bool) (hq : withinB (padF ys) (padF xs) = q) (w : World) (hE : E w) (hr1 : RdU w (.slice A1 n1 c1) xs) (hr2 : RdU w (.slice A2 n2 c2) ys) :
    Calls Try.prog 3 #[.slice A1 n1 c1, .slice A2 n2 c2] w fun e w' => e = .returned (.bool true) ∧ Below w.heap.size w w' := by
  have HE0 := Lib.hid hE
  have HKEEP := Lib.hid (fun w w' (h : E w) hb => K.keep (w' := w') h hb)
  have HAW := Lib.hid (fun W h => awake_any K W h)
  have HR1 := Lib.hid hr1
  have HR2 := Lib.hid hr2
  have HN1 := Lib.hid hn1
  have HN2 := Lib.hid hn2
  have hn64 : n1 ≤ 64 := by rw [hn1]; exact h1.1
  have hm64 : n2 ≤ 64 := by rw [hn2]; exact h2.1
  have HP1 := Lib.hid (padF_len h1.1)
  have HP2 := Lib.hid (padF_len h2.1)
  have HJOIN := Lib.hid (fun w2 h a b => K.join xs ys (.slice A1 n1 c1) (.slice A2 n2 c2) w2 h h1 h2 a b)
  have HRJOIN := Lib.hid (fun w2 => rjoin_form (padF xs) (padF ys) HP1.out HP2.out w2)
  have hij := fun v W h => is_any (joinV xs ys) (List.zipWith max (padF xs) (padF ys)) v (Nat.le_trans (join_len h1 h2) (by decide)) (zip_len HP1.out HP2.out) W h
  rw [decide_eq_true (show joinV xs ys = cutF (List.zipWith max (padF xs) (padF ys)) from rfl)] at hij
  have HISJ := Lib.hid hij
  have HMEET := Lib.hid (fun v w2 h a => K.meet [xs, ys] v w2 h (show 2 ≤ 20 by decide) (by intro zs hz; rcases List.mem_cons.1 hz with rfl | hz; exact h1; rcases List.mem_singleton.1 hz with rfl; exact h2) a)
  have HRMEET := Lib.hid (fun w2 => rmeet_form (padF xs) (padF ys) HP1.out HP2.out w2)
  have him := fun v W h => is_any (meetV [xs, ys]) (List.zipWith min (padF xs) (padF ys)) v (Nat.le_trans (cut_len (zip_len HP1.out HP2.out)) (by decide)) (zip_len HP1.out HP2.out) W h
  rw [decide_eq_true (show meetV [xs, ys] = cutF (List.zipWith min (padF xs) (padF ys)) from rfl)] at him
  have HISM := Lib.hid him
  have hwi := fun w2 h a b => K.within xs ys (.slice A1 n1 c1) (.slice A2 n2 c2) w2 h h1 h2 a b
  have hsa := fun w2 h a b => K.same xs ys (.slice A1 n1 c1) (.slice A2 n2 c2) w2 h h1 h2 a b
  have hap := fun w2 h a b => K.apart xs ys (.slice A1 n1 c1) (.slice A2 n2 c2) w2 h h1 h2 a b
  have hrw := fun w2 => rwithin_form (padF xs) (padF ys) HP1.out HP2.out w2
  have hrb := fun w2 => rwithin_form (padF ys) (padF xs) HP2.out HP1.out w2
  rw [hp] at hwi hsa hap hrw
  rw [hq] at hsa hap hrb
  simp only [Bool.true_and, Bool.false_and, Bool.not_true, Bool.not_false] at hsa hap
  have HWITHIN := Lib.hid hwi
  have HSAME := Lib.hid hsa
  have HAPART := Lib.hid hap
  have HRW := Lib.hid hrw
  have HRB := Lib.hid hrb
  clear hE hr1 hr2 hn1 hn2 hij him hwi hsa hap hrw hrb hp hq h1 h2 K
  go_enter Try.func3, Try.ntmps3
  go_wp2_with (first
    | (refine wp_storeF rfl _ _ rfl wb.heap.size rfl (List.replicate 64 0) (padF xs) rfl (twoF_start wb).1 HP1.out ?_; intro wc hrc hoc hbc; have HRC := Lib.hid hrc; have HOC := Lib.hid hoc; have HBC := Lib.hid hbc; clear hrc hoc hbc)
    | (refine wp_storeF rfl _ _ rfl (wb.heap.size + 1) rfl (List.replicate 64 0) (padF ys) rfl ((twoF_start wb).2.1.block (HOC.out _ (by omega))) HP2.out ?_; intro wd hrd hod hbd; have HRD := Lib.hid hrd; have HOD := Lib.hid hod; have HBD := Lib.hid hbd; clear hrd hod hbd)
    | (go_at_call 6; (with_reducible refine (short_form n1 c1 A1 (by omega) _).mono ?_); rintro e w1 ⟨rfl, rfl⟩)
    | (go_at_call 6; (with_reducible refine (short_form n2 c2 A2 (by omega) _).mono ?_); rintro e w1 ⟨rfl, rfl⟩)
    | (go_at_call 8; (with_reducible refine (rof_form xs n1 c1 A1 HN1.out (by omega) _ HR1.out).mono ?_); rintro e wa ⟨rfl, hba⟩)
    | (go_at_call 8; (with_reducible refine (rof_form ys n2 c2 A2 HN2.out (by omega) _ (HR2.out.below hba)).mono ?_); rintro e wb ⟨rfl, hbb⟩))
  have hxd : Below w.heap.size w wd := hba.trans ((hbb.trans (((twoF_start wb).2.2.trans ((HBC.out _ (Nat.le_refl _)).trans (HBD.out _ (Nat.le_succ _)))).mono hbb.size)).mono hba.size)
  have HRF := Lib.hid (HRC.out.block (HOD.out _ (show wb.heap.size ≠ wb.heap.size + 1 by omega)))
  have HRG := Lib.hid HRD.out
  clear hba hbb HRC HOC HBC HRD HOD HBD
  refine wp_region_noPanic ?_
  refine wp_region_below (by kernel_rfl) (fun HS0 => ?_)
  refine wpAnyH_take (i := 0) (v := _) rfl (by kernel_rfl) (by kernel_rfl) (by kernel_rfl) (fun _ _ _ h => h) (takeF (by rfl) _ rfl _ rfl _ (fun w hE => HRF.out.below hE)) HS0 ?_
  simp only [List.getElem_toArray, List.getElem_cons_succ, List.getElem_cons_zero, Act.put, List.setIfInBounds_toArray, List.set_cons_zero, List.set_cons_succ]
  refine wpAnyH_take (i := 1) (v := _) rfl (by kernel_rfl) (by kernel_rfl) (by kernel_rfl) (fun _ _ _ h => h) (takeF (by rfl) _ rfl _ rfl _ (fun w hE => HRG.out.below hE)) HS0 ?_
  simp only [List.getElem_toArray, List.getElem_cons_succ, List.getElem_cons_zero, Act.put, List.setIfInBounds_toArray, List.set_cons_zero, List.set_cons_succ]
  refine wpAnyH_take (i := 3) (v := _) rfl (by kernel_rfl) (by kernel_rfl) (by kernel_rfl) (fun _ _ _ h => h) (takeF (by rfl) _ rfl _ rfl _ (fun w hE => HRG.out.below hE)) HS0 ?_
  simp only [List.getElem_toArray, List.getElem_cons_succ, List.getElem_cons_zero, Act.put, List.setIfInBounds_toArray, List.set_cons_zero, List.set_cons_succ]
  refine wpAnyH_take (i := 4) (v := _) rfl (by kernel_rfl) (by kernel_rfl) (by kernel_rfl) (fun _ _ _ h => h) (takeF (by rfl) _ rfl _ rfl _ (fun w hE => HRF.out.below hE)) HS0 ?_
  simp only [List.getElem_toArray, List.getElem_cons_succ, List.getElem_cons_zero, Act.put, List.setIfInBounds_toArray, List.set_cons_zero, List.set_cons_succ]
  refine wpAnyH_ready (rs := [2]) (by kernel_rfl) (by simp) ?_
  refine AllReadyH.cons rfl (fun K hK => ?_) AllReadyH.nil
  go_simp
  go_at_call 9
  refine (HRW.out _).mono ?_
  rintro e wX ⟨rfl, hbwX⟩
  go_simp
  refine hK.out _ _ (HS0.trans hbwX) (fun HS1 => ?_)
  clear hK
  have hxwX := HS0.trans hbwX
  try simp only [List.getElem_toArray, List.getElem_cons_succ, List.getElem_cons_zero, Act.put, List.setIfInBounds_toArray, List.set_cons_zero, List.set_cons_succ]
  refine wpAnyH_ready (rs := [5]) (by kernel_rfl) (by simp) ?_
  refine AllReadyH.cons rfl (fun K hK => ?_) AllReadyH.nil
  go_simp
  go_at_call 9
  refine (HRB.out _).mono ?_
  rintro e wY ⟨rfl, hbwY⟩
  go_simp
  refine hK.out _ _ (hxwX.trans (hbwY.mono hxwX.size)) (fun HS2 => ?_)
  clear hK
  have hxwY := hxwX.trans (hbwY.mono hxwX.size)
  try simp only [List.getElem_toArray, List.getElem_cons_succ, List.getElem_cons_zero, Act.put, List.setIfInBounds_toArray, List.set_cons_zero, List.set_cons_succ]
  refine wpAnyH_take (i := 6) (v := ?_) rfl (by kernel_rfl) (by kernel_rfl) (by kernel_rfl) (fun _ _ _ h => h) (Or.inl ⟨by rfl, ?_⟩) HS2 ?_
  rotate_left
  · intro w hE; go_simp; try with_reducible rfl
  simp only [List.getElem_toArray, List.getElem_cons_succ, List.getElem_cons_zero, Act.put, List.setIfInBounds_toArray, List.set_cons_zero, List.set_cons_succ]
  refine wpAnyH_take (i := 7) (v := ?_) rfl (by kernel_rfl) (by kernel_rfl) (by kernel_rfl) (fun _ _ _ h => h) (Or.inl ⟨by rfl, ?_⟩) HS2 ?_
  rotate_left
  · intro w hE; go_simp; try with_reducible rfl
  simp only [List.getElem_toArray, List.getElem_cons_succ, List.getElem_cons_zero, Act.put, List.setIfInBounds_toArray, List.set_cons_zero, List.set_cons_succ]
  refine wpAnyH_done (by kernel_rfl) ?_ _
  refine NoPanic.normal ?_
  go_wp2_with fail
  have hxy := hxd.trans (hxwY.mono hxd.size)
  have HE := Lib.hid (HKEEP.out _ _ HE0.out hxy)
  have HR1 := Lib.hid (HR1.out.below hxy)
  have HR2 := Lib.hid (HR2.out.below hxy)
  have HRF := Lib.hid (HRF.out.below hxwY)
  have HRG := Lib.hid (HRG.out.below hxwY)
  clear hxwX hbwX hbwY hxd HS0
  refine wp_region_noPanic ?_
  refine wp_region_below (by kernel_rfl) (fun HS0 => ?_)
  refine wpAnyH_take (i := 0) (v := ?_) rfl (by kernel_rfl) (by kernel_rfl) (by kernel_rfl) (fun _ _ _ h => h) (Or.inl ⟨by rfl, ?_⟩) HS0 ?_
  rotate_left
  · intro w hE; go_simp; try with_reducible rfl
  simp only [List.getElem_toArray, List.getElem_cons_succ, List.getElem_cons_zero, Act.put, List.setIfInBounds_toArray, List.set_cons_zero, List.set_cons_succ]
  refine wpAnyH_take (i := 1) (v := ?_) rfl (by kernel_rfl) (by kernel_rfl) (by kernel_rfl) (fun _ _ _ h => h) (Or.inl ⟨by rfl, ?_⟩) HS0 ?_
  rotate_left
  · intro w hE; go_simp; try with_reducible rfl
  simp only [List.getElem_toArray, List.getElem_cons_succ, List.getElem_cons_zero, Act.put, List.setIfInBounds_toArray, List.set_cons_zero, List.set_cons_succ]
  refine wpAnyH_take (i := 3) (v := _) rfl (by kernel_rfl) (by kernel_rfl) (by kernel_rfl) (fun _ _ _ h => h) (takeF (by rfl) _ rfl _ rfl _ (fun w hE => HRF.out.below hE)) HS0 ?_
  simp only [List.getElem_toArray, List.getElem_cons_succ, List.getElem_cons_zero, Act.put, List.setIfInBounds_toArray, List.set_cons_zero, List.set_cons_succ]
  refine wpAnyH_take (i := 4) (v := _) rfl (by kernel_rfl) (by kernel_rfl) (by kernel_rfl) (fun _ _ _ h => h) (takeF (by rfl) _ rfl _ rfl _ (fun w hE => HRG.out.below hE)) HS0 ?_
  simp only [List.getElem_toArray, List.getElem_cons_succ, List.getElem_cons_zero, Act.put, List.setIfInBounds_toArray, List.set_cons_zero, List.set_cons_succ]
  refine wpAnyH_ready (rs := [2]) (by kernel_rfl) (by simp) ?_
  refine AllReadyH.cons rfl (fun K hK => ?_) AllReadyH.nil
  go_simp
  go_at_call 11
  refine (HJOIN.out _ (HKEEP.out _ _ HE.out HS0) (HR1.out.below HS0) (HR2.out.below HS0)).mono ?_
  rintro e wA ⟨vwA, rfl, hrwA, hbwA⟩
  go_simp
  refine hK.out _ _ (HS0.trans (hbwA.mono HS0.size)) (fun HS1 => ?_)
  clear hK
  have hxwA := HS0.trans (hbwA.mono HS0.size)
  have HRwA := Lib.hid hrwA
  clear hrwA
  try simp only [List.getElem_toArray, List.getElem_cons_succ, List.getElem_cons_zero, Act.put, List.setIfInBounds_toArray, List.set_cons_zero, List.set_cons_succ]
  refine wpAnyH_ready (rs := [5]) (by kernel_rfl) (by simp) ?_
  refine AllReadyH.cons rfl (fun K hK => ?_) AllReadyH.nil
  go_simp
  go_at_call 12
  refine (HRJOIN.out _).mono ?_
  rintro e wB ⟨rfl, hbwB⟩
  go_simp
  refine hK.out _ _ (hxwA.trans (hbwB.mono hxwA.size)) (fun HS2 => ?_)
  clear hK
  have hxwB := hxwA.trans (hbwB.mono hxwA.size)
  try simp only [List.getElem_toArray, List.getElem_cons_succ, List.getElem_cons_zero, Act.put, List.setIfInBounds_toArray, List.set_cons_zero, List.set_cons_succ]
  refine wpAnyH_ready (rs := [6]) (by kernel_rfl) (by simp) ?_
  refine AllReadyH.cons rfl (fun K hK => ?_) AllReadyH.nil
  go_simp
  go_at_call 10
  refine (HISJ.out _ _ (HRwA.out.below hbwB)).mono ?_
  rintro e wC ⟨rfl, hbwC⟩
  go_simp
  refine hK.out _ _ (hxwB.trans (hbwC.mono hxwB.size)) (fun HS3 => ?_)
  clear hK
  have hxwC := hxwB.trans (hbwC.mono hxwB.size)
  try simp only [List.getElem_toArray, List.getElem_cons_succ, List.getElem_cons_zero, Act.put, List.setIfInBounds_toArray, List.set_cons_zero, List.set_cons_succ]
  refine wpAnyH_take (i := 7) (v := ?_) rfl (by kernel_rfl) (by kernel_rfl) (by kernel_rfl) (fun _ _ _ h => h) (Or.inl ⟨by rfl, ?_⟩) HS3 ?_
  rotate_left
  · intro w hE; go_simp; try with_reducible rfl
  simp only [List.getElem_toArray, List.getElem_cons_succ, List.getElem_cons_zero, Act.put, List.setIfInBounds_toArray, List.set_cons_zero, List.set_cons_succ]
  refine wpAnyH_take (i := 8) (v := ?_) rfl (by kernel_rfl) (by kernel_rfl) (by kernel_rfl) (fun _ _ _ h => h) (Or.inl ⟨by rfl, ?_⟩) HS3 ?_
  rotate_left
  · intro w hE; go_simp; try with_reducible rfl
  simp only [List.getElem_toArray, List.getElem_cons_succ, List.getElem_cons_zero, Act.put, List.setIfInBounds_toArray, List.set_cons_zero, List.set_cons_succ]
  refine wpAnyH_take (i := 9) (v := ?_) rfl (by kernel_rfl) (by kernel_rfl) (by kernel_rfl) (fun _ _ _ h => h) (Or.inl ⟨by rfl, ?_⟩) HS3 ?_
  rotate_left
  · intro w hE; go_simp; try with_reducible rfl
  simp only [List.getElem_toArray, List.getElem_cons_succ, List.getElem_cons_zero, Act.put, List.setIfInBounds_toArray, List.set_cons_zero, List.set_cons_succ]
  refine wpAnyH_take (i := 12) (v := _) rfl (by kernel_rfl) (by kernel_rfl) (by kernel_rfl) (fun _ _ _ h => h) (takeF (by rfl) _ rfl _ rfl _ (fun w hE => HRF.out.below hE)) HS3 ?_
  simp only [List.getElem_toArray, List.getElem_cons_succ, List.getElem_cons_zero, Act.put, List.setIfInBounds_toArray, List.set_cons_zero, List.set_cons_succ]
  refine wpAnyH_take (i := 13) (v := _) rfl (by kernel_rfl) (by kernel_rfl) (by kernel_rfl) (fun _ _ _ h => h) (takeF (by rfl) _ rfl _ rfl _ (fun w hE => HRG.out.below hE)) HS3 ?_
  simp only [List.getElem_toArray, List.getElem_cons_succ, List.getElem_cons_zero, Act.put, List.setIfInBounds_toArray, List.set_cons_zero, List.set_cons_succ]
  refine wpAnyH_ready (rs := [10]) (by kernel_rfl) (by simp) ?_
  refine AllReadyH.cons rfl (fun K hK => ?_) AllReadyH.nil
  go_simp
  have hcc := RdC.two (w := wC) rfl (HR1.out.below hxwC) (HR2.out.below hxwC) 25
  refine hK.out _ _ (hxwC.alloc hxwC.size _) (fun HS4 => ?_)
  clear hK
  have HCC := Lib.hid hcc
  have hxC1 := hxwC.alloc hxwC.size (.cells #[.slice A1 n1 c1, .slice A2 n2 c2] 25)
  clear hcc
  try simp only [List.getElem_toArray, List.getElem_cons_succ, List.getElem_cons_zero, Act.put, List.setIfInBounds_toArray, List.set_cons_zero, List.set_cons_succ]
  refine wpAnyH_ready (rs := [11]) (by kernel_rfl) (by simp) ?_
  refine AllReadyH.cons rfl (fun K hK => ?_) AllReadyH.nil
  go_simp
  go_at_call 13
  refine (HMEET.out _ _ (HKEEP.out _ _ HE.out hxC1) HCC.out).mono ?_
  rintro e wD ⟨vwD, rfl, hrwD, hbwD⟩
  go_simp
  refine hK.out _ _ (hxC1.trans (hbwD.mono hxC1.size)) (fun HS5 => ?_)
  clear hK
  have hxwD := hxC1.trans (hbwD.mono hxC1.size)
  have HRwD := Lib.hid hrwD
  clear hrwD
  try simp only [List.getElem_toArray, List.getElem_cons_succ, List.getElem_cons_zero, Act.put, List.setIfInBounds_toArray, List.set_cons_zero, List.set_cons_succ]
  refine wpAnyH_ready (rs := [14]) (by kernel_rfl) (by simp) ?_
  refine AllReadyH.cons rfl (fun K hK => ?_) AllReadyH.nil
  go_simp
  go_at_call 14
  refine (HRMEET.out _).mono ?_
  rintro e wE ⟨rfl, hbwE⟩
  go_simp
  refine hK.out _ _ (hxwD.trans (hbwE.mono hxwD.size)) (fun HS6 => ?_)
  clear hK
  have hxwE := hxwD.trans (hbwE.mono hxwD.size)
  try simp only [List.getElem_toArray, List.getElem_cons_succ, List.getElem_cons_zero, Act.put, List.setIfInBounds_toArray, List.set_cons_zero, List.set_cons_succ]
  refine wpAnyH_ready (rs := [15]) (by kernel_rfl) (by simp) ?_
  refine AllReadyH.cons rfl (fun K hK => ?_) AllReadyH.nil
  go_simp
  go_at_call 10
  refine (HISM.out _ _ (HRwD.out.below hbwE)).mono ?_
  rintro e wF ⟨rfl, hbwF⟩
  go_simp
  refine hK.out _ _ (hxwE.trans (hbwF.mono hxwE.size)) (fun HS7 => ?_)
  clear hK
  have hxwF := hxwE.trans (hbwF.mono hxwE.size)
  try simp only [List.getElem_toArray, List.getElem_cons_succ, List.getElem_cons_zero, Act.put, List.setIfInBounds_toArray, List.set_cons_zero, List.set_cons_succ]
  refine wpAnyH_take (i := 16) (v := ?_) rfl (by kernel_rfl) (by kernel_rfl) (by kernel_rfl) (fun _ _ _ h => h) (Or.inl ⟨by rfl, ?_⟩) HS7 ?_
  rotate_left
  · intro w hE; go_simp; try with_reducible rfl
  simp only [List.getElem_toArray, List.getElem_cons_succ, List.getElem_cons_zero, Act.put, List.setIfInBounds_toArray, List.set_cons_zero, List.set_cons_succ]
  refine wpAnyH_take (i := 17) (v := ?_) rfl (by kernel_rfl) (by kernel_rfl) (by kernel_rfl) (fun _ _ _ h => h) (Or.inl ⟨by rfl, ?_⟩) HS7 ?_
  rotate_left
  · intro w hE; go_simp; try with_reducible rfl
  simp only [List.getElem_toArray, List.getElem_cons_succ, List.getElem_cons_zero, Act.put, List.setIfInBounds_toArray, List.set_cons_zero, List.set_cons_succ]
  refine wpAnyH_take (i := 18) (v := ?_) rfl (by kernel_rfl) (by kernel_rfl) (by kernel_rfl) (fun _ _ _ h => h) (Or.inl ⟨by rfl, ?_⟩) HS7 ?_
  rotate_left
  · intro w hE; go_simp; try with_reducible rfl
  simp only [List.getElem_toArray, List.getElem_cons_succ, List.getElem_cons_zero, Act.put, List.setIfInBounds_toArray, List.set_cons_zero, List.set_cons_succ]
  refine wpAnyH_take (i := 19) (v := ?_) rfl (by kernel_rfl) (by kernel_rfl) (by kernel_rfl) (fun _ _ _ h => h) (Or.inl ⟨by rfl, ?_⟩) HS7 ?_
  rotate_left
  · intro w hE; go_simp; try with_reducible rfl
  simp only [List.getElem_toArray, List.getElem_cons_succ, List.getElem_cons_zero, Act.put, List.setIfInBounds_toArray, List.set_cons_zero, List.set_cons_succ]
  refine wpAnyH_take (i := 21) (v := ?_) rfl (by kernel_rfl) (by kernel_rfl) (by kernel_rfl) (fun _ _ _ h => h) (Or.inl ⟨by rfl, ?_⟩) HS7 ?_
  rotate_left
  · intro w hE; go_simp; try with_reducible rfl
  simp only [List.getElem_toArray, List.getElem_cons_succ, List.getElem_cons_zero, Act.put, List.setIfInBounds_toArray, List.set_cons_zero, List.set_cons_succ]
  refine wpAnyH_ready (rs := [20]) (by kernel_rfl) (by simp) ?_
  refine AllReadyH.cons rfl (fun K hK => ?_) AllReadyH.nil
  go_simp
  go_at_call 15
  refine (HWITHIN.out _ (HKEEP.out _ _ HE.out hxwF) (HR1.out.below hxwF) (HR2.out.below hxwF)).mono ?_
  rintro e wG ⟨rfl, hbwG⟩
  go_simp
  refine hK.out _ _ (hxwF.trans (hbwG.mono hxwF.size)) (fun HS8 => ?_)
  clear hK
  have hxwG := hxwF.trans (hbwG.mono hxwF.size)
  try simp only [List.getElem_toArray, List.getElem_cons_succ, List.getElem_cons_zero, Act.put, List.setIfInBounds_toArray, List.set_cons_zero, List.set_cons_succ]
  refine wpAnyH_take (i := 22) (v := ?_) rfl (by kernel_rfl) (by kernel_rfl) (by kernel_rfl) (fun _ _ _ h => h) (Or.inl ⟨by rfl, ?_⟩) HS8 ?_
  rotate_left
  · intro w hE; go_simp; try with_reducible rfl
  simp only [List.getElem_toArray, List.getElem_cons_succ, List.getElem_cons_zero, Act.put, List.setIfInBounds_toArray, List.set_cons_zero, List.set_cons_succ]
  refine wpAnyH_take (i := 23) (v := ?_) rfl (by kernel_rfl) (by kernel_rfl) (by kernel_rfl) (fun _ _ _ h => h) (Or.inl ⟨by rfl, ?_⟩) HS8 ?_
  rotate_left
  · intro w hE; go_simp; try with_reducible rfl
  simp only [List.getElem_toArray, List.getElem_cons_succ, List.getElem_cons_zero, Act.put, List.setIfInBounds_toArray, List.set_cons_zero, List.set_cons_succ]
  refine wpAnyH_take (i := 24) (v := ?_) rfl (by kernel_rfl) (by kernel_rfl) (by kernel_rfl) (fun _ _ _ h => h) (Or.inl ⟨by rfl, ?_⟩) HS8 ?_
  rotate_left
  · intro w hE; go_simp; try with_reducible rfl
  simp only [List.getElem_toArray, List.getElem_cons_succ, List.getElem_cons_zero, Act.put, List.setIfInBounds_toArray, List.set_cons_zero, List.set_cons_succ]
  refine wpAnyH_take (i := 25) (v := ?_) rfl (by kernel_rfl) (by kernel_rfl) (by kernel_rfl) (fun _ _ _ h => h) (Or.inl ⟨by rfl, ?_⟩) HS8 ?_
  rotate_left
  · intro w hE; go_simp; try with_reducible rfl
  simp only [List.getElem_toArray, List.getElem_cons_succ, List.getElem_cons_zero, Act.put, List.setIfInBounds_toArray, List.set_cons_zero, List.set_cons_succ]
  refine wpAnyH_take (i := 26) (v := ?_) rfl (by kernel_rfl) (by kernel_rfl) (by kernel_rfl) (fun _ _ _ h => h) (Or.inl ⟨by rfl, ?_⟩) HS8 ?_
  rotate_left
  · intro w hE; go_simp; try with_reducible rfl
  simp only [List.getElem_toArray, List.getElem_cons_succ, List.getElem_cons_zero, Act.put, List.setIfInBounds_toArray, List.set_cons_zero, List.set_cons_succ]
  refine wpAnyH_take (i := 28) (v := ?_) rfl (by kernel_rfl) (by kernel_rfl) (by kernel_rfl) (fun _ _ _ h => h) (Or.inl ⟨by rfl, ?_⟩) HS8 ?_
  rotate_left
  · intro w hE; go_simp; try with_reducible rfl
  simp only [List.getElem_toArray, List.getElem_cons_succ, List.getElem_cons_zero, Act.put, List.setIfInBounds_toArray, List.set_cons_zero, List.set_cons_succ]
  refine wpAnyH_ready (rs := [27]) (by kernel_rfl) (by simp) ?_
  refine AllReadyH.cons rfl (fun K hK => ?_) AllReadyH.nil
  go_simp
  go_at_call 16
  refine (HSAME.out _ (HKEEP.out _ _ HE.out hxwG) (HR1.out.below hxwG) (HR2.out.below hxwG)).mono ?_
  rintro e wH ⟨rfl, hbwH⟩
  go_simp
  refine hK.out _ _ (hxwG.trans (hbwH.mono hxwG.size)) (fun HS9 => ?_)
  clear hK
  have hxwH := hxwG.trans (hbwH.mono hxwG.size)
  try simp only [List.getElem_toArray, List.getElem_cons_succ, List.getElem_cons_zero, Act.put, List.setIfInBounds_toArray, List.set_cons_zero, List.set_cons_succ]
  refine wpAnyH_take (i := 29) (v := ?_) rfl (by kernel_rfl) (by kernel_rfl) (by kernel_rfl) (fun _ _ _ h => h) (Or.inl ⟨by rfl, ?_⟩) HS9 ?_
  rotate_left
  · intro w hE; go_simp; try with_reducible rfl
  simp only [List.getElem_toArray, List.getElem_cons_succ, List.getElem_cons_zero, Act.put, List.setIfInBounds_toArray, List.set_cons_zero, List.set_cons_succ]
  refine wpAnyH_take (i := 30) (v := undef) rfl (by kernel_rfl) (by kernel_rfl) (by kernel_rfl) (fun _ _ _ h => h) (Or.inr ⟨by rfl, rfl⟩) HS9 ?_
  simp only [List.getElem_toArray, List.getElem_cons_succ, List.getElem_cons_zero, Act.put, List.setIfInBounds_toArray, List.set_cons_zero, List.set_cons_succ]
  refine wpAnyH_take (i := 31) (v := ?_) rfl (by kernel_rfl) (by kernel_rfl) (by kernel_rfl) (fun _ _ _ h => h) (Or.inl ⟨by rfl, ?_⟩) HS9 ?_
  rotate_left
  · intro w hE; go_simp; try with_reducible rfl
  simp only [List.getElem_toArray, List.getElem_cons_succ, List.getElem_cons_zero, Act.put, List.setIfInBounds_toArray, List.set_cons_zero, List.set_cons_succ]
  refine wpAnyH_take (i := 32) (v := ?_) rfl (by kernel_rfl) (by kernel_rfl) (by kernel_rfl) (fun _ _ _ h => h) (Or.inl ⟨by rfl, ?_⟩) HS9 ?_
  rotate_left
  · intro w hE; go_simp; try with_reducible rfl
  simp only [List.getElem_toArray, List.getElem_cons_succ, List.getElem_cons_zero, Act.put, List.setIfInBounds_toArray, List.set_cons_zero, List.set_cons_succ]
  refine wpAnyH_take (i := 33) (v := ?_) rfl (by kernel_rfl) (by kernel_rfl) (by kernel_rfl) (fun _ _ _ h => h) (Or.inl ⟨by rfl, ?_⟩) HS9 ?_
  rotate_left
  · intro w hE; go_simp; try with_reducible rfl
  simp only [List.getElem_toArray, List.getElem_cons_succ, List.getElem_cons_zero, Act.put, List.setIfInBounds_toArray, List.set_cons_zero, List.set_cons_succ]
  refine wpAnyH_take (i := 34) (v := ?_) rfl (by kernel_rfl) (by kernel_rfl) (by kernel_rfl) (fun _ _ _ h => h) (Or.inl ⟨by rfl, ?_⟩) HS9 ?_
  rotate_left
  · intro w hE; go_simp; try with_reducible rfl
  simp only [List.getElem_toArray, List.getElem_cons_succ, List.getElem_cons_zero, Act.put, List.setIfInBounds_toArray, List.set_cons_zero, List.set_cons_succ]
  refine wpAnyH_take (i := 35) (v := ?_) rfl (by kernel_rfl) (by kernel_rfl) (by kernel_rfl) (fun _ _ _ h => h) (Or.inl ⟨by rfl, ?_⟩) HS9 ?_
  rotate_left
  · intro w hE; go_simp; try with_reducible rfl
  simp only [List.getElem_toArray, List.getElem_cons_succ, List.getElem_cons_zero, Act.put, List.setIfInBounds_toArray, List.set_cons_zero, List.set_cons_succ]
  refine wpAnyH_take (i := 36) (v := ?_) rfl (by kernel_rfl) (by kernel_rfl) (by kernel_rfl) (fun _ _ _ h => h) (Or.inl ⟨by rfl, ?_⟩) HS9 ?_
  rotate_left
  · intro w hE; go_simp; try with_reducible rfl
  simp only [List.getElem_toArray, List.getElem_cons_succ, List.getElem_cons_zero, Act.put, List.setIfInBounds_toArray, List.set_cons_zero, List.set_cons_succ]
  refine wpAnyH_take (i := 38) (v := ?_) rfl (by kernel_rfl) (by kernel_rfl) (by kernel_rfl) (fun _ _ _ h => h) (Or.inl ⟨by rfl, ?_⟩) HS9 ?_
  rotate_left
  · intro w hE; go_simp; try with_reducible rfl
  simp only [List.getElem_toArray, List.getElem_cons_succ, List.getElem_cons_zero, Act.put, List.setIfInBounds_toArray, List.set_cons_zero, List.set_cons_succ]
  refine wpAnyH_take (i := 39) (v := ?_) rfl (by kernel_rfl) (by kernel_rfl) (by kernel_rfl) (fun _ _ _ h => h) (Or.inl ⟨by rfl, ?_⟩) HS9 ?_
  rotate_left
  · intro w hE; go_simp; try with_reducible rfl
  simp only [List.getElem_toArray, List.getElem_cons_succ, List.getElem_cons_zero, Act.put, List.setIfInBounds_toArray, List.set_cons_zero, List.set_cons_succ]
  refine wpAnyH_ready (rs := [37]) (by kernel_rfl) (by simp) ?_
  refine AllReadyH.cons rfl (fun K hK => ?_) AllReadyH.nil
  go_simp
  go_at_call 17
  refine (HAPART.out _ (HKEEP.out _ _ HE.out hxwH) (HR1.out.below hxwH) (HR2.out.below hxwH)).mono ?_
  rintro e wI ⟨rfl, hbwI⟩
  go_simp
  refine hK.out _ _ (hxwH.trans (hbwI.mono hxwH.size)) (fun HS10 => ?_)
  clear hK
  have hxwI := hxwH.trans (hbwI.mono hxwH.size)
  try simp only [List.getElem_toArray, List.getElem_cons_succ, List.getElem_cons_zero, Act.put, List.setIfInBounds_toArray, List.set_cons_zero, List.set_cons_succ]
  refine wpAnyH_take (i := 40) (v := ?_) rfl (by kernel_rfl) (by kernel_rfl) (by kernel_rfl) (fun _ _ _ h => h) (Or.inl ⟨by rfl, ?_⟩) HS10 ?_
  rotate_left
  · intro w hE; go_simp; try with_reducible rfl
  simp only [List.getElem_toArray, List.getElem_cons_succ, List.getElem_cons_zero, Act.put, List.setIfInBounds_toArray, List.set_cons_zero, List.set_cons_succ]
  refine wpAnyH_take (i := 41) (v := ?_) rfl (by kernel_rfl) (by kernel_rfl) (by kernel_rfl) (fun _ _ _ h => h) (Or.inl ⟨by rfl, ?_⟩) HS10 ?_
  rotate_left
  · intro w hE; go_simp; try with_reducible rfl
  simp only [List.getElem_toArray, List.getElem_cons_succ, List.getElem_cons_zero, Act.put, List.setIfInBounds_toArray, List.set_cons_zero, List.set_cons_succ]
  refine wpAnyH_take (i := 42) (v := ?_) rfl (by kernel_rfl) (by kernel_rfl) (by kernel_rfl) (fun _ _ _ h => h) (Or.inl ⟨by rfl, ?_⟩) HS10 ?_
  rotate_left
  · intro w hE; go_simp; try with_reducible rfl
  simp only [List.getElem_toArray, List.getElem_cons_succ, List.getElem_cons_zero, Act.put, List.setIfInBounds_toArray, List.set_cons_zero, List.set_cons_succ]
  refine wpAnyH_take (i := 43) (v := ?_) rfl (by kernel_rfl) (by kernel_rfl) (by kernel_rfl) (fun _ _ _ h => h) (Or.inl ⟨by rfl, ?_⟩) HS10 ?_
  rotate_left
  · intro w hE; go_simp; try with_reducible rfl
  simp only [List.getElem_toArray, List.getElem_cons_succ, List.getElem_cons_zero, Act.put, List.setIfInBounds_toArray, List.set_cons_zero, List.set_cons_succ]
  refine wpAnyH_take (i := 44) (v := ?_) rfl (by kernel_rfl) (by kernel_rfl) (by kernel_rfl) (fun _ _ _ h => h) (Or.inl ⟨by rfl, ?_⟩) HS10 ?_
  rotate_left
  · intro w hE; go_simp; try with_reducible rfl
  simp only [List.getElem_toArray, List.getElem_cons_succ, List.getElem_cons_zero, Act.put, List.setIfInBounds_toArray, List.set_cons_zero, List.set_cons_succ]
  refine wpAnyH_take (i := 45) (v := ?_) rfl (by kernel_rfl) (by kernel_rfl) (by kernel_rfl) (fun _ _ _ h => h) (Or.inl ⟨by rfl, ?_⟩) HS10 ?_
  rotate_left
  · intro w hE; go_simp; try with_reducible rfl
  simp only [List.getElem_toArray, List.getElem_cons_succ, List.getElem_cons_zero, Act.put, List.setIfInBounds_toArray, List.set_cons_zero, List.set_cons_succ]
  refine wpAnyH_take (i := 46) (v := ?_) rfl (by kernel_rfl) (by kernel_rfl) (by kernel_rfl) (fun _ _ _ h => h) (Or.inl ⟨by rfl, ?_⟩) HS10 ?_
  rotate_left
  · intro w hE; go_simp; try with_reducible rfl
  simp only [List.getElem_toArray, List.getElem_cons_succ, List.getElem_cons_zero, Act.put, List.setIfInBounds_toArray, List.set_cons_zero, List.set_cons_succ]
  refine wpAnyH_ready (rs := [47]) (by kernel_rfl) (by simp) ?_
  refine AllReadyH.cons rfl (fun K hK => ?_) AllReadyH.nil
  go_simp
  go_at_call 7
  refine (HAW.out _ (HKEEP.out _ _ HE.out hxwI)).mono ?_
  rintro e wJ ⟨rfl, hbwJ⟩
  go_simp
  refine hK.out _ _ (hxwI.trans (hbwJ.mono hxwI.size)) (fun HS11 => ?_)
  clear hK
  have hxwJ := hxwI.trans (hbwJ.mono hxwI.size)
  try simp only [List.getElem_toArray, List.getElem_cons_succ, List.getElem_cons_zero, Act.put, List.setIfInBounds_toArray, List.set_cons_zero, List.set_cons_succ]
  refine wpAnyH_take (i := 48) (v := ?_) rfl (by kernel_rfl) (by kernel_rfl) (by kernel_rfl) (fun _ _ _ h => h) (Or.inl ⟨by rfl, ?_⟩) HS11 ?_
  rotate_left
  · intro w hE; go_simp; try with_reducible rfl
  simp only [List.getElem_toArray, List.getElem_cons_succ, List.getElem_cons_zero, Act.put, List.setIfInBounds_toArray, List.set_cons_zero, List.set_cons_succ]
  refine wpAnyH_take (i := 49) (v := ?_) rfl (by kernel_rfl) (by kernel_rfl) (by kernel_rfl) (fun _ _ _ h => h) (Or.inl ⟨by rfl, ?_⟩) HS11 ?_
  rotate_left
  · intro w hE; go_simp; try with_reducible rfl
  simp only [List.getElem_toArray, List.getElem_cons_succ, List.getElem_cons_zero, Act.put, List.setIfInBounds_toArray, List.set_cons_zero, List.set_cons_succ]
  refine wpAnyH_done (by kernel_rfl) ?_ _
  refine NoPanic.normal ?_
  go_wp2
  go_ret
  exact ⟨rfl, hxy.trans (hxwJ.mono hxy.size)⟩

theorem RdU.len {w : World} {v : Value} {ns : List Nat} (h : RdU w v ns) : ns.length ≤ maxLen := by
  rcases h with ⟨_, _, _, rfl, _⟩ | ⟨_, _, cap, _, h1, h2, _⟩
  · exact Nat.zero_le _
  · exact Nat.le_trans h1 h2
set_option maxRecDepth 20000 in
set_option maxHeartbeats 1000000 in
theorem orders_any {E : World → Prop} (K : ClockOk E) (xs ys : List Nat) (v u : Value) (h1 : ∀ x ∈ xs, x < 18446744073709551616) (h2 : ∀ x ∈ ys, x < 18446744073709551616) (w : World) (hE : E w) (hr1 : RdU w v xs) (hr2 : RdU w u ys) :
    Calls Try.prog 3 #[v, u] w fun e w' => e = .returned (.bool true) ∧ Below w.heap.size w w' := by
  have l1 := hr1.len
  have l2 := hr2.len
  unfold maxLen at l1 l2
  obtain ⟨A1, n1, c1, rfl, hn1⟩ := hr1.named
  obtain ⟨A2, n2, c2, rfl, hn2⟩ := hr2.named
  by_cases s1 : n1 ≤ 64
  · by_cases s2 : n2 ≤ 64
    · cases hp : withinB (padF xs) (padF ys)
      · exact orders_f K xs ys n1 c1 n2 c2 A1 A2 hn1 hn2 ⟨hn1 ▸ s1, h1⟩ ⟨hn2 ▸ s2, h2⟩ hp _ rfl w hE hr1 hr2
      · exact orders_t K xs ys n1 c1 n2 c2 A1 A2 hn1 hn2 ⟨hn1 ▸ s1, h1⟩ ⟨hn2 ▸ s2, h2⟩ hp _ rfl w hE hr1 hr2
    · have HAW := Lib.hid (awake_any K w hE)
      have d1 : decide (n1 ≤ 64) = true := decide_eq_true s1
      have d2 : decide (n2 ≤ 64) = false := decide_eq_false s2
      have hs1 := short_form n1 c1 A1 (by omega) w
      have hs2 := short_form n2 c2 A2 (by omega) w
      rw [d1] at hs1
      rw [d2] at hs2
      clear hr1 hr2 hn1 hn2 h1 h2 K hE s1 s2 d1 d2
      go_enter Try.func3, Try.ntmps3
      go_wp2_with (first
        | (go_at_call 6; (with_reducible refine hs1.mono ?_); rintro e w1 ⟨rfl, rfl⟩)
        | (go_at_call 6; (with_reducible refine hs2.mono ?_); rintro e w1 ⟨rfl, rfl⟩)
        | (go_at_call 7; (with_reducible refine (HAW.out).mono ?_); rintro e w1 ⟨rfl, hb1⟩))
      go_ret
      exact ⟨rfl, hb1⟩
  · have HAW := Lib.hid (awake_any K w hE)
    have d1 : decide (n1 ≤ 64) = false := decide_eq_false s1
    have hs1 := short_form n1 c1 A1 (by omega) w
    rw [d1] at hs1
    clear hr1 hr2 hn1 hn2 h1 h2 K hE s1 d1
    go_enter Try.func3, Try.ntmps3
    go_wp2_with (first
      | (go_at_call 6; (with_reducible refine hs1.mono ?_); rintro e w1 ⟨rfl, rfl⟩)
      | (go_at_call 7; (with_reducible refine (HAW.out).mono ?_); rintro e w1 ⟨rfl, hb1⟩))
    go_ret
    exact ⟨rfl, hb1⟩
end Go.Proofs.Ytepafmoohlognaa
