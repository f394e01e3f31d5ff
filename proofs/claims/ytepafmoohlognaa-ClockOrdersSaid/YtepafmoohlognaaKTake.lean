/-
The reference of stage 6: Take, by a contract.
-/
import Derived.Test.YtepafmoohlognaaKTakeM
import Derived.Test.YtepafmoohlognaaWTake
namespace Go.Proofs.Ytepafmoohlognaa
open Go.RowKit
open Wire (numL valL takeL runL bytesL)

def clkF : Option (List Nat × Nat) → List Nat
  | some (xs, _) => padF xs
  | none => List.replicate 64 0
def clkM : Option (List Nat × Nat) → Nat
  | some (_, m) => m
  | none => 0
theorem TwoF.below {w wr w' : World} {Z F : List Nat} (h : TwoF w wr Z F) (hb : Below wr.heap.size wr w') : TwoF w w' Z F :=
  ⟨h.1.below hb, h.2.1.below hb, h.2.2.trans (hb.mono h.2.2.size)⟩
theorem padF_snoc {ys : List Nat} {x : Nat} (h : ys.length < 64) : (padF ys).set ys.length x = padF (ys ++ [x]) := by
  unfold padF
  rw [List.set_append, if_neg (by omega), Nat.sub_self, show 64 - ys.length = (64 - (ys.length + 1)) + 1 from by omega, List.replicate_succ, List.set_cons_zero, List.length_append, List.append_assoc]
  rfl
theorem padF_get {ys : List Nat} {k x : Nat} (h : ys[k]? = some x) : (padF ys)[k]? = some x := by
  unfold padF
  rw [List.getElem?_append_left (List.getElem?_eq_some_iff.1 h).1]; exact h

set_option maxRecDepth 20000 in
set_option maxHeartbeats 2000000 in
theorem ktake_form (b : List Nat) (nb c : Nat) (A : Option Addr) (hn : nb = b.length) (hl : nb ≤ 100000) (hx : ∀ x ∈ b, x < 256) (w : World) (h : Rd w (.slice A nb c) b) :
    Calls Try.prog 22 #[.slice A nb c] w fun e w' => e = .returned (.tuple #[.agg (fullA (clkF (clkT b))), .int .i64 (clkM (clkT b) : Nat)]) ∧ Below w.heap.size w w' := by
  have HN := Lib.hid hn
  have HX := Lib.hid hx
  have HR := Lib.hid h
  have HS0 := Lib.hid (twoF_start w)
  have htk := rtake_any (.slice A nb c) b _ (h.below (twoF_start w).2.2) (by omega) hx
  have hle := Wire.takeL_le b
  obtain ⟨a0, ha0⟩ : ∃ a0, a0 = (takeL b).2 := ⟨_, rfl⟩
  obtain ⟨n0, hn0⟩ : ∃ n0, n0 = (takeL b).1 := ⟨_, rfl⟩
  rw [← ha0, ← hn0] at htk hle
  have HTK := Lib.hid htk
  have HA0 := Lib.hid ha0
  have HN0 := Lib.hid hn0
  have hle1 : a0 ≤ nb := by omega
  have hle2 := hle.2
  clear h hx htk hle ha0 hn0
  by_cases h0 : a0 = 0
  · have hno : clkT b = none := by unfold clkT; rw [if_pos (.inl (by rw [← HA0.out]; exact h0))]
    have HNO := Lib.hid hno
    have t0 : ((a0 : Int) == 0) = true := by simp; exact h0
    clear h0 hno hn
    go_enter Try.func22, Try.ntmps22
    go_wp2_with fail
    refine (HTK.out).mono ?_
    rintro e w1 ⟨rfl, hb1⟩
    have HT1 := Lib.hid (HS0.out.below hb1)
    go_wp2_with (refine wp_storeF rfl _ _ rfl w.heap.size rfl _ (List.replicate 64 0) rfl HT1.out.1 (by simp) ?_; intro wz hrz hoz hbz; have HRZ := Lib.hid hrz; have HBZ := Lib.hid hbz; clear hrz hoz hbz)
    refine bodyPost_ret (v := .tuple #[.agg (fullA (List.replicate 64 0)), .int .i64 0]) ?_ rfl ⟨by rw [HNO.out]; rfl, HT1.out.2.2.trans (HBZ.out _ (Nat.le_refl _))⟩
    simp [results, Try.results22, Act.put, asAddr, loadF HRZ.out]
  · have t0 : ((a0 : Int) == 0) = false := by simp; exact h0
    by_cases h64 : 64 < n0
    · have hno : clkT b = none := by unfold clkT; rw [if_pos (.inr (by rw [← HN0.out]; exact h64))]
      have HNO := Lib.hid hno
      clear h0 hno hn
      go_enter Try.func22, Try.ntmps22
      go_wp2_with fail
      refine (HTK.out).mono ?_
      rintro e w1 ⟨rfl, hb1⟩
      have HT1 := Lib.hid (HS0.out.below hb1)
      go_wp2_with (refine wp_storeF rfl _ _ rfl w.heap.size rfl _ (List.replicate 64 0) rfl HT1.out.1 (by simp) ?_; intro wz hrz hoz hbz; have HRZ := Lib.hid hrz; have HBZ := Lib.hid hbz; clear hrz hoz hbz)
      refine bodyPost_ret (v := .tuple #[.agg (fullA (List.replicate 64 0)), .int .i64 0]) ?_ rfl ⟨by rw [HNO.out]; rfl, HT1.out.2.2.trans (HBZ.out _ (Nat.le_refl _))⟩
      simp [results, Try.results22, Act.put, asAddr, loadF HRZ.out]
    · have hn64 : n0 ≤ 64 := by omega
      have hclk : clkT b = match takeNums n0 (b.drop a0) with
          | some (xs, k) => if xs.getLast? = some 0 then none else some (xs, a0 + k)
          | none => none := by
        unfold clkT
        rw [← HA0.out, ← HN0.out, if_neg (by omega)]
        rfl
      have HCLK := Lib.hid hclk
      have hwn : IntKind.i64.wrap (n0 : Int) = (n0 : Int) := by rw [IntKind.wrap_i64]; omega
      have hwn2 : wrap64 (n0 : Int) = (n0 : Int) := by unfold wrap64; omega
      clear h64 h0 hclk hn
      go_enter Try.func22, Try.ntmps22
      go_wp2_with fail
      refine (HTK.out).mono ?_
      rintro e w1 ⟨rfl, hb1⟩
      have HT1 := Lib.hid (HS0.out.below hb1)
      go_wp2
      go_loopw [6, 7] (fun av iv wr => ∃ (k a : Nat), k ≤ n0 ∧ a ≤ nb ∧ av = .int .i64 (a : Int) ∧ iv = .int .i64 (k : Int) ∧ Hid (∃ ys : List Nat, ys.length = k ∧ TwoF w wr (List.replicate 64 0) (padF ys) ∧ joinN ys a (takeNums (n0 - k) (b.drop a)) = joinN [] a0 (takeNums n0 (b.drop a0)))) (fun _ iv _ => n0 - (intOf iv).toNat)
      case atStart => exact ⟨0, a0, Nat.zero_le _, hle1, rfl, rfl, Lib.hid ⟨[], rfl, by simpa [padF] using HT1.out, by simp⟩⟩
      case round =>
        obtain ⟨k, a, hk, ha, rfl, rfl, HI⟩ := hrel
        obtain ⟨ys, hys, hT, hJ⟩ := HI.out
        have HT := Lib.hid hT
        by_cases hkn : k < n0
        · have hq := fun W => slice_run A nb c a ha W
          have hcut := (HR.out.cutV a ha).below hT.2.2
          obtain ⟨AA, p, cc, hsv⟩ : ∃ AA p cc, sliceV A nb c a = .slice AA p cc := ⟨_, _, _, rfl⟩
          rw [hsv] at hq hcut
          have htk2 := rtake_any (.slice AA p cc) (b.drop a) wr hcut (by rw [List.length_drop]; have := HN.out; omega) (fun x hxm => HX.out x (List.mem_of_mem_drop hxm))
          have hle3 := Wire.takeL_le (b.drop a)
          obtain ⟨m, hm⟩ : ∃ m, n0 = k + (m + 1) := ⟨n0 - k - 1, by omega⟩
          have HM := Lib.hid hm
          rw [show n0 - k = m + 1 from by omega] at hJ
          clear hm
          have hst := takeNums_step (n := m) (b := b.drop a) ys a
          have hnn := takeNums_none (n := m) (b := b.drop a) ys a
          rw [List.length_drop] at hle3
          generalize hk2 : (takeL (b.drop a)).2 = k2 at *
          generalize hx2 : (takeL (b.drop a)).1 = x2 at *
          have HTK2 := Lib.hid htk2
          have hx64 := hle3.2
          have hak : a + k2 ≤ nb := by have := HN.out; omega
          clear hsv hcut htk2 hle3 hT
          by_cases hz : k2 = 0
          · have hno : clkT b = none := by
              rw [HCLK.out]
              have := hnn hz
              rw [hJ] at this
              cases ho : takeNums n0 (b.drop a0) with
              | none => rfl
              | some r => rw [ho] at this; cases this
            have HNO := Lib.hid hno
            have t2 : ((k2 : Int) == 0) = true := by simp; exact hz
            clear hno hz hst hnn hJ HI hk2 hx2
            go_wp2_with fail
            refine (HTK2.out).mono ?_
            rintro e w2 ⟨rfl, hb2⟩
            have HT2 := Lib.hid (HT.out.below hb2)
            go_wp2_with (refine wp_storeF rfl _ _ rfl w.heap.size rfl _ (List.replicate 64 0) rfl HT2.out.1 (by simp) ?_; intro wz hrz hoz hbz; have HRZ := Lib.hid hrz; have HBZ := Lib.hid hbz; clear hrz hoz hbz)
            refine bodyPost_ret (v := .tuple #[.agg (fullA (List.replicate 64 0)), .int .i64 0]) ?_ rfl ⟨by rw [HNO.out]; rfl, HT2.out.2.2.trans (HBZ.out _ (Nat.le_refl _))⟩
            simp [results, Try.results22, Act.put, asAddr, loadF HRZ.out]
          · have t2 : ((k2 : Int) == 0) = false := by simp; exact hz
            have hst2 := hst hz
            rw [hJ, List.drop_drop] at hst2
            have HST := Lib.hid hst2
            have HYS := Lib.hid hys
            have hk64 : k < 64 := by omega
            have hpg : (padF ys)[k]? = some 0 := by
              have := padK_get (xs := ys) (k := k) (by omega) hk64
              rwa [padK_end hys.symm] at this
            have HPG := Lib.hid hpg
            have HPS := Lib.hid (padF_snoc (ys := ys) (x := x2) (by omega))
            clear hst hnn hJ HI hk2 hx2 hst2 hz hys hpg
            go_wp2_with fail
            refine (HTK2.out).mono ?_
            rintro e w2 ⟨rfl, hb2⟩
            have HT2 := Lib.hid (HT.out.below hb2)
            have q0 := HT2.out.2.1.cell HPG.out
            have f0 := HT2.out.2.1.frozen k
            go_wp2
            go_roundw
            case rel => exact ⟨k + 1, a + k2, by omega, hak, by go_num, by go_num, Lib.hid ⟨ys ++ [x2], by rw [List.length_append, HYS.out]; rfl, HT2.out.set x2 (by rw [← HYS.out]; exact HPS.out), by rw [show n0 - (k + 1) = m from by have := HM.out; omega]; exact HST.out.symm⟩⟩
            case measure => simp [intOf]; omega
        · obtain rfl : k = n0 := by omega
          rw [Nat.sub_self] at hJ
          have hJ2 : joinN ys a (takeNums 0 (b.drop a)) = some (ys, a) := by simp [takeNums, joinN]
          rw [hJ2] at hJ
          have hres : ∃ k3, takeNums k (b.drop a0) = some (ys, k3) ∧ a0 + k3 = a := by
            cases ho : takeNums k (b.drop a0) with
            | none => rw [ho] at hJ; cases hJ
            | some r =>
              obtain ⟨r1, r2⟩ := r
              rw [ho] at hJ
              simp only [joinN, List.nil_append, Option.some.injEq, Prod.mk.injEq] at hJ
              exact ⟨r2, by rw [hJ.1], hJ.2.symm⟩
          obtain ⟨k3, hr3, ha3⟩ := hres
          have hc2 : clkT b = if ys.getLast? = some 0 then none else some (ys, a) := by
            rw [HCLK.out, hr3]
            simp only
            rw [ha3]
          have HC2 := Lib.hid hc2
          have HPL := Lib.hid (padF_len (xs := ys) (by omega))
          clear hJ hJ2 hr3 ha3 hc2 HI hkn hT
          rcases Nat.eq_zero_or_pos k with hk0 | hk0
          · subst hk0
            have hys0 : ys = [] := List.eq_nil_of_length_eq_zero hys
            have hok : clkT b = some (ys, a) := by rw [HC2.out, hys0]; rfl
            have HOK := Lib.hid hok
            clear hys hys0 hok
            go_wp2_with (first
              | (refine wp_loadF rfl _ rfl (w.heap.size + 1) rfl _ HT.out.2.1 ?_)
              | (refine wp_storeF rfl _ _ rfl w.heap.size rfl _ (padF ys) rfl HT.out.1 HPL.out ?_; intro wz hrz hoz hbz; have HRZ := Lib.hid hrz; have HBZ := Lib.hid hbz; clear hrz hoz hbz))
            refine bodyPost_ret (v := .tuple #[.agg (fullA (padF ys)), .int .i64 (a : Int)]) ?_ rfl ⟨by rw [HOK.out]; rfl, HT.out.2.2.trans (HBZ.out _ (Nat.le_refl _))⟩
            simp [results, Try.results22, Act.put, asAddr, loadF HRZ.out]
          · obtain ⟨m, rfl⟩ : ∃ m, k = m + 1 := ⟨k - 1, by omega⟩
            obtain ⟨x, hx⟩ : ∃ x, ys[m]? = some x := ⟨_, List.getElem?_eq_getElem (by omega)⟩
            have hlast : ys.getLast? = some x := by
              rw [List.getLast?_eq_getElem?, hys, Nat.add_sub_cancel]; exact hx
            have q0 := HT.out.2.1.cell (padF_get hx)
            rw [hlast] at HC2
            clear hlast hx hys
            by_cases hx0 : x = 0
            · have hno : clkT b = none := by rw [HC2.out, hx0]; rfl
              have HNO := Lib.hid hno
              have t2 : ((x : Int) == 0) = true := by simp; exact hx0
              clear hx0 hno HC2
              go_wp2_with (refine wp_storeF rfl _ _ rfl w.heap.size rfl _ (List.replicate 64 0) rfl HT.out.1 (by simp) ?_; intro wz hrz hoz hbz; have HRZ := Lib.hid hrz; have HBZ := Lib.hid hbz; clear hrz hoz hbz)
              refine bodyPost_ret (v := .tuple #[.agg (fullA (List.replicate 64 0)), .int .i64 0]) ?_ rfl ⟨by rw [HNO.out]; rfl, HT.out.2.2.trans (HBZ.out _ (Nat.le_refl _))⟩
              simp [results, Try.results22, Act.put, asAddr, loadF HRZ.out]
            · have hok : clkT b = some (ys, a) := by
                rw [HC2.out, if_neg]
                intro e
                injection e with e
                exact hx0 e
              have HOK := Lib.hid hok
              have t2 : ((x : Int) == 0) = false := by simp; exact hx0
              clear hx0 hok HC2
              go_wp2_with (first
                | (refine wp_loadF rfl _ rfl (w.heap.size + 1) rfl _ HT.out.2.1 ?_)
                | (refine wp_storeF rfl _ _ rfl w.heap.size rfl _ (padF ys) rfl HT.out.1 HPL.out ?_; intro wz hrz hoz hbz; have HRZ := Lib.hid hrz; have HBZ := Lib.hid hbz; clear hrz hoz hbz))
              refine bodyPost_ret (v := .tuple #[.agg (fullA (padF ys)), .int .i64 (a : Int)]) ?_ rfl ⟨by rw [HOK.out]; rfl, HT.out.2.2.trans (HBZ.out _ (Nat.le_refl _))⟩
              simp [results, Try.results22, Act.put, asAddr, loadF HRZ.out]
end Go.Proofs.Ytepafmoohlognaa
