/-
The law WirePuts, over the Writer's contracts. (Made over a trial text of the verifier's own.)
-/
import Derived.Test.YtcgkigcokjdkjaaWWrite2
import Derived.Deep.RegionHeld3
namespace Go.Proofs.Ytcgkigcokjdkjaa
open Go.RowKit
open Wire (numL valL takeL runL bytesL)

/-- The slice value v reads as these acts. -/
def RdAct (w : World) (v : Value) (l : List (Int × Nat × List Nat)) : Prop :=
  (∃ p c, v = .slice p 0 c ∧ l = []) ∨ ∃ b off cap, v = .slice (some ⟨b, off, none⟩) l.length cap ∧ l.length ≤ cap ∧ cap ≤ maxLen ∧ b < w.heap.size ∧
    ∀ j a, l[j]? = some a → w.cell? ⟨b, off + j * 3, none⟩ = some (.int .i64 a.1) ∧ w.cell? ⟨b, off + j * 3 + 1, none⟩ = some (.int .u64 (a.2.1 : Nat)) ∧ ∃ u, w.cell? ⟨b, off + j * 3 + 2, none⟩ = some u ∧ Rd w u a.2.2
def FitAct (l : List (Int × Nat × List Nat)) : Prop := ∀ a ∈ l, (-9223372036854775808 ≤ a.1 ∧ a.1 ≤ 9223372036854775807) ∧ a.2.1 < 18446744073709551616 ∧ ∀ x ∈ a.2.2, x < 256
def putA (a : Int × Nat × List Nat) : List Nat := if a.1 = 0 then numL a.2.1 else bytesL a.2.2
def putL (l : List (Int × Nat × List Nat)) : List Nat := (l.map putA).flatten
theorem putL_snoc {l : List (Int × Nat × List Nat)} {k : Nat} {a : Int × Nat × List Nat} (h : l[k]? = some a) : putL (l.take (k + 1)) = putL (l.take k) ++ putA a := by
  rw [List.take_add_one, h]; simp [putL]

theorem RdAct.at_ {w : World} {A : Option Addr} {n c k : Nat} {l : List (Int × Nat × List Nat)} {a : Int × Nat × List Nat} (h : RdAct w (.slice A n c) l) (hx : l[k]? = some a) :
    ∃ b off A2 m c2, A = some ⟨b, off, none⟩ ∧ m = a.2.2.length ∧ ∀ w', Below w.heap.size w w' →
      w'.cell? ⟨b, off + k * 3, none⟩ = some (.int .i64 a.1) ∧ w'.cell? ⟨b, off + k * 3 + 1, none⟩ = some (.int .u64 (a.2.1 : Nat)) ∧ w'.cell? ⟨b, off + k * 3 + 2, none⟩ = some (.slice A2 m c2) ∧ Rd w' (.slice A2 m c2) a.2.2 := by
  rcases h with ⟨p, c', hv, rfl⟩ | ⟨b, off, cap, hv, hcap, hm, hb, hc⟩
  · simp at hx
  · simp only [Value.slice.injEq] at hv
    obtain ⟨rfl, _, _⟩ := hv
    obtain ⟨h0, h1, u, h2, hr⟩ := hc k a hx
    obtain ⟨A2, m, c2, rfl, hm2⟩ := hr.named
    exact ⟨b, off, A2, m, c2, rfl, hm2, fun w' hw => ⟨by rw [bcell hw _ _ hb]; exact h0, by rw [bcell hw _ _ hb]; exact h1, by rw [bcell hw _ _ hb]; exact h2, hr.below hw⟩⟩

/-- A Writer and another row, apart. -/
structure Two (B : Nat) (w : World) (g : Nat) (v u : Value) (xs ys : List Nat) : Prop where
  wr : Wr B w g v xs
  own : Own B w u ys
  apart : ∀ k, v.ownBlock = some k → u.ownBlock ≠ some k
theorem Two.far {B g : Nat} {w : World} {v u : Value} {xs ys : List Nat} (h : Two B w g v u xs ys) : u.ownBlock ≠ some g := h.own.not_in h.wr.2.1 (by decide)
theorem Two.write {B g : Nat} {w w' : World} {v v' u : Value} {xs xs' ys : List Nat} (h : Two B w g v u xs ys) (hw : Wr B w' g v' xs') (hk : Kept g v v' w w') : Two B w' g v' u xs' ys :=
  ⟨hw, (hk.own h.own h.far h.apart).1, (hk.own h.own h.far h.apart).2⟩
theorem Two.below {B g : Nat} {w w' : World} {v u : Value} {xs ys : List Nat} (h : Two B w g v u xs ys) (hb : Below w.heap.size w w') : Two B w' g v u xs ys :=
  ⟨h.wr.keep hb, h.own.below hb, h.apart⟩
theorem Two.more {B g : Nat} {w w' : World} {v u u' : Value} {xs ys ys' : List Nat} (h : Two B w g v u xs ys) (ho : Own B w' u' ys') (hg : w.grownBy w' u.ownBlock) (hu : u'.ownBlock = u.ownBlock ∨ u'.ownBlock = some w.heap.size) : Two B w' g v u' xs ys' := by
  have hk : Kept g u u' w w' := Kept.grown hg hu
  refine ⟨⟨h.wr.1, (hg.block g h.wr.lt (fun e => h.far e.symm)).trans h.wr.2.1, ?_⟩, ho, ?_⟩
  · exact (hk.own h.wr.2.2 h.wr.row (fun k hk hv => h.apart k hv hk)).1
  · intro k hk' hu'
    exact (hk.own h.wr.2.2 h.wr.row (fun k hk hv => h.apart k hv hk)).2 k hu' hk'

set_option maxRecDepth 20000 in
set_option maxHeartbeats 2000000 in
theorem puts_form (l : List (Int × Nat × List Nat)) (n c : Nat) (A : Option Addr) (hn : n = l.length) (hf : FitAct l) (w : World) (h : RdAct w (.slice A n c) l) :
    Calls Try.prog 3 #[.slice A n c] w fun e w' => e = .returned (.bool true) ∧ Below w.heap.size w w' := by
  have HN := Lib.hid hn; clear hn
  have HF := Lib.hid hf; clear hf
  have HR := Lib.hid h; clear h
  go_enter Try.func3, Try.ntmps3
  go_wp2
  go_loopw [4, 5] (fun a i wr => ∃ (k : Nat) (v : Value), k ≤ n ∧ k ≤ 40 ∧ i = .int .i64 (k : Int) ∧ Hid (Two w.heap.size wr w.heap.size v a (putL (l.take k)) (putL (l.take k))) ∧ Below w.heap.size w wr ∧ w.heap.size < wr.heap.size ∧ Hid ((putL (l.take k)).length ≤ 310 * k)) (fun _ i _ => n - (intOf i).toNat)
  case atStart => exact ⟨0, .slice none 0 0, Nat.zero_le _, Nat.zero_le _, rfl, Lib.hid ⟨Wr.new w, Own.nil _ _, fun k hk => by simp [Value.ownBlock] at hk⟩, below_alloc _ _, by simp, Lib.hid (by simp [putL])⟩
  case round =>
    obtain ⟨k, v, hk, hk40, rfl, HT, hbel, hsz, HL⟩ := hrel
    by_cases hkn : k < n
    · by_cases hk4 : k < 40
      · obtain ⟨⟨kd, nn, bs⟩, hx⟩ : ∃ x, l[k]? = some x := ⟨_, List.getElem?_eq_getElem (by rw [← HN.out]; exact hkn)⟩
        obtain ⟨b, off, A2, m, c2, rfl, hm, hcs⟩ := HR.out.at_ hx
        obtain ⟨⟨hk1, hk2⟩, hnn, hbs⟩ := HF.out _ (List.mem_of_getElem? hx)
        have hps := putL_snoc hx
        have HPS := Lib.hid hps
        have HCS := Lib.hid hcs
        have HBS := Lib.hid hbs
        have hBB : w.heap.size ≤ wr.heap.size := Nat.le_of_lt hsz
        have hxl : (putL (l.take k)).length ≤ 12400 := Nat.le_trans HL.out (by omega)
        have HXL := Lib.hid hxl
        obtain ⟨c0, c1, c3, hrd⟩ := hcs wr hbel
        simp only at c0 c1 c3 hm hk1 hk2 hnn
        have HM := Lib.hid hm
        have HRD := Lib.hid hrd
        clear hx hcs hbs hps hxl hm hrd
        by_cases h300 : 300 < m
        · go_wp2_with (go_at_call 6; (with_reducible refine (awake_any _).mono ?_); rintro e w1 ⟨rfl, hb1⟩)
          go_ret
          exact ⟨rfl, hbel.trans (hb1.mono hBB)⟩
        · by_cases hk0 : kd = 0
          · subst hk0
            have hput : putA ((0 : Int), nn, bs) = numL nn := rfl
            rw [hput] at HPS
            have hnl := Wire.numL_length_10 hnn
            have HNL := Lib.hid hnl
            have hnum := wnum_any w.heap.size w.heap.size v (putL (l.take k)) nn hnn wr HT.out.wr (by have := HXL.out; omega) hBB
            have hrn := fun w2 => rnum_any nn hnn w2
            have HNUM := Lib.hid hnum
            have HRN := Lib.hid hrn
            clear hnum hrn hnl hput
            go_wp2_with (first
              | (go_at_call 7; (with_reducible refine (HNUM.out).mono ?_); rintro e w1 ⟨v1, rfl, hw1, hkp1⟩; have T1 := Lib.hid (HT.out.write hw1 hkp1); have hbel1 : Below w.heap.size w w1 := hbel.trans (hkp1.below (Nat.le_refl _) HT.out.wr.base hBB); obtain ⟨d0, d1, d3, _⟩ := HCS.out w1 hbel1; simp only at d0 d1 d3; clear hw1 c0 c1 c3)
              | (go_at_call 8; (with_reducible refine (HRN.out _).mono ?_); rintro e w2 ⟨v2, rfl, hown2, hb2⟩; have T2 := Lib.hid (T1.out.below hb2); have hB2 : w.heap.size ≤ w2.heap.size := Nat.le_trans hBB (Nat.le_trans hkp1.size hb2.size); have hbel2 : Below w.heap.size w w2 := hbel1.trans (hb2.mono (Nat.le_trans hBB hkp1.size)); have HR2 := Lib.hid hown2.rd; clear hown2)
              | (at_builtin; refine wp_appG rfl _ _ rfl w.heap.size _ (putL (l.take k)) rfl T2.out.own _ (numL nn) rfl HR2.out (by have := HXL.out; have := HNL.out; omega) hB2 ?_; intro u3 w3 hown3 hg3 hu3; have T3 := Lib.hid (T2.out.more hown3 hg3 hu3); have hbel3 : Below w.heap.size w w3 := hbel2.trans ((Below.refl _ w2).grown hg3 hB2 T2.out.own.base_le); have hsz3 : w.heap.size < w3.heap.size := Nat.lt_of_lt_of_le hsz (Nat.le_trans hkp1.size (Nat.le_trans hb2.size hg3.size)); clear hown3 hg3 hu3))
            have hln : (putL (l.take (k + 1))).length ≤ 310 * (k + 1) := by rw [HPS.out, List.length_append]; have := HL.out; have := HNL.out; omega
            have HLN := Lib.hid hln
            clear hln
            rw [← HPS.out] at T3
            go_roundw
            case rel => exact ⟨k + 1, _, by omega, by omega, by go_num, T3, hbel3, hsz3, HLN⟩
            case measure => simp [intOf]; omega
          · have hput : putA (kd, nn, bs) = bytesL bs := if_neg hk0
            rw [hput] at HPS
            have hbl : (bytesL bs).length ≤ 310 := by
              have := Wire.numL_length_10 (show bs.length < 18446744073709551616 by have := HM.out; omega)
              have := HM.out
              simp only [bytesL, List.length_append]; omega
            have HBL := Lib.hid hbl
            have hrn := fun w2 (hb : Below w.heap.size w w2) => rbytes_any _ bs w2 (HCS.out w2 hb).2.2.2 (by have := HM.out; omega)
            have HRN := Lib.hid hrn
            clear hrn hbl hput
            by_cases hk1' : kd = 1
            · subst hk1'
              have hby := wbytes_any w.heap.size w.heap.size v (putL (l.take k)) _ bs wr HT.out.wr HRD.out (by have := HXL.out; omega) (by have := HM.out; omega) hBB (fun w' v' hkp => (HCS.out w' (hbel.trans (hkp.below (Nat.le_refl _) HT.out.wr.base hBB))).2.2.2)
              have HBY := Lib.hid hby
              clear hby
              go_wp2_with (first
              | (go_at_call 9; (with_reducible refine (HBY.out).mono ?_); rintro e w1 ⟨v1, rfl, hw1, hkp1⟩; have T1 := Lib.hid (HT.out.write hw1 hkp1); have hbel1 : Below w.heap.size w w1 := hbel.trans (hkp1.below (Nat.le_refl _) HT.out.wr.base hBB); obtain ⟨d0, d1, d3, _⟩ := HCS.out w1 hbel1; simp only at d0 d1 d3; clear hw1 c0 c1 c3)
              | (go_at_call 10; (with_reducible refine (HRN.out _ hbel1).mono ?_); rintro e w2 ⟨v2, rfl, hown2, hb2⟩; have T2 := Lib.hid (T1.out.below hb2); have hB2 : w.heap.size ≤ w2.heap.size := Nat.le_trans hBB (Nat.le_trans hkp1.size hb2.size); have hbel2 : Below w.heap.size w w2 := hbel1.trans (hb2.mono (Nat.le_trans hBB hkp1.size)); have HR2 := Lib.hid hown2.rd; clear hown2)
              | (at_builtin; refine wp_appG rfl _ _ rfl w.heap.size _ (putL (l.take k)) rfl T2.out.own _ (bytesL bs) rfl HR2.out (by have := HXL.out; have := HBL.out; omega) hB2 ?_; intro u3 w3 hown3 hg3 hu3; have T3 := Lib.hid (T2.out.more hown3 hg3 hu3); have hbel3 : Below w.heap.size w w3 := hbel2.trans ((Below.refl _ w2).grown hg3 hB2 T2.out.own.base_le); have hsz3 : w.heap.size < w3.heap.size := Nat.lt_of_lt_of_le hsz (Nat.le_trans hkp1.size (Nat.le_trans hb2.size hg3.size)); clear hown3 hg3 hu3))
              have hln : (putL (l.take (k + 1))).length ≤ 310 * (k + 1) := by rw [HPS.out, List.length_append]; have := HL.out; have := HBL.out; omega
              have HLN := Lib.hid hln
              clear hln
              rw [← HPS.out] at T3
              go_roundw
              case rel => exact ⟨k + 1, _, by omega, by omega, by go_num, T3, hbel3, hsz3, HLN⟩
              case measure => simp [intOf]; omega
            · have t0 : (kd == 0) = false := by simp; exact hk0
              have t1 : (kd == 1) = false := by simp; exact hk1'
              have hcv := conv_rd HRD.out
              have hby := wtext_any w.heap.size w.heap.size v (putL (l.take k)) bs HBS.out wr HT.out.wr (by have := HXL.out; omega) (by have := HM.out; omega) hBB
              have HBY := Lib.hid hby
              clear hby hk0 hk1'
              go_wp2_with (first
              | (go_at_call 11; (with_reducible refine (HBY.out).mono ?_); rintro e w1 ⟨v1, rfl, hw1, hkp1⟩; have T1 := Lib.hid (HT.out.write hw1 hkp1); have hbel1 : Below w.heap.size w w1 := hbel.trans (hkp1.below (Nat.le_refl _) HT.out.wr.base hBB); obtain ⟨d0, d1, d3, _⟩ := HCS.out w1 hbel1; simp only at d0 d1 d3; clear hw1 c0 c1 c3)
              | (go_at_call 10; (with_reducible refine (HRN.out _ hbel1).mono ?_); rintro e w2 ⟨v2, rfl, hown2, hb2⟩; have T2 := Lib.hid (T1.out.below hb2); have hB2 : w.heap.size ≤ w2.heap.size := Nat.le_trans hBB (Nat.le_trans hkp1.size hb2.size); have hbel2 : Below w.heap.size w w2 := hbel1.trans (hb2.mono (Nat.le_trans hBB hkp1.size)); have HR2 := Lib.hid hown2.rd; clear hown2)
              | (at_builtin; refine wp_appG rfl _ _ rfl w.heap.size _ (putL (l.take k)) rfl T2.out.own _ (bytesL bs) rfl HR2.out (by have := HXL.out; have := HBL.out; omega) hB2 ?_; intro u3 w3 hown3 hg3 hu3; have T3 := Lib.hid (T2.out.more hown3 hg3 hu3); have hbel3 : Below w.heap.size w w3 := hbel2.trans ((Below.refl _ w2).grown hg3 hB2 T2.out.own.base_le); have hsz3 : w.heap.size < w3.heap.size := Nat.lt_of_lt_of_le hsz (Nat.le_trans hkp1.size (Nat.le_trans hb2.size hg3.size)); clear hown3 hg3 hu3))
              have hln : (putL (l.take (k + 1))).length ≤ 310 * (k + 1) := by rw [HPS.out, List.length_append]; have := HL.out; have := HBL.out; omega
              have HLN := Lib.hid hln
              clear hln
              rw [← HPS.out] at T3
              go_roundw
              case rel => exact ⟨k + 1, _, by omega, by omega, by go_num, T3, hbel3, hsz3, HLN⟩
              case measure => simp [intOf]; omega
      · have hk9 : 40 ≤ k := by omega
        have hxl : (putL (l.take k)).length ≤ 12400 := Nat.le_trans HL.out (by omega)
        have VU := Lib.hid (fun w' (hw : Below wr.heap.size wr w') => conv_rd (HT.out.own.rd.below hw))
        have HDN := Lib.hid (fun w2 (hw : Below wr.heap.size wr w2) => (wdone_any _ _ _ _ w2 (HT.out.wr.keep hw) (by omega)).mono fun e w' hh => (show ∃ v', e = .returned v' ∧ Rd w' v' (putL (l.take k)) ∧ Below wr.heap.size wr w' from by obtain ⟨v', he, hr, hb⟩ := hh; exact ⟨v', he, hr.rd, hw.trans (hb.mono hw.size)⟩))
        have hb0 : Below wr.heap.size wr wr.drew := (Below.refl _ wr).drew
        clear hxl
        go_wp2
        refine wp_region_noPanic ?_
        refine wp_region_held_drew (S := fun w' => Below wr.heap.size wr w') (by kernel_rfl) hb0 (fun HH => ?_)
        refine wpAnyH_take (i := 2) (v := ?_) rfl (by kernel_rfl) (by kernel_rfl) (by kernel_rfl) (fun _ _ _ h => h) (Or.inl ⟨by rfl, ?_⟩) HH ?_
        rotate_left
        · intro w hSw; go_simp; try with_reducible rfl
        simp only [List.getElem_toArray, List.getElem_cons_succ, List.getElem_cons_zero, Act.put, List.setIfInBounds_toArray, List.set_cons_zero, List.set_cons_succ]
        refine wpAnyH_take (i := 3) (v := ?_) rfl (by kernel_rfl) (by kernel_rfl) (by kernel_rfl) (fun _ _ _ h => h) (Or.inl ⟨by rfl, ?_⟩) HH ?_
        rotate_left
        · intro w hSw; have hcv := VU.out w hSw; go_simp; try with_reducible rfl
        simp only [List.getElem_toArray, List.getElem_cons_succ, List.getElem_cons_zero, Act.put, List.setIfInBounds_toArray, List.set_cons_zero, List.set_cons_succ]
        refine wpAnyH_ready (rs := [0]) (by kernel_rfl) (by simp) ?_
        refine AllReadyH.cons rfl (fun K hK => ?_) AllReadyH.nil
        go_simp
        go_at_call 12
        refine (HDN.out _ hb0).mono ?_
        rintro e W ⟨v5, rfl, hr5, hbW⟩
        have hcW := conv_rd hr5
        go_simp
        refine hK.out _ _ hbW (fun HG1 => ?_)
        clear hK
        try simp only [List.getElem_toArray, List.getElem_cons_succ, List.getElem_cons_zero, Act.put, List.setIfInBounds_toArray, List.set_cons_zero, List.set_cons_succ]
        refine wpAnyH_ready (rs := [1]) (by kernel_rfl) (by simp) ?_
        refine AllReadyH.cons rfl (fun K hK => ?_) AllReadyH.nil
        go_simp
        refine hK.out _ _ hbW (fun HG2 => ?_)
        clear hK
        try simp only [List.getElem_toArray, List.getElem_cons_succ, List.getElem_cons_zero, Act.put, List.setIfInBounds_toArray, List.set_cons_zero, List.set_cons_succ]
        refine wpAnyH_take (i := 4) (v := ?_) rfl (by kernel_rfl) (by kernel_rfl) (by kernel_rfl) (fun _ _ _ h => h) (Or.inl ⟨by rfl, ?_⟩) HG2 ?_
        rotate_left
        · intro w hSw; go_simp; try with_reducible rfl
        simp only [List.getElem_toArray, List.getElem_cons_succ, List.getElem_cons_zero, Act.put, List.setIfInBounds_toArray, List.set_cons_zero, List.set_cons_succ]
        refine wpAnyH_take (i := 5) (v := ?_) rfl (by kernel_rfl) (by kernel_rfl) (by kernel_rfl) (fun _ _ _ h => h) (Or.inl ⟨by rfl, ?_⟩) HG2 ?_
        rotate_left
        · intro w hSw; go_simp; try with_reducible rfl
        simp only [List.getElem_toArray, List.getElem_cons_succ, List.getElem_cons_zero, Act.put, List.setIfInBounds_toArray, List.set_cons_zero, List.set_cons_succ]
        refine wpAnyH_ready (rs := [6]) (by kernel_rfl) (by simp) ?_
        refine AllReadyH.cons rfl (fun K hK => ?_) AllReadyH.nil
        go_simp
        go_at_call 6
        refine (awake_any _).mono ?_
        rintro e W2 ⟨rfl, hbx⟩
        have hbW2 := hbW.trans (hbx.mono hbW.size)
        go_simp
        refine hK.out _ _ hbW2 (fun HG3 => ?_)
        clear hK
        try simp only [List.getElem_toArray, List.getElem_cons_succ, List.getElem_cons_zero, Act.put, List.setIfInBounds_toArray, List.set_cons_zero, List.set_cons_succ]
        refine wpAnyH_take (i := 7) (v := ?_) rfl (by kernel_rfl) (by kernel_rfl) (by kernel_rfl) (fun _ _ _ h => h) (Or.inl ⟨by rfl, ?_⟩) HG3 ?_
        rotate_left
        · intro w hSw; go_simp; try with_reducible rfl
        simp only [List.getElem_toArray, List.getElem_cons_succ, List.getElem_cons_zero, Act.put, List.setIfInBounds_toArray, List.set_cons_zero, List.set_cons_succ]
        refine wpAnyH_take (i := 8) (v := ?_) rfl (by kernel_rfl) (by kernel_rfl) (by kernel_rfl) (fun _ _ _ h => h) (Or.inl ⟨by rfl, ?_⟩) HG3 ?_
        rotate_left
        · intro w hSw; go_simp; try with_reducible rfl
        simp only [List.getElem_toArray, List.getElem_cons_succ, List.getElem_cons_zero, Act.put, List.setIfInBounds_toArray, List.set_cons_zero, List.set_cons_succ]
        refine wpAnyH_done (by kernel_rfl) ?_ _
        refine NoPanic.normal ?_
        go_wp2
        go_ret
        exact ⟨rfl, hbel.trans (hbW2.mono (Nat.le_of_lt hsz))⟩
    · have hkn' : n ≤ k := by omega
      have hxl : (putL (l.take k)).length ≤ 12400 := Nat.le_trans HL.out (by omega)
      have VU := Lib.hid (fun w' (hw : Below wr.heap.size wr w') => conv_rd (HT.out.own.rd.below hw))
      have HDN := Lib.hid (fun w2 (hw : Below wr.heap.size wr w2) => (wdone_any _ _ _ _ w2 (HT.out.wr.keep hw) (by omega)).mono fun e w' hh => (show ∃ v', e = .returned v' ∧ Rd w' v' (putL (l.take k)) ∧ Below wr.heap.size wr w' from by obtain ⟨v', he, hr, hb⟩ := hh; exact ⟨v', he, hr.rd, hw.trans (hb.mono hw.size)⟩))
      have hb0 : Below wr.heap.size wr wr.drew := (Below.refl _ wr).drew
      clear hxl
      go_wp2
      refine wp_region_noPanic ?_
      refine wp_region_held_drew (S := fun w' => Below wr.heap.size wr w') (by kernel_rfl) hb0 (fun HH => ?_)
      refine wpAnyH_take (i := 2) (v := ?_) rfl (by kernel_rfl) (by kernel_rfl) (by kernel_rfl) (fun _ _ _ h => h) (Or.inl ⟨by rfl, ?_⟩) HH ?_
      rotate_left
      · intro w hSw; go_simp; try with_reducible rfl
      simp only [List.getElem_toArray, List.getElem_cons_succ, List.getElem_cons_zero, Act.put, List.setIfInBounds_toArray, List.set_cons_zero, List.set_cons_succ]
      refine wpAnyH_take (i := 3) (v := ?_) rfl (by kernel_rfl) (by kernel_rfl) (by kernel_rfl) (fun _ _ _ h => h) (Or.inl ⟨by rfl, ?_⟩) HH ?_
      rotate_left
      · intro w hSw; have hcv := VU.out w hSw; go_simp; try with_reducible rfl
      simp only [List.getElem_toArray, List.getElem_cons_succ, List.getElem_cons_zero, Act.put, List.setIfInBounds_toArray, List.set_cons_zero, List.set_cons_succ]
      refine wpAnyH_ready (rs := [0]) (by kernel_rfl) (by simp) ?_
      refine AllReadyH.cons rfl (fun K hK => ?_) AllReadyH.nil
      go_simp
      go_at_call 12
      refine (HDN.out _ hb0).mono ?_
      rintro e W ⟨v5, rfl, hr5, hbW⟩
      have hcW := conv_rd hr5
      go_simp
      refine hK.out _ _ hbW (fun HG1 => ?_)
      clear hK
      try simp only [List.getElem_toArray, List.getElem_cons_succ, List.getElem_cons_zero, Act.put, List.setIfInBounds_toArray, List.set_cons_zero, List.set_cons_succ]
      refine wpAnyH_ready (rs := [1]) (by kernel_rfl) (by simp) ?_
      refine AllReadyH.cons rfl (fun K hK => ?_) AllReadyH.nil
      go_simp
      refine hK.out _ _ hbW (fun HG2 => ?_)
      clear hK
      try simp only [List.getElem_toArray, List.getElem_cons_succ, List.getElem_cons_zero, Act.put, List.setIfInBounds_toArray, List.set_cons_zero, List.set_cons_succ]
      refine wpAnyH_take (i := 4) (v := ?_) rfl (by kernel_rfl) (by kernel_rfl) (by kernel_rfl) (fun _ _ _ h => h) (Or.inl ⟨by rfl, ?_⟩) HG2 ?_
      rotate_left
      · intro w hSw; go_simp; try with_reducible rfl
      simp only [List.getElem_toArray, List.getElem_cons_succ, List.getElem_cons_zero, Act.put, List.setIfInBounds_toArray, List.set_cons_zero, List.set_cons_succ]
      refine wpAnyH_take (i := 5) (v := ?_) rfl (by kernel_rfl) (by kernel_rfl) (by kernel_rfl) (fun _ _ _ h => h) (Or.inl ⟨by rfl, ?_⟩) HG2 ?_
      rotate_left
      · intro w hSw; go_simp; try with_reducible rfl
      simp only [List.getElem_toArray, List.getElem_cons_succ, List.getElem_cons_zero, Act.put, List.setIfInBounds_toArray, List.set_cons_zero, List.set_cons_succ]
      refine wpAnyH_ready (rs := [6]) (by kernel_rfl) (by simp) ?_
      refine AllReadyH.cons rfl (fun K hK => ?_) AllReadyH.nil
      go_simp
      go_at_call 6
      refine (awake_any _).mono ?_
      rintro e W2 ⟨rfl, hbx⟩
      have hbW2 := hbW.trans (hbx.mono hbW.size)
      go_simp
      refine hK.out _ _ hbW2 (fun HG3 => ?_)
      clear hK
      try simp only [List.getElem_toArray, List.getElem_cons_succ, List.getElem_cons_zero, Act.put, List.setIfInBounds_toArray, List.set_cons_zero, List.set_cons_succ]
      refine wpAnyH_take (i := 7) (v := ?_) rfl (by kernel_rfl) (by kernel_rfl) (by kernel_rfl) (fun _ _ _ h => h) (Or.inl ⟨by rfl, ?_⟩) HG3 ?_
      rotate_left
      · intro w hSw; go_simp; try with_reducible rfl
      simp only [List.getElem_toArray, List.getElem_cons_succ, List.getElem_cons_zero, Act.put, List.setIfInBounds_toArray, List.set_cons_zero, List.set_cons_succ]
      refine wpAnyH_take (i := 8) (v := ?_) rfl (by kernel_rfl) (by kernel_rfl) (by kernel_rfl) (fun _ _ _ h => h) (Or.inl ⟨by rfl, ?_⟩) HG3 ?_
      rotate_left
      · intro w hSw; go_simp; try with_reducible rfl
      simp only [List.getElem_toArray, List.getElem_cons_succ, List.getElem_cons_zero, Act.put, List.setIfInBounds_toArray, List.set_cons_zero, List.set_cons_succ]
      refine wpAnyH_done (by kernel_rfl) ?_ _
      refine NoPanic.normal ?_
      go_wp2
      go_ret
      exact ⟨rfl, hbel.trans (hbW2.mono (Nat.le_of_lt hsz))⟩

/-- WirePuts. -/
theorem law_puts (v : Value) (l : List (Int × Nat × List Nat)) (w : World) (h : RdAct w v l ∧ FitAct l) :
    Calls Try.prog 3 #[v] w fun e w' => e = .returned (.bool true) ∧ Below w.heap.size w w' := by
  obtain ⟨hr, hf⟩ := h
  have hv : ∃ A n c, v = .slice A n c ∧ n = l.length := by
    rcases hr with ⟨p, c, rfl, rfl⟩ | ⟨b, off, cap, rfl, _⟩
    · exact ⟨p, 0, c, rfl, rfl⟩
    · exact ⟨_, _, cap, rfl, rfl⟩
  obtain ⟨A, n, c, rfl, hn⟩ := hv
  exact puts_form l n c A hn hf w hr
end Go.Proofs.Ytcgkigcokjdkjaa
