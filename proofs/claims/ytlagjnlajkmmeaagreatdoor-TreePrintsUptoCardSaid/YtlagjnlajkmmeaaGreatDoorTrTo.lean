/-
The law's To of stage 9, by a contract: the program's tree, in blocks of its own.
-/
import Derived.Test.YtlagjnlajkmmeaaGreatDoorTrOut
namespace Go.Proofs.YtlagjnlajkmmeaaGreatDoor
open Go.RowKit

theorem info_tnode : infoN 32 := by unfold infoN; kernel_rfl
theorem loadVar_tnode {w : World} {b : Nat} {a0 a1 a2 a3 a4 a5 : Value} (c0 : w.cell? ⟨b, 0, none⟩ = some a0) (c1 : w.cell? ⟨b, 1, none⟩ = some a1) (c2 : w.cell? ⟨b, 2, none⟩ = some a2) (c3 : w.cell? ⟨b, 3, none⟩ = some a3) (c4 : w.cell? ⟨b, 4, none⟩ = some a4) (c5 : w.cell? ⟨b, 5, none⟩ = some a5) :
    (loadVar 32 ⟨b, 0, none⟩).run Tryz.prog w = .ok (.agg #[a0, a1, a2, a3, a4, a5]) w := by
  unfold loadVar
  go_simp
theorem results_tnode {fn : Func} {t : Tmp} (h : fn.results = #[.cell t 32]) {tmps : Array Value} {w : World} {b : Nat} {a0 a1 a2 a3 a4 a5 : Value} {T : TypeId} (ht : tmps.getD t undef = .pointer (some ⟨b, 0, none⟩))
    (hr : w.heap[b]? = some (.cells #[a0, a1, a2, a3, a4, a5] T (0, 0))) : (results fn tmps).run Tryz.prog w = .ok (.agg #[a0, a1, a2, a3, a4, a5]) w := by
  obtain ⟨⟨c0, c1, c2, c3, c4, c5⟩, _⟩ := row6 hr
  have ht' : tmps[t]?.getD undef = .pointer (some ⟨b, 0, none⟩) := by simpa using ht
  simp [results, h, ht', asAddr, loadVar_tnode c0 c1 c2 c3 c4 c5]

set_option maxRecDepth 20000 in
set_option maxHeartbeats 8000000 in
theorem to_any (x : Tr) : ∀ (v : Value) (w : World), nodes x ≤ 1000000 → RdN AnyB w x v →
    Calls Tryz.prog 8 #[v] w fun e w' => ∃ u, e = .returned (nodeV x.kind x.num x.text x.a x.b u) ∧ RdA (fun b => w.heap.size ≤ b) w' x.args u ∧ Below w.heap.size w w' := by
  induction x using Tr.ind with
  | _ x ih =>
  intro v w hn hv
  obtain ⟨hfit, u, rfl, hA⟩ := hv
  obtain ⟨A, c, rfl⟩ := hA.named
  obtain ⟨len, hlen⟩ : ∃ len, len = x.args.length := ⟨_, rfl⟩
  rw [← hlen] at hA ⊢
  have hlm : len ≤ 1000000 := by have h1 := nodesL_len x.args; have h2 := nodes_eq x; omega
  have hb1 := below_alloc w (boxN x (.slice A len c) 24)
  have hb2 := hb1.trans ((below_alloc (w.alloc (boxN x (.slice A len c) 24)) (.cells #[.int .i64 0, .int .i64 0, .string ⟨#[]⟩, .int .i64 0, .int .i64 0, .slice none 0 0] 32)).mono hb1.size)
  have hb3 := hb2.trans ((below_alloc ((w.alloc (boxN x (.slice A len c) 24)).alloc (.cells #[.int .i64 0, .int .i64 0, .string ⟨#[]⟩, .int .i64 0, .int .i64 0, .slice none 0 0] 32)) (.cells #[.int .i64 x.kind, .int .i64 x.num, .string ⟨x.text.toArray⟩, .int .i64 x.a, .int .i64 x.b, .slice none 0 0] 32)).mono hb2.size)
  have HB2 := Lib.hid hb2
  have HB3 := Lib.hid hb3
  have HROW2 := Lib.hid (show (((w.alloc (boxN x (.slice A len c) 24)).alloc (.cells #[.int .i64 0, .int .i64 0, .string ⟨#[]⟩, .int .i64 0, .int .i64 0, .slice none 0 0] 32)).alloc (.cells #[.int .i64 x.kind, .int .i64 x.num, .string ⟨x.text.toArray⟩, .int .i64 x.a, .int .i64 x.b, .slice none 0 0] 32)).heap[w.heap.size + 1]? = some (.cells #[.int .i64 0, .int .i64 0, .string ⟨#[]⟩, .int .i64 0, .int .i64 0, .slice none 0 0] 32 (0, 0)) from heap_old (heap_new (by simp)))
  have HBX := Lib.hid ((box6 w rfl x (.slice A len c) 24).below ((below_alloc (w.alloc (boxN x (.slice A len c) 24)) (.cells #[.int .i64 0, .int .i64 0, .string ⟨#[]⟩, .int .i64 0, .int .i64 0, .slice none 0 0] 32)).trans ((below_alloc ((w.alloc (boxN x (.slice A len c) 24)).alloc (.cells #[.int .i64 0, .int .i64 0, .string ⟨#[]⟩, .int .i64 0, .int .i64 0, .slice none 0 0] 32)) (.cells #[.int .i64 x.kind, .int .i64 x.num, .string ⟨x.text.toArray⟩, .int .i64 x.a, .int .i64 x.b, .slice none 0 0] 32)).mono (by simp))))
  have HST := Lib.hid (OutSt.new (T := 32) (g := (w.heap.size + 1 + 1)) ((w.alloc (boxN x (.slice A len c) 24)).alloc (.cells #[.int .i64 0, .int .i64 0, .string ⟨#[]⟩, .int .i64 0, .int .i64 0, .slice none 0 0] 32)) (by simp) x.kind x.num x.text x.a x.b)
  have HA := Lib.hid (fun (i : Nat) (y : Tr) (hy : x.args[i]? = some y) => part_at hA hy)
  have HFIT := Lib.hid (fun (i : Nat) (y : Tr) (hy : x.args[i]? = some y) => (show FitN y from by obtain ⟨_, _, _, _, h, _⟩ := hA.at_ hy; exact h))
  have HIH := Lib.hid ih
  have HND := Lib.hid (fun (i : Nat) (y : Tr) (hy : x.args[i]? = some y) => (show nodes y ≤ 1000000 from by have := Tr.part hy; omega))
  have HLEN := Lib.hid hlen
  unfold nodeV
  obtain ⟨p0, p1, p2, p3, p4, p5⟩ := (box6 w rfl x (.slice A len c) 24).below (below_alloc _ (.cells #[.int .i64 0, .int .i64 0, .string ⟨#[]⟩, .int .i64 0, .int .i64 0, .slice none 0 0] 32))
  clear hA ih hlen hfit hn hb1 hb2 hb3
  go_enter Tryz.func8, Tryz.ntmps8
  go_wp2_with fail
  clear p0 p1 p2 p3 p4 p5
  go_loopw [4] (fun b wr => ∃ (i : Nat) (v : Value) (l' : List PartV), i ≤ len ∧ b = .int .i64 (i : Int) ∧ Hid (l'.map (·.1) = x.args.take i) ∧ Hid (OutSt 32 (w.heap.size + 1 + 1) x.kind x.num x.text x.a x.b wr v l') ∧ Hid (Below (w.heap.size + 1 + 1) (((w.alloc (boxN x (.slice A len c) 24)).alloc (.cells #[.int .i64 0, .int .i64 0, .string ⟨#[]⟩, .int .i64 0, .int .i64 0, .slice none 0 0] 32)).alloc (.cells #[.int .i64 x.kind, .int .i64 x.num, .string ⟨x.text.toArray⟩, .int .i64 x.a, .int .i64 x.b, .slice none 0 0] 32)) wr)) (fun b _ => len - (intOf b).toNat)
  case atStart => exact ⟨0, _, [], Nat.zero_le _, rfl, Lib.hid rfl, HST, Lib.hid (Below.refl _ _)⟩
  case round =>
    rename World => wr
    obtain ⟨i, v, l', hi, rfl, HL, HO, HB⟩ := hrel
    obtain ⟨Av, nv, cv, rfl⟩ := HO.out.own.form
    have HP := Lib.hid (fun w' (h : Below (w.heap.size + 1 + 1) wr w') => HBX.out.keep ((h.block w.heap.size (by omega)).trans (HB.out.block w.heap.size (by omega))))
    obtain ⟨_, _, _, _, _, p5⟩ := HP.out wr (Below.refl _ _)
    by_cases hlt : i < len
    · obtain ⟨y, hy⟩ : ∃ y, x.args[i]? = some y := ⟨_, List.getElem?_eq_getElem (by rw [← HLEN.out]; exact hlt)⟩
      have HY := Lib.hid hy
      have HFY := Lib.hid (HFIT.out i y hy)
      obtain ⟨b, off, uy, rfl, hw⟩ := HA.out i y hy
      have hbw : ∀ w', Below (w.heap.size + 1 + 1) wr w' → Below w.heap.size w w' := fun w' h => HB3.out.trans ((HB.out.trans h).mono (by omega))
      have HPY := Lib.hid (fun w' (h : Below (w.heap.size + 1 + 1) wr w') => (hw w' (hbw w' h)).1)
      have hcall := fun w' (h : Below (w.heap.size + 1 + 1) wr w') => HIH.out i y hy _ w' (HND.out i y hy) (hw w' (hbw w' h)).2
      unfold nodeV at hcall
      have HCALL := Lib.hid hcall
      have HO0 := Lib.hid (HO.out.below (Below.refl _ _).drew)
      have hg0 : (w.heap.size + 1 + 1) < wr.drew.heap.size := (Array.getElem?_eq_some_iff.1 HO0.out.row).1
      have HLL := Lib.hid (show l'.length ≤ 900000 + 99999 from by have h := congrArg List.length HL.out; simp at h; omega)
      clear hy hw hbw hcall
      go_wp2_with fail
      clear p5
      refine wp_region_noPanic ?_
      refine wp_region_held_drew (S := fun w' => Below (w.heap.size + 1 + 1) wr w') (by kernel_rfl) (Below.refl _ _).drew (fun HS0 => ?_)
      refine wpAnyH_take (i := 0) (v := ?_) rfl (by kernel_rfl) (by kernel_rfl) (by kernel_rfl) (fun _ _ _ h => h) (Or.inl ⟨by rfl, ?_⟩) HS0 ?_
      rotate_left
      · intro w hE; go_simp; try with_reducible rfl
      simp only [List.getElem_toArray, List.getElem_cons_succ, List.getElem_cons_zero, Act.put, List.setIfInBounds_toArray, List.set_cons_zero, List.set_cons_succ]
      refine wpAnyH_take (i := 2) (v := ?_) rfl (by kernel_rfl) (by kernel_rfl) (by kernel_rfl) (fun _ _ _ h => h) (Or.inl ⟨by rfl, ?_⟩) HS0 ?_
      rotate_left
      · intro w hE; go_simp; try with_reducible rfl
      simp only [List.getElem_toArray, List.getElem_cons_succ, List.getElem_cons_zero, Act.put, List.setIfInBounds_toArray, List.set_cons_zero, List.set_cons_succ]
      refine wpAnyH_take (i := 3) (v := ?_) rfl (by kernel_rfl) (by kernel_rfl) (by kernel_rfl) (fun _ _ _ h => h) (Or.inl ⟨by rfl, ?_⟩) HS0 ?_
      rotate_left
      · intro w hE; obtain ⟨_, _, _, _, _, p5⟩ := HP.out _ hE; go_simp; try with_reducible rfl
      simp only [List.getElem_toArray, List.getElem_cons_succ, List.getElem_cons_zero, Act.put, List.setIfInBounds_toArray, List.set_cons_zero, List.set_cons_succ]
      refine wpAnyH_take (i := 4) (v := ?_) rfl (by kernel_rfl) (by kernel_rfl) (by kernel_rfl) (fun _ _ _ h => h) (Or.inl ⟨by rfl, ?_⟩) HS0 ?_
      rotate_left
      · intro w hE; go_simp; try with_reducible rfl
      simp only [List.getElem_toArray, List.getElem_cons_succ, List.getElem_cons_zero, Act.put, List.setIfInBounds_toArray, List.set_cons_zero, List.set_cons_succ]
      refine wpAnyH_take (i := 5) (v := ?_) rfl (by kernel_rfl) (by kernel_rfl) (by kernel_rfl) (fun _ _ _ h => h) (Or.inl ⟨by rfl, ?_⟩) HS0 ?_
      rotate_left
      · intro w hE; go_simp; try with_reducible rfl
      simp only [List.getElem_toArray, List.getElem_cons_succ, List.getElem_cons_zero, Act.put, List.setIfInBounds_toArray, List.set_cons_zero, List.set_cons_succ]
      refine wpAnyH_take (i := 6) (v := ?_) rfl (by kernel_rfl) (by kernel_rfl) (by kernel_rfl) (fun _ _ _ h => h) (Or.inl ⟨by rfl, ?_⟩) HS0 ?_
      rotate_left
      · intro w hE; obtain ⟨c0, c1, c2, c3, c4, c5⟩ := HPY.out _ hE; go_simp; try with_reducible rfl
      simp only [List.getElem_toArray, List.getElem_cons_succ, List.getElem_cons_zero, Act.put, List.setIfInBounds_toArray, List.set_cons_zero, List.set_cons_succ]
      refine wpAnyH_ready (rs := [1, 7]) (by kernel_rfl) (by simp) ?_
      refine AllReadyH.cons rfl (fun K hK => ?_) (AllReadyH.cons rfl (fun K hK => ?_) AllReadyH.nil)
      · have q5 := (row6 HO0.out.row).1.2.2.2.2.2
        go_simp
        refine hK.out _ _ HS0 (fun HS1 => ?_)
        clear hK
        try simp only [List.getElem_toArray, List.getElem_cons_succ, List.getElem_cons_zero, Act.put, List.setIfInBounds_toArray, List.set_cons_zero, List.set_cons_succ]
        refine wpAnyH_ready (rs := [7]) (by kernel_rfl) (by simp) ?_
        refine AllReadyH.cons rfl (fun K hK => ?_) AllReadyH.nil
        go_simp
        go_at_call 8
        refine (HCALL.out wr.drew HS1).mono ?_
        rintro e wA ⟨uv, rfl, hN, hbA⟩
        go_simp
        refine hK.out _ _ (HS1.trans (hbA.mono (Nat.le_of_lt hg0))) (fun HS2 => ?_)
        clear hK
        have hgA := Nat.lt_of_lt_of_le hg0 hbA.size
        have HOA := Lib.hid (HO0.out.below hbA)
        have HLIT := Lib.hid hN.named
        have HDA := Lib.hid (hN.imp (q := fun b => (w.heap.size + 1 + 1) < b ∧ (Value.slice Av nv cv).ownBlock ≠ some b) (fun b hb => ⟨Nat.lt_of_lt_of_le hg0 hb, fun e => by have h := (HO0.out.own_lt b e).2; exact absurd hb (Nat.not_le_of_lt h)⟩))
        clear hN
        try simp only [List.getElem_toArray, List.getElem_cons_succ, List.getElem_cons_zero, Act.put, List.setIfInBounds_toArray, List.set_cons_zero, List.set_cons_succ]
        refine wpAnyH_ready (rs := [8]) (by kernel_rfl) (by simp) ?_
        refine AllReadyH.cons rfl (fun K hK => ?_) AllReadyH.nil
        go_simp
        refine hK.out _ _ (HS2.alloc (Nat.le_of_lt hgA) _) (fun HS3 => ?_)
        clear hK
        have HOB := Lib.hid (HOA.out.below (below_alloc wA (boxN y uv 32)))
        have HDB := Lib.hid (HDA.out.below (below_alloc wA (boxN y uv 32)))
        have HEB := Lib.hid (box6 wA rfl y uv 32)
        have hgB : (w.heap.size + 1 + 1) < (wA.alloc (boxN y uv 32)).heap.size := Nat.lt_of_lt_of_le hgA (by simp)
        try simp only [List.getElem_toArray, List.getElem_cons_succ, List.getElem_cons_zero, Act.put, List.setIfInBounds_toArray, List.set_cons_zero, List.set_cons_succ]
        refine wpAnyH_ready (rs := [9]) (by kernel_rfl) (by simp) ?_
        refine AllReadyH.cons rfl (fun K hK => ?_) AllReadyH.nil
        refine step_appN info_tnode Tryz.underlying30 rfl _ _ rfl ((w.heap.size + 1 + 1) + 1) _ _ rfl HOB.out.own _ 0 1 y uv rfl (by decide) (by decide) HEB.out (by obtain ⟨A, c, h⟩ := HLIT.out; exact ⟨A, _, c, h⟩) (by have := HLL.out; omega) hgB ?_
        intro vD wD hoD hbD hgD hvD
        refine hK.out _ _ (HS3.trans (hbD.mono (Nat.le_succ _))) (fun HS4 => ?_)
        clear hK
        obtain ⟨Ad, nd, cd, rfl⟩ := OwnN.form hoD
        have HOD := Lib.hid (HOB.out.push hoD hgD hvD HFY.out HDB.out)
        have HRD := Lib.hid ((hbD.block (w.heap.size + 1 + 1) (Nat.lt_succ_self _)).trans HOB.out.row)
        clear hoD hgD hvD
        try simp only [List.getElem_toArray, List.getElem_cons_succ, List.getElem_cons_zero, Act.put, List.setIfInBounds_toArray, List.set_cons_zero, List.set_cons_succ]
        refine wpAnyH_take (i := 10) (v := ?_) rfl (by kernel_rfl) (by kernel_rfl) (by kernel_rfl) (fun _ _ _ h => h) (Or.inl ⟨by rfl, ?_⟩) HS4 ?_
        rotate_left
        · intro w hE; go_simp; try with_reducible rfl
        simp only [List.getElem_toArray, List.getElem_cons_succ, List.getElem_cons_zero, Act.put, List.setIfInBounds_toArray, List.set_cons_zero, List.set_cons_succ]
        refine wpAnyH_ready (rs := [11]) (by kernel_rfl) (by simp) ?_
        refine AllReadyH.cons rfl (fun K hK => ?_) AllReadyH.nil
        obtain ⟨⟨_, _, _, _, _, q5⟩, qf⟩ := row6 HRD.out
        have qf5 := qf 5
        clear qf
        go_simp
        refine hK.out _ _ (below_set HS4 5 _) (fun HS5 => ?_)
        clear hK
        try simp only [List.getElem_toArray, List.getElem_cons_succ, List.getElem_cons_zero, Act.put, List.setIfInBounds_toArray, List.set_cons_zero, List.set_cons_succ]
        refine wpAnyH_done (by kernel_rfl) ?_ _
        refine NoPanic.normal ?_
        go_wp2_with fail
        go_roundw
        case rel => exact ⟨i + 1, _, l' ++ [(y, uv)], by omega, by go_num, Lib.hid (by rw [List.map_append, HL.out, List.take_add_one, HY.out]; rfl), HOD, Lib.hid (HB.out.trans HS5)⟩
        case measure => simp [intOf]; omega
      · go_simp
        go_at_call 8
        refine (HCALL.out wr.drew HS0).mono ?_
        rintro e wA ⟨uv, rfl, hN, hbA⟩
        go_simp
        refine hK.out _ _ (HS0.trans (hbA.mono (Nat.le_of_lt hg0))) (fun HS1 => ?_)
        clear hK
        have hgA := Nat.lt_of_lt_of_le hg0 hbA.size
        have HOA := Lib.hid (HO0.out.below hbA)
        have HLIT := Lib.hid hN.named
        have HDA := Lib.hid (hN.imp (q := fun b => (w.heap.size + 1 + 1) < b ∧ (Value.slice Av nv cv).ownBlock ≠ some b) (fun b hb => ⟨Nat.lt_of_lt_of_le hg0 hb, fun e => by have h := (HO0.out.own_lt b e).2; exact absurd hb (Nat.not_le_of_lt h)⟩))
        clear hN
        try simp only [List.getElem_toArray, List.getElem_cons_succ, List.getElem_cons_zero, Act.put, List.setIfInBounds_toArray, List.set_cons_zero, List.set_cons_succ]
        refine wpAnyH_ready (rs := [1, 8]) (by kernel_rfl) (by simp) ?_
        refine AllReadyH.cons rfl (fun K hK => ?_) (AllReadyH.cons rfl (fun K hK => ?_) AllReadyH.nil)
        · have q5 := (row6 HOA.out.row).1.2.2.2.2.2
          go_simp
          refine hK.out _ _ HS1 (fun HS2 => ?_)
          clear hK
          try simp only [List.getElem_toArray, List.getElem_cons_succ, List.getElem_cons_zero, Act.put, List.setIfInBounds_toArray, List.set_cons_zero, List.set_cons_succ]
          refine wpAnyH_ready (rs := [8]) (by kernel_rfl) (by simp) ?_
          refine AllReadyH.cons rfl (fun K hK => ?_) AllReadyH.nil
          go_simp
          refine hK.out _ _ (HS2.alloc (Nat.le_of_lt hgA) _) (fun HS3 => ?_)
          clear hK
          have HOB := Lib.hid (HOA.out.below (below_alloc wA (boxN y uv 32)))
          have HDB := Lib.hid (HDA.out.below (below_alloc wA (boxN y uv 32)))
          have HEB := Lib.hid (box6 wA rfl y uv 32)
          have hgB : (w.heap.size + 1 + 1) < (wA.alloc (boxN y uv 32)).heap.size := Nat.lt_of_lt_of_le hgA (by simp)
          try simp only [List.getElem_toArray, List.getElem_cons_succ, List.getElem_cons_zero, Act.put, List.setIfInBounds_toArray, List.set_cons_zero, List.set_cons_succ]
          refine wpAnyH_ready (rs := [9]) (by kernel_rfl) (by simp) ?_
          refine AllReadyH.cons rfl (fun K hK => ?_) AllReadyH.nil
          refine step_appN info_tnode Tryz.underlying30 rfl _ _ rfl ((w.heap.size + 1 + 1) + 1) _ _ rfl HOB.out.own _ 0 1 y uv rfl (by decide) (by decide) HEB.out (by obtain ⟨A, c, h⟩ := HLIT.out; exact ⟨A, _, c, h⟩) (by have := HLL.out; omega) hgB ?_
          intro vD wD hoD hbD hgD hvD
          refine hK.out _ _ (HS3.trans (hbD.mono (Nat.le_succ _))) (fun HS4 => ?_)
          clear hK
          obtain ⟨Ad, nd, cd, rfl⟩ := OwnN.form hoD
          have HOD := Lib.hid (HOB.out.push hoD hgD hvD HFY.out HDB.out)
          have HRD := Lib.hid ((hbD.block (w.heap.size + 1 + 1) (Nat.lt_succ_self _)).trans HOB.out.row)
          clear hoD hgD hvD
          try simp only [List.getElem_toArray, List.getElem_cons_succ, List.getElem_cons_zero, Act.put, List.setIfInBounds_toArray, List.set_cons_zero, List.set_cons_succ]
          refine wpAnyH_take (i := 10) (v := ?_) rfl (by kernel_rfl) (by kernel_rfl) (by kernel_rfl) (fun _ _ _ h => h) (Or.inl ⟨by rfl, ?_⟩) HS4 ?_
          rotate_left
          · intro w hE; go_simp; try with_reducible rfl
          simp only [List.getElem_toArray, List.getElem_cons_succ, List.getElem_cons_zero, Act.put, List.setIfInBounds_toArray, List.set_cons_zero, List.set_cons_succ]
          refine wpAnyH_ready (rs := [11]) (by kernel_rfl) (by simp) ?_
          refine AllReadyH.cons rfl (fun K hK => ?_) AllReadyH.nil
          obtain ⟨⟨_, _, _, _, _, q5⟩, qf⟩ := row6 HRD.out
          have qf5 := qf 5
          clear qf
          go_simp
          refine hK.out _ _ (below_set HS4 5 _) (fun HS5 => ?_)
          clear hK
          try simp only [List.getElem_toArray, List.getElem_cons_succ, List.getElem_cons_zero, Act.put, List.setIfInBounds_toArray, List.set_cons_zero, List.set_cons_succ]
          refine wpAnyH_done (by kernel_rfl) ?_ _
          refine NoPanic.normal ?_
          go_wp2_with fail
          go_roundw
          case rel => exact ⟨i + 1, _, l' ++ [(y, uv)], by omega, by go_num, Lib.hid (by rw [List.map_append, HL.out, List.take_add_one, HY.out]; rfl), HOD, Lib.hid (HB.out.trans HS5)⟩
          case measure => simp [intOf]; omega
        · go_simp
          refine hK.out _ _ (HS1.alloc (Nat.le_of_lt hgA) _) (fun HS2 => ?_)
          clear hK
          have HOB := Lib.hid (HOA.out.below (below_alloc wA (boxN y uv 32)))
          have HDB := Lib.hid (HDA.out.below (below_alloc wA (boxN y uv 32)))
          have HEB := Lib.hid (box6 wA rfl y uv 32)
          have hgB : (w.heap.size + 1 + 1) < (wA.alloc (boxN y uv 32)).heap.size := Nat.lt_of_lt_of_le hgA (by simp)
          try simp only [List.getElem_toArray, List.getElem_cons_succ, List.getElem_cons_zero, Act.put, List.setIfInBounds_toArray, List.set_cons_zero, List.set_cons_succ]
          refine wpAnyH_ready (rs := [1]) (by kernel_rfl) (by simp) ?_
          refine AllReadyH.cons rfl (fun K hK => ?_) AllReadyH.nil
          have q5 := (row6 HOB.out.row).1.2.2.2.2.2
          go_simp
          refine hK.out _ _ HS2 (fun HS3 => ?_)
          clear hK
          try simp only [List.getElem_toArray, List.getElem_cons_succ, List.getElem_cons_zero, Act.put, List.setIfInBounds_toArray, List.set_cons_zero, List.set_cons_succ]
          refine wpAnyH_ready (rs := [9]) (by kernel_rfl) (by simp) ?_
          refine AllReadyH.cons rfl (fun K hK => ?_) AllReadyH.nil
          refine step_appN info_tnode Tryz.underlying30 rfl _ _ rfl ((w.heap.size + 1 + 1) + 1) _ _ rfl HOB.out.own _ 0 1 y uv rfl (by decide) (by decide) HEB.out (by obtain ⟨A, c, h⟩ := HLIT.out; exact ⟨A, _, c, h⟩) (by have := HLL.out; omega) hgB ?_
          intro vD wD hoD hbD hgD hvD
          refine hK.out _ _ (HS3.trans (hbD.mono (Nat.le_succ _))) (fun HS4 => ?_)
          clear hK
          obtain ⟨Ad, nd, cd, rfl⟩ := OwnN.form hoD
          have HOD := Lib.hid (HOB.out.push hoD hgD hvD HFY.out HDB.out)
          have HRD := Lib.hid ((hbD.block (w.heap.size + 1 + 1) (Nat.lt_succ_self _)).trans HOB.out.row)
          clear hoD hgD hvD
          try simp only [List.getElem_toArray, List.getElem_cons_succ, List.getElem_cons_zero, Act.put, List.setIfInBounds_toArray, List.set_cons_zero, List.set_cons_succ]
          refine wpAnyH_take (i := 10) (v := ?_) rfl (by kernel_rfl) (by kernel_rfl) (by kernel_rfl) (fun _ _ _ h => h) (Or.inl ⟨by rfl, ?_⟩) HS4 ?_
          rotate_left
          · intro w hE; go_simp; try with_reducible rfl
          simp only [List.getElem_toArray, List.getElem_cons_succ, List.getElem_cons_zero, Act.put, List.setIfInBounds_toArray, List.set_cons_zero, List.set_cons_succ]
          refine wpAnyH_ready (rs := [11]) (by kernel_rfl) (by simp) ?_
          refine AllReadyH.cons rfl (fun K hK => ?_) AllReadyH.nil
          obtain ⟨⟨_, _, _, _, _, q5⟩, qf⟩ := row6 HRD.out
          have qf5 := qf 5
          clear qf
          go_simp
          refine hK.out _ _ (below_set HS4 5 _) (fun HS5 => ?_)
          clear hK
          try simp only [List.getElem_toArray, List.getElem_cons_succ, List.getElem_cons_zero, Act.put, List.setIfInBounds_toArray, List.set_cons_zero, List.set_cons_succ]
          refine wpAnyH_done (by kernel_rfl) ?_ _
          refine NoPanic.normal ?_
          go_wp2_with fail
          go_roundw
          case rel => exact ⟨i + 1, _, l' ++ [(y, uv)], by omega, by go_num, Lib.hid (by rw [List.map_append, HL.out, List.take_add_one, HY.out]; rfl), HOD, Lib.hid (HB.out.trans HS5)⟩
          case measure => simp [intOf]; omega
    · obtain rfl : i = len := by omega
      have hl : l'.map (·.1) = x.args := by rw [HL.out, HLEN.out, List.take_length]
      obtain ⟨⟨q0, q1, q2, q3, q4, q5⟩, _⟩ := row6 HO.out.row
      have hrow2 : wr.heap[w.heap.size + 1]? = some (.cells #[.int .i64 0, .int .i64 0, .string ⟨#[]⟩, .int .i64 0, .int .i64 0, .slice none 0 0] 32 (0, 0)) := (HB.out.block (w.heap.size + 1) (by omega)).trans HROW2.out
      obtain ⟨⟨r0, r1, r2, r3, r4, r5⟩, rf⟩ := row6 hrow2
      have f0 := rf 0
      have f1 := rf 1
      have f2 := rf 2
      have f3 := rf 3
      have f4 := rf 4
      have f5 := rf 5
      have HROWR := Lib.hid hrow2
      have hrd := HO.out.rdA
      rw [hl] at hrd
      have HRD := Lib.hid hrd
      clear rf hrow2 hl hrd
      go_wp2_with fail
      obtain ⟨g0, g1, g2, g3⟩ := fin6 (w' := wr) (b := w.heap.size + 1) (HB.out.mono (by omega)) HROWR.out (.int .i64 x.kind) (.int .i64 x.num) (.string ⟨x.text.toArray⟩) (.int .i64 x.a) (.int .i64 x.b) (.slice Av nv cv) _ rfl
      refine bodyPost_ret (results_tnode rfl rfl g1) rfl ?_
      exact ⟨_, rfl, HRD.out.keep (fun b hb hbl => ⟨by omega, g3 b (by omega)⟩) (by rw [g2]; exact Nat.le_refl _), HB3.out.trans (g0.mono (by omega))⟩
end Go.Proofs.YtlagjnlajkmmeaaGreatDoor
