/-
The law's named of stage 9, by a contract.
-/
import Derived.Test.YtlagjnlajkmmeaaGreatDoorTrTo
import Derived.Test.YtlagjnlajkmmeaaGreatDoorTrQuo
namespace Go.Proofs.YtlagjnlajkmmeaaGreatDoor
open Go.RowKit

theorem info_node : infoN 24 := by unfold infoN; kernel_rfl
theorem loadVar_node9 {w : World} {b : Nat} {a0 a1 a2 a3 a4 a5 : Value} (c0 : w.cell? ⟨b, 0, none⟩ = some a0) (c1 : w.cell? ⟨b, 1, none⟩ = some a1) (c2 : w.cell? ⟨b, 2, none⟩ = some a2) (c3 : w.cell? ⟨b, 3, none⟩ = some a3) (c4 : w.cell? ⟨b, 4, none⟩ = some a4) (c5 : w.cell? ⟨b, 5, none⟩ = some a5) :
    (loadVar 24 ⟨b, 0, none⟩).run Tryz.prog w = .ok (.agg #[a0, a1, a2, a3, a4, a5]) w := by
  unfold loadVar
  go_simp
theorem results_node9 {fn : Func} {t : Tmp} (h : fn.results = #[.cell t 24]) {tmps : Array Value} {w : World} {b : Nat} {a0 a1 a2 a3 a4 a5 : Value} {T : TypeId} (ht : tmps.getD t undef = .pointer (some ⟨b, 0, none⟩))
    (hr : w.heap[b]? = some (.cells #[a0, a1, a2, a3, a4, a5] T (0, 0))) : (results fn tmps).run Tryz.prog w = .ok (.agg #[a0, a1, a2, a3, a4, a5]) w := by
  obtain ⟨⟨c0, c1, c2, c3, c4, c5⟩, _⟩ := row6 hr
  have ht' : tmps[t]?.getD undef = .pointer (some ⟨b, 0, none⟩) := by simpa using ht
  simp [results, h, ht', asAddr, loadVar_node9 c0 c1 c2 c3 c4 c5]
/-- The text of a node whose references have their names as text. -/
def txtF (x : Tr) : List UInt8 := (namedF nmF x).text
theorem named_text3 {x : Tr} (h : x.kind = 3) : (namedF nmF x).text = nmF x.a := by rw [namedF_eq]; simp only [Tr.text]; rw [if_pos h]
theorem named_text4 {x : Tr} (h : x.kind = 4) : (namedF nmF x).text = nmF x.a ++ 58 :: nmF x.b := by rw [namedF_eq]; simp only [Tr.text]; rw [if_neg (by omega), if_pos h]
theorem named_text0 {x : Tr} (h3 : x.kind ≠ 3) (h4 : x.kind ≠ 4) : (namedF nmF x).text = x.text := by rw [namedF_eq]; simp only [Tr.text]; rw [if_neg h3, if_neg h4]
theorem named_num (x : Tr) : (namedF nmF x).num = x.num := by rw [namedF_eq]; rfl
theorem named_a (x : Tr) : (namedF nmF x).a = 0 := by rw [namedF_eq]; rfl
theorem named_b (x : Tr) : (namedF nmF x).b = 0 := by rw [namedF_eq]; rfl
theorem fit_named {x : Tr} (h : FitN x) : FitN (namedF nmF x) := by
  obtain ⟨h0, h1, h2, h3, h4⟩ := h
  have hf := nm_len x.a
  have ht := nm_len x.b
  have hm : 1000 ≤ maxLen := by decide
  refine ⟨by rw [named_kind]; exact h0, by rw [named_num]; exact h1, by rw [named_a]; omega, by rw [named_b]; omega, ?_⟩
  by_cases e3 : x.kind = 3
  · rw [named_text3 e3]; omega
  · by_cases e4 : x.kind = 4
    · rw [named_text4 e4, List.length_append, List.length_cons]; omega
    · rw [named_text0 e3 e4]; exact h4
/-- A struct's text laid anew. -/
theorem OutSt.text {T : TypeId} {g : Nat} {k n : Int} {s s' : List UInt8} {f t : Int} {w : World} {v : Value} {l : List PartV} (h : OutSt T g k n s f t w v l) : OutSt T g k n s' f t (w.setCell ⟨g, 2, none⟩ (.string ⟨s'.toArray⟩)) v l := by
  have keep : ∀ {l : List Tr} {u : Value}, RdA (fun b => g < b ∧ v.ownBlock ≠ some b) w l u → RdA (fun b => g < b ∧ v.ownBlock ≠ some b) (w.setCell ⟨g, 2, none⟩ (.string ⟨s'.toArray⟩)) l u := fun hr =>
    hr.keep (fun b hb _ => ⟨hb, heap_setN (by omega)⟩) (by rw [size_set]; exact Nat.le_refl _)
  refine ⟨?_, ?_, fun x hx => ⟨(h.deep x hx).1, keep (h.deep x hx).2⟩⟩
  · simp [World.setCell, Array.getElem?_modify, h.row]
  · refine ⟨h.own.1, ?_⟩
    rcases h.own.2 with h2 | ⟨b, cap, cur, hv2, hb2, hh, r⟩
    · exact .inl h2
    · exact .inr ⟨b, cap, cur, hv2, hb2, by rw [heap_setN (by omega)]; exact hh, r⟩

set_option maxRecDepth 20000 in
set_option maxHeartbeats 16000000 in
theorem named_any (x : Tr) : ∀ (v : Value) (w : World), nodes x ≤ 1000000 → RdN AnyB w x v →
    Calls Tryz.prog 11 #[v] w fun e w' => ∃ u, e = .returned (nodeV x.kind x.num (txtF x) 0 0 u) ∧ RdA (fun b => w.heap.size ≤ b) w' (x.args.map (namedF nmF)) u ∧ Below w.heap.size w w' := by
  induction x using Tr.ind with
  | _ x ih =>
  intro v w hn hv
  obtain ⟨hfit, u, rfl, hA⟩ := hv
  obtain ⟨A, c, rfl⟩ := hA.named
  obtain ⟨len, hlen⟩ : ∃ len, len = x.args.length := ⟨_, rfl⟩
  rw [← hlen] at hA ⊢
  have hlm : len ≤ 1000000 := by have h1 := nodesL_len x.args; have h2 := nodes_eq x; omega
  have hb1 := below_alloc w (boxN x (.slice A len c) 24)
  have hb2 := hb1.trans ((below_alloc (w.alloc (boxN x (.slice A len c) 24)) (.cells #[.int .i64 0, .int .i64 0, .string ⟨#[]⟩, .int .i64 0, .int .i64 0, .slice none 0 0] 24)).mono hb1.size)
  have hb3 := hb2.trans ((below_alloc ((w.alloc (boxN x (.slice A len c) 24)).alloc (.cells #[.int .i64 0, .int .i64 0, .string ⟨#[]⟩, .int .i64 0, .int .i64 0, .slice none 0 0] 24)) (.cells #[.int .i64 x.kind, .int .i64 x.num, .string ⟨x.text.toArray⟩, .int .i64 0, .int .i64 0, .slice none 0 0] 24)).mono hb2.size)
  have HB3 := Lib.hid hb3
  have HROW2 := Lib.hid (show (((w.alloc (boxN x (.slice A len c) 24)).alloc (.cells #[.int .i64 0, .int .i64 0, .string ⟨#[]⟩, .int .i64 0, .int .i64 0, .slice none 0 0] 24)).alloc (.cells #[.int .i64 x.kind, .int .i64 x.num, .string ⟨x.text.toArray⟩, .int .i64 0, .int .i64 0, .slice none 0 0] 24)).heap[w.heap.size + 1]? = some (.cells #[.int .i64 0, .int .i64 0, .string ⟨#[]⟩, .int .i64 0, .int .i64 0, .slice none 0 0] 24 (0, 0)) from heap_old (heap_new (by simp)))
  have HBX := Lib.hid ((box6 w rfl x (.slice A len c) 24).below ((below_alloc (w.alloc (boxN x (.slice A len c) 24)) (.cells #[.int .i64 0, .int .i64 0, .string ⟨#[]⟩, .int .i64 0, .int .i64 0, .slice none 0 0] 24)).trans ((below_alloc ((w.alloc (boxN x (.slice A len c) 24)).alloc (.cells #[.int .i64 0, .int .i64 0, .string ⟨#[]⟩, .int .i64 0, .int .i64 0, .slice none 0 0] 24)) (.cells #[.int .i64 x.kind, .int .i64 x.num, .string ⟨x.text.toArray⟩, .int .i64 0, .int .i64 0, .slice none 0 0] 24)).mono (by simp))))
  have HST := Lib.hid (OutSt.new (T := 24) (g := (w.heap.size + 1 + 1)) ((w.alloc (boxN x (.slice A len c) 24)).alloc (.cells #[.int .i64 0, .int .i64 0, .string ⟨#[]⟩, .int .i64 0, .int .i64 0, .slice none 0 0] 24)) (by simp) x.kind x.num x.text 0 0)
  have HA := Lib.hid (fun (i : Nat) (y : Tr) (hy : x.args[i]? = some y) => part_at hA hy)
  have HFIT := Lib.hid (fun (i : Nat) (y : Tr) (hy : x.args[i]? = some y) => (show FitN (namedF nmF y) from by obtain ⟨_, _, _, _, h, _⟩ := hA.at_ hy; exact fit_named h))
  have HIH := Lib.hid ih
  have HND := Lib.hid (fun (i : Nat) (y : Tr) (hy : x.args[i]? = some y) => (show nodes y ≤ 1000000 from by have := Tr.part hy; omega))
  have HLEN := Lib.hid hlen
  have HN1 := Lib.hid (fun W => name_any x.a hfit.2.2.1 W)
  have HN2 := Lib.hid (fun W => name_any x.b hfit.2.2.2.1 W)
  unfold nodeV
  obtain ⟨p0, p1, p2, p3, p4, p5⟩ := (box6 w rfl x (.slice A len c) 24).below (below_alloc _ (.cells #[.int .i64 0, .int .i64 0, .string ⟨#[]⟩, .int .i64 0, .int .i64 0, .slice none 0 0] 24))
  clear hA ih hlen hfit hn hb1 hb2 hb3
  by_cases h3 : x.kind = 3
  · have htx : txtF x = nmF x.a := by unfold txtF; rw [namedF_eq]; simp only [Tr.text]; rw [if_pos h3]
    have hk : (x.kind == 3) = true := by rw [h3]; rfl
    have hk4 : (x.kind == 4) = false := by rw [h3]; rfl
    have hnm := HN1.out
    rw [← htx] at hnm
    have HNM := Lib.hid hnm
    obtain ⟨p0', p1', p2', p3', p4', p5'⟩ := HBX.out
    clear htx h3 hnm
    go_enter Tryz.func11, Tryz.ntmps11
    go_wp2_with fail
    go_at_call 9
    with_reducible refine (HNM.out _).mono ?_
    rintro e w1 ⟨rfl, hb1⟩
    have hst1 := HST.out.below hb1
    obtain ⟨⟨_, _, q2, _, _, _⟩, qf⟩ := row6 hst1.row
    have qf2 := qf 2
    have HSTART := Lib.hid (hst1.text (s' := txtF x))
    have HBST := Lib.hid (below_set (b := (w.heap.size + 1 + 1)) (hb1.mono (by simp)) 2 (.string ⟨(txtF x).toArray⟩))
    clear p0 p1 p2 p3 p4 p5 p0' p1' p2' p3' p4' p5' hst1 qf
    obtain ⟨p0, p1, p2, p3, p4, p5⟩ := HBX.out.below hb1
    clear hb1
    go_wp2_with fail
    clear p0 p1 p2 p3 p4 p5 q2 qf2
    go_loopw [4] (fun b wr => ∃ (i : Nat) (v : Value) (l' : List PartV), i ≤ len ∧ b = .int .i64 (i : Int) ∧ Hid (l'.map (·.1) = (x.args.take i).map (namedF nmF)) ∧ Hid (OutSt 24 (w.heap.size + 1 + 1) x.kind x.num (txtF x) 0 0 wr v l') ∧ Hid (Below (w.heap.size + 1 + 1) (((w.alloc (boxN x (.slice A len c) 24)).alloc (.cells #[.int .i64 0, .int .i64 0, .string ⟨#[]⟩, .int .i64 0, .int .i64 0, .slice none 0 0] 24)).alloc (.cells #[.int .i64 x.kind, .int .i64 x.num, .string ⟨x.text.toArray⟩, .int .i64 0, .int .i64 0, .slice none 0 0] 24)) wr)) (fun b _ => len - (intOf b).toNat)
    case atStart => exact ⟨0, _, [], Nat.zero_le _, rfl, Lib.hid rfl, HSTART, HBST⟩
    case round =>
      rename World => wr
      obtain ⟨i, v, l', hi, rfl, HL, HO, HB⟩ := hrel
      obtain ⟨Av, nv, cv, rfl⟩ := HO.out.own.form
      have HP := Lib.hid (fun w' (h : Below (w.heap.size + 1 + 1) wr w') => HBX.out.keep ((h.block w.heap.size (by omega)).trans (HB.out.block w.heap.size (by omega))))
      obtain ⟨_, _, _, _, _, p5⟩ := HP.out wr (Below.refl _ _)
      by_cases hlt : i < len
      · obtain ⟨y, hy⟩ : ∃ y, x.args[i]? = some y := ⟨_, List.getElem?_eq_getElem (by rw [← HLEN.out]; exact hlt)⟩
        have HY := Lib.hid hy
        have HFY := Lib.hid (HFIT.out i y hy)
        obtain ⟨b, off, uy, rfl, hw⟩ := HA.out i y hy
        have hbw : ∀ w', Below (w.heap.size + 1 + 1) wr w' → Below w.heap.size w w' := fun w' h => HB3.out.trans ((HB.out.trans h).mono (by omega))
        have HPY := Lib.hid (fun w' (h : Below (w.heap.size + 1 + 1) wr w') => (hw w' (hbw w' h)).1)
        have hcall := fun w' (h : Below (w.heap.size + 1 + 1) wr w') => HIH.out i y hy _ w' (HND.out i y hy) (hw w' (hbw w' h)).2
        have hnk : (namedF nmF y).kind = y.kind := named_kind nmF y
        have hcall2 : ∀ w', Below (w.heap.size + 1 + 1) wr w' → Calls Tryz.prog 11 #[.agg #[.int .i64 y.kind, .int .i64 y.num, .string ⟨y.text.toArray⟩, .int .i64 y.a, .int .i64 y.b, uy]] w' fun e w'' => ∃ u, e = .returned (.agg #[.int .i64 (namedF nmF y).kind, .int .i64 (namedF nmF y).num, .string ⟨(namedF nmF y).text.toArray⟩, .int .i64 (namedF nmF y).a, .int .i64 (namedF nmF y).b, u]) ∧ RdA (fun b => w'.heap.size ≤ b) w'' (namedF nmF y).args u ∧ Below w'.heap.size w' w'' := fun w' h => by
          have e := hcall w' h
          have ek : (namedF nmF y).kind = y.kind := named_kind nmF y
          have en : (namedF nmF y).num = y.num := by rw [namedF_eq]; rfl
          have ea : (namedF nmF y).a = 0 := by rw [namedF_eq]; rfl
          have eb : (namedF nmF y).b = 0 := by rw [namedF_eq]; rfl
          rw [ek, en, ea, eb, named_args]
          exact e
        have HCALL := Lib.hid hcall2
        have HO0 := Lib.hid (HO.out.below (Below.refl _ _).drew)
        have hg0 : (w.heap.size + 1 + 1) < wr.drew.heap.size := (Array.getElem?_eq_some_iff.1 HO0.out.row).1
        have HLL := Lib.hid (show l'.length ≤ 900000 + 99999 from by have h := congrArg List.length HL.out; simp at h; omega)
        clear hy hw hbw hcall hcall2 hnk
        go_wp2_with fail
        clear p5
        refine wp_region_noPanic ?_
        refine wp_region_held_drew (S := fun w' => Below (w.heap.size + 1 + 1) wr w') (by kernel_rfl) (Below.refl _ _).drew (fun HS0 => ?_)
        refine wpAnyH_take (i := 0) (v := ?_) rfl (by kernel_rfl) (by kernel_rfl) (by kernel_rfl) (fun _ _ _ h => h) (Or.inl ⟨by rfl, ?_⟩) HS0 ?_
        rotate_left
        · intro w hE; go_simp; try with_reducible rfl
        simp only [List.getElem_toArray, List.getElem_cons_succ, List.getElem_cons_zero, Act.put, List.setIfInBounds_toArray, List.set_cons_zero, List.set_cons_succ]
        refine wpAnyH_take (i := 2) (v := ?_) rfl (by kernel_rfl) (by kernel_rfl) (by kernel_rfl) (fun _ _ _ h => h) (Or.inl ⟨by rfl, ?_⟩) HS0 ?_
        rotate_left
        · intro w hE; go_simp; try with_reducible rfl
        simp only [List.getElem_toArray, List.getElem_cons_succ, List.getElem_cons_zero, Act.put, List.setIfInBounds_toArray, List.set_cons_zero, List.set_cons_succ]
        refine wpAnyH_take (i := 3) (v := ?_) rfl (by kernel_rfl) (by kernel_rfl) (by kernel_rfl) (fun _ _ _ h => h) (Or.inl ⟨by rfl, ?_⟩) HS0 ?_
        rotate_left
        · intro w hE; obtain ⟨_, _, _, _, _, p5⟩ := HP.out _ hE; go_simp; try with_reducible rfl
        simp only [List.getElem_toArray, List.getElem_cons_succ, List.getElem_cons_zero, Act.put, List.setIfInBounds_toArray, List.set_cons_zero, List.set_cons_succ]
        refine wpAnyH_take (i := 4) (v := ?_) rfl (by kernel_rfl) (by kernel_rfl) (by kernel_rfl) (fun _ _ _ h => h) (Or.inl ⟨by rfl, ?_⟩) HS0 ?_
        rotate_left
        · intro w hE; go_simp; try with_reducible rfl
        simp only [List.getElem_toArray, List.getElem_cons_succ, List.getElem_cons_zero, Act.put, List.setIfInBounds_toArray, List.set_cons_zero, List.set_cons_succ]
        refine wpAnyH_take (i := 5) (v := ?_) rfl (by kernel_rfl) (by kernel_rfl) (by kernel_rfl) (fun _ _ _ h => h) (Or.inl ⟨by rfl, ?_⟩) HS0 ?_
        rotate_left
        · intro w hE; go_simp; try with_reducible rfl
        simp only [List.getElem_toArray, List.getElem_cons_succ, List.getElem_cons_zero, Act.put, List.setIfInBounds_toArray, List.set_cons_zero, List.set_cons_succ]
        refine wpAnyH_take (i := 6) (v := ?_) rfl (by kernel_rfl) (by kernel_rfl) (by kernel_rfl) (fun _ _ _ h => h) (Or.inl ⟨by rfl, ?_⟩) HS0 ?_
        rotate_left
        · intro w hE; obtain ⟨c0, c1, c2, c3, c4, c5⟩ := HPY.out _ hE; go_simp; try with_reducible rfl
        simp only [List.getElem_toArray, List.getElem_cons_succ, List.getElem_cons_zero, Act.put, List.setIfInBounds_toArray, List.set_cons_zero, List.set_cons_succ]
        refine wpAnyH_ready (rs := [1, 7]) (by kernel_rfl) (by simp) ?_
        refine AllReadyH.cons rfl (fun K hK => ?_) (AllReadyH.cons rfl (fun K hK => ?_) AllReadyH.nil)
        · have q5 := (row6 HO0.out.row).1.2.2.2.2.2
          go_simp
          refine hK.out _ _ HS0 (fun HS1 => ?_)
          clear hK
          try simp only [List.getElem_toArray, List.getElem_cons_succ, List.getElem_cons_zero, Act.put, List.setIfInBounds_toArray, List.set_cons_zero, List.set_cons_succ]
          refine wpAnyH_ready (rs := [7]) (by kernel_rfl) (by simp) ?_
          refine AllReadyH.cons rfl (fun K hK => ?_) AllReadyH.nil
          go_simp
          go_at_call 11
          refine (HCALL.out wr.drew HS1).mono ?_
          rintro e wA ⟨uv, rfl, hN, hbA⟩
          go_simp
          refine hK.out _ _ (HS1.trans (hbA.mono (Nat.le_of_lt hg0))) (fun HS2 => ?_)
          clear hK
          have hgA := Nat.lt_of_lt_of_le hg0 hbA.size
          have HOA := Lib.hid (HO0.out.below hbA)
          have HLIT := Lib.hid hN.named
          have HDA := Lib.hid (hN.imp (q := fun b => (w.heap.size + 1 + 1) < b ∧ (Value.slice Av nv cv).ownBlock ≠ some b) (fun b hb => ⟨Nat.lt_of_lt_of_le hg0 hb, fun e => by have h := (HO0.out.own_lt b e).2; exact absurd hb (Nat.not_le_of_lt h)⟩))
          clear hN
          try simp only [List.getElem_toArray, List.getElem_cons_succ, List.getElem_cons_zero, Act.put, List.setIfInBounds_toArray, List.set_cons_zero, List.set_cons_succ]
          refine wpAnyH_ready (rs := [8]) (by kernel_rfl) (by simp) ?_
          refine AllReadyH.cons rfl (fun K hK => ?_) AllReadyH.nil
          go_simp
          refine hK.out _ _ (HS2.alloc (Nat.le_of_lt hgA) _) (fun HS3 => ?_)
          clear hK
          have HOB := Lib.hid (HOA.out.below (below_alloc wA (boxN (namedF nmF y) uv 24)))
          have HDB := Lib.hid (HDA.out.below (below_alloc wA (boxN (namedF nmF y) uv 24)))
          have HEB := Lib.hid (box6 wA rfl (namedF nmF y) uv 24)
          have hgB : (w.heap.size + 1 + 1) < (wA.alloc (boxN (namedF nmF y) uv 24)).heap.size := Nat.lt_of_lt_of_le hgA (by simp)
          try simp only [List.getElem_toArray, List.getElem_cons_succ, List.getElem_cons_zero, Act.put, List.setIfInBounds_toArray, List.set_cons_zero, List.set_cons_succ]
          refine wpAnyH_ready (rs := [9]) (by kernel_rfl) (by simp) ?_
          refine AllReadyH.cons rfl (fun K hK => ?_) AllReadyH.nil
          refine step_appN info_node Tryz.underlying22 rfl _ _ rfl ((w.heap.size + 1 + 1) + 1) _ _ rfl HOB.out.own _ 0 1 (namedF nmF y) uv rfl (by decide) (by decide) HEB.out (by obtain ⟨A, c, h⟩ := HLIT.out; exact ⟨A, _, c, h⟩) (by have := HLL.out; omega) hgB ?_
          intro vD wD hoD hbD hgD hvD
          refine hK.out _ _ (HS3.trans (hbD.mono (Nat.le_succ _))) (fun HS4 => ?_)
          clear hK
          obtain ⟨Ad, nd, cd, rfl⟩ := OwnN.form hoD
          have HOD := Lib.hid (HOB.out.push hoD hgD hvD HFY.out HDB.out)
          have HRD := Lib.hid ((hbD.block (w.heap.size + 1 + 1) (Nat.lt_succ_self _)).trans HOB.out.row)
          clear hoD hgD hvD
          try simp only [List.getElem_toArray, List.getElem_cons_succ, List.getElem_cons_zero, Act.put, List.setIfInBounds_toArray, List.set_cons_zero, List.set_cons_succ]
          refine wpAnyH_take (i := 10) (v := ?_) rfl (by kernel_rfl) (by kernel_rfl) (by kernel_rfl) (fun _ _ _ h => h) (Or.inl ⟨by rfl, ?_⟩) HS4 ?_
          rotate_left
          · intro w hE; go_simp; try with_reducible rfl
          simp only [List.getElem_toArray, List.getElem_cons_succ, List.getElem_cons_zero, Act.put, List.setIfInBounds_toArray, List.set_cons_zero, List.set_cons_succ]
          refine wpAnyH_ready (rs := [11]) (by kernel_rfl) (by simp) ?_
          refine AllReadyH.cons rfl (fun K hK => ?_) AllReadyH.nil
          obtain ⟨⟨_, _, _, _, _, q5⟩, qf⟩ := row6 HRD.out
          have qf5 := qf 5
          clear qf
          go_simp
          refine hK.out _ _ (below_set HS4 5 _) (fun HS5 => ?_)
          clear hK
          try simp only [List.getElem_toArray, List.getElem_cons_succ, List.getElem_cons_zero, Act.put, List.setIfInBounds_toArray, List.set_cons_zero, List.set_cons_succ]
          refine wpAnyH_done (by kernel_rfl) ?_ _
          refine NoPanic.normal ?_
          go_wp2_with fail
          go_roundw
          case rel => exact ⟨i + 1, _, l' ++ [(namedF nmF y, uv)], by omega, by go_num, Lib.hid (by rw [List.map_append, HL.out, List.take_add_one, HY.out, List.map_append]; rfl), HOD, Lib.hid (HB.out.trans HS5)⟩
          case measure => simp [intOf]; omega
        · go_simp
          go_at_call 11
          refine (HCALL.out wr.drew HS0).mono ?_
          rintro e wA ⟨uv, rfl, hN, hbA⟩
          go_simp
          refine hK.out _ _ (HS0.trans (hbA.mono (Nat.le_of_lt hg0))) (fun HS1 => ?_)
          clear hK
          have hgA := Nat.lt_of_lt_of_le hg0 hbA.size
          have HOA := Lib.hid (HO0.out.below hbA)
          have HLIT := Lib.hid hN.named
          have HDA := Lib.hid (hN.imp (q := fun b => (w.heap.size + 1 + 1) < b ∧ (Value.slice Av nv cv).ownBlock ≠ some b) (fun b hb => ⟨Nat.lt_of_lt_of_le hg0 hb, fun e => by have h := (HO0.out.own_lt b e).2; exact absurd hb (Nat.not_le_of_lt h)⟩))
          clear hN
          try simp only [List.getElem_toArray, List.getElem_cons_succ, List.getElem_cons_zero, Act.put, List.setIfInBounds_toArray, List.set_cons_zero, List.set_cons_succ]
          refine wpAnyH_ready (rs := [1, 8]) (by kernel_rfl) (by simp) ?_
          refine AllReadyH.cons rfl (fun K hK => ?_) (AllReadyH.cons rfl (fun K hK => ?_) AllReadyH.nil)
          · have q5 := (row6 HOA.out.row).1.2.2.2.2.2
            go_simp
            refine hK.out _ _ HS1 (fun HS2 => ?_)
            clear hK
            try simp only [List.getElem_toArray, List.getElem_cons_succ, List.getElem_cons_zero, Act.put, List.setIfInBounds_toArray, List.set_cons_zero, List.set_cons_succ]
            refine wpAnyH_ready (rs := [8]) (by kernel_rfl) (by simp) ?_
            refine AllReadyH.cons rfl (fun K hK => ?_) AllReadyH.nil
            go_simp
            refine hK.out _ _ (HS2.alloc (Nat.le_of_lt hgA) _) (fun HS3 => ?_)
            clear hK
            have HOB := Lib.hid (HOA.out.below (below_alloc wA (boxN (namedF nmF y) uv 24)))
            have HDB := Lib.hid (HDA.out.below (below_alloc wA (boxN (namedF nmF y) uv 24)))
            have HEB := Lib.hid (box6 wA rfl (namedF nmF y) uv 24)
            have hgB : (w.heap.size + 1 + 1) < (wA.alloc (boxN (namedF nmF y) uv 24)).heap.size := Nat.lt_of_lt_of_le hgA (by simp)
            try simp only [List.getElem_toArray, List.getElem_cons_succ, List.getElem_cons_zero, Act.put, List.setIfInBounds_toArray, List.set_cons_zero, List.set_cons_succ]
            refine wpAnyH_ready (rs := [9]) (by kernel_rfl) (by simp) ?_
            refine AllReadyH.cons rfl (fun K hK => ?_) AllReadyH.nil
            refine step_appN info_node Tryz.underlying22 rfl _ _ rfl ((w.heap.size + 1 + 1) + 1) _ _ rfl HOB.out.own _ 0 1 (namedF nmF y) uv rfl (by decide) (by decide) HEB.out (by obtain ⟨A, c, h⟩ := HLIT.out; exact ⟨A, _, c, h⟩) (by have := HLL.out; omega) hgB ?_
            intro vD wD hoD hbD hgD hvD
            refine hK.out _ _ (HS3.trans (hbD.mono (Nat.le_succ _))) (fun HS4 => ?_)
            clear hK
            obtain ⟨Ad, nd, cd, rfl⟩ := OwnN.form hoD
            have HOD := Lib.hid (HOB.out.push hoD hgD hvD HFY.out HDB.out)
            have HRD := Lib.hid ((hbD.block (w.heap.size + 1 + 1) (Nat.lt_succ_self _)).trans HOB.out.row)
            clear hoD hgD hvD
            try simp only [List.getElem_toArray, List.getElem_cons_succ, List.getElem_cons_zero, Act.put, List.setIfInBounds_toArray, List.set_cons_zero, List.set_cons_succ]
            refine wpAnyH_take (i := 10) (v := ?_) rfl (by kernel_rfl) (by kernel_rfl) (by kernel_rfl) (fun _ _ _ h => h) (Or.inl ⟨by rfl, ?_⟩) HS4 ?_
            rotate_left
            · intro w hE; go_simp; try with_reducible rfl
            simp only [List.getElem_toArray, List.getElem_cons_succ, List.getElem_cons_zero, Act.put, List.setIfInBounds_toArray, List.set_cons_zero, List.set_cons_succ]
            refine wpAnyH_ready (rs := [11]) (by kernel_rfl) (by simp) ?_
            refine AllReadyH.cons rfl (fun K hK => ?_) AllReadyH.nil
            obtain ⟨⟨_, _, _, _, _, q5⟩, qf⟩ := row6 HRD.out
            have qf5 := qf 5
            clear qf
            go_simp
            refine hK.out _ _ (below_set HS4 5 _) (fun HS5 => ?_)
            clear hK
            try simp only [List.getElem_toArray, List.getElem_cons_succ, List.getElem_cons_zero, Act.put, List.setIfInBounds_toArray, List.set_cons_zero, List.set_cons_succ]
            refine wpAnyH_done (by kernel_rfl) ?_ _
            refine NoPanic.normal ?_
            go_wp2_with fail
            go_roundw
            case rel => exact ⟨i + 1, _, l' ++ [(namedF nmF y, uv)], by omega, by go_num, Lib.hid (by rw [List.map_append, HL.out, List.take_add_one, HY.out, List.map_append]; rfl), HOD, Lib.hid (HB.out.trans HS5)⟩
            case measure => simp [intOf]; omega
          · go_simp
            refine hK.out _ _ (HS1.alloc (Nat.le_of_lt hgA) _) (fun HS2 => ?_)
            clear hK
            have HOB := Lib.hid (HOA.out.below (below_alloc wA (boxN (namedF nmF y) uv 24)))
            have HDB := Lib.hid (HDA.out.below (below_alloc wA (boxN (namedF nmF y) uv 24)))
            have HEB := Lib.hid (box6 wA rfl (namedF nmF y) uv 24)
            have hgB : (w.heap.size + 1 + 1) < (wA.alloc (boxN (namedF nmF y) uv 24)).heap.size := Nat.lt_of_lt_of_le hgA (by simp)
            try simp only [List.getElem_toArray, List.getElem_cons_succ, List.getElem_cons_zero, Act.put, List.setIfInBounds_toArray, List.set_cons_zero, List.set_cons_succ]
            refine wpAnyH_ready (rs := [1]) (by kernel_rfl) (by simp) ?_
            refine AllReadyH.cons rfl (fun K hK => ?_) AllReadyH.nil
            have q5 := (row6 HOB.out.row).1.2.2.2.2.2
            go_simp
            refine hK.out _ _ HS2 (fun HS3 => ?_)
            clear hK
            try simp only [List.getElem_toArray, List.getElem_cons_succ, List.getElem_cons_zero, Act.put, List.setIfInBounds_toArray, List.set_cons_zero, List.set_cons_succ]
            refine wpAnyH_ready (rs := [9]) (by kernel_rfl) (by simp) ?_
            refine AllReadyH.cons rfl (fun K hK => ?_) AllReadyH.nil
            refine step_appN info_node Tryz.underlying22 rfl _ _ rfl ((w.heap.size + 1 + 1) + 1) _ _ rfl HOB.out.own _ 0 1 (namedF nmF y) uv rfl (by decide) (by decide) HEB.out (by obtain ⟨A, c, h⟩ := HLIT.out; exact ⟨A, _, c, h⟩) (by have := HLL.out; omega) hgB ?_
            intro vD wD hoD hbD hgD hvD
            refine hK.out _ _ (HS3.trans (hbD.mono (Nat.le_succ _))) (fun HS4 => ?_)
            clear hK
            obtain ⟨Ad, nd, cd, rfl⟩ := OwnN.form hoD
            have HOD := Lib.hid (HOB.out.push hoD hgD hvD HFY.out HDB.out)
            have HRD := Lib.hid ((hbD.block (w.heap.size + 1 + 1) (Nat.lt_succ_self _)).trans HOB.out.row)
            clear hoD hgD hvD
            try simp only [List.getElem_toArray, List.getElem_cons_succ, List.getElem_cons_zero, Act.put, List.setIfInBounds_toArray, List.set_cons_zero, List.set_cons_succ]
            refine wpAnyH_take (i := 10) (v := ?_) rfl (by kernel_rfl) (by kernel_rfl) (by kernel_rfl) (fun _ _ _ h => h) (Or.inl ⟨by rfl, ?_⟩) HS4 ?_
            rotate_left
            · intro w hE; go_simp; try with_reducible rfl
            simp only [List.getElem_toArray, List.getElem_cons_succ, List.getElem_cons_zero, Act.put, List.setIfInBounds_toArray, List.set_cons_zero, List.set_cons_succ]
            refine wpAnyH_ready (rs := [11]) (by kernel_rfl) (by simp) ?_
            refine AllReadyH.cons rfl (fun K hK => ?_) AllReadyH.nil
            obtain ⟨⟨_, _, _, _, _, q5⟩, qf⟩ := row6 HRD.out
            have qf5 := qf 5
            clear qf
            go_simp
            refine hK.out _ _ (below_set HS4 5 _) (fun HS5 => ?_)
            clear hK
            try simp only [List.getElem_toArray, List.getElem_cons_succ, List.getElem_cons_zero, Act.put, List.setIfInBounds_toArray, List.set_cons_zero, List.set_cons_succ]
            refine wpAnyH_done (by kernel_rfl) ?_ _
            refine NoPanic.normal ?_
            go_wp2_with fail
            go_roundw
            case rel => exact ⟨i + 1, _, l' ++ [(namedF nmF y, uv)], by omega, by go_num, Lib.hid (by rw [List.map_append, HL.out, List.take_add_one, HY.out, List.map_append]; rfl), HOD, Lib.hid (HB.out.trans HS5)⟩
            case measure => simp [intOf]; omega
      · obtain rfl : i = len := by omega
        have hl : l'.map (·.1) = x.args.map (namedF nmF) := by rw [HL.out, HLEN.out, List.take_length]
        obtain ⟨⟨q0, q1, q2, q3, q4, q5⟩, _⟩ := row6 HO.out.row
        have hrow2 : wr.heap[w.heap.size + 1]? = some (.cells #[.int .i64 0, .int .i64 0, .string ⟨#[]⟩, .int .i64 0, .int .i64 0, .slice none 0 0] 24 (0, 0)) := (HB.out.block (w.heap.size + 1) (by omega)).trans HROW2.out
        obtain ⟨⟨r0, r1, r2, r3, r4, r5⟩, rf⟩ := row6 hrow2
        have f0 := rf 0
        have f1 := rf 1
        have f2 := rf 2
        have f3 := rf 3
        have f4 := rf 4
        have f5 := rf 5
        have HROWR := Lib.hid hrow2
        have hrd := HO.out.rdA
        rw [hl] at hrd
        have HRD := Lib.hid hrd
        clear rf hrow2 hl hrd
        go_wp2_with fail
        obtain ⟨g0, g1, g2, g3⟩ := fin6 (w' := wr) (b := w.heap.size + 1) (HB.out.mono (by omega)) HROWR.out (.int .i64 x.kind) (.int .i64 x.num) (.string ⟨(txtF x).toArray⟩) (.int .i64 0) (.int .i64 0) (.slice Av nv cv) _ rfl
        refine bodyPost_ret (results_node9 rfl rfl g1) rfl ?_
        exact ⟨_, rfl, HRD.out.keep (fun b hb hbl => ⟨by omega, g3 b (by omega)⟩) (by rw [g2]; exact Nat.le_refl _), HB3.out.trans (g0.mono (by omega))⟩
  · by_cases h4 : x.kind = 4
    · have htx : txtF x = nmF x.a ++ 58 :: nmF x.b := by unfold txtF; rw [namedF_eq]; simp only [Tr.text]; rw [if_neg h3, if_pos h4]
      have hk : (x.kind == 3) = false := by rw [h4]; rfl
      have hk4 : (x.kind == 4) = true := by rw [h4]; rfl
      have hn1 := HN1.out
      have hn2 := HN2.out
      have hz1 : (⟨(nmF x.a).toArray⟩ : ByteArray).size ≤ 41 := nm_len x.a
      have hz2 : (⟨(nmF x.b).toArray⟩ : ByteArray).size ≤ 41 := nm_len x.b
      have hba : (⟨(nmF x.a).toArray⟩ ++ ⟨#[58]⟩ ++ ⟨(nmF x.b).toArray⟩ : ByteArray) = ⟨(txtF x).toArray⟩ := by
        have e1 : (⟨(nmF x.a).toArray⟩ ++ ⟨#[58]⟩ : ByteArray) = ⟨(nmF x.a ++ [58]).toArray⟩ := ba_app9 _ [58]
        rw [e1, ba_app9, htx, List.append_assoc]
        rfl
      generalize (⟨(nmF x.a).toArray⟩ : ByteArray) = sa at hn1 hz1 hba
      generalize (⟨(nmF x.b).toArray⟩ : ByteArray) = sb at hn2 hz2 hba
      have HNA := Lib.hid hn1
      have HNB := Lib.hid hn2
      have HBA := Lib.hid hba
      have HC1 : Hid ((9223372036854775807 < sa.size + 1) = False) := eq_false (by omega)
      have HC2 : Hid ((9223372036854775807 < sa.size + 1 + sb.size) = False) := eq_false (by omega)
      obtain ⟨p0', p1', p2', p3', p4', p5'⟩ := HBX.out
      have HP0 := Lib.hid (fun w' (h : Below (w.heap.size + 1 + 1) (((w.alloc (boxN x (.slice A len c) 24)).alloc (.cells #[.int .i64 0, .int .i64 0, .string ⟨#[]⟩, .int .i64 0, .int .i64 0, .slice none 0 0] 24)).alloc (.cells #[.int .i64 x.kind, .int .i64 x.num, .string ⟨x.text.toArray⟩, .int .i64 0, .int .i64 0, .slice none 0 0] 24)) w') => HBX.out.keep (h.block w.heap.size (by omega)))
      clear htx h3 h4 hn1 hn2 hba hz1 hz2
      go_enter Tryz.func11, Tryz.ntmps11
      go_wp2_with fail
      clear p0 p1 p2 p3 p4 p5 p0' p1' p2' p3' p4' p5'
      refine wp_region_noPanic ?_
      refine wp_region_held_drew (S := fun w' => Below (w.heap.size + 1 + 1) (((w.alloc (boxN x (.slice A len c) 24)).alloc (.cells #[.int .i64 0, .int .i64 0, .string ⟨#[]⟩, .int .i64 0, .int .i64 0, .slice none 0 0] 24)).alloc (.cells #[.int .i64 x.kind, .int .i64 x.num, .string ⟨x.text.toArray⟩, .int .i64 0, .int .i64 0, .slice none 0 0] 24)) w') (by kernel_rfl) (Below.refl _ _).drew (fun HS0 => ?_)
      refine wpAnyH_take (i := 0) (v := ?_) rfl (by kernel_rfl) (by kernel_rfl) (by kernel_rfl) (fun _ _ _ h => h) (Or.inl ⟨by rfl, ?_⟩) HS0 ?_
      rotate_left
      · intro w hE; go_simp; try with_reducible rfl
      simp only [List.getElem_toArray, List.getElem_cons_succ, List.getElem_cons_zero, Act.put, List.setIfInBounds_toArray, List.set_cons_zero, List.set_cons_succ]
      refine wpAnyH_take (i := 1) (v := ?_) rfl (by kernel_rfl) (by kernel_rfl) (by kernel_rfl) (fun _ _ _ h => h) (Or.inl ⟨by rfl, ?_⟩) HS0 ?_
      rotate_left
      · intro w hE; obtain ⟨p0, p1, p2, p3, p4, p5⟩ := HP0.out _ hE; go_simp; try with_reducible rfl
      simp only [List.getElem_toArray, List.getElem_cons_succ, List.getElem_cons_zero, Act.put, List.setIfInBounds_toArray, List.set_cons_zero, List.set_cons_succ]
      refine wpAnyH_take (i := 4) (v := ?_) rfl (by kernel_rfl) (by kernel_rfl) (by kernel_rfl) (fun _ _ _ h => h) (Or.inl ⟨by rfl, ?_⟩) HS0 ?_
      rotate_left
      · intro w hE; go_simp; try with_reducible rfl
      simp only [List.getElem_toArray, List.getElem_cons_succ, List.getElem_cons_zero, Act.put, List.setIfInBounds_toArray, List.set_cons_zero, List.set_cons_succ]
      refine wpAnyH_take (i := 5) (v := ?_) rfl (by kernel_rfl) (by kernel_rfl) (by kernel_rfl) (fun _ _ _ h => h) (Or.inl ⟨by rfl, ?_⟩) HS0 ?_
      rotate_left
      · intro w hE; obtain ⟨p0, p1, p2, p3, p4, p5⟩ := HP0.out _ hE; go_simp; try with_reducible rfl
      simp only [List.getElem_toArray, List.getElem_cons_succ, List.getElem_cons_zero, Act.put, List.setIfInBounds_toArray, List.set_cons_zero, List.set_cons_succ]
      refine wpAnyH_ready (rs := [2]) (by kernel_rfl) (by simp) ?_
      refine AllReadyH.cons rfl (fun K hK => ?_) AllReadyH.nil
      go_simp
      go_at_call 9
      refine (HNA.out _).mono ?_
      rintro e wA ⟨rfl, hbA⟩
      go_simp
      refine hK.out _ _ (HS0.trans (hbA.mono (by simp [World.drew]))) (fun HS1 => ?_)
      clear hK
      have hxA := HS0.trans (hbA.mono (by simp [World.drew]))
      have hgA : (w.heap.size + 1 + 1) < wA.heap.size := Nat.lt_of_lt_of_le (by simp [World.drew]) hbA.size
      have HOA := Lib.hid ((HST.out.below (Below.refl _ _).drew).below hbA)
      try simp only [List.getElem_toArray, List.getElem_cons_succ, List.getElem_cons_zero, Act.put, List.setIfInBounds_toArray, List.set_cons_zero, List.set_cons_succ]
      refine wpAnyH_take (i := 3) (v := ?_) rfl (by kernel_rfl) (by kernel_rfl) (by kernel_rfl) (fun _ _ _ h => h) (Or.inl ⟨by rfl, ?_⟩) HS1 ?_
      rotate_left
      · intro w hE; have hq := HC1.out; go_simp; try with_reducible rfl
      simp only [List.getElem_toArray, List.getElem_cons_succ, List.getElem_cons_zero, Act.put, List.setIfInBounds_toArray, List.set_cons_zero, List.set_cons_succ]
      refine wpAnyH_ready (rs := [6]) (by kernel_rfl) (by simp) ?_
      refine AllReadyH.cons rfl (fun K hK => ?_) AllReadyH.nil
      go_simp
      go_at_call 9
      refine (HNB.out _).mono ?_
      rintro e wB ⟨rfl, hbB⟩
      go_simp
      refine hK.out _ _ (hxA.trans (hbB.mono (Nat.le_of_lt hgA))) (fun HS2 => ?_)
      clear hK
      have hxB := hxA.trans (hbB.mono (Nat.le_of_lt hgA))
      have HOB := Lib.hid (HOA.out.below hbB)
      try simp only [List.getElem_toArray, List.getElem_cons_succ, List.getElem_cons_zero, Act.put, List.setIfInBounds_toArray, List.set_cons_zero, List.set_cons_succ]
      refine wpAnyH_take (i := 7) (v := ?_) rfl (by kernel_rfl) (by kernel_rfl) (by kernel_rfl) (fun _ _ _ h => h) (Or.inl ⟨by rfl, ?_⟩) HS2 ?_
      rotate_left
      · intro w hE; have hq := HC2.out; have hq2 := HBA.out; go_simp; try with_reducible rfl
      simp only [List.getElem_toArray, List.getElem_cons_succ, List.getElem_cons_zero, Act.put, List.setIfInBounds_toArray, List.set_cons_zero, List.set_cons_succ]
      refine wpAnyH_take (i := 8) (v := ?_) rfl (by kernel_rfl) (by kernel_rfl) (by kernel_rfl) (fun _ _ _ h => h) (Or.inl ⟨by rfl, ?_⟩) HS2 ?_
      rotate_left
      · intro w hE; go_simp; try with_reducible rfl
      simp only [List.getElem_toArray, List.getElem_cons_succ, List.getElem_cons_zero, Act.put, List.setIfInBounds_toArray, List.set_cons_zero, List.set_cons_succ]
      refine wpAnyH_ready (rs := [9]) (by kernel_rfl) (by simp) ?_
      refine AllReadyH.cons rfl (fun K hK => ?_) AllReadyH.nil
      obtain ⟨⟨_, _, q2, _, _, _⟩, qf⟩ := row6 HOB.out.row
      have qf2 := qf 2
      clear qf
      go_simp
      refine hK.out _ _ (below_set hxB 2 _) (fun HS3 => ?_)
      clear hK
      try simp only [List.getElem_toArray, List.getElem_cons_succ, List.getElem_cons_zero, Act.put, List.setIfInBounds_toArray, List.set_cons_zero, List.set_cons_succ]
      refine wpAnyH_done (by kernel_rfl) ?_ _
      refine NoPanic.normal ?_
      have HSTART := Lib.hid (HOB.out.text (s' := txtF x))
      have HBST := Lib.hid (below_set (b := (w.heap.size + 1 + 1)) hxB 2 (.string ⟨(txtF x).toArray⟩))
      go_wp2_with fail
      go_loopw [4] (fun b wr => ∃ (i : Nat) (v : Value) (l' : List PartV), i ≤ len ∧ b = .int .i64 (i : Int) ∧ Hid (l'.map (·.1) = (x.args.take i).map (namedF nmF)) ∧ Hid (OutSt 24 (w.heap.size + 1 + 1) x.kind x.num (txtF x) 0 0 wr v l') ∧ Hid (Below (w.heap.size + 1 + 1) (((w.alloc (boxN x (.slice A len c) 24)).alloc (.cells #[.int .i64 0, .int .i64 0, .string ⟨#[]⟩, .int .i64 0, .int .i64 0, .slice none 0 0] 24)).alloc (.cells #[.int .i64 x.kind, .int .i64 x.num, .string ⟨x.text.toArray⟩, .int .i64 0, .int .i64 0, .slice none 0 0] 24)) wr)) (fun b _ => len - (intOf b).toNat)
      case atStart => exact ⟨0, _, [], Nat.zero_le _, rfl, Lib.hid rfl, HSTART, HBST⟩
      case round =>
        rename World => wr
        obtain ⟨i, v, l', hi, rfl, HL, HO, HB⟩ := hrel
        obtain ⟨Av, nv, cv, rfl⟩ := HO.out.own.form
        have HP := Lib.hid (fun w' (h : Below (w.heap.size + 1 + 1) wr w') => HBX.out.keep ((h.block w.heap.size (by omega)).trans (HB.out.block w.heap.size (by omega))))
        obtain ⟨_, _, _, _, _, p5⟩ := HP.out wr (Below.refl _ _)
        by_cases hlt : i < len
        · obtain ⟨y, hy⟩ : ∃ y, x.args[i]? = some y := ⟨_, List.getElem?_eq_getElem (by rw [← HLEN.out]; exact hlt)⟩
          have HY := Lib.hid hy
          have HFY := Lib.hid (HFIT.out i y hy)
          obtain ⟨b, off, uy, rfl, hw⟩ := HA.out i y hy
          have hbw : ∀ w', Below (w.heap.size + 1 + 1) wr w' → Below w.heap.size w w' := fun w' h => HB3.out.trans ((HB.out.trans h).mono (by omega))
          have HPY := Lib.hid (fun w' (h : Below (w.heap.size + 1 + 1) wr w') => (hw w' (hbw w' h)).1)
          have hcall := fun w' (h : Below (w.heap.size + 1 + 1) wr w') => HIH.out i y hy _ w' (HND.out i y hy) (hw w' (hbw w' h)).2
          have hnk : (namedF nmF y).kind = y.kind := named_kind nmF y
          have hcall2 : ∀ w', Below (w.heap.size + 1 + 1) wr w' → Calls Tryz.prog 11 #[.agg #[.int .i64 y.kind, .int .i64 y.num, .string ⟨y.text.toArray⟩, .int .i64 y.a, .int .i64 y.b, uy]] w' fun e w'' => ∃ u, e = .returned (.agg #[.int .i64 (namedF nmF y).kind, .int .i64 (namedF nmF y).num, .string ⟨(namedF nmF y).text.toArray⟩, .int .i64 (namedF nmF y).a, .int .i64 (namedF nmF y).b, u]) ∧ RdA (fun b => w'.heap.size ≤ b) w'' (namedF nmF y).args u ∧ Below w'.heap.size w' w'' := fun w' h => by
            have e := hcall w' h
            have ek : (namedF nmF y).kind = y.kind := named_kind nmF y
            have en : (namedF nmF y).num = y.num := by rw [namedF_eq]; rfl
            have ea : (namedF nmF y).a = 0 := by rw [namedF_eq]; rfl
            have eb : (namedF nmF y).b = 0 := by rw [namedF_eq]; rfl
            rw [ek, en, ea, eb, named_args]
            exact e
          have HCALL := Lib.hid hcall2
          have HO0 := Lib.hid (HO.out.below (Below.refl _ _).drew)
          have hg0 : (w.heap.size + 1 + 1) < wr.drew.heap.size := (Array.getElem?_eq_some_iff.1 HO0.out.row).1
          have HLL := Lib.hid (show l'.length ≤ 900000 + 99999 from by have h := congrArg List.length HL.out; simp at h; omega)
          clear hy hw hbw hcall hcall2 hnk
          go_wp2_with fail
          clear p5
          refine wp_region_noPanic ?_
          refine wp_region_held_drew (S := fun w' => Below (w.heap.size + 1 + 1) wr w') (by kernel_rfl) (Below.refl _ _).drew (fun HS0 => ?_)
          refine wpAnyH_take (i := 0) (v := ?_) rfl (by kernel_rfl) (by kernel_rfl) (by kernel_rfl) (fun _ _ _ h => h) (Or.inl ⟨by rfl, ?_⟩) HS0 ?_
          rotate_left
          · intro w hE; go_simp; try with_reducible rfl
          simp only [List.getElem_toArray, List.getElem_cons_succ, List.getElem_cons_zero, Act.put, List.setIfInBounds_toArray, List.set_cons_zero, List.set_cons_succ]
          refine wpAnyH_take (i := 2) (v := ?_) rfl (by kernel_rfl) (by kernel_rfl) (by kernel_rfl) (fun _ _ _ h => h) (Or.inl ⟨by rfl, ?_⟩) HS0 ?_
          rotate_left
          · intro w hE; go_simp; try with_reducible rfl
          simp only [List.getElem_toArray, List.getElem_cons_succ, List.getElem_cons_zero, Act.put, List.setIfInBounds_toArray, List.set_cons_zero, List.set_cons_succ]
          refine wpAnyH_take (i := 3) (v := ?_) rfl (by kernel_rfl) (by kernel_rfl) (by kernel_rfl) (fun _ _ _ h => h) (Or.inl ⟨by rfl, ?_⟩) HS0 ?_
          rotate_left
          · intro w hE; obtain ⟨_, _, _, _, _, p5⟩ := HP.out _ hE; go_simp; try with_reducible rfl
          simp only [List.getElem_toArray, List.getElem_cons_succ, List.getElem_cons_zero, Act.put, List.setIfInBounds_toArray, List.set_cons_zero, List.set_cons_succ]
          refine wpAnyH_take (i := 4) (v := ?_) rfl (by kernel_rfl) (by kernel_rfl) (by kernel_rfl) (fun _ _ _ h => h) (Or.inl ⟨by rfl, ?_⟩) HS0 ?_
          rotate_left
          · intro w hE; go_simp; try with_reducible rfl
          simp only [List.getElem_toArray, List.getElem_cons_succ, List.getElem_cons_zero, Act.put, List.setIfInBounds_toArray, List.set_cons_zero, List.set_cons_succ]
          refine wpAnyH_take (i := 5) (v := ?_) rfl (by kernel_rfl) (by kernel_rfl) (by kernel_rfl) (fun _ _ _ h => h) (Or.inl ⟨by rfl, ?_⟩) HS0 ?_
          rotate_left
          · intro w hE; go_simp; try with_reducible rfl
          simp only [List.getElem_toArray, List.getElem_cons_succ, List.getElem_cons_zero, Act.put, List.setIfInBounds_toArray, List.set_cons_zero, List.set_cons_succ]
          refine wpAnyH_take (i := 6) (v := ?_) rfl (by kernel_rfl) (by kernel_rfl) (by kernel_rfl) (fun _ _ _ h => h) (Or.inl ⟨by rfl, ?_⟩) HS0 ?_
          rotate_left
          · intro w hE; obtain ⟨c0, c1, c2, c3, c4, c5⟩ := HPY.out _ hE; go_simp; try with_reducible rfl
          simp only [List.getElem_toArray, List.getElem_cons_succ, List.getElem_cons_zero, Act.put, List.setIfInBounds_toArray, List.set_cons_zero, List.set_cons_succ]
          refine wpAnyH_ready (rs := [1, 7]) (by kernel_rfl) (by simp) ?_
          refine AllReadyH.cons rfl (fun K hK => ?_) (AllReadyH.cons rfl (fun K hK => ?_) AllReadyH.nil)
          · have q5 := (row6 HO0.out.row).1.2.2.2.2.2
            go_simp
            refine hK.out _ _ HS0 (fun HS1 => ?_)
            clear hK
            try simp only [List.getElem_toArray, List.getElem_cons_succ, List.getElem_cons_zero, Act.put, List.setIfInBounds_toArray, List.set_cons_zero, List.set_cons_succ]
            refine wpAnyH_ready (rs := [7]) (by kernel_rfl) (by simp) ?_
            refine AllReadyH.cons rfl (fun K hK => ?_) AllReadyH.nil
            go_simp
            go_at_call 11
            refine (HCALL.out wr.drew HS1).mono ?_
            rintro e wA ⟨uv, rfl, hN, hbA⟩
            go_simp
            refine hK.out _ _ (HS1.trans (hbA.mono (Nat.le_of_lt hg0))) (fun HS2 => ?_)
            clear hK
            have hgA := Nat.lt_of_lt_of_le hg0 hbA.size
            have HOA := Lib.hid (HO0.out.below hbA)
            have HLIT := Lib.hid hN.named
            have HDA := Lib.hid (hN.imp (q := fun b => (w.heap.size + 1 + 1) < b ∧ (Value.slice Av nv cv).ownBlock ≠ some b) (fun b hb => ⟨Nat.lt_of_lt_of_le hg0 hb, fun e => by have h := (HO0.out.own_lt b e).2; exact absurd hb (Nat.not_le_of_lt h)⟩))
            clear hN
            try simp only [List.getElem_toArray, List.getElem_cons_succ, List.getElem_cons_zero, Act.put, List.setIfInBounds_toArray, List.set_cons_zero, List.set_cons_succ]
            refine wpAnyH_ready (rs := [8]) (by kernel_rfl) (by simp) ?_
            refine AllReadyH.cons rfl (fun K hK => ?_) AllReadyH.nil
            go_simp
            refine hK.out _ _ (HS2.alloc (Nat.le_of_lt hgA) _) (fun HS3 => ?_)
            clear hK
            have HOB := Lib.hid (HOA.out.below (below_alloc wA (boxN (namedF nmF y) uv 24)))
            have HDB := Lib.hid (HDA.out.below (below_alloc wA (boxN (namedF nmF y) uv 24)))
            have HEB := Lib.hid (box6 wA rfl (namedF nmF y) uv 24)
            have hgB : (w.heap.size + 1 + 1) < (wA.alloc (boxN (namedF nmF y) uv 24)).heap.size := Nat.lt_of_lt_of_le hgA (by simp)
            try simp only [List.getElem_toArray, List.getElem_cons_succ, List.getElem_cons_zero, Act.put, List.setIfInBounds_toArray, List.set_cons_zero, List.set_cons_succ]
            refine wpAnyH_ready (rs := [9]) (by kernel_rfl) (by simp) ?_
            refine AllReadyH.cons rfl (fun K hK => ?_) AllReadyH.nil
            refine step_appN info_node Tryz.underlying22 rfl _ _ rfl ((w.heap.size + 1 + 1) + 1) _ _ rfl HOB.out.own _ 0 1 (namedF nmF y) uv rfl (by decide) (by decide) HEB.out (by obtain ⟨A, c, h⟩ := HLIT.out; exact ⟨A, _, c, h⟩) (by have := HLL.out; omega) hgB ?_
            intro vD wD hoD hbD hgD hvD
            refine hK.out _ _ (HS3.trans (hbD.mono (Nat.le_succ _))) (fun HS4 => ?_)
            clear hK
            obtain ⟨Ad, nd, cd, rfl⟩ := OwnN.form hoD
            have HOD := Lib.hid (HOB.out.push hoD hgD hvD HFY.out HDB.out)
            have HRD := Lib.hid ((hbD.block (w.heap.size + 1 + 1) (Nat.lt_succ_self _)).trans HOB.out.row)
            clear hoD hgD hvD
            try simp only [List.getElem_toArray, List.getElem_cons_succ, List.getElem_cons_zero, Act.put, List.setIfInBounds_toArray, List.set_cons_zero, List.set_cons_succ]
            refine wpAnyH_take (i := 10) (v := ?_) rfl (by kernel_rfl) (by kernel_rfl) (by kernel_rfl) (fun _ _ _ h => h) (Or.inl ⟨by rfl, ?_⟩) HS4 ?_
            rotate_left
            · intro w hE; go_simp; try with_reducible rfl
            simp only [List.getElem_toArray, List.getElem_cons_succ, List.getElem_cons_zero, Act.put, List.setIfInBounds_toArray, List.set_cons_zero, List.set_cons_succ]
            refine wpAnyH_ready (rs := [11]) (by kernel_rfl) (by simp) ?_
            refine AllReadyH.cons rfl (fun K hK => ?_) AllReadyH.nil
            obtain ⟨⟨_, _, _, _, _, q5⟩, qf⟩ := row6 HRD.out
            have qf5 := qf 5
            clear qf
            go_simp
            refine hK.out _ _ (below_set HS4 5 _) (fun HS5 => ?_)
            clear hK
            try simp only [List.getElem_toArray, List.getElem_cons_succ, List.getElem_cons_zero, Act.put, List.setIfInBounds_toArray, List.set_cons_zero, List.set_cons_succ]
            refine wpAnyH_done (by kernel_rfl) ?_ _
            refine NoPanic.normal ?_
            go_wp2_with fail
            go_roundw
            case rel => exact ⟨i + 1, _, l' ++ [(namedF nmF y, uv)], by omega, by go_num, Lib.hid (by rw [List.map_append, HL.out, List.take_add_one, HY.out, List.map_append]; rfl), HOD, Lib.hid (HB.out.trans HS5)⟩
            case measure => simp [intOf]; omega
          · go_simp
            go_at_call 11
            refine (HCALL.out wr.drew HS0).mono ?_
            rintro e wA ⟨uv, rfl, hN, hbA⟩
            go_simp
            refine hK.out _ _ (HS0.trans (hbA.mono (Nat.le_of_lt hg0))) (fun HS1 => ?_)
            clear hK
            have hgA := Nat.lt_of_lt_of_le hg0 hbA.size
            have HOA := Lib.hid (HO0.out.below hbA)
            have HLIT := Lib.hid hN.named
            have HDA := Lib.hid (hN.imp (q := fun b => (w.heap.size + 1 + 1) < b ∧ (Value.slice Av nv cv).ownBlock ≠ some b) (fun b hb => ⟨Nat.lt_of_lt_of_le hg0 hb, fun e => by have h := (HO0.out.own_lt b e).2; exact absurd hb (Nat.not_le_of_lt h)⟩))
            clear hN
            try simp only [List.getElem_toArray, List.getElem_cons_succ, List.getElem_cons_zero, Act.put, List.setIfInBounds_toArray, List.set_cons_zero, List.set_cons_succ]
            refine wpAnyH_ready (rs := [1, 8]) (by kernel_rfl) (by simp) ?_
            refine AllReadyH.cons rfl (fun K hK => ?_) (AllReadyH.cons rfl (fun K hK => ?_) AllReadyH.nil)
            · have q5 := (row6 HOA.out.row).1.2.2.2.2.2
              go_simp
              refine hK.out _ _ HS1 (fun HS2 => ?_)
              clear hK
              try simp only [List.getElem_toArray, List.getElem_cons_succ, List.getElem_cons_zero, Act.put, List.setIfInBounds_toArray, List.set_cons_zero, List.set_cons_succ]
              refine wpAnyH_ready (rs := [8]) (by kernel_rfl) (by simp) ?_
              refine AllReadyH.cons rfl (fun K hK => ?_) AllReadyH.nil
              go_simp
              refine hK.out _ _ (HS2.alloc (Nat.le_of_lt hgA) _) (fun HS3 => ?_)
              clear hK
              have HOB := Lib.hid (HOA.out.below (below_alloc wA (boxN (namedF nmF y) uv 24)))
              have HDB := Lib.hid (HDA.out.below (below_alloc wA (boxN (namedF nmF y) uv 24)))
              have HEB := Lib.hid (box6 wA rfl (namedF nmF y) uv 24)
              have hgB : (w.heap.size + 1 + 1) < (wA.alloc (boxN (namedF nmF y) uv 24)).heap.size := Nat.lt_of_lt_of_le hgA (by simp)
              try simp only [List.getElem_toArray, List.getElem_cons_succ, List.getElem_cons_zero, Act.put, List.setIfInBounds_toArray, List.set_cons_zero, List.set_cons_succ]
              refine wpAnyH_ready (rs := [9]) (by kernel_rfl) (by simp) ?_
              refine AllReadyH.cons rfl (fun K hK => ?_) AllReadyH.nil
              refine step_appN info_node Tryz.underlying22 rfl _ _ rfl ((w.heap.size + 1 + 1) + 1) _ _ rfl HOB.out.own _ 0 1 (namedF nmF y) uv rfl (by decide) (by decide) HEB.out (by obtain ⟨A, c, h⟩ := HLIT.out; exact ⟨A, _, c, h⟩) (by have := HLL.out; omega) hgB ?_
              intro vD wD hoD hbD hgD hvD
              refine hK.out _ _ (HS3.trans (hbD.mono (Nat.le_succ _))) (fun HS4 => ?_)
              clear hK
              obtain ⟨Ad, nd, cd, rfl⟩ := OwnN.form hoD
              have HOD := Lib.hid (HOB.out.push hoD hgD hvD HFY.out HDB.out)
              have HRD := Lib.hid ((hbD.block (w.heap.size + 1 + 1) (Nat.lt_succ_self _)).trans HOB.out.row)
              clear hoD hgD hvD
              try simp only [List.getElem_toArray, List.getElem_cons_succ, List.getElem_cons_zero, Act.put, List.setIfInBounds_toArray, List.set_cons_zero, List.set_cons_succ]
              refine wpAnyH_take (i := 10) (v := ?_) rfl (by kernel_rfl) (by kernel_rfl) (by kernel_rfl) (fun _ _ _ h => h) (Or.inl ⟨by rfl, ?_⟩) HS4 ?_
              rotate_left
              · intro w hE; go_simp; try with_reducible rfl
              simp only [List.getElem_toArray, List.getElem_cons_succ, List.getElem_cons_zero, Act.put, List.setIfInBounds_toArray, List.set_cons_zero, List.set_cons_succ]
              refine wpAnyH_ready (rs := [11]) (by kernel_rfl) (by simp) ?_
              refine AllReadyH.cons rfl (fun K hK => ?_) AllReadyH.nil
              obtain ⟨⟨_, _, _, _, _, q5⟩, qf⟩ := row6 HRD.out
              have qf5 := qf 5
              clear qf
              go_simp
              refine hK.out _ _ (below_set HS4 5 _) (fun HS5 => ?_)
              clear hK
              try simp only [List.getElem_toArray, List.getElem_cons_succ, List.getElem_cons_zero, Act.put, List.setIfInBounds_toArray, List.set_cons_zero, List.set_cons_succ]
              refine wpAnyH_done (by kernel_rfl) ?_ _
              refine NoPanic.normal ?_
              go_wp2_with fail
              go_roundw
              case rel => exact ⟨i + 1, _, l' ++ [(namedF nmF y, uv)], by omega, by go_num, Lib.hid (by rw [List.map_append, HL.out, List.take_add_one, HY.out, List.map_append]; rfl), HOD, Lib.hid (HB.out.trans HS5)⟩
              case measure => simp [intOf]; omega
            · go_simp
              refine hK.out _ _ (HS1.alloc (Nat.le_of_lt hgA) _) (fun HS2 => ?_)
              clear hK
              have HOB := Lib.hid (HOA.out.below (below_alloc wA (boxN (namedF nmF y) uv 24)))
              have HDB := Lib.hid (HDA.out.below (below_alloc wA (boxN (namedF nmF y) uv 24)))
              have HEB := Lib.hid (box6 wA rfl (namedF nmF y) uv 24)
              have hgB : (w.heap.size + 1 + 1) < (wA.alloc (boxN (namedF nmF y) uv 24)).heap.size := Nat.lt_of_lt_of_le hgA (by simp)
              try simp only [List.getElem_toArray, List.getElem_cons_succ, List.getElem_cons_zero, Act.put, List.setIfInBounds_toArray, List.set_cons_zero, List.set_cons_succ]
              refine wpAnyH_ready (rs := [1]) (by kernel_rfl) (by simp) ?_
              refine AllReadyH.cons rfl (fun K hK => ?_) AllReadyH.nil
              have q5 := (row6 HOB.out.row).1.2.2.2.2.2
              go_simp
              refine hK.out _ _ HS2 (fun HS3 => ?_)
              clear hK
              try simp only [List.getElem_toArray, List.getElem_cons_succ, List.getElem_cons_zero, Act.put, List.setIfInBounds_toArray, List.set_cons_zero, List.set_cons_succ]
              refine wpAnyH_ready (rs := [9]) (by kernel_rfl) (by simp) ?_
              refine AllReadyH.cons rfl (fun K hK => ?_) AllReadyH.nil
              refine step_appN info_node Tryz.underlying22 rfl _ _ rfl ((w.heap.size + 1 + 1) + 1) _ _ rfl HOB.out.own _ 0 1 (namedF nmF y) uv rfl (by decide) (by decide) HEB.out (by obtain ⟨A, c, h⟩ := HLIT.out; exact ⟨A, _, c, h⟩) (by have := HLL.out; omega) hgB ?_
              intro vD wD hoD hbD hgD hvD
              refine hK.out _ _ (HS3.trans (hbD.mono (Nat.le_succ _))) (fun HS4 => ?_)
              clear hK
              obtain ⟨Ad, nd, cd, rfl⟩ := OwnN.form hoD
              have HOD := Lib.hid (HOB.out.push hoD hgD hvD HFY.out HDB.out)
              have HRD := Lib.hid ((hbD.block (w.heap.size + 1 + 1) (Nat.lt_succ_self _)).trans HOB.out.row)
              clear hoD hgD hvD
              try simp only [List.getElem_toArray, List.getElem_cons_succ, List.getElem_cons_zero, Act.put, List.setIfInBounds_toArray, List.set_cons_zero, List.set_cons_succ]
              refine wpAnyH_take (i := 10) (v := ?_) rfl (by kernel_rfl) (by kernel_rfl) (by kernel_rfl) (fun _ _ _ h => h) (Or.inl ⟨by rfl, ?_⟩) HS4 ?_
              rotate_left
              · intro w hE; go_simp; try with_reducible rfl
              simp only [List.getElem_toArray, List.getElem_cons_succ, List.getElem_cons_zero, Act.put, List.setIfInBounds_toArray, List.set_cons_zero, List.set_cons_succ]
              refine wpAnyH_ready (rs := [11]) (by kernel_rfl) (by simp) ?_
              refine AllReadyH.cons rfl (fun K hK => ?_) AllReadyH.nil
              obtain ⟨⟨_, _, _, _, _, q5⟩, qf⟩ := row6 HRD.out
              have qf5 := qf 5
              clear qf
              go_simp
              refine hK.out _ _ (below_set HS4 5 _) (fun HS5 => ?_)
              clear hK
              try simp only [List.getElem_toArray, List.getElem_cons_succ, List.getElem_cons_zero, Act.put, List.setIfInBounds_toArray, List.set_cons_zero, List.set_cons_succ]
              refine wpAnyH_done (by kernel_rfl) ?_ _
              refine NoPanic.normal ?_
              go_wp2_with fail
              go_roundw
              case rel => exact ⟨i + 1, _, l' ++ [(namedF nmF y, uv)], by omega, by go_num, Lib.hid (by rw [List.map_append, HL.out, List.take_add_one, HY.out, List.map_append]; rfl), HOD, Lib.hid (HB.out.trans HS5)⟩
              case measure => simp [intOf]; omega
        · obtain rfl : i = len := by omega
          have hl : l'.map (·.1) = x.args.map (namedF nmF) := by rw [HL.out, HLEN.out, List.take_length]
          obtain ⟨⟨q0, q1, q2, q3, q4, q5⟩, _⟩ := row6 HO.out.row
          have hrow2 : wr.heap[w.heap.size + 1]? = some (.cells #[.int .i64 0, .int .i64 0, .string ⟨#[]⟩, .int .i64 0, .int .i64 0, .slice none 0 0] 24 (0, 0)) := (HB.out.block (w.heap.size + 1) (by omega)).trans HROW2.out
          obtain ⟨⟨r0, r1, r2, r3, r4, r5⟩, rf⟩ := row6 hrow2
          have f0 := rf 0
          have f1 := rf 1
          have f2 := rf 2
          have f3 := rf 3
          have f4 := rf 4
          have f5 := rf 5
          have HROWR := Lib.hid hrow2
          have hrd := HO.out.rdA
          rw [hl] at hrd
          have HRD := Lib.hid hrd
          clear rf hrow2 hl hrd
          go_wp2_with fail
          obtain ⟨g0, g1, g2, g3⟩ := fin6 (w' := wr) (b := w.heap.size + 1) (HB.out.mono (by omega)) HROWR.out (.int .i64 x.kind) (.int .i64 x.num) (.string ⟨(txtF x).toArray⟩) (.int .i64 0) (.int .i64 0) (.slice Av nv cv) _ rfl
          refine bodyPost_ret (results_node9 rfl rfl g1) rfl ?_
          exact ⟨_, rfl, HRD.out.keep (fun b hb hbl => ⟨by omega, g3 b (by omega)⟩) (by rw [g2]; exact Nat.le_refl _), HB3.out.trans (g0.mono (by omega))⟩
    · have htx : txtF x = x.text := by unfold txtF; rw [namedF_eq]; simp only [Tr.text]; rw [if_neg h3, if_neg h4]
      obtain ⟨hk, _⟩ := int_ne h3
      obtain ⟨hk4, _⟩ := int_ne h4
      have HSTART := Lib.hid (show OutSt 24 (w.heap.size + 1 + 1) x.kind x.num (txtF x) 0 0 (((w.alloc (boxN x (.slice A len c) 24)).alloc (.cells #[.int .i64 0, .int .i64 0, .string ⟨#[]⟩, .int .i64 0, .int .i64 0, .slice none 0 0] 24)).alloc (.cells #[.int .i64 x.kind, .int .i64 x.num, .string ⟨x.text.toArray⟩, .int .i64 0, .int .i64 0, .slice none 0 0] 24)) (.slice none 0 0) [] from by rw [htx]; exact HST.out)
      have HBST := Lib.hid (Below.refl (w.heap.size + 1 + 1) (((w.alloc (boxN x (.slice A len c) 24)).alloc (.cells #[.int .i64 0, .int .i64 0, .string ⟨#[]⟩, .int .i64 0, .int .i64 0, .slice none 0 0] 24)).alloc (.cells #[.int .i64 x.kind, .int .i64 x.num, .string ⟨x.text.toArray⟩, .int .i64 0, .int .i64 0, .slice none 0 0] 24)))
      obtain ⟨p0', p1', p2', p3', p4', p5'⟩ := HBX.out
      clear h3 h4 htx
      go_enter Tryz.func11, Tryz.ntmps11
      go_wp2_with fail
      clear p0 p1 p2 p3 p4 p5 p0' p1' p2' p3' p4' p5'
      go_loopw [4] (fun b wr => ∃ (i : Nat) (v : Value) (l' : List PartV), i ≤ len ∧ b = .int .i64 (i : Int) ∧ Hid (l'.map (·.1) = (x.args.take i).map (namedF nmF)) ∧ Hid (OutSt 24 (w.heap.size + 1 + 1) x.kind x.num (txtF x) 0 0 wr v l') ∧ Hid (Below (w.heap.size + 1 + 1) (((w.alloc (boxN x (.slice A len c) 24)).alloc (.cells #[.int .i64 0, .int .i64 0, .string ⟨#[]⟩, .int .i64 0, .int .i64 0, .slice none 0 0] 24)).alloc (.cells #[.int .i64 x.kind, .int .i64 x.num, .string ⟨x.text.toArray⟩, .int .i64 0, .int .i64 0, .slice none 0 0] 24)) wr)) (fun b _ => len - (intOf b).toNat)
      case atStart => exact ⟨0, _, [], Nat.zero_le _, rfl, Lib.hid rfl, HSTART, HBST⟩
      case round =>
        rename World => wr
        obtain ⟨i, v, l', hi, rfl, HL, HO, HB⟩ := hrel
        obtain ⟨Av, nv, cv, rfl⟩ := HO.out.own.form
        have HP := Lib.hid (fun w' (h : Below (w.heap.size + 1 + 1) wr w') => HBX.out.keep ((h.block w.heap.size (by omega)).trans (HB.out.block w.heap.size (by omega))))
        obtain ⟨_, _, _, _, _, p5⟩ := HP.out wr (Below.refl _ _)
        by_cases hlt : i < len
        · obtain ⟨y, hy⟩ : ∃ y, x.args[i]? = some y := ⟨_, List.getElem?_eq_getElem (by rw [← HLEN.out]; exact hlt)⟩
          have HY := Lib.hid hy
          have HFY := Lib.hid (HFIT.out i y hy)
          obtain ⟨b, off, uy, rfl, hw⟩ := HA.out i y hy
          have hbw : ∀ w', Below (w.heap.size + 1 + 1) wr w' → Below w.heap.size w w' := fun w' h => HB3.out.trans ((HB.out.trans h).mono (by omega))
          have HPY := Lib.hid (fun w' (h : Below (w.heap.size + 1 + 1) wr w') => (hw w' (hbw w' h)).1)
          have hcall := fun w' (h : Below (w.heap.size + 1 + 1) wr w') => HIH.out i y hy _ w' (HND.out i y hy) (hw w' (hbw w' h)).2
          have hnk : (namedF nmF y).kind = y.kind := named_kind nmF y
          have hcall2 : ∀ w', Below (w.heap.size + 1 + 1) wr w' → Calls Tryz.prog 11 #[.agg #[.int .i64 y.kind, .int .i64 y.num, .string ⟨y.text.toArray⟩, .int .i64 y.a, .int .i64 y.b, uy]] w' fun e w'' => ∃ u, e = .returned (.agg #[.int .i64 (namedF nmF y).kind, .int .i64 (namedF nmF y).num, .string ⟨(namedF nmF y).text.toArray⟩, .int .i64 (namedF nmF y).a, .int .i64 (namedF nmF y).b, u]) ∧ RdA (fun b => w'.heap.size ≤ b) w'' (namedF nmF y).args u ∧ Below w'.heap.size w' w'' := fun w' h => by
            have e := hcall w' h
            have ek : (namedF nmF y).kind = y.kind := named_kind nmF y
            have en : (namedF nmF y).num = y.num := by rw [namedF_eq]; rfl
            have ea : (namedF nmF y).a = 0 := by rw [namedF_eq]; rfl
            have eb : (namedF nmF y).b = 0 := by rw [namedF_eq]; rfl
            rw [ek, en, ea, eb, named_args]
            exact e
          have HCALL := Lib.hid hcall2
          have HO0 := Lib.hid (HO.out.below (Below.refl _ _).drew)
          have hg0 : (w.heap.size + 1 + 1) < wr.drew.heap.size := (Array.getElem?_eq_some_iff.1 HO0.out.row).1
          have HLL := Lib.hid (show l'.length ≤ 900000 + 99999 from by have h := congrArg List.length HL.out; simp at h; omega)
          clear hy hw hbw hcall hcall2 hnk
          go_wp2_with fail
          clear p5
          refine wp_region_noPanic ?_
          refine wp_region_held_drew (S := fun w' => Below (w.heap.size + 1 + 1) wr w') (by kernel_rfl) (Below.refl _ _).drew (fun HS0 => ?_)
          refine wpAnyH_take (i := 0) (v := ?_) rfl (by kernel_rfl) (by kernel_rfl) (by kernel_rfl) (fun _ _ _ h => h) (Or.inl ⟨by rfl, ?_⟩) HS0 ?_
          rotate_left
          · intro w hE; go_simp; try with_reducible rfl
          simp only [List.getElem_toArray, List.getElem_cons_succ, List.getElem_cons_zero, Act.put, List.setIfInBounds_toArray, List.set_cons_zero, List.set_cons_succ]
          refine wpAnyH_take (i := 2) (v := ?_) rfl (by kernel_rfl) (by kernel_rfl) (by kernel_rfl) (fun _ _ _ h => h) (Or.inl ⟨by rfl, ?_⟩) HS0 ?_
          rotate_left
          · intro w hE; go_simp; try with_reducible rfl
          simp only [List.getElem_toArray, List.getElem_cons_succ, List.getElem_cons_zero, Act.put, List.setIfInBounds_toArray, List.set_cons_zero, List.set_cons_succ]
          refine wpAnyH_take (i := 3) (v := ?_) rfl (by kernel_rfl) (by kernel_rfl) (by kernel_rfl) (fun _ _ _ h => h) (Or.inl ⟨by rfl, ?_⟩) HS0 ?_
          rotate_left
          · intro w hE; obtain ⟨_, _, _, _, _, p5⟩ := HP.out _ hE; go_simp; try with_reducible rfl
          simp only [List.getElem_toArray, List.getElem_cons_succ, List.getElem_cons_zero, Act.put, List.setIfInBounds_toArray, List.set_cons_zero, List.set_cons_succ]
          refine wpAnyH_take (i := 4) (v := ?_) rfl (by kernel_rfl) (by kernel_rfl) (by kernel_rfl) (fun _ _ _ h => h) (Or.inl ⟨by rfl, ?_⟩) HS0 ?_
          rotate_left
          · intro w hE; go_simp; try with_reducible rfl
          simp only [List.getElem_toArray, List.getElem_cons_succ, List.getElem_cons_zero, Act.put, List.setIfInBounds_toArray, List.set_cons_zero, List.set_cons_succ]
          refine wpAnyH_take (i := 5) (v := ?_) rfl (by kernel_rfl) (by kernel_rfl) (by kernel_rfl) (fun _ _ _ h => h) (Or.inl ⟨by rfl, ?_⟩) HS0 ?_
          rotate_left
          · intro w hE; go_simp; try with_reducible rfl
          simp only [List.getElem_toArray, List.getElem_cons_succ, List.getElem_cons_zero, Act.put, List.setIfInBounds_toArray, List.set_cons_zero, List.set_cons_succ]
          refine wpAnyH_take (i := 6) (v := ?_) rfl (by kernel_rfl) (by kernel_rfl) (by kernel_rfl) (fun _ _ _ h => h) (Or.inl ⟨by rfl, ?_⟩) HS0 ?_
          rotate_left
          · intro w hE; obtain ⟨c0, c1, c2, c3, c4, c5⟩ := HPY.out _ hE; go_simp; try with_reducible rfl
          simp only [List.getElem_toArray, List.getElem_cons_succ, List.getElem_cons_zero, Act.put, List.setIfInBounds_toArray, List.set_cons_zero, List.set_cons_succ]
          refine wpAnyH_ready (rs := [1, 7]) (by kernel_rfl) (by simp) ?_
          refine AllReadyH.cons rfl (fun K hK => ?_) (AllReadyH.cons rfl (fun K hK => ?_) AllReadyH.nil)
          · have q5 := (row6 HO0.out.row).1.2.2.2.2.2
            go_simp
            refine hK.out _ _ HS0 (fun HS1 => ?_)
            clear hK
            try simp only [List.getElem_toArray, List.getElem_cons_succ, List.getElem_cons_zero, Act.put, List.setIfInBounds_toArray, List.set_cons_zero, List.set_cons_succ]
            refine wpAnyH_ready (rs := [7]) (by kernel_rfl) (by simp) ?_
            refine AllReadyH.cons rfl (fun K hK => ?_) AllReadyH.nil
            go_simp
            go_at_call 11
            refine (HCALL.out wr.drew HS1).mono ?_
            rintro e wA ⟨uv, rfl, hN, hbA⟩
            go_simp
            refine hK.out _ _ (HS1.trans (hbA.mono (Nat.le_of_lt hg0))) (fun HS2 => ?_)
            clear hK
            have hgA := Nat.lt_of_lt_of_le hg0 hbA.size
            have HOA := Lib.hid (HO0.out.below hbA)
            have HLIT := Lib.hid hN.named
            have HDA := Lib.hid (hN.imp (q := fun b => (w.heap.size + 1 + 1) < b ∧ (Value.slice Av nv cv).ownBlock ≠ some b) (fun b hb => ⟨Nat.lt_of_lt_of_le hg0 hb, fun e => by have h := (HO0.out.own_lt b e).2; exact absurd hb (Nat.not_le_of_lt h)⟩))
            clear hN
            try simp only [List.getElem_toArray, List.getElem_cons_succ, List.getElem_cons_zero, Act.put, List.setIfInBounds_toArray, List.set_cons_zero, List.set_cons_succ]
            refine wpAnyH_ready (rs := [8]) (by kernel_rfl) (by simp) ?_
            refine AllReadyH.cons rfl (fun K hK => ?_) AllReadyH.nil
            go_simp
            refine hK.out _ _ (HS2.alloc (Nat.le_of_lt hgA) _) (fun HS3 => ?_)
            clear hK
            have HOB := Lib.hid (HOA.out.below (below_alloc wA (boxN (namedF nmF y) uv 24)))
            have HDB := Lib.hid (HDA.out.below (below_alloc wA (boxN (namedF nmF y) uv 24)))
            have HEB := Lib.hid (box6 wA rfl (namedF nmF y) uv 24)
            have hgB : (w.heap.size + 1 + 1) < (wA.alloc (boxN (namedF nmF y) uv 24)).heap.size := Nat.lt_of_lt_of_le hgA (by simp)
            try simp only [List.getElem_toArray, List.getElem_cons_succ, List.getElem_cons_zero, Act.put, List.setIfInBounds_toArray, List.set_cons_zero, List.set_cons_succ]
            refine wpAnyH_ready (rs := [9]) (by kernel_rfl) (by simp) ?_
            refine AllReadyH.cons rfl (fun K hK => ?_) AllReadyH.nil
            refine step_appN info_node Tryz.underlying22 rfl _ _ rfl ((w.heap.size + 1 + 1) + 1) _ _ rfl HOB.out.own _ 0 1 (namedF nmF y) uv rfl (by decide) (by decide) HEB.out (by obtain ⟨A, c, h⟩ := HLIT.out; exact ⟨A, _, c, h⟩) (by have := HLL.out; omega) hgB ?_
            intro vD wD hoD hbD hgD hvD
            refine hK.out _ _ (HS3.trans (hbD.mono (Nat.le_succ _))) (fun HS4 => ?_)
            clear hK
            obtain ⟨Ad, nd, cd, rfl⟩ := OwnN.form hoD
            have HOD := Lib.hid (HOB.out.push hoD hgD hvD HFY.out HDB.out)
            have HRD := Lib.hid ((hbD.block (w.heap.size + 1 + 1) (Nat.lt_succ_self _)).trans HOB.out.row)
            clear hoD hgD hvD
            try simp only [List.getElem_toArray, List.getElem_cons_succ, List.getElem_cons_zero, Act.put, List.setIfInBounds_toArray, List.set_cons_zero, List.set_cons_succ]
            refine wpAnyH_take (i := 10) (v := ?_) rfl (by kernel_rfl) (by kernel_rfl) (by kernel_rfl) (fun _ _ _ h => h) (Or.inl ⟨by rfl, ?_⟩) HS4 ?_
            rotate_left
            · intro w hE; go_simp; try with_reducible rfl
            simp only [List.getElem_toArray, List.getElem_cons_succ, List.getElem_cons_zero, Act.put, List.setIfInBounds_toArray, List.set_cons_zero, List.set_cons_succ]
            refine wpAnyH_ready (rs := [11]) (by kernel_rfl) (by simp) ?_
            refine AllReadyH.cons rfl (fun K hK => ?_) AllReadyH.nil
            obtain ⟨⟨_, _, _, _, _, q5⟩, qf⟩ := row6 HRD.out
            have qf5 := qf 5
            clear qf
            go_simp
            refine hK.out _ _ (below_set HS4 5 _) (fun HS5 => ?_)
            clear hK
            try simp only [List.getElem_toArray, List.getElem_cons_succ, List.getElem_cons_zero, Act.put, List.setIfInBounds_toArray, List.set_cons_zero, List.set_cons_succ]
            refine wpAnyH_done (by kernel_rfl) ?_ _
            refine NoPanic.normal ?_
            go_wp2_with fail
            go_roundw
            case rel => exact ⟨i + 1, _, l' ++ [(namedF nmF y, uv)], by omega, by go_num, Lib.hid (by rw [List.map_append, HL.out, List.take_add_one, HY.out, List.map_append]; rfl), HOD, Lib.hid (HB.out.trans HS5)⟩
            case measure => simp [intOf]; omega
          · go_simp
            go_at_call 11
            refine (HCALL.out wr.drew HS0).mono ?_
            rintro e wA ⟨uv, rfl, hN, hbA⟩
            go_simp
            refine hK.out _ _ (HS0.trans (hbA.mono (Nat.le_of_lt hg0))) (fun HS1 => ?_)
            clear hK
            have hgA := Nat.lt_of_lt_of_le hg0 hbA.size
            have HOA := Lib.hid (HO0.out.below hbA)
            have HLIT := Lib.hid hN.named
            have HDA := Lib.hid (hN.imp (q := fun b => (w.heap.size + 1 + 1) < b ∧ (Value.slice Av nv cv).ownBlock ≠ some b) (fun b hb => ⟨Nat.lt_of_lt_of_le hg0 hb, fun e => by have h := (HO0.out.own_lt b e).2; exact absurd hb (Nat.not_le_of_lt h)⟩))
            clear hN
            try simp only [List.getElem_toArray, List.getElem_cons_succ, List.getElem_cons_zero, Act.put, List.setIfInBounds_toArray, List.set_cons_zero, List.set_cons_succ]
            refine wpAnyH_ready (rs := [1, 8]) (by kernel_rfl) (by simp) ?_
            refine AllReadyH.cons rfl (fun K hK => ?_) (AllReadyH.cons rfl (fun K hK => ?_) AllReadyH.nil)
            · have q5 := (row6 HOA.out.row).1.2.2.2.2.2
              go_simp
              refine hK.out _ _ HS1 (fun HS2 => ?_)
              clear hK
              try simp only [List.getElem_toArray, List.getElem_cons_succ, List.getElem_cons_zero, Act.put, List.setIfInBounds_toArray, List.set_cons_zero, List.set_cons_succ]
              refine wpAnyH_ready (rs := [8]) (by kernel_rfl) (by simp) ?_
              refine AllReadyH.cons rfl (fun K hK => ?_) AllReadyH.nil
              go_simp
              refine hK.out _ _ (HS2.alloc (Nat.le_of_lt hgA) _) (fun HS3 => ?_)
              clear hK
              have HOB := Lib.hid (HOA.out.below (below_alloc wA (boxN (namedF nmF y) uv 24)))
              have HDB := Lib.hid (HDA.out.below (below_alloc wA (boxN (namedF nmF y) uv 24)))
              have HEB := Lib.hid (box6 wA rfl (namedF nmF y) uv 24)
              have hgB : (w.heap.size + 1 + 1) < (wA.alloc (boxN (namedF nmF y) uv 24)).heap.size := Nat.lt_of_lt_of_le hgA (by simp)
              try simp only [List.getElem_toArray, List.getElem_cons_succ, List.getElem_cons_zero, Act.put, List.setIfInBounds_toArray, List.set_cons_zero, List.set_cons_succ]
              refine wpAnyH_ready (rs := [9]) (by kernel_rfl) (by simp) ?_
              refine AllReadyH.cons rfl (fun K hK => ?_) AllReadyH.nil
              refine step_appN info_node Tryz.underlying22 rfl _ _ rfl ((w.heap.size + 1 + 1) + 1) _ _ rfl HOB.out.own _ 0 1 (namedF nmF y) uv rfl (by decide) (by decide) HEB.out (by obtain ⟨A, c, h⟩ := HLIT.out; exact ⟨A, _, c, h⟩) (by have := HLL.out; omega) hgB ?_
              intro vD wD hoD hbD hgD hvD
              refine hK.out _ _ (HS3.trans (hbD.mono (Nat.le_succ _))) (fun HS4 => ?_)
              clear hK
              obtain ⟨Ad, nd, cd, rfl⟩ := OwnN.form hoD
              have HOD := Lib.hid (HOB.out.push hoD hgD hvD HFY.out HDB.out)
              have HRD := Lib.hid ((hbD.block (w.heap.size + 1 + 1) (Nat.lt_succ_self _)).trans HOB.out.row)
              clear hoD hgD hvD
              try simp only [List.getElem_toArray, List.getElem_cons_succ, List.getElem_cons_zero, Act.put, List.setIfInBounds_toArray, List.set_cons_zero, List.set_cons_succ]
              refine wpAnyH_take (i := 10) (v := ?_) rfl (by kernel_rfl) (by kernel_rfl) (by kernel_rfl) (fun _ _ _ h => h) (Or.inl ⟨by rfl, ?_⟩) HS4 ?_
              rotate_left
              · intro w hE; go_simp; try with_reducible rfl
              simp only [List.getElem_toArray, List.getElem_cons_succ, List.getElem_cons_zero, Act.put, List.setIfInBounds_toArray, List.set_cons_zero, List.set_cons_succ]
              refine wpAnyH_ready (rs := [11]) (by kernel_rfl) (by simp) ?_
              refine AllReadyH.cons rfl (fun K hK => ?_) AllReadyH.nil
              obtain ⟨⟨_, _, _, _, _, q5⟩, qf⟩ := row6 HRD.out
              have qf5 := qf 5
              clear qf
              go_simp
              refine hK.out _ _ (below_set HS4 5 _) (fun HS5 => ?_)
              clear hK
              try simp only [List.getElem_toArray, List.getElem_cons_succ, List.getElem_cons_zero, Act.put, List.setIfInBounds_toArray, List.set_cons_zero, List.set_cons_succ]
              refine wpAnyH_done (by kernel_rfl) ?_ _
              refine NoPanic.normal ?_
              go_wp2_with fail
              go_roundw
              case rel => exact ⟨i + 1, _, l' ++ [(namedF nmF y, uv)], by omega, by go_num, Lib.hid (by rw [List.map_append, HL.out, List.take_add_one, HY.out, List.map_append]; rfl), HOD, Lib.hid (HB.out.trans HS5)⟩
              case measure => simp [intOf]; omega
            · go_simp
              refine hK.out _ _ (HS1.alloc (Nat.le_of_lt hgA) _) (fun HS2 => ?_)
              clear hK
              have HOB := Lib.hid (HOA.out.below (below_alloc wA (boxN (namedF nmF y) uv 24)))
              have HDB := Lib.hid (HDA.out.below (below_alloc wA (boxN (namedF nmF y) uv 24)))
              have HEB := Lib.hid (box6 wA rfl (namedF nmF y) uv 24)
              have hgB : (w.heap.size + 1 + 1) < (wA.alloc (boxN (namedF nmF y) uv 24)).heap.size := Nat.lt_of_lt_of_le hgA (by simp)
              try simp only [List.getElem_toArray, List.getElem_cons_succ, List.getElem_cons_zero, Act.put, List.setIfInBounds_toArray, List.set_cons_zero, List.set_cons_succ]
              refine wpAnyH_ready (rs := [1]) (by kernel_rfl) (by simp) ?_
              refine AllReadyH.cons rfl (fun K hK => ?_) AllReadyH.nil
              have q5 := (row6 HOB.out.row).1.2.2.2.2.2
              go_simp
              refine hK.out _ _ HS2 (fun HS3 => ?_)
              clear hK
              try simp only [List.getElem_toArray, List.getElem_cons_succ, List.getElem_cons_zero, Act.put, List.setIfInBounds_toArray, List.set_cons_zero, List.set_cons_succ]
              refine wpAnyH_ready (rs := [9]) (by kernel_rfl) (by simp) ?_
              refine AllReadyH.cons rfl (fun K hK => ?_) AllReadyH.nil
              refine step_appN info_node Tryz.underlying22 rfl _ _ rfl ((w.heap.size + 1 + 1) + 1) _ _ rfl HOB.out.own _ 0 1 (namedF nmF y) uv rfl (by decide) (by decide) HEB.out (by obtain ⟨A, c, h⟩ := HLIT.out; exact ⟨A, _, c, h⟩) (by have := HLL.out; omega) hgB ?_
              intro vD wD hoD hbD hgD hvD
              refine hK.out _ _ (HS3.trans (hbD.mono (Nat.le_succ _))) (fun HS4 => ?_)
              clear hK
              obtain ⟨Ad, nd, cd, rfl⟩ := OwnN.form hoD
              have HOD := Lib.hid (HOB.out.push hoD hgD hvD HFY.out HDB.out)
              have HRD := Lib.hid ((hbD.block (w.heap.size + 1 + 1) (Nat.lt_succ_self _)).trans HOB.out.row)
              clear hoD hgD hvD
              try simp only [List.getElem_toArray, List.getElem_cons_succ, List.getElem_cons_zero, Act.put, List.setIfInBounds_toArray, List.set_cons_zero, List.set_cons_succ]
              refine wpAnyH_take (i := 10) (v := ?_) rfl (by kernel_rfl) (by kernel_rfl) (by kernel_rfl) (fun _ _ _ h => h) (Or.inl ⟨by rfl, ?_⟩) HS4 ?_
              rotate_left
              · intro w hE; go_simp; try with_reducible rfl
              simp only [List.getElem_toArray, List.getElem_cons_succ, List.getElem_cons_zero, Act.put, List.setIfInBounds_toArray, List.set_cons_zero, List.set_cons_succ]
              refine wpAnyH_ready (rs := [11]) (by kernel_rfl) (by simp) ?_
              refine AllReadyH.cons rfl (fun K hK => ?_) AllReadyH.nil
              obtain ⟨⟨_, _, _, _, _, q5⟩, qf⟩ := row6 HRD.out
              have qf5 := qf 5
              clear qf
              go_simp
              refine hK.out _ _ (below_set HS4 5 _) (fun HS5 => ?_)
              clear hK
              try simp only [List.getElem_toArray, List.getElem_cons_succ, List.getElem_cons_zero, Act.put, List.setIfInBounds_toArray, List.set_cons_zero, List.set_cons_succ]
              refine wpAnyH_done (by kernel_rfl) ?_ _
              refine NoPanic.normal ?_
              go_wp2_with fail
              go_roundw
              case rel => exact ⟨i + 1, _, l' ++ [(namedF nmF y, uv)], by omega, by go_num, Lib.hid (by rw [List.map_append, HL.out, List.take_add_one, HY.out, List.map_append]; rfl), HOD, Lib.hid (HB.out.trans HS5)⟩
              case measure => simp [intOf]; omega
        · obtain rfl : i = len := by omega
          have hl : l'.map (·.1) = x.args.map (namedF nmF) := by rw [HL.out, HLEN.out, List.take_length]
          obtain ⟨⟨q0, q1, q2, q3, q4, q5⟩, _⟩ := row6 HO.out.row
          have hrow2 : wr.heap[w.heap.size + 1]? = some (.cells #[.int .i64 0, .int .i64 0, .string ⟨#[]⟩, .int .i64 0, .int .i64 0, .slice none 0 0] 24 (0, 0)) := (HB.out.block (w.heap.size + 1) (by omega)).trans HROW2.out
          obtain ⟨⟨r0, r1, r2, r3, r4, r5⟩, rf⟩ := row6 hrow2
          have f0 := rf 0
          have f1 := rf 1
          have f2 := rf 2
          have f3 := rf 3
          have f4 := rf 4
          have f5 := rf 5
          have HROWR := Lib.hid hrow2
          have hrd := HO.out.rdA
          rw [hl] at hrd
          have HRD := Lib.hid hrd
          clear rf hrow2 hl hrd
          go_wp2_with fail
          obtain ⟨g0, g1, g2, g3⟩ := fin6 (w' := wr) (b := w.heap.size + 1) (HB.out.mono (by omega)) HROWR.out (.int .i64 x.kind) (.int .i64 x.num) (.string ⟨(txtF x).toArray⟩) (.int .i64 0) (.int .i64 0) (.slice Av nv cv) _ rfl
          refine bodyPost_ret (results_node9 rfl rfl g1) rfl ?_
          exact ⟨_, rfl, HRD.out.keep (fun b hb hbl => ⟨by omega, g3 b (by omega)⟩) (by rw [g2]; exact Nat.le_refl _), HB3.out.trans (g0.mono (by omega))⟩
end Go.Proofs.YtlagjnlajkmmeaaGreatDoor
