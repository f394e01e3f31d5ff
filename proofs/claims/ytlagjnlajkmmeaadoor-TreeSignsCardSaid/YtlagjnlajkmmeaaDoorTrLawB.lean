/-
The law TreeRight, over what it asks of package tree.
-/
import Derived.Test.YtlagjnlajkmmeaaDoorTrOkS
namespace Go.Proofs.YtlagjnlajkmmeaaDoor
open Go.RowKit

set_option maxRecDepth 20000 in
set_option maxHeartbeats 16000000 in
theorem right_law {E : World → Prop} {M : Nat} (K : TreeOk E M) (KS : TreeSm E) (hM : 1 ≤ M) (x y : Tr) (v u : Value) (w : World) (hv : RdN AnyB w x v) (hu : RdN AnyB w y u) (hE : E w) :
    Calls Tryd.prog 4 #[v, u] w fun e w' => e = .returned (.bool true) ∧ Below w.heap.size w w' := by
  have HKS := Lib.hid KS
  clear KS
  have hlx := fun W (h : Below w.heap.size w W) => light_any x v W (hv.below h)
  have hly := fun W (h : Below w.heap.size w W) => light_any y u W (hu.below h)
  have hfx := hv.1
  have hfy := hu.1
  have hrr := fun W (h : Below w.heap.size w W) => rright_any x 64 v W (by omega) (hv.below h)
  have hdr := fun (hn : nodes x ≤ 200) W (h : Below w.heap.size w W) => rdepth_any x v W (by omega) (hv.below h)
  have hsr := fun W (h : Below w.heap.size w W) => rsame_any x y v u W (hv.below h) (hu.below h)
  have htx := fun (hn : nodes x ≤ 200) W (h : Below w.heap.size w W) => to_any x v W (by omega) (hv.below h)
  have hty := fun (hn : nodes y ≤ 200) W (h : Below w.heap.size w W) => to_any y u W (by omega) (hu.below h)
  obtain ⟨_, ux, rfl, _⟩ := hv
  obtain ⟨_, uy, rfl, _⟩ := hu
  have HK := Lib.hid K
  have HE := Lib.hid hE
  have HAW := Lib.hid (fun W (h : E W) => awake_any K hM W h)
  have HB0 := Lib.hid (below2 w (boxN x ux 30) (boxN y uy 30))
  have HBX0 := Lib.hid ((box6 w rfl x ux 30).below (below_alloc _ (boxN y uy 30)))
  have HBY0 := Lib.hid (box6 (w.alloc (boxN x ux 30)) (g := w.heap.size + 1) (by simp) y uy 30)
  obtain ⟨p0, p1, p2, p3, p4, p5⟩ := HBX0.out
  obtain ⟨q0, q1, q2, q3, q4, q5⟩ := HBY0.out
  have HFX := Lib.hid hfx
  have HFY := Lib.hid hfy
  have HRR0 := Lib.hid hrr
  have HDR0 := Lib.hid hdr
  have HSR0 := Lib.hid hsr
  have HTX0 := Lib.hid htx
  have HTY0 := Lib.hid hty
  have HLX := Lib.hid hlx
  have HLY := Lib.hid hly
  clear K hE hrr hdr hsr htx hty hlx hly hfx hfy hM
  unfold nodeV at *
  cases hl1 : lightF x with
  | false =>
    rw [hl1] at HLX
    clear hl1
    go_enter Tryd.func4, Tryd.ntmps4
    go_wp2_with fail
    go_at_call 12
    with_reducible refine (HLX.out _ HB0.out).mono ?_
    rintro e w1 ⟨rfl, hb1⟩
    have HB1 := Lib.hid (HB0.out.trans (hb1.mono HB0.out.size))
    go_wp2_with fail
    go_at_call 7
    with_reducible refine (HAW.out _ (HK.out.keep HE.out HB1.out)).mono ?_
    rintro e w2 ⟨rfl, hb2⟩
    go_wp2_with fail
    go_ret
    exact ⟨rfl, HB1.out.trans (hb2.mono HB1.out.size)⟩
  | true =>
    rw [hl1] at HLX
    have hnx : nodes x ≤ 200 := by unfold lightF at hl1; exact (of_decide_eq_true hl1).1
    clear hl1
    cases hl2 : lightF y with
    | false =>
      rw [hl2] at HLY
      clear hl2
      go_enter Tryd.func4, Tryd.ntmps4
      go_wp2_with fail
      go_at_call 12
      with_reducible refine (HLX.out _ HB0.out).mono ?_
      rintro e w1 ⟨rfl, hb1⟩
      have HB1 := Lib.hid (HB0.out.trans (hb1.mono HB0.out.size))
      have HBY1 := Lib.hid (HBY0.out.below hb1)
      clear p0 p1 p2 p3 p4 p5 q0 q1 q2 q3 q4 q5 hb1
      obtain ⟨q0, q1, q2, q3, q4, q5⟩ := HBY1.out
      go_wp2_with fail
      go_at_call 12
      with_reducible refine (HLY.out _ HB1.out).mono ?_
      rintro e w2 ⟨rfl, hb2⟩
      have HB2 := Lib.hid (HB1.out.trans (hb2.mono HB1.out.size))
      go_wp2_with fail
      go_at_call 7
      with_reducible refine (HAW.out _ (HK.out.keep HE.out HB2.out)).mono ?_
      rintro e w3 ⟨rfl, hb3⟩
      go_wp2_with fail
      go_ret
      exact ⟨rfl, HB2.out.trans (hb3.mono HB2.out.size)⟩
    | true =>
      rw [hl2] at HLY
      have hny : nodes y ≤ 200 := by unfold lightF at hl2; exact (of_decide_eq_true hl2).1
      clear hl2
      go_enter Tryd.func4, Tryd.ntmps4
      go_wp2_with fail
      go_at_call 12
      with_reducible refine (HLX.out _ HB0.out).mono ?_
      rintro e w1 ⟨rfl, hb1⟩
      have HB1 := Lib.hid (HB0.out.trans (hb1.mono HB0.out.size))
      have HBX1 := Lib.hid (HBX0.out.below hb1)
      have HBY1 := Lib.hid (HBY0.out.below hb1)
      clear p0 p1 p2 p3 p4 p5 q0 q1 q2 q3 q4 q5 hb1
      obtain ⟨q0, q1, q2, q3, q4, q5⟩ := HBY1.out
      go_wp2_with fail
      go_at_call 12
      with_reducible refine (HLY.out _ HB1.out).mono ?_
      rintro e w2 ⟨rfl, hb2⟩
      have HB2 := Lib.hid (HB1.out.trans (hb2.mono HB1.out.size))
      have HBX := Lib.hid (HBX1.out.below hb2)
      have HBY := Lib.hid (HBY1.out.below hb2)
      have HE2 := Lib.hid (HK.out.keep HE.out HB2.out)
      have up := fun W (h : Below w2.heap.size w2 W) => HB2.out.trans (h.mono HB2.out.size)
      have HTX := Lib.hid (fun W (h : Below w2.heap.size w2 W) => HTX0.out hnx W (up W h))
      have HTY := Lib.hid (fun W (h : Below w2.heap.size w2 W) => HTY0.out hny W (up W h))
      have HRR := Lib.hid (fun W (h : Below w2.heap.size w2 W) => HRR0.out W (up W h))
      have HDR := Lib.hid (fun W (h : Below w2.heap.size w2 W) => HDR0.out hnx W (up W h))
      have HSR := Lib.hid (fun W (h : Below w2.heap.size w2 W) => HSR0.out W (up W h))
      have HRI := Lib.hid (fun W (h : Below w2.heap.size w2 W) (z : Value) (hz : RdA AnyB W x.args z) => HK.out.right x (.agg #[.int .i64 x.kind, .int .i64 x.num, .string ⟨x.text.toArray⟩, .int .i64 x.a, .int .i64 x.b, z]) W (HK.out.keep HE2.out h) hnx ⟨HFX.out, z, rfl, hz⟩)
      have HDI := Lib.hid (fun W (h : Below w2.heap.size w2 W) (z : Value) (hz : RdA AnyB W x.args z) => HK.out.depth x (.agg #[.int .i64 x.kind, .int .i64 x.num, .string ⟨x.text.toArray⟩, .int .i64 x.a, .int .i64 x.b, z]) W (HK.out.keep HE2.out h) hnx ⟨HFX.out, z, rfl, hz⟩)
      have HSI := Lib.hid (fun W (h : Below w2.heap.size w2 W) (z z' : Value) (hz : RdA AnyB W x.args z) (hz' : RdA AnyB W y.args z') => HKS.out.same x y (.agg #[.int .i64 x.kind, .int .i64 x.num, .string ⟨x.text.toArray⟩, .int .i64 x.a, .int .i64 x.b, z]) (.agg #[.int .i64 y.kind, .int .i64 y.num, .string ⟨y.text.toArray⟩, .int .i64 y.a, .int .i64 y.b, z']) W (HK.out.keep HE2.out h) hnx hny ⟨HFX.out, z, rfl, hz⟩ ⟨HFY.out, z', rfl, hz'⟩)
      have HSS := Lib.hid (fun W (h : Below w2.heap.size w2 W) (z z' : Value) (hz : RdA AnyB W x.args z) (hz' : RdA AnyB W x.args z') => HKS.out.same x x (.agg #[.int .i64 x.kind, .int .i64 x.num, .string ⟨x.text.toArray⟩, .int .i64 x.a, .int .i64 x.b, z]) (.agg #[.int .i64 x.kind, .int .i64 x.num, .string ⟨x.text.toArray⟩, .int .i64 x.a, .int .i64 x.b, z']) W (HK.out.keep HE2.out h) hnx hnx ⟨HFX.out, z, rfl, hz⟩ ⟨HFX.out, z', rfl, hz'⟩)
      simp only [same_self] at HSS
      unfold nodeV at *
      clear up hb2 q0 q1 q2 q3 q4 q5 hnx hny HTX0 HTY0 HRR0 HDR0 HSR0 HLX HLY HBX0 HBY0 HBX1 HBY1
      generalize rightF x 64 = rb at *
      generalize depthF x = db at *
      generalize sameF x y = sb at *
      go_wp2_with fail
      refine wp_region_noPanic ?_
      refine wp_region_below (by kernel_rfl) (fun HS0 => ?_)
      refine wpAnyH_take (i := 0) (v := ?_) rfl (by kernel_rfl) (by kernel_rfl) (by kernel_rfl) (fun _ _ _ h => h) (Or.inl ⟨by rfl, ?_⟩) HS0 ?_
      rotate_left
      · intro w hE; obtain ⟨p0, p1, p2, p3, p4, p5⟩ := HBX.out.below hE; go_simp; try with_reducible rfl
      simp only [List.getElem_toArray, List.getElem_cons_succ, List.getElem_cons_zero, Act.put, List.setIfInBounds_toArray, List.set_cons_zero, List.set_cons_succ]
      refine wpAnyH_take (i := 3) (v := ?_) rfl (by kernel_rfl) (by kernel_rfl) (by kernel_rfl) (fun _ _ _ h => h) (Or.inl ⟨by rfl, ?_⟩) HS0 ?_
      rotate_left
      · intro w hE; obtain ⟨p0, p1, p2, p3, p4, p5⟩ := HBX.out.below hE; go_simp; try with_reducible rfl
      simp only [List.getElem_toArray, List.getElem_cons_succ, List.getElem_cons_zero, Act.put, List.setIfInBounds_toArray, List.set_cons_zero, List.set_cons_succ]
      refine wpAnyH_ready (rs := [1]) (by kernel_rfl) (by simp) ?_
      refine AllReadyH.cons rfl (fun K hK => ?_) AllReadyH.nil
      go_simp
      go_at_call 14
      refine (HTX.out _ HS0).mono ?_
      rintro e w3 ⟨u3, rfl, ha3, hb3⟩
      go_simp
      refine hK.out _ _ (HS0.trans (hb3.mono HS0.size)) (fun HS1 => ?_)
      clear hK
      have hx3 := HS0.trans (hb3.mono HS0.size)
      have HN3 := Lib.hid (ha3.imp (q := AnyB) (fun _ _ => trivial))
      clear ha3
      try simp only [List.getElem_toArray, List.getElem_cons_succ, List.getElem_cons_zero, Act.put, List.setIfInBounds_toArray, List.set_cons_zero, List.set_cons_succ]
      refine wpAnyH_ready (rs := [2]) (by kernel_rfl) (by simp) ?_
      refine AllReadyH.cons rfl (fun K hK => ?_) AllReadyH.nil
      go_simp
      go_at_call 13
      refine (HRI.out _ hx3 _ HN3.out).mono ?_
      rintro e w4 ⟨rfl, hb4⟩
      go_simp
      refine hK.out _ _ (hx3.trans (hb4.mono hx3.size)) (fun HS2 => ?_)
      clear hK
      have hx4 := hx3.trans (hb4.mono hx3.size)
      try simp only [List.getElem_toArray, List.getElem_cons_succ, List.getElem_cons_zero, Act.put, List.setIfInBounds_toArray, List.set_cons_zero, List.set_cons_succ]
      refine wpAnyH_ready (rs := [4]) (by kernel_rfl) (by simp) ?_
      refine AllReadyH.cons rfl (fun K hK => ?_) AllReadyH.nil
      go_simp
      go_at_call 15
      refine (HRR.out _ hx4).mono ?_
      rintro e w5 ⟨rfl, hb5⟩
      go_simp
      refine hK.out _ _ (hx4.trans (hb5.mono hx4.size)) (fun HS3 => ?_)
      clear hK
      have hx5 := hx4.trans (hb5.mono hx4.size)
      try simp only [List.getElem_toArray, List.getElem_cons_succ, List.getElem_cons_zero, Act.put, List.setIfInBounds_toArray, List.set_cons_zero, List.set_cons_succ]
      refine wpAnyH_take (i := 5) (v := ?_) rfl (by kernel_rfl) (by kernel_rfl) (by kernel_rfl) (fun _ _ _ h => h) (Or.inl ⟨by rfl, ?_⟩) HS3 ?_
      rotate_left
      · intro w hE; go_simp; try with_reducible rfl
      simp only [List.getElem_toArray, List.getElem_cons_succ, List.getElem_cons_zero, Act.put, List.setIfInBounds_toArray, List.set_cons_zero, List.set_cons_succ]
      refine wpAnyH_take (i := 6) (v := ?_) rfl (by kernel_rfl) (by kernel_rfl) (by kernel_rfl) (fun _ _ _ h => h) (Or.inl ⟨by rfl, ?_⟩) HS3 ?_
      rotate_left
      · intro w hE; go_simp; try with_reducible rfl
      simp only [List.getElem_toArray, List.getElem_cons_succ, List.getElem_cons_zero, Act.put, List.setIfInBounds_toArray, List.set_cons_zero, List.set_cons_succ]
      refine wpAnyH_take (i := 7) (v := ?_) rfl (by kernel_rfl) (by kernel_rfl) (by kernel_rfl) (fun _ _ _ h => h) (Or.inl ⟨by rfl, ?_⟩) HS3 ?_
      rotate_left
      · intro w hE; obtain ⟨p0, p1, p2, p3, p4, p5⟩ := HBX.out.below hE; go_simp; try with_reducible rfl
      simp only [List.getElem_toArray, List.getElem_cons_succ, List.getElem_cons_zero, Act.put, List.setIfInBounds_toArray, List.set_cons_zero, List.set_cons_succ]
      refine wpAnyH_take (i := 10) (v := ?_) rfl (by kernel_rfl) (by kernel_rfl) (by kernel_rfl) (fun _ _ _ h => h) (Or.inl ⟨by rfl, ?_⟩) HS3 ?_
      rotate_left
      · intro w hE; obtain ⟨p0, p1, p2, p3, p4, p5⟩ := HBX.out.below hE; go_simp; try with_reducible rfl
      simp only [List.getElem_toArray, List.getElem_cons_succ, List.getElem_cons_zero, Act.put, List.setIfInBounds_toArray, List.set_cons_zero, List.set_cons_succ]
      refine wpAnyH_ready (rs := [8]) (by kernel_rfl) (by simp) ?_
      refine AllReadyH.cons rfl (fun K hK => ?_) AllReadyH.nil
      go_simp
      go_at_call 14
      refine (HTX.out _ hx5).mono ?_
      rintro e w6 ⟨u6, rfl, ha6, hb6⟩
      go_simp
      refine hK.out _ _ (hx5.trans (hb6.mono hx5.size)) (fun HS4 => ?_)
      clear hK
      have hx6 := hx5.trans (hb6.mono hx5.size)
      have HN6 := Lib.hid (ha6.imp (q := AnyB) (fun _ _ => trivial))
      clear ha6
      try simp only [List.getElem_toArray, List.getElem_cons_succ, List.getElem_cons_zero, Act.put, List.setIfInBounds_toArray, List.set_cons_zero, List.set_cons_succ]
      refine wpAnyH_ready (rs := [9]) (by kernel_rfl) (by simp) ?_
      refine AllReadyH.cons rfl (fun K hK => ?_) AllReadyH.nil
      go_simp
      go_at_call 16
      refine (HDI.out _ hx6 _ HN6.out).mono ?_
      rintro e w7 ⟨rfl, hb7⟩
      go_simp
      refine hK.out _ _ (hx6.trans (hb7.mono hx6.size)) (fun HS5 => ?_)
      clear hK
      have hx7 := hx6.trans (hb7.mono hx6.size)
      try simp only [List.getElem_toArray, List.getElem_cons_succ, List.getElem_cons_zero, Act.put, List.setIfInBounds_toArray, List.set_cons_zero, List.set_cons_succ]
      refine wpAnyH_ready (rs := [11]) (by kernel_rfl) (by simp) ?_
      refine AllReadyH.cons rfl (fun K hK => ?_) AllReadyH.nil
      go_simp
      go_at_call 17
      refine (HDR.out _ hx7).mono ?_
      rintro e w8 ⟨rfl, hb8⟩
      go_simp
      refine hK.out _ _ (hx7.trans (hb8.mono hx7.size)) (fun HS6 => ?_)
      clear hK
      have hx8 := hx7.trans (hb8.mono hx7.size)
      try simp only [List.getElem_toArray, List.getElem_cons_succ, List.getElem_cons_zero, Act.put, List.setIfInBounds_toArray, List.set_cons_zero, List.set_cons_succ]
      refine wpAnyH_take (i := 12) (v := ?_) rfl (by kernel_rfl) (by kernel_rfl) (by kernel_rfl) (fun _ _ _ h => h) (Or.inl ⟨by rfl, ?_⟩) HS6 ?_
      rotate_left
      · intro w hE; go_simp; try with_reducible rfl
      simp only [List.getElem_toArray, List.getElem_cons_succ, List.getElem_cons_zero, Act.put, List.setIfInBounds_toArray, List.set_cons_zero, List.set_cons_succ]
      refine wpAnyH_take (i := 13) (v := ?_) rfl (by kernel_rfl) (by kernel_rfl) (by kernel_rfl) (fun _ _ _ h => h) (Or.inl ⟨by rfl, ?_⟩) HS6 ?_
      rotate_left
      · intro w hE; go_simp; try with_reducible rfl
      simp only [List.getElem_toArray, List.getElem_cons_succ, List.getElem_cons_zero, Act.put, List.setIfInBounds_toArray, List.set_cons_zero, List.set_cons_succ]
      refine wpAnyH_take (i := 14) (v := ?_) rfl (by kernel_rfl) (by kernel_rfl) (by kernel_rfl) (fun _ _ _ h => h) (Or.inl ⟨by rfl, ?_⟩) HS6 ?_
      rotate_left
      · intro w hE; go_simp; try with_reducible rfl
      simp only [List.getElem_toArray, List.getElem_cons_succ, List.getElem_cons_zero, Act.put, List.setIfInBounds_toArray, List.set_cons_zero, List.set_cons_succ]
      refine wpAnyH_take (i := 15) (v := ?_) rfl (by kernel_rfl) (by kernel_rfl) (by kernel_rfl) (fun _ _ _ h => h) (Or.inl ⟨by rfl, ?_⟩) HS6 ?_
      rotate_left
      · intro w hE; obtain ⟨p0, p1, p2, p3, p4, p5⟩ := HBX.out.below hE; go_simp; try with_reducible rfl
      simp only [List.getElem_toArray, List.getElem_cons_succ, List.getElem_cons_zero, Act.put, List.setIfInBounds_toArray, List.set_cons_zero, List.set_cons_succ]
      refine wpAnyH_take (i := 17) (v := ?_) rfl (by kernel_rfl) (by kernel_rfl) (by kernel_rfl) (fun _ _ _ h => h) (Or.inl ⟨by rfl, ?_⟩) HS6 ?_
      rotate_left
      · intro w hE; obtain ⟨p0, p1, p2, p3, p4, p5⟩ := HBY.out.below hE; go_simp; try with_reducible rfl
      simp only [List.getElem_toArray, List.getElem_cons_succ, List.getElem_cons_zero, Act.put, List.setIfInBounds_toArray, List.set_cons_zero, List.set_cons_succ]
      refine wpAnyH_take (i := 20) (v := ?_) rfl (by kernel_rfl) (by kernel_rfl) (by kernel_rfl) (fun _ _ _ h => h) (Or.inl ⟨by rfl, ?_⟩) HS6 ?_
      rotate_left
      · intro w hE; obtain ⟨p0, p1, p2, p3, p4, p5⟩ := HBX.out.below hE; go_simp; try with_reducible rfl
      simp only [List.getElem_toArray, List.getElem_cons_succ, List.getElem_cons_zero, Act.put, List.setIfInBounds_toArray, List.set_cons_zero, List.set_cons_succ]
      refine wpAnyH_take (i := 21) (v := ?_) rfl (by kernel_rfl) (by kernel_rfl) (by kernel_rfl) (fun _ _ _ h => h) (Or.inl ⟨by rfl, ?_⟩) HS6 ?_
      rotate_left
      · intro w hE; obtain ⟨p0, p1, p2, p3, p4, p5⟩ := HBY.out.below hE; go_simp; try with_reducible rfl
      simp only [List.getElem_toArray, List.getElem_cons_succ, List.getElem_cons_zero, Act.put, List.setIfInBounds_toArray, List.set_cons_zero, List.set_cons_succ]
      refine wpAnyH_ready (rs := [16]) (by kernel_rfl) (by simp) ?_
      refine AllReadyH.cons rfl (fun K hK => ?_) AllReadyH.nil
      go_simp
      go_at_call 14
      refine (HTX.out _ hx8).mono ?_
      rintro e w9 ⟨u9, rfl, ha9, hb9⟩
      go_simp
      refine hK.out _ _ (hx8.trans (hb9.mono hx8.size)) (fun HS7 => ?_)
      clear hK
      have hx9 := hx8.trans (hb9.mono hx8.size)
      have HN9 := Lib.hid (ha9.imp (q := AnyB) (fun _ _ => trivial))
      clear ha9
      try simp only [List.getElem_toArray, List.getElem_cons_succ, List.getElem_cons_zero, Act.put, List.setIfInBounds_toArray, List.set_cons_zero, List.set_cons_succ]
      refine wpAnyH_ready (rs := [18]) (by kernel_rfl) (by simp) ?_
      refine AllReadyH.cons rfl (fun K hK => ?_) AllReadyH.nil
      go_simp
      go_at_call 14
      refine (HTY.out _ hx9).mono ?_
      rintro e w10 ⟨u10, rfl, ha10, hb10⟩
      go_simp
      refine hK.out _ _ (hx9.trans (hb10.mono hx9.size)) (fun HS8 => ?_)
      clear hK
      have hx10 := hx9.trans (hb10.mono hx9.size)
      have HN10 := Lib.hid (ha10.imp (q := AnyB) (fun _ _ => trivial))
      clear ha10
      try simp only [List.getElem_toArray, List.getElem_cons_succ, List.getElem_cons_zero, Act.put, List.setIfInBounds_toArray, List.set_cons_zero, List.set_cons_succ]
      refine wpAnyH_ready (rs := [19]) (by kernel_rfl) (by simp) ?_
      refine AllReadyH.cons rfl (fun K hK => ?_) AllReadyH.nil
      go_simp
      go_at_call 18
      refine (HSI.out _ hx10 _ _ (HN9.out.below hb10) HN10.out).mono ?_
      rintro e w11 ⟨rfl, hb11⟩
      go_simp
      refine hK.out _ _ (hx10.trans (hb11.mono hx10.size)) (fun HS9 => ?_)
      clear hK
      have hx11 := hx10.trans (hb11.mono hx10.size)
      try simp only [List.getElem_toArray, List.getElem_cons_succ, List.getElem_cons_zero, Act.put, List.setIfInBounds_toArray, List.set_cons_zero, List.set_cons_succ]
      refine wpAnyH_ready (rs := [22]) (by kernel_rfl) (by simp) ?_
      refine AllReadyH.cons rfl (fun K hK => ?_) AllReadyH.nil
      go_simp
      go_at_call 19
      refine (HSR.out _ hx11).mono ?_
      rintro e w12 ⟨rfl, hb12⟩
      go_simp
      refine hK.out _ _ (hx11.trans (hb12.mono hx11.size)) (fun HS10 => ?_)
      clear hK
      have hx12 := hx11.trans (hb12.mono hx11.size)
      try simp only [List.getElem_toArray, List.getElem_cons_succ, List.getElem_cons_zero, Act.put, List.setIfInBounds_toArray, List.set_cons_zero, List.set_cons_succ]
      refine wpAnyH_take (i := 23) (v := ?_) rfl (by kernel_rfl) (by kernel_rfl) (by kernel_rfl) (fun _ _ _ h => h) (Or.inl ⟨by rfl, ?_⟩) HS10 ?_
      rotate_left
      · intro w hE; go_simp; try with_reducible rfl
      simp only [List.getElem_toArray, List.getElem_cons_succ, List.getElem_cons_zero, Act.put, List.setIfInBounds_toArray, List.set_cons_zero, List.set_cons_succ]
      refine wpAnyH_take (i := 24) (v := ?_) rfl (by kernel_rfl) (by kernel_rfl) (by kernel_rfl) (fun _ _ _ h => h) (Or.inl ⟨by rfl, ?_⟩) HS10 ?_
      rotate_left
      · intro w hE; go_simp; try with_reducible rfl
      simp only [List.getElem_toArray, List.getElem_cons_succ, List.getElem_cons_zero, Act.put, List.setIfInBounds_toArray, List.set_cons_zero, List.set_cons_succ]
      refine wpAnyH_take (i := 25) (v := ?_) rfl (by kernel_rfl) (by kernel_rfl) (by kernel_rfl) (fun _ _ _ h => h) (Or.inl ⟨by rfl, ?_⟩) HS10 ?_
      rotate_left
      · intro w hE; go_simp; try with_reducible rfl
      simp only [List.getElem_toArray, List.getElem_cons_succ, List.getElem_cons_zero, Act.put, List.setIfInBounds_toArray, List.set_cons_zero, List.set_cons_succ]
      refine wpAnyH_take (i := 26) (v := ?_) rfl (by kernel_rfl) (by kernel_rfl) (by kernel_rfl) (fun _ _ _ h => h) (Or.inl ⟨by rfl, ?_⟩) HS10 ?_
      rotate_left
      · intro w hE; obtain ⟨p0, p1, p2, p3, p4, p5⟩ := HBX.out.below hE; go_simp; try with_reducible rfl
      simp only [List.getElem_toArray, List.getElem_cons_succ, List.getElem_cons_zero, Act.put, List.setIfInBounds_toArray, List.set_cons_zero, List.set_cons_succ]
      refine wpAnyH_take (i := 28) (v := ?_) rfl (by kernel_rfl) (by kernel_rfl) (by kernel_rfl) (fun _ _ _ h => h) (Or.inl ⟨by rfl, ?_⟩) HS10 ?_
      rotate_left
      · intro w hE; obtain ⟨p0, p1, p2, p3, p4, p5⟩ := HBX.out.below hE; go_simp; try with_reducible rfl
      simp only [List.getElem_toArray, List.getElem_cons_succ, List.getElem_cons_zero, Act.put, List.setIfInBounds_toArray, List.set_cons_zero, List.set_cons_succ]
      refine wpAnyH_ready (rs := [27]) (by kernel_rfl) (by simp) ?_
      refine AllReadyH.cons rfl (fun K hK => ?_) AllReadyH.nil
      go_simp
      go_at_call 14
      refine (HTX.out _ hx12).mono ?_
      rintro e w13 ⟨u13, rfl, ha13, hb13⟩
      go_simp
      refine hK.out _ _ (hx12.trans (hb13.mono hx12.size)) (fun HS11 => ?_)
      clear hK
      have hx13 := hx12.trans (hb13.mono hx12.size)
      have HN13 := Lib.hid (ha13.imp (q := AnyB) (fun _ _ => trivial))
      clear ha13
      try simp only [List.getElem_toArray, List.getElem_cons_succ, List.getElem_cons_zero, Act.put, List.setIfInBounds_toArray, List.set_cons_zero, List.set_cons_succ]
      refine wpAnyH_ready (rs := [29]) (by kernel_rfl) (by simp) ?_
      refine AllReadyH.cons rfl (fun K hK => ?_) AllReadyH.nil
      go_simp
      go_at_call 14
      refine (HTX.out _ hx13).mono ?_
      rintro e w14 ⟨u14, rfl, ha14, hb14⟩
      go_simp
      refine hK.out _ _ (hx13.trans (hb14.mono hx13.size)) (fun HS12 => ?_)
      clear hK
      have hx14 := hx13.trans (hb14.mono hx13.size)
      have HN14 := Lib.hid (ha14.imp (q := AnyB) (fun _ _ => trivial))
      clear ha14
      try simp only [List.getElem_toArray, List.getElem_cons_succ, List.getElem_cons_zero, Act.put, List.setIfInBounds_toArray, List.set_cons_zero, List.set_cons_succ]
      refine wpAnyH_ready (rs := [30]) (by kernel_rfl) (by simp) ?_
      refine AllReadyH.cons rfl (fun K hK => ?_) AllReadyH.nil
      go_simp
      go_at_call 18
      refine (HSS.out _ hx14 _ _ (HN13.out.below hb14) HN14.out).mono ?_
      rintro e w15 ⟨rfl, hb15⟩
      go_simp
      refine hK.out _ _ (hx14.trans (hb15.mono hx14.size)) (fun HS13 => ?_)
      clear hK
      have hx15 := hx14.trans (hb15.mono hx14.size)
      try simp only [List.getElem_toArray, List.getElem_cons_succ, List.getElem_cons_zero, Act.put, List.setIfInBounds_toArray, List.set_cons_zero, List.set_cons_succ]
      refine wpAnyH_take (i := 31) (v := ?_) rfl (by kernel_rfl) (by kernel_rfl) (by kernel_rfl) (fun _ _ _ h => h) (Or.inl ⟨by rfl, ?_⟩) HS13 ?_
      rotate_left
      · intro w hE; go_simp; try with_reducible rfl
      simp only [List.getElem_toArray, List.getElem_cons_succ, List.getElem_cons_zero, Act.put, List.setIfInBounds_toArray, List.set_cons_zero, List.set_cons_succ]
      refine wpAnyH_take (i := 32) (v := ?_) rfl (by kernel_rfl) (by kernel_rfl) (by kernel_rfl) (fun _ _ _ h => h) (Or.inl ⟨by rfl, ?_⟩) HS13 ?_
      rotate_left
      · intro w hE; go_simp; try with_reducible rfl
      simp only [List.getElem_toArray, List.getElem_cons_succ, List.getElem_cons_zero, Act.put, List.setIfInBounds_toArray, List.set_cons_zero, List.set_cons_succ]
      refine wpAnyH_ready (rs := [33]) (by kernel_rfl) (by simp) ?_
      refine AllReadyH.cons rfl (fun K hK => ?_) AllReadyH.nil
      go_simp
      go_at_call 7
      refine (HAW.out _ (HK.out.keep HE2.out hx15)).mono ?_
      rintro e w16 ⟨rfl, hb16⟩
      go_simp
      refine hK.out _ _ (hx15.trans (hb16.mono hx15.size)) (fun HS14 => ?_)
      clear hK
      have hx16 := hx15.trans (hb16.mono hx15.size)
      try simp only [List.getElem_toArray, List.getElem_cons_succ, List.getElem_cons_zero, Act.put, List.setIfInBounds_toArray, List.set_cons_zero, List.set_cons_succ]
      refine wpAnyH_take (i := 34) (v := ?_) rfl (by kernel_rfl) (by kernel_rfl) (by kernel_rfl) (fun _ _ _ h => h) (Or.inl ⟨by rfl, ?_⟩) HS14 ?_
      rotate_left
      · intro w hE; go_simp; try with_reducible rfl
      simp only [List.getElem_toArray, List.getElem_cons_succ, List.getElem_cons_zero, Act.put, List.setIfInBounds_toArray, List.set_cons_zero, List.set_cons_succ]
      refine wpAnyH_take (i := 35) (v := ?_) rfl (by kernel_rfl) (by kernel_rfl) (by kernel_rfl) (fun _ _ _ h => h) (Or.inl ⟨by rfl, ?_⟩) HS14 ?_
      rotate_left
      · intro w hE; go_simp; try with_reducible rfl
      simp only [List.getElem_toArray, List.getElem_cons_succ, List.getElem_cons_zero, Act.put, List.setIfInBounds_toArray, List.set_cons_zero, List.set_cons_succ]
      refine wpAnyH_done (by kernel_rfl) ?_ _
      refine NoPanic.normal ?_
      go_wp2_with fail
      go_ret
      exact ⟨rfl, HB2.out.trans (hx16.mono HB2.out.size)⟩
end Go.Proofs.YtlagjnlajkmmeaaDoor
