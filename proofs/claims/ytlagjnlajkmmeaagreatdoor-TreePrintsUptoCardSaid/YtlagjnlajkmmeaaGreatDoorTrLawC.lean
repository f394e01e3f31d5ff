/-
The law TreePrints, over what it asks of package tree.
-/
import Derived.Test.YtlagjnlajkmmeaaGreatDoorTrOk
import Derived.Test.YtlagjnlajkmmeaaGreatDoorTrNamed
import Derived.Test.YtlagjnlajkmmeaaGreatDoorTrPrint
namespace Go.Proofs.YtlagjnlajkmmeaaGreatDoor
open Go.RowKit

theorem max_named (x : Tr) : maxT (namedF nmF x) ≤ max (maxT x) 83 := by
  induction x using Tr.ind with
  | _ x ih =>
  rw [maxT_eq, maxT_eq x, named_args]
  have hf := nm_len x.a
  have ht := nm_len x.b
  have htx : (namedF nmF x).text.length ≤ max x.text.length 83 := by
    by_cases e3 : x.kind = 3
    · rw [named_text3 e3]; omega
    · by_cases e4 : x.kind = 4
      · rw [named_text4 e4, List.length_append, List.length_cons]; omega
      · rw [named_text0 e3 e4]; omega
  have all : ∀ (l : List Tr), (∀ y ∈ l, maxT (namedF nmF y) ≤ max (maxT y) 83) → maxTL (l.map (namedF nmF)) ≤ max (maxTL l) 83 := by
    intro l
    induction l with
    | nil => intro _; simp [maxTL]
    | cons y l ih2 =>
      intro h
      rw [List.map_cons]
      unfold maxTL
      have h1 := h y List.mem_cons_self
      have h2 := ih2 (fun z hz => h z (List.mem_cons_of_mem _ hz))
      omega
  have hl := all x.args (fun y hy => by obtain ⟨i, hi⟩ := List.getElem?_of_mem hy; exact ih i y hi)
  omega
set_option maxRecDepth 20000 in
set_option maxHeartbeats 16000000 in
theorem prints_law {E : World → Prop} {M : Nat} (K : TreeOk E M) (hM : 83 ≤ M) (hM2 : M ≤ 140737488355328) (x : Tr) (v : Value) (w : World) (hv : RdN AnyB w x v) (hmx : maxT x ≤ M) (hE : E w) :
    Calls Tryz.prog 3 #[v] w fun e w' => e = .returned (.bool true) ∧ Below w.heap.size w w' := by
  have hlx := fun W (h : Below w.heap.size w W) => light_any x v W (hv.below h)
  have hfx := hv.1
  have hrr := fun W (h : Below w.heap.size w W) => rright_any x 64 v W (by omega) (hv.below h)
  have htx := fun (hn : nodes x ≤ 200) W (h : Below w.heap.size w W) => to_any x v W (by omega) (hv.below h)
  have hnx := fun (hn : nodes x ≤ 200) W (h : Below w.heap.size w W) => named_any x v W (by omega) (hv.below h)
  obtain ⟨_, ux, rfl, _⟩ := hv
  have HK := Lib.hid K
  have HE := Lib.hid hE
  have HAW := Lib.hid (fun W (h : E W) => awake_any K (by omega) W h)
  have HB0 := Lib.hid (below_alloc w (boxN x ux 24))
  have HBX0 := Lib.hid (box6 w rfl x ux 24)
  obtain ⟨p0, p1, p2, p3, p4, p5⟩ := HBX0.out
  have HFX := Lib.hid hfx
  have HRR0 := Lib.hid hrr
  have HTX0 := Lib.hid htx
  have HNX0 := Lib.hid hnx
  have HLX := Lib.hid hlx
  have HMX := Lib.hid hmx
  have HM2 := Lib.hid hM2
  have HM1 := Lib.hid hM
  clear K hE hrr htx hnx hlx hfx hM hM2 hmx
  unfold nodeV at *
  cases hl1 : lightF x with
  | false =>
    rw [hl1] at HLX
    clear hl1
    go_enter Tryz.func3, Tryz.ntmps3
    go_wp2_with fail
    go_at_call 4
    with_reducible refine (HLX.out _ HB0.out).mono ?_
    rintro e w1 ⟨rfl, hb1⟩
    have HB1 := Lib.hid (HB0.out.trans (hb1.mono HB0.out.size))
    go_wp2_with fail
    go_at_call 6
    with_reducible refine (HAW.out _ (HK.out.keep HE.out HB1.out)).mono ?_
    rintro e w2 ⟨rfl, hb2⟩
    go_wp2_with fail
    go_ret
    exact ⟨rfl, HB1.out.trans (hb2.mono HB1.out.size)⟩
  | true =>
    rw [hl1] at HLX
    have hnd : nodes x ≤ 200 := by unfold lightF at hl1; exact (of_decide_eq_true hl1).1
    clear hl1
    cases hr : rightF x 64 with
    | false =>
      rw [hr] at HRR0
      clear hr hnd
      go_enter Tryz.func3, Tryz.ntmps3
      go_wp2_with fail
      go_at_call 4
      with_reducible refine (HLX.out _ HB0.out).mono ?_
      rintro e w1 ⟨rfl, hb1⟩
      have HB1 := Lib.hid (HB0.out.trans (hb1.mono HB0.out.size))
      have HBX1 := Lib.hid (HBX0.out.below hb1)
      clear p0 p1 p2 p3 p4 p5 hb1
      obtain ⟨p0, p1, p2, p3, p4, p5⟩ := HBX1.out
      go_wp2_with fail
      go_at_call 5
      with_reducible refine (HRR0.out _ HB1.out).mono ?_
      rintro e w2 ⟨rfl, hb2⟩
      have HB2 := Lib.hid (HB1.out.trans (hb2.mono HB1.out.size))
      go_wp2_with fail
      go_at_call 6
      with_reducible refine (HAW.out _ (HK.out.keep HE.out HB2.out)).mono ?_
      rintro e w3 ⟨rfl, hb3⟩
      go_wp2_with fail
      go_ret
      exact ⟨rfl, HB2.out.trans (hb3.mono HB2.out.size)⟩
    | true =>
      rw [hr] at HRR0
      have hpr : ∀ (z : Value) W, RdA AnyB W (x.args.map (namedF nmF)) z → Calls Tryz.prog 10 #[.agg #[.int .i64 x.kind, .int .i64 x.num, .string ⟨(txtF x).toArray⟩, .int .i64 0, .int .i64 0, z], .int .i64 1] W fun e w' => e = .returned (.string ⟨(prF txN (namedF nmF x) 1).toArray⟩) ∧ Below W.heap.size W w' := fun z W hz => by
        have h := rprint_any M HM2.out (namedF nmF x) 64 1 (nodeV x.kind x.num (txtF x) 0 0 z) W (by omega) (by rw [named_right]; exact hr) (by have h1 := max_named x; have h2 := HMX.out; have h3 := HM1.out; omega) (by rw [named_nodes]; exact hnd)
          ⟨fit_named HFX.out, z, by rw [named_kind, named_num, named_a, named_b]; rfl, by rw [named_args]; exact hz⟩
        exact h
      have hpi : ∀ (z : Value) W, E W → RdA AnyB W x.args z → Calls Tryz.prog 7 #[.agg #[.int .i64 x.kind, .int .i64 x.num, .string ⟨x.text.toArray⟩, .int .i64 x.a, .int .i64 x.b, z], .func (.func 9) #[] #[]] W fun e w' => e = .returned (.string ⟨(prF txN (namedF nmF x) 1).toArray⟩) ∧ Below W.heap.size W w' := fun z W hEW hz =>
        HK.out.print x _ W 9 nmF hEW hnd hr HMX.out ⟨HFX.out, z, rfl, hz⟩ (enters_of Tryz.func9 (by kernel_rfl) rfl) (fun k W _ hk => name_any k hk W) (fun k _ => nm_len k)
      generalize (⟨(prF txN (namedF nmF x) 1).toArray⟩ : ByteArray) = res at hpr hpi
      have HPR0 := Lib.hid hpr
      have HPI0 := Lib.hid hpi
      clear hr hpr hpi
      go_enter Tryz.func3, Tryz.ntmps3
      go_wp2_with fail
      go_at_call 4
      with_reducible refine (HLX.out _ HB0.out).mono ?_
      rintro e w1 ⟨rfl, hb1⟩
      have HB1 := Lib.hid (HB0.out.trans (hb1.mono HB0.out.size))
      have HBX1 := Lib.hid (HBX0.out.below hb1)
      clear p0 p1 p2 p3 p4 p5 hb1
      obtain ⟨p0, p1, p2, p3, p4, p5⟩ := HBX1.out
      go_wp2_with fail
      go_at_call 5
      with_reducible refine (HRR0.out _ HB1.out).mono ?_
      rintro e w2 ⟨rfl, hb2⟩
      have HB2 := Lib.hid (HB1.out.trans (hb2.mono HB1.out.size))
      have HBX := Lib.hid (HBX1.out.below hb2)
      have HE2 := Lib.hid (HK.out.keep HE.out HB2.out)
      have up := fun W (h : Below w2.heap.size w2 W) => HB2.out.trans (h.mono HB2.out.size)
      have HTX := Lib.hid (fun W (h : Below w2.heap.size w2 W) => HTX0.out hnd W (up W h))
      have HNX := Lib.hid (fun W (h : Below w2.heap.size w2 W) => HNX0.out hnd W (up W h))
      have HPR := Lib.hid (fun W (_ : Below w2.heap.size w2 W) (z : Value) (hz : RdA AnyB W (x.args.map (namedF nmF)) z) => HPR0.out z W hz)
      have HPI := Lib.hid (fun W (h : Below w2.heap.size w2 W) (z : Value) (hz : RdA AnyB W x.args z) => HPI0.out z W (HK.out.keep HE2.out h) hz)
      clear up hb2 p0 p1 p2 p3 p4 p5 hnd HTX0 HNX0 HRR0 HLX HBX0 HBX1 HPR0 HPI0
      go_wp2_with fail
      refine wp_region_noPanic ?_
      refine wp_region_below (by kernel_rfl) (fun HS0 => ?_)
      refine wpAnyH_take (i := 0) (v := ?_) rfl (by kernel_rfl) (by kernel_rfl) (by kernel_rfl) (fun _ _ _ h => h) (Or.inl ⟨by rfl, ?_⟩) HS0 ?_
      rotate_left
      · intro w hE; obtain ⟨p0, p1, p2, p3, p4, p5⟩ := HBX.out.below hE; go_simp; try with_reducible rfl
      simp only [List.getElem_toArray, List.getElem_cons_succ, List.getElem_cons_zero, Act.put, List.setIfInBounds_toArray, List.set_cons_zero, List.set_cons_succ]
      refine wpAnyH_take (i := 3) (v := ?_) rfl (by kernel_rfl) (by kernel_rfl) (by kernel_rfl) (fun _ _ _ h => h) (Or.inl ⟨by rfl, ?_⟩) HS0 ?_
      rotate_left
      · intro w hE; obtain ⟨p0, p1, p2, p3, p4, p5⟩ := HBX.out.below hE; go_simp; try with_reducible rfl
      simp only [List.getElem_toArray, List.getElem_cons_succ, List.getElem_cons_zero, Act.put, List.setIfInBounds_toArray, List.set_cons_zero, List.set_cons_succ]
      refine wpAnyH_ready (rs := [1]) (by kernel_rfl) (by simp) ?_
      refine AllReadyH.cons rfl (fun K hK => ?_) AllReadyH.nil
      go_simp
      go_at_call 8
      refine (HTX.out _ HS0).mono ?_
      rintro e w3 ⟨u3, rfl, ha3, hb3⟩
      go_simp
      refine hK.out _ _ (HS0.trans (hb3.mono HS0.size)) (fun HS1 => ?_)
      clear hK
      have hx3 := HS0.trans (hb3.mono HS0.size)
      have HN3 := Lib.hid (ha3.imp (q := AnyB) (fun _ _ => trivial))
      clear ha3
      try simp only [List.getElem_toArray, List.getElem_cons_succ, List.getElem_cons_zero, Act.put, List.setIfInBounds_toArray, List.set_cons_zero, List.set_cons_succ]
      refine wpAnyH_ready (rs := [2]) (by kernel_rfl) (by simp) ?_
      refine AllReadyH.cons rfl (fun K hK => ?_) AllReadyH.nil
      go_simp
      go_at_call 7
      refine (HPI.out _ hx3 _ HN3.out).mono ?_
      rintro e w4 ⟨rfl, hb4⟩
      go_simp
      refine hK.out _ _ (hx3.trans (hb4.mono hx3.size)) (fun HS2 => ?_)
      clear hK
      have hx4 := hx3.trans (hb4.mono hx3.size)
      try simp only [List.getElem_toArray, List.getElem_cons_succ, List.getElem_cons_zero, Act.put, List.setIfInBounds_toArray, List.set_cons_zero, List.set_cons_succ]
      refine wpAnyH_ready (rs := [4]) (by kernel_rfl) (by simp) ?_
      refine AllReadyH.cons rfl (fun K hK => ?_) AllReadyH.nil
      go_simp
      go_at_call 11
      refine (HNX.out _ hx4).mono ?_
      rintro e w5 ⟨u5, rfl, ha5, hb5⟩
      go_simp
      refine hK.out _ _ (hx4.trans (hb5.mono hx4.size)) (fun HS3 => ?_)
      clear hK
      have hx5 := hx4.trans (hb5.mono hx4.size)
      have HN5 := Lib.hid (ha5.imp (q := AnyB) (fun _ _ => trivial))
      clear ha5
      try simp only [List.getElem_toArray, List.getElem_cons_succ, List.getElem_cons_zero, Act.put, List.setIfInBounds_toArray, List.set_cons_zero, List.set_cons_succ]
      refine wpAnyH_ready (rs := [5]) (by kernel_rfl) (by simp) ?_
      refine AllReadyH.cons rfl (fun K hK => ?_) AllReadyH.nil
      go_simp
      go_at_call 10
      refine (HPR.out _ hx5 _ HN5.out).mono ?_
      rintro e w6 ⟨rfl, hb6⟩
      go_simp
      refine hK.out _ _ (hx5.trans (hb6.mono hx5.size)) (fun HS4 => ?_)
      clear hK
      have hx6 := hx5.trans (hb6.mono hx5.size)
      try simp only [List.getElem_toArray, List.getElem_cons_succ, List.getElem_cons_zero, Act.put, List.setIfInBounds_toArray, List.set_cons_zero, List.set_cons_succ]
      refine wpAnyH_take (i := 6) (v := ?_) rfl (by kernel_rfl) (by kernel_rfl) (by kernel_rfl) (fun _ _ _ h => h) (Or.inl ⟨by rfl, ?_⟩) HS4 ?_
      rotate_left
      · intro w hE; go_simp; try with_reducible rfl
      simp only [List.getElem_toArray, List.getElem_cons_succ, List.getElem_cons_zero, Act.put, List.setIfInBounds_toArray, List.set_cons_zero, List.set_cons_succ]
      refine wpAnyH_take (i := 7) (v := ?_) rfl (by kernel_rfl) (by kernel_rfl) (by kernel_rfl) (fun _ _ _ h => h) (Or.inl ⟨by rfl, ?_⟩) HS4 ?_
      rotate_left
      · intro w hE; go_simp; try with_reducible rfl
      simp only [List.getElem_toArray, List.getElem_cons_succ, List.getElem_cons_zero, Act.put, List.setIfInBounds_toArray, List.set_cons_zero, List.set_cons_succ]
      refine wpAnyH_ready (rs := [8]) (by kernel_rfl) (by simp) ?_
      refine AllReadyH.cons rfl (fun K hK => ?_) AllReadyH.nil
      go_simp
      go_at_call 6
      refine (HAW.out _ (HK.out.keep HE2.out hx6)).mono ?_
      rintro e w7 ⟨rfl, hb7⟩
      go_simp
      refine hK.out _ _ (hx6.trans (hb7.mono hx6.size)) (fun HS5 => ?_)
      clear hK
      have hx7 := hx6.trans (hb7.mono hx6.size)
      try simp only [List.getElem_toArray, List.getElem_cons_succ, List.getElem_cons_zero, Act.put, List.setIfInBounds_toArray, List.set_cons_zero, List.set_cons_succ]
      refine wpAnyH_take (i := 9) (v := ?_) rfl (by kernel_rfl) (by kernel_rfl) (by kernel_rfl) (fun _ _ _ h => h) (Or.inl ⟨by rfl, ?_⟩) HS5 ?_
      rotate_left
      · intro w hE; go_simp; try with_reducible rfl
      simp only [List.getElem_toArray, List.getElem_cons_succ, List.getElem_cons_zero, Act.put, List.setIfInBounds_toArray, List.set_cons_zero, List.set_cons_succ]
      refine wpAnyH_take (i := 10) (v := ?_) rfl (by kernel_rfl) (by kernel_rfl) (by kernel_rfl) (fun _ _ _ h => h) (Or.inl ⟨by rfl, ?_⟩) HS5 ?_
      rotate_left
      · intro w hE; go_simp; try with_reducible rfl
      simp only [List.getElem_toArray, List.getElem_cons_succ, List.getElem_cons_zero, Act.put, List.setIfInBounds_toArray, List.set_cons_zero, List.set_cons_succ]
      refine wpAnyH_done (by kernel_rfl) ?_ _
      refine NoPanic.normal ?_
      go_wp2_with fail
      go_ret
      exact ⟨rfl, HB2.out.trans (hx7.mono HB2.out.size)⟩
end Go.Proofs.YtlagjnlajkmmeaaGreatDoor
