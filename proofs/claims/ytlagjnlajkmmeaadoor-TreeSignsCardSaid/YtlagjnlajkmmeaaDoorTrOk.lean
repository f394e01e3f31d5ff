/-
What the laws of stage 9 ask of package tree; the chapter's example over it.
-/
import Derived.Test.YtlagjnlajkmmeaaDoorTrTo
import Derived.Test.YtlagjnlajkmmeaaDoorTrSame
import Derived.Test.YtlagjnlajkmmeaaDoorOneB
import Derived.Test.YtlagjnlajkmmeaaDoorDigS
import Derived.Test.YtlagjnlajkmmeaaDoorTrQuo
import Derived.Shelf.Abstract
namespace Go.Proofs.YtlagjnlajkmmeaaDoor
open Go.RowKit

/-- E: what the world holds; M: how long a text may be where trees are printed. -/
structure TreeOk (E : World → Prop) (M : Nat) : Prop where
  keep : ∀ {w w'}, E w → Below w.heap.size w w' → E w'
  signs : ∀ (k : Int) w, E w → In64 k → Calls Tryd.prog 5 #[.int .i64 k] w fun e w' => ∃ v, e = .returned v ∧ RdS w' v (signsF k) ∧ Below w.heap.size w w'
  level : ∀ (s : List UInt8) w, E w → s.length ≤ 200 → Calls Tryd.prog 8 #[.string ⟨s.toArray⟩] w fun e w' => e = .returned (.int .i64 (levelF s : Nat)) ∧ Below w.heap.size w w'
  name : ∀ (s : List UInt8) w, E w → s.length ≤ 200 → Calls Tryd.prog 10 #[.string ⟨s.toArray⟩] w fun e w' => e = .returned (.bool (nameF s)) ∧ Below w.heap.size w w'
  right : ∀ (x : Tr) v w, E w → nodes x ≤ 200 → RdN AnyB w x v → Calls Tryd.prog 13 #[v] w fun e w' => e = .returned (.bool (rightF x 64)) ∧ Below w.heap.size w w'
  depth : ∀ (x : Tr) v w, E w → nodes x ≤ 200 → RdN AnyB w x v → Calls Tryd.prog 16 #[v] w fun e w' => e = .returned (.int .i64 (depthF x : Nat)) ∧ Below w.heap.size w w'
  print : ∀ (x : Tr) v w (K : FuncId) (nm : Int → List UInt8), E w → nodes x ≤ 200 → rightF x 64 = true → maxT x ≤ M → RdN AnyB w x v → (∀ args W, (callFunc K args).run Tryd.prog W = .ok (.enter K args) W) →
    (∀ k W, E W → In64 k → Calls Tryd.prog K #[.int .i64 k] W fun e w' => e = .returned (.string ⟨(nm k).toArray⟩) ∧ Below W.heap.size W w') → (∀ k, In64 k → (nm k).length ≤ 41) →
    Calls Tryd.prog 21 #[v, .func (.func K) #[] #[]] w fun e w' => e = .returned (.string ⟨(prF txN (namedF nm x) 1).toArray⟩) ∧ Below w.heap.size w w'

def numTr (n : Int) : Tr := .mk 1 n [] 0 0 []
def exB : Tr := .mk 6 0 [45] 0 0 [numTr 2000000, numTr 3000000]
def exA : Tr := .mk 6 0 [45] 0 0 [numTr 1000000, exB]
theorem exA_print : prF txN (namedF Lib.itoa exA) 1 = [49, 45, 40, 50, 45, 51, 41] := by decide +kernel
theorem exA_right : rightF exA 64 = true := by decide +kernel
theorem exA_depth : depthF exA = 3 := by decide +kernel
theorem exA_nodes : nodes exA ≤ 200 := by decide +kernel
theorem exA_max : maxT exA ≤ 1 := by decide +kernel

set_option maxRecDepth 20000 in
theorem num_lit (n : Int) (hn : 0 ≤ n ∧ n ≤ 100) (w : World) : Calls Tryd.prog 20 #[.int .i64 n] w fun e w' => e = .returned (.agg #[.int .i64 1, .int .i64 (n * 1000000), .string ⟨#[]⟩, .int .i64 0, .int .i64 0, .slice none 0 0]) ∧ Below w.heap.size w w' := by
  obtain ⟨h0, h1⟩ := hn
  go_enter Tryd.func20, Tryd.ntmps20
  go_wp2
  refine bodyPost_ret (results_tnode rfl rfl (heap_new rfl)) rfl ?_
  exact ⟨rfl, below_alloc _ _⟩
theorem row12 {w : World} {g : Nat} {k n : Int} {s : List UInt8} {f t : Int} {v : Value} {k2 n2 : Int} {s2 : List UInt8} {f2 t2 : Int} {v2 : Value} {T : TypeId}
    (h : w.heap[g]? = some (.cells #[.int .i64 k, .int .i64 n, .string ⟨s.toArray⟩, .int .i64 f, .int .i64 t, v, .int .i64 k2, .int .i64 n2, .string ⟨s2.toArray⟩, .int .i64 f2, .int .i64 t2, v2] T (0, 0))) :
    At6 w g 0 k n s f t v ∧ At6 w g (0 + 6) k2 n2 s2 f2 t2 v2 :=
  ⟨⟨by rw [cell_of_row _ _ _ _ _ _ h]; rfl, by rw [cell_of_row _ _ _ _ _ _ h]; rfl, by rw [cell_of_row _ _ _ _ _ _ h]; rfl, by rw [cell_of_row _ _ _ _ _ _ h]; rfl, by rw [cell_of_row _ _ _ _ _ _ h]; rfl, by rw [cell_of_row _ _ _ _ _ _ h]; rfl⟩,
   by rw [cell_of_row _ _ _ _ _ _ h]; rfl, by rw [cell_of_row _ _ _ _ _ _ h]; rfl, by rw [cell_of_row _ _ _ _ _ _ h]; rfl, by rw [cell_of_row _ _ _ _ _ _ h]; rfl, by rw [cell_of_row _ _ _ _ _ _ h]; rfl, by rw [cell_of_row _ _ _ _ _ _ h]; rfl⟩
theorem fit_num (n : Int) (h : 0 ≤ n ∧ n ≤ 10000000) : FitN (numTr n) := ⟨by simp only [numTr, Tr.kind]; omega, by simp only [numTr, Tr.num]; omega, by simp only [numTr, Tr.a]; omega, by simp only [numTr, Tr.b]; omega, by simp [numTr, Tr.text]⟩
theorem fit_b : FitN exB := ⟨by simp only [exB, Tr.kind]; omega, by simp only [exB, Tr.num]; omega, by simp only [exB, Tr.a]; omega, by simp only [exB, Tr.b]; omega, by simp only [exB, Tr.text]; decide⟩
theorem fit_a : FitN exA := ⟨by simp only [exA, Tr.kind]; omega, by simp only [exA, Tr.num]; omega, by simp only [exA, Tr.a]; omega, by simp only [exA, Tr.b]; omega, by simp only [exA, Tr.text]; decide⟩
theorem rdA_nil (w : World) : RdA AnyB w [] (.slice none 0 0) := .inl ⟨none, 0, rfl, rfl, fun _ => rfl⟩
theorem rdA_two {w : World} {g : Nat} {x y : Tr} {u v : Value} {T : TypeId} (hx : FitN x) (hy : FitN y) (hu : RdA AnyB w x.args u) (hv : RdA AnyB w y.args v)
    (h : w.heap[g]? = some (.cells #[.int .i64 x.kind, .int .i64 x.num, .string ⟨x.text.toArray⟩, .int .i64 x.a, .int .i64 x.b, u, .int .i64 y.kind, .int .i64 y.num, .string ⟨y.text.toArray⟩, .int .i64 y.a, .int .i64 y.b, v] T (0, 0))) :
    RdA AnyB w [x, y] (.slice (some ⟨g, 0, none⟩) 2 2) := by
  obtain ⟨h1, h2⟩ := row12 h
  refine .inr ⟨g, 0, 2, rfl, Nat.le_refl _, by decide, (Array.getElem?_eq_some_iff.1 h).1, trivial, ?_⟩
  unfold RdL
  refine ⟨RdC_iff.2 ⟨hx, u, h1, hu⟩, ?_⟩
  unfold RdL
  refine ⟨RdC_iff.2 ⟨hy, v, h2, hv⟩, ?_⟩
  unfold RdL
  trivial

set_option maxRecDepth 20000 in
set_option maxHeartbeats 4000000 in
theorem awake_any {E : World → Prop} {M : Nat} (K : TreeOk E M) (hM : 1 ≤ M) (w : World) (hE : E w) :
    Calls Tryd.prog 7 #[] w fun e w' => e = .returned (.bool true) ∧ Below w.heap.size w w' := by
  have HC1 := Lib.hid (fun W => num_lit 1 (by omega) W)
  have HC2 := Lib.hid (fun W => num_lit 2 (by omega) W)
  have HC3 := Lib.hid (fun W => num_lit 3 (by omega) W)
  have HE := Lib.hid hE
  have HK := Lib.hid K
  have HM := Lib.hid hM
  have HDG := Lib.hid (fun (k : Int) (W : World) (_ : E W) (h : In64 k) => Dig.digits_any k h.1 h.2 W)
  clear hE K hM
  go_enter Tryd.func7, Tryd.ntmps7
  go_wp2_with fail
  go_at_call 20
  with_reducible refine (HC2.out _).mono ?_
  rintro e w1 ⟨rfl, hb1⟩
  have HB1 := Lib.hid hb1
  clear hb1
  go_wp2_with fail
  go_at_call 20
  with_reducible refine (HC3.out _).mono ?_
  rintro e w2 ⟨rfl, hb2⟩
  have HB2 := Lib.hid (HB1.out.trans (hb2.mono HB1.out.size))
  clear hb2
  have HBB := Lib.hid (box6v (w2.alloc (.cells #[.int .i64 1, .int .i64 2000000, .string ⟨#[]⟩, .int .i64 0, .int .i64 0, .slice none 0 0, .int .i64 1, .int .i64 3000000, .string ⟨#[]⟩, .int .i64 0, .int .i64 0, .slice none 0 0] 36)) (g := w2.heap.size + 1) (by simp) 6 0 [45] 0 0 (.slice (some ⟨w2.heap.size, 0, none⟩) 2 2) 36)
  have HR23 := Lib.hid (show (((w2.alloc (.cells #[.int .i64 1, .int .i64 2000000, .string ⟨#[]⟩, .int .i64 0, .int .i64 0, .slice none 0 0, .int .i64 1, .int .i64 3000000, .string ⟨#[]⟩, .int .i64 0, .int .i64 0, .slice none 0 0] 36)).alloc (.cells #[.int .i64 6, .int .i64 0, .string ⟨#[45]⟩, .int .i64 0, .int .i64 0, .slice (some ⟨w2.heap.size, 0, none⟩) 2 2] 36))).heap[w2.heap.size]? = _ from heap_old (heap_new rfl))
  have HB2W := Lib.hid (HB2.out.trans ((below2 w2 (.cells #[.int .i64 1, .int .i64 2000000, .string ⟨#[]⟩, .int .i64 0, .int .i64 0, .slice none 0 0, .int .i64 1, .int .i64 3000000, .string ⟨#[]⟩, .int .i64 0, .int .i64 0, .slice none 0 0] 36) (.cells #[.int .i64 6, .int .i64 0, .string ⟨#[45]⟩, .int .i64 0, .int .i64 0, .slice (some ⟨w2.heap.size, 0, none⟩) 2 2] 36)).mono HB2.out.size))
  go_wp2_with fail
  refine wp_region_noPanic ?_
  refine wp_region_below (by kernel_rfl) (fun HS0 => ?_)
  refine wpAnyH_take (i := 0) (v := ?_) rfl (by kernel_rfl) (by kernel_rfl) (by kernel_rfl) (fun _ _ _ h => h) (Or.inl ⟨by rfl, ?_⟩) HS0 ?_
  rotate_left
  · intro w hE; go_simp; try with_reducible rfl
  simp only [List.getElem_toArray, List.getElem_cons_succ, List.getElem_cons_zero, Act.put, List.setIfInBounds_toArray, List.set_cons_zero, List.set_cons_succ]
  refine wpAnyH_take (i := 2) (v := ?_) rfl (by kernel_rfl) (by kernel_rfl) (by kernel_rfl) (fun _ _ _ h => h) (Or.inl ⟨by rfl, ?_⟩) HS0 ?_
  rotate_left
  · intro w hE; obtain ⟨p0, p1, p2, p3, p4, p5⟩ := HBB.out.below hE; go_simp; try with_reducible rfl
  simp only [List.getElem_toArray, List.getElem_cons_succ, List.getElem_cons_zero, Act.put, List.setIfInBounds_toArray, List.set_cons_zero, List.set_cons_succ]
  refine wpAnyH_ready (rs := [1, 5]) (by kernel_rfl) (by simp) ?_
  refine AllReadyH.cons rfl (fun K hK => ?_) (AllReadyH.cons rfl (fun K hK => ?_) AllReadyH.nil)
  · go_simp
    go_at_call 20
    refine (HC1.out _).mono ?_
    rintro e w3 ⟨rfl, hb3⟩
    go_simp
    refine hK.out _ _ (HS0.trans (hb3.mono HS0.size)) (fun HS1 => ?_)
    clear hK
    have hx3 := HS0.trans (hb3.mono HS0.size)
    clear hb3
    try simp only [List.getElem_toArray, List.getElem_cons_succ, List.getElem_cons_zero, Act.put, List.setIfInBounds_toArray, List.set_cons_zero, List.set_cons_succ]
    refine wpAnyH_ready (rs := [3, 5]) (by kernel_rfl) (by simp) ?_
    refine AllReadyH.cons rfl (fun K hK => ?_) (AllReadyH.cons rfl (fun K hK => ?_) AllReadyH.nil)
    · go_simp
      refine hK.out _ _ (hx3.alloc hx3.size _) (fun HS2 => ?_)
      clear hK
      try simp only [List.getElem_toArray, List.getElem_cons_succ, List.getElem_cons_zero, Act.put, List.setIfInBounds_toArray, List.set_cons_zero, List.set_cons_succ]
      refine wpAnyH_take (i := 4) (v := ?_) rfl (by kernel_rfl) (by kernel_rfl) (by kernel_rfl) (fun _ _ _ h => h) (Or.inl ⟨by rfl, ?_⟩) HS2 ?_
      rotate_left
      · intro w hE; go_simp; try with_reducible rfl
      simp only [List.getElem_toArray, List.getElem_cons_succ, List.getElem_cons_zero, Act.put, List.setIfInBounds_toArray, List.set_cons_zero, List.set_cons_succ]
      refine wpAnyH_ready (rs := [5]) (by kernel_rfl) (by simp) ?_
      refine AllReadyH.cons rfl (fun K hK => ?_) AllReadyH.nil
      go_simp
      refine hK.out _ _ ((hx3.alloc hx3.size _).alloc (Nat.le_trans hx3.size (by simp)) _) (fun HS3 => ?_)
      clear hK
      try simp only [List.getElem_toArray, List.getElem_cons_succ, List.getElem_cons_zero, Act.put, List.setIfInBounds_toArray, List.set_cons_zero, List.set_cons_succ]
      refine wpAnyH_ready (rs := [6]) (by kernel_rfl) (by simp) ?_
      refine AllReadyH.cons rfl (fun K hK => ?_) AllReadyH.nil
      go_simp
      refine hK.out _ _ ((hx3.alloc hx3.size _).alloc (Nat.le_trans hx3.size (by simp)) _) (fun HS4 => ?_)
      clear hK
      try simp only [List.getElem_toArray, List.getElem_cons_succ, List.getElem_cons_zero, Act.put, List.setIfInBounds_toArray, List.set_cons_zero, List.set_cons_succ]
      refine wpAnyH_done (by kernel_rfl) ?_ _
      refine NoPanic.normal ?_
      have HW := Lib.hid (show Below (((w2.alloc (.cells #[.int .i64 1, .int .i64 2000000, .string ⟨#[]⟩, .int .i64 0, .int .i64 0, .slice none 0 0, .int .i64 1, .int .i64 3000000, .string ⟨#[]⟩, .int .i64 0, .int .i64 0, .slice none 0 0] 36)).alloc (.cells #[.int .i64 6, .int .i64 0, .string ⟨#[45]⟩, .int .i64 0, .int .i64 0, .slice (some ⟨w2.heap.size, 0, none⟩) 2 2] 36))).heap.size ((w2.alloc (.cells #[.int .i64 1, .int .i64 2000000, .string ⟨#[]⟩, .int .i64 0, .int .i64 0, .slice none 0 0, .int .i64 1, .int .i64 3000000, .string ⟨#[]⟩, .int .i64 0, .int .i64 0, .slice none 0 0] 36)).alloc (.cells #[.int .i64 6, .int .i64 0, .string ⟨#[45]⟩, .int .i64 0, .int .i64 0, .slice (some ⟨w2.heap.size, 0, none⟩) 2 2] 36)) ((w3.alloc (.cells #[.int .i64 1, .int .i64 1000000, .string ⟨#[]⟩, .int .i64 0, .int .i64 0, .slice none 0 0, .int .i64 6, .int .i64 0, .string ⟨#[45]⟩, .int .i64 0, .int .i64 0, .slice (some ⟨w2.heap.size, 0, none⟩) 2 2] 36)).alloc (.cells #[.int .i64 6, .int .i64 0, .string ⟨#[45]⟩, .int .i64 0, .int .i64 0, .slice (some ⟨w3.heap.size, 0, none⟩) 2 2] 36)) from (hx3.alloc hx3.size _).alloc (Nat.le_trans hx3.size (by simp)) _)
      have HRA := Lib.hid (show (((w3.alloc (.cells #[.int .i64 1, .int .i64 1000000, .string ⟨#[]⟩, .int .i64 0, .int .i64 0, .slice none 0 0, .int .i64 6, .int .i64 0, .string ⟨#[45]⟩, .int .i64 0, .int .i64 0, .slice (some ⟨w2.heap.size, 0, none⟩) 2 2] 36)).alloc (.cells #[.int .i64 6, .int .i64 0, .string ⟨#[45]⟩, .int .i64 0, .int .i64 0, .slice (some ⟨w3.heap.size, 0, none⟩) 2 2] 36))).heap[w3.heap.size + 1]? = some (.cells #[.int .i64 6, .int .i64 0, .string ⟨#[45]⟩, .int .i64 0, .int .i64 0, .slice (some ⟨w3.heap.size, 0, none⟩) 2 2] 36 (0, 0)) from heap_new (by simp))
      have HRR := Lib.hid (show (((w3.alloc (.cells #[.int .i64 1, .int .i64 1000000, .string ⟨#[]⟩, .int .i64 0, .int .i64 0, .slice none 0 0, .int .i64 6, .int .i64 0, .string ⟨#[45]⟩, .int .i64 0, .int .i64 0, .slice (some ⟨w2.heap.size, 0, none⟩) 2 2] 36)).alloc (.cells #[.int .i64 6, .int .i64 0, .string ⟨#[45]⟩, .int .i64 0, .int .i64 0, .slice (some ⟨w3.heap.size, 0, none⟩) 2 2] 36))).heap[w3.heap.size]? = some (.cells #[.int .i64 1, .int .i64 1000000, .string ⟨#[]⟩, .int .i64 0, .int .i64 0, .slice none 0 0, .int .i64 6, .int .i64 0, .string ⟨#[45]⟩, .int .i64 0, .int .i64 0, .slice (some ⟨w2.heap.size, 0, none⟩) 2 2] 36 (0, 0)) from heap_old (heap_new rfl))
      have HRDB := Lib.hid (rdA_two (fit_num 2000000 (by omega)) (fit_num 3000000 (by omega)) (rdA_nil _) (rdA_nil _) ((HW.out.block w2.heap.size (by simp; omega)).trans HR23.out))
      have HN := Lib.hid (show RdN AnyB ((w3.alloc (.cells #[.int .i64 1, .int .i64 1000000, .string ⟨#[]⟩, .int .i64 0, .int .i64 0, .slice none 0 0, .int .i64 6, .int .i64 0, .string ⟨#[45]⟩, .int .i64 0, .int .i64 0, .slice (some ⟨w2.heap.size, 0, none⟩) 2 2] 36)).alloc (.cells #[.int .i64 6, .int .i64 0, .string ⟨#[45]⟩, .int .i64 0, .int .i64 0, .slice (some ⟨w3.heap.size, 0, none⟩) 2 2] 36)) exA (nodeV 6 0 [45] 0 0 (.slice (some ⟨w3.heap.size, 0, none⟩) 2 2)) from ⟨fit_a, _, rfl, rdA_two (fit_num 1000000 (by omega)) fit_b (rdA_nil _) HRDB.out HRR.out⟩)
      obtain ⟨⟨k0, k1, k2, k3, k4, k5⟩, _⟩ := row6 HRA.out
      have HEW := Lib.hid (HK.out.keep HE.out (HB2W.out.trans (HW.out.mono HB2W.out.size)))
      have HB4 := Lib.hid (HB2W.out.trans (HW.out.mono HB2W.out.size))
      have HPR := Lib.hid (HK.out.print exA _ ((w3.alloc (.cells #[.int .i64 1, .int .i64 1000000, .string ⟨#[]⟩, .int .i64 0, .int .i64 0, .slice none 0 0, .int .i64 6, .int .i64 0, .string ⟨#[45]⟩, .int .i64 0, .int .i64 0, .slice (some ⟨w2.heap.size, 0, none⟩) 2 2] 36)).alloc (.cells #[.int .i64 6, .int .i64 0, .string ⟨#[45]⟩, .int .i64 0, .int .i64 0, .slice (some ⟨w3.heap.size, 0, none⟩) 2 2] 36)) 22 Lib.itoa HEW.out exA_nodes exA_right (Nat.le_trans exA_max HM.out) HN.out (enters_of Tryd.func22 (by kernel_rfl) rfl) HDG.out (fun k h => Nat.le_trans (itoa_len k h) (by omega)))
      have HDP := Lib.hid (fun W4 (hb : Below (((w3.alloc (.cells #[.int .i64 1, .int .i64 1000000, .string ⟨#[]⟩, .int .i64 0, .int .i64 0, .slice none 0 0, .int .i64 6, .int .i64 0, .string ⟨#[45]⟩, .int .i64 0, .int .i64 0, .slice (some ⟨w2.heap.size, 0, none⟩) 2 2] 36)).alloc (.cells #[.int .i64 6, .int .i64 0, .string ⟨#[45]⟩, .int .i64 0, .int .i64 0, .slice (some ⟨w3.heap.size, 0, none⟩) 2 2] 36))).heap.size ((w3.alloc (.cells #[.int .i64 1, .int .i64 1000000, .string ⟨#[]⟩, .int .i64 0, .int .i64 0, .slice none 0 0, .int .i64 6, .int .i64 0, .string ⟨#[45]⟩, .int .i64 0, .int .i64 0, .slice (some ⟨w2.heap.size, 0, none⟩) 2 2] 36)).alloc (.cells #[.int .i64 6, .int .i64 0, .string ⟨#[45]⟩, .int .i64 0, .int .i64 0, .slice (some ⟨w3.heap.size, 0, none⟩) 2 2] 36)) W4) => HK.out.depth exA _ W4 (HK.out.keep HEW.out hb) exA_nodes (HN.out.below hb))
      have HRT := Lib.hid (fun W4 (hb : Below (((w3.alloc (.cells #[.int .i64 1, .int .i64 1000000, .string ⟨#[]⟩, .int .i64 0, .int .i64 0, .slice none 0 0, .int .i64 6, .int .i64 0, .string ⟨#[45]⟩, .int .i64 0, .int .i64 0, .slice (some ⟨w2.heap.size, 0, none⟩) 2 2] 36)).alloc (.cells #[.int .i64 6, .int .i64 0, .string ⟨#[45]⟩, .int .i64 0, .int .i64 0, .slice (some ⟨w3.heap.size, 0, none⟩) 2 2] 36))).heap.size ((w3.alloc (.cells #[.int .i64 1, .int .i64 1000000, .string ⟨#[]⟩, .int .i64 0, .int .i64 0, .slice none 0 0, .int .i64 6, .int .i64 0, .string ⟨#[45]⟩, .int .i64 0, .int .i64 0, .slice (some ⟨w2.heap.size, 0, none⟩) 2 2] 36)).alloc (.cells #[.int .i64 6, .int .i64 0, .string ⟨#[45]⟩, .int .i64 0, .int .i64 0, .slice (some ⟨w3.heap.size, 0, none⟩) 2 2] 36)) W4) => HK.out.right exA _ W4 (HK.out.keep HEW.out hb) exA_nodes (HN.out.below hb))
      rw [exA_print] at HPR
      simp only [exA_depth] at HDP
      simp only [exA_right] at HRT
      unfold nodeV at HPR HDP HRT
      have hga : w3.heap.size + 1 < (((w3.alloc (.cells #[.int .i64 1, .int .i64 1000000, .string ⟨#[]⟩, .int .i64 0, .int .i64 0, .slice none 0 0, .int .i64 6, .int .i64 0, .string ⟨#[45]⟩, .int .i64 0, .int .i64 0, .slice (some ⟨w2.heap.size, 0, none⟩) 2 2] 36)).alloc (.cells #[.int .i64 6, .int .i64 0, .string ⟨#[45]⟩, .int .i64 0, .int .i64 0, .slice (some ⟨w3.heap.size, 0, none⟩) 2 2] 36))).heap.size := (Array.getElem?_eq_some_iff.1 HRA.out).1
      clear HN HRDB
      go_wp2_with fail
      go_at_call 21
      with_reducible refine HPR.out.mono ?_
      rintro e w5 ⟨rfl, hb5⟩
      have HB5 := Lib.hid hb5
      clear hb5 k0 k1 k2 k3 k4 k5
      obtain ⟨⟨k0, k1, k2, k3, k4, k5⟩, _⟩ := row6 ((HB5.out.block _ hga).trans HRA.out)
      go_wp2_with fail
      go_at_call 16
      with_reducible refine (HDP.out _ HB5.out).mono ?_
      rintro e w6 ⟨rfl, hb6⟩
      have HB6 := Lib.hid (HB5.out.trans (hb6.mono HB5.out.size))
      clear hb6 k0 k1 k2 k3 k4 k5
      obtain ⟨⟨k0, k1, k2, k3, k4, k5⟩, _⟩ := row6 ((HB6.out.block _ hga).trans HRA.out)
      go_wp2_with fail
      go_at_call 13
      with_reducible refine (HRT.out _ HB6.out).mono ?_
      rintro e w7 ⟨rfl, hb7⟩
      go_wp2_with fail
      go_ret
      exact ⟨rfl, HB4.out.trans ((HB6.out.trans (hb7.mono HB6.out.size)).mono HB4.out.size)⟩
    · go_simp
      refine hK.out _ _ (hx3.alloc hx3.size _) (fun HS2 => ?_)
      clear hK
      try simp only [List.getElem_toArray, List.getElem_cons_succ, List.getElem_cons_zero, Act.put, List.setIfInBounds_toArray, List.set_cons_zero, List.set_cons_succ]
      refine wpAnyH_ready (rs := [3]) (by kernel_rfl) (by simp) ?_
      refine AllReadyH.cons rfl (fun K hK => ?_) AllReadyH.nil
      go_simp
      refine hK.out _ _ ((hx3.alloc hx3.size _).alloc (Nat.le_trans hx3.size (by simp)) _) (fun HS3 => ?_)
      clear hK
      try simp only [List.getElem_toArray, List.getElem_cons_succ, List.getElem_cons_zero, Act.put, List.setIfInBounds_toArray, List.set_cons_zero, List.set_cons_succ]
      refine wpAnyH_take (i := 4) (v := ?_) rfl (by kernel_rfl) (by kernel_rfl) (by kernel_rfl) (fun _ _ _ h => h) (Or.inl ⟨by rfl, ?_⟩) HS3 ?_
      rotate_left
      · intro w hE; go_simp; try with_reducible rfl
      simp only [List.getElem_toArray, List.getElem_cons_succ, List.getElem_cons_zero, Act.put, List.setIfInBounds_toArray, List.set_cons_zero, List.set_cons_succ]
      obtain ⟨wz, hwz⟩ : ∃ wz, wz = ((w3.alloc (.cells #[.int .i64 0, .int .i64 0, .string ⟨#[]⟩, .int .i64 0, .int .i64 0, .slice none 0 0] 36)).alloc (.cells #[.int .i64 1, .int .i64 1000000, .string ⟨#[]⟩, .int .i64 0, .int .i64 0, .slice none 0 0, .int .i64 6, .int .i64 0, .string ⟨#[45]⟩, .int .i64 0, .int .i64 0, .slice (some ⟨w2.heap.size, 0, none⟩) 2 2] 36)) := ⟨_, rfl⟩
      rw [← hwz] at HS3 ⊢
      have HSZ := Lib.hid (show Below (((w2.alloc (.cells #[.int .i64 1, .int .i64 2000000, .string ⟨#[]⟩, .int .i64 0, .int .i64 0, .slice none 0 0, .int .i64 1, .int .i64 3000000, .string ⟨#[]⟩, .int .i64 0, .int .i64 0, .slice none 0 0] 36)).alloc (.cells #[.int .i64 6, .int .i64 0, .string ⟨#[45]⟩, .int .i64 0, .int .i64 0, .slice (some ⟨w2.heap.size, 0, none⟩) 2 2] 36))).heap.size ((w2.alloc (.cells #[.int .i64 1, .int .i64 2000000, .string ⟨#[]⟩, .int .i64 0, .int .i64 0, .slice none 0 0, .int .i64 1, .int .i64 3000000, .string ⟨#[]⟩, .int .i64 0, .int .i64 0, .slice none 0 0] 36)).alloc (.cells #[.int .i64 6, .int .i64 0, .string ⟨#[45]⟩, .int .i64 0, .int .i64 0, .slice (some ⟨w2.heap.size, 0, none⟩) 2 2] 36)) wz from hwz ▸ ((hx3.alloc hx3.size _).alloc (Nat.le_trans hx3.size (by simp)) _))
      have HZR := Lib.hid (show wz.heap[w3.heap.size]? = some (.cells #[.int .i64 0, .int .i64 0, .string ⟨#[]⟩, .int .i64 0, .int .i64 0, .slice none 0 0] 36 (0, 0)) from hwz ▸ heap_old (heap_new rfl))
      have HGR := Lib.hid (show wz.heap[w3.heap.size + 1]? = some (.cells #[.int .i64 1, .int .i64 1000000, .string ⟨#[]⟩, .int .i64 0, .int .i64 0, .slice none 0 0, .int .i64 6, .int .i64 0, .string ⟨#[45]⟩, .int .i64 0, .int .i64 0, .slice (some ⟨w2.heap.size, 0, none⟩) 2 2] 36 (0, 0)) from hwz ▸ (heap_new (by simp)))
      clear hwz
      obtain ⟨⟨z0, z1, z2, z3, z4, z5⟩, zf⟩ := row6 HZR.out
      have f0 := zf 0
      have f1 := zf 1
      have f2 := zf 2
      have f3 := zf 3
      have f4 := zf 4
      have f5 := zf 5
      clear zf
      refine wpAnyH_ready (rs := [6]) (by kernel_rfl) (by simp) ?_
      refine AllReadyH.cons rfl (fun K hK => ?_) AllReadyH.nil
      go_simp
      obtain ⟨g0, g1, g2, g3⟩ := fin6 (b := w3.heap.size) (w := wz) (w' := wz) (Below.refl _ _) HZR.out (.int .i64 6) (.int .i64 0) (.string ⟨#[45]⟩) (.int .i64 0) (.int .i64 0) (.slice (some ⟨w3.heap.size + 1, 0, none⟩) 2 2) _ rfl
      refine hK.out _ _ (HSZ.out.trans (g0.mono hx3.size)) (fun HS5 => ?_)
      clear hK
      try simp only [List.getElem_toArray, List.getElem_cons_succ, List.getElem_cons_zero, Act.put, List.setIfInBounds_toArray, List.set_cons_zero, List.set_cons_succ]
      refine wpAnyH_done (by kernel_rfl) ?_ _
      refine NoPanic.normal ?_
      obtain ⟨wf, hwf⟩ : ∃ wf, wf = ((((((wz.setCell ⟨w3.heap.size, 0, none⟩ (.int .i64 6)).setCell ⟨w3.heap.size, 1, none⟩ (.int .i64 0)).setCell ⟨w3.heap.size, 2, none⟩ (.string ⟨#[45]⟩)).setCell ⟨w3.heap.size, 3, none⟩ (.int .i64 0)).setCell ⟨w3.heap.size, 4, none⟩ (.int .i64 0)).setCell ⟨w3.heap.size, 5, none⟩ (.slice (some ⟨w3.heap.size + 1, 0, none⟩) 2 2)) := ⟨_, rfl⟩
      rw [← hwf] at g0 g1 g2 g3 ⊢
      have HW := Lib.hid (show Below (((w2.alloc (.cells #[.int .i64 1, .int .i64 2000000, .string ⟨#[]⟩, .int .i64 0, .int .i64 0, .slice none 0 0, .int .i64 1, .int .i64 3000000, .string ⟨#[]⟩, .int .i64 0, .int .i64 0, .slice none 0 0] 36)).alloc (.cells #[.int .i64 6, .int .i64 0, .string ⟨#[45]⟩, .int .i64 0, .int .i64 0, .slice (some ⟨w2.heap.size, 0, none⟩) 2 2] 36))).heap.size ((w2.alloc (.cells #[.int .i64 1, .int .i64 2000000, .string ⟨#[]⟩, .int .i64 0, .int .i64 0, .slice none 0 0, .int .i64 1, .int .i64 3000000, .string ⟨#[]⟩, .int .i64 0, .int .i64 0, .slice none 0 0] 36)).alloc (.cells #[.int .i64 6, .int .i64 0, .string ⟨#[45]⟩, .int .i64 0, .int .i64 0, .slice (some ⟨w2.heap.size, 0, none⟩) 2 2] 36)) wf from HSZ.out.trans (g0.mono hx3.size))
      have HRA := Lib.hid (show wf.heap[w3.heap.size]? = some (.cells #[.int .i64 6, .int .i64 0, .string ⟨#[45]⟩, .int .i64 0, .int .i64 0, .slice (some ⟨w3.heap.size + 1, 0, none⟩) 2 2] 36 (0, 0)) from g1)
      have HRR := Lib.hid (show wf.heap[w3.heap.size + 1]? = some (.cells #[.int .i64 1, .int .i64 1000000, .string ⟨#[]⟩, .int .i64 0, .int .i64 0, .slice none 0 0, .int .i64 6, .int .i64 0, .string ⟨#[45]⟩, .int .i64 0, .int .i64 0, .slice (some ⟨w2.heap.size, 0, none⟩) 2 2] 36 (0, 0)) from (g3 _ (by omega)).trans HGR.out)
      clear hwf g0 g1 g2 g3 z0 z1 z2 z3 z4 z5 f0 f1 f2 f3 f4 f5 HS5
      have HRDB := Lib.hid (rdA_two (fit_num 2000000 (by omega)) (fit_num 3000000 (by omega)) (rdA_nil _) (rdA_nil _) ((HW.out.block w2.heap.size (by simp; omega)).trans HR23.out))
      have HN := Lib.hid (show RdN AnyB wf exA (nodeV 6 0 [45] 0 0 (.slice (some ⟨w3.heap.size + 1, 0, none⟩) 2 2)) from ⟨fit_a, _, rfl, rdA_two (fit_num 1000000 (by omega)) fit_b (rdA_nil _) HRDB.out HRR.out⟩)
      obtain ⟨⟨k0, k1, k2, k3, k4, k5⟩, _⟩ := row6 HRA.out
      have HEW := Lib.hid (HK.out.keep HE.out (HB2W.out.trans (HW.out.mono HB2W.out.size)))
      have HB4 := Lib.hid (HB2W.out.trans (HW.out.mono HB2W.out.size))
      have HPR := Lib.hid (HK.out.print exA _ wf 22 Lib.itoa HEW.out exA_nodes exA_right (Nat.le_trans exA_max HM.out) HN.out (enters_of Tryd.func22 (by kernel_rfl) rfl) HDG.out (fun k h => Nat.le_trans (itoa_len k h) (by omega)))
      have HDP := Lib.hid (fun W4 (hb : Below (wf).heap.size wf W4) => HK.out.depth exA _ W4 (HK.out.keep HEW.out hb) exA_nodes (HN.out.below hb))
      have HRT := Lib.hid (fun W4 (hb : Below (wf).heap.size wf W4) => HK.out.right exA _ W4 (HK.out.keep HEW.out hb) exA_nodes (HN.out.below hb))
      rw [exA_print] at HPR
      simp only [exA_depth] at HDP
      simp only [exA_right] at HRT
      unfold nodeV at HPR HDP HRT
      have hga : w3.heap.size < (wf).heap.size := (Array.getElem?_eq_some_iff.1 HRA.out).1
      clear HN HRDB
      go_wp2_with fail
      go_at_call 21
      with_reducible refine HPR.out.mono ?_
      rintro e w5 ⟨rfl, hb5⟩
      have HB5 := Lib.hid hb5
      clear hb5 k0 k1 k2 k3 k4 k5
      obtain ⟨⟨k0, k1, k2, k3, k4, k5⟩, _⟩ := row6 ((HB5.out.block _ hga).trans HRA.out)
      go_wp2_with fail
      go_at_call 16
      with_reducible refine (HDP.out _ HB5.out).mono ?_
      rintro e w6 ⟨rfl, hb6⟩
      have HB6 := Lib.hid (HB5.out.trans (hb6.mono HB5.out.size))
      clear hb6 k0 k1 k2 k3 k4 k5
      obtain ⟨⟨k0, k1, k2, k3, k4, k5⟩, _⟩ := row6 ((HB6.out.block _ hga).trans HRA.out)
      go_wp2_with fail
      go_at_call 13
      with_reducible refine (HRT.out _ HB6.out).mono ?_
      rintro e w7 ⟨rfl, hb7⟩
      go_wp2_with fail
      go_ret
      exact ⟨rfl, HB4.out.trans ((HB6.out.trans (hb7.mono HB6.out.size)).mono HB4.out.size)⟩
  · go_simp
    refine hK.out _ _ (HS0.alloc (Nat.le_refl _) _) (fun HS1 => ?_)
    clear hK
    try simp only [List.getElem_toArray, List.getElem_cons_succ, List.getElem_cons_zero, Act.put, List.setIfInBounds_toArray, List.set_cons_zero, List.set_cons_succ]
    refine wpAnyH_ready (rs := [1]) (by kernel_rfl) (by simp) ?_
    refine AllReadyH.cons rfl (fun K hK => ?_) AllReadyH.nil
    go_simp
    go_at_call 20
    refine (HC1.out _).mono ?_
    rintro e w3 ⟨rfl, hb3⟩
    go_simp
    refine hK.out _ _ ((HS0.alloc (Nat.le_refl _) (.cells #[.int .i64 0, .int .i64 0, .string ⟨#[]⟩, .int .i64 0, .int .i64 0, .slice none 0 0] 36)).trans (hb3.mono (by simp))) (fun HS2 => ?_)
    clear hK
    have hx3 := (HS0.alloc (Nat.le_refl _) (.cells #[.int .i64 0, .int .i64 0, .string ⟨#[]⟩, .int .i64 0, .int .i64 0, .slice none 0 0] 36)).trans (hb3.mono (by simp))
    have hsz3 : w2.heap.size + 1 + 1 + 1 ≤ w3.heap.size := by have := hb3.size; simpa [World.drew] using this
    have HZ0 := Lib.hid ((hb3.block (w2.heap.size + 1 + 1) (by simp [World.drew])).trans (heap_new (by simp [World.drew])))
    clear hb3
    try simp only [List.getElem_toArray, List.getElem_cons_succ, List.getElem_cons_zero, Act.put, List.setIfInBounds_toArray, List.set_cons_zero, List.set_cons_succ]
    refine wpAnyH_ready (rs := [3]) (by kernel_rfl) (by simp) ?_
    refine AllReadyH.cons rfl (fun K hK => ?_) AllReadyH.nil
    go_simp
    refine hK.out _ _ (hx3.alloc hx3.size _) (fun HS3 => ?_)
    clear hK
    try simp only [List.getElem_toArray, List.getElem_cons_succ, List.getElem_cons_zero, Act.put, List.setIfInBounds_toArray, List.set_cons_zero, List.set_cons_succ]
    refine wpAnyH_take (i := 4) (v := ?_) rfl (by kernel_rfl) (by kernel_rfl) (by kernel_rfl) (fun _ _ _ h => h) (Or.inl ⟨by rfl, ?_⟩) HS3 ?_
    rotate_left
    · intro w hE; go_simp; try with_reducible rfl
    simp only [List.getElem_toArray, List.getElem_cons_succ, List.getElem_cons_zero, Act.put, List.setIfInBounds_toArray, List.set_cons_zero, List.set_cons_succ]
    obtain ⟨wz, hwz⟩ : ∃ wz, wz = (w3.alloc (.cells #[.int .i64 1, .int .i64 1000000, .string ⟨#[]⟩, .int .i64 0, .int .i64 0, .slice none 0 0, .int .i64 6, .int .i64 0, .string ⟨#[45]⟩, .int .i64 0, .int .i64 0, .slice (some ⟨w2.heap.size, 0, none⟩) 2 2] 36)) := ⟨_, rfl⟩
    rw [← hwz] at HS3 ⊢
    have HSZ := Lib.hid (show Below (((w2.alloc (.cells #[.int .i64 1, .int .i64 2000000, .string ⟨#[]⟩, .int .i64 0, .int .i64 0, .slice none 0 0, .int .i64 1, .int .i64 3000000, .string ⟨#[]⟩, .int .i64 0, .int .i64 0, .slice none 0 0] 36)).alloc (.cells #[.int .i64 6, .int .i64 0, .string ⟨#[45]⟩, .int .i64 0, .int .i64 0, .slice (some ⟨w2.heap.size, 0, none⟩) 2 2] 36))).heap.size ((w2.alloc (.cells #[.int .i64 1, .int .i64 2000000, .string ⟨#[]⟩, .int .i64 0, .int .i64 0, .slice none 0 0, .int .i64 1, .int .i64 3000000, .string ⟨#[]⟩, .int .i64 0, .int .i64 0, .slice none 0 0] 36)).alloc (.cells #[.int .i64 6, .int .i64 0, .string ⟨#[45]⟩, .int .i64 0, .int .i64 0, .slice (some ⟨w2.heap.size, 0, none⟩) 2 2] 36)) wz from hwz ▸ (hx3.alloc hx3.size _))
    have HZR := Lib.hid (show wz.heap[(w2.heap.size + 1 + 1)]? = some (.cells #[.int .i64 0, .int .i64 0, .string ⟨#[]⟩, .int .i64 0, .int .i64 0, .slice none 0 0] 36 (0, 0)) from hwz ▸ heap_old HZ0.out)
    have HGR := Lib.hid (show wz.heap[w3.heap.size]? = some (.cells #[.int .i64 1, .int .i64 1000000, .string ⟨#[]⟩, .int .i64 0, .int .i64 0, .slice none 0 0, .int .i64 6, .int .i64 0, .string ⟨#[45]⟩, .int .i64 0, .int .i64 0, .slice (some ⟨w2.heap.size, 0, none⟩) 2 2] 36 (0, 0)) from hwz ▸ (heap_new rfl))
    clear hwz
    obtain ⟨⟨z0, z1, z2, z3, z4, z5⟩, zf⟩ := row6 HZR.out
    have f0 := zf 0
    have f1 := zf 1
    have f2 := zf 2
    have f3 := zf 3
    have f4 := zf 4
    have f5 := zf 5
    clear zf
    refine wpAnyH_ready (rs := [6]) (by kernel_rfl) (by simp) ?_
    refine AllReadyH.cons rfl (fun K hK => ?_) AllReadyH.nil
    go_simp
    obtain ⟨g0, g1, g2, g3⟩ := fin6 (b := (w2.heap.size + 1 + 1)) (w := wz) (w' := wz) (Below.refl _ _) HZR.out (.int .i64 6) (.int .i64 0) (.string ⟨#[45]⟩) (.int .i64 0) (.int .i64 0) (.slice (some ⟨w3.heap.size, 0, none⟩) 2 2) _ rfl
    refine hK.out _ _ (HSZ.out.trans (g0.mono (by simp))) (fun HS5 => ?_)
    clear hK
    try simp only [List.getElem_toArray, List.getElem_cons_succ, List.getElem_cons_zero, Act.put, List.setIfInBounds_toArray, List.set_cons_zero, List.set_cons_succ]
    refine wpAnyH_done (by kernel_rfl) ?_ _
    refine NoPanic.normal ?_
    obtain ⟨wf, hwf⟩ : ∃ wf, wf = ((((((wz.setCell ⟨(w2.heap.size + 1 + 1), 0, none⟩ (.int .i64 6)).setCell ⟨(w2.heap.size + 1 + 1), 1, none⟩ (.int .i64 0)).setCell ⟨(w2.heap.size + 1 + 1), 2, none⟩ (.string ⟨#[45]⟩)).setCell ⟨(w2.heap.size + 1 + 1), 3, none⟩ (.int .i64 0)).setCell ⟨(w2.heap.size + 1 + 1), 4, none⟩ (.int .i64 0)).setCell ⟨(w2.heap.size + 1 + 1), 5, none⟩ (.slice (some ⟨w3.heap.size, 0, none⟩) 2 2)) := ⟨_, rfl⟩
    rw [← hwf] at g0 g1 g2 g3 ⊢
    have HW := Lib.hid (show Below (((w2.alloc (.cells #[.int .i64 1, .int .i64 2000000, .string ⟨#[]⟩, .int .i64 0, .int .i64 0, .slice none 0 0, .int .i64 1, .int .i64 3000000, .string ⟨#[]⟩, .int .i64 0, .int .i64 0, .slice none 0 0] 36)).alloc (.cells #[.int .i64 6, .int .i64 0, .string ⟨#[45]⟩, .int .i64 0, .int .i64 0, .slice (some ⟨w2.heap.size, 0, none⟩) 2 2] 36))).heap.size ((w2.alloc (.cells #[.int .i64 1, .int .i64 2000000, .string ⟨#[]⟩, .int .i64 0, .int .i64 0, .slice none 0 0, .int .i64 1, .int .i64 3000000, .string ⟨#[]⟩, .int .i64 0, .int .i64 0, .slice none 0 0] 36)).alloc (.cells #[.int .i64 6, .int .i64 0, .string ⟨#[45]⟩, .int .i64 0, .int .i64 0, .slice (some ⟨w2.heap.size, 0, none⟩) 2 2] 36)) wf from HSZ.out.trans (g0.mono (by simp)))
    have HRA := Lib.hid (show wf.heap[(w2.heap.size + 1 + 1)]? = some (.cells #[.int .i64 6, .int .i64 0, .string ⟨#[45]⟩, .int .i64 0, .int .i64 0, .slice (some ⟨w3.heap.size, 0, none⟩) 2 2] 36 (0, 0)) from g1)
    have HRR := Lib.hid (show wf.heap[w3.heap.size]? = some (.cells #[.int .i64 1, .int .i64 1000000, .string ⟨#[]⟩, .int .i64 0, .int .i64 0, .slice none 0 0, .int .i64 6, .int .i64 0, .string ⟨#[45]⟩, .int .i64 0, .int .i64 0, .slice (some ⟨w2.heap.size, 0, none⟩) 2 2] 36 (0, 0)) from (g3 _ (by omega)).trans HGR.out)
    clear hwf g0 g1 g2 g3 z0 z1 z2 z3 z4 z5 f0 f1 f2 f3 f4 f5 HS5
    have HRDB := Lib.hid (rdA_two (fit_num 2000000 (by omega)) (fit_num 3000000 (by omega)) (rdA_nil _) (rdA_nil _) ((HW.out.block w2.heap.size (by simp; omega)).trans HR23.out))
    have HN := Lib.hid (show RdN AnyB wf exA (nodeV 6 0 [45] 0 0 (.slice (some ⟨w3.heap.size, 0, none⟩) 2 2)) from ⟨fit_a, _, rfl, rdA_two (fit_num 1000000 (by omega)) fit_b (rdA_nil _) HRDB.out HRR.out⟩)
    obtain ⟨⟨k0, k1, k2, k3, k4, k5⟩, _⟩ := row6 HRA.out
    have HEW := Lib.hid (HK.out.keep HE.out (HB2W.out.trans (HW.out.mono HB2W.out.size)))
    have HB4 := Lib.hid (HB2W.out.trans (HW.out.mono HB2W.out.size))
    have HPR := Lib.hid (HK.out.print exA _ wf 22 Lib.itoa HEW.out exA_nodes exA_right (Nat.le_trans exA_max HM.out) HN.out (enters_of Tryd.func22 (by kernel_rfl) rfl) HDG.out (fun k h => Nat.le_trans (itoa_len k h) (by omega)))
    have HDP := Lib.hid (fun W4 (hb : Below (wf).heap.size wf W4) => HK.out.depth exA _ W4 (HK.out.keep HEW.out hb) exA_nodes (HN.out.below hb))
    have HRT := Lib.hid (fun W4 (hb : Below (wf).heap.size wf W4) => HK.out.right exA _ W4 (HK.out.keep HEW.out hb) exA_nodes (HN.out.below hb))
    rw [exA_print] at HPR
    simp only [exA_depth] at HDP
    simp only [exA_right] at HRT
    unfold nodeV at HPR HDP HRT
    have hga : (w2.heap.size + 1 + 1) < (wf).heap.size := (Array.getElem?_eq_some_iff.1 HRA.out).1
    clear HN HRDB
    go_wp2_with fail
    go_at_call 21
    with_reducible refine HPR.out.mono ?_
    rintro e w5 ⟨rfl, hb5⟩
    have HB5 := Lib.hid hb5
    clear hb5 k0 k1 k2 k3 k4 k5
    obtain ⟨⟨k0, k1, k2, k3, k4, k5⟩, _⟩ := row6 ((HB5.out.block _ hga).trans HRA.out)
    go_wp2_with fail
    go_at_call 16
    with_reducible refine (HDP.out _ HB5.out).mono ?_
    rintro e w6 ⟨rfl, hb6⟩
    have HB6 := Lib.hid (HB5.out.trans (hb6.mono HB5.out.size))
    clear hb6 k0 k1 k2 k3 k4 k5
    obtain ⟨⟨k0, k1, k2, k3, k4, k5⟩, _⟩ := row6 ((HB6.out.block _ hga).trans HRA.out)
    go_wp2_with fail
    go_at_call 13
    with_reducible refine (HRT.out _ HB6.out).mono ?_
    rintro e w7 ⟨rfl, hb7⟩
    go_wp2_with fail
    go_ret
    exact ⟨rfl, HB4.out.trans ((HB6.out.trans (hb7.mono HB6.out.size)).mono HB4.out.size)⟩
end Go.Proofs.YtlagjnlajkmmeaaDoor
