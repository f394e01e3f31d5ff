/-
The reference of stage 6: whole rows compared and taken; Within, by a contract.
-/
import Derived.Test.YtepafmoohlognaaKOf
import Derived.Test.YtepafmoohlognaaKJoin
import Derived.Test.YtepafmoohlognaaBHeld
namespace Go.Proofs.Ytepafmoohlognaa
open Go.RowKit
theorem part_full {F : List Nat} {k x : Nat} (hx : F[k]? = some x) (W : World) : (part 26 (fullA F) (k * 1)).run Try.prog W = .ok (.int .u64 (x : Int)) W := by
  have ha : (isAgg 26).run Try.prog W = .ok false W := by
    unfold isAgg
    rw [Sem.run_bind, run_underlying Try.underlying26 W]
    rfl
  unfold part
  rw [Sem.run_bind, ha]
  simp only [Result.andThen_ok, Nat.mul_one, fullA_get hx, Bool.false_eq_true, if_false]
  rfl
theorem eq_full (F G : List Nat) (hF : F.length = 64) (hG : G.length = 64) (d : Nat) (w : World) :
    (Op.equalIn (d + 2) 28 (.agg (fullA F)) (.agg (fullA G))).run Try.prog w = .ok (decide (F = G)) w := by
  have hs : ∀ W, (sizeOf 26).run Try.prog W = .ok 1 W := fun W => by
    obtain ⟨i0, hi, hz0, hz1, hz2⟩ := info_parts info_u64
    simp [sizeOf, typeInfo, hi, hz1]
  rw [Op.equalIn]
  simp only [Sem.run_bind, run_underlying Try.underlying28, Result.andThen_ok, hs]
  rw [Std.Legacy.Range.forIn_eq_forIn_range']
  have key : ∀ n s, s + n = 64 → Sem.run Try.prog (forIn (List.range' s n 1) ((none : Option Bool), ()) fun i __s => do
            let __do_lift ← part 26 (fullA F) (i * 1)
            let __do_lift_1 ← part 26 (fullA G) (i * 1)
            let __do_lift ← Op.equalIn (d + 1) 26 __do_lift __do_lift_1
            if (!__do_lift) = true then pure (ForInStep.done (some false, ())) else pure (ForInStep.yield (none, ()))) w = .ok (if F.drop s = G.drop s then ((none : Option Bool), ()) else (some false, ())) w := by
    intro n
    induction n with
    | zero =>
      intro s hs
      rw [List.drop_of_length_le (by omega), List.drop_of_length_le (by omega)]
      simp
    | succ n ih =>
      intro s hs
      obtain ⟨x, hx⟩ : ∃ x, F[s]? = some x := ⟨_, List.getElem?_eq_getElem (by omega)⟩
      obtain ⟨y, hy⟩ : ∃ y, G[s]? = some y := ⟨_, List.getElem?_eq_getElem (by omega)⟩
      rw [List.range'_succ, List.forIn_cons]
      simp only [Sem.run_bind, part_full hx, part_full hy, Result.andThen_ok, run_equalIn_int (P := Try.prog) w d 26 .u64 .u64 (x : Int) (y : Int) Try.underlying26]
      rw [drop_at hx, drop_at hy]
      by_cases hxy : x = y
      · subst hxy
        simp only [beq_self_eq_true, Bool.not_true, Bool.false_eq_true, if_false, Sem.run_pure, Result.andThen_ok, List.cons.injEq, true_and]
        exact ih (s + 1) (by omega)
      · have : ((x : Int) == (y : Int)) = false := by simp; omega
        simp only [this, Bool.not_false, if_true, Sem.run_pure, Result.andThen_ok, List.cons.injEq, hxy, false_and, if_false]
  have h := key 64 0 (by omega)
  rw [show [:64].start = 0 from rfl, show [:64].size = 64 from rfl, show [:64].step = 1 from rfl, h]
  by_cases hFG : F = G
  · subst hFG
    simp
  · simp [hFG]
/-- As the walk asks it. -/
theorem eq_full0 (F G : List Nat) (hF : F.length = 64) (hG : G.length = 64) (w : World) : (Op.equalIn 10000 28 (.agg (fullA F)) (.agg (fullA G))).run Try.prog w = .ok (decide (F = G)) w := eq_full F G hF hG 9998 w
/-- A whole row is taken first. -/
theorem takeF {ops : Array Oper} {S : World → Prop} {op : Oper} {a : Act} (hw : Region.wanted op (yielded ops a.tmps) = true) (x : Operand) (ho : op.op = .load 28 x) (g : Nat) (hx : a.eval x = .pointer (some ⟨g, 0, none⟩)) (F : List Nat) (hS : ∀ w, S w → Row w g F) :
    YieldsIf Try.prog ops S op (.agg (fullA F)) a := by
  refine .inl ⟨hw, fun w hw' => ?_⟩
  have h := run_loadAt_mid (P := Try.prog) w g 0 28 (F.map nu) _ (hS w hw').range Try.underlying28 rfl (by rw [info_full]; simp [(hS w hw').2])
  unfold execOp
  simp only [ho, hx]
  rw [Sem.run_bind, h]
  rfl

def withinB (F G : List Nat) : Bool := decide (List.zipWith max F G = G)
set_option maxRecDepth 20000 in
set_option maxHeartbeats 1000000 in
theorem rwithin_form (F G : List Nat) (hF : F.length = 64) (hG : G.length = 64) (w : World) :
    Calls Try.prog 9 #[.agg (fullA F), .agg (fullA G)] w fun e w' => e = .returned (.bool (withinB F G)) ∧ Below w.heap.size w w' := by
  have HF := Lib.hid hF
  have HG := Lib.hid hG
  have HF1 := Lib.hid ((row_new (w := w) rfl hF).below (below_alloc _ (.cells (fullA G) 28)))
  have HG1 := Lib.hid (row_new (w := w.alloc (.cells (fullA F) 28)) (g := w.heap.size + 1) (by simp) hG)
  have hb0 := below2 w (.cells (fullA F) 28) (.cells (fullA G) 28)
  have heq := fun W => eq_full0 (List.zipWith max F G) G (by rw [List.length_zipWith, hF, hG]; rfl) hG W
  have HEQ := Lib.hid heq
  clear hF hG heq
  go_enter Try.func9, Try.ntmps9
  go_wp2_with fail
  refine wp_region_noPanic ?_
  refine wp_region_below (by kernel_rfl) (fun HS0 => ?_)
  refine wpAnyH_take (i := 0) (v := _) rfl (by kernel_rfl) (by kernel_rfl) (by kernel_rfl) (fun _ _ _ h => h) (takeF (by rfl) _ rfl _ rfl _ (fun w hE => HF1.out.below hE)) HS0 ?_
  simp only [List.getElem_toArray, List.getElem_cons_succ, List.getElem_cons_zero, Act.put, List.setIfInBounds_toArray, List.set_cons_zero, List.set_cons_succ]
  refine wpAnyH_take (i := 1) (v := _) rfl (by kernel_rfl) (by kernel_rfl) (by kernel_rfl) (fun _ _ _ h => h) (takeF (by rfl) _ rfl _ rfl _ (fun w hE => HG1.out.below hE)) HS0 ?_
  simp only [List.getElem_toArray, List.getElem_cons_succ, List.getElem_cons_zero, Act.put, List.setIfInBounds_toArray, List.set_cons_zero, List.set_cons_succ]
  refine wpAnyH_take (i := 3) (v := _) rfl (by kernel_rfl) (by kernel_rfl) (by kernel_rfl) (fun _ _ _ h => h) (takeF (by rfl) _ rfl _ rfl _ (fun w hE => HG1.out.below hE)) HS0 ?_
  simp only [List.getElem_toArray, List.getElem_cons_succ, List.getElem_cons_zero, Act.put, List.setIfInBounds_toArray, List.set_cons_zero, List.set_cons_succ]
  refine wpAnyH_ready (rs := [2]) (by kernel_rfl) (by simp) ?_
  refine AllReadyH.cons rfl (fun K hK => ?_) AllReadyH.nil
  go_simp
  go_at_call 12
  refine (rjoin_form F G HF.out HG.out _).mono ?_
  rintro e wA ⟨rfl, hbA⟩
  go_simp
  refine hK.out _ _ (HS0.trans hbA) (fun HS1 => ?_)
  clear hK
  have hxA := HS0.trans hbA
  try simp only [List.getElem_toArray, List.getElem_cons_succ, List.getElem_cons_zero, Act.put, List.setIfInBounds_toArray, List.set_cons_zero, List.set_cons_succ]
  refine wpAnyH_take (i := 4) (v := ?_) rfl (by kernel_rfl) (by kernel_rfl) (by kernel_rfl) (fun _ _ _ h => h) (Or.inl ⟨by rfl, ?_⟩) HS1 ?_
  rotate_left
  · intro w hE; have heq := HEQ.out w; go_simp; try with_reducible rfl
  simp only [List.getElem_toArray, List.getElem_cons_succ, List.getElem_cons_zero, Act.put, List.setIfInBounds_toArray, List.set_cons_zero, List.set_cons_succ]
  refine wpAnyH_take (i := 5) (v := ?_) rfl (by kernel_rfl) (by kernel_rfl) (by kernel_rfl) (fun _ _ _ h => h) (Or.inl ⟨by rfl, ?_⟩) HS1 ?_
  rotate_left
  · intro w hE; go_simp; try with_reducible rfl
  simp only [List.getElem_toArray, List.getElem_cons_succ, List.getElem_cons_zero, Act.put, List.setIfInBounds_toArray, List.set_cons_zero, List.set_cons_succ]
  refine wpAnyH_done (by kernel_rfl) ?_ _
  refine NoPanic.normal ?_
  go_wp2
  go_ret
  exact ⟨rfl, hb0.trans (hxA.mono hb0.size)⟩
end Go.Proofs.Ytepafmoohlognaa
