/-
The chapter's example, over contracts of package clock.
-/
import Derived.Test.YtepafmoohlognaaKRows
namespace Go.Proofs.Ytepafmoohlognaa
open Go.RowKit

theorem rdU_new (w : World) {g : Nat} (hg : g = w.heap.size) (ns : List Nat) (hl : ns.length ≤ 1000) (T : TypeId) : RdU (w.alloc (.cells (ns.map nu).toArray T)) (.slice (some ⟨g, 0, none⟩) ns.length ns.length) ns := by
  have h1 : (w.alloc (.cells (ns.map nu).toArray T)).heap[g]? = some (.cells (ns.map nu).toArray T (0, 0)) := heap_new hg
  refine .inr ⟨g, 0, ns.length, rfl, Nat.le_refl _, by unfold maxLen; omega, by rw [hg]; simp, fun j x hj => ?_⟩
  rw [Nat.zero_add, cell_of_row _ _ j _ _ _ h1]
  simp [hj, nu]
def exF : List Nat := [1, 3, 1, 0, 0, 0, 0, 0, 0, 0, 0, 0, 0, 0, 0, 0, 0, 0, 0, 0, 0, 0, 0, 0, 0, 0, 0, 0, 0, 0, 0, 0, 0, 0, 0, 0, 0, 0, 0, 0, 0, 0, 0, 0, 0, 0, 0, 0, 0, 0, 0, 0, 0, 0, 0, 0, 0, 0, 0, 0, 0, 0, 0, 0]
theorem join_ex : decide (joinV [1, 2] [0, 3, 1] = cutF exF) = true := by kernel_rfl
theorem join_ex_len : (joinV [1, 2] [0, 3, 1]).length ≤ 1000 := Nat.le_trans (join_len ⟨by decide, by decide⟩ ⟨by decide, by decide⟩) (by decide)
theorem exF_lit : fullA exF = #[.int .u64 1, .int .u64 3, .int .u64 1, .int .u64 0, .int .u64 0, .int .u64 0, .int .u64 0, .int .u64 0, .int .u64 0, .int .u64 0, .int .u64 0, .int .u64 0, .int .u64 0, .int .u64 0, .int .u64 0, .int .u64 0, .int .u64 0, .int .u64 0, .int .u64 0, .int .u64 0, .int .u64 0, .int .u64 0, .int .u64 0, .int .u64 0, .int .u64 0, .int .u64 0, .int .u64 0, .int .u64 0, .int .u64 0, .int .u64 0, .int .u64 0, .int .u64 0, .int .u64 0, .int .u64 0, .int .u64 0, .int .u64 0, .int .u64 0, .int .u64 0, .int .u64 0, .int .u64 0, .int .u64 0, .int .u64 0, .int .u64 0, .int .u64 0, .int .u64 0, .int .u64 0, .int .u64 0, .int .u64 0, .int .u64 0, .int .u64 0, .int .u64 0, .int .u64 0, .int .u64 0, .int .u64 0, .int .u64 0, .int .u64 0, .int .u64 0, .int .u64 0, .int .u64 0, .int .u64 0, .int .u64 0, .int .u64 0, .int .u64 0, .int .u64 0] := by kernel_rfl
theorem apart_ex : (!withinB (padF [1, 2]) (padF [0, 3, 1]) && !withinB (padF [0, 3, 1]) (padF [1, 2])) = true := by kernel_rfl

set_option maxRecDepth 20000 in
set_option maxHeartbeats 1000000 in
theorem awake_any {E : World → Prop} (K : ClockOk E) (w : World) (hE : E w) :
    Calls Try.prog 7 #[] w fun e w' => e = .returned (.bool true) ∧ Below w.heap.size w w' := by
  have HK := Lib.hid K
  have h1 : RdU (w.alloc (.cells #[.int .u64 1, .int .u64 2] 26)) (.slice (some ⟨w.heap.size, 0, none⟩) 2 2) [1, 2] := rdU_new w rfl [1, 2] (by decide) _
  have h2 : RdU ((w.alloc (.cells #[.int .u64 1, .int .u64 2] 26)).alloc (.cells #[.int .u64 0, .int .u64 3, .int .u64 1] 26)) (.slice (some ⟨w.heap.size + 1, 0, none⟩) 3 3) [0, 3, 1] := rdU_new _ (by simp) [0, 3, 1] (by decide) _
  have hb0 := below2 w (.cells #[.int .u64 1, .int .u64 2] 26) (.cells #[.int .u64 0, .int .u64 3, .int .u64 1] 26)
  have HR1 := Lib.hid (h1.below (below_alloc _ (.cells #[.int .u64 0, .int .u64 3, .int .u64 1] 26)))
  have HR2 := Lib.hid h2
  have HE := Lib.hid (K.keep hE hb0)
  have HF1 : Hid (FitC [1, 2]) := Lib.hid ⟨by decide, by decide⟩
  have HF2 : Hid (FitC [0, 3, 1]) := Lib.hid ⟨by decide, by decide⟩
  have his := fun v W h => is_any _ exF v join_ex_len rfl W h
  rw [join_ex] at his
  rw [exF_lit] at his
  have HIS := Lib.hid his
  have hap := fun w2 he h3 h4 => K.apart _ _ (.slice (some ⟨w.heap.size, 0, none⟩) 2 2) (.slice (some ⟨w.heap.size + 1, 0, none⟩) 3 3) w2 he HF1.out HF2.out h3 h4
  rw [apart_ex] at hap
  have HAP := Lib.hid hap
  clear h1 h2 hE K his hap
  go_enter Try.func7, Try.ntmps7
  go_wp2_with (first
    | (go_at_call 11; (with_reducible refine (HK.out.join _ _ _ _ _ HE.out HF1.out HF2.out HR1.out HR2.out).mono ?_); rintro e w1 ⟨v1, rfl, hr1, hb1⟩; have HRJ := Lib.hid hr1; clear hr1)
    | (go_at_call 10; (with_reducible refine (HIS.out _ _ HRJ.out).mono ?_); rintro e w2 ⟨rfl, hb2⟩; have hx2 := hb1.trans (hb2.mono hb1.size))
    | (go_at_call 17; (with_reducible refine (HAP.out _ (HK.out.keep HE.out hx2) (HR1.out.below hx2) (HR2.out.below hx2)).mono ?_); rintro e w3 ⟨rfl, hb3⟩))
  go_ret
  exact ⟨rfl, hb0.trans ((hx2.trans (hb3.mono hx2.size)).mono hb0.size)⟩
end Go.Proofs.Ytepafmoohlognaa
