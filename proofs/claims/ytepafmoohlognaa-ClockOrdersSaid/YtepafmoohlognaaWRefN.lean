/-
The reference of stage 4: Num, by a contract.
-/
import Derived.Test.YtepafmoohlognaaBRead
import Derived.Test.YtepafmoohlognaaWMath
namespace Go.Proofs.Ytepafmoohlognaa
open Go.RowKit
open Wire (numL valL takeL runL bytesL)

set_option maxRecDepth 20000 in
set_option maxHeartbeats 1000000 in
/-- ref.Num. -/
theorem rnum_any (n : Nat) (hn : n < 18446744073709551616) (w : World) :
    Calls Try.prog 39 #[.int .u64 (n : Int)] w fun e w' => ∃ v', e = .returned v' ∧ Own w.heap.size w' v' (numL n) ∧ Below w.heap.size w w' := by
  have hlen := Wire.numL_length_10 hn
  have HL := Lib.hid hlen; clear hlen
  go_enter Try.func39, Try.ntmps39
  go_wp2
  go_loopw [0, 3] (fun a v wr => ∃ (m : Nat) (ds : List Nat), m ≤ n ∧ a = .int .u64 (m : Int) ∧ Own w.heap.size wr v ds ∧ Below w.heap.size w wr ∧ Hid (ds ++ numL m = numL n))
    (fun a _ _ => (intOf a).toNat)
  case atStart => exact ⟨n, [], Nat.le_refl _, rfl, Own.nil _ _, Below.refl _ _, rfl⟩
  case round =>
    obtain ⟨m, ds, hm, rfl, hown, hbel, HD⟩ := hrel
    have hdl : ds.length + 1 ≤ 11 := by
      have h1 := HD.out
      have h2 := HL.out
      rw [← h1, List.length_append] at h2
      omega
    by_cases hbig : m < 128
    · have he : ds ++ [m] = numL n := by rw [← HD.out, Wire.numL_small hbig]
      have HE := Lib.hid he
      clear he HD
      go_wp2_with (at_builtin; refine wp_app1 rfl _ _ rfl w.heap.size _ ds rfl hown _ m rfl rfl (by omega) hbel.size ?_; intro v1 w1 hown1 hbel1 hsz1)
      go_ret
      exact ⟨_, rfl, by rw [← HE.out]; exact hown1, hbel.trans hbel1⟩
    · have he : (ds ++ [m % 128 + 128]) ++ numL (m / 128) = numL n := by rw [← HD.out, Wire.numL_big hbig, List.append_assoc]; rfl
      have HE := Lib.hid he
      clear he HD
      go_wp2_with (at_builtin; refine wp_app1 rfl _ _ rfl w.heap.size _ ds rfl hown _ (m % 128 + 128) (by omega) rfl (by omega) hbel.size ?_; intro v1 w1 hown1 hbel1 hsz1)
      go_roundw
      case rel => exact ⟨m / 128, _, by omega, by go_num, hown1, hbel.trans hbel1, HE⟩
      case measure => simp [intOf]; omega
end Go.Proofs.Ytepafmoohlognaa
