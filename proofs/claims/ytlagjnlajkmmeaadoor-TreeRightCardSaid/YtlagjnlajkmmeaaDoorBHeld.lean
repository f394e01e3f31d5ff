/-
A region that draws its order: behind a call more is known of the world. Of no function of the program.
-/
import Derived.Test.YtlagjnlajkmmeaaDoorRows
import Derived.WalkKit
import Derived.Below
import Derived.Deep.RegionHeld3
namespace Go.Proofs.YtlagjnlajkmmeaaDoor
open Go.RowKit
section
variable {P : Program} {ops : Array Oper} {Q : Exit → Act → World → Prop} {md : Region.Mode}
/-- The rest goes by a narrower condition. -/
theorem wpAnyH_strong {S S' : World → Prop} (hs : ∀ w, S' w → S w) : ∀ (fuel : Nat) (listed : Array Bool) (a : Act) (w : World), wpAnyH P md ops Q S' fuel listed a w → wpAnyH P md ops Q S fuel listed a w
  | 0, _, _, _, h => h
  | fuel + 1, _, _, _, h => ⟨h.1, fun i hi => wpOp_mono (fun a' w' h' => ⟨hs w' h'.1, wpAnyH_strong hs fuel _ a' w' h'.2⟩) (h.2 i hi)⟩
/-- From here on: what was there when W was the world is as it was. -/
theorem wpAnyH_from {w0 W : World} {B : Nat} (hb : Below B w0 W) (hB : B ≤ W.heap.size) {fuel : Nat} {listed : Array Bool} {a : Act} (h : Below W.heap.size W W → wpAnyH P md ops Q (fun w' => Below W.heap.size W w') fuel listed a W) : wpAnyH P md ops Q (fun w' => Below B w0 w') fuel listed a W :=
  wpAnyH_strong (fun _ k => hb.trans (k.mono hB)) _ _ _ _ (h (Below.refl _ _))
/-- The beginning. -/
theorem wp_region_below {id : Nat} {a : Act} {w : World} (hm : P.follows .mixedOrders = true)
    (h : Below w.heap.size w w.drew → wpAnyH P .any ops Q (fun w' => Below w.heap.size w w') ops.size (Array.replicate ops.size false) a w.drew) : (Code.region id ops true).wp P Q a w :=
  wp_region_held_drew (S := fun w' => Below w.heap.size w w') hm ((Below.refl _ w).drew) h
end
end Go.Proofs.YtlagjnlajkmmeaaDoor
