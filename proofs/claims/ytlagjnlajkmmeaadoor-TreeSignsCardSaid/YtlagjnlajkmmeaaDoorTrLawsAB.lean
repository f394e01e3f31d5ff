/-
The laws TreeSigns and TreeRight as the cards call them.
-/
import Derived.Test.YtlagjnlajkmmeaaDoorTrOpen
import Derived.Test.YtlagjnlajkmmeaaDoorTrLawA
import Derived.Test.YtlagjnlajkmmeaaDoorTrLawB
namespace Go.Proofs.YtlagjnlajkmmeaaDoor
open Go.RowKit

theorem i64_of {x : Int} (wx : (Lit.int .i64 x).wf = true) : In64 x := in64_of wx
theorem law_signs {E : World → Prop} {M : Nat} (K : TreeOk E M) (hM : 1 ≤ M) (k : Int) (s : ByteArray) (w : World) (hk : In64 k) (hs : s.size ≤ maxLen) (hE : E w) :
    Calls Tryd.prog 3 #[.int .i64 k, .string s] w fun e w' => e = .returned (.bool true) ∧ Below w.heap.size w w' :=
  signs_law K hM k hk s.data.toList (by rw [Array.length_toList]; exact hs) w hE
theorem law_right {E : World → Prop} {M : Nat} (K : TreeOk E M) (KS : TreeSm E) (hM : 1 ≤ M) (x : Tr) (v : Value) (y : Tr) (u : Value) (w : World) (hv : RdN AnyB w x v) (hu : RdN AnyB w y u) (hE : E w) :
    Calls Tryd.prog 4 #[v, u] w fun e w' => e = .returned (.bool true) ∧ Below w.heap.size w w' :=
  right_law K KS hM x y v u w hv hu hE
end Go.Proofs.YtlagjnlajkmmeaaDoor
