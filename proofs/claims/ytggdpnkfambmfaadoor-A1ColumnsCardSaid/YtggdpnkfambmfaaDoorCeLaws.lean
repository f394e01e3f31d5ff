/-
The laws of stage 7, as the cards ask them.
-/
import Derived.Test.YtggdpnkfambmfaaDoorCeLawA
import Derived.Test.YtggdpnkfambmfaaDoorCeRects
import Derived.Test.YtggdpnkfambmfaaDoorCeOpen
namespace Go.Proofs.YtggdpnkfambmfaaDoor
open Go.RowKit

theorem law_columns {E : World → Prop} (K : A1Ok E) (n : Int) (s : ByteArray) (w : World) (hn : I64 n) (hs : s.size ≤ maxLen) (hE : E w) :
    Calls Tryd.prog 3 #[.int .i64 n, .string s] w fun e w' => e = .returned (.bool true) ∧ Below w.heap.size w w' :=
  columns_any K n s hn (by unfold maxLen at hs; omega) w hE
theorem law_cells {E : World → Prop} (K : A1Ok E) (c r : Int) (s : ByteArray) (w : World) (h : I64 c ∧ I64 r) (hs : s.size ≤ maxLen) (hE : E w) :
    Calls Tryd.prog 4 #[cellV c r, .string s] w fun e w' => e = .returned (.bool true) ∧ Below w.heap.size w w' :=
  cells_any K c r s h.1 h.2 (by unfold maxLen at hs; omega) w hE
theorem law_rects {E : World → Prop} (K : A1Ok E) (a b c d x y : Int) (w : World) (h : (I64 a ∧ I64 b) ∧ I64 c ∧ I64 d) (k : I64 x ∧ I64 y) (hE : E w) :
    Calls Tryd.prog 5 #[rectV a b c d, cellV x y] w fun e w' => e = .returned (.bool true) ∧ Below w.heap.size w w' :=
  rects_any K a b c d x y h.1.1 h.1.2 h.2.1 h.2.2 k.1 k.2 w hE
theorem law_apart {E : World → Prop} (K : A1Ok E) (a b c d : Int) (w : World) (h : I64 a ∧ I64 b) (k : I64 c ∧ I64 d) (hE : E w) :
    Calls Tryd.prog 6 #[cellV a b, cellV c d] w fun e w' => e = .returned (.bool true) ∧ Below w.heap.size w w' :=
  apart_any K a b c d h.1 h.2 k.1 k.2 w hE
end Go.Proofs.YtggdpnkfambmfaaDoor
