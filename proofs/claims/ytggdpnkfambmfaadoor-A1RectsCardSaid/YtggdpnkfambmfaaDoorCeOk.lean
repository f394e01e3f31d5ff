/-
What the laws of stage 7 ask of package a1; the chapter's examples, and the law A1Columns, over it.
-/
import Derived.Test.YtggdpnkfambmfaaDoorCeParse
namespace Go.Proofs.YtggdpnkfambmfaaDoor
open Go.RowKit Go.Proofs.YtggdpnkfambmfaaDoor.Dig

def cellV (c r : Int) : Value := .agg #[.int .i64 c, .int .i64 r]
def rectV (a b c d : Int) : Value := .agg #[.int .i64 a, .int .i64 b, .int .i64 c, .int .i64 d]
def parseTC : Option (Nat × Nat) → Value
  | some (c, r) => .tuple #[cellV c r, .int .i64 0]
  | none => .tuple #[cellV 0 0, .int .i64 20]
abbrev I64 (x : Int) : Prop := -9223372036854775808 ≤ x ∧ x ≤ 9223372036854775807
/-- A rectangle's name. -/
def rectL (a b c d : Int) : List UInt8 := if rightC a b = true ∧ rightC c d = true then textC a b ++ 58 :: textC c d else []
def hasB (a b c d x y : Int) : Bool := decide ((min a c ≤ x ∧ x ≤ max a c) ∧ min b d ≤ y ∧ y ≤ max b d)

/-- E: what the world holds (tables of the library). -/
structure A1Ok (E : World → Prop) : Prop where
  keep : ∀ {w w'}, E w → Below w.heap.size w w' → E w'
  col : ∀ n w, E w → I64 n → Calls Tryd.prog 8 #[.int .i64 n] w fun e w' => e = .returned (.string ⟨(colL n).toArray⟩) ∧ Below w.heap.size w w'
  column : ∀ (l : List UInt8) w, E w → l.length ≤ 20 → Calls Tryd.prog 10 #[.string ⟨l.toArray⟩] w fun e w' => e = .returned (.int .i64 (colV l : Nat)) ∧ Below w.heap.size w w'
  parse : ∀ (l : List UInt8) w, E w → l.length ≤ 20 → Calls Tryd.prog 12 #[.string ⟨l.toArray⟩] w fun e w' => e = .returned (parseTC (parseC l)) ∧ Below w.heap.size w w'
  right : ∀ c r w, E w → I64 c → I64 r → Calls Tryd.prog 15 #[cellV c r] w fun e w' => e = .returned (.bool (rightC c r)) ∧ Below w.heap.size w w'
  text : ∀ c r w, E w → I64 c → I64 r → Calls Tryd.prog 14 #[cellV c r] w fun e w' => e = .returned (.string ⟨(textC c r).toArray⟩) ∧ Below w.heap.size w w'
  ordered : ∀ a b c d w, E w → I64 a → I64 b → I64 c → I64 d → Calls Tryd.prog 18 #[rectV a b c d] w fun e w' => e = .returned (rectV (min a c) (min b d) (max a c) (max b d)) ∧ Below w.heap.size w w'
  has : ∀ a b c d x y w, E w → I64 a → I64 b → I64 c → I64 d → I64 x → I64 y → Calls Tryd.prog 20 #[rectV a b c d, cellV x y] w fun e w' => e = .returned (.bool (hasB a b c d x y)) ∧ Below w.heap.size w w'
  rtext : ∀ a b c d w, E w → I64 a → I64 b → I64 c → I64 d → Calls Tryd.prog 21 #[rectV a b c d] w fun e w' => e = .returned (.string ⟨(rectL a b c d).toArray⟩) ∧ Below w.heap.size w w'

theorem box_newC (w : World) {g : Nat} (hg : g = w.heap.size) (c r : Int) (T : TypeId) : (w.alloc (.cells #[.int .i64 c, .int .i64 r] T)).cell? ⟨g, 0, none⟩ = some (.int .i64 c) ∧ (w.alloc (.cells #[.int .i64 c, .int .i64 r] T)).cell? ⟨g, 1, none⟩ = some (.int .i64 r) := by
  have h1 : (w.alloc (.cells #[.int .i64 c, .int .i64 r] T)).heap[g]? = some (.cells #[.int .i64 c, .int .i64 r] T (0, 0)) := heap_new hg
  exact ⟨by rw [cell_of_row _ _ 0 _ _ _ h1]; rfl, by rw [cell_of_row _ _ 1 _ _ _ h1]; rfl⟩
theorem box_keepC {w w' : World} {g : Nat} {x y : Value} (h : w.cell? ⟨g, 0, none⟩ = some x ∧ w.cell? ⟨g, 1, none⟩ = some y) (hb : Below w.heap.size w w') : w'.cell? ⟨g, 0, none⟩ = some x ∧ w'.cell? ⟨g, 1, none⟩ = some y :=
  ⟨by rw [bcell hb _ _ (World.block_lt_of_cell? _ _ h.1)]; exact h.1, by rw [bcell hb _ _ (World.block_lt_of_cell? _ _ h.1)]; exact h.2⟩
theorem parse_B12 : parseC [66, 49, 50] = some (2, 12) := by decide +kernel
theorem col_27 : colL 27 = [65, 65] := by decide +kernel
set_option maxRecDepth 20000 in
theorem awakeC {E : World → Prop} (K : A1Ok E) (w : World) (hE : E w) :
    Calls Tryd.prog 7 #[] w fun e w' => e = .returned (.bool true) ∧ Below w.heap.size w w' := by
  have hp := K.parse [66, 49, 50] w hE (by decide)
  rw [parse_B12] at hp
  have hc := fun W hW => K.col 27 W hW (by omega)
  rw [col_27] at hc
  have HKEEP := Lib.hid (fun w w' (h : E w) hb => K.keep (w' := w') h hb)
  have HE := Lib.hid hE
  simp only [parseTC, cellV] at hp
  have HP := Lib.hid hp
  have HC := Lib.hid hc
  clear hp hc hE K
  go_enter Tryd.func7, Tryd.ntmps7
  go_wp2_with (first
    | (go_at_call 12; (with_reducible refine HP.out.mono ?_); rintro e w1 ⟨rfl, hb1⟩; have HB1 := Lib.hid hb1; clear hb1)
    | (go_at_call 8; go_must (refine (HC.out _ (HKEEP.out _ _ HE.out (HB1.out.trans ((below_alloc w1 _).mono HB1.out.size)))).mono ?_); rintro e w2 ⟨rfl, hb2⟩; have HB2 := Lib.hid hb2; have hcell := box_keepC (box_newC w1 rfl 2 12 _) hb2; (obtain ⟨p0, p1⟩ := hcell); clear hb2))
  go_ret
  exact ⟨rfl, (HB1.out.trans ((below_alloc w1 _).mono HB1.out.size)).trans (HB2.out.mono (by have := HB1.out.size; simp; omega))⟩
end Go.Proofs.YtggdpnkfambmfaaDoor
