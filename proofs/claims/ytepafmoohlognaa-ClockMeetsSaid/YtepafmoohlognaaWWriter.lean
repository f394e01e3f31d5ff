/-
A Writer that is one slice of bytes behind a pointer: Num, by a contract.
-/
import Derived.Test.YtepafmoohlognaaBRead
import Derived.Test.YtepafmoohlognaaWMath
import Derived.Laws.BitsAllLaws
namespace Go.Proofs.Ytepafmoohlognaa
open Go.RowKit
open Wire (numL valL takeL runL bytesL)

/-- Block g is a Writer that holds the bytes xs, in the slice v. -/
def Wr (B : Nat) (w : World) (g : Nat) (v : Value) (xs : List Nat) : Prop := B ≤ g ∧ w.heap[g]? = some (.cells #[v] 42 (0, 0)) ∧ Own B w v xs
theorem Wr.lt {B : Nat} {w : World} {g : Nat} {v : Value} {xs : List Nat} (h : Wr B w g v xs) : g < w.heap.size := (Array.getElem?_eq_some_iff.1 h.2.1).1
theorem Wr.cell {B : Nat} {w : World} {g : Nat} {v : Value} {xs : List Nat} (h : Wr B w g v xs) : w.cell? ⟨g, 0, none⟩ = some v := by rw [cell_of_row w g 0 _ _ _ h.2.1]; rfl
theorem Wr.frozen {B : Nat} {w : World} {g : Nat} {v : Value} {xs : List Nat} (h : Wr B w g v xs) : w.frozen? ⟨g, 0, none⟩ = false := by
  have := h.2.1
  simp [World.frozen?, this]
theorem Wr.row {B : Nat} {w : World} {g : Nat} {v : Value} {xs : List Nat} (h : Wr B w g v xs) : v.ownBlock ≠ some g := h.2.2.not_in h.2.1 (by decide)
/-- The Writer's slice has grown, and is stored. -/
theorem Wr.put {B : Nat} {w w' : World} {g : Nat} {v v' : Value} {xs ys : List Nat} (h : Wr B w g v xs) (ho : Own B w' v' ys) (hg : w.grownBy w' v.ownBlock) (hv : v'.ownBlock = v.ownBlock ∨ v'.ownBlock = some w.heap.size) :
    (w'.cell? ⟨g, 0, none⟩ = some v ∧ w'.frozen? ⟨g, 0, none⟩ = false) ∧ Wr B (w'.setCell ⟨g, 0, none⟩ v') g v' ys ∧ Kept g v v' w (w'.setCell ⟨g, 0, none⟩ v') := by
  have hb : w'.heap[g]? = some (.cells #[v] 42 (0, 0)) := (hg.block g h.lt (fun e => h.row e.symm)).trans h.2.1
  have hne : v'.ownBlock ≠ some g := by
    rcases hv with e | e
    · rw [e]; exact h.row
    · rw [e]; intro hh; injection hh with hh; have := h.lt; omega
  refine ⟨⟨by rw [cell_of_row w' g 0 _ _ _ hb]; rfl, by simp [World.frozen?, hb]⟩, ⟨h.1, ?_, ?_⟩, (Kept.grown hg hv).trans (Kept.set g v' w' 0 v')⟩
  · simp [World.setCell, Array.getElem?_modify, hb]
  · exact ((Kept.set g (.slice none 0 0) w' 0 v').own ho hne (fun k hk => by simp [Value.ownBlock] at hk)).1

theorem Wr.kept_alloc {B : Nat} {w : World} {g : Nat} {v : Value} {xs : List Nat} (h : Wr B w g v xs) (o : Obj) : Wr B (w.alloc o) g v xs :=
  ⟨h.1, (Below.heap_alloc w o g h.lt).trans h.2.1, World.ownsRow.alloc h.2.2 o⟩
theorem Wr.keep {B : Nat} {w w' : World} {g : Nat} {v : Value} {xs : List Nat} (h : Wr B w g v xs) (hb : Below w.heap.size w w') : Wr B w' g v xs :=
  ⟨h.1, (hb.block g h.lt).trans h.2.1, h.2.2.below hb⟩

theorem or128 : ∀ m, m < 256 → m ||| 128 = m % 128 + 128 := by decide +kernel

set_option maxRecDepth 20000 in
set_option maxHeartbeats 1000000 in
theorem wnum_any (B g : Nat) (v : Value) (xs : List Nat) (n : Nat) (hn : n < 18446744073709551616) (w : World) (h : Wr B w g v xs) (hl : xs.length ≤ 900000) (hB : B ≤ w.heap.size) :
    Calls Try.prog 33 #[.pointer (some ⟨g, 0, none⟩), .int .u64 (n : Int)] w fun e w' => ∃ v', e = .returned (.pointer (some ⟨g, 0, none⟩)) ∧ Wr B w' g v' (xs ++ numL n) ∧ Kept g v v' w w' := by
  have hlen := Wire.numL_length_10 hn
  have HL := Lib.hid hlen; clear hlen
  go_enter Try.func33, Try.ntmps33
  go_wp2
  go_loopw [1] (fun a wr => ∃ (m : Nat) (ds : List Nat) (u : Value), m ≤ n ∧ a = .int .u64 (m : Int) ∧ Wr B wr g u (xs ++ ds) ∧ Kept g v u w wr ∧ Hid (ds ++ numL m = numL n))
    (fun a _ => (intOf a).toNat)
  case atStart => exact ⟨n, [], v, Nat.le_refl _, rfl, by simpa using h, Kept.refl _ _ _, rfl⟩
  case round =>
    obtain ⟨m, ds, u, hm, rfl, hw, hk, HD⟩ := hrel
    have hdl : ds.length + 1 ≤ 11 := by
      have h1 := HD.out
      have h2 := HL.out
      rw [← h1, List.length_append] at h2
      omega
    have hBr : B ≤ wr.heap.size := Nat.le_trans hB hk.size
    have hcell := hw.cell
    by_cases hbig : m < 128
    · have he : (xs ++ ds) ++ [m] = xs ++ numL n := by rw [← HD.out, Wire.numL_small hbig, List.append_assoc]
      have HE := Lib.hid he
      have HW := Lib.hid hw
      clear he HD hw
      go_wp2_with (at_builtin; refine wp_appG rfl _ _ rfl B _ (xs ++ ds) rfl (HW.out.kept_alloc _).2.2 _ [m] rfl (rd_row [m] 1 rfl (by decide) (heap_new rfl) rfl) (by simp; omega) (by simp; omega) ?_; intro v1 w1 hown1 hg1 hv1; (obtain ⟨A1, n1, c1, rfl, hn1⟩ := hown1.rd.named); clear hn1; obtain ⟨⟨hc1, hf1⟩, hw1, hk1⟩ := (HW.out.kept_alloc _).put hown1 hg1 hv1; have HW1 := Lib.hid hw1; clear hw1)
      go_ret
      rw [HE.out] at HW1
      exact ⟨_, rfl, HW1.out, (hk.trans (Kept.alloc _ _ _ _)).trans hk1⟩
    · have hor : bits .or .u8 ((m : Int) % 256) 128 = ((m % 128 + 128 : Nat) : Int) := by
        rw [show ((m : Int) % 256) = ((m % 256 : Nat) : Int) from by omega, show (128 : Int) = ((128 : Nat) : Int) from rfl, u8_or_nat _ _ (by omega) (by omega), or128 _ (by omega)]
        congr 1; omega
      have he : ((xs ++ ds) ++ [m % 128 + 128]) = xs ++ (ds ++ [m % 128 + 128]) := by simp
      have he2 : (ds ++ [m % 128 + 128]) ++ numL (m / 128) = numL n := by rw [← HD.out, Wire.numL_big hbig, List.append_assoc]; rfl
      have HE := Lib.hid he
      have HE2 := Lib.hid he2
      have HW := Lib.hid hw
      generalize hq : m % 128 + 128 = q at hor HE HE2
      clear hq he he2 HD hw
      go_wp2_with (at_builtin; refine wp_appG rfl _ _ rfl B _ (xs ++ ds) rfl (HW.out.kept_alloc _).2.2 _ [q] rfl (rd_row [q] 1 rfl (by decide) (heap_new rfl) rfl) (by simp; omega) (by simp; omega) ?_; intro v1 w1 hown1 hg1 hv1; (obtain ⟨A1, n1, c1, rfl, hn1⟩ := hown1.rd.named); clear hn1; obtain ⟨⟨hc1, hf1⟩, hw1, hk1⟩ := (HW.out.kept_alloc _).put hown1 hg1 hv1; have HW1 := Lib.hid hw1; clear hw1)
      rw [HE.out] at HW1
      go_roundw
      case rel => exact ⟨m / 128, _, _, by omega, by go_num, HW1.out, (hk.trans (Kept.alloc _ _ _ _)).trans hk1, HE2⟩
      case measure => simp [intOf]; omega
end Go.Proofs.Ytepafmoohlognaa
