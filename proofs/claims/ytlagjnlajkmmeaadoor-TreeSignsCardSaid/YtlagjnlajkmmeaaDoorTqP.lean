/-
Package tree's own text: the printer's write, by contracts (a call; a deferred call); the state that a node's walk keeps.
-/
import Derived.Test.YtlagjnlajkmmeaaDoorTqD
import Derived.Test.YtlagjnlajkmmeaaDoorTqS
import Derived.Test.YtlagjnlajkmmeaaDoorTrPrM
import Derived.Test.YtlagjnlajkmmeaaDoorOneB
import Derived.Defers
namespace Go.Proofs.YtlagjnlajkmmeaaDoor
open Go.RowKit

abbrev tPr : TypeId := 61
theorem liesPr : liesAt Tryd.prog Tryd.prog.depth tPr (3 / Tryd.prog.cellsOf tPr) 0 59 1 = true := by kernel_rfl
abbrev rowS (ls : List (List UInt8)) : Obj := .cells (ls.map fun s => Value.string ⟨s.toArray⟩).toArray 9
abbrev lim : Nat := 140737488355328

set_option maxRecDepth 20000 in
set_option maxHeartbeats 4000000 in
theorem pw_any (ls : List (List UInt8)) (n : Nat) (hn : n = ls.length) (hls : n ≤ 1000) (B r g : Nat) (nm : Value) (bs : List UInt8) (w : World) (h : Pr tPr B r nm bs w) (hg : w.heap[g]? = some (rowS ls)) (hlen : bs.length + ls.flatten.length ≤ lim) :
    Calls Tryd.prog 38 #[.pointer (some ⟨r, 0, none⟩), .slice (some ⟨g, 0, none⟩) n n] w fun e w' => e = .returned (.tuple #[]) ∧ Pr tPr B r nm (bs ++ ls.flatten) w' ∧ Fr B r w w' := by
  have hgr := h.ne hg (by decide)
  have HG := Lib.hid hg
  have HP := Lib.hid h
  have HN := Lib.hid hn
  have HLEN := Lib.hid hlen
  clear hg h hn hlen
  go_enter Tryd.func38, Tryd.ntmps38
  go_wp2_with fail
  go_loopw [8] (fun a wr => ∃ i : Nat, i ≤ n ∧ a = .int .i64 (i : Int) ∧ Hid (Pr tPr B r nm (bs ++ (ls.take i).flatten) wr) ∧ Hid (Fr B r w wr)) (fun a _ => n - (intOf a).toNat)
  case atStart => exact ⟨0, Nat.zero_le _, rfl, Lib.hid (by simpa using HP.out), Lib.hid (Fr.refl _ _ _)⟩
  case round =>
    obtain ⟨i, hi, rfl, HPI, HFI⟩ := hrel
    by_cases hlt : i < n
    · obtain ⟨s, hs⟩ : ∃ s, ls[i]? = some s := ⟨_, List.getElem?_eq_getElem (by rw [← HN.out]; exact hlt)⟩
      have hg2 := HFI.out.heap HG.out hgr (by decide)
      have c0 : wr.cell? ⟨g, i, none⟩ = some (.string ⟨s.toArray⟩) := by
        rw [cell_of_row _ _ _ _ _ _ hg2, List.getElem?_toArray, List.getElem?_map, hs]; rfl
      have hts : (ls.take (i + 1)).flatten = (ls.take i).flatten ++ s := by rw [List.take_add_one, hs]; simp
      have hl2 : (bs ++ (ls.take i).flatten).length + s.length ≤ lim := by
        have h1 := HLEN.out
        have h2 : ls.flatten = (ls.take (i + 1)).flatten ++ (ls.drop (i + 1)).flatten := by rw [← List.flatten_append, List.take_append_drop]
        rw [h2, hts] at h1
        simp only [List.length_append] at h1 ⊢
        omega
      have HC := Lib.hid (ws_any liesPr wr HPI.out s hl2)
      have HTS := Lib.hid (show bs ++ (ls.take i).flatten ++ s = bs ++ (ls.take (i + 1)).flatten from by rw [hts, List.append_assoc])
      clear hs hg2 hts hl2
      generalize (⟨s.toArray⟩ : ByteArray) = sb at *
      go_wp2_with fail
      go_at_call 51
      with_reducible refine (HC.out).mono ?_
      rintro e w2 ⟨rfl, hp2, hf2⟩
      rw [HTS.out] at hp2
      have HP2 := Lib.hid hp2
      have HF2 := Lib.hid (HFI.out.trans hf2)
      clear hp2 hf2
      go_wp2_with fail
      go_roundw
      case rel => exact ⟨i + 1, by omega, by go_num, HP2, HF2⟩
      case measure => simp [intOf]; omega
    · obtain rfl : i = n := by omega
      have hp := HPI.out
      rw [HN.out, List.take_length] at hp
      have hf := HFI.out
      clear HPI HFI HN HLEN HG HP
      go_wp2_with fail
      go_end0
      exact ⟨rfl, hp, hf⟩

set_option maxRecDepth 20000 in
set_option maxHeartbeats 4000000 in
theorem pwd_any (ls : List (List UInt8)) (n : Nat) (hn : n = ls.length) (hls : n ≤ 1000) (B r g : Nat) (nm : Value) (bs : List UInt8) (w : World) (h : Pr tPr B r nm bs w) (hg : w.heap[g]? = some (rowS ls)) (hlen : bs.length + ls.flatten.length ≤ lim) :
    CallsD Tryd.prog 38 #[.pointer (some ⟨r, 0, none⟩), .slice (some ⟨g, 0, none⟩) n n] .returning w fun e u' w' => u' = .returning ∧ (e = .returned (.tuple #[]) ∧ Pr tPr B r nm (bs ++ ls.flatten) w' ∧ Fr B r w w') := by
  have hgr := h.ne hg (by decide)
  have HG := Lib.hid hg
  have HP := Lib.hid h
  have HN := Lib.hid hn
  have HLEN := Lib.hid hlen
  clear hg h hn hlen
  go_enter_d Tryd.func38, Tryd.ntmps38
  go_wp2_with fail
  go_loopw [8] (fun a wr => ∃ i : Nat, i ≤ n ∧ a = .int .i64 (i : Int) ∧ Hid (Pr tPr B r nm (bs ++ (ls.take i).flatten) wr) ∧ Hid (Fr B r w wr)) (fun a _ => n - (intOf a).toNat)
  case atStart => exact ⟨0, Nat.zero_le _, rfl, Lib.hid (by simpa using HP.out), Lib.hid (Fr.refl _ _ _)⟩
  case round =>
    obtain ⟨i, hi, rfl, HPI, HFI⟩ := hrel
    by_cases hlt : i < n
    · obtain ⟨s, hs⟩ : ∃ s, ls[i]? = some s := ⟨_, List.getElem?_eq_getElem (by rw [← HN.out]; exact hlt)⟩
      have hg2 := HFI.out.heap HG.out hgr (by decide)
      have c0 : wr.cell? ⟨g, i, none⟩ = some (.string ⟨s.toArray⟩) := by
        rw [cell_of_row _ _ _ _ _ _ hg2, List.getElem?_toArray, List.getElem?_map, hs]; rfl
      have hts : (ls.take (i + 1)).flatten = (ls.take i).flatten ++ s := by rw [List.take_add_one, hs]; simp
      have hl2 : (bs ++ (ls.take i).flatten).length + s.length ≤ lim := by
        have h1 := HLEN.out
        have h2 : ls.flatten = (ls.take (i + 1)).flatten ++ (ls.drop (i + 1)).flatten := by rw [← List.flatten_append, List.take_append_drop]
        rw [h2, hts] at h1
        simp only [List.length_append] at h1 ⊢
        omega
      have HC := Lib.hid (ws_any liesPr wr HPI.out s hl2)
      have HTS := Lib.hid (show bs ++ (ls.take i).flatten ++ s = bs ++ (ls.take (i + 1)).flatten from by rw [hts, List.append_assoc])
      clear hs hg2 hts hl2
      generalize (⟨s.toArray⟩ : ByteArray) = sb at *
      go_wp2_with fail
      go_at_call 51
      with_reducible refine (HC.out).mono ?_
      rintro e w2 ⟨rfl, hp2, hf2⟩
      rw [HTS.out] at hp2
      have HP2 := Lib.hid hp2
      have HF2 := Lib.hid (HFI.out.trans hf2)
      clear hp2 hf2
      go_wp2_with fail
      go_roundw
      case rel => exact ⟨i + 1, by omega, by go_num, HP2, HF2⟩
      case measure => simp [intOf]; omega
    · obtain rfl : i = n := by omega
      have hp := HPI.out
      rw [HN.out, List.take_length] at hp
      have hf := HFI.out
      clear HPI HFI HN HLEN HG HP
      go_wp2_with fail
      go_end0
      exact ⟨rfl, hp, hf⟩

/-- Behind the call's start (world w) the Builder holds bs, and block g is as it was laid. -/
structure NSt (B r g : Nat) (o : Obj) (nm : Value) (w : World) (bs : List UInt8) (wi : World) : Prop where
  pr : Pr tPr B r nm bs wi
  fr : Fr B r w wi
  bx : wi.heap[g]? = some o
theorem NSt.below {B r g : Nat} {o : Obj} {nm : Value} {w wi wj : World} {bs : List UInt8} (h : NSt B r g o nm w bs wi) (hb : Below wi.heap.size wi wj) : NSt B r g o nm w bs wj :=
  ⟨h.pr.keep hb, h.fr.trans (Fr.of hb h.pr.base), (hb.block g (Array.getElem?_eq_some_iff.1 h.bx).1).trans h.bx⟩
theorem NSt.step {B r g : Nat} {cs : Array Value} {nm : Value} {w wi wj : World} {bs bs' : List UInt8} (h : NSt B r g (.cells cs 36) nm w bs wi) (hp : Pr tPr B r nm bs' wj) (hf : Fr B r wi wj) : NSt B r g (.cells cs 36) nm w bs' wj :=
  ⟨hp, h.fr.trans hf, hf.heap h.bx (h.pr.ne h.bx (by decide)) (by decide)⟩
theorem NSt.row {B r g : Nat} {o : Obj} {nm : Value} {w wi : World} {bs : List UInt8} (h : NSt B r g o nm w bs wi) (x : Obj) : NSt B r g o nm w bs (wi.alloc x) ∧ (wi.alloc x).heap[wi.heap.size]? = some x :=
  ⟨h.below (below_alloc _ _), heap_new rfl⟩
end Go.Proofs.YtlagjnlajkmmeaaDoor
