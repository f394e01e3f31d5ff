/-
The program's stamp.Sort, by a contract.
-/
import Derived.Test.YtfgopiopeidfmaaDoorTCompW
import Derived.Test.YtfgopiopeidfmaaDoorTCmp
import Derived.Test.YtfgopiopeidfmaaDoorShelf
import Derived.Shelf.SlSortCmp.WholeK
import Derived.Shelf.SlSortCmp.NoneTotal
namespace Go.Proofs.YtfgopiopeidfmaaDoor
open Go.RowKit Go.Sort Go.Lib

theorem cmpLaysI (blk off size : Nat) (w : World) : CmpLays Tryd.prog 8 #[] idC 2 cfI blk off size w :=
  fun _ _ _ _ x y => compare_grow x.1 x.2 y.1 y.2 _
theorem lt_of_cf : ltOf cfI = lessX := by
  funext x y
  exact lt_cfI x y
theorem holds_own {w : World} {g : Nat} {cur : Array Value} {T : TypeId} {l : List (Nat × Int)} (hh : w.heap[g]? = some (.cells cur T (0, 0))) (ht : cur.toList.take (l.length * 2) = l.flatMap idC) : HoldsK idC 2 w g 0 l.toArray := by
  intro t hts
  have hts' : t < l.length * 2 := by simpa using hts
  refine ⟨?_, by simp [World.frozen?, hh]⟩
  rw [get_flatK _ _ _ _ (by simpa using hts'), Nat.zero_add, cell_of_row w g t cur T (0, 0) hh]
  have hjl : t / 2 < l.length := by omega
  obtain ⟨e0, e1⟩ := flat_get l (t / 2) (l[t / 2]) (List.getElem?_eq_getElem hjl)
  have hc : cur[t]? = (l.flatMap idC)[t]? := by
    rw [← ht, List.getElem?_take, if_pos (by omega)]; simp
  have hx : l.toArray[t / 2]! = l[t / 2] := by rw [getElem!_pos l.toArray (t / 2) (by simpa using hjl)]; simp
  rw [hc, hx]
  rcases Nat.mod_two_eq_zero_or_one t with h | h
  · rw [h]; rw [show t / 2 * 2 = t from by omega] at e0
    rw [e0]; rfl
  · rw [h]; rw [show t / 2 * 2 + 1 = t from by omega] at e1
    rw [e1]; rfl
theorem own_cases {B : Nat} {w : World} {v : Value} {l : List (Nat × Int)} (h : OwnI B w v l) (hne : l ≠ []) :
    ∃ g cap, v = .slice (some ⟨g, 0, none⟩) l.toArray.size cap ∧ B ≤ g ∧ g < w.heap.size ∧ l.toArray.size ≤ cap ∧ cap ≤ maxLen ∧ HoldsK idC 2 w g 0 l.toArray := by
  rcases h.2 with ⟨hv, hn⟩ | ⟨g, cap, cur, hv, hB, hh, hnc, hm, hs, ht⟩
  · exact absurd (List.eq_nil_of_length_eq_zero hn) hne
  · exact ⟨g, cap, by simpa using hv, hB, (Array.getElem?_eq_some_iff.1 hh).1, by simpa using hnc, hm, holds_own hh ht⟩
theorem own_nil {B : Nat} {w : World} {v : Value} (h : OwnI B w v []) : ∃ p c, v = .slice p 0 c ∧ (p = none → c = 0) := by
  rcases h.2 with ⟨hv, hn⟩ | ⟨g, cap, cur, hv, _⟩
  · exact ⟨none, 0, hv, fun _ => rfl⟩
  · exact ⟨_, cap, hv, fun e => by cases e⟩
theorem below_sorted {B g n : Nat} {w : World} {d' : Array (Nat × Int)} {os : Array Obj} (hB : B ≤ g) (hB2 : B ≤ w.heap.size) : Go.RowKit.Below B w (sortWorldK idC 2 w g 0 n d' os) := by
  have h1 := below_putRow w n g 0 (flatK idC 2 d') hB hB2
  refine h1.trans ?_
  refine ⟨rfl, rfl, rfl, ?_, fun i hi => ?_⟩
  · show _ ≤ (_ ++ os).size
    simp [putRowK]
  · show (_ ++ os)[i]? = _
    rw [Array.getElem?_append_left (by rw [putRowK, size_putRow]; show i < w.heap.size; omega)]
    rfl
theorem holds_sorted {g n : Nat} {w : World} {d d' : Array (Nat × Int)} {os : Array Obj} (h : HoldsK idC 2 w g 0 d) (hg : g < w.heap.size) (hs : d'.size = d.size) : HoldsK idC 2 (sortWorldK idC 2 w g 0 n d' os) g 0 d' :=
  holdsK_grow idC 2 _ os g 0 d' (by rw [putRowK, size_putRow]; exact hg) (holdsK_putRowK idC 2 _ g 0 d d' (holdsK_ahead idC 2 w n g 0 d h) hs)
theorem size_sorted {g n : Nat} {w : World} {d' : Array (Nat × Int)} {os : Array Obj} : w.heap.size ≤ (sortWorldK idC 2 w g 0 n d' os).heap.size := by
  show _ ≤ (_ ++ os).size
  simp [putRowK]

set_option maxRecDepth 20000 in
theorem sort_nil (n c : Nat) (A : Option Addr) (w : World) (hn : n = 0) (h : RdI w (.slice A n c) []) :
    Calls Tryd.prog 15 #[.slice A n c] w fun e w' => ∃ v', e = .returned v' ∧ RdI w' v' [] ∧ Go.RowKit.Below w.heap.size w w' := by
  subst hn
  have hcl := cloneI_any _ [] w h (by simp)
  have hso := fun p cap W => AnyF.slices_SortFunc_none Tryd.laysSort p cap (.func (.func 8) #[] #[]) W
  change ∀ p cap W, Calls Tryd.prog 34 _ _ _ at hso
  have HCL := Lib.hid hcl
  clear hcl h
  go_enter Tryd.func15, Tryd.ntmps15
  go_wp2_with (first
    | (go_at_call 33; (with_reducible refine (HCL.out).mono ?_); rintro e w1 ⟨v1, rfl, hown1, hb1⟩; (obtain ⟨p, cc, rfl, hpc⟩ := own_nil hown1); have HPC := Lib.hid hpc; clear hown1 hpc)
    | (go_at_call 34; go_must (refine (hso _ _ _).mono ?_); rintro e w2 ⟨rfl, rfl⟩)
    | (go_at_call 35; (with_reducible refine (compact_nil _ _ _).mono ?_); rintro e w3 ⟨rfl, rfl⟩))
  go_ret
  exact ⟨_, rfl, .inl ⟨p, cc, rfl, rfl, HPC.out⟩, hb1⟩

theorem after_sort {B g cap nn : Nat} {w1 w2 : World} {os : Array Obj} {l : List (Nat × Int)} {d' : Array (Nat × Int)} (ho : B ≤ g ∧ g < w1.heap.size ∧ l.toArray.size ≤ cap ∧ cap ≤ maxLen ∧ HoldsK idC 2 w1 g 0 l.toArray) (hB1 : B ≤ w1.heap.size)
    (hp : PermIn 0 l.toArray.size l.toArray d') (hs : SortedIn (ltOf cfI) 0 l.toArray.size d') (hw2 : w2 = sortWorldK idC 2 w1 g 0 nn d' os) (hl : l.toArray.size ≤ 100000) :
    Calls Tryd.prog 35 #[.slice (some ⟨g, 0, none⟩) l.toArray.size cap] w2 fun e w' => ∃ v', e = .returned v' ∧ RdI w' v' (sortedI l) ∧ Go.RowKit.Below B w1 w' := by
  obtain ⟨hB, hg, hcap, hm, hH⟩ := ho
  have hz : d'.size = l.toArray.size := hp.1
  rw [lt_of_cf] at hs
  have e := compact_sorted hp hs
  have hH2 : HoldsK idC 2 w2 g 0 d' := by rw [hw2]; exact holds_sorted hH hg hz
  have hg2 : g < w2.heap.size := by rw [hw2]; exact Nat.lt_of_lt_of_le hg size_sorted
  have hb : Go.RowKit.Below B w1 w2 := by rw [hw2]; exact below_sorted hB hB1
  have hc := compact_any B g 0 cap d' w2 hH2 hg2 (by omega) (by omega) hm hB
  rw [e, hz] at hc
  exact hc.mono fun e w' ⟨v', h1, h2, h3⟩ => ⟨v', h1, h2, hb.trans h3⟩

set_option maxRecDepth 20000 in
theorem sort_some (l : List (Nat × Int)) (n c : Nat) (A : Option Addr) (w : World) (hl : l.length ≤ 200) (hne : l ≠ []) (h : RdI w (.slice A n c) l) :
    Calls Tryd.prog 15 #[.slice A n c] w fun e w' => ∃ v', e = .returned v' ∧ RdI w' v' (sortedI l) ∧ Go.RowKit.Below w.heap.size w w' := by
  have hcl := cloneI_any _ l w h (by omega)
  have hso := fun g cap W (hH : HoldsK idC 2 W g 0 l.toArray) (hg : g < W.heap.size) => AnyQ.slices_SortFunc Tryd.laysSort 2 Tryd.isAgg24 Tryd.sizeOf24 idC (fun _ => rfl) (fun x v hv => by simp [idC] at hv; rcases hv with rfl | rfl <;> rfl) cfI (by rw [lt_of_cf]; exact swoI) 8 #[] g 0 cap l.toArray W
    (enters_of Tryd.func8 (by kernel_rfl) rfl) (cmpLaysI g 0 _ W) hH hg (by simp; omega)
  change ∀ g cap W hH hg, Calls Tryd.prog 34 _ _ _ at hso
  have HCL := Lib.hid hcl
  have HSO := Lib.hid hso
  have HL := Lib.hid (show l.toArray.size ≤ 100000 by simp; omega)
  have HNE := Lib.hid hne
  clear hcl h hso hne hl
  have hcp := fun (B g cap nn : Nat) (w1 w2 : World) (os : Array Obj) (d' : Array (Nat × Int)) ho hB1 hp hs hw2 => after_sort (B := B) (g := g) (cap := cap) (nn := nn) (w1 := w1) (w2 := w2) (os := os) (l := l) (d' := d') ho hB1 hp hs hw2 HL.out
  have HCP := Lib.hid hcp
  clear hcp
  generalize hsz : l.toArray.size = sz at *
  have HSZ := Lib.hid hsz
  clear hsz
  go_enter Tryd.func15, Tryd.ntmps15
  go_wp2_with (first
    | (go_at_call 33; (with_reducible refine (HCL.out).mono ?_); rintro e w1 ⟨v1, rfl, hown1, hb1⟩; (obtain ⟨g, cap, rfl, hB, hg, hcap, hm, hH⟩ := own_cases hown1 HNE.out); have HB1 := Lib.hid hb1; have HO := Lib.hid (⟨hB, hg, hcap, hm, hH⟩ : _ ∧ _ ∧ _ ∧ _ ∧ _); clear hown1 hb1 hB hg hcap hm hH; rw [HSZ.out])
    | (go_at_call 34; go_must (refine (HSO.out g cap w1 HO.out.2.2.2.2 HO.out.2.1).mono ?_); rintro e w2 ⟨rfl, d', nn, os, hp, hs, hw2⟩; have HP := Lib.hid hp; have HS := Lib.hid hs; have HW2 := Lib.hid hw2; clear hp hs hw2))
  go_at_call 35
  have hc := HCP.out w.heap.size g cap nn w1 w2 os d' (by have hho := HO.out; rw [HSZ.out] at hho; exact hho) HB1.out.size HP.out HS.out HW2.out
  with_reducible refine hc.mono ?_
  rintro e w3 ⟨v3, rfl, hr3, hb3⟩
  clear hc
  go_wp2
  go_ret
  exact ⟨_, rfl, hr3, HB1.out.trans hb3⟩
theorem sort_any (l : List (Nat × Int)) (n c : Nat) (A : Option Addr) (w : World) (hn : n = l.length) (hl : n ≤ 200) (h : RdI w (.slice A n c) l) :
    Calls Tryd.prog 15 #[.slice A n c] w fun e w' => ∃ v', e = .returned v' ∧ RdI w' v' (sortedI l) ∧ Go.RowKit.Below w.heap.size w w' := by
  by_cases hne : l = []
  · subst hne
    exact sort_nil n c A w (by simpa using hn) h
  · exact sort_some l n c A w (by omega) hne h
end Go.Proofs.YtfgopiopeidfmaaDoor
