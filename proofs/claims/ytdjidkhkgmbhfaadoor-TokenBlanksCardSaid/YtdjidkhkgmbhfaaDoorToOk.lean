/-
What the laws of stage 8 ask of package token's Split; the chapter's example, and the law TokenSplits, over it.
-/
import Derived.Test.YtdjidkhkgmbhfaaDoorToSame
namespace Go.Proofs.YtdjidkhkgmbhfaaDoor
open Go.RowKit Go.Proofs.YtdjidkhkgmbhfaaDoor.Tok

/-- What the program's Split answers. -/
def psplitT (w : World) (r : Except Nat (List TokD)) (v : Value) : Prop := match r with
  | .ok l => ∃ u, v = .tuple #[u, .int .i64 0, .int .i64 0] ∧ RdT w u l
  | .error p => v = .tuple #[.slice none 0 0, .int .i64 (p : Int), .int .i64 21]
/-- E: what the world holds (tables of the library). -/
structure TokOk (E : World → Prop) : Prop where
  keep : ∀ {w w'}, E w → Below w.heap.size w w' → E w'
  split : ∀ (l : List UInt8) w, E w → l.length ≤ 1300 → Calls Tryd.prog 7 #[.string ⟨l.toArray⟩] w fun e w' => (∃ v, e = .returned v ∧ psplitT w' (splitF l 0) v) ∧ Below w.heap.size w w'

theorem RdT.lit (w : World) {g : Nat} (hg : g = w.heap.size) (l : List TokD) (T : TypeId) (hl : l.length ≤ 1000) : RdT (w.alloc (.cells (l.flatMap tokC).toArray T)) (.slice (some ⟨g, 0, none⟩) l.length l.length) l := by
  have h1 : (w.alloc (.cells (l.flatMap tokC).toArray T)).heap[g]? = some (.cells (l.flatMap tokC).toArray T (0, 0)) := heap_new hg
  refine .inr ⟨g, 0, l.length, rfl, Nat.le_refl _, by unfold maxLen; omega, by rw [hg]; simp, fun j x hj => ?_⟩
  obtain ⟨e0, e1, e2⟩ := flatT_get l j x hj
  rw [Nat.zero_add]
  exact ⟨by rw [cell_of_row _ _ _ _ _ _ h1]; simpa using e0, by rw [cell_of_row _ _ _ _ _ _ h1]; simpa using e1, by rw [cell_of_row _ _ _ _ _ _ h1]; simpa using e2⟩
def exT : List TokD := [(3, [65, 49], 0), (4, [60, 61], 2), (1, [50, 46, 53], 4)]
theorem split_ex : splitF [65, 49, 60, 61, 50, 46, 53] 0 = .ok exT := by rfl
set_option maxRecDepth 20000 in
theorem awakeT {E : World → Prop} (K : TokOk E) (w : World) (hE : E w) :
    Calls Tryd.prog 6 #[] w fun e w' => e = .returned (.bool true) ∧ Below w.heap.size w w' := by
  have hp := K.split [65, 49, 60, 61, 50, 46, 53] w hE (by decide)
  rw [split_ex] at hp
  have HP := Lib.hid hp
  clear hp hE K
  go_enter Tryd.func6, Tryd.ntmps6
  go_wp2_with fail
  go_at_call 7
  with_reducible refine (HP.out).mono ?_
  rintro e w1 ⟨⟨v, rfl, u, rfl, hu⟩, hb1⟩
  obtain ⟨A, n, c, rfl, hn⟩ := hu.named
  obtain rfl : n = 3 := hn
  have HU := Lib.hid hu
  have HB1 := Lib.hid hb1
  clear hu hb1
  go_wp2_with fail
  go_at_call 9
  refine (same_eq exT 3 c 3 A (some ⟨w1.heap.size, 0, none⟩) rfl (by decide) _ (HU.out.below (below_alloc w1 _)) (RdT.lit w1 rfl exT _ (by decide))).mono ?_
  rintro e w2 ⟨rfl, hb2⟩
  have HB2 := Lib.hid (HB1.out.trans (((below_alloc w1 _).trans (hb2.mono (by simp))).mono HB1.out.size))
  clear hb2
  go_wp2_with fail
  go_ret
  exact ⟨rfl, HB2.out⟩

set_option maxRecDepth 20000 in
set_option maxHeartbeats 1000000 in
theorem splits_fit {E : World → Prop} (K : TokOk E) (l : List UInt8) (hl : l.length ≤ 600) (w : World) (hE : E w) :
    Calls Tryd.prog 3 #[.string ⟨l.toArray⟩] w fun e w' => e = .returned (.bool true) ∧ Below w.heap.size w w' := by
  have HKEEP := Lib.hid (fun w w' (h : E w) hb => K.keep (w' := w') h hb)
  have HE := Lib.hid hE
  have hp := K.split l w hE (by omega)
  have hr := fun W => split_any l (by omega) W
  have HAW := Lib.hid (fun W hW => awakeT K W hW)
  have hsz : (⟨l.toArray⟩ : ByteArray).size = l.length := rfl
  have hlen : (⟨l.toArray⟩ : ByteArray).size ≤ 600 := hl
  cases hs : splitF l 0 with
  | ok toks =>
    rw [hs] at hp hr
    have htl : toks.length ≤ 100000 := by
      have := splitF_len hs
      omega
    have HTL := Lib.hid htl
    have HP := Lib.hid hp
    have HR := Lib.hid hr
    clear hp hr hE K hs htl hsz
    generalize (⟨l.toArray⟩ : ByteArray) = s at *
    go_enter Tryd.func3, Tryd.ntmps3
    go_wp2_with fail
    go_at_call 7
    with_reducible refine (HP.out).mono ?_
    rintro e w1 ⟨⟨v, rfl, u, rfl, hu⟩, hb1⟩
    obtain ⟨A, n, c, rfl, hn⟩ := hu.named
    have HN := Lib.hid hn
    have HU := Lib.hid hu
    have HB1 := Lib.hid hb1
    clear hu hb1 hn
    go_wp2_with fail
    go_at_call 8
    with_reducible refine (HR.out _).mono ?_
    rintro e w2 ⟨⟨v, rfl, u, rfl, hu⟩, hb2⟩
    obtain ⟨A2, n2, c2, rfl, hn2⟩ := hu.rd.named
    obtain rfl : n = n2 := HN.out.trans hn2.symm
    have HU2 := Lib.hid hu.rd
    have HU1 := Lib.hid (HU.out.below hb2)
    have HB2 := Lib.hid (HB1.out.trans (hb2.mono HB1.out.size))
    clear hu hb2 hn2
    go_wp2_with fail
    go_at_call 9
    refine (same_eq toks n c c2 A A2 HN.out (by rw [HN.out]; exact HTL.out) _ HU1.out HU2.out).mono ?_
    rintro e w3 ⟨rfl, hb3⟩
    have HB3 := Lib.hid (HB2.out.trans (hb3.mono HB2.out.size))
    clear hb3
    go_wp2_with fail
    go_at_call 6
    with_reducible refine (HAW.out _ (HKEEP.out _ _ HE.out HB3.out)).mono ?_
    rintro e w4 ⟨rfl, hb4⟩
    have HB4 := Lib.hid (HB3.out.trans (hb4.mono HB3.out.size))
    clear hb4
    go_wp2_with fail
    go_ret
    exact ⟨rfl, HB4.out⟩
  | error p =>
    rw [hs] at hp hr
    have HP := Lib.hid hp
    have HR := Lib.hid hr
    clear hp hr hE K hs hsz
    generalize (⟨l.toArray⟩ : ByteArray) = s at *
    go_enter Tryd.func3, Tryd.ntmps3
    go_wp2_with fail
    go_at_call 7
    with_reducible refine (HP.out).mono ?_
    rintro e w1 ⟨⟨v, rfl, hv⟩, hb1⟩
    simp only [psplitT] at hv
    subst hv
    have HB1 := Lib.hid hb1
    clear hb1
    go_wp2_with fail
    go_at_call 8
    with_reducible refine (HR.out _).mono ?_
    rintro e w2 ⟨⟨v, rfl, hv⟩, hb2⟩
    simp only [splitT] at hv
    subst hv
    have HB2 := Lib.hid (HB1.out.trans (hb2.mono HB1.out.size))
    clear hb2
    go_wp2_with fail
    go_at_call 9
    refine (same_eq [] 0 0 0 none none rfl (by omega) _ (.inl ⟨none, 0, rfl, rfl, fun _ => rfl⟩) (.inl ⟨none, 0, rfl, rfl, fun _ => rfl⟩)).mono ?_
    rintro e w3 ⟨rfl, hb3⟩
    have HB3 := Lib.hid (HB2.out.trans (hb3.mono HB2.out.size))
    clear hb3
    go_wp2_with fail
    go_at_call 6
    with_reducible refine (HAW.out _ (HKEEP.out _ _ HE.out HB3.out)).mono ?_
    rintro e w4 ⟨rfl, hb4⟩
    have HB4 := Lib.hid (HB3.out.trans (hb4.mono HB3.out.size))
    clear hb4
    go_wp2_with fail
    go_ret
    exact ⟨rfl, HB4.out⟩
theorem splits_any {E : World → Prop} (K : TokOk E) (s : ByteArray) (hs : s.size ≤ 9223372036854775807) (w : World) (hE : E w) :
    Calls Tryd.prog 3 #[.string s] w fun e w' => e = .returned (.bool true) ∧ Below w.heap.size w w' := by
  by_cases hl : s.size ≤ 600
  · have e : s = ⟨s.data.toList.toArray⟩ := by cases s; simp
    have h := splits_fit K s.data.toList (by simpa using hl) w hE
    rw [← e] at h
    exact h
  · have HAW := Lib.hid (awakeT K w hE)
    have hbig : 600 < s.size := by omega
    clear hE K hl
    go_enter Tryd.func3, Tryd.ntmps3
    go_wp2_with (go_at_call 6; (with_reducible refine (HAW.out).mono ?_); rintro e w1 ⟨rfl, hb1⟩)
    go_ret
    exact ⟨rfl, hb1⟩
end Go.Proofs.YtdjidkhkgmbhfaaDoor
