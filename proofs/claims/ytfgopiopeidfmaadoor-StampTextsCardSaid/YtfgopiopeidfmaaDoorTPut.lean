/-
The program's stamp.Put and stamp.Take, by contracts.
-/
import Derived.Test.YtfgopiopeidfmaaDoorSBytes
import Derived.Test.YtfgopiopeidfmaaDoorWDone
import Derived.Test.YtfgopiopeidfmaaDoorTRNum
import Derived.Test.YtfgopiopeidfmaaDoorTRes
namespace Go.Proofs.YtfgopiopeidfmaaDoor
open Go.RowKit
open Wire (numL valL takeL runL bytesL)

theorem box_kept {w w' : World} {b g : Nat} {v v' x y : Value} (h : w.cell? ⟨b, 0, none⟩ = some x ∧ w.cell? ⟨b, 1, none⟩ = some y) (hk : Kept g v v' w w') (hg : b ≠ g) (hv : v.ownBlock ≠ some b) :
    w'.cell? ⟨b, 0, none⟩ = some x ∧ w'.cell? ⟨b, 1, none⟩ = some y := by
  have hb := hk.block b (World.block_lt_of_cell? _ _ h.1) hg hv
  exact ⟨(World.cell?_of_block (a := ⟨b, 0, none⟩) hb).trans h.1, (World.cell?_of_block (a := ⟨b, 1, none⟩) hb).trans h.2⟩
theorem no_kept {w w' : World} {b g : Nat} {v v' : Value} (hb : b < w.heap.size) (hv : v.ownBlock ≠ some b) (hk : Kept g v v' w w') : v'.ownBlock ≠ some b := by
  rcases hk.row with e | ⟨k, h1, h2⟩
  · rw [e]; exact hv
  · rw [h2]; intro e; injection e with e; omega

set_option maxRecDepth 20000 in
set_option maxHeartbeats 1000000 in
theorem put_any (B g : Nat) (v : Value) (xs : List Nat) (t rn : Nat) (w : World) (ht : t < 18446744073709551616) (hrn : rn ≤ 64) (h : Wr B w g v xs) (hl : xs.length ≤ 500000) (hB : B ≤ w.heap.size) :
    Calls Tryd.prog 16 #[.pointer (some ⟨g, 0, none⟩), idV t (rn : Int)] w fun e w' => ∃ u v', e = .returned u ∧ Wr B w' g v' (xs ++ idL t rn) ∧ Kept g v v' w w' := by
  have hlen := Wire.numL_length_10 ht
  have HT := Lib.hid ht
  have HRN := Lib.hid (show rn < 18446744073709551616 by omega)
  have HL1 := Lib.hid (show xs.length ≤ 900000 by omega)
  have HL2 := Lib.hid (show (xs ++ numL t).length ≤ 900000 by rw [List.length_append]; omega)
  have hwb : Wr B (w.alloc (.cells #[.int .u64 (t : Int), .int .i64 (rn : Int)] 24)).drew g v xs := (h.kept_alloc _).keep (Below.refl _ _).drew
  have HW := Lib.hid hwb
  have HB := Lib.hid (show B ≤ (w.alloc (.cells #[.int .u64 (t : Int), .int .i64 (rn : Int)] 24)).drew.heap.size by show B ≤ (w.alloc _).heap.size; simp; omega)
  have HNE := Lib.hid (show w.heap.size ≠ g by have := h.lt; omega)
  have HNO := Lib.hid (show v.ownBlock ≠ some w.heap.size by
    intro e
    have := (World.ownsRow.lt h.2.2 _ e).2
    omega)
  have HLT := Lib.hid (show w.heap.size < (w.alloc (.cells #[.int .u64 (t : Int), .int .i64 (rn : Int)] 24)).drew.heap.size by show w.heap.size < (w.alloc _).heap.size; simp)
  have hbx : (w.alloc (.cells #[.int .u64 (t : Int), .int .i64 (rn : Int)] 24)).drew.cell? ⟨w.heap.size, 0, none⟩ = some (.int .u64 (t : Int)) ∧ (w.alloc (.cells #[.int .u64 (t : Int), .int .i64 (rn : Int)] 24)).drew.cell? ⟨w.heap.size, 1, none⟩ = some (.int .i64 (rn : Int)) := box_new w rfl t (rn : Int) 24
  have HBX := Lib.hid hbx
  have HKA : Hid (Kept g v v w (w.alloc (.cells #[.int .u64 (t : Int), .int .i64 (rn : Int)] 24)).drew) := Lib.hid ⟨rfl, rfl, rfl, by show w.heap.size ≤ (w.alloc _).heap.size; simp, fun k hk _ _ => Below.heap_alloc w _ k hk, .inl rfl⟩
  have hwr : IntKind.u64.wrap (rn : Int) = (rn : Int) := by rw [IntKind.wrap_u64]; omega
  have HWRAP := Lib.hid hwr
  clear ht hrn h hl hB hlen hwb hbx
  unfold idV
  go_enter Tryd.func16, Tryd.ntmps16
  go_wp2
  refine wp_region_noPanic ?_
  refine wp_region_held_drew (S := fun w' => w'.cell? ⟨w.heap.size, 0, none⟩ = some (.int .u64 (t : Int)) ∧ w'.cell? ⟨w.heap.size, 1, none⟩ = some (.int .i64 (rn : Int))) (by kernel_rfl) HBX.out (fun HS0 => ?_)
  refine wpAnyH_take (i := 0) (v := ?_) rfl (by kernel_rfl) (by kernel_rfl) (by kernel_rfl) (fun _ _ _ h => h) (Or.inl ⟨by rfl, ?_⟩) HS0 ?_
  rotate_left
  · intro w hE; go_simp; try with_reducible rfl
  simp only [List.getElem_toArray, List.getElem_cons_succ, List.getElem_cons_zero, Act.put, List.setIfInBounds_toArray, List.set_cons_zero, List.set_cons_succ]
  refine wpAnyH_take (i := 1) (v := ?_) rfl (by kernel_rfl) (by kernel_rfl) (by kernel_rfl) (fun _ _ _ h => h) (Or.inl ⟨by rfl, ?_⟩) HS0 ?_
  rotate_left
  · intro w hE; go_simp; try with_reducible rfl
  simp only [List.getElem_toArray, List.getElem_cons_succ, List.getElem_cons_zero, Act.put, List.setIfInBounds_toArray, List.set_cons_zero, List.set_cons_succ]
  refine wpAnyH_take (i := 2) (v := ?_) rfl (by kernel_rfl) (by kernel_rfl) (by kernel_rfl) (fun _ _ _ h => h) (Or.inl ⟨by rfl, ?_⟩) HS0 ?_
  rotate_left
  · intro w hE; obtain ⟨p0, p1⟩ := hE; go_simp; try with_reducible rfl
  simp only [List.getElem_toArray, List.getElem_cons_succ, List.getElem_cons_zero, Act.put, List.setIfInBounds_toArray, List.set_cons_zero, List.set_cons_succ]
  refine wpAnyH_take (i := 4) (v := ?_) rfl (by kernel_rfl) (by kernel_rfl) (by kernel_rfl) (fun _ _ _ h => h) (Or.inl ⟨by rfl, ?_⟩) HS0 ?_
  rotate_left
  · intro w hE; go_simp; try with_reducible rfl
  simp only [List.getElem_toArray, List.getElem_cons_succ, List.getElem_cons_zero, Act.put, List.setIfInBounds_toArray, List.set_cons_zero, List.set_cons_succ]
  refine wpAnyH_take (i := 5) (v := ?_) rfl (by kernel_rfl) (by kernel_rfl) (by kernel_rfl) (fun _ _ _ h => h) (Or.inl ⟨by rfl, ?_⟩) HS0 ?_
  rotate_left
  · intro w hE; obtain ⟨p0, p1⟩ := hE; go_simp; try with_reducible rfl
  simp only [List.getElem_toArray, List.getElem_cons_succ, List.getElem_cons_zero, Act.put, List.setIfInBounds_toArray, List.set_cons_zero, List.set_cons_succ]
  refine wpAnyH_take (i := 6) (v := .int .i64 (rn : Int)) rfl (by kernel_rfl) (by kernel_rfl) (by kernel_rfl) (fun _ _ _ h => h) (Or.inl ⟨by rfl, ?_⟩) HS0 ?_
  · intro w hE; go_simp; intro h; omega
  simp only [List.getElem_toArray, List.getElem_cons_succ, List.getElem_cons_zero, Act.put, List.setIfInBounds_toArray, List.set_cons_zero, List.set_cons_succ]
  refine wpAnyH_take (i := 7) (v := ?_) rfl (by kernel_rfl) (by kernel_rfl) (by kernel_rfl) (fun _ _ _ h => h) (Or.inl ⟨by rfl, ?_⟩) HS0 ?_
  rotate_left
  · intro w hE; have hwr2 := HWRAP.out; go_simp; try with_reducible rfl
  simp only [List.getElem_toArray, List.getElem_cons_succ, List.getElem_cons_zero, Act.put, List.setIfInBounds_toArray, List.set_cons_zero, List.set_cons_succ]
  refine wpAnyH_ready (rs := [3]) (by kernel_rfl) (by simp) ?_
  refine AllReadyH.cons rfl (fun K hK => ?_) AllReadyH.nil
  go_simp
  go_at_call 36
  refine (wnum_any B g v xs t HT.out _ HW.out HL1.out HB.out).mono ?_
  rintro e w1 ⟨v1, rfl, hw1, hk1⟩
  go_simp
  refine hK.out _ _ (box_kept HBX.out hk1 HNE.out HNO.out) (fun HS1 => ?_)
  clear hK
  have HW1 := Lib.hid hw1
  have HK1 := Lib.hid hk1
  have hno1 := no_kept HLT.out HNO.out hk1
  have HNO1 := Lib.hid hno1
  clear hw1 hk1 hno1
  try simp only [List.getElem_toArray, List.getElem_cons_succ, List.getElem_cons_zero, Act.put, List.setIfInBounds_toArray, List.set_cons_zero, List.set_cons_succ]
  refine wpAnyH_ready (rs := [8]) (by kernel_rfl) (by simp) ?_
  refine AllReadyH.cons rfl (fun K hK => ?_) AllReadyH.nil
  go_simp
  go_at_call 36
  refine (wnum_any B g v1 (xs ++ numL t) rn HRN.out _ HW1.out (HL2.out) (Nat.le_trans HB.out HK1.out.size)).mono ?_
  rintro e w2 ⟨v2, rfl, hw2, hk2⟩
  go_simp
  refine hK.out _ _ (box_kept HS1 hk2 HNE.out HNO1.out) (fun HS2 => ?_)
  clear hK
  have HW2 := Lib.hid hw2
  have HK2 := Lib.hid hk2
  clear hw2 hk2
  try simp only [List.getElem_toArray, List.getElem_cons_succ, List.getElem_cons_zero, Act.put, List.setIfInBounds_toArray, List.set_cons_zero, List.set_cons_succ]
  refine wpAnyH_done (by kernel_rfl) ?_ _
  refine NoPanic.normal ?_
  go_wp2
  refine bodyPost_end (results_none rfl _ _ _) rfl ?_
  refine ⟨_, _, rfl, ?_, (HKA.out.trans HK1.out).trans HK2.out⟩
  have hfin := HW2.out
  unfold idL
  rw [← List.append_assoc]; exact hfin

/-- A store elsewhere. -/
theorem Rr.apart {B : Nat} {w : World} {g b i : Nat} {v x : Value} {xs : List Nat} {bad : Bool} (h : Rr B w g v xs bad) (hb : b ≠ g) (hv : v.ownBlock ≠ some b) : Rr B (w.setCell ⟨b, i, none⟩ x) g v xs bad := by
  have hk : KeptG b w (w.setCell ⟨b, i, none⟩ x) := Kept.set b _ w i x
  exact ⟨h.1, (heap_set hb).trans h.2.1, h.2.2.1.keptG hk hv, h.2.2.2⟩

/-- A store elsewhere, where nothing is left or the bytes lie elsewhere. -/
theorem Rr.apart0 {B : Nat} {w : World} {g b i : Nat} {v x : Value} {xs : List Nat} {bad : Bool} (h : Rr B w g v xs bad) (hb : b ≠ g) (hv : xs = [] ∨ v.ownBlock ≠ some b) : Rr B (w.setCell ⟨b, i, none⟩ x) g v xs bad := by
  rcases hv with rfl | hv
  · refine ⟨h.1, (heap_set hb).trans h.2.1, ?_, h.2.2.2⟩
    rcases h.2.2.1 with ⟨p, c, hv, he, h0⟩ | ⟨b', off, cap, hv, _⟩
    · exact .inl ⟨p, c, hv, he, h0⟩
    · exact .inl ⟨_, cap, hv, rfl, fun e => by cases e⟩
  · exact h.apart hb hv
theorem row_kept {w w' : World} {b g : Nat} {o : Obj} (h : w.heap[b]? = some o) (hk : KeptG g w w') (hg : b ≠ g) : w'.heap[b]? = some o :=
  (hk.block b (Array.getElem?_eq_some_iff.1 h).1 hg (by simp [Value.ownBlock])).trans h
theorem cells2 {w : World} {b : Nat} {x y : Value} {T : TypeId} (h : w.heap[b]? = some (.cells #[x, y] T (0, 0))) : (w.cell? ⟨b, 0, none⟩ = some x ∧ w.cell? ⟨b, 1, none⟩ = some y) ∧ w.frozen? ⟨b, 0, none⟩ = false ∧ w.frozen? ⟨b, 1, none⟩ = false :=
  ⟨⟨by rw [cell_of_row _ _ 0 _ _ _ h]; rfl, by rw [cell_of_row _ _ 1 _ _ _ h]; rfl⟩, by simp [World.frozen?, h], by simp [World.frozen?, h]⟩

set_option maxRecDepth 20000 in
set_option maxHeartbeats 1000000 in
theorem take_any (B g : Nat) (v : Value) (xs : List Nat) (bad : Bool) (w : World) (h : Rr B w g v xs bad) (hl : xs.length ≤ 100000) (hx : ∀ x ∈ xs, x < 256) :
    Calls Tryd.prog 19 #[.pointer (some ⟨g, 0, none⟩)] w fun e w' => e = .returned (idV (takeL xs).1 (takeIdR xs bad : Nat)) ∧ (∃ v', Rr B w' g v' (takeIdS xs bad).1 (takeIdS xs bad).2) ∧ KeptG g w w' := by
  have hgl := h.lt
  have hkb := h.2.2.1
  obtain ⟨A, n, c, rfl, hn⟩ := h.2.2.1.named
  have hsep : xs = [] ∨ (Value.slice A n c).ownBlock ≠ some w.heap.size := by
    rcases hkb with ⟨p, c', hv, he, _⟩ | ⟨b, off, cap, hv, _, _, hb, _⟩
    · exact .inl he
    · right
      rw [hv]; simp [Value.ownBlock]; omega
  have h0 : Rr B (w.alloc (.cells #[.int .u64 0, .int .i64 0] 24)) g (.slice A n c) xs bad := h.keep (below_alloc _ _)
  have hnum := numq_form B g n c A xs bad _ h0 (by omega) hn hx
  have hsub : ∀ x ∈ (numS xs bad).1, x ∈ xs := by
    unfold numS; split
    · intro x hx; cases hx
    · intro x hx; exact List.mem_of_mem_drop hx
  have hlen : (numS xs bad).1.length ≤ xs.length := by
    unfold numS; split
    · simp
    · simp
  have hint := fun v1 w1 (hr : Rr B w1 g v1 (numS xs bad).1 (numS xs bad).2) => intq_form B g v1 (numS xs bad).1 (numS xs bad).2 64 w1 hr (by omega) (fun x h => hx x (hsub x h)) (by omega) (by omega)
  have hv : (intV (numS xs bad).1 64 : Nat) = takeIdR xs bad := rfl
  have hst : leftS (numS xs bad).1 (numS xs bad).2 (intN (numS xs bad).1 64) = takeIdS xs bad := rfl
  have hempty : xs = [] → (takeIdS xs bad).1 = [] := by
    rintro rfl
    have hl : ∀ (b : Bool) (m : Nat), (leftS [] b m).1 = [] := fun b m => by unfold leftS; split <;> simp
    have e1 : (leftS [] bad (takeL []).2).1 = [] := hl _ _
    unfold takeIdS
    rw [e1]; exact hl _ _
  have hne : w.heap.size ≠ g := by omega
  have hrow : (w.alloc (.cells #[.int .u64 0, .int .i64 0] 24)).heap[w.heap.size]? = some (.cells #[.int .u64 0, .int .i64 0] 24 (0, 0)) := heap_new rfl
  have hka : KeptG g w (w.alloc (.cells #[.int .u64 0, .int .i64 0] 24)) := ⟨rfl, rfl, rfl, by simp, fun k hk _ _ => Below.heap_alloc w _ k hk, .inl rfl⟩
  have HNUM := Lib.hid hnum
  have HINT := Lib.hid hint
  have HSEP := Lib.hid hsep
  have HV := Lib.hid hv
  have HST := Lib.hid hst
  have HEM := Lib.hid hempty
  have HNE := Lib.hid hne
  have HROW := Lib.hid hrow
  have HKA := Lib.hid hka
  clear hnum hint hsep hv hst hempty hne hrow hka hsub hlen h h0 hn hkb hx hl hgl
  unfold idV
  go_enter Tryd.func19, Tryd.ntmps19
  go_wp2_with (first
    | (go_at_call 38; (with_reducible refine (HNUM.out).mono ?_); rintro e w1 ⟨rfl, ⟨v1, hr1, hs1⟩, hk1⟩; have HR1 := Lib.hid hr1; have HS1 := Lib.hid hs1; have HK1 := Lib.hid hk1; clear hr1 hs1 hk1)
    | (go_at_call 39; (with_reducible refine (HINT.out v1 _ HR1.out).mono ?_); rintro e w2 ⟨rfl, ⟨v2, hr2, hs2⟩, hk2⟩; have HR2 := Lib.hid hr2; have HS2 := Lib.hid hs2; have HK2 := Lib.hid (HK1.out.trans hk2); clear hr2 hs2 hk2; have hrow2 := row_kept HROW.out HK2.out HNE.out; (obtain ⟨⟨p0, p1⟩, q0, q1⟩ := cells2 hrow2); have HROW2 := Lib.hid hrow2; clear hrow2))
  obtain ⟨r0, r1⟩ := set2 (x := .int .u64 ((takeL xs).1 : Nat)) (y := .int .i64 (intV (numS xs bad).1 64 : Nat)) HROW2.out
  refine bodyPost_ret (results_id rfl rfl r0 r1) rfl ?_
  have hsv : (takeIdS xs bad).1 = [] ∨ v2.ownBlock ≠ some w.heap.size := by
    rcases HSEP.out with e | e
    · exact .inl (HEM.out e)
    · right
      rcases HS1.out.trans HS2.out with k | k
      · rw [k]; simp
      · rw [k]; exact e
  have hrf := HR2.out
  rw [HST.out] at hrf
  refine ⟨rfl, ⟨v2, (hrf.apart0 HNE.out hsv).apart0 HNE.out hsv⟩, ?_⟩
  have hk2 : KeptG g w w2 := HKA.out.trans HK2.out
  refine ⟨hk2.os, hk2.tape, hk2.output, ?_, fun k hk h1 h2 => ?_, .inl rfl⟩
  · have := hk2.size
    simpa [World.setCell] using this
  · rw [heap_set (by omega), heap_set (by omega)]; exact hk2.block k hk h1 h2
end Go.Proofs.YtfgopiopeidfmaaDoor
