/-
The law StampBytes, over contracts of Put, Take and the example.
-/
import Derived.Test.YtfgopiopeidfmaaDoorSSame
import Derived.Test.YtfgopiopeidfmaaDoorBApp
import Derived.Test.YtfgopiopeidfmaaDoorWRefN
import Derived.Test.YtfgopiopeidfmaaDoorWRInt
namespace Go.Proofs.YtfgopiopeidfmaaDoor
open Go.RowKit
open Wire (numL valL takeL runL bytesL)

/-- A stamp's bytes. -/
noncomputable def idL (t rn : Nat) : List Nat := numL t ++ numL rn
/-- What is left behind a stamp. -/
noncomputable def takeIdS (xs : List Nat) (bad : Bool) : List Nat × Bool := leftS (leftS xs bad (takeL xs).2).1 (leftS xs bad (takeL xs).2).2 (intN (leftS xs bad (takeL xs).2).1 64)
noncomputable def takeIdR (xs : List Nat) (bad : Bool) : Nat := intV (leftS xs bad (takeL xs).2).1 64
theorem takeId_idL (t rn : Nat) (ht : t < 18446744073709551616) (hr : rn ≤ 64) (rest : List Nat) :
    (takeL (idL t rn ++ rest)).1 = t ∧ takeIdR (idL t rn ++ rest) false = rn ∧ takeIdS (idL t rn ++ rest) false = (rest, false) := by
  have h1 : takeL (idL t rn ++ rest) = (t, (numL t).length) := by
    unfold idL
    rw [List.append_assoc]
    exact Wire.takeL_num t ht _
  have hp := Wire.numL_pos t
  have h2 : leftS (idL t rn ++ rest) false (numL t).length = (numL rn ++ rest, false) := by
    unfold leftS idL
    rw [if_neg (by omega), List.append_assoc, List.drop_left]
  have h3 : takeL (numL rn ++ rest) = (rn, (numL rn).length) := Wire.takeL_num rn (by omega) _
  have hp2 := Wire.numL_pos rn
  have h4 : intV (numL rn ++ rest) 64 = rn := by
    unfold intV
    rw [h3, if_neg]
    simp only; omega
  have h5 : intN (numL rn ++ rest) 64 = (numL rn).length := by
    unfold intN
    rw [h3, if_neg]
    simp only; omega
  refine ⟨by rw [h1], ?_, ?_⟩
  · unfold takeIdR; rw [h1]; simp only; rw [h2]; exact h4
  · unfold takeIdS
    rw [h1]; simp only; rw [h2]; simp only; rw [h5]
    unfold leftS
    rw [if_neg (by omega), List.drop_left]

/-- What the law asks of Put, Take and the example; E: what the world holds. -/
structure BytesOk (E : World → Prop) : Prop where
  keep : ∀ {w w'}, E w → Below w.heap.size w w' → E w'
  put : ∀ (B g : Nat) (v : Value) (xs : List Nat) (t rn : Nat) (w : World), t < 18446744073709551616 → rn ≤ 64 → Wr B w g v xs → xs.length ≤ 500000 → B ≤ w.heap.size →
    Calls Tryd.prog 16 #[.pointer (some ⟨g, 0, none⟩), idV t (rn : Int)] w fun e w' => ∃ u v', e = .returned u ∧ Wr B w' g v' (xs ++ idL t rn) ∧ Kept g v v' w w'
  take : ∀ (B g : Nat) (v : Value) (xs : List Nat) (bad : Bool) (w : World), Rr B w g v xs bad → xs.length ≤ 100000 → (∀ x ∈ xs, x < 256) →
    Calls Tryd.prog 19 #[.pointer (some ⟨g, 0, none⟩)] w fun e w' => e = .returned (idV (takeL xs).1 (takeIdR xs bad : Nat)) ∧ (∃ v', Rr B w' g v' (takeIdS xs bad).1 (takeIdS xs bad).2) ∧ KeptG g w w'
  awake : ∀ w, E w → Calls Tryd.prog 12 #[] w fun e w' => e = .returned (.bool true) ∧ Below w.heap.size w w'

theorem box_new (w : World) {g : Nat} (hg : g = w.heap.size) (t : Nat) (r : Int) (T : TypeId) : (w.alloc (.cells #[.int .u64 (t : Int), .int .i64 r] T)).cell? ⟨g, 0, none⟩ = some (.int .u64 (t : Int)) ∧ (w.alloc (.cells #[.int .u64 (t : Int), .int .i64 r] T)).cell? ⟨g, 1, none⟩ = some (.int .i64 r) := by
  have h1 : (w.alloc (.cells #[.int .u64 (t : Int), .int .i64 r] T)).heap[g]? = some (.cells #[.int .u64 (t : Int), .int .i64 r] T (0, 0)) := heap_new hg
  exact ⟨by rw [cell_of_row _ _ 0 _ _ _ h1]; rfl, by rw [cell_of_row _ _ 1 _ _ _ h1]; rfl⟩

set_option maxRecDepth 20000 in
set_option maxHeartbeats 4000000 in
theorem bytes_fit {E : World → Prop} (K : BytesOk E) (t rn : Nat) (ht : t < 18446744073709551616) (hrn : rn ≤ 64) (w : World) (hE : E w) :
    Calls Tryd.prog 5 #[idV t (rn : Int)] w fun e w' => e = .returned (.bool true) ∧ Below w.heap.size w w' := by
  have hkeep : ∀ w w', E w → Below w.heap.size w w' → E w' := fun _ _ => K.keep
  have haw := K.awake
  have hput := K.put
  have htake := K.take
  have HE0 := Lib.hid hE
  have HAW := Lib.hid haw
  have HPUT := Lib.hid hput
  have HTAKE := Lib.hid htake
  have HKEEP := Lib.hid hkeep
  have HT := Lib.hid ht
  have HRN := Lib.hid (show rn < 18446744073709551616 by omega)
  have hl : (idL t rn).length ≤ 20 := by
    unfold idL
    rw [List.length_append]
    have := Wire.numL_length_10 ht
    have := Wire.numL_length_10 (show rn < 18446744073709551616 by omega)
    omega
  have HLEN := Lib.hid (show (idL t rn).length ≤ 500000 by omega)
  have HLEN1 := Lib.hid (show (idL t rn).length ≤ 100000 by omega)
  have HLN := Lib.hid (show (numL t).length + (numL rn).length ≤ 1000000 by unfold idL at hl; rw [List.length_append] at hl; omega)
  have hby : ∀ x ∈ idL t rn, x < 256 := by
    intro x hx
    unfold idL at hx
    rcases List.mem_append.1 hx with h | h
    · exact Wire.numL_bytes _ x h
    · exact Wire.numL_bytes _ x h
  have HBY := Lib.hid hby
  have htk := takeId_idL t rn ht hrn []
  rw [List.append_nil] at htk
  have HTK := Lib.hid htk
  have hwr : IntKind.u64.wrap (rn : Int) = (rn : Int) := by rw [IntKind.wrap_u64]; omega
  clear hE hkeep haw hput htake ht hl hby htk
  unfold idV
  have hnw := Wr.new (w.alloc (.cells #[.int .u64 (t : Int), .int .i64 (rn : Int)] 24))
  rw [show (w.alloc (.cells #[.int .u64 (t : Int), .int .i64 (rn : Int)] 24)).heap.size = w.heap.size + 1 from by simp] at hnw
  have HNW := Lib.hid hnw
  clear hnw
  have hb1 := box_keep (box_new w rfl t (rn : Int) 24) (below_alloc _ (.cells #[.slice none 0 0] 36))
  have HB10 := Lib.hid hb1
  obtain ⟨p0, p1⟩ := box_new w rfl t (rn : Int) 24
  clear hb1
  go_enter Tryd.func5, Tryd.ntmps5
  go_wp2_with fail
  refine (HPUT.out (w.heap.size + 1) (w.heap.size + 1) _ [] t rn _ HT.out hrn HNW.out (by simp) (by simp)).mono ?_
  rintro e w1 ⟨u1, v1, rfl, hw1, hk1⟩
  rw [List.nil_append] at hw1
  have hx1 : Below (w.heap.size + 1) _ w1 := hk1.below (Nat.le_refl _) (fun k hk => by simp [Value.ownBlock] at hk) (by simp)
  have hb11 : w1.cell? ⟨w.heap.size, 0, none⟩ = some (.int .u64 (t : Int)) ∧ w1.cell? ⟨w.heap.size, 1, none⟩ = some (.int .i64 (rn : Int)) :=
    ⟨(hx1.cell (p := ⟨w.heap.size, 0, none⟩) (Nat.lt_succ_self _)).trans HB10.out.1, (hx1.cell (p := ⟨w.heap.size, 1, none⟩) (Nat.lt_succ_self _)).trans HB10.out.2⟩
  have hww : Below w.heap.size w w1 := (below2 w _ _).trans (hx1.mono (Nat.le_succ _))
  have HW1 := Lib.hid hw1
  have HB11 := Lib.hid hb11
  clear hw1 hk1 hx1 hb11 p0 p1
  go_wp2_with fail
  refine (wdone_any _ _ _ _ _ HW1.out HLEN.out).mono ?_
  rintro e w2 ⟨v2, rfl, ho2, hb2⟩
  have HO2 := Lib.hid ho2.rd
  clear ho2
  go_wp2_with fail
  refine (read_any _ _ _ HO2.out HLEN1.out).mono ?_
  rintro e w3 ⟨g3, v3, rfl, hr3, hb3⟩
  have HR3 := Lib.hid hr3
  have hx3 : Below w1.heap.size w1 w3 := hb2.trans (hb3.mono hb2.size)
  have hg3 : w1.heap.size ≤ g3 := Nat.le_trans hb2.size hr3.1
  clear hr3
  go_wp2_with fail
  refine (HTAKE.out _ _ _ _ _ _ HR3.out HLEN1.out HBY.out).mono ?_
  rintro e w4 ⟨he4, ⟨v4, hr4⟩, hk4⟩
  rw [HTK.out.1, HTK.out.2.1] at he4
  rw [HTK.out.2.2] at hr4
  unfold idV at he4
  subst he4
  have hx4 : Below w1.heap.size w1 w4 := hx3.trans (KeptG.below hk4 hg3 hx3.size)
  have HR4 := Lib.hid hr4
  have hb5n := box_new w4 rfl t (rn : Int) 24
  have HB50 := Lib.hid hb5n
  obtain ⟨p0, p1⟩ := hb5n
  clear hr4 hk4
  go_wp2_with fail
  obtain ⟨w9, hw9⟩ : ∃ w9, w9 = w4.alloc (.cells #[.int .u64 (t : Int), .int .i64 (rn : Int)] 24) := ⟨_, rfl⟩
  rw [← hw9]
  have hx49 : Below w4.heap.size w4 w9 := by rw [hw9]; exact below_alloc _ _
  have hx19 : Below w1.heap.size w1 w9 := hx4.trans (hx49.mono hx4.size)
  have hwx : Below w.heap.size w w9 := hww.trans (hx19.mono hww.size)
  have HB5 : Hid (w9.cell? ⟨w4.heap.size, 0, none⟩ = some (.int .u64 (t : Int)) ∧ w9.cell? ⟨w4.heap.size, 1, none⟩ = some (.int .i64 (rn : Int))) := by rw [hw9]; exact HB50.out
  have HB1 := Lib.hid (box_keep HB11.out hx19)
  have HW := Lib.hid (HW1.out.keep hx19)
  have HRR := Lib.hid (HR4.out.keep hx49)
  have HE := Lib.hid (HKEEP.out _ _ HE0.out hwx)
  clear hw9 HB50 HB11 HW1 HR3 HR4 p0 p1 HO2 HNW HB10 HE0 hb2 hb3
  refine wp_region_noPanic ?_
  refine wp_region_below (by kernel_rfl) (fun HS0 => ?_)
  refine wpAnyH_take (i := 2) (v := ?_) rfl (by kernel_rfl) (by kernel_rfl) (by kernel_rfl) (fun _ _ _ h => h) (Or.inl ⟨by rfl, ?_⟩) HS0 ?_
  rotate_left
  · intro w hE; go_simp; try with_reducible rfl
  simp only [List.getElem_toArray, List.getElem_cons_succ, List.getElem_cons_zero, Act.put, List.setIfInBounds_toArray, List.set_cons_zero, List.set_cons_succ]
  refine wpAnyH_take (i := 3) (v := ?_) rfl (by kernel_rfl) (by kernel_rfl) (by kernel_rfl) (fun _ _ _ h => h) (Or.inl ⟨by rfl, ?_⟩) HS0 ?_
  rotate_left
  · intro w hE; obtain ⟨p0, p1⟩ := box_keep HB1.out (hE); go_simp; try with_reducible rfl
  simp only [List.getElem_toArray, List.getElem_cons_succ, List.getElem_cons_zero, Act.put, List.setIfInBounds_toArray, List.set_cons_zero, List.set_cons_succ]
  refine wpAnyH_take (i := 5) (v := ?_) rfl (by kernel_rfl) (by kernel_rfl) (by kernel_rfl) (fun _ _ _ h => h) (Or.inl ⟨by rfl, ?_⟩) HS0 ?_
  rotate_left
  · intro w hE; go_simp; try with_reducible rfl
  simp only [List.getElem_toArray, List.getElem_cons_succ, List.getElem_cons_zero, Act.put, List.setIfInBounds_toArray, List.set_cons_zero, List.set_cons_succ]
  refine wpAnyH_take (i := 6) (v := ?_) rfl (by kernel_rfl) (by kernel_rfl) (by kernel_rfl) (fun _ _ _ h => h) (Or.inl ⟨by rfl, ?_⟩) HS0 ?_
  rotate_left
  · intro w hE; obtain ⟨p0, p1⟩ := box_keep HB1.out (hE); go_simp; try with_reducible rfl
  simp only [List.getElem_toArray, List.getElem_cons_succ, List.getElem_cons_zero, Act.put, List.setIfInBounds_toArray, List.set_cons_zero, List.set_cons_succ]
  refine wpAnyH_take (i := 7) (v := ?_) rfl (by kernel_rfl) (by kernel_rfl) (by kernel_rfl) (fun _ _ _ h => h) (Or.inl ⟨by rfl, ?_⟩) HS0 ?_
  rotate_left
  · intro w hE; go_simp; try with_reducible rfl
  simp only [List.getElem_toArray, List.getElem_cons_succ, List.getElem_cons_zero, Act.put, List.setIfInBounds_toArray, List.set_cons_zero, List.set_cons_succ]
  refine wpAnyH_ready (rs := [0]) (by kernel_rfl) (by simp) ?_
  refine AllReadyH.cons rfl (fun K hK => ?_) AllReadyH.nil
  go_simp
  go_at_call 18
  refine (wdone_any _ _ _ _ _ (HW.out.keep HS0) HLEN.out).mono ?_
  rintro e wA ⟨vA, rfl, hoA, hbA⟩
  go_simp
  refine hK.out _ _ (HS0.trans hbA) (fun HS1 => ?_)
  clear hK
  have hxA : Below w9.heap.size w9 wA := HS0.trans hbA
  have HOA := Lib.hid (show Rd wA vA (numL t ++ numL rn) from hoA.rd)
  clear hoA hbA
  try simp only [List.getElem_toArray, List.getElem_cons_succ, List.getElem_cons_zero, Act.put, List.setIfInBounds_toArray, List.set_cons_zero, List.set_cons_succ]
  refine wpAnyH_from hxA (hxA).size (fun HS2 => ?_)
  refine wpAnyH_take (i := 1) (v := ?_) rfl (by kernel_rfl) (by kernel_rfl) (by kernel_rfl) (fun _ _ _ h => h) (Or.inl ⟨by rfl, ?_⟩) HS2 ?_
  rotate_left
  · intro w hE; have hcv := conv_rd (HOA.out.below hE); go_simp; try with_reducible rfl
  simp only [List.getElem_toArray, List.getElem_cons_succ, List.getElem_cons_zero, Act.put, List.setIfInBounds_toArray, List.set_cons_zero, List.set_cons_succ]
  refine wpAnyH_ready (rs := [4]) (by kernel_rfl) (by simp) ?_
  refine AllReadyH.cons rfl (fun K hK => ?_) AllReadyH.nil
  go_simp
  go_at_call 20
  refine (rnum_any t HT.out _).mono ?_
  rintro e wB ⟨vB, rfl, hoB, hbB⟩
  go_simp
  refine hK.out _ _ hbB (fun HS3 => ?_)
  clear hK
  have hxB := hbB
  have HOB := Lib.hid hoB
  clear hoB hbB
  try simp only [List.getElem_toArray, List.getElem_cons_succ, List.getElem_cons_zero, Act.put, List.setIfInBounds_toArray, List.set_cons_zero, List.set_cons_succ]
  refine wpAnyH_ready (rs := [8]) (by kernel_rfl) (by simp) ?_
  refine AllReadyH.cons rfl (fun K hK => ?_) AllReadyH.nil
  go_simp
  go_at_call 20
  refine (rnum_any rn HRN.out _).mono ?_
  rintro e wC ⟨vC, rfl, hoC, hbC⟩
  go_simp
  refine hK.out _ _ (hxB.trans (hbC.mono hxB.size)) (fun HS4 => ?_)
  clear hK
  have hxC := hxB.trans (hbC.mono hxB.size)
  have HOC := Lib.hid hoC
  have HOB2 := Lib.hid (HOB.out.below hbC)
  clear hoC hbC
  try simp only [List.getElem_toArray, List.getElem_cons_succ, List.getElem_cons_zero, Act.put, List.setIfInBounds_toArray, List.set_cons_zero, List.set_cons_succ]
  refine wpAnyH_ready (rs := [9]) (by kernel_rfl) (by simp) ?_
  refine AllReadyH.cons rfl (fun K hK => ?_) AllReadyH.nil
  refine step_appB rfl _ _ rfl wA.heap.size _ _ rfl HOB2.out _ _ rfl HOC.out.rd HLN.out hxC.size ?_
  intro vD wD hoD hbD _ _
  refine hK.out _ _ (hxC.trans hbD) (fun HS5 => ?_)
  clear hK
  have hxD := hxC.trans hbD
  have HOD := Lib.hid hoD.rd
  clear hoD hbD
  try simp only [List.getElem_toArray, List.getElem_cons_succ, List.getElem_cons_zero, Act.put, List.setIfInBounds_toArray, List.set_cons_zero, List.set_cons_succ]
  refine wpAnyH_from hxD (hxD).size (fun HS6 => ?_)
  have hxF : Below w9.heap.size w9 wD := hxA.trans (hxD.mono hxA.size)
  refine wpAnyH_take (i := 10) (v := ?_) rfl (by kernel_rfl) (by kernel_rfl) (by kernel_rfl) (fun _ _ _ h => h) (Or.inl ⟨by rfl, ?_⟩) HS6 ?_
  rotate_left
  · intro w hE; have hcv := conv_rd (HOD.out.below hE); go_simp; try with_reducible rfl
  simp only [List.getElem_toArray, List.getElem_cons_succ, List.getElem_cons_zero, Act.put, List.setIfInBounds_toArray, List.set_cons_zero, List.set_cons_succ]
  refine wpAnyH_take (i := 11) (v := ?_) rfl (by kernel_rfl) (by kernel_rfl) (by kernel_rfl) (fun _ _ _ h => h) (Or.inl ⟨by rfl, ?_⟩) HS6 ?_
  rotate_left
  · intro w hE; go_simp; try with_reducible rfl
  simp only [List.getElem_toArray, List.getElem_cons_succ, List.getElem_cons_zero, Act.put, List.setIfInBounds_toArray, List.set_cons_zero, List.set_cons_succ]
  refine wpAnyH_take (i := 12) (v := ?_) rfl (by kernel_rfl) (by kernel_rfl) (by kernel_rfl) (fun _ _ _ h => h) (Or.inl ⟨by rfl, ?_⟩) HS6 ?_
  rotate_left
  · intro w hE; go_simp; try with_reducible rfl
  simp only [List.getElem_toArray, List.getElem_cons_succ, List.getElem_cons_zero, Act.put, List.setIfInBounds_toArray, List.set_cons_zero, List.set_cons_succ]
  refine wpAnyH_take (i := 13) (v := ?_) rfl (by kernel_rfl) (by kernel_rfl) (by kernel_rfl) (fun _ _ _ h => h) (Or.inl ⟨by rfl, ?_⟩) HS6 ?_
  rotate_left
  · intro w hE; obtain ⟨q0, q1⟩ := box_keep HB5.out (hxF.trans (hE.mono hxF.size)); go_simp; try with_reducible rfl
  simp only [List.getElem_toArray, List.getElem_cons_succ, List.getElem_cons_zero, Act.put, List.setIfInBounds_toArray, List.set_cons_zero, List.set_cons_succ]
  refine wpAnyH_take (i := 14) (v := ?_) rfl (by kernel_rfl) (by kernel_rfl) (by kernel_rfl) (fun _ _ _ h => h) (Or.inl ⟨by rfl, ?_⟩) HS6 ?_
  rotate_left
  · intro w hE; obtain ⟨p0, p1⟩ := box_keep HB1.out (hxF.trans (hE.mono hxF.size)); go_simp; try with_reducible rfl
  simp only [List.getElem_toArray, List.getElem_cons_succ, List.getElem_cons_zero, Act.put, List.setIfInBounds_toArray, List.set_cons_zero, List.set_cons_succ]
  refine wpAnyH_take (i := 15) (v := ?_) rfl (by kernel_rfl) (by kernel_rfl) (by kernel_rfl) (fun _ _ _ h => h) (Or.inl ⟨by rfl, ?_⟩) HS6 ?_
  rotate_left
  · intro w hE; go_simp; try with_reducible rfl
  simp only [List.getElem_toArray, List.getElem_cons_succ, List.getElem_cons_zero, Act.put, List.setIfInBounds_toArray, List.set_cons_zero, List.set_cons_succ]
  refine wpAnyH_take (i := 16) (v := ?_) rfl (by kernel_rfl) (by kernel_rfl) (by kernel_rfl) (fun _ _ _ h => h) (Or.inl ⟨by rfl, ?_⟩) HS6 ?_
  rotate_left
  · intro w hE; go_simp; try with_reducible rfl
  simp only [List.getElem_toArray, List.getElem_cons_succ, List.getElem_cons_zero, Act.put, List.setIfInBounds_toArray, List.set_cons_zero, List.set_cons_succ]
  refine wpAnyH_take (i := 17) (v := ?_) rfl (by kernel_rfl) (by kernel_rfl) (by kernel_rfl) (fun _ _ _ h => h) (Or.inl ⟨by rfl, ?_⟩) HS6 ?_
  rotate_left
  · intro w hE; go_simp; try with_reducible rfl
  simp only [List.getElem_toArray, List.getElem_cons_succ, List.getElem_cons_zero, Act.put, List.setIfInBounds_toArray, List.set_cons_zero, List.set_cons_succ]
  refine wpAnyH_take (i := 18) (v := ?_) rfl (by kernel_rfl) (by kernel_rfl) (by kernel_rfl) (fun _ _ _ h => h) (Or.inl ⟨by rfl, ?_⟩) HS6 ?_
  rotate_left
  · intro w hE; go_simp; try with_reducible rfl
  simp only [List.getElem_toArray, List.getElem_cons_succ, List.getElem_cons_zero, Act.put, List.setIfInBounds_toArray, List.set_cons_zero, List.set_cons_succ]
  refine wpAnyH_ready (rs := [19]) (by kernel_rfl) (by simp) ?_
  refine AllReadyH.cons rfl (fun K hK => ?_) AllReadyH.nil
  go_simp
  go_at_call 21
  refine (end_any _ _ _ _ _ _ (HRR.out.keep hxF) (by simp)).mono ?_
  rintro e wE ⟨rfl, rfl⟩
  go_simp
  refine hK.out _ _ (Below.refl _ _) (fun HS7 => ?_)
  clear hK
  try simp only [List.getElem_toArray, List.getElem_cons_succ, List.getElem_cons_zero, Act.put, List.setIfInBounds_toArray, List.set_cons_zero, List.set_cons_succ]
  refine wpAnyH_take (i := 20) (v := ?_) rfl (by kernel_rfl) (by kernel_rfl) (by kernel_rfl) (fun _ _ _ h => h) (Or.inl ⟨by rfl, ?_⟩) HS7 ?_
  rotate_left
  · intro w hE; go_simp; try with_reducible rfl
  simp only [List.getElem_toArray, List.getElem_cons_succ, List.getElem_cons_zero, Act.put, List.setIfInBounds_toArray, List.set_cons_zero, List.set_cons_succ]
  refine wpAnyH_take (i := 21) (v := ?_) rfl (by kernel_rfl) (by kernel_rfl) (by kernel_rfl) (fun _ _ _ h => h) (Or.inl ⟨by rfl, ?_⟩) HS7 ?_
  rotate_left
  · intro w hE; go_simp; try with_reducible rfl
  simp only [List.getElem_toArray, List.getElem_cons_succ, List.getElem_cons_zero, Act.put, List.setIfInBounds_toArray, List.set_cons_zero, List.set_cons_succ]
  refine wpAnyH_ready (rs := [22]) (by kernel_rfl) (by simp) ?_
  refine AllReadyH.cons rfl (fun K hK => ?_) AllReadyH.nil
  go_simp
  go_at_call 12
  refine (HAW.out _ (HKEEP.out _ _ HE.out hxF)).mono ?_
  rintro e wG ⟨rfl, hbG⟩
  go_simp
  refine hK.out _ _ hbG (fun HS8 => ?_)
  clear hK
  have hxG := hxF.trans (hbG.mono hxF.size)
  try simp only [List.getElem_toArray, List.getElem_cons_succ, List.getElem_cons_zero, Act.put, List.setIfInBounds_toArray, List.set_cons_zero, List.set_cons_succ]
  refine wpAnyH_take (i := 23) (v := ?_) rfl (by kernel_rfl) (by kernel_rfl) (by kernel_rfl) (fun _ _ _ h => h) (Or.inl ⟨by rfl, ?_⟩) HS8 ?_
  rotate_left
  · intro w hE; go_simp; try with_reducible rfl
  simp only [List.getElem_toArray, List.getElem_cons_succ, List.getElem_cons_zero, Act.put, List.setIfInBounds_toArray, List.set_cons_zero, List.set_cons_succ]
  refine wpAnyH_take (i := 24) (v := ?_) rfl (by kernel_rfl) (by kernel_rfl) (by kernel_rfl) (fun _ _ _ h => h) (Or.inl ⟨by rfl, ?_⟩) HS8 ?_
  rotate_left
  · intro w hE; go_simp; try with_reducible rfl
  simp only [List.getElem_toArray, List.getElem_cons_succ, List.getElem_cons_zero, Act.put, List.setIfInBounds_toArray, List.set_cons_zero, List.set_cons_succ]
  refine wpAnyH_done (by kernel_rfl) ?_ _
  refine NoPanic.normal ?_
  go_wp2
  go_ret
  exact ⟨rfl, hwx.trans (hxG.mono hwx.size)⟩

set_option maxRecDepth 20000 in
set_option maxHeartbeats 1000000 in
theorem bytes_any {E : World → Prop} (K : BytesOk E) (t : Nat) (r : Int) (ht : t < 18446744073709551616) (w : World) (hE : E w) :
    Calls Tryd.prog 5 #[idV t r] w fun e w' => e = .returned (.bool true) ∧ Below w.heap.size w w' := by
  by_cases hr : 0 ≤ r ∧ r ≤ 64
  · obtain ⟨rn, rfl⟩ : ∃ rn : Nat, r = (rn : Int) := ⟨r.toNat, by omega⟩
    exact bytes_fit K t rn ht (by omega) w hE
  · have haw := K.awake _ (K.keep hE (below_alloc w (.cells #[.int .u64 (t : Int), .int .i64 r] 24)))
    have HAW := Lib.hid haw
    obtain ⟨p0, p1⟩ := box_new w rfl t r 24
    unfold idV
    clear haw hE ht K
    by_cases h0 : r < 0
    · clear hr
      go_enter Tryd.func5, Tryd.ntmps5
      go_wp2_with (go_at_call 12; (with_reducible refine (HAW.out).mono ?_); rintro e w1 ⟨rfl, hb1⟩)
      go_ret
      exact ⟨rfl, (below_alloc w _).trans (hb1.mono (below_alloc w _).size)⟩
    · have h64 : 64 < r := by omega
      clear hr
      go_enter Tryd.func5, Tryd.ntmps5
      go_wp2_with (go_at_call 12; (with_reducible refine (HAW.out).mono ?_); rintro e w1 ⟨rfl, hb1⟩)
      go_ret
      exact ⟨rfl, (below_alloc w _).trans (hb1.mono (below_alloc w _).size)⟩
end Go.Proofs.YtfgopiopeidfmaaDoor
