/-
The reference's sum of two numbers with a sign, by its contract.
-/
import Derived.Test.YthfgpmiammfcaaaDoorRefF
import Derived.Deep.RegionHeld3
import Derived.StillTactics
import Derived.Laws.Pointers
namespace Go.Proofs.YthfgpmiammfcaaaDoor
open Go.RowKit
open Num (digs valD cutL Ten)

/-- Three new blocks of two cells each, behind a call. -/
theorem box3 {w W w4 : World} {a0 a1 b0 b1 c0 c1 : Value} {T : TypeId} (hW : W.heap = (((w.alloc (.cells #[a0, a1] T)).alloc (.cells #[b0, b1] T)).alloc (.cells #[c0, c1] T)).heap) (hb : Below W.heap.size W w4) :
    (w4.cell? ⟨w.heap.size, 0, none⟩ = some a0 ∧ w4.cell? ⟨w.heap.size, 1, none⟩ = some a1 ∧ w4.cell? ⟨w.heap.size + 1, 0, none⟩ = some b0 ∧ w4.cell? ⟨w.heap.size + 1, 1, none⟩ = some b1) ∧
    (w4.cell? ⟨w.heap.size + 1 + 1, 0, none⟩ = some c0 ∧ w4.cell? ⟨w.heap.size + 1 + 1, 1, none⟩ = some c1 ∧ w4.frozen? ⟨w.heap.size + 1 + 1, 0, none⟩ = false ∧ w4.frozen? ⟨w.heap.size + 1 + 1, 1, none⟩ = false) ∧
    w.heap.size + 1 + 1 < w4.heap.size := by
  have hsz : W.heap.size = w.heap.size + 3 := by rw [hW]; simp
  have h0 : W.heap[w.heap.size]? = some (.cells #[a0, a1] T (0, 0)) := by
    rw [hW, Below.heap_alloc _ _ _ (by simp; omega), Below.heap_alloc _ _ _ (by simp)]; exact heap_alloc_new w _
  have h1 : W.heap[w.heap.size + 1]? = some (.cells #[b0, b1] T (0, 0)) := by
    rw [hW, Below.heap_alloc _ _ _ (by simp)]
    have := heap_alloc_new (w.alloc (.cells #[a0, a1] T)) (.cells #[b0, b1] T)
    simpa using this
  have h2 : W.heap[w.heap.size + 1 + 1]? = some (.cells #[c0, c1] T (0, 0)) := by
    rw [hW]
    have := heap_alloc_new ((w.alloc (.cells #[a0, a1] T)).alloc (.cells #[b0, b1] T)) (.cells #[c0, c1] T)
    simpa using this
  have hs := hb.size
  refine ⟨⟨?_, ?_, ?_, ?_⟩, ⟨?_, ?_, ?_, ?_⟩, by omega⟩
  · rw [bcell hb _ _ (by omega), cell_of_row _ _ 0 _ _ _ h0]; rfl
  · rw [bcell hb _ _ (by omega), cell_of_row _ _ 1 _ _ _ h0]; rfl
  · rw [bcell hb _ _ (by omega), cell_of_row _ _ 0 _ _ _ h1]; rfl
  · rw [bcell hb _ _ (by omega), cell_of_row _ _ 1 _ _ _ h1]; rfl
  · rw [bcell hb _ _ (by omega), cell_of_row _ _ 0 _ _ _ h2]; rfl
  · rw [bcell hb _ _ (by omega), cell_of_row _ _ 1 _ _ _ h2]; rfl
  · rw [bfroz hb _ _ (by omega)]; exact frozen_of_row _ _ 0 _ _ h2
  · rw [bfroz hb _ _ (by omega)]; exact frozen_of_row _ _ 1 _ _ h2

/-- Behind the store into the third of three new blocks. -/
theorem keep3 {B : Nat} {w4 : World} {a0 a1 b0 b1 : Value} (h : w4.cell? ⟨B, 0, none⟩ = some a0 ∧ w4.cell? ⟨B, 1, none⟩ = some a1 ∧ w4.cell? ⟨B + 1, 0, none⟩ = some b0 ∧ w4.cell? ⟨B + 1, 1, none⟩ = some b1) (x y : Value) :
    ((w4.setCell ⟨B + 1 + 1, 0, none⟩ x).setCell ⟨B + 1 + 1, 1, none⟩ y).cell? ⟨B, 0, none⟩ = some a0 ∧ ((w4.setCell ⟨B + 1 + 1, 0, none⟩ x).setCell ⟨B + 1 + 1, 1, none⟩ y).cell? ⟨B, 1, none⟩ = some a1 ∧
    ((w4.setCell ⟨B + 1 + 1, 0, none⟩ x).setCell ⟨B + 1 + 1, 1, none⟩ y).cell? ⟨B + 1, 0, none⟩ = some b0 ∧ ((w4.setCell ⟨B + 1 + 1, 0, none⟩ x).setCell ⟨B + 1 + 1, 1, none⟩ y).cell? ⟨B + 1, 1, none⟩ = some b1 := by
  have hb : Below (B + 1 + 1) w4 ((w4.setCell ⟨B + 1 + 1, 0, none⟩ x).setCell ⟨B + 1 + 1, 1, none⟩ y) := ((Below.refl (B + 1 + 1) w4).setCell (p := ⟨B + 1 + 1, 0, none⟩) (Nat.le_refl _) _).setCell (p := ⟨B + 1 + 1, 1, none⟩) (Nat.le_refl _) _
  rw [bcell hb B 0 (by omega), bcell hb B 1 (by omega), bcell hb (B + 1) 0 (by omega), bcell hb (B + 1) 1 (by omega)]
  exact h

/-- The end of Sum: what the call made is there behind the store; nothing old has turned. -/
theorem end3 {w W w4 : World} {o1 o2 o3 : Obj} (hW : W.heap = (((w.alloc o1).alloc o2).alloc o3).heap) (hos : W.os = w.os) (htape : W.tape = w.tape) (hout : W.output = w.output) (hb : Below W.heap.size W w4) {v : Value} {xs : List Nat} (ho : Own W.heap.size w4 v xs) (x y : Value) :
    Rd ((w4.setCell ⟨w.heap.size + 1 + 1, 0, none⟩ x).setCell ⟨w.heap.size + 1 + 1, 1, none⟩ y) v xs ∧ Below w.heap.size w ((w4.setCell ⟨w.heap.size + 1 + 1, 0, none⟩ x).setCell ⟨w.heap.size + 1 + 1, 1, none⟩ y) := by
  have hsz : W.heap.size = w.heap.size + 3 := by rw [hW]; simp
  have h0 : Below w.heap.size w W := by
    refine ⟨hos, htape, hout, by omega, fun k hk => ?_⟩
    rw [hW, Below.heap_alloc _ _ _ (by simp; omega), Below.heap_alloc _ _ _ (by simp; omega), Below.heap_alloc _ _ _ hk]
  exact ⟨((ho.setBelow (by simp; omega) x).setBelow (by simp; omega) y).rd, ((h0.trans (hb.mono (by omega))).setCell (by simp; omega) _).setCell (by simp; omega) _⟩

/-- What was there is there in the world of the three new blocks. -/
theorem rd3 {w W : World} {o1 o2 o3 : Obj} (hW : W.heap = (((w.alloc o1).alloc o2).alloc o3).heap) {v : Value} {xs : List Nat} (h : Rd w v xs) : Rd W v xs := by
  have := ((h.alloc o1).alloc o2).alloc o3
  unfold Rd Own World.ownsRow at *
  rw [hW]; exact this

set_option maxRecDepth 20000 in
set_option maxHeartbeats 2000000 in
theorem sum_same (w : World) (va vb : Value) (a b : Nat) (m : Bool) (ha : Rd w va (digs a)) (hb : Rd w vb (digs b)) (la : (digs a).length ≤ 90) (lb : (digs b).length ≤ 90) :
    Calls Tryd.prog 35 #[.agg #[.bool m, va], .agg #[.bool m, vb]] w fun e w' => ∃ v, e = .returned (.agg #[.bool m, v]) ∧ Rd w' v (digs (a + b)) ∧ Below w.heap.size w w' := by
  obtain ⟨pa, ca, rfl⟩ := ha.lens rfl
  obtain ⟨pb, cb, rfl⟩ := hb.lens rfl
  have hs1 : valD (digs a) + valD (digs b) = a + b := by rw [Num.valD_digs, Num.valD_digs]
  have HS1 := Lib.hid hs1; clear hs1
  go_enter Tryd.func35, Tryd.ntmps35
  go_wp2
  go_region_held3 (fun w' => w'.cell? ⟨w.heap.size, 0, none⟩ = some (.bool m) ∧ w'.cell? ⟨w.heap.size, 1, none⟩ = some (.slice pa (digs a).length ca) ∧ w'.cell? ⟨w.heap.size + 1, 0, none⟩ = some (.bool m) ∧ w'.cell? ⟨w.heap.size + 1, 1, none⟩ = some (.slice pb (digs b).length cb))
    (first | exact keep3 S4 _ _ | exact S4 | go_keep)
    (first | (go_at_call 37; refine (plus_any _ _ _ _ _ (by exact rd3 rfl ha) (by exact rd3 rfl hb) (Num.digs_ten _) (Num.digs_ten _) (by omega) (by omega)).mono ?_; rintro e w4 ⟨v4, rfl, hown4, hbel4⟩; obtain ⟨p4, c4, rfl⟩ := hown4.lens rfl; obtain ⟨S4, ⟨hc0, hc1, hf0, hf1⟩, hsz4⟩ := box3 (w := w) (by rfl) hbel4))
  rw [HS1.out] at *
  go_wp2
  refine bodyPost_ret (v := .agg #[.bool m, .slice p4 (digs (a + b)).length c4]) (by simp [results, Tryd.results35, go_sem, hc0, hc1, hf0, hf1]) rfl ⟨_, rfl, end3 (w := w) (by rfl) (by rfl) (by rfl) (by rfl) hbel4 hown4 _ _⟩
set_option maxRecDepth 20000 in
set_option maxHeartbeats 2000000 in
theorem sum_lt (w : World) (va vb : Value) (a b : Nat) (m n : Bool) (hmn : (m == n) = false) (ha : Rd w va (digs a)) (hb : Rd w vb (digs b)) (la : (digs a).length ≤ 90) (lb : (digs b).length ≤ 90) (hlt : a < b) :
    Calls Tryd.prog 35 #[.agg #[.bool m, va], .agg #[.bool n, vb]] w fun e w' => ∃ v, e = .returned (.agg #[.bool n, v]) ∧ Rd w' v (digs (b - a)) ∧ Below w.heap.size w w' := by
  obtain ⟨pa, ca, rfl⟩ := ha.lens rfl
  obtain ⟨pb, cb, rfl⟩ := hb.lens rfl
  have hs1 : valD (digs b) - valD (digs a) = b - a := by rw [Num.valD_digs, Num.valD_digs]
  have HS1 := Lib.hid hs1; clear hs1
  have hd : decide (a < b) = true := by simp; omega
  have HD := Lib.hid hd; clear hd
  go_enter Tryd.func35, Tryd.ntmps35
  go_wp2_with fail
  go_must (refine (less_any _ _ _ a b (by exact rd3 rfl ha) (by exact rd3 rfl hb) (by omega) (by omega) true HD.out).mono ?_); rintro e w3 ⟨rfl, hbel3⟩
  obtain ⟨S3, ⟨gc0, gc1, gf0, gf1⟩, hsz3⟩ := box3 (w := w) (by rfl) hbel3
  obtain ⟨s0, s1, s2, s3⟩ := S3
  have ra := (rd3 (w := w) (by rfl) ha).below hbel3
  have rb := (rd3 (w := w) (by rfl) hb).below hbel3
  go_wp2
  go_region_held3 (fun w' => w'.cell? ⟨w.heap.size, 0, none⟩ = some (.bool m) ∧ w'.cell? ⟨w.heap.size, 1, none⟩ = some (.slice pa (digs a).length ca) ∧ w'.cell? ⟨w.heap.size + 1, 0, none⟩ = some (.bool n) ∧ w'.cell? ⟨w.heap.size + 1, 1, none⟩ = some (.slice pb (digs b).length cb))
    (first | exact keep3 S4 _ _ | exact S4 | go_keep)
    (first | (go_at_call 53; refine (minus_any _ _ _ _ _ rb.drew ra.drew (Num.digs_ten _) (Num.digs_ten _) ?_ (Num.digs_length_mono ?_) ?_).mono ?_; omega; omega; (rw [Num.valD_digs, Num.valD_digs]; omega); rintro e w4 ⟨v4, rfl, hown4, hbel4⟩; obtain ⟨p4, c4, rfl⟩ := hown4.lens rfl; have hbel5 := hbel3.drew.trans (hbel4.mono hbel3.size); obtain ⟨S4, ⟨hc0, hc1, hf0, hf1⟩, hsz4⟩ := box3 (w := w) (by rfl) hbel5))
  rw [HS1.out] at *
  go_wp2
  refine bodyPost_ret (v := .agg #[.bool n, .slice p4 (digs (b - a)).length c4]) (by simp [results, Tryd.results35, go_sem, hc0, hc1, hf0, hf1]) rfl ⟨_, rfl, end3 (w := w) (by rfl) (by rfl) (by rfl) (by rfl) hbel5 (hown4.base hbel3.size) _ _⟩

set_option maxRecDepth 20000 in
set_option maxHeartbeats 2000000 in
theorem sum_ge (w : World) (va vb : Value) (a b : Nat) (m n : Bool) (hmn : (m == n) = false) (ha : Rd w va (digs a)) (hb : Rd w vb (digs b)) (la : (digs a).length ≤ 90) (lb : (digs b).length ≤ 90) (hlt : b ≤ a) :
    Calls Tryd.prog 35 #[.agg #[.bool m, va], .agg #[.bool n, vb]] w fun e w' => ∃ v, e = .returned (.agg #[.bool m, v]) ∧ Rd w' v (digs (a - b)) ∧ Below w.heap.size w w' := by
  obtain ⟨pa, ca, rfl⟩ := ha.lens rfl
  obtain ⟨pb, cb, rfl⟩ := hb.lens rfl
  have hs1 : valD (digs a) - valD (digs b) = a - b := by rw [Num.valD_digs, Num.valD_digs]
  have HS1 := Lib.hid hs1; clear hs1
  have hd : decide (a < b) = false := by simp; omega
  have HD := Lib.hid hd; clear hd
  go_enter Tryd.func35, Tryd.ntmps35
  go_wp2_with fail
  go_must (refine (less_any _ _ _ a b (by exact rd3 rfl ha) (by exact rd3 rfl hb) (by omega) (by omega) false HD.out).mono ?_); rintro e w3 ⟨rfl, hbel3⟩
  obtain ⟨S3, ⟨gc0, gc1, gf0, gf1⟩, hsz3⟩ := box3 (w := w) (by rfl) hbel3
  obtain ⟨s0, s1, s2, s3⟩ := S3
  have ra := (rd3 (w := w) (by rfl) ha).below hbel3
  have rb := (rd3 (w := w) (by rfl) hb).below hbel3
  go_wp2
  go_region_held3 (fun w' => w'.cell? ⟨w.heap.size, 0, none⟩ = some (.bool m) ∧ w'.cell? ⟨w.heap.size, 1, none⟩ = some (.slice pa (digs a).length ca) ∧ w'.cell? ⟨w.heap.size + 1, 0, none⟩ = some (.bool n) ∧ w'.cell? ⟨w.heap.size + 1, 1, none⟩ = some (.slice pb (digs b).length cb))
    (first | exact keep3 S4 _ _ | exact S4 | go_keep)
    (first | (go_at_call 53; refine (minus_any _ _ _ _ _ ra.drew rb.drew (Num.digs_ten _) (Num.digs_ten _) ?_ (Num.digs_length_mono ?_) ?_).mono ?_; omega; omega; (rw [Num.valD_digs, Num.valD_digs]; omega); rintro e w4 ⟨v4, rfl, hown4, hbel4⟩; obtain ⟨p4, c4, rfl⟩ := hown4.lens rfl; have hbel5 := hbel3.drew.trans (hbel4.mono hbel3.size); obtain ⟨S4, ⟨hc0, hc1, hf0, hf1⟩, hsz4⟩ := box3 (w := w) (by rfl) hbel5))
  rw [HS1.out] at *
  go_wp2
  refine bodyPost_ret (v := .agg #[.bool m, .slice p4 (digs (a - b)).length c4]) (by simp [results, Tryd.results35, go_sem, hc0, hc1, hf0, hf1]) rfl ⟨_, rfl, end3 (w := w) (by rfl) (by rfl) (by rfl) (by rfl) hbel5 (hown4.base hbel3.size) _ _⟩

end Go.Proofs.YthfgpmiammfcaaaDoor
