/-
The reference of stage 5: Parse and Text, by contracts.
-/
import Derived.Test.YtfgopiopeidfmaaDoorSRNum
import Derived.Test.YtfgopiopeidfmaaDoorSBytes
import Derived.Deep.QuietTactic
import Derived.BigQuiet
namespace Go.Proofs.YtfgopiopeidfmaaDoor
open Go.RowKit Go.Proofs.YtfgopiopeidfmaaDoor.Dig

def parseT : Option (Nat × Nat) → Value
  | some (t, r) => .tuple #[idV t (r : Int), .bool true]
  | none => .tuple #[idV 0 0, .bool false]

theorem ext_take (l : List UInt8) (k : Nat) : (⟨l.toArray⟩ : ByteArray).extract 0 k = ⟨(l.take k).toArray⟩ := by
  apply ByteArray.ext
  simp
theorem ext_drop (l : List UInt8) (k n : Nat) (h : n = l.length) : (⟨l.toArray⟩ : ByteArray).extract k n = ⟨(l.drop k).toArray⟩ := by
  apply ByteArray.ext
  simp
  rw [List.take_of_length_le (by simp; omega)]

/-- The result's box, and the new one. -/
theorem fin_world (w w2 : World) {T : TypeId} (hx : Below (w.alloc (.cells #[.int .u64 0, .int .i64 0] T)).heap.size (w.alloc (.cells #[.int .u64 0, .int .i64 0] T)) w2) (hz : (w.alloc (.cells #[.int .u64 0, .int .i64 0] T)).heap[w.heap.size]? = some (.cells #[.int .u64 0, .int .i64 0] T (0, 0))) (t r : Int) :
    (w2.alloc (.cells #[.int .u64 t, .int .i64 r] T)).cell? ⟨w.heap.size, 0, none⟩ = some (.int .u64 0) ∧ (w2.alloc (.cells #[.int .u64 t, .int .i64 r] T)).cell? ⟨w.heap.size, 1, none⟩ = some (.int .i64 0) ∧
    (w2.alloc (.cells #[.int .u64 t, .int .i64 r] T)).frozen? ⟨w.heap.size, 0, none⟩ = false ∧ (w2.alloc (.cells #[.int .u64 t, .int .i64 r] T)).frozen? ⟨w.heap.size, 1, none⟩ = false ∧
    (w2.alloc (.cells #[.int .u64 t, .int .i64 r] T)).cell? ⟨w2.heap.size, 0, none⟩ = some (.int .u64 t) ∧ (w2.alloc (.cells #[.int .u64 t, .int .i64 r] T)).cell? ⟨w2.heap.size, 1, none⟩ = some (.int .i64 r) := by
  have hrow : w2.heap[w.heap.size]? = some (.cells #[.int .u64 0, .int .i64 0] T (0, 0)) := (hx.block _ (by simp)).trans hz
  have hrow2 := heap_old (o := .cells #[.int .u64 t, .int .i64 r] T) hrow
  refine ⟨by rw [cell_of_row _ _ 0 _ _ _ hrow2]; rfl, by rw [cell_of_row _ _ 1 _ _ _ hrow2]; rfl, by simp only [World.frozen?, hrow2]; rfl, by simp only [World.frozen?, hrow2]; rfl, by rw [cell_of_row _ _ 0 _ _ _ (heap_new rfl)]; rfl, by rw [cell_of_row _ _ 1 _ _ _ (heap_new rfl)]; rfl⟩

theorem fin_below (w w2 : World) {o o2 : Obj} (hx : Below (w.alloc o).heap.size (w.alloc o) w2) (a b : Value) : Below w.heap.size w (((w2.alloc o2).setCell ⟨w.heap.size, 0, none⟩ a).setCell ⟨w.heap.size, 1, none⟩ b) := by
  have h1 : Below w.heap.size w w2 := (below_alloc w o).trans (hx.mono (below_alloc w o).size)
  have h2 := h1.alloc h1.size o2
  exact (h2.setCell (p := ⟨w.heap.size, 0, none⟩) (Nat.le_refl _) a).setCell (p := ⟨w.heap.size, 1, none⟩) (Nat.le_refl _) b

theorem fin_below0 (w : World) {o : Obj} (a b : Value) : Below w.heap.size w (((w.alloc o).setCell ⟨w.heap.size, 0, none⟩ a).setCell ⟨w.heap.size, 1, none⟩ b) :=
  ((below_alloc w o).setCell (p := ⟨w.heap.size, 0, none⟩) (Nat.le_refl _) a).setCell (p := ⟨w.heap.size, 1, none⟩) (Nat.le_refl _) b
theorem fin_keep (w w2 : World) {o : Obj} {w4 : World} {x0 x1 y0 y1 : Value} (hb : Below (w2.alloc o).heap.size (w2.alloc o) w4)
    (c0 : (w2.alloc o).cell? ⟨w.heap.size, 0, none⟩ = some x0) (c1 : (w2.alloc o).cell? ⟨w.heap.size, 1, none⟩ = some x1) (f0 : (w2.alloc o).frozen? ⟨w.heap.size, 0, none⟩ = false) (f1 : (w2.alloc o).frozen? ⟨w.heap.size, 1, none⟩ = false)
    (q0 : (w2.alloc o).cell? ⟨w2.heap.size, 0, none⟩ = some y0) (q1 : (w2.alloc o).cell? ⟨w2.heap.size, 1, none⟩ = some y1) :
    w4.cell? ⟨w.heap.size, 0, none⟩ = some x0 ∧ w4.cell? ⟨w.heap.size, 1, none⟩ = some x1 ∧ w4.frozen? ⟨w.heap.size, 0, none⟩ = false ∧ w4.frozen? ⟨w.heap.size, 1, none⟩ = false ∧ w4.cell? ⟨w2.heap.size, 0, none⟩ = some y0 ∧ w4.cell? ⟨w2.heap.size, 1, none⟩ = some y1 := by
  have hlt : w.heap.size < (w2.alloc o).heap.size := World.block_lt_of_cell? _ _ c0
  have hlt2 : w2.heap.size < (w2.alloc o).heap.size := World.block_lt_of_cell? _ _ q0
  exact ⟨(hb.cell (p := ⟨w.heap.size, 0, none⟩) hlt).trans c0, (hb.cell (p := ⟨w.heap.size, 1, none⟩) hlt).trans c1, (hb.frozen (p := ⟨w.heap.size, 0, none⟩) hlt).trans f0, (hb.frozen (p := ⟨w.heap.size, 1, none⟩) hlt).trans f1, (hb.cell (p := ⟨w2.heap.size, 0, none⟩) hlt2).trans q0, (hb.cell (p := ⟨w2.heap.size, 1, none⟩) hlt2).trans q1⟩
theorem fin_below4 (w w2 : World) {o o2 : Obj} {w4 : World} (hx : Below (w.alloc o).heap.size (w.alloc o) w2) (hb : Below (w2.alloc o2).heap.size (w2.alloc o2) w4) (a b : Value) : Below w.heap.size w ((w4.setCell ⟨w.heap.size, 0, none⟩ a).setCell ⟨w.heap.size, 1, none⟩ b) := by
  have h1 : Below w.heap.size w w2 := (below_alloc w o).trans (hx.mono (below_alloc w o).size)
  have h2 := h1.alloc h1.size o2
  have h3 := h2.trans (hb.mono h2.size)
  exact (h3.setCell (p := ⟨w.heap.size, 0, none⟩) (Nat.le_refl _) a).setCell (p := ⟨w.heap.size, 1, none⟩) (Nat.le_refl _) b

set_option maxRecDepth 20000 in
set_option maxHeartbeats 1000000 in
theorem rparse_form (l : List UInt8) (hl : l.length ≤ 1000) (w : World) :
    Calls Tryd.prog 23 #[.string ⟨l.toArray⟩] w fun e w' => e = .returned (parseT (parseV l)) ∧ Below w.heap.size w w' := by
  obtain ⟨n, hn⟩ : ∃ n, n = l.length := ⟨_, rfl⟩
  have hsz : (⟨l.toArray⟩ : ByteArray).size = n := by rw [hn]; rfl
  rw [← hn] at hl
  have HN := Lib.hid hn
  clear hn
  go_enter Tryd.func23, Tryd.ntmps23
  go_wp2
  go_loop [4] (fun i => ∃ (k : Nat), k ≤ n ∧ i = .int .i64 (k : Int) ∧ Hid (∀ j c, j < k → l[j]? = some c → c ≠ 64)) (fun i => n - (intOf i).toNat)
  case atStart => exact ⟨0, Nat.zero_le _, rfl, Lib.hid (fun j c h => absurd h (Nat.not_lt_zero _))⟩
  case round =>
    obtain ⟨k, hk, rfl, HJ⟩ := hrel
    by_cases hkn : k < n
    · obtain ⟨c, hc⟩ : ∃ c, l[k]? = some c := ⟨_, List.getElem?_eq_getElem (by rw [← HN.out]; exact hkn)⟩
      have hget : ∀ h, (⟨l.toArray⟩ : ByteArray)[k]'h = c := fun h => by
        have h2 := (List.getElem?_eq_some_iff.1 hc).2
        exact h2
      have HC := Lib.hid hc
      by_cases h64 : c = 64
      · subst h64
        have hpv := parseV_at HJ.out HC.out
        have HPV := Lib.hid hpv
        have HG := Lib.hid hget
        clear hc hpv
        have hz := box_new w rfl 0 0 24
        have hfz : (w.alloc (.cells #[.int .u64 0, .int .i64 0] 24)).heap[w.heap.size]? = some (.cells #[.int .u64 0, .int .i64 0] 24 (0, 0)) := heap_new rfl
        have HFZ := Lib.hid hfz
        clear hz hfz
        have hn1 := rnumber_form (l.take k) 1099511627776 (by simp; omega) (by omega) (by omega) (w.alloc (.cells #[.int .u64 0, .int .i64 0] 24))
        have hn2 := fun w2 => rnumber_form (l.drop (k + 1)) 64 (by simp; have := HN.out; omega) (by omega) (by omega) w2
        have HEX := Lib.hid (ext_drop l (k + 1) n HN.out)
        cases h1 : numV (l.take k) 1099511627776 with
        | none =>
          rw [h1] at hn1
          unfold numT at hn1
          simp only at hn1
          have HN1 := Lib.hid hn1
          cases h2 : numV (l.drop (k + 1)) 64 with
          | none =>
            rw [h2] at hn2
            unfold numT at hn2
            simp only at hn2
            have HN2 := Lib.hid hn2
            rw [h1, h2] at HPV
            clear hn1 hn2 h1 h2
            go_wp2_with fail
            rw [ext_take]
            refine (HN1.out).mono ?_
            rintro e w1 ⟨rfl, hb1⟩
            go_wp2_with fail
            rw [HEX.out]
            refine (HN2.out _).mono ?_
            rintro e w2 ⟨rfl, hb2⟩
            have hx2 := hb1.trans (hb2.mono hb1.size)
            obtain ⟨c0, c1, f0, f1, q0, q1⟩ := fin_world w w2 hx2 HFZ.out 0 0
            go_wp2_with fail
            refine bodyPost_ret (v := .tuple #[.agg #[.int .u64 0, .int .i64 0], .bool false]) (by simp [results, Tryd.results23, go_sem, c0, c1, f0, f1]) rfl ⟨by rw [HPV.out]; rfl, fin_below w w2 hx2 _ _⟩
          | some r =>
            rw [h2] at hn2
            unfold numT at hn2
            simp only at hn2
            have HN2 := Lib.hid hn2
            rw [h1, h2] at HPV
            have hr64 := (numV_iff.1 h2).2
            clear hn1 hn2 h1 h2
            go_wp2_with fail
            rw [ext_take]
            refine (HN1.out).mono ?_
            rintro e w1 ⟨rfl, hb1⟩
            go_wp2_with fail
            rw [HEX.out]
            refine (HN2.out _).mono ?_
            rintro e w2 ⟨rfl, hb2⟩
            have hx2 := hb1.trans (hb2.mono hb1.size)
            obtain ⟨c0, c1, f0, f1, q0, q1⟩ := fin_world w w2 hx2 HFZ.out 0 (r : Int)
            go_wp2_with fail
            refine bodyPost_ret (v := .tuple #[.agg #[.int .u64 0, .int .i64 0], .bool false]) (by simp [results, Tryd.results23, go_sem, c0, c1, f0, f1]) rfl ⟨by rw [HPV.out]; rfl, fin_below w w2 hx2 _ _⟩
        | some t =>
          rw [h1] at hn1
          unfold numT at hn1
          simp only at hn1
          have HN1 := Lib.hid hn1
          cases h2 : numV (l.drop (k + 1)) 64 with
          | none =>
            rw [h2] at hn2
            unfold numT at hn2
            simp only at hn2
            have HN2 := Lib.hid hn2
            rw [h1, h2] at HPV
            have ht40 := (numV_iff.1 h1).2
            have hwt : IntKind.u64.wrap (t : Int) = (t : Int) := by rw [IntKind.wrap_u64]; omega
            clear hn1 hn2 h1 h2
            go_wp2_with fail
            rw [ext_take]
            refine (HN1.out).mono ?_
            rintro e w1 ⟨rfl, hb1⟩
            go_wp2_with fail
            rw [HEX.out]
            refine (HN2.out _).mono ?_
            rintro e w2 ⟨rfl, hb2⟩
            have hx2 := hb1.trans (hb2.mono hb1.size)
            obtain ⟨c0, c1, f0, f1, q0, q1⟩ := fin_world w w2 hx2 HFZ.out (t : Int) 0
            go_wp2_with fail
            refine bodyPost_ret (v := .tuple #[.agg #[.int .u64 0, .int .i64 0], .bool false]) (by simp [results, Tryd.results23, go_sem, c0, c1, f0, f1]) rfl ⟨by rw [HPV.out]; rfl, fin_below w w2 hx2 _ _⟩
          | some r =>
            rw [h2] at hn2
            unfold numT at hn2
            simp only at hn2
            have HN2 := Lib.hid hn2
            rw [h1, h2] at HPV
            have ht40 := (numV_iff.1 h1).2
            have hwt : IntKind.u64.wrap (t : Int) = (t : Int) := by rw [IntKind.wrap_u64]; omega
            have hr64 := (numV_iff.1 h2).2
            clear hn1 hn2 h1 h2
            go_wp2_with fail
            rw [ext_take]
            refine (HN1.out).mono ?_
            rintro e w1 ⟨rfl, hb1⟩
            go_wp2_with fail
            rw [HEX.out]
            refine (HN2.out _).mono ?_
            rintro e w2 ⟨rfl, hb2⟩
            have hx2 := hb1.trans (hb2.mono hb1.size)
            obtain ⟨c0, c1, f0, f1, q0, q1⟩ := fin_world w w2 hx2 HFZ.out (t : Int) (r : Int)
            have hrg := rright_any t (r : Int) (w2.alloc (.cells #[.int .u64 (t : Int), .int .i64 (r : Int)] 24))
            cases hR : rightB t (r : Int) with
            | false =>
              rw [hR] at hrg
              unfold idV at hrg
              have HRG := Lib.hid hrg
              simp only [hR] at HPV
              clear hrg hR
              go_wp2_with fail
              refine (HRG.out).mono ?_
              rintro e w4 ⟨rfl, hb4⟩
              obtain ⟨d0, d1, e0, e1, r0, r1⟩ := fin_keep w w2 hb4 c0 c1 f0 f1 q0 q1
              clear c0 c1 f0 f1 q0 q1
              go_wp2_with fail
              refine bodyPost_ret (v := .tuple #[.agg #[.int .u64 0, .int .i64 0], .bool false]) (by simp [results, Tryd.results23, go_sem, d0, d1, e0, e1]) rfl ⟨by rw [HPV.out]; rfl, fin_below4 w w2 hx2 hb4 _ _⟩
            | true =>
              rw [hR] at hrg
              unfold idV at hrg
              have HRG := Lib.hid hrg
              simp only [hR] at HPV
              clear hrg hR
              go_wp2_with fail
              refine (HRG.out).mono ?_
              rintro e w4 ⟨rfl, hb4⟩
              obtain ⟨d0, d1, e0, e1, r0, r1⟩ := fin_keep w w2 hb4 c0 c1 f0 f1 q0 q1
              clear c0 c1 f0 f1 q0 q1
              go_wp2_with fail
              refine bodyPost_ret (v := .tuple #[.agg #[.int .u64 (t : Int), .int .i64 (r : Int)], .bool true]) (by simp [results, Tryd.results23, go_sem, d0, d1, e0, e1]) rfl ⟨by rw [HPV.out]; rfl, fin_below4 w w2 hx2 hb4 _ _⟩
      · have hj : ∀ j d, j < k + 1 → l[j]? = some d → d ≠ 64 := by
          intro j d hj hd
          rcases Nat.lt_or_ge j k with h | h
          · exact HJ.out j d h hd
          · obtain rfl : j = k := by omega
            have e := HC.out.symm.trans hd
            injection e with e
            rw [← e]; exact h64
        have HJ2 := Lib.hid hj
        have hne : ((c.toNat : Int) != 64) = true := by
          rw [bne_iff_ne]
          intro e
          exact h64 (UInt8.toNat_inj.1 (by simpa using (by omega : c.toNat = 64)))
        clear hc hj h64
        go_wp2
        go_round
        case rel => exact ⟨k + 1, by omega, by go_num, HJ2⟩
        case measure => simp [intOf]; omega
    · have hnone : parseV l = none := parseV_none (fun c hc => by
        obtain ⟨j, hj⟩ := List.getElem?_of_mem hc
        have := (List.getElem?_eq_some_iff.1 hj).1
        exact HJ.out j c (by have := HN.out; omega) hj)
      have HNO := Lib.hid hnone
      have hrow : (w.alloc (.cells #[.int .u64 0, .int .i64 0] 24)).heap[w.heap.size]? = some (.cells #[.int .u64 0, .int .i64 0] 24 (0, 0)) := heap_new rfl
      have c0 : (w.alloc (.cells #[.int .u64 0, .int .i64 0] 24)).cell? ⟨w.heap.size, 0, none⟩ = some (.int .u64 0) := by rw [cell_of_row _ _ 0 _ _ _ hrow]; rfl
      have c1 : (w.alloc (.cells #[.int .u64 0, .int .i64 0] 24)).cell? ⟨w.heap.size, 1, none⟩ = some (.int .i64 0) := by rw [cell_of_row _ _ 1 _ _ _ hrow]; rfl
      have f0 : (w.alloc (.cells #[.int .u64 0, .int .i64 0] 24)).frozen? ⟨w.heap.size, 0, none⟩ = false := by simp only [World.frozen?, hrow]; rfl
      have f1 : (w.alloc (.cells #[.int .u64 0, .int .i64 0] 24)).frozen? ⟨w.heap.size, 1, none⟩ = false := by simp only [World.frozen?, hrow]; rfl
      clear hnone hrow
      go_wp2_with fail
      refine bodyPost_ret (v := .tuple #[.agg #[.int .u64 0, .int .i64 0], .bool false]) (by simp [results, Tryd.results23, go_sem, c0, c1, f0, f1]) rfl ⟨by rw [HNO.out]; rfl, by first | exact below_alloc w _ | exact fin_below0 w _ _⟩
end Go.Proofs.YtfgopiopeidfmaaDoor
