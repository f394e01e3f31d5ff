/-
A Writer that is one slice of bytes behind a pointer: Bytes, Text, Done, by contracts; the chapter's example.
-/
import Derived.Test.YtcgkigcokjdkjaaWWriter
import Derived.Test.YtcgkigcokjdkjaaWClone
import Derived.Lib.ConvBytes
namespace Go.Proofs.Ytcgkigcokjdkjaa
open Go.RowKit
open Wire (numL valL takeL runL bytesL)

theorem Wr.base {B : Nat} {w : World} {g : Nat} {v : Value} {xs : List Nat} (h : Wr B w g v xs) : ∀ k, v.ownBlock = some k → B ≤ k := h.2.2.base_le

set_option maxRecDepth 20000 in
set_option maxHeartbeats 1000000 in
theorem wbytes_any (B g : Nat) (v : Value) (xs : List Nat) (vb : Value) (ys : List Nat) (w : World) (h : Wr B w g v xs) (hb : Rd w vb ys) (hl : xs.length ≤ 500000) (hl2 : ys.length ≤ 100000) (hB : B ≤ w.heap.size)
    (hd : ∀ w' v', Kept g v v' w w' → Rd w' vb ys) :
    Calls Try.prog 9 #[.pointer (some ⟨g, 0, none⟩), vb] w fun e w' => ∃ v', e = .returned (.pointer (some ⟨g, 0, none⟩)) ∧ Wr B w' g v' (xs ++ bytesL ys) ∧ Kept g v v' w w' := by
  obtain ⟨A, n, c, rfl, hn⟩ := hb.named
  have hnum := wnum_any B g v xs n (by omega) w h (by omega) hB
  have hby : bytesL ys = numL n ++ ys := by rw [hn]; rfl
  have hln := Wire.numL_length_10 (show n < 18446744073709551616 by omega)
  have HNUM := Lib.hid hnum
  have HD := Lib.hid hd
  have HY := Lib.hid hby
  have HL := Lib.hid hln
  have HL2 := Lib.hid hl2
  have hn1 : n ≤ 100000 := by omega
  clear hnum hd hby hln hl2 hn hb
  go_enter Try.func9, Try.ntmps9
  go_wp2_with (first
    | (go_at_call 7; (with_reducible refine (HNUM.out).mono ?_); rintro e w1 ⟨v1, rfl, hw1, hk1⟩; have hcell := hw1.cell; have HW1 := Lib.hid hw1; have HR1 := Lib.hid (HD.out _ _ hk1); have hB1 : B ≤ w1.heap.size := Nat.le_trans hB hk1.size; clear hw1)
    | (at_builtin; refine wp_appG rfl _ _ rfl B _ (xs ++ numL n) rfl HW1.out.2.2 _ ys rfl HR1.out (by have := HL.out; have := HL2.out; rw [List.length_append]; omega) hB1 ?_; intro v2 w2 hown2 hg2 hv2; (obtain ⟨A2, n2, c2, rfl, hn2⟩ := hown2.rd.named); clear hn2; obtain ⟨⟨hc2, hf2⟩, hw2, hk2⟩ := HW1.out.put hown2 hg2 hv2; have HW2 := Lib.hid hw2; clear hw2))
  go_ret
  refine ⟨_, rfl, ?_, hk1.trans hk2⟩
  rw [HY.out, ← List.append_assoc]; exact HW2.out

/-- A slice that lies in neither of the two is kept. -/
theorem Rd.kept {g : Nat} {u u' : Value} {w w' : World} {v : Value} {xs : List Nat} (h : Rd w v xs) (hk : Kept g u u' w w') (hg : v.ownBlock ≠ some g) (hd : ∀ k, u.ownBlock = some k → v.ownBlock ≠ some k) : Rd w' v xs := by
  rcases h with h | ⟨b, off, cap, rfl, hcap, hm, hlt, hc⟩
  · exact .inl h
  · have hb := hk.block b hlt (fun e => hg (by rw [e]; rfl)) (fun e => hd b e rfl)
    exact .inr ⟨b, off, cap, rfl, hcap, hm, Nat.lt_of_lt_of_le hlt hk.size, fun j x hx => (World.cell?_of_block (a := ⟨b, off + j, none⟩) hb).trans (hc j x hx)⟩

/-- '[]byte(s)': a new row with the bytes. -/
theorem conv_str (w : World) (ys : List Nat) (hy : ∀ y ∈ ys, y < 256) (hl : ys.length ≤ 100000) :
    ∃ vb wb, (convert 9 23 (.string (strN ys))).run Try.prog w = .ok vb wb ∧ Rd wb vb ys ∧ Below w.heap.size w wb ∧ vb.ownBlock = some w.heap.size := by
  refine ⟨_, _, Lib.run_convert_string_bytes (P := Try.prog) w 9 23 5 (strN ys) Try.underlying9 Try.underlying23 Try.underlying5, ?_, ?_, rfl⟩
  · have hsz := strN_size ys
    obtain ⟨i0, hi, hz0, hz1, hz2⟩ := info_parts info_u8
    rw [hsz]
    refine .inr ⟨w.heap.size, 0, _, rfl, ?_, ?_, by rw [Lib.bytesWorld_size]; omega, ?_⟩
    · exact grownCap_ge _ _ _ _
    · exact grownCap_le_maxLen _ _ _ _ (by unfold maxLen; omega)
    · intro j x hj
      have hlt := (List.getElem?_eq_some_iff.1 hj).1
      have hmem := hy x (List.mem_of_getElem? hj)
      rw [Nat.zero_add, Lib.bytesWorld_cell _ _ _ _ (by omega)]
      have hs := congrArg (fun l => l[j]?) (strCells_strN hy)
      simp only [Lib.strCells, List.getElem?_map, hj, Option.map_some] at hs
      obtain ⟨c, hc, hcx⟩ := Option.map_eq_some_iff.1 hs
      rw [List.getD_eq_getElem?_getD, hc]
      exact congrArg some hcx
  · refine ⟨rfl, rfl, rfl, by rw [Lib.bytesWorld_size]; omega, fun k hk => Lib.bytesWorld_at_old _ _ _ _ hk⟩

set_option maxRecDepth 20000 in
set_option maxHeartbeats 1000000 in
theorem wtext_any (B g : Nat) (v : Value) (xs : List Nat) (ys : List Nat) (hy : ∀ y ∈ ys, y < 256) (w : World) (h : Wr B w g v xs) (hl : xs.length ≤ 500000) (hl2 : ys.length ≤ 100000) (hB : B ≤ w.heap.size) :
    Calls Try.prog 11 #[.pointer (some ⟨g, 0, none⟩), .string (strN ys)] w fun e w' => ∃ v', e = .returned (.pointer (some ⟨g, 0, none⟩)) ∧ Wr B w' g v' (xs ++ bytesL ys) ∧ Kept g v v' w w' := by
  obtain ⟨vb, wb, hcv, hrd, hbel, hob⟩ := conv_str w ys hy hl2
  have hbytes := wbytes_any B g v xs vb ys wb (h.keep hbel) hrd hl hl2 (Nat.le_trans hB hbel.size) (fun w' v' hk => hrd.kept hk (by rw [hob]; intro e; injection e with e; have := h.lt; omega) (fun k hk' => by
    rw [hob]; intro e; injection e with e
    have := (World.ownsRow.lt h.2.2 k hk').2; omega))
  have HBY := Lib.hid hbytes
  have HK : Kept g v v w wb := Kept.of_below hbel
  have HKK := Lib.hid HK
  clear hbytes HK hbel hrd hob h hl hl2 hy
  go_enter Try.func11, Try.ntmps11
  go_wp2_with (go_at_call 9; (with_reducible refine (HBY.out).mono ?_); rintro e w1 ⟨v1, rfl, hw1, hk1⟩; have HW1 := Lib.hid hw1; clear hw1)
  go_ret
  exact ⟨_, rfl, HW1.out, HKK.out.trans hk1⟩

set_option maxRecDepth 20000 in
theorem wdone_any (B g : Nat) (v : Value) (xs : List Nat) (w : World) (h : Wr B w g v xs) (hl : xs.length ≤ 500000) :
    Calls Try.prog 12 #[.pointer (some ⟨g, 0, none⟩)] w fun e w' => ∃ v', e = .returned v' ∧ Own w.heap.size w' v' xs ∧ Below w.heap.size w w' := by
  have hcell := h.cell
  have hcl := clone_any v xs w h.2.2.rd hl
  have HC := Lib.hid hcl
  clear h hl hcl
  go_enter Try.func12, Try.ntmps12
  go_wp2_with (go_at_call 23; (with_reducible refine (HC.out).mono ?_); rintro e w1 ⟨v1, rfl, hown1, hb1⟩)
  go_ret
  exact ⟨_, rfl, hown1, hb1⟩

/-- A new Writer. -/
theorem Wr.new (w : World) : Wr w.heap.size (w.alloc (.cells #[.slice none 0 0] 25)) w.heap.size (.slice none 0 0) [] :=
  ⟨Nat.le_refl _, heap_new rfl, Own.nil _ _⟩

set_option maxRecDepth 20000 in
/-- awake. -/
theorem awake_any (w : World) : Calls Try.prog 6 #[] w fun e w' => e = .returned (.bool true) ∧ Below w.heap.size w w' := by
  have hex : strN (numL 300) = ⟨#[172, 2]⟩ := by
    have e : numL 300 = [172, 2] := by rw [Wire.numL_big (by decide), Wire.numL_small (by decide)]
    rw [e]; rfl
  have HE := Lib.hid hex; clear hex
  go_enter Try.func6, Try.ntmps6
  go_wp2_with (first
    | (go_at_call 7; (refine (wnum_any w.heap.size w.heap.size _ [] 300 (by decide) _ (Wr.new w) (by simp) (by simp)).mono ?_); rintro e w1 ⟨v1, rfl, hw1, hk1⟩; have HW1 := Lib.hid hw1; clear hw1)
    | (go_at_call 12; ((refine (wdone_any _ _ _ _ _ HW1.out (by simp; exact Nat.le_trans (Wire.numL_length_10 (by decide)) (by decide))).mono ?_); rintro e w2 ⟨v2, rfl, hown2, hb2⟩; have hcv := conv_rd hown2.rd; rw [List.nil_append, HE.out] at hcv)))
  go_ret
  have hB1 : Below w.heap.size w w1 := (below_alloc w _).trans (hk1.below (Nat.le_refl _) (fun k hk => by simp [Value.ownBlock] at hk) (by simp))
  exact ⟨rfl, hB1.trans (hb2.mono hB1.size)⟩
end Go.Proofs.Ytcgkigcokjdkjaa
