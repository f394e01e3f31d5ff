/-
strings.LastIndexAny of the two signs: at every string a place in it or -1; at a string of ASCII bytes the last sign's.
-/
import Derived.Test.YtkppkojpdhgicaaDoorGRune
import Derived.Lib.AsciiSet
import Derived.Lib.Builder
import Derived.Deep.WholeRow
namespace Go.Proofs.YtkppkojpdhgicaaDoor
open Go.RowKit Go.Proofs.YtkppkojpdhgicaaDoor.Gf

def isSign (b : UInt8) : Prop := b = 43 ∨ b = 45
instance (b : UInt8) : Decidable (isSign b) := inferInstanceAs (Decidable (_ ∨ _))
/-- No sign from place k on. -/
def NoSign (l : List UInt8) (k : Nat) : Prop := ∀ j b, k ≤ j → l[j]? = some b → ¬ isSign b
/-- r is the place of the last sign, or -1. -/
def LastS (l : List UInt8) (r : Int) : Prop := (r = -1 ∧ NoSign l 0) ∨ ∃ k : Nat, r = (k : Int) ∧ (∃ b, l[k]? = some b ∧ isSign b) ∧ NoSign l (k + 1)
def Ascii (l : List UInt8) : Prop := ∀ (j : Nat) b, l[j]? = some b → b.toNat < 128

theorem NoSign.top (l : List UInt8) (k : Nat) (h : l.length ≤ k) : NoSign l k := fun j b hj hb => by
  rw [List.getElem?_eq_none (by omega)] at hb; cases hb
theorem NoSign.down {l : List UInt8} {k : Nat} {b : UInt8} (h : NoSign l (k + 1)) (hb : l[k]? = some b) (hs : ¬ isSign b) : NoSign l k := fun j c hj hc => by
  rcases Nat.lt_or_ge k j with h' | h'
  · exact h j c h' hc
  · obtain rfl : j = k := by omega
    rw [hb] at hc; cases hc; exact hs

/-- What is said of the answer. -/
def LiaOk (l : List UInt8) (e : Ending) : Prop := ∃ r : Int, e = .returned (.int .i64 r) ∧ -1 ≤ r ∧ r < (l.length : Int) ∧ (Ascii l → LastS l r)

theorem sign_nat (b : UInt8) : isSign b ↔ (b.toNat = 43 ∨ b.toNat = 45) := by
  unfold isSign
  constructor
  · rintro (rfl | rfl) <;> decide
  · rintro (h | h)
    · exact .inl (UInt8.toNat_inj.1 (by rw [h]; rfl))
    · exact .inr (UInt8.toNat_inj.1 (by rw [h]; rfl))

set_option maxRecDepth 20000 in
set_option maxHeartbeats 2000000 in
/-- One byte. -/
theorem lia_one (s : ByteArray) (h1 : s.size = 1) (w : World) :
    Calls Tryd.prog 32 #[.string s, .string ⟨#[43, 45]⟩] w fun e w' => LiaOk s.data.toList e ∧ Below w.heap.size w w' := by
  obtain ⟨c, hc0⟩ : ∃ c : UInt8, s[0]'(by omega) = c := ⟨_, rfl⟩
  have hcl : s.data.toList[0]? = some c := by rw [← hc0]; exact Lib.data_getElem? s 0 (by omega)
  have hlen : s.data.toList.length = 1 := by rw [← Lib.size_eq]; exact h1
  have hn1 : ((s.size : Int) == 1) = true := beq_iff_eq.2 (by omega)
  have hsz : (0 : Int) < (s.size : Int) := by omega
  have HL := Lib.hid hlen; clear hlen
  have HC := Lib.hid hcl; clear hcl
  by_cases hs : c.toNat = 43 ∨ c.toNat = 45
  · have hcz : ¬ ((128 : Int) ≤ (c.toNat : Int)) := by omega
    have hi := fun w => ixr_yes c.toNat hs w
    go_enter Tryd.func32, Tryd.ntmps32
    go_wp2_with (go_at_call 37; go_must (refine (hi _).mono ?_); rintro e w' ⟨⟨v, rfl, hv1, hv2⟩, hb⟩)
    go_ret
    exact ⟨⟨0, rfl, by omega, by rw [HL.out]; omega, fun _ => .inr ⟨0, rfl, ⟨c, HC.out, (sign_nat c).2 hs⟩, NoSign.top _ _ (by rw [HL.out]; omega)⟩⟩, hb⟩
  have hno : LiaOk s.data.toList (.returned (.int .i64 (-1))) := ⟨-1, rfl, by omega, by rw [HL.out]; omega, fun _ => .inl ⟨rfl, (NoSign.top _ _ (by rw [HL.out]; omega)).down HC.out fun h => hs ((sign_nat c).1 h)⟩⟩
  have HN := Lib.hid hno; clear hno
  by_cases hc : c.toNat < 128
  · have hcz : ¬ ((128 : Int) ≤ (c.toNat : Int)) := by omega
    have hi := fun w => ixr_no c.toNat hs w
    go_enter Tryd.func32, Tryd.ntmps32
    go_wp2_with (go_at_call 37; go_must (refine (hi _).mono ?_); rintro e w' ⟨rfl, hb⟩)
    go_ret
    exact ⟨HN.out, hb⟩
  · have hcz : ((128 : Int) ≤ (c.toNat : Int)) := by omega
    have hc2 : (c.toNat : Int) ≤ 255 := by have := UInt8.toNat_lt c; omega
    have hi := fun w => ixr_err w
    go_enter Tryd.func32, Tryd.ntmps32
    go_wp2_with (go_at_call 37; go_must (refine (hi _).mono ?_); rintro e w' ⟨rfl, hb⟩)
    go_ret
    exact ⟨HN.out, hb⟩

theorem setc (x : UInt8) : ([43, 45] : List UInt8).contains x = decide (isSign x) := by
  by_cases h : isSign x
  · rw [decide_eq_true h]
    rcases h with rfl | rfl <;> decide
  · rw [decide_eq_false h]
    unfold isSign at h
    simp only [not_or] at h
    simp [h.1, h.2]

/-- What the set's maker asks: [256]bool's nought. -/
theorem info_set : (Tryd.prog.info? 72).map (fun i => (i.zero, i.size)) = some (some (.agg (Array.replicate 256 (.bool false))), 256) := by kernel_rfl

set_option maxRecDepth 1000000 in
set_option maxHeartbeats 8000000 in
/-- More than eight bytes. -/
theorem lia_long (s : ByteArray) (h8 : 8 < s.size) (hs : s.size ≤ 1000000) (w : World) :
    Calls Tryd.prog 32 #[.string s, .string ⟨#[43, 45]⟩] w fun e w' => LiaOk s.data.toList e ∧ Below w.heap.size w w' := by
  have hM := Tryd.strings_makeASCIISet (zero_of_info info_set).1 ⟨#[43, 45]⟩ w (by decide) (fun j b hb => by
    match j, hb with
    | 0, hb => cases hb; decide
    | 1, hb => cases hb; decide
    | j + 2, hb => simp at hb)
  rw [show (⟨#[43, 45]⟩ : ByteArray).data.toList = [43, 45] from rfl] at hM
  have hn1 : ((s.size : Int) == 1) = false := beq_eq_false_iff_ne.2 (by omega)
  have h8z : decide ((8 : Int) < (s.size : Int)) = true := decide_eq_true (by omega)
  obtain ⟨S, hS⟩ : ∃ S, Lib.setCells [43, 45] = S := ⟨_, rfl⟩
  have hz72 := (zero_of_info info_set).1
  have hi72 := (zero_of_info info_set).2
  have hsc : (storeCells ⟨w.heap.size + 1, 0, none⟩ S.toList 0).run Tryd.prog ((w.alloc (.cells S 72)).alloc (.cells (Array.replicate 256 (.bool false)) 72)) = .ok () ((w.alloc (.cells S 72)).alloc (.cells S 72)) := by
    subst hS
    have := run_storeCells_new (P := Tryd.prog) (w.alloc (.cells (Lib.setCells [43, 45]) 72)) 72 (Array.replicate 256 (.bool false)) (Lib.setCells [43, 45]) (by rw [Lib.setCells_size]; exact hi72) (by rw [Lib.setCells_size, Array.size_replicate]) (Lib.setCells_one _)
    simpa using this
  have hsz : S.size = 256 := by rw [← hS]; exact Lib.setCells_size _
  have hcellAt : ∀ x : UInt8, ((w.alloc (.cells S 72)).alloc (.cells S 72)).cell? ⟨w.heap.size + 1, x.toNat, none⟩ = some (.bool (decide (isSign x))) := fun x => by
    rw [World.cell?_alloc_at _ _ _ _ (by simp), ← hS, Lib.setCells_at, setc]
  have HC := Lib.hid hcellAt
  rw [hS] at hM
  clear hcellAt hS
  go_enter Tryd.func32, Tryd.ntmps32
  go_wp2_with (first
    | (go_at_call 38; refine (Tryd.strings_shouldUseASCIISet _ _).mono ?_; rintro e w' ⟨rfl, hw⟩; rw [hw, h8z])
    | (go_at_call 39; refine hM.mono ?_; rintro e w' ⟨rfl, hw⟩; rw [hw]))
  clear hM hsc
  go_loop [8] (fun v => ∃ i : Nat, i ≤ s.size ∧ v = .int .i64 ((i : Int) - 1) ∧ Hid (NoSign s.data.toList i)) (fun v => (intOf v + 1).toNat)
  case atStart => exact ⟨s.size, Nat.le_refl _, rfl, NoSign.top _ _ (by rw [← Lib.size_eq]; exact Nat.le_refl _)⟩
  case round =>
    obtain ⟨i, hi, hv, HN⟩ := hrel
    have hb2 : Below w.heap.size w ((w.alloc (.cells S 72)).alloc (.cells S 72)) := ((Below.refl _ w).alloc (Nat.le_refl _) _).alloc (by simp) _
    cases i with
    | zero =>
      rw [show ((0 : Nat) : Int) - 1 = -1 from rfl] at hv
      subst hv
      go_wp2
      go_ret
      exact ⟨⟨-1, rfl, by omega, by rw [← Lib.size_eq]; omega, fun _ => .inl ⟨rfl, HN.out⟩⟩, hb2⟩
    | succ k =>
      rw [show ((k + 1 : Nat) : Int) - 1 = (k : Int) by omega] at hv
      subst hv
      have hk : k < s.size := by omega
      obtain ⟨x, hx⟩ : ∃ x : UInt8, s[k]'hk = x := ⟨_, rfl⟩
      have hxl : s.data.toList[k]? = some x := by rw [← hx]; exact Lib.data_getElem? s k hk
      have HX := Lib.hid hxl
      clear hxl
      have hcx := HC.out x
      by_cases hs : isSign x
      · rw [decide_eq_true hs] at hcx
        go_wp2_with (go_at_call 40; refine (Tryd.asciiSet_contains _ x _ _ hcx).mono ?_; rintro e w' ⟨rfl, hw⟩; rw [hw])
        go_ret
        exact ⟨⟨k, rfl, by omega, by rw [← Lib.size_eq]; omega, fun _ => .inr ⟨k, rfl, ⟨x, HX.out, hs⟩, HN.out⟩⟩, hb2⟩
      · rw [decide_eq_false hs] at hcx
        go_wp2_with (go_at_call 40; refine (Tryd.asciiSet_contains _ x _ _ hcx).mono ?_; rintro e w' ⟨rfl, hw⟩; rw [hw])
        go_round
        case rel => exact ⟨k, by omega, rfl, HN.out.down HX.out hs⟩
        case measure => simp [intOf]

theorem decl_bounds (l : List UInt8) (h : l ≠ []) : 1 ≤ (Lib.decodeLastL l).2 ∧ (Lib.decodeLastL l).2 ≤ l.length := by
  have hl : 0 < l.length := List.length_pos_iff.2 h
  have hs := Lib.lastStart_lt l h
  unfold Lib.decodeLastL
  rw [if_neg h]
  split
  · exact ⟨Nat.le_refl _, hl⟩
  · simp only
    split
    · omega
    · exact ⟨Nat.le_refl _, hl⟩
theorem decl_ascii (l : List UInt8) (k : Nat) (x : UInt8) (hk : l.length = k + 1) (hx : l[k]? = some x) (h : x.toNat < 128) : Lib.decodeLastL l = (x.toNat, 1) := by
  have hne : l ≠ [] := fun e => by rw [e] at hk; simp at hk
  have e : l.getD (l.length - 1) 0 = x := by
    rw [hk, Nat.add_sub_cancel, List.getD_eq_getElem?_getD, hx]; rfl
  unfold Lib.decodeLastL
  rw [if_neg hne, e, if_pos h]
theorem extract_list (s : ByteArray) (i : Nat) : (s.extract 0 i).data.toList = s.data.toList.take i := by
  simp [ByteArray.data_extract]

set_option maxRecDepth 1000000 in
set_option maxHeartbeats 8000000 in
/-- At most eight bytes, and not one. -/
theorem lia_short (s : ByteArray) (h8 : s.size ≤ 8) (h1 : s.size ≠ 1) (w : World) (hE : Env w) :
    Calls Tryd.prog 32 #[.string s, .string ⟨#[43, 45]⟩] w fun e w' => LiaOk s.data.toList e ∧ Below w.heap.size w w' := by
  have hn1 : ((s.size : Int) == 1) = false := beq_eq_false_iff_ne.2 (by omega)
  have h8z : decide ((8 : Int) < (s.size : Int)) = false := decide_eq_false (by omega)
  clear h1
  go_enter Tryd.func32, Tryd.ntmps32
  go_wp2_with (go_at_call 38; refine (Tryd.strings_shouldUseASCIISet _ _).mono ?_; rintro e w' ⟨rfl, hw⟩; rw [hw, h8z])
  go_loopw [13] (fun v wr => ∃ i : Nat, i ≤ s.size ∧ v = .int .i64 (i : Int) ∧ Below w.heap.size w wr ∧ Hid (Ascii s.data.toList → NoSign s.data.toList i)) (fun v _ => (intOf v).toNat)
  case atStart => exact ⟨s.size, Nat.le_refl _, rfl, Below.refl _ _, fun _ => NoSign.top _ _ (by rw [← Lib.size_eq]; exact Nat.le_refl _)⟩
  case round =>
    obtain ⟨i, hi, rfl, hbel, HN⟩ := hrel
    have hE' := hE.below hbel
    cases i with
    | zero =>
      go_wp2
      go_ret
      exact ⟨⟨-1, rfl, by omega, by rw [← Lib.size_eq]; omega, fun h => .inl ⟨rfl, HN.out h⟩⟩, hbel⟩
    | succ k =>
      have hk : k < s.size := by omega
      obtain ⟨x, hx⟩ : ∃ x : UInt8, s[k]'hk = x := ⟨_, rfl⟩
      have hxl : s.data.toList[k]? = some x := by rw [← hx]; exact Lib.data_getElem? s k hk
      have hD := Tryd.utf8_DecodeLastRuneInString (s.extract 0 (k + 1)) wr (by simp [ByteArray.size_extract]; omega) hE'.u8
      have hlen : s.data.toList.length = s.size := (Lib.size_eq s).symm
      have hle : (s.data.toList.take (k + 1)).length = k + 1 := by simp [hlen]; omega
      have hxe : (s.data.toList.take (k + 1))[k]? = some x := by simp [hxl]
      rw [extract_list] at hD
      have hdb := decl_bounds (s.data.toList.take (k + 1)) (fun e => by rw [e] at hle; simp at hle)
      have hda := decl_ascii _ k x hle hxe
      rw [hle] at hdb
      have HX := Lib.hid hxl
      have HL := Lib.hid hlen
      clear hxl hx hle hxe hlen
      by_cases hx1 : x.toNat < 128
      · rw [hda hx1] at hD
        have hD' : Calls Tryd.prog 41 #[.string (s.extract 0 (k + 1))] wr fun e w' => e = .returned (.tuple #[.int .i32 (x.toNat : Int), .int .i64 1]) ∧ Below wr.heap.size wr w' := hD
        clear hdb hda hD
        have hkk : ((k + 1 : Nat) : Int) - 1 = (k : Int) := by omega
        by_cases hs : x.toNat = 43 ∨ x.toNat = 45
        · go_wp2_with fail
          go_must (refine hD'.mono ?_); rintro e w1 ⟨rfl, hb1⟩
          go_wp2_with fail
          go_must (refine (ixr_yes x.toNat hs _).mono ?_); rintro e w2 ⟨⟨v, rfl, hv1, hv2⟩, hb2⟩
          have hb02 := hbel.trans ((hb1.trans (hb2.mono hb1.size)).mono hbel.size)
          go_wp2
          go_ret
          exact ⟨⟨k, by rw [← hkk]; rfl, by omega, by rw [HL.out]; omega, fun h => .inr ⟨k, rfl, ⟨x, HX.out, (sign_nat x).2 hs⟩, HN.out h⟩⟩, hb02⟩
        · go_wp2_with fail
          go_must (refine hD'.mono ?_); rintro e w1 ⟨rfl, hb1⟩
          go_wp2_with fail
          go_must (refine (ixr_no x.toNat hs _).mono ?_); rintro e w2 ⟨rfl, hb2⟩
          have hb02 := hbel.trans ((hb1.trans (hb2.mono hb1.size)).mono hbel.size)
          go_wp2
          go_roundw
          case rel => exact ⟨k, by omega, by go_num, hb02, fun h => (HN.out h).down HX.out fun h => hs ((sign_nat x).1 h)⟩
          case measure => simp [intOf]
      · obtain ⟨⟨r, n⟩, hrn⟩ : ∃ p, Lib.decodeLastL (s.data.toList.take (k + 1)) = p := ⟨_, rfl⟩
        rw [hrn] at hD hdb
        have hD' : Calls Tryd.prog 41 #[.string (s.extract 0 (k + 1))] wr fun e w' => e = .returned (.tuple #[.int .i32 (r : Int), .int .i64 (n : Int)]) ∧ Below wr.heap.size wr w' := hD
        obtain ⟨hn0, hn2⟩ : 1 ≤ n ∧ n ≤ k + 1 := hdb
        have hna : ¬ Ascii s.data.toList := fun h => hx1 (h k x HX.out)
        have HNA := Lib.hid hna
        clear hD hda hrn hna hx1
        have hkk : ((k + 1 : Nat) : Int) - (n : Int) = ((k + 1 - n : Nat) : Int) := by omega
        have HKK := Lib.hid hkk
        clear hkk
        by_cases hs : r = 43 ∨ r = 45
        · go_wp2_with fail
          go_must (refine hD'.mono ?_); rintro e w1 ⟨rfl, hb1⟩
          go_wp2_with fail
          go_must (refine (ixr_yes r hs _).mono ?_); rintro e w2 ⟨⟨v, rfl, hv1, hv2⟩, hb2⟩
          have hb02 := hbel.trans ((hb1.trans (hb2.mono hb1.size)).mono hbel.size)
          go_wp2
          go_ret
          exact ⟨⟨((k + 1 - n : Nat) : Int), by rw [← HKK.out]; rfl, by omega, by rw [HL.out]; omega, fun h => absurd h HNA.out⟩, hb02⟩
        · go_wp2_with fail
          go_must (refine hD'.mono ?_); rintro e w1 ⟨rfl, hb1⟩
          go_wp2_with fail
          go_must (refine (ixr_no r hs _).mono ?_); rintro e w2 ⟨rfl, hb2⟩
          have hb02 := hbel.trans ((hb1.trans (hb2.mono hb1.size)).mono hbel.size)
          go_wp2
          go_roundw
          case rel => exact ⟨k + 1 - n, by omega, by rw [← HKK.out]; go_num, hb02, fun h => absurd h HNA.out⟩
          case measure => simp [intOf]; omega

/-- strings.LastIndexAny of the two signs. -/
theorem lia_any (s : ByteArray) (hs : s.size ≤ 1000000) (w : World) (hE : Env w) :
    Calls Tryd.prog 32 #[.string s, .string ⟨#[43, 45]⟩] w fun e w' => LiaOk s.data.toList e ∧ Below w.heap.size w w' := by
  by_cases h1 : s.size = 1
  · exact lia_one s h1 w
  by_cases h8 : s.size ≤ 8
  · exact lia_short s h8 h1 w hE
  · exact lia_long s (by omega) hs w
end Go.Proofs.YtkppkojpdhgicaaDoor
