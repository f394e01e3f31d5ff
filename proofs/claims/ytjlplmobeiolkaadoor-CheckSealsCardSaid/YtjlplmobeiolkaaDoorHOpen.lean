/-
bytes.Equal, bytes.Clone, Open: by contracts.
-/
import Derived.Test.YtjlplmobeiolkaaDoorHSeal
import Derived.Laws.BytesArg
import Derived.WideShapes
import Derived.Lib.Walk
import Derived.Deep.QuietTactic
import Derived.BigQuiet
namespace Go.Proofs.YtjlplmobeiolkaaDoor
open Go.RowKit
open Crc (st stN by8 run sumN tab nib tailN sealN)

/-- The string of these bytes. -/
def strN (xs : List Nat) : ByteArray := strOfNums (xs.map Int.ofNat)
theorem strN_inj {xs ys : List Nat} (hx : ∀ x ∈ xs, x < 256) (hy : ∀ x ∈ ys, x < 256) (h : strN xs = strN ys) : xs = ys := by
  have h1 : (strN xs).data.toList = (strN ys).data.toList := by rw [h]
  unfold strN at h1
  rw [strOfNums_data, strOfNums_data, List.map_map, List.map_map] at h1
  have key : ∀ zs : List Nat, (∀ z ∈ zs, z < 256) → (zs.map ((fun n : Int => UInt8.ofNat n.toNat) ∘ Int.ofNat)).map UInt8.toNat = zs := by
    intro zs hz
    rw [List.map_map]
    conv => rhs; rw [← List.map_id zs]
    refine List.map_congr_left fun z hzm => ?_
    have := hz z hzm
    simp [Nat.mod_eq_of_lt this]
  rw [← key xs hx, ← key ys hy, h1]

theorem strN_ne {s t : ByteArray} (h : s ≠ t) : (s.toList == t.toList) = false := by
  rw [ByteArray.toList_eq, ByteArray.toList_eq]
  simp only [beq_eq_false_iff_ne, ne_eq]
  intro he
  exact h (Go.WideShapes.bytes_inj he)

theorem conv_rd {w : World} {v : Value} {xs : List Nat} (h : Rd w v xs) : (convert 23 9 v).run Tryd.prog w = .ok (.string (strN xs)) w := by
  rcases h with ⟨p, c, rfl, rfl, h0⟩ | ⟨b, off, cap, rfl, hcap, hm, hb, hc⟩
  · rcases p with _ | p
    · rw [run_convert_bytes_nil (P := Tryd.prog) w 23 5 Tryd.underlying23 Tryd.underlying5 _ _ 9 Tryd.underlying9]
      rfl
    · rw [run_convert_bytes_string w _ _ 5 _ _ _ Tryd.underlying23 Tryd.underlying5 Tryd.underlying9, run_bytesToString w p 0 c [] (by
        have := run_loadCells_list (P := Tryd.prog) w p [] (fun j v hj => by simp at hj)
        simpa using this)]
      rfl
  · exact run_convert_bytes_arg (P := Tryd.prog) w 23 5 Tryd.underlying23 Tryd.underlying5 b off xs.length cap (xs.map Int.ofNat) (by simp) (fun i hi => by
      rw [hc i xs[i] (List.getElem?_eq_getElem hi)]
      simp [nv, List.getD, hi]) 9 Tryd.underlying9

set_option maxRecDepth 20000 in
theorem equal_any (v u : Value) (xs ys : List Nat) (w : World) (h : Rd w v xs) (h2 : Rd w u ys) (hx : ∀ x ∈ xs, x < 256) (hy : ∀ x ∈ ys, x < 256) :
    Calls Tryd.prog 14 #[v, u] w fun e w' => e = .returned (.bool (decide (xs = ys))) ∧ w = w' := by
  have c1 := conv_rd h
  have c2 := conv_rd h2
  clear h h2
  by_cases he : xs = ys
  · subst he
    rw [decide_eq_true rfl]
    go_enter Tryd.func14, Tryd.ntmps14
    go_wp2
    go_ret
    exact ⟨rfl, rfl⟩
  · rw [decide_eq_false he]
    have hne : strN xs ≠ strN ys := fun h => he (strN_inj hx hy h)
    have hb := strN_ne hne
    clear he hx hy hne
    generalize strN xs = s at c1 hb
    generalize strN ys = t at c2 hb
    go_enter Tryd.func14, Tryd.ntmps14
    go_wp2
    go_ret
    exact ⟨rfl, rfl⟩

set_option maxRecDepth 20000 in
theorem clone_any (v : Value) (xs : List Nat) (w : World) (h : Rd w v xs) (hl : xs.length ≤ 100000) :
    Calls Tryd.prog 15 #[v] w fun e w' => ∃ v', e = .returned v' ∧ Rd w' v' xs ∧ Below w.heap.size w w' := by
  have q22 : ∀ (w : World) (a : Option Addr) (n c n' c' : Nat), (binOp .eql 23 (.slice a n c) (.slice none n' c')).run Tryd.prog w = .ok (.bool a.isNone) w := fun w a n c n' c' => Lib.run_eql_slice_nil w _ _ a n c n' c' Tryd.underlying23
  obtain ⟨A, n, c, rfl, hn⟩ := h.named
  have HR := Lib.hid h; clear h
  have HL := Lib.hid hl; clear hl
  clear hn
  rcases A with _ | a
  · go_enter Tryd.func15, Tryd.ntmps15
    go_wp2
    go_ret
    refine ⟨_, rfl, ?_, Below.refl _ _⟩
    rcases HR.out with ⟨p, c', hv, rfl, _⟩ | ⟨b, off, cap, hv, _⟩
    · exact .inl ⟨none, 0, rfl, rfl, fun _ => rfl⟩
    · simp at hv
  · go_enter Tryd.func15, Tryd.ntmps15
    go_wp2_with (at_builtin; refine wp_appR rfl _ _ rfl w.heap.size _ [] rfl (World.ownsRow_made w #[] 0 (Nat.le_refl _) (Nat.zero_le _) rfl) _ xs rfl (HR.out.below (below_alloc _ _)) (by have := HL.out; simp; omega) (by simp) ?_; intro v1 w1 hown1 hbel1 hsz1)
    go_ret
    exact ⟨_, rfl, hown1.rd, ((Below.refl _ w).alloc (Nat.le_refl _) _).trans hbel1⟩

/-- The bytes of which these are the sealed form. -/
def openL (xs : List Nat) : Option (List Nat) :=
  if xs.length < 4 then none else if xs.drop (xs.length - 4) = tailN (sumN (xs.take (xs.length - 4))) then some (xs.take (xs.length - 4)) else none

theorem Rd.take {w : World} {b off cap n : Nat} {xs : List Nat} (h : Rd w (.slice (some ⟨b, off, none⟩) n cap) xs) (hn : 0 < n) (k : Nat) (hk : k ≤ n) : Rd w (.slice (some ⟨b, off, none⟩) k cap) (xs.take k) := by
  rcases h with ⟨p, c, hv, rfl, _⟩ | ⟨b', off', cap', hv, hcap, hm, hb, hc⟩
  · simp at hv; omega
  · simp only [Value.slice.injEq, Option.some.injEq, Addr.mk.injEq, and_true] at hv
    obtain ⟨⟨rfl, rfl⟩, rfl, rfl⟩ := hv
    refine .inr ⟨b, off, cap, by simp [Nat.min_eq_left hk], by simp; omega, hm, hb, fun j x hj => hc j x ?_⟩
    rw [List.getElem?_take] at hj
    split at hj
    · exact hj
    · cases hj
theorem Rd.drop {w : World} {b off cap n : Nat} {xs : List Nat} (h : Rd w (.slice (some ⟨b, off, none⟩) n cap) xs) (hn : 0 < n) (k : Nat) (hk : k ≤ n) : Rd w (.slice (some ⟨b, off + k, none⟩) (n - k) (cap - k)) (xs.drop k) := by
  rcases h with ⟨p, c, hv, rfl, _⟩ | ⟨b', off', cap', hv, hcap, hm, hb, hc⟩
  · simp at hv; omega
  · simp only [Value.slice.injEq, Option.some.injEq, Addr.mk.injEq, and_true] at hv
    obtain ⟨⟨rfl, rfl⟩, rfl, rfl⟩ := hv
    refine .inr ⟨b, off + k, cap - k, by simp, by simp; omega, by omega, hb, fun j x hj => ?_⟩
    rw [Nat.add_assoc]
    exact hc (k + j) x (by rw [← List.getElem?_drop]; exact hj)
theorem Rd.addr {w : World} {A : Option Addr} {n cap : Nat} {xs : List Nat} (h : Rd w (.slice A n cap) xs) (hn : 0 < n) : ∃ b off, A = some ⟨b, off, none⟩ ∧ n ≤ cap ∧ cap ≤ maxLen := by
  rcases h with ⟨p, c, hv, rfl, _⟩ | ⟨b', off', cap', hv, hcap, hm, hb, hc⟩
  · simp at hv; omega
  · simp only [Value.slice.injEq] at hv
    obtain ⟨rfl, rfl, rfl⟩ := hv
    exact ⟨b', off', rfl, hcap, hm⟩

set_option maxRecDepth 20000 in
set_option maxHeartbeats 1000000 in
theorem open_short (A : Option Addr) (n c : Nat) (hn : n < 4) (w : World) :
    Calls Tryd.prog 9 #[.slice A n c] w fun e w' => e = .returned (.tuple #[.slice none 0 0, .bool false]) ∧ w = w' := by
  go_enter Tryd.func9, Tryd.ntmps9
  go_wp2
  go_ret2
  exact ⟨rfl, rfl⟩

set_option maxRecDepth 20000 in
set_option maxHeartbeats 1000000 in
theorem open_long (b off n k cap : Nat) (hk : n = k + 4) (hcap : n ≤ cap) (hm : cap ≤ maxLen) (w : World) (xs : List Nat) (h : Rd w (.slice (some ⟨b, off, none⟩) n cap) xs) (hl : n ≤ 10000) (hx : ∀ x ∈ xs, x < 256) (ht : Tab w) (hn : n = xs.length) :
    Calls Tryd.prog 9 #[.slice (some ⟨b, off, none⟩) n cap] w fun e w' => ∃ v', e = .returned (.tuple #[v', .bool (openL xs).isSome]) ∧ Rd w' v' ((openL xs).getD []) ∧ Below w.heap.size w w' := by
  have hr1 := h.take (by omega) k (by omega)
  have hr2 := h.drop (by omega) k (by omega)
  rw [show n - k = 4 from by omega] at hr2
  have hx1 : ∀ x ∈ xs.take k, x < 256 := fun x hx' => hx x (List.mem_of_mem_take hx')
  have hx2 : ∀ x ∈ xs.drop k, x < 256 := fun x hx' => hx x (List.mem_of_mem_drop hx')
  have hlk : (xs.take k).length ≤ 10000 := by simp; omega
  have ht1 := fun w2 hb => tail_any _ (xs.take k) w2 (hr1.below hb) (by omega) hx1 (ht.below hb)
  have ho : openL xs = if xs.drop k = tailN (sumN (xs.take k)) then some (xs.take k) else none := by
    unfold openL
    rw [if_neg (by omega), show xs.length - 4 = k from by omega]
  have heq := fun u w2 hu hb => equal_any _ u (xs.drop k) (tailN (sumN (xs.take k))) w2 (hr2.below hb) hu hx2 (Crc.tailN_lt (Crc.sumN_lt hx1))
  have HT := Lib.hid ht1
  have hbn : ∀ nq, Below w.heap.size w (w.drewN nq) := fun nq => ⟨rfl, rfl, rfl, Nat.le_refl _, fun _ _ => rfl⟩
  have HB := Lib.hid hbn
  have HO := Lib.hid ho
  have HE := Lib.hid heq
  have HR := Lib.hid hr1
  have HX := Lib.hid hlk
  have hcm : cap ≤ 9223372036854775807 := by unfold maxLen at hm; omega
  clear ht1 ho heq hr1 hr2 hx hx1 hx2 hlk h ht hm hn hbn
  subst hk
  by_cases he : xs.drop k = tailN (sumN (xs.take k))
  · have hd : decide (xs.drop k = tailN (sumN (xs.take k))) = true := decide_eq_true he
    have ho2 := HO.out.trans (if_pos he)
    have HO2 := Lib.hid ho2
    have HD := Lib.hid hd
    clear he hd ho2 HO
    go_enter Tryd.func9, Tryd.ntmps9
    go_wp2
    go_quiet (fail)
    go_wp2_with (first
      | (go_at_call 13; (with_reducible refine (HT.out _ (HB.out _)).mono ?_); rintro e w1 ⟨v1, rfl, hr1, hb0⟩; have HR1 := Lib.hid hr1; have hb1 : Below w.heap.size w w1 := (HB.out _).trans hb0; clear hr1 hb0)
      | (go_at_call 14; (with_reducible refine (HE.out _ _ HR1.out hb1).mono ?_); rw [HD.out]; rintro e w2 ⟨rfl, rfl⟩)
      | (go_at_call 15; (with_reducible refine (clone_any _ _ _ (HR.out.below hb1) (Nat.le_trans HX.out (by decide))).mono ?_); rintro e w3 ⟨v3, rfl, hr3, hb3⟩; have HR3 := Lib.hid hr3; clear hr3))
    go_ret2
    exact ⟨v3, by rw [HO2.out]; rfl, by rw [HO2.out]; exact HR3.out, hb1.trans (hb3.mono hb1.size)⟩
  · have hd : decide (xs.drop k = tailN (sumN (xs.take k))) = false := decide_eq_false he
    have ho2 := HO.out.trans (if_neg he)
    have HO2 := Lib.hid ho2
    have HD := Lib.hid hd
    clear he hd ho2 HO
    go_enter Tryd.func9, Tryd.ntmps9
    go_wp2
    go_quiet (fail)
    go_wp2_with (first
      | (go_at_call 13; (with_reducible refine (HT.out _ (HB.out _)).mono ?_); rintro e w1 ⟨v1, rfl, hr1, hb0⟩; have HR1 := Lib.hid hr1; have hb1 : Below w.heap.size w w1 := (HB.out _).trans hb0; clear hr1 hb0)
      | (go_at_call 14; (with_reducible refine (HE.out _ _ HR1.out hb1).mono ?_); rw [HD.out]; rintro e w2 ⟨rfl, rfl⟩))
    go_ret2
    exact ⟨.slice none 0 0, by rw [HO2.out]; rfl, by rw [HO2.out]; exact .inl ⟨none, 0, rfl, rfl, fun _ => rfl⟩, hb1⟩

/-- check.Open. -/
theorem open_any (v : Value) (xs : List Nat) (w : World) (h : Rd w v xs) (hl : xs.length ≤ 10000) (hx : ∀ x ∈ xs, x < 256) (ht : Tab w) :
    Calls Tryd.prog 9 #[v] w fun e w' => ∃ v', e = .returned (.tuple #[v', .bool (openL xs).isSome]) ∧ Rd w' v' ((openL xs).getD []) ∧ Below w.heap.size w w' := by
  obtain ⟨A, n, c, rfl, hn⟩ := h.named
  by_cases h4 : n < 4
  · have ho : openL xs = none := by unfold openL; rw [if_pos (by omega)]
    rw [ho]
    exact (open_short A n c h4 w).mono fun e w' ⟨he, hw⟩ => ⟨_, he, .inl ⟨none, 0, rfl, rfl, fun _ => rfl⟩, hw ▸ Below.refl _ _⟩
  · obtain ⟨b, off, rfl, hcap, hm⟩ := h.addr (by omega)
    exact open_long b off n (n - 4) c (by omega) hcap hm w xs h (by omega) hx ht hn
end Go.Proofs.YtjlplmobeiolkaaDoor
