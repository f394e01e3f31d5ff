/-
The program's Signs, Level and precedence, by contracts; the library's Index and Contains at texts.
-/
import Derived.Test.YtlagjnlajkmmeaaDoorTrSN
import Derived.Lib.Strings
namespace Go.Proofs.YtlagjnlajkmmeaaDoor
open Go.RowKit

set_option maxRecDepth 20000 in
set_option maxHeartbeats 2000000 in
theorem psigns_any (k : Int) (w : World) :
    Calls Tryd.prog 5 #[.int .i64 k] w fun e w' => ∃ v, e = .returned v ∧ RdS w' v (signsF k) ∧ Below w.heap.size w w' := by
  by_cases h : k = 1 ∨ k = 2 ∨ k = 3 ∨ k = 4
  · rcases h with rfl | rfl | rfl | rfl
    · go_enter Tryd.func5, Tryd.ntmps5
      go_wp2
      go_ret
      exact ⟨_, rfl, rdS_row (signsF 1) 6 rfl (by decide) (heap_new rfl) rfl, below_alloc _ _⟩
    · go_enter Tryd.func5, Tryd.ntmps5
      go_wp2
      go_ret
      exact ⟨_, rfl, rdS_row (signsF 2) 1 rfl (by decide) (heap_new rfl) rfl, below_alloc _ _⟩
    · go_enter Tryd.func5, Tryd.ntmps5
      go_wp2
      go_ret
      exact ⟨_, rfl, rdS_row (signsF 3) 2 rfl (by decide) (heap_new rfl) rfl, below_alloc _ _⟩
    · go_enter Tryd.func5, Tryd.ntmps5
      go_wp2
      go_ret
      exact ⟨_, rfl, rdS_row (signsF 4) 2 rfl (by decide) (heap_new rfl) rfl, below_alloc _ _⟩
  · have e : signsF k = [] := by unfold signsF; rw [if_neg (by omega), if_neg (by omega), if_neg (by omega), if_neg (by omega)]
    rw [e]; clear e
    have h1 : (k == 1) = false := beq_eq_false_iff_ne.2 (by omega)
    have h2 : (k == 2) = false := beq_eq_false_iff_ne.2 (by omega)
    have h3 : (k == 3) = false := beq_eq_false_iff_ne.2 (by omega)
    have h4 : (k == 4) = false := beq_eq_false_iff_ne.2 (by omega)
    clear h
    go_enter Tryd.func5, Tryd.ntmps5
    go_wp2
    go_ret
    exact ⟨_, rfl, .inl ⟨none, 0, rfl, rfl, fun _ => rfl⟩, Below.refl _ _⟩

set_option maxRecDepth 20000 in
set_option maxHeartbeats 2000000 in
/-- The library's Index at texts. -/
theorem index_any (ls : List (List UInt8)) (hl : ls.length ≤ 1000) (s : List UInt8) (v : Value) (w : World) (hv : RdS w v ls) :
    Calls Tryd.prog 32 #[v, .string ⟨s.toArray⟩] w fun e w' => (∃ i : Int, e = .returned (.int .i64 i) ∧ (0 ≤ i ↔ s ∈ ls)) ∧ w' = w := by
  obtain ⟨A, c, rfl⟩ := hv.named
  obtain ⟨len, hlen⟩ : ∃ len, len = ls.length := ⟨_, rfl⟩
  rw [← hlen] at hv hl ⊢
  have HV := Lib.hid (fun i x (hx : ls[i]? = some x) => hv.at_ hx)
  have HLEN := Lib.hid hlen
  obtain ⟨sb, hsb⟩ : ∃ sb : ByteArray, sb = ⟨s.toArray⟩ := ⟨_, rfl⟩
  rw [← hsb]
  have HSB := Lib.hid hsb
  clear hv hlen hsb
  go_enter Tryd.func32, Tryd.ntmps32
  go_wp2
  go_loop [8] (fun b => ∃ i : Nat, b = .int .i64 (i : Int) ∧ i ≤ len ∧ Hid (∀ j, j < i → ls[j]? ≠ some s)) (fun b => len - (intOf b).toNat)
  case atStart => exact ⟨0, rfl, Nat.zero_le _, Lib.hid (fun j h => by omega)⟩
  case round =>
    obtain ⟨i, rfl, hi, HN⟩ := hrel
    by_cases hlt : i < len
    · obtain ⟨x, hx⟩ : ∃ x, ls[i]? = some x := ⟨_, List.getElem?_eq_getElem (by rw [← HLEN.out]; exact hlt)⟩
      obtain ⟨b, off, rfl, c0⟩ := HV.out i x hx
      have HX := Lib.hid hx
      obtain ⟨xb, hxb⟩ : ∃ xb : ByteArray, xb = ⟨x.toArray⟩ := ⟨_, rfl⟩
      rw [← hxb] at c0
      have HXB := Lib.hid hxb
      clear hx hxb
      by_cases heq : sb = xb
      · subst heq
        have hm : s ∈ ls := by
          have h1 := HSB.out.symm.trans HXB.out
          have h2 : s = x := by
            have := congrArg (fun b : ByteArray => b.data.toList) h1
            simpa using this
          rw [h2]
          exact List.mem_of_getElem? HX.out
        have HM := Lib.hid hm
        clear hm
        go_wp2_with fail
        go_ret
        exact ⟨⟨_, rfl, ⟨fun _ => HM.out, fun _ => by omega⟩⟩, rfl⟩
      · have z1 := strN_ne heq
        have hne : ls[i]? ≠ some s := by
          rw [HX.out]
          intro h
          injection h with h
          subst h
          exact heq (HSB.out.trans HXB.out.symm)
        have HNE := Lib.hid hne
        clear hne heq
        go_wp2_with fail
        go_round
        case rel => exact ⟨i + 1, by go_num, by omega, Lib.hid (fun j hj => by
          rcases Nat.lt_or_ge j i with h | h
          · exact HN.out j h
          · obtain rfl : j = i := by omega
            exact HNE.out)⟩
        case measure => simp [intOf]; omega
    · obtain rfl : i = len := by omega
      have hm : s ∉ ls := by
        intro h
        obtain ⟨j, hj, he⟩ := List.mem_iff_getElem.1 h
        exact HN.out j (by rw [HLEN.out]; exact hj) (by rw [List.getElem?_eq_getElem hj, he])
      have HM := Lib.hid hm
      clear hm HN HLEN
      go_wp2_with fail
      go_ret
      exact ⟨⟨_, rfl, ⟨fun h => by omega, fun h => absurd h HM.out⟩⟩, rfl⟩

set_option maxRecDepth 20000 in
theorem contains_any (ls : List (List UInt8)) (hl : ls.length ≤ 1000) (s : List UInt8) (v : Value) (w : World) (hv : RdS w v ls) :
    Calls Tryd.prog 23 #[v, .string ⟨s.toArray⟩] w fun e w' => e = .returned (.bool (decide (s ∈ ls))) ∧ w' = w := by
  have HI := Lib.hid (index_any ls hl s v w hv)
  obtain ⟨r, hr⟩ : ∃ r, r = decide (s ∈ ls) := ⟨_, rfl⟩
  rw [← hr]
  have HR := Lib.hid hr
  clear hv hl hr
  generalize (⟨s.toArray⟩ : ByteArray) = sb at *
  go_enter Tryd.func23, Tryd.ntmps23
  go_wp2_with fail
  go_at_call 32
  with_reducible refine (HI.out).mono ?_
  rintro e w1 ⟨⟨i, rfl, hi⟩, rfl⟩
  clear HI
  by_cases hs : s ∈ ls
  · have h0 := hi.2 hs
    obtain rfl : r = true := by rw [HR.out]; exact decide_eq_true hs
    clear hi hs HR
    go_wp2_with fail
    go_ret
    exact ⟨by first | rfl | simp [h0], rfl⟩
  · have h0 : i < 0 := by
      have : ¬ 0 ≤ i := fun h => hs (hi.1 h)
      omega
    obtain rfl : r = false := by rw [HR.out]; exact decide_eq_false hs
    clear hi hs HR
    go_wp2_with fail
    go_ret
    exact ⟨by first | rfl | simp [h0], rfl⟩

set_option maxRecDepth 20000 in
set_option maxHeartbeats 2000000 in
theorem plevel_any (s : List UInt8) (w : World) :
    Calls Tryd.prog 8 #[.string ⟨s.toArray⟩] w fun e w' => e = .returned (.int .i64 (levelF s : Nat)) ∧ Below w.heap.size w w' := by
  obtain ⟨res, hres⟩ : ∃ r : Nat, r = levelF s := ⟨_, rfl⟩
  rw [← hres]
  have HSG := Lib.hid (fun (k : Int) W => psigns_any k W)
  have HCO := Lib.hid (fun (ls : List (List UInt8)) (hl : ls.length ≤ 1000) (v : Value) W (h : RdS W v ls) => contains_any ls hl s v W h)
  have HAT := Lib.hid (fun (k : Int) (h1 : 1 ≤ k) (h4 : k ≤ 4) (hs : s ∈ signsF k) (hb : ∀ j : Int, 1 ≤ j → j < k → s ∉ signsF j) => (show (res : Int) = k from by rw [hres]; exact level_at h1 h4 hs hb))
  have HNO := Lib.hid (fun (hb : ∀ j : Int, 1 ≤ j → j < 5 → s ∉ signsF j) => (show res = 0 from by rw [hres]; exact level_none hb))
  generalize (⟨s.toArray⟩ : ByteArray) = sb at *
  clear hres
  go_enter Tryd.func8, Tryd.ntmps8
  go_wp2
  go_loopw [4] (fun a wr => ∃ k : Nat, a = .int .i64 (k : Int) ∧ k ≤ 4 ∧ Hid (∀ j : Int, 1 ≤ j → j < (k : Int) + 1 → s ∉ signsF j) ∧ Hid (Below w.heap.size w wr)) (fun a _ => 4 - (intOf a).toNat)
  case atStart => exact ⟨0, rfl, by omega, Lib.hid (fun j h1 h2 => by omega), Lib.hid (Below.refl _ _)⟩
  case round =>
    obtain ⟨k, rfl, hk4, HB, HW⟩ := hrel
    by_cases hk : k < 4
    · go_wp2_with fail
      go_at_call 5
      with_reducible refine (HSG.out ((k : Int) + 1) _).mono ?_
      rintro e w1 ⟨v, rfl, hv, hb1⟩
      have hl6 : (signsF ((k : Int) + 1)).length ≤ 1000 := by
        unfold signsF
        repeat' split
        all_goals simp
      have HC1 := Lib.hid (HCO.out _ hl6 v w1 hv)
      have HW1 := Lib.hid (HW.out.trans (hb1.mono HW.out.size))
      obtain ⟨A, c, rfl⟩ := hv.named
      clear hv hb1 HW hl6
      go_wp2_with fail
      go_at_call 23
      with_reducible refine (HC1.out).mono ?_
      rintro e w2 ⟨rfl, rfl⟩
      clear HC1
      by_cases hs : s ∈ signsF ((k : Int) + 1)
      · have hr := HAT.out _ (by omega) (by omega) hs HB.out
        rw [decide_eq_true hs]
        have HRR := Lib.hid hr
        clear hs hr HAT HNO
        go_wp2_with fail
        go_ret
        exact ⟨by rw [HRR.out]; first | rfl | go_num, HW1.out⟩
      · rw [decide_eq_false hs]
        have HS := Lib.hid hs
        clear hs
        go_wp2_with fail
        go_roundw
        case rel => exact ⟨k + 1, by go_num, by omega, Lib.hid (fun j h1 h2 => by
          by_cases h : j < (k : Int) + 1
          · exact HB.out j h1 h
          · obtain rfl : j = (k : Int) + 1 := by omega
            exact HS.out), HW1⟩
        case measure => simp [intOf]; omega
    · obtain rfl : k = 4 := by omega
      have hr := HNO.out (fun j h1 h2 => HB.out j h1 (by omega))
      subst hr
      go_wp2_with fail
      go_ret
      exact ⟨rfl, HW.out⟩
end Go.Proofs.YtlagjnlajkmmeaaDoor
