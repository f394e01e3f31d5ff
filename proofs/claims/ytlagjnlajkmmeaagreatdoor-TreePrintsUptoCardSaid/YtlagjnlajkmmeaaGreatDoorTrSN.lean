/-
The reference of stage 9: Signs, Level and Name, by contracts.
The reference of stage 9: Name, by a contract.
-/
import Derived.Test.YtlagjnlajkmmeaaGreatDoorTrRef
import Derived.Lib.Strings
import Derived.LoopTactic
namespace Go.Proofs.YtlagjnlajkmmeaaGreatDoor
open Go.RowKit

/-- The slice value v reads as these texts. -/
def RdS (w : World) (v : Value) (ls : List (List UInt8)) : Prop :=
  (∃ p c, v = .slice p 0 c ∧ ls = [] ∧ (p = none → c = 0)) ∨ ∃ b off cap, v = .slice (some ⟨b, off, none⟩) ls.length cap ∧ ls.length ≤ cap ∧ cap ≤ maxLen ∧ b < w.heap.size ∧ ∀ (j : Nat) (s : List UInt8), ls[j]? = some s → w.cell? ⟨b, off + j, none⟩ = some (.string ⟨s.toArray⟩)
theorem RdS.named {w : World} {v : Value} {ls : List (List UInt8)} (h : RdS w v ls) : ∃ A c, v = .slice A ls.length c := by
  rcases h with ⟨p, c, rfl, rfl, _⟩ | ⟨b, off, cap, rfl, _⟩
  · exact ⟨p, c, rfl⟩
  · exact ⟨_, cap, rfl⟩
theorem RdS.below {w w' : World} {v : Value} {ls : List (List UInt8)} (h : RdS w v ls) (hb : Below w.heap.size w w') : RdS w' v ls := by
  rcases h with h | ⟨b, off, cap, rfl, hcap, hm, hlt, hc⟩
  · exact .inl h
  · exact .inr ⟨b, off, cap, rfl, hcap, hm, Nat.lt_of_lt_of_le hlt hb.size, fun j x hx => by rw [bcell hb _ _ hlt]; exact hc j x hx⟩
theorem RdS.at_ {w : World} {A : Option Addr} {n c k : Nat} {ls : List (List UInt8)} {s : List UInt8} (h : RdS w (.slice A n c) ls) (hx : ls[k]? = some s) :
    ∃ b off, A = some ⟨b, off, none⟩ ∧ w.cell? ⟨b, off + k, none⟩ = some (.string ⟨s.toArray⟩) := by
  rcases h with ⟨p, c', hv, rfl, _⟩ | ⟨b, off, cap, hv, hcap, hm, hb, hc⟩
  · simp at hx
  · simp only [Value.slice.injEq] at hv
    obtain ⟨rfl, _, _⟩ := hv
    exact ⟨b, off, rfl, hc k s hx⟩
theorem rdS_row {w : World} {g : Nat} {cs : Array Value} {t : TypeId} (ls : List (List UInt8)) (n : Nat) (hn : n = ls.length) (hm : n ≤ maxLen) (hh : w.heap[g]? = some (.cells cs t (0, 0))) (hcs : cs.toList = ls.map fun s => .string ⟨s.toArray⟩) : RdS w (.slice (some ⟨g, 0, none⟩) n n) ls := by
  subst hn
  refine .inr ⟨g, 0, ls.length, rfl, Nat.le_refl _, hm, (Array.getElem?_eq_some_iff.1 hh).1, fun j s hj => ?_⟩
  rw [Nat.zero_add, cell_of_row _ _ j _ _ _ hh, ← Array.getElem?_toList, hcs, List.getElem?_map, hj]
  rfl

abbrev sO1 : Obj := (.cells #[.string ⟨#[61]⟩, .string ⟨#[60, 62]⟩, .string ⟨#[60]⟩, .string ⟨#[60, 61]⟩, .string ⟨#[62]⟩, .string ⟨#[62, 61]⟩] 9)
abbrev sO2 : Obj := (.cells #[.string ⟨#[38]⟩] 9)
abbrev sO3 : Obj := (.cells #[.string ⟨#[43]⟩, .string ⟨#[45]⟩] 9)
abbrev sO4 : Obj := (.cells #[.string ⟨#[42]⟩, .string ⟨#[47]⟩] 9)
/-- The rows of signs. -/
theorem rows5 (w : World) (o : Obj) : Below w.heap.size w (((((w.alloc sO1).alloc sO2).alloc sO3).alloc sO4).alloc o) ∧
    RdS (((((w.alloc sO1).alloc sO2).alloc sO3).alloc sO4).alloc o) (.slice (some ⟨w.heap.size, 0, none⟩) 6 6) (signsF 1) ∧ RdS (((((w.alloc sO1).alloc sO2).alloc sO3).alloc sO4).alloc o) (.slice (some ⟨w.heap.size + 1, 0, none⟩) 1 1) (signsF 2) ∧
    RdS (((((w.alloc sO1).alloc sO2).alloc sO3).alloc sO4).alloc o) (.slice (some ⟨w.heap.size + 1 + 1, 0, none⟩) 2 2) (signsF 3) ∧ RdS (((((w.alloc sO1).alloc sO2).alloc sO3).alloc sO4).alloc o) (.slice (some ⟨w.heap.size + 1 + 1 + 1, 0, none⟩) 2 2) (signsF 4) := by
  have b1 := below_alloc w sO1
  have b2 := below_alloc (w.alloc sO1) sO2
  have b3 := below_alloc ((w.alloc sO1).alloc sO2) sO3
  have b4 := below_alloc (((w.alloc sO1).alloc sO2).alloc sO3) sO4
  have b5 := below_alloc ((((w.alloc sO1).alloc sO2).alloc sO3).alloc sO4) o
  have c4 := b4.trans (b5.mono b4.size)
  have c3 := b3.trans (c4.mono b3.size)
  have c2 := b2.trans (c3.mono b2.size)
  have c1 := b1.trans (c2.mono b1.size)
  refine ⟨c1, ?_, ?_, ?_, ?_⟩
  · exact (rdS_row (signsF 1) 6 rfl (by decide) (heap_new rfl) rfl).below c2
  · exact (rdS_row (signsF 2) 1 rfl (by decide) (heap_new (by simp)) rfl).below c3
  · exact (rdS_row (signsF 3) 2 rfl (by decide) (heap_new (by simp)) rfl).below c4
  · exact (rdS_row (signsF 4) 2 rfl (by decide) (heap_new (by simp)) rfl).below b5
theorem cell_row4 (w : World) (a b c d : Value) (T : TypeId) (g : Nat) (hg : g = w.heap.size) : (w.alloc (.cells #[a, b, c, d] T)).cell? ⟨g, 0, none⟩ = some a ∧ (w.alloc (.cells #[a, b, c, d] T)).cell? ⟨g, 1, none⟩ = some b ∧ (w.alloc (.cells #[a, b, c, d] T)).cell? ⟨g, 2, none⟩ = some c ∧ (w.alloc (.cells #[a, b, c, d] T)).cell? ⟨g, 3, none⟩ = some d := by
  have h1 : (w.alloc (.cells #[a, b, c, d] T)).heap[g]? = some (.cells #[a, b, c, d] T (0, 0)) := heap_new hg
  exact ⟨by rw [cell_of_row _ _ 0 _ _ _ h1]; rfl, by rw [cell_of_row _ _ 1 _ _ _ h1]; rfl, by rw [cell_of_row _ _ 2 _ _ _ h1]; rfl, by rw [cell_of_row _ _ 3 _ _ _ h1]; rfl⟩

set_option maxRecDepth 20000 in
set_option maxHeartbeats 2000000 in
theorem rsigns_any (k : Int) (w : World) :
    Calls Tryz.prog 26 #[.int .i64 k] w fun e w' => ∃ v, e = .returned v ∧ RdS w' v (signsF k) ∧ Below w.heap.size w w' := by
  have HR := Lib.hid (rows5 w (.cells #[.slice (some ⟨w.heap.size, 0, none⟩) 6 6, .slice (some ⟨w.heap.size + 1, 0, none⟩) 1 1, .slice (some ⟨w.heap.size + 1 + 1, 0, none⟩) 2 2, .slice (some ⟨w.heap.size + 1 + 1 + 1, 0, none⟩) 2 2] 54))
  by_cases h1 : k < 1
  · have e : signsF k = [] := by unfold signsF; rw [if_neg (by omega), if_neg (by omega), if_neg (by omega), if_neg (by omega)]
    rw [e]; clear e
    go_enter Tryz.func26, Tryz.ntmps26
    go_wp2
    go_ret
    exact ⟨_, rfl, .inl ⟨none, 0, rfl, rfl, fun _ => rfl⟩, HR.out.1⟩
  · by_cases h2 : 4 < k
    · have e : signsF k = [] := by unfold signsF; rw [if_neg (by omega), if_neg (by omega), if_neg (by omega), if_neg (by omega)]
      rw [e]; clear e
      have h1' : 1 ≤ k := by omega
      clear h1
      go_enter Tryz.func26, Tryz.ntmps26
      go_wp2
      go_ret
      exact ⟨_, rfl, .inl ⟨none, 0, rfl, rfl, fun _ => rfl⟩, HR.out.1⟩
    · have hk : k = 1 ∨ k = 2 ∨ k = 3 ∨ k = 4 := by omega
      clear h1 h2
      rcases hk with rfl | rfl | rfl | rfl
      · go_enter Tryz.func26, Tryz.ntmps26
        go_wp2
        go_ret
        exact ⟨_, rfl, HR.out.2.1, HR.out.1⟩
      · go_enter Tryz.func26, Tryz.ntmps26
        go_wp2
        go_ret
        exact ⟨_, rfl, HR.out.2.2.1, HR.out.1⟩
      · go_enter Tryz.func26, Tryz.ntmps26
        go_wp2
        go_ret
        exact ⟨_, rfl, HR.out.2.2.2.1, HR.out.1⟩
      · go_enter Tryz.func26, Tryz.ntmps26
        go_wp2
        go_ret
        exact ⟨_, rfl, HR.out.2.2.2.2, HR.out.1⟩

set_option maxRecDepth 20000 in
set_option maxHeartbeats 2000000 in
theorem rlevel_any (s : List UInt8) (w : World) :
    Calls Tryz.prog 14 #[.string ⟨s.toArray⟩] w fun e w' => e = .returned (.int .i64 (levelF s : Nat)) ∧ Below w.heap.size w w' := by
  obtain ⟨res, hres⟩ : ∃ r : Nat, r = levelF s := ⟨_, rfl⟩
  rw [← hres]
  have HSG := Lib.hid (fun (k : Int) W => rsigns_any k W)
  have HAT := Lib.hid (fun (k : Int) (h1 : 1 ≤ k) (h4 : k ≤ 4) (hs : s ∈ signsF k) (hb : ∀ j : Int, 1 ≤ j → j < k → s ∉ signsF j) => (show (res : Int) = k from by rw [hres]; exact level_at h1 h4 hs hb))
  have HNO := Lib.hid (fun (hb : ∀ j : Int, 1 ≤ j → j < 5 → s ∉ signsF j) => (show res = 0 from by rw [hres]; exact level_none hb))
  obtain ⟨sb, hsb⟩ : ∃ sb : ByteArray, sb = ⟨s.toArray⟩ := ⟨_, rfl⟩
  rw [← hsb]
  have HSB := Lib.hid hsb
  clear hsb hres
  go_enter Tryz.func14, Tryz.ntmps14
  go_wp2
  go_loopw [3] (fun a wr => ∃ k : Nat, a = .int .i64 (k : Int) ∧ 1 ≤ k ∧ k ≤ 5 ∧ Hid (∀ j : Int, 1 ≤ j → j < k → s ∉ signsF j) ∧ Hid (Below w.heap.size w wr)) (fun a _ => 5 - (intOf a).toNat)
  case atStart => exact ⟨1, rfl, by omega, by omega, Lib.hid (fun j h1 h2 => by omega), Lib.hid (Below.refl _ _)⟩
  case round =>
    obtain ⟨k, rfl, hk1, hk5, HB, HW⟩ := hrel
    by_cases hk : k ≤ 4
    · have hk4 : (k : Int) ≤ 4 := by omega
      go_wp2_with fail
      go_at_call 26
      with_reducible refine (HSG.out (k : Int) _).mono ?_
      rintro e w1 ⟨v, rfl, hv, hb1⟩
      obtain ⟨A, c, rfl⟩ := hv.named
      obtain ⟨len, hlen⟩ : ∃ len, len = (signsF (k : Int)).length := ⟨_, rfl⟩
      have hl6 : len ≤ 6 := by
        rw [hlen]
        unfold signsF
        repeat' split
        all_goals simp
      rw [← hlen] at hv ⊢
      have HV := Lib.hid (fun i x (hx : (signsF (k : Int))[i]? = some x) => hv.at_ hx)
      have HLEN := Lib.hid hlen
      have HW1 := Lib.hid (HW.out.trans (hb1.mono HW.out.size))
      clear hv hb1 hlen HW
      go_wp2_with fail
      go_loop [5] (fun b => ∃ i : Nat, b = .int .i64 (i : Int) ∧ i ≤ len ∧ Hid (∀ j, j < i → (signsF (k : Int))[j]? ≠ some s)) (fun b => len - (intOf b).toNat)
      case atStart => exact ⟨0, rfl, Nat.zero_le _, Lib.hid (fun j h => by omega)⟩
      case round =>
        obtain ⟨i, rfl, hi, HN⟩ := hrel
        by_cases hlt : i < len
        · obtain ⟨x, hx⟩ : ∃ x, (signsF (k : Int))[i]? = some x := ⟨_, List.getElem?_eq_getElem (by rw [← HLEN.out]; exact hlt)⟩
          obtain ⟨b, off, rfl, c0⟩ := HV.out i x hx
          have HX := Lib.hid hx
          obtain ⟨xb, hxb⟩ : ∃ xb : ByteArray, xb = ⟨x.toArray⟩ := ⟨_, rfl⟩
          rw [← hxb] at c0
          have HXB := Lib.hid hxb
          clear hx hxb
          by_cases heq : xb = sb
          · subst heq
            have hxs : x = s := by
              have h := HXB.out.symm.trans HSB.out
              have := congrArg (fun b : ByteArray => b.data.toList) h
              simpa using this
            have hr : (res : Int) = k := HAT.out k (by omega) hk4 (by rw [← hxs]; exact List.mem_of_getElem? HX.out) HB.out
            have HRR := Lib.hid hr
            clear hxs hr
            go_wp2_with fail
            go_ret
            exact ⟨by rw [HRR.out]; rfl, HW1.out⟩
          · have hne := strN_ne heq
            have hnx : ∀ j, j < i + 1 → (signsF (k : Int))[j]? ≠ some s := fun j hj e => by
              rcases Nat.lt_or_ge j i with h | h
              · exact HN.out j h e
              · obtain rfl : j = i := by omega
                rw [HX.out] at e
                injection e with e
                exact heq (by rw [HXB.out, HSB.out, e])
            have HNX := Lib.hid hnx
            clear hnx heq HN
            go_wp2_with fail
            go_round
            case rel => exact ⟨i + 1, by go_num, by omega, HNX⟩
            case measure => simp [intOf]; omega
        · obtain rfl : i = len := by omega
          have hno : s ∉ signsF (k : Int) := fun hm => by
            obtain ⟨j, hj⟩ := List.getElem?_of_mem hm
            have := (List.getElem?_eq_some_iff.1 hj).1
            exact HN.out j (by rw [HLEN.out]; exact this) hj
          have HNK := Lib.hid (show ∀ j : Int, 1 ≤ j → j < ((k + 1 : Nat) : Int) → s ∉ signsF j from fun j h1 h2 => by
            rcases Int.lt_or_le j k with h | h
            · exact HB.out j h1 h
            · obtain rfl : j = (k : Int) := by omega
              exact hno)
          clear hno HN HLEN HB HV
          go_wp2_with fail
          go_roundw
          case rel => exact ⟨k + 1, by go_num, by omega, by omega, HNK, HW1⟩
          case measure => simp [intOf]; omega
    · obtain rfl : k = 5 := by omega
      have hr := HNO.out HB.out
      subst hr
      clear HAT HNO HB
      go_wp2_with fail
      go_ret
      exact ⟨rfl, HW.out⟩
end Go.Proofs.YtlagjnlajkmmeaaGreatDoor

namespace Go.Proofs.YtlagjnlajkmmeaaGreatDoor
open Go.RowKit

set_option maxRecDepth 20000 in
set_option maxHeartbeats 4000000 in
theorem rname_any (s : List UInt8) (hs : s.length ≤ 9223372036854775807) (w : World) :
    Calls Tryz.prog 15 #[.string ⟨s.toArray⟩] w fun e w' => e = .returned (.bool (nameF s)) ∧ w' = w := by
  obtain ⟨res, hres⟩ : ∃ r : Bool, r = nameF s := ⟨_, rfl⟩
  rw [← hres]
  obtain ⟨len, hlen⟩ : ∃ len, len = s.length := ⟨_, rfl⟩
  have HRES := Lib.hid (show res = (chkF s 0 && decide (1 ≤ len ∧ len ≤ 32)) from by rw [hres, hlen]; rfl)
  obtain ⟨sb, hsb⟩ : ∃ sb : ByteArray, sb = ⟨s.toArray⟩ := ⟨_, rfl⟩
  have hsz : sb.size = len := by rw [hsb, hlen]; rfl
  have HG := Lib.hid (fun i (x : UInt8) (hx : s[i]? = some x) => (show ∀ h, sb[i]'h = x from fun h => by subst hsb; exact (List.getElem?_eq_some_iff.1 hx).2))
  rw [← hsb]
  rw [← hlen] at hs
  have HLEN := Lib.hid hlen
  clear hsb hres hlen
  go_enter Tryz.func15, Tryz.ntmps15
  go_wp2
  go_loop [3] (fun b => ∃ i : Nat, b = .int .i64 (i : Int) ∧ i ≤ len ∧ Hid ((chkF (s.drop i) i && decide (1 ≤ len ∧ len ≤ 32)) = res)) (fun b => len - (intOf b).toNat)
  case atStart => exact ⟨0, rfl, Nat.zero_le _, Lib.hid (by rw [List.drop_zero, HRES.out])⟩
  case round =>
    obtain ⟨i, rfl, hi, HK⟩ := hrel
    by_cases hlt : i < len
    · obtain ⟨x, hx⟩ : ∃ x, s[i]? = some x := ⟨_, List.getElem?_eq_getElem (by rw [← HLEN.out]; exact hlt)⟩
      have hget := HG.out i x hx
      have hdr := drop_at hx
      have hk := HK.out
      rw [hdr] at hk
      unfold chkF at hk
      obtain ⟨n, hn⟩ : ∃ n, n = x.toNat := ⟨_, rfl⟩
      have hx255 : n ≤ 255 := by have := x.toNat_lt; omega
      have hup : upB x = decide (65 ≤ n ∧ n ≤ 90) := by unfold upB; rw [hn]
      have hdg : digB x = decide (48 ≤ n ∧ n ≤ 57) := by unfold digB; rw [hn]
      rw [hup, hdg] at hk
      have hnat : ((sb[i]'(by omega)).toNat : Int) = (n : Int) := by rw [hget, hn]
      have hstep : (decide (65 ≤ n ∧ n ≤ 90) || (decide (48 ≤ n ∧ n ≤ 57) && decide (0 < i))) = true → (chkF (s.drop (i + 1)) (i + 1) && decide (1 ≤ len ∧ len ≤ 32)) = res := fun h => by
        rw [h, Bool.true_and] at hk
        exact hk
      have hstop : (decide (65 ≤ n ∧ n ≤ 90) || (decide (48 ≤ n ∧ n ≤ 57) && decide (0 < i))) = false → res = false := fun h => by
        rw [h, Bool.false_and, Bool.false_and] at hk
        exact hk.symm
      have HSTEP := Lib.hid hstep
      have HSTOP := Lib.hid hstop
      clear hx hget hdr hk hn hup hdg hstep hstop HG HK
      by_cases h65 : 65 ≤ n
      · have i65 : (65 : Int) ≤ (n : Int) := by omega
        by_cases h90 : n ≤ 90
        · have i90 : (n : Int) ≤ 90 := by omega
          have HNEW := Lib.hid (HSTEP.out (by simp; omega))
          clear HSTEP HSTOP
          go_wp2_with fail
          go_round
          case rel => exact ⟨i + 1, by go_num, by omega, HNEW⟩
          case measure => simp [intOf]; omega
        · have i90 : (90 : Int) < (n : Int) := by omega
          have i48 : (48 : Int) ≤ (n : Int) := by omega
          have i57 : (57 : Int) < (n : Int) := by omega
          have d90 : decide ((n : Int) ≤ 90) = false := decide_eq_false (by omega)
          have d57 : decide ((n : Int) ≤ 57) = false := decide_eq_false (by omega)
          clear h90
          have hr := HSTOP.out (by simp; omega)
          subst hr
          clear HSTEP HSTOP HRES
          go_wp2_with fail
          go_ret
          exact ⟨rfl, rfl⟩
      · have i65 : (n : Int) < 65 := by omega
        have d65 : decide ((65 : Int) ≤ (n : Int)) = false := decide_eq_false (by omega)
        by_cases h48 : 48 ≤ n
        · have i48 : (48 : Int) ≤ (n : Int) := by omega
          by_cases h57 : n ≤ 57
          · have i57 : (n : Int) ≤ 57 := by omega
            by_cases h0 : 0 < i
            · have i0 : (0 : Int) < (i : Int) := by omega
              clear h65
              have HNEW := Lib.hid (HSTEP.out (by simp; omega))
              clear HSTEP HSTOP
              go_wp2_with fail
              go_round
              case rel => exact ⟨i + 1, by go_num, by omega, HNEW⟩
              case measure => simp [intOf]; omega
            · obtain rfl : i = 0 := by omega
              clear h65 h0
              have hr := HSTOP.out (by simp; omega)
              subst hr
              clear HSTEP HSTOP HRES
              go_wp2_with fail
              go_ret
              exact ⟨rfl, rfl⟩
          · have i57 : (57 : Int) < (n : Int) := by omega
            have d57 : decide ((n : Int) ≤ 57) = false := decide_eq_false (by omega)
            clear h65 h57
            have hr := HSTOP.out (by simp; omega)
            subst hr
            clear HSTEP HSTOP HRES
            go_wp2_with fail
            go_ret
            exact ⟨rfl, rfl⟩
        · have i48 : (n : Int) < 48 := by omega
          have d48 : decide ((48 : Int) ≤ (n : Int)) = false := decide_eq_false (by omega)
          clear h65 h48
          have hr := HSTOP.out (by simp; omega)
          subst hr
          clear HSTEP HSTOP HRES
          go_wp2_with fail
          go_ret
          exact ⟨rfl, rfl⟩
    · obtain rfl : i = len := by omega
      have hk := HK.out
      rw [HLEN.out, List.drop_length, ← HLEN.out] at hk
      unfold chkF at hk
      rw [Bool.true_and] at hk
      subst hk
      clear HK HG HRES HLEN
      by_cases h1 : 1 ≤ i
      · have i1 : (1 : Int) ≤ (i : Int) := by omega
        by_cases h32 : i ≤ 32
        · have i32 : (i : Int) ≤ 32 := by omega
          rw [decide_eq_true ⟨h1, h32⟩]
          go_wp2_with fail
          go_ret
          exact ⟨by first | rfl | (simp; omega), rfl⟩
        · have i32 : (32 : Int) < (i : Int) := by omega
          have d32 : decide ((i : Int) ≤ 32) = false := decide_eq_false (by omega)
          rw [decide_eq_false (by omega)]
          clear h32
          go_wp2_with fail
          go_ret
          exact ⟨by first | rfl | (simp; omega), rfl⟩
      · have i1 : (i : Int) < 1 := by omega
        have d1 : decide ((1 : Int) ≤ (i : Int)) = false := decide_eq_false (by omega)
        rw [decide_eq_false (by omega)]
        clear h1
        go_wp2_with fail
        go_ret
        exact ⟨by first | rfl | (simp; omega), rfl⟩
end Go.Proofs.YtlagjnlajkmmeaaGreatDoor
