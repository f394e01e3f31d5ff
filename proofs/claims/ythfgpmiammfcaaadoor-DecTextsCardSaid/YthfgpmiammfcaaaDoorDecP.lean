/-
The program's dec.millionths and dec.Parse, by contracts.
-/
import Derived.Test.YthfgpmiammfcaaaDoorDecT
namespace Go.Proofs.YthfgpmiammfcaaaDoor
open Go.RowKit

/-- One digit more of a count of millionths. -/
def milStep (n : Option Nat) (c : UInt8) : Option Nat :=
  match n with
  | none => none
  | some v => if c.toNat < 48 ∨ 57 < c.toNat ∨ 922337203685477580 < v then none else some (v * 10 + (c.toNat - 48))
def milF (l : List UInt8) : Option Nat := l.foldl milStep (some 0)
theorem milF_snoc (l : List UInt8) (c : UInt8) : milF (l ++ [c]) = milStep (milF l) c := by simp [milF]
theorem milF_none_take {l : List UInt8} {k : Nat} (h : milF (l.take k) = none) : milF l = none := by
  have : l = l.take k ++ l.drop k := (List.take_append_drop k l).symm
  rw [this]
  unfold milF at *
  rw [List.foldl_append, h]
  generalize l.drop k = r
  induction r with
  | nil => rfl
  | cons c r ih => simpa [milStep] using ih

/-- What millionths reads. -/
def milChars (a b : List UInt8) : List UInt8 := a ++ b ++ List.replicate (6 - b.length) 48

/-- What millionths answers. -/
def milAns (o : Option Nat) : Ending := match o with
  | some v => .returned (.tuple #[.int .u64 (v : Int), .bool true])
  | none => .returned (.tuple #[.int .u64 0, .bool false])

theorem mil_good {o : Option Nat} {v : Nat} {c : UInt8} {n : Nat} (h : o = milStep (some v) c) (hc : c.toNat = n) (h1 : 48 ≤ n) (h2 : n ≤ 57) (h3 : v ≤ 922337203685477580) : o = some (v * 10 + (n - 48)) := by
  subst hc
  rw [h, milStep, if_neg (by omega)]
theorem mil_bad {o : Option Nat} {v : Nat} {c : UInt8} {n : Nat} (h : o = milStep (some v) c) (hc : c.toNat = n) (h1 : n < 48 ∨ 57 < n ∨ 922337203685477580 < v) : o = none := by
  subst hc
  rw [h, milStep, if_pos (by omega)]

set_option maxRecDepth 20000 in
set_option maxHeartbeats 4000000 in
/-- dec.millionths. -/
theorem mil_any (a b : ByteArray) (ha : a.size ≤ 1000000) (hb : b.size ≤ 6) (w : World) :
    Calls Tryd.prog 48 #[.string a, .string b] w fun e w' => e = milAns (milF (milChars a.data.toList b.data.toList)) ∧ w = w' := by
  obtain ⟨cs, hcs⟩ : ∃ cs, milChars a.data.toList b.data.toList = cs := ⟨_, rfl⟩
  have la : a.data.toList.length = a.size := by simp
  have lb : b.data.toList.length = b.size := by simp
  have hlen : cs.length = a.size + 6 := by rw [← hcs]; unfold milChars; rw [List.length_append, List.length_append, List.length_replicate, la, lb]; omega
  have HCS := Lib.hid hcs; clear hcs
  have HLEN := Lib.hid hlen; clear hlen
  have LA := Lib.hid la; clear la
  have LB := Lib.hid lb; clear lb
  go_enter Tryd.func48, Tryd.ntmps48
  go_wp2
  go_loop [6, 12] (fun nv iv => ∃ k v : Nat, k ≤ a.size + 6 ∧ iv = .int .i64 (k : Int) ∧ nv = .int .u64 (v : Int) ∧ v ≤ 9223372036854775809 ∧ Hid (milF (cs.take k) = some v))
    (fun _ i => a.size + 6 - (intOf i).toNat)
  case atStart => exact ⟨0, 0, by omega, rfl, rfl, by omega, rfl⟩
  case round =>
    obtain ⟨k, v, hk, rfl, rfl, hv, hm⟩ := hrel
    by_cases hgo : k < a.size + 6
    · obtain ⟨c, hc⟩ : ∃ c, cs[k]'(by have := HLEN.out; omega) = c := ⟨_, rfl⟩
      have hstep := milF_snoc (cs.take k) c
      rw [hm.out, ← hc, ← List.take_succ_eq_append_getElem, hc] at hstep
      have HST := Lib.hid hstep; clear hstep
      by_cases h1 : k < a.size
      · have hca : c.toNat = (a[k]'h1).toNat := by
          rw [← hc]; simp only [← HCS.out, milChars]
          rw [List.getElem_append_left (by rw [List.length_append, LA.out]; omega), List.getElem_append_left (by rw [LA.out]; exact h1)]; rfl
        have HCA := Lib.hid hca; clear hca hc
        rcases (show (a[k]'h1).toNat < 48 ∨ (48 ≤ (a[k]'h1).toNat ∧ 57 < (a[k]'h1).toNat) ∨ (48 ≤ (a[k]'h1).toNat ∧ (a[k]'h1).toNat ≤ 57 ∧ 922337203685477580 < v) ∨ (48 ≤ (a[k]'h1).toNat ∧ (a[k]'h1).toNat ≤ 57 ∧ v ≤ 922337203685477580) from by omega) with g | ⟨g, g'⟩ | ⟨g, g', g''⟩ | ⟨g, g', g''⟩
        · have hend := milF_none_take (mil_bad HST.out HCA.out (.inl g))
          have HE := Lib.hid hend; clear hend
          go_wp2
          go_ret2
          exact ⟨by rw [HCS.out, HE.out]; rfl, rfl⟩
        · have hend := milF_none_take (mil_bad HST.out HCA.out (.inr (.inl g')))
          have HE := Lib.hid hend; clear hend
          go_wp2
          go_ret2
          exact ⟨by rw [HCS.out, HE.out]; rfl, rfl⟩
        · have hend := milF_none_take (mil_bad HST.out HCA.out (.inr (.inr g'')))
          have HE := Lib.hid hend; clear hend
          go_wp2
          go_ret2
          exact ⟨by rw [HCS.out, HE.out]; rfl, rfl⟩
        · have hnx := mil_good HST.out HCA.out g g' g''
          have HE := Lib.hid hnx; clear hnx
          go_wp2
          go_round
          case rel => exact ⟨k + 1, v * 10 + ((a[k]'h1).toNat - 48), by omega, by go_num, by go_num, by omega, HE.out⟩
          case measure => simp [intOf] <;> omega
      · by_cases h2 : k < a.size + b.size
        · obtain ⟨j, hj⟩ : ∃ j, k = a.size + j := ⟨k - a.size, by omega⟩
          subst hj
          have hjb : j < b.size := by omega
          have hca : c.toNat = (b[j]'hjb).toNat := by
            rw [← hc]; simp only [← HCS.out, milChars]
            rw [List.getElem_append_left (by rw [List.length_append, LA.out, LB.out]; omega), List.getElem_append_right (by rw [LA.out]; omega)]
            simp only [LA.out, Nat.add_sub_cancel_left]; rfl
          have HCA := Lib.hid hca; clear hca hc
          have hj1 : ¬ ((a.size : Int) + (j : Int) < (a.size : Int)) := by omega
          rcases (show (b[j]'hjb).toNat < 48 ∨ (48 ≤ (b[j]'hjb).toNat ∧ 57 < (b[j]'hjb).toNat) ∨ (48 ≤ (b[j]'hjb).toNat ∧ (b[j]'hjb).toNat ≤ 57 ∧ 922337203685477580 < v) ∨ (48 ≤ (b[j]'hjb).toNat ∧ (b[j]'hjb).toNat ≤ 57 ∧ v ≤ 922337203685477580) from by omega) with g | ⟨g, g'⟩ | ⟨g, g', g''⟩ | ⟨g, g', g''⟩
          · have hend := milF_none_take (mil_bad HST.out HCA.out (.inl g))
            have HE := Lib.hid hend; clear hend
            go_wp2
            go_ret2
            exact ⟨by rw [HCS.out, HE.out]; rfl, rfl⟩
          · have hend := milF_none_take (mil_bad HST.out HCA.out (.inr (.inl g')))
            have HE := Lib.hid hend; clear hend
            go_wp2
            go_ret2
            exact ⟨by rw [HCS.out, HE.out]; rfl, rfl⟩
          · have hend := milF_none_take (mil_bad HST.out HCA.out (.inr (.inr g'')))
            have HE := Lib.hid hend; clear hend
            go_wp2
            go_ret2
            exact ⟨by rw [HCS.out, HE.out]; rfl, rfl⟩
          · have hnx := mil_good HST.out HCA.out g g' g''
            have HE := Lib.hid hnx; clear hnx
            go_wp2
            go_round
            case rel => exact ⟨a.size + j + 1, v * 10 + ((b[j]'hjb).toNat - 48), by omega, by go_num, by go_num, by omega, HE.out⟩
            case measure => simp [intOf] <;> omega
        · have hca : c.toNat = 48 := by
            rw [← hc]; simp only [← HCS.out, milChars]
            rw [List.getElem_append_right (by rw [List.length_append, LA.out, LB.out]; omega)]
            simp
          have HCA := Lib.hid hca; clear hca hc
          rcases (show 922337203685477580 < v ∨ v ≤ 922337203685477580 from by omega) with g | g
          · have hend := milF_none_take (mil_bad HST.out HCA.out (.inr (.inr g)))
            have HE := Lib.hid hend; clear hend
            go_wp2
            go_ret2
            exact ⟨by rw [HCS.out, HE.out]; rfl, rfl⟩
          · have hnx := mil_good HST.out HCA.out (by omega) (by omega) g
            have HE := Lib.hid hnx; clear hnx
            go_wp2
            go_round
            case rel => exact ⟨k + 1, v * 10, by omega, by go_num, by go_num, by omega, HE.out⟩
            case measure => simp [intOf] <;> omega
    · obtain rfl : k = a.size + 6 := by omega
      have hx : cs.take (a.size + 6) = cs := List.take_of_length_le (by rw [HLEN.out]; exact Nat.le_refl _)
      have hm2 := hm.out
      rw [hx] at hm2
      have HM := Lib.hid hm2; clear hm2 hx
      go_wp2
      go_ret2
      exact ⟨by rw [HCS.out, HM.out]; rfl, rfl⟩

/-- What Parse answers. -/
def parseOf (neg : Bool) (wh fr : List UInt8) (pt : Bool) : Int × Bool :=
  if wh = [] ∨ 6 < fr.length ∨ (pt = true ∧ fr = []) then (0, false)
  else match milF (milChars wh fr) with
    | none => (0, false)
    | some v => ((toI (sgn neg v)).1, (toI (sgn neg v)).2 == 0)
def parseL (l : List UInt8) : Int × Bool :=
  let u := Lib.trimPrefix l [45]
  parseOf (Lib.hasPrefix l [45]) (Lib.cut u [46]).1 (Lib.cut u [46]).2.1 (Lib.cut u [46]).2.2

theorem milF_bound {l : List UInt8} {v : Nat} (h : milF l = some v) : v ≤ 9223372036854775809 := by
  have gen : ∀ (l : List UInt8) (o : Option Nat), (∀ x, o = some x → x ≤ 9223372036854775809) → ∀ v, l.foldl milStep o = some v → v ≤ 9223372036854775809 := by
    intro l
    induction l with
    | nil => intro o ho v hv; exact ho v hv
    | cons c l ih =>
      intro o ho v hv
      refine ih (milStep o c) ?_ v hv
      intro x hx
      cases o with
      | none => simp [milStep] at hx
      | some y =>
        simp only [milStep] at hx
        split at hx
        · cases hx
        · have := Option.some.inj hx
          omega
  exact gen l (some 0) (by intro x hx; have := Option.some.inj hx; omega) v h

theorem ret_ib {k : IntKind} {a b : Int} {x y : Bool} (h : a = b) (h' : x = y) : Ending.returned (.tuple #[.int k a, .bool x]) = .returned (.tuple #[.int k b, .bool y]) := by rw [h, h']

set_option maxRecDepth 20000 in
set_option maxHeartbeats 4000000 in
/-- dec.Parse. -/
theorem parse_any (s : ByteArray) (hs : s.size ≤ 1000000) (w : World) (hE : Env w) :
    Calls Tryd.prog 31 #[.string s] w fun e w' => e = .returned (.tuple #[.int .i64 (parseL s.data.toList).1, .bool (parseL s.data.toList).2]) ∧ Below w.heap.size w w' := by
  obtain ⟨l, hl⟩ : ∃ l, s.data.toList = l := ⟨_, rfl⟩
  have hsl : l.length = s.size := by rw [← hl]; simp
  have hcp := fun w => Tryd.strings_CutPrefix s ⟨#[45]⟩ w
  obtain ⟨neg, hneg⟩ : ∃ b, Lib.hasPrefix l [45] = b := ⟨_, rfl⟩
  obtain ⟨u, hu⟩ : ∃ u, Lib.trimPrefix l [45] = u := ⟨_, rfl⟩
  have hul : u.length ≤ 1000000 := by
    rw [← hu]; unfold Lib.trimPrefix; split
    · simp; omega
    · omega
  rw [hl] at hcp ⊢
  have e45 : (⟨#[45]⟩ : ByteArray).data.toList = [45] := rfl
  rw [e45, hneg, hu] at hcp
  obtain ⟨m, hm⟩ := hE.max
  have hct := Tryd.strings_Cut ⟨u.toArray⟩ ⟨#[46]⟩ m w (by show u.toArray.size < _; simp; omega) hm
  obtain ⟨wh, hwh⟩ : ∃ x, (Lib.cut u [46]).1 = x := ⟨_, rfl⟩
  obtain ⟨fr, hfr⟩ : ∃ x, (Lib.cut u [46]).2.1 = x := ⟨_, rfl⟩
  obtain ⟨pt, hpt⟩ : ∃ x, (Lib.cut u [46]).2.2 = x := ⟨_, rfl⟩
  have e46 : (⟨u.toArray⟩ : ByteArray).data.toList = u := rfl
  have e47 : (⟨#[46]⟩ : ByteArray).data.toList = [46] := rfl
  rw [e46, e47, hwh, hfr, hpt] at hct
  have hwl : wh.length ≤ 1000000 := by rw [← hwh]; unfold Lib.cut; split <;> simp <;> omega
  have hans : parseL l = parseOf neg wh fr pt := by unfold parseL; simp only [hu, hneg, hwh, hfr, hpt]
  rw [hans]
  clear hans hwh hfr hpt hu hneg hl hsl e45 e46 e47 hul
  have e1 : (⟨wh.toArray⟩ : ByteArray).data.toList = wh := rfl
  have e2 : (⟨fr.toArray⟩ : ByteArray).data.toList = fr := rfl
  by_cases hw : wh = []
  · subst hw
    have e0 : parseOf neg [] fr pt = (0, false) := by unfold parseOf; rw [if_pos (.inl rfl)]
    rw [e0]; clear e0 e1 e2 hwl
    go_enter Tryd.func31, Tryd.ntmps31
    go_wp2_with (first
      | (go_at_call 46; go_must (refine (hcp _).mono ?_); rintro e w' ⟨rfl, rfl⟩)
      | (go_at_call 47; go_must (refine hct.mono ?_); rintro e w' ⟨rfl, nq, rfl⟩))
    go_ret2
    exact ⟨rfl, below_drewN (Below.refl _ _) _⟩
  have hwe : wh.isEmpty = false := by simpa using hw
  by_cases hf : 6 < fr.length
  · have e0 : parseOf neg wh fr pt = (0, false) := by unfold parseOf; rw [if_pos (.inr (.inl hf))]
    rw [e0]; clear e0 e1 e2
    go_enter Tryd.func31, Tryd.ntmps31
    go_wp2_with (first
      | (go_at_call 46; go_must (refine (hcp _).mono ?_); rintro e w' ⟨rfl, rfl⟩)
      | (go_at_call 47; go_must (refine hct.mono ?_); rintro e w' ⟨rfl, nq, rfl⟩))
    go_ret2
    exact ⟨rfl, below_drewN (Below.refl _ _) _⟩
  have hfl : fr.length ≤ 6 := by omega
  by_cases hpf : pt = true ∧ fr = []
  · obtain ⟨rfl, rfl⟩ := hpf
    have e0 : parseOf neg wh [] true = (0, false) := by unfold parseOf; rw [if_pos (.inr (.inr ⟨rfl, rfl⟩))]
    rw [e0]; clear e0 e1 e2 hf
    go_enter Tryd.func31, Tryd.ntmps31
    go_wp2_with (first
      | (go_at_call 46; go_must (refine (hcp _).mono ?_); rintro e w' ⟨rfl, rfl⟩)
      | (go_at_call 47; go_must (refine hct.mono ?_); rintro e w' ⟨rfl, nq, rfl⟩))
    go_ret2
    exact ⟨rfl, below_drewN (Below.refl _ _) _⟩
  have hml := fun w => mil_any ⟨wh.toArray⟩ ⟨fr.toArray⟩ (by show wh.toArray.size ≤ _; simpa using hwl) (by show fr.toArray.size ≤ _; simpa using hfl) w
  rw [e1, e2] at hml
  have e0 : parseOf neg wh fr pt = match milF (milChars wh fr) with
    | none => (0, false)
    | some v => ((toI (sgn neg v)).1, (toI (sgn neg v)).2 == 0) := by
    unfold parseOf; exact if_neg (fun h => h.elim hw (fun h => h.elim hf hpf))
  have split : (pt = true ∧ fr.isEmpty = false) ∨ pt = false := by
    cases pt
    · exact .inr rfl
    · exact .inl ⟨rfl, by simpa using fun h => hpf ⟨rfl, h⟩⟩
  rw [e0]
  cases hv : milF (milChars wh fr) with
  | none =>
    rw [hv] at hml
    unfold milAns at hml
    clear hv e0 e1 e2 hpf hf
    rcases split with ⟨rfl, hfe⟩ | rfl
    all_goals
      go_enter Tryd.func31, Tryd.ntmps31
      go_wp2_with (first
        | (go_at_call 46; go_must (refine (hcp _).mono ?_); rintro e w' ⟨rfl, rfl⟩)
        | (go_at_call 47; go_must (refine hct.mono ?_); rintro e w' ⟨rfl, nq, rfl⟩)
        | (go_at_call 48; go_must (refine (hml _).mono ?_); rintro e w' ⟨rfl, rfl⟩))
      go_ret2
      exact ⟨rfl, below_drewN (Below.refl _ _) _⟩
  | some v =>
    rw [hv] at hml
    unfold milAns at hml
    have hvb := milF_bound hv
    clear hv e0 e1 e2 hpf hf
    rcases split with ⟨rfl, hfe⟩ | rfl
    all_goals
      go_enter Tryd.func31, Tryd.ntmps31
      go_wp2_with (first
        | (go_at_call 46; go_must (refine (hcp _).mono ?_); rintro e w' ⟨rfl, rfl⟩)
        | (go_at_call 47; go_must (refine hct.mono ?_); rintro e w' ⟨rfl, nq, rfl⟩)
        | (go_at_call 48; go_must (refine (hml _).mono ?_); rintro e w' ⟨rfl, rfl⟩)
        | (go_at_call 44; go_must (refine (signed_any neg v (by omega) _).mono ?_); rintro e w' ⟨rfl, rfl⟩))
      go_ret2
      exact ⟨rfl, below_drewN (Below.refl _ _) _⟩
end Go.Proofs.YthfgpmiammfcaaaDoor
