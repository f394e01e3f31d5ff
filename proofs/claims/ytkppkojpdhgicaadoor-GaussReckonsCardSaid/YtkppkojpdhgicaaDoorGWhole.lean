/-
The reference's whole, by its contract.
-/
import Derived.Test.YtkppkojpdhgicaaDoorGMath
namespace Go.Proofs.YtkppkojpdhgicaaDoor
open Go.RowKit Go.Proofs.YtkppkojpdhgicaaDoor.Gf

/-- The sign ahead, and what stands behind it. -/
def sgn (l : List UInt8) : Bool × List UInt8 := match l with
    | c :: t => if c = 45 then (true, t) else if c = 43 then (false, t) else (false, l)
    | [] => (false, [])
theorem whole_end (l : List UInt8) (at' fr k : Nat) (m : Bool) (n : Nat) (hs : sgn (l.drop at') = (m, l.drop fr)) (hr : rdD 8 0 (l.drop fr) = ((n : Int), l.drop k)) (hfk : fr ≤ k) (hk : k ≤ l.length) :
    whole (l.drop at') = (if m then 0 - (if k = fr then 1 else (n : Int)) else (if k = fr then 1 else (n : Int)), l.drop k) := by
  have e : whole (l.drop at') = (if (sgn (l.drop at')).1 then 0 - (if (rdD 8 0 (sgn (l.drop at')).2).2.length = (sgn (l.drop at')).2.length then 1 else (rdD 8 0 (sgn (l.drop at')).2).1) else (if (rdD 8 0 (sgn (l.drop at')).2).2.length = (sgn (l.drop at')).2.length then 1 else (rdD 8 0 (sgn (l.drop at')).2).1), (rdD 8 0 (sgn (l.drop at')).2).2) := rfl
  rw [e, hs]
  simp only
  rw [hr]
  simp only [List.length_drop]
  have : (l.length - k = l.length - fr) ↔ k = fr := by omega
  simp only [this]
theorem sgn_minus {l : List UInt8} {k : Nat} (h : l[k]? = some 45) : sgn (l.drop k) = (true, l.drop (k + 1)) := by
  obtain ⟨h1, h2⟩ := List.getElem?_eq_some_iff.1 h
  rw [List.drop_eq_getElem_cons h1, h2]; simp [sgn]
theorem sgn_plus {l : List UInt8} {k : Nat} (h : l[k]? = some 43) : sgn (l.drop k) = (false, l.drop (k + 1)) := by
  obtain ⟨h1, h2⟩ := List.getElem?_eq_some_iff.1 h
  rw [List.drop_eq_getElem_cons h1, h2]; simp [sgn]
theorem sgn_none {l : List UInt8} {k : Nat} {c : UInt8} (h : l[k]? = some c) (h1 : c ≠ 45) (h2 : c ≠ 43) : sgn (l.drop k) = (false, l.drop k) := by
  obtain ⟨h3, h4⟩ := List.getElem?_eq_some_iff.1 h
  rw [List.drop_eq_getElem_cons h3, h4]; simp [sgn, h1, h2]
theorem sgn_end {l : List UInt8} {k : Nat} (h : l.length ≤ k) : sgn (l.drop k) = (false, l.drop k) := by
  rw [List.drop_of_length_le h]; rfl
/-- The reading so far. -/
def Rdg (l : List UInt8) (fr k n : Nat) : Prop := fr ≤ k ∧ k ≤ l.length ∧ k ≤ fr + 8 ∧ n + 1 ≤ 10 ^ (k - fr) ∧ rdD 8 0 (l.drop fr) = rdD (8 - (k - fr)) (n : Int) (l.drop k)
theorem Rdg.start (l : List UInt8) (fr : Nat) (h : fr ≤ l.length) : Rdg l fr fr 0 := ⟨Nat.le_refl _, h, by omega, by simp, by simp⟩
theorem Rdg.step {l : List UInt8} {fr k n : Nat} {c : UInt8} (h : Rdg l fr k n) (hc : l[k]? = some c) (hd : isDig c = true) (h8 : k < fr + 8) : Rdg l fr (k + 1) (n * 10 + (c.toNat - 48)) := by
  obtain ⟨h1, h2, h3, h4, h5⟩ := h
  obtain ⟨g1, g2⟩ := List.getElem?_eq_some_iff.1 hc
  have hdd := of_decide_eq_true hd
  refine ⟨by omega, by omega, by omega, ?_, ?_⟩
  · rw [show k + 1 - fr = (k - fr) + 1 by omega, Nat.pow_succ]; omega
  · rw [h5, List.drop_eq_getElem_cons g1, g2, show 8 - (k - fr) = (8 - (k + 1 - fr)) + 1 by omega, rdD, if_pos hd]
    congr 1; omega
theorem Rdg.bound {l : List UInt8} {fr k n : Nat} (h : Rdg l fr k n) : n ≤ 99999999 := by
  obtain ⟨h1, h2, h3, h4, h5⟩ := h
  have := Nat.pow_le_pow_right (show 0 < 10 by decide) (show k - fr ≤ 8 by omega)
  omega
theorem Rdg.done {l : List UInt8} {fr k n : Nat} (h : Rdg l fr k n) (he : k = fr + 8 ∨ l.length ≤ k ∨ ∃ c, l[k]? = some c ∧ isDig c = false) : rdD 8 0 (l.drop fr) = ((n : Int), l.drop k) := by
  obtain ⟨h1, h2, h3, h4, h5⟩ := h
  rw [h5]
  rcases he with he | he | ⟨c, hc, hd⟩
  · rw [show 8 - (k - fr) = 0 by omega]; rfl
  · rw [List.drop_of_length_le he]
    cases 8 - (k - fr) <;> rfl
  · obtain ⟨g1, g2⟩ := List.getElem?_eq_some_iff.1 hc
    rw [List.drop_eq_getElem_cons g1, g2]
    cases 8 - (k - fr) with
    | zero => rfl
    | succ f => rw [rdD, if_neg (by rw [hd]; simp)]
/-- What whole answers. -/
def WholeOk (l : List UInt8) (at' : Nat) (e : Ending) : Prop :=
  ∃ (n : Int) (k : Nat), e = .returned (.tuple #[.int .i64 n, .int .i64 (k : Int)]) ∧ at' ≤ k ∧ k ≤ l.length ∧ (-99999999 ≤ n ∧ n ≤ 99999999) ∧ whole (l.drop at') = (n, l.drop k)
theorem wok {l : List UInt8} {a : Nat} {n k n' k' : Int} (h : WholeOk l a (.returned (.tuple #[.int .i64 n, .int .i64 k]))) (hn : n = n') (hk : k = k') : WholeOk l a (.returned (.tuple #[.int .i64 n', .int .i64 k'])) := by
  subst hn; subst hk; exact h

set_option maxRecDepth 20000 in
set_option maxHeartbeats 4000000 in
theorem whole_at_end (s : ByteArray) (hs : s.size ≤ 60) (at' : Nat) (hat : s.size = at') (w : World) :
    Calls Tryd.prog 27 #[.string s, .int .i64 (at' : Int)] w fun e w' => WholeOk s.data.toList at' e ∧ w = w' := by
  have hlen : s.data.toList.length = s.size := (Lib.size_eq s).symm
  have HL := Lib.hid hlen; clear hlen
  have hsg := sgn_end (l := s.data.toList) (k := at') (by rw [HL.out]; omega)
  have hna : ¬ ((at' : Int) < (s.size : Int)) := by omega
  have hat2 : s.size ≤ at' ∧ at' ≤ s.size := by omega
  clear hat
  have HSg := Lib.hid hsg; clear hsg
  have hfe : ∀ k n : Nat, Rdg s.data.toList (at') k n → (k = at' + 8 ∨ s.size ≤ k ∨ ∃ c, s.data.toList[k]? = some c ∧ isDig c = false) → ∀ x : Int, x = (if k = at' then 1 else (n : Int)) → WholeOk s.data.toList at' (.returned (.tuple #[.int .i64 (x), .int .i64 (k : Int)])) := fun k n hR he x hx => by
    have hb := hR.bound
    have he' := whole_end _ at' _ k false n HSg.out (hR.done (by rw [HL.out]; exact he)) hR.1 hR.2.1
    rw [← hx] at he'
    refine ⟨_, k, rfl, by have := hR.1; omega, hR.2.1, ?_, he'⟩
    split at hx <;> omega
  have HFE := Lib.hid hfe; clear hfe
  go_enter Tryd.func27, Tryd.ntmps27
  go_wp2
  go_loop [6, 1] (fun nv av => ∃ k n : Nat, k ≤ s.size ∧ at' ≤ k ∧ k ≤ at' + 8 ∧ n ≤ 99999999 ∧ nv = .int .i64 (n : Int) ∧ av = .int .i64 (k : Int) ∧ Hid (Rdg s.data.toList (at') k n)) (fun _ av => s.size - (intOf av).toNat)
  case atStart => exact ⟨at', 0, by omega, by omega, by omega, by omega, rfl, rfl, Rdg.start _ _ (by rw [HL.out]; omega)⟩
  case round =>
    obtain ⟨k, n, hks, hfk, hk8, hn9, rfl, rfl, HR⟩ := hrel
    by_cases hsz : k < s.size
    · exfalso; omega
    · have hex := HFE.out k n HR.out (.inr (.inl (by omega)))
      have HX := Lib.hid hex
      clear hex HFE HSg HL HR
      by_cases hkf : k = at'
      · subst hkf
        go_wp2
        go_ret2
        exact ⟨wok (HX.out 1 (by simp)) (by omega) (by omega), rfl⟩
      · have hkf' : ((k : Int) == ((at' : Int))) = false := beq_eq_false_iff_ne.2 (by omega)
        go_wp2
        go_ret2
        exact ⟨wok (HX.out (n : Int) (by rw [if_neg hkf])) (by omega) (by omega), rfl⟩


set_option maxRecDepth 20000 in
set_option maxHeartbeats 4000000 in
theorem whole_minus (s : ByteArray) (hs : s.size ≤ 60) (at' : Nat) (hat : at' < s.size) (hx : s[at']'hat = 45) (w : World) :
    Calls Tryd.prog 27 #[.string s, .int .i64 (at' : Int)] w fun e w' => WholeOk s.data.toList at' e ∧ w = w' := by
  have hlen : s.data.toList.length = s.size := (Lib.size_eq s).symm
  have HL := Lib.hid hlen; clear hlen
  have hsg := sgn_minus (l := s.data.toList) (k := at') (by rw [← hx]; exact Lib.data_getElem? s at' hat)
  have HSg := Lib.hid hsg; clear hsg
  have hfe : ∀ k n : Nat, Rdg s.data.toList (at' + 1) k n → (k = at' + 1 + 8 ∨ s.size ≤ k ∨ ∃ c, s.data.toList[k]? = some c ∧ isDig c = false) → ∀ x : Int, x = (if k = at' + 1 then 1 else (n : Int)) → WholeOk s.data.toList at' (.returned (.tuple #[.int .i64 (0 - x), .int .i64 (k : Int)])) := fun k n hR he x hx => by
    have hb := hR.bound
    have he' := whole_end _ at' _ k true n HSg.out (hR.done (by rw [HL.out]; exact he)) hR.1 hR.2.1
    rw [← hx] at he'
    refine ⟨_, k, rfl, by have := hR.1; omega, hR.2.1, ?_, he'⟩
    split at hx <;> omega
  have HFE := Lib.hid hfe; clear hfe
  go_enter Tryd.func27, Tryd.ntmps27
  go_wp2
  clear hx
  go_loop [6, 1] (fun nv av => ∃ k n : Nat, k ≤ s.size ∧ at' + 1 ≤ k ∧ k ≤ at' + 1 + 8 ∧ n ≤ 99999999 ∧ nv = .int .i64 (n : Int) ∧ av = .int .i64 (k : Int) ∧ Hid (Rdg s.data.toList (at' + 1) k n)) (fun _ av => s.size - (intOf av).toNat)
  case atStart => exact ⟨at' + 1, 0, by omega, by omega, by omega, by omega, rfl, by go_num, Rdg.start _ _ (by rw [HL.out]; omega)⟩
  case round =>
    obtain ⟨k, n, hks, hfk, hk8, hn9, rfl, rfl, HR⟩ := hrel
    by_cases hsz : k < s.size
    · obtain ⟨c, hc⟩ : ∃ c : UInt8, s[k]'hsz = c := ⟨_, rfl⟩
      have hcl : s.data.toList[k]? = some c := by rw [← hc]; exact Lib.data_getElem? s k hsz
      have HC := Lib.hid hcl; clear hcl
      have hc8 : (c.toNat : Int) ≤ 255 := by have := UInt8.toNat_lt c; omega
      by_cases h1 : (48 : Int) ≤ (c.toNat : Int)
      · by_cases h2 : (c.toNat : Int) ≤ 57
        · by_cases h3 : k < at' + 1 + 8
          · have hdg : isDig c = true := decide_eq_true (by omega)
            have HST := Lib.hid (HR.out.step HC.out hdg h3)
            have hbd : n * 10 + (c.toNat - 48) ≤ 99999999 := HST.out.bound
            have hwr : IntKind.u8.wrap ((c.toNat : Int) - 48) = ((c.toNat - 48 : Nat) : Int) := by rw [IntKind.wrap_u8]; omega
            clear hdg
            go_wp2
            go_round
            case rel => exact ⟨k + 1, n * 10 + (c.toNat - 48), by omega, by omega, by omega, hbd, by go_num, by go_num, HST.out⟩
            case measure => simp [intOf]; omega
          · have hke : at' + 1 + 8 ≤ k := by omega
            have hex := HFE.out k n HR.out (.inl (by omega))
            have HX := Lib.hid hex
            clear hex HFE HSg HL HR
            have hkf : ((k : Int) == ((at' : Int) + 1)) = false := beq_eq_false_iff_ne.2 (by omega)
            go_wp2
            go_ret2
            exact ⟨wok (HX.out (n : Int) (by rw [if_neg (by omega)])) (by omega) (by omega), rfl⟩
        · have hdg : isDig c = false := decide_eq_false (by omega)
          have hex := HFE.out k n HR.out (.inr (.inr ⟨c, HC.out, hdg⟩))
          have HX := Lib.hid hex
          clear hex HFE HSg HL HR hdg HC
          by_cases hkf : k = at' + 1
          · subst hkf
            go_wp2
            go_ret2
            exact ⟨wok (HX.out 1 (by simp)) (by omega) (by omega), rfl⟩
          · have hkf' : ((k : Int) == ((at' : Int) + 1)) = false := beq_eq_false_iff_ne.2 (by omega)
            go_wp2
            go_ret2
            exact ⟨wok (HX.out (n : Int) (by rw [if_neg hkf])) (by omega) (by omega), rfl⟩
      · have hdg : isDig c = false := decide_eq_false (by omega)
        have hex := HFE.out k n HR.out (.inr (.inr ⟨c, HC.out, hdg⟩))
        have HX := Lib.hid hex
        clear hex HFE HSg HL HR hdg HC
        by_cases hkf : k = at' + 1
        · subst hkf
          go_wp2
          go_ret2
          exact ⟨wok (HX.out 1 (by simp)) (by omega) (by omega), rfl⟩
        · have hkf' : ((k : Int) == ((at' : Int) + 1)) = false := beq_eq_false_iff_ne.2 (by omega)
          go_wp2
          go_ret2
          exact ⟨wok (HX.out (n : Int) (by rw [if_neg hkf])) (by omega) (by omega), rfl⟩
    · have hex := HFE.out k n HR.out (.inr (.inl (by omega)))
      have HX := Lib.hid hex
      clear hex HFE HSg HL HR
      by_cases hkf : k = at' + 1
      · subst hkf
        go_wp2
        go_ret2
        exact ⟨wok (HX.out 1 (by simp)) (by omega) (by omega), rfl⟩
      · have hkf' : ((k : Int) == ((at' : Int) + 1)) = false := beq_eq_false_iff_ne.2 (by omega)
        go_wp2
        go_ret2
        exact ⟨wok (HX.out (n : Int) (by rw [if_neg hkf])) (by omega) (by omega), rfl⟩


set_option maxRecDepth 20000 in
set_option maxHeartbeats 4000000 in
theorem whole_plus (s : ByteArray) (hs : s.size ≤ 60) (at' : Nat) (hat : at' < s.size) (hx : s[at']'hat = 43) (w : World) :
    Calls Tryd.prog 27 #[.string s, .int .i64 (at' : Int)] w fun e w' => WholeOk s.data.toList at' e ∧ w = w' := by
  have hlen : s.data.toList.length = s.size := (Lib.size_eq s).symm
  have HL := Lib.hid hlen; clear hlen
  have hsg := sgn_plus (l := s.data.toList) (k := at') (by rw [← hx]; exact Lib.data_getElem? s at' hat)
  have HSg := Lib.hid hsg; clear hsg
  have hfe : ∀ k n : Nat, Rdg s.data.toList (at' + 1) k n → (k = at' + 1 + 8 ∨ s.size ≤ k ∨ ∃ c, s.data.toList[k]? = some c ∧ isDig c = false) → ∀ x : Int, x = (if k = at' + 1 then 1 else (n : Int)) → WholeOk s.data.toList at' (.returned (.tuple #[.int .i64 (x), .int .i64 (k : Int)])) := fun k n hR he x hx => by
    have hb := hR.bound
    have he' := whole_end _ at' _ k false n HSg.out (hR.done (by rw [HL.out]; exact he)) hR.1 hR.2.1
    rw [← hx] at he'
    refine ⟨_, k, rfl, by have := hR.1; omega, hR.2.1, ?_, he'⟩
    split at hx <;> omega
  have HFE := Lib.hid hfe; clear hfe
  go_enter Tryd.func27, Tryd.ntmps27
  go_wp2
  clear hx
  go_loop [6, 1] (fun nv av => ∃ k n : Nat, k ≤ s.size ∧ at' + 1 ≤ k ∧ k ≤ at' + 1 + 8 ∧ n ≤ 99999999 ∧ nv = .int .i64 (n : Int) ∧ av = .int .i64 (k : Int) ∧ Hid (Rdg s.data.toList (at' + 1) k n)) (fun _ av => s.size - (intOf av).toNat)
  case atStart => exact ⟨at' + 1, 0, by omega, by omega, by omega, by omega, rfl, by go_num, Rdg.start _ _ (by rw [HL.out]; omega)⟩
  case round =>
    obtain ⟨k, n, hks, hfk, hk8, hn9, rfl, rfl, HR⟩ := hrel
    by_cases hsz : k < s.size
    · obtain ⟨c, hc⟩ : ∃ c : UInt8, s[k]'hsz = c := ⟨_, rfl⟩
      have hcl : s.data.toList[k]? = some c := by rw [← hc]; exact Lib.data_getElem? s k hsz
      have HC := Lib.hid hcl; clear hcl
      have hc8 : (c.toNat : Int) ≤ 255 := by have := UInt8.toNat_lt c; omega
      by_cases h1 : (48 : Int) ≤ (c.toNat : Int)
      · by_cases h2 : (c.toNat : Int) ≤ 57
        · by_cases h3 : k < at' + 1 + 8
          · have hdg : isDig c = true := decide_eq_true (by omega)
            have HST := Lib.hid (HR.out.step HC.out hdg h3)
            have hbd : n * 10 + (c.toNat - 48) ≤ 99999999 := HST.out.bound
            have hwr : IntKind.u8.wrap ((c.toNat : Int) - 48) = ((c.toNat - 48 : Nat) : Int) := by rw [IntKind.wrap_u8]; omega
            clear hdg
            go_wp2
            go_round
            case rel => exact ⟨k + 1, n * 10 + (c.toNat - 48), by omega, by omega, by omega, hbd, by go_num, by go_num, HST.out⟩
            case measure => simp [intOf]; omega
          · have hke : at' + 1 + 8 ≤ k := by omega
            have hex := HFE.out k n HR.out (.inl (by omega))
            have HX := Lib.hid hex
            clear hex HFE HSg HL HR
            have hkf : ((k : Int) == ((at' : Int) + 1)) = false := beq_eq_false_iff_ne.2 (by omega)
            go_wp2
            go_ret2
            exact ⟨wok (HX.out (n : Int) (by rw [if_neg (by omega)])) (by omega) (by omega), rfl⟩
        · have hdg : isDig c = false := decide_eq_false (by omega)
          have hex := HFE.out k n HR.out (.inr (.inr ⟨c, HC.out, hdg⟩))
          have HX := Lib.hid hex
          clear hex HFE HSg HL HR hdg HC
          by_cases hkf : k = at' + 1
          · subst hkf
            go_wp2
            go_ret2
            exact ⟨wok (HX.out 1 (by simp)) (by omega) (by omega), rfl⟩
          · have hkf' : ((k : Int) == ((at' : Int) + 1)) = false := beq_eq_false_iff_ne.2 (by omega)
            go_wp2
            go_ret2
            exact ⟨wok (HX.out (n : Int) (by rw [if_neg hkf])) (by omega) (by omega), rfl⟩
      · have hdg : isDig c = false := decide_eq_false (by omega)
        have hex := HFE.out k n HR.out (.inr (.inr ⟨c, HC.out, hdg⟩))
        have HX := Lib.hid hex
        clear hex HFE HSg HL HR hdg HC
        by_cases hkf : k = at' + 1
        · subst hkf
          go_wp2
          go_ret2
          exact ⟨wok (HX.out 1 (by simp)) (by omega) (by omega), rfl⟩
        · have hkf' : ((k : Int) == ((at' : Int) + 1)) = false := beq_eq_false_iff_ne.2 (by omega)
          go_wp2
          go_ret2
          exact ⟨wok (HX.out (n : Int) (by rw [if_neg hkf])) (by omega) (by omega), rfl⟩
    · have hex := HFE.out k n HR.out (.inr (.inl (by omega)))
      have HX := Lib.hid hex
      clear hex HFE HSg HL HR
      by_cases hkf : k = at' + 1
      · subst hkf
        go_wp2
        go_ret2
        exact ⟨wok (HX.out 1 (by simp)) (by omega) (by omega), rfl⟩
      · have hkf' : ((k : Int) == ((at' : Int) + 1)) = false := beq_eq_false_iff_ne.2 (by omega)
        go_wp2
        go_ret2
        exact ⟨wok (HX.out (n : Int) (by rw [if_neg hkf])) (by omega) (by omega), rfl⟩


set_option maxRecDepth 20000 in
set_option maxHeartbeats 4000000 in
theorem whole_other (s : ByteArray) (hs : s.size ≤ 60) (at' : Nat) (hat : at' < s.size) (c0 : UInt8) (hx : s[at']'hat = c0) (n45 : c0 ≠ 45) (n43 : c0 ≠ 43) (w : World) :
    Calls Tryd.prog 27 #[.string s, .int .i64 (at' : Int)] w fun e w' => WholeOk s.data.toList at' e ∧ w = w' := by
  have hlen : s.data.toList.length = s.size := (Lib.size_eq s).symm
  have HL := Lib.hid hlen; clear hlen
  have hsg := sgn_none (l := s.data.toList) (k := at') (c := c0) (by rw [← hx]; exact Lib.data_getElem? s at' hat) n45 n43
  have t45 : ((c0.toNat : Int) == 45) = false := beq_eq_false_iff_ne.2 fun h => n45 (UInt8.toNat_inj.1 (show c0.toNat = 45 by omega))
  have t43 : ((c0.toNat : Int) == 43) = false := beq_eq_false_iff_ne.2 fun h => n43 (UInt8.toNat_inj.1 (show c0.toNat = 43 by omega))
  clear n45 n43
  have HSg := Lib.hid hsg; clear hsg
  have hfe : ∀ k n : Nat, Rdg s.data.toList (at') k n → (k = at' + 8 ∨ s.size ≤ k ∨ ∃ c, s.data.toList[k]? = some c ∧ isDig c = false) → ∀ x : Int, x = (if k = at' then 1 else (n : Int)) → WholeOk s.data.toList at' (.returned (.tuple #[.int .i64 (x), .int .i64 (k : Int)])) := fun k n hR he x hx => by
    have hb := hR.bound
    have he' := whole_end _ at' _ k false n HSg.out (hR.done (by rw [HL.out]; exact he)) hR.1 hR.2.1
    rw [← hx] at he'
    refine ⟨_, k, rfl, by have := hR.1; omega, hR.2.1, ?_, he'⟩
    split at hx <;> omega
  have HFE := Lib.hid hfe; clear hfe
  go_enter Tryd.func27, Tryd.ntmps27
  go_wp2
  clear hx t45 t43
  go_loop [6, 1] (fun nv av => ∃ k n : Nat, k ≤ s.size ∧ at' ≤ k ∧ k ≤ at' + 8 ∧ n ≤ 99999999 ∧ nv = .int .i64 (n : Int) ∧ av = .int .i64 (k : Int) ∧ Hid (Rdg s.data.toList (at') k n)) (fun _ av => s.size - (intOf av).toNat)
  case atStart => exact ⟨at', 0, by omega, by omega, by omega, by omega, rfl, rfl, Rdg.start _ _ (by rw [HL.out]; omega)⟩
  case round =>
    obtain ⟨k, n, hks, hfk, hk8, hn9, rfl, rfl, HR⟩ := hrel
    by_cases hsz : k < s.size
    · obtain ⟨c, hc⟩ : ∃ c : UInt8, s[k]'hsz = c := ⟨_, rfl⟩
      have hcl : s.data.toList[k]? = some c := by rw [← hc]; exact Lib.data_getElem? s k hsz
      have HC := Lib.hid hcl; clear hcl
      have hc8 : (c.toNat : Int) ≤ 255 := by have := UInt8.toNat_lt c; omega
      by_cases h1 : (48 : Int) ≤ (c.toNat : Int)
      · by_cases h2 : (c.toNat : Int) ≤ 57
        · by_cases h3 : k < at' + 8
          · have hdg : isDig c = true := decide_eq_true (by omega)
            have HST := Lib.hid (HR.out.step HC.out hdg h3)
            have hbd : n * 10 + (c.toNat - 48) ≤ 99999999 := HST.out.bound
            have hwr : IntKind.u8.wrap ((c.toNat : Int) - 48) = ((c.toNat - 48 : Nat) : Int) := by rw [IntKind.wrap_u8]; omega
            clear hdg
            go_wp2
            go_round
            case rel => exact ⟨k + 1, n * 10 + (c.toNat - 48), by omega, by omega, by omega, hbd, by go_num, by go_num, HST.out⟩
            case measure => simp [intOf]; omega
          · have hke : at' + 8 ≤ k := by omega
            have hex := HFE.out k n HR.out (.inl (by omega))
            have HX := Lib.hid hex
            clear hex HFE HSg HL HR
            have hkf : ((k : Int) == ((at' : Int))) = false := beq_eq_false_iff_ne.2 (by omega)
            go_wp2
            go_ret2
            exact ⟨wok (HX.out (n : Int) (by rw [if_neg (by omega)])) (by omega) (by omega), rfl⟩
        · have hdg : isDig c = false := decide_eq_false (by omega)
          have hex := HFE.out k n HR.out (.inr (.inr ⟨c, HC.out, hdg⟩))
          have HX := Lib.hid hex
          clear hex HFE HSg HL HR hdg HC
          by_cases hkf : k = at'
          · subst hkf
            go_wp2
            go_ret2
            exact ⟨wok (HX.out 1 (by simp)) (by omega) (by omega), rfl⟩
          · have hkf' : ((k : Int) == ((at' : Int))) = false := beq_eq_false_iff_ne.2 (by omega)
            go_wp2
            go_ret2
            exact ⟨wok (HX.out (n : Int) (by rw [if_neg hkf])) (by omega) (by omega), rfl⟩
      · have hdg : isDig c = false := decide_eq_false (by omega)
        have hex := HFE.out k n HR.out (.inr (.inr ⟨c, HC.out, hdg⟩))
        have HX := Lib.hid hex
        clear hex HFE HSg HL HR hdg HC
        by_cases hkf : k = at'
        · subst hkf
          go_wp2
          go_ret2
          exact ⟨wok (HX.out 1 (by simp)) (by omega) (by omega), rfl⟩
        · have hkf' : ((k : Int) == ((at' : Int))) = false := beq_eq_false_iff_ne.2 (by omega)
          go_wp2
          go_ret2
          exact ⟨wok (HX.out (n : Int) (by rw [if_neg hkf])) (by omega) (by omega), rfl⟩
    · have hex := HFE.out k n HR.out (.inr (.inl (by omega)))
      have HX := Lib.hid hex
      clear hex HFE HSg HL HR
      by_cases hkf : k = at'
      · subst hkf
        go_wp2
        go_ret2
        exact ⟨wok (HX.out 1 (by simp)) (by omega) (by omega), rfl⟩
      · have hkf' : ((k : Int) == ((at' : Int))) = false := beq_eq_false_iff_ne.2 (by omega)
        go_wp2
        go_ret2
        exact ⟨wok (HX.out (n : Int) (by rw [if_neg hkf])) (by omega) (by omega), rfl⟩

/-- ref.whole. -/
theorem whole_any (s : ByteArray) (hs : s.size ≤ 60) (at' : Nat) (hat : at' ≤ s.size) (w : World) :
    Calls Tryd.prog 27 #[.string s, .int .i64 (at' : Int)] w fun e w' => WholeOk s.data.toList at' e ∧ w = w' := by
  by_cases h : at' < s.size
  · by_cases h1 : s[at']'h = 45
    · exact whole_minus s hs at' h h1 w
    · by_cases h2 : s[at']'h = 43
      · exact whole_plus s hs at' h h2 w
      · exact whole_other s hs at' h _ rfl h1 h2 w
  · exact whole_at_end s hs at' (by omega) w
end Go.Proofs.YtkppkojpdhgicaaDoor
