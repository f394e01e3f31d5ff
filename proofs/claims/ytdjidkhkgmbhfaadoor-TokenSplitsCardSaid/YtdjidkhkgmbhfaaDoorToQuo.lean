/-
The reference of stage 8: quoted, by a contract.
-/
import Derived.Test.YtdjidkhkgmbhfaaDoorToRun
import Derived.LoopTactic
import Derived.Laws.IdiomStrings
namespace Go.Proofs.YtdjidkhkgmbhfaaDoor
open Go.RowKit Go.Proofs.YtdjidkhkgmbhfaaDoor.Tok

theorem ba_appT (xs ys : List UInt8) : (⟨xs.toArray⟩ ++ ⟨ys.toArray⟩ : ByteArray) = ⟨(xs ++ ys).toArray⟩ := by
  apply ByteArray.ext
  simp
def quotedT : Option (List UInt8 × Nat) → Value
  | some (x, k) => .tuple #[.string ⟨x.toArray⟩, .int .i64 ((k + 1 : Nat) : Int)]
  | none => .tuple #[.string ⟨#[]⟩, .int .i64 0]
theorem q_two {l : List UInt8} {i : Nat} (h : [34, 34].isPrefixOf (l.drop i) = true) : quotedF (l.drop i) = (quotedF (l.drop (i + 2))).map (fun x => (34 :: x.1, x.2 + 2)) := by
  obtain ⟨r, hr⟩ := List.isPrefixOf_iff_prefix.1 h
  have e : l.drop (i + 2) = r := by rw [← List.drop_drop, ← hr]; rfl
  rw [← hr, e]
  show quotedF (34 :: 34 :: r) = _
  simp [quotedF]
theorem q_one {l : List UInt8} {i : Nat} (hc : l[i]? = some 34) (h : [34, 34].isPrefixOf (l.drop i) = false) : quotedF (l.drop i) = some ([], 1) := by
  have e : l.drop i = 34 :: l.drop (i + 1) := by
    have hi := (List.getElem?_eq_some_iff.1 hc)
    rw [List.drop_eq_getElem_cons hi.1, hi.2]
  rw [e] at h ⊢
  cases hr : l.drop (i + 1) with
  | nil => simp [quotedF]
  | cons d r =>
    rw [hr] at h
    have hd : d ≠ 34 := fun q => by subst q; simp at h
    simp [quotedF, hd]
theorem q_other {l : List UInt8} {i : Nat} {c : UInt8} (hc : l[i]? = some c) (h : c ≠ 34) : quotedF (l.drop i) = (quotedF (l.drop (i + 1))).map (fun x => (c :: x.1, x.2 + 1)) := by
  have e : l.drop i = c :: l.drop (i + 1) := by
    have hi := (List.getElem?_eq_some_iff.1 hc)
    rw [List.drop_eq_getElem_cons hi.1, hi.2]
  rw [e]
  cases hr : l.drop (i + 1) with
  | nil => simp [quotedF, h]
  | cons d r => simp [quotedF, h]
/-- What is read so far, and what is to come. -/
def Quo (l : List UInt8) (p i : Nat) (t : List UInt8) : Prop := quotedF (l.drop (p + 1)) = (quotedF (l.drop i)).map (fun x => (t ++ x.1, i - (p + 1) + x.2))
theorem Quo.start (l : List UInt8) (p : Nat) : Quo l p (p + 1) [] := by
  unfold Quo
  cases quotedF (l.drop (p + 1)) with
  | none => rfl
  | some x => simp
theorem Quo.step {l : List UInt8} {p i m : Nat} {t u : List UInt8} (h : Quo l p i t) (hi : p + 1 ≤ i) (e : quotedF (l.drop i) = (quotedF (l.drop (i + m))).map (fun x => (u ++ x.1, x.2 + m))) : Quo l p (i + m) (t ++ u) := by
  unfold Quo at h ⊢
  rw [h, e]
  cases quotedF (l.drop (i + m)) with
  | none => rfl
  | some x =>
    simp
    omega

set_option maxRecDepth 20000 in
set_option maxHeartbeats 2000000 in
theorem quoted_any (l : List UInt8) (p : Nat) (hp : p < l.length) (hl : l.length ≤ 1000000) (w : World) :
    Calls Tryd.prog 25 #[.string ⟨l.toArray⟩, .int .i64 (p : Int)] w fun e w' => e = .returned (quotedT (quotedF (l.drop (p + 1)))) ∧ w' = w := by
  obtain ⟨n, hn⟩ : ∃ n, n = l.length := ⟨_, rfl⟩
  have hsz : (⟨l.toArray⟩ : ByteArray).size = n := by rw [hn]; rfl
  have HBEG := Lib.hid (fun i (hi : i ≤ l.length) W => begins_any l [34, 34] i hi hl (by simp) W)
  rw [← hn] at hp hl
  have HN := Lib.hid hn
  clear hn
  go_enter Tryd.func25, Tryd.ntmps25
  go_wp2
  go_loop [6, 7] (fun a b => ∃ (i : Nat) (t : List UInt8), p + 1 ≤ i ∧ i ≤ n ∧ t.length ≤ i ∧ a = .string ⟨t.toArray⟩ ∧ b = .int .i64 (i : Int) ∧ Hid (Quo l p i t)) (fun _ b => n - (intOf b).toNat)
  case atStart => exact ⟨p + 1, [], Nat.le_refl _, hp, by simp, rfl, by go_num, Lib.hid (Quo.start l p)⟩
  case round =>
    obtain ⟨i, t, hpi, hi, ht, rfl, rfl, HQ⟩ := hrel
    have htz : (⟨t.toArray⟩ : ByteArray).size = t.length := rfl
    by_cases hge : n ≤ i
    · have hres : quotedF (l.drop (p + 1)) = none := by
        have h := HQ.out
        unfold Quo at h
        rw [h, List.drop_eq_nil_of_le (by rw [← HN.out]; exact hge)]
        rfl
      have HRES := Lib.hid hres
      clear hres
      go_wp2
      go_ret2
      exact ⟨by rw [HRES.out]; rfl, rfl⟩
    · have hlt : i < n := by omega
      clear hge
      obtain ⟨c, hc⟩ : ∃ c, l[i]? = some c := ⟨_, List.getElem?_eq_getElem (by rw [← HN.out]; exact hlt)⟩
      have hget : ∀ h, (⟨l.toArray⟩ : ByteArray)[i]'h = c := fun h => (List.getElem?_eq_some_iff.1 hc).2
      have hbeg := HBEG.out i (by rw [← HN.out]; omega)
      have HC := Lib.hid hc
      by_cases h34 : c = 34
      · subst h34
        cases hb : [34, 34].isPrefixOf (l.drop i) with
        | true =>
          rw [hb] at hbeg
          have hq := HQ.out.step hpi (u := [34]) (m := 2) (by rw [q_two hb]; rfl)
          have HQ2 := Lib.hid hq
          have h2 : i + 2 ≤ n := by
            have := (List.isPrefixOf_iff_prefix.1 hb).length_le
            rw [List.length_drop, ← HN.out] at this
            simp at this
            omega
          have hba : (⟨t.toArray⟩ ++ ⟨#[34]⟩ : ByteArray) = ⟨(t ++ [34]).toArray⟩ := ba_appT t [34]
          have HBA := Lib.hid hba
          have HB := Lib.hid hbeg
          clear hc hb hq hba hbeg
          go_wp2_with fail
          go_at_call 24
          with_reducible refine (HB.out _).mono ?_
          rintro e w1 ⟨rfl, rfl⟩
          go_wp2_with fail
          go_round
          case rel => exact ⟨i + 2, t ++ [34], by omega, h2, by simp; omega, by rw [HBA.out], by go_num, HQ2⟩
          case measure => simp [intOf]; omega
        | false =>
          rw [hb] at hbeg
          have hres : quotedF (l.drop (p + 1)) = some (t, i - p) := by
            have h := HQ.out
            unfold Quo at h
            rw [h, q_one hc hb]
            simp; omega
          have hval : (((i - p + 1 : Nat) : Int)) = (i : Int) + 1 - (p : Int) := by omega
          have HRES := Lib.hid hres
          have HVAL := Lib.hid hval
          have HB := Lib.hid hbeg
          clear hc hb hbeg hres hval
          go_wp2_with fail
          go_at_call 24
          with_reducible refine (HB.out _).mono ?_
          rintro e w1 ⟨rfl, rfl⟩
          go_wp2_with fail
          go_ret2
          exact ⟨by rw [HRES.out]; simp only [quotedT]; rw [HVAL.out]; rfl, rfl⟩
      · have h34n : c.toNat ≠ 34 := fun e => h34 (by rw [← UInt8.ofNat_toNat (x := c), e]; rfl)
        have h34b : ((c.toNat : Int) == 34) = false := by simp; omega
        have hq := HQ.out.step hpi (u := [c]) (m := 1) (by rw [q_other hc h34]; rfl)
        have HQ2 := Lib.hid hq
        have hext : (⟨l.toArray⟩ : ByteArray).extract i (i + 1) = ⟨[c].toArray⟩ := by
          rw [ext_T]
          have hi2 := (List.getElem?_eq_some_iff.1 hc)
          rw [List.drop_eq_getElem_cons hi2.1, hi2.2, show i + 1 - i = 1 from by omega]
          rfl
        have hba : (⟨t.toArray⟩ ++ ⟨[c].toArray⟩ : ByteArray) = ⟨(t ++ [c]).toArray⟩ := ba_appT t [c]
        have HBA := Lib.hid hba
        clear hc hq hba h34 hbeg
        go_wp2_with fail
        go_round
        case rel => exact ⟨i + 1, t ++ [c], by omega, by omega, by simp; omega, by rw [← HBA.out], by go_num, HQ2⟩
        case measure => simp [intOf]; omega
end Go.Proofs.YtdjidkhkgmbhfaaDoor
