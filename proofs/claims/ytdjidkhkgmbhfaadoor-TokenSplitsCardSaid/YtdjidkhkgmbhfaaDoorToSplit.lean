/-
The reference of stage 8: Split, by a contract.
-/
import Derived.Test.YtdjidkhkgmbhfaaDoorToTok
namespace Go.Proofs.YtdjidkhkgmbhfaaDoor
open Go.RowKit Go.Proofs.YtdjidkhkgmbhfaaDoor.Tok

/-- What is read so far, and what is to come. -/
def Spl (l : List UInt8) (p : Nat) (o : List TokD) : Prop := splitF l 0 = match splitF (l.drop p) p with
  | .ok r => .ok (o ++ r)
  | .error e => .error e
theorem Spl.start (l : List UInt8) : Spl l 0 [] := by
  unfold Spl
  rw [List.drop_zero]
  cases splitF l 0 <;> rfl
theorem drop_cons {l : List UInt8} {p : Nat} {c : UInt8} (hc : l[p]? = some c) : l.drop p = c :: l.drop (p + 1) := by
  have hi := (List.getElem?_eq_some_iff.1 hc)
  rw [List.drop_eq_getElem_cons hi.1, hi.2]
theorem Spl.blank {l : List UInt8} {p : Nat} {o : List TokD} (h : Spl l p o) (hc : l[p]? = some 32) : Spl l (p + 1) o := by
  unfold Spl at h ⊢
  rw [h, drop_cons hc, splitF_blank]
theorem Spl.step {l : List UInt8} {p k n : Nat} {c : UInt8} {x : List UInt8} {o : List TokD} (h : Spl l p o) (hc : l[p]? = some c) (h32 : c ≠ 32) (ho : oneF (l.drop p) = some (k, x, n)) : Spl l (p + n) (o ++ [(k, x, p)]) := by
  unfold Spl at h ⊢
  rw [h]
  have e := drop_cons hc
  rw [e] at ho
  rw [e, splitF_some h32 ho, ← e, List.drop_drop]
  cases splitF (l.drop (p + n)) (p + n) with
  | ok r => simp
  | error e => rfl
theorem Spl.stop {l : List UInt8} {p : Nat} {c : UInt8} {o : List TokD} (h : Spl l p o) (hc : l[p]? = some c) (h32 : c ≠ 32) (ho : oneF (l.drop p) = none) : splitF l 0 = .error p := by
  unfold Spl at h
  rw [h]
  have e := drop_cons hc
  rw [e] at ho
  rw [e, splitF_none h32 ho]
theorem Spl.done {l : List UInt8} {p : Nat} {o : List TokD} (h : Spl l p o) (hp : l.length ≤ p) : splitF l 0 = .ok o := by
  unfold Spl at h
  rw [h, List.drop_eq_nil_of_le hp, splitF_nil]
  simp

/-- What Split answers. -/
def splitT (B : Nat) (w : World) (r : Except Nat (List TokD)) (v : Value) : Prop := match r with
  | .ok l => ∃ u, v = .tuple #[u, .int .i64 0, .bool true] ∧ OwnT B w u l
  | .error p => v = .tuple #[.slice none 0 0, .int .i64 (p : Int), .bool false]
theorem splitT.below {B : Nat} {w w' : World} {r : Except Nat (List TokD)} {v : Value} (h : splitT B w r v) (hb : Below w.heap.size w w') : splitT B w' r v := by
  cases r with
  | ok l => obtain ⟨u, h1, h2⟩ := h; exact ⟨u, h1, h2.below hb⟩
  | error p => exact h
set_option maxRecDepth 20000 in
set_option maxHeartbeats 2000000 in
theorem split_any (l : List UInt8) (hl : l.length ≤ 100000) (w : World) :
    Calls Tryd.prog 8 #[.string ⟨l.toArray⟩] w fun e w' => (∃ v, e = .returned v ∧ splitT w.heap.size w' (splitF l 0) v) ∧ Below w.heap.size w w' := by
  obtain ⟨n, hn⟩ : ∃ n, n = l.length := ⟨_, rfl⟩
  have hsz : (⟨l.toArray⟩ : ByteArray).size = n := by rw [hn]; rfl
  have HL := Lib.hid hl
  rw [← hn] at hl
  have HN := Lib.hid hn
  clear hn
  go_enter Tryd.func8, Tryd.ntmps8
  go_wp2_with fail
  go_loopw [5, 6] (fun a b wr => ∃ (p : Nat) (o : List TokD), p ≤ n ∧ b = .int .i64 (p : Int) ∧ o.length ≤ p ∧ Hid (OwnT w.heap.size wr a o) ∧ Hid (Below w.heap.size w wr) ∧ Hid (Spl l p o)) (fun _ b _ => n - (intOf b).toNat)
  case atStart => exact ⟨0, [], Nat.zero_le _, rfl, by simp, Lib.hid (OwnT.nil _ _), Lib.hid (Below.refl _ _), Lib.hid (Spl.start l)⟩
  case round =>
    obtain ⟨p, o, hp, rfl, hol, HO, HB, HS⟩ := hrel
    by_cases hge : n ≤ p
    · have HD := Lib.hid (HS.out.done (by rw [← HN.out]; exact hge))
      go_wp2_with fail
      go_ret3
      exact ⟨⟨_, rfl, by rw [HD.out]; exact ⟨_, rfl, HO.out⟩⟩, HB.out⟩
    · have hlt : p < n := by omega
      clear hge
      obtain ⟨c, hc⟩ : ∃ c, l[p]? = some c := ⟨_, List.getElem?_eq_getElem (by rw [← HN.out]; exact hlt)⟩
      have hget : ∀ h, (⟨l.toArray⟩ : ByteArray)[p]'h = c := fun h => (List.getElem?_eq_some_iff.1 hc).2
      have HC := Lib.hid hc
      by_cases h32 : c = 32
      · subst h32
        have HS2 := Lib.hid (HS.out.blank hc)
        clear hc
        go_wp2_with fail
        go_roundw
        case rel => exact ⟨p + 1, o, by omega, by go_num, by omega, HO, HB, HS2⟩
        case measure => simp [intOf]; omega
      · have h32n : c.toNat ≠ 32 := fun e => h32 (by rw [← UInt8.ofNat_toNat (x := c), e]; rfl)
        have h32b : ((c.toNat : Int) == 32) = false := by simp; omega
        have HNE := Lib.hid h32
        have hone := one_any l p (by rw [← HN.out]; exact hlt) HL.out wr
        have HONE := Lib.hid hone
        clear hc h32 hone
        go_wp2_with fail
        go_at_call 14
        with_reducible refine (HONE.out).mono ?_
        rintro e w1 ⟨⟨v, rfl, hv⟩, hb1⟩
        cases hof : oneF (l.drop p) with
        | none =>
          rw [hof] at hv
          obtain ⟨a, b, d, rfl⟩ := hv
          have HST := Lib.hid (HS.out.stop HC.out HNE.out hof)
          have HB1 := Lib.hid (HB.out.trans (hb1.mono HB.out.size))
          clear hof hb1
          unfold tokV
          go_wp2_with fail
          go_ret3
          exact ⟨⟨_, rfl, by rw [HST.out]; exact rfl⟩, HB1.out.trans ((below_alloc w1 _).mono HB1.out.size)⟩
        | some t =>
          obtain ⟨k, x, m⟩ := t
          rw [hof] at hv
          simp only [oneT] at hv
          subst hv
          have hpos := oneF_pos hof
          rw [List.length_drop, ← HN.out] at hpos
          have HST := Lib.hid (HS.out.step HC.out HNE.out hof)
          have HB1 := Lib.hid (HB.out.trans (hb1.mono HB.out.size))
          have HO1 := Lib.hid (HO.out.below hb1)
          have t0 : ((m : Int) == 0) = false := by simp; omega
          obtain ⟨hm1, hm2⟩ := hpos
          clear hof hb1
          unfold tokV
          have hb2 : Below w1.heap.size w1 ((w1.alloc (.cells #[.int .i64 (k : Int), .string ⟨x.toArray⟩, .int .i64 (p : Int)] 34)).alloc (.cells #[.int .i64 (k : Int), .string ⟨x.toArray⟩, .int .i64 (p : Int)] 34)) := (below_alloc w1 _).alloc (by simp) _
          have HB2 := Lib.hid (HB1.out.trans (hb2.mono HB1.out.size))
          have HO2 := Lib.hid (HO1.out.below hb2)
          have HTA := Lib.hid (cells3 (w1.alloc (.cells #[.int .i64 (k : Int), .string ⟨x.toArray⟩, .int .i64 (p : Int)] 34)) (g := w1.heap.size + 1) (by simp) (.int .i64 (k : Int)) (.string ⟨x.toArray⟩) (.int .i64 (p : Int)) 34)
          clear hb2
          go_wp2_with (at_builtin; refine wp_appT rfl _ _ rfl w.heap.size _ o rfl HO2.out (w1.heap.size + 1) 0 1 (k, x, p) rfl (by omega) (by decide) HTA.out (by omega) HB2.out.size ?_; intro v2 w2 hown2 hbel2; have HO3 := Lib.hid hown2; have HB3 := Lib.hid (HB2.out.trans hbel2); clear hown2 hbel2)
          go_roundw
          case rel => exact ⟨p + m, o ++ [(k, x, p)], by omega, by go_num, by simp; omega, HO3, HB3, HST⟩
          case measure => simp [intOf]; omega
end Go.Proofs.YtdjidkhkgmbhfaaDoor
