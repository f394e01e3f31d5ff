/-
The program's Split, by a contract.
-/
import Derived.Test.YtlagjnlajkmmeaaDoorTpF
import Derived.Test.YtlagjnlajkmmeaaDoorTpT
namespace Go.Proofs.YtlagjnlajkmmeaaDoor
open Go.RowKit Go.Proofs.YtlagjnlajkmmeaaDoor.Tok

theorem pre_take {x l : List UInt8} (h : x.isPrefixOf l = true) : l.take x.length = x := (List.prefix_iff_eq_take.1 (List.isPrefixOf_iff_prefix.1 h)).symm
theorem tok_text {l x : List UInt8} {k n : Nat} (h : oneF l = some (k, x, n)) : (k ≠ 2 ∧ l.take n = x) ∨ (k = 2 ∧ ∃ r m, l = 34 :: r ∧ quotedF r = some (x, m) ∧ n = m + 1) := by
  unfold oneF at h
  split at h
  · split at h
    · split at h
      · cases h
      · simp only [Option.some.injEq, Prod.mk.injEq] at h
        obtain ⟨rfl, rfl, rfl⟩ := h
        exact .inl ⟨by decide, rfl⟩
    · simp only [Option.some.injEq, Prod.mk.injEq] at h
      obtain ⟨rfl, rfl, rfl⟩ := h
      exact .inl ⟨by decide, rfl⟩
  · split at h
    · simp only [Option.some.injEq, Prod.mk.injEq] at h
      obtain ⟨rfl, rfl, rfl⟩ := h
      exact .inl ⟨by decide, rfl⟩
    · split at h
      · rename_i hq
        rw [Option.map_eq_some_iff] at h
        obtain ⟨⟨y, m⟩, hy, e⟩ := h
        simp only [Prod.mk.injEq] at e
        obtain ⟨rfl, rfl, rfl⟩ := e
        cases l with
        | nil => simp at hq
        | cons c r =>
          simp only [List.head?_cons, Option.some.injEq] at hq
          subst hq
          exact .inr ⟨rfl, r, m, rfl, hy, rfl⟩
      · split at h
        · rename_i hf
          simp only [Option.some.injEq, Prod.mk.injEq] at h
          obtain ⟨rfl, rfl, rfl⟩ := h
          exact .inl ⟨by decide, pre_take hf⟩
        · rw [Option.map_eq_some_iff] at h
          obtain ⟨y, hy, e⟩ := h
          simp only [Prod.mk.injEq] at e
          obtain ⟨rfl, rfl, rfl⟩ := e
          have h3 := List.find?_some hy
          exact .inl ⟨by decide, pre_take (x := y) (l := l) (by simpa using h3)⟩
theorem said_tok {l x : List UInt8} {k n : Nat} (h : oneF l = some (k, x, n)) (hl : l.length ≤ 100000) (w : World) (hE : EnvT w) :
    Calls Tryd.prog 34 #[.int .i64 (k : Int), .string ⟨(l.take n).toArray⟩] w fun e w' => e = .returned (.string ⟨x.toArray⟩) ∧ Below w.heap.size w w' := by
  rcases tok_text h with ⟨hk, ht⟩ | ⟨rfl, r, m, rfl, hr, rfl⟩
  · rw [ht]
    exact said_other (k : Int) (by simp; omega) x w
  · have hp := quotedF_pos hr
    simp only at hp
    have hlen : ((34 :: r).take (m + 1)).length = m + 1 := by simp; omega
    have hs := said_text ((34 :: r).take (m + 1)) (by omega) (by simp at hl; omega) w hE
    rw [hlen] at hs
    have e : (((34 :: r).take (m + 1)).drop 1).take (m + 1 - 2) = r.take (m - 1) := by
      simp [List.take_take]
    rw [e, rep_unq r x m hr] at hs
    exact hs

set_option maxRecDepth 20000 in
set_option maxHeartbeats 4000000 in
theorem psplit_any (l : List UInt8) (w : World) (hE : EnvT w) (hl : l.length ≤ 1300) :
    Calls Tryd.prog 24 #[.string ⟨l.toArray⟩] w fun e w' => (∃ v, e = .returned v ∧ psplitT w' (splitF l 0) v) ∧ Below w.heap.size w w' := by
  obtain ⟨n, hn⟩ : ∃ n, n = l.length := ⟨_, rfl⟩
  have hsz : (⟨l.toArray⟩ : ByteArray).size = n := by rw [hn]; rfl
  rw [← hn] at hl
  have HN := Lib.hid hn
  have HE := Lib.hid hE
  clear hn hE
  go_enter Tryd.func24, Tryd.ntmps24
  go_wp2_with fail
  go_loopw [5, 6] (fun a b wr => ∃ (p : Nat) (o : List TokD), p ≤ n ∧ b = .int .i64 (p : Int) ∧ o.length ≤ p ∧ Hid (OwnP w.heap.size wr a o) ∧ Hid (Below w.heap.size w wr) ∧ Hid (Spl l p o)) (fun _ b _ => n - (intOf b).toNat)
  case atStart => exact ⟨0, [], Nat.zero_le _, rfl, by simp, Lib.hid (OwnP.nil _ _), Lib.hid (Below.refl _ _), Lib.hid (Spl.start l)⟩
  case round =>
    rename World => wr
    obtain ⟨p, o, hp, rfl, hol, HO, HB, HS⟩ := hrel
    obtain ⟨Av, cv, rfl⟩ := HO.out.form
    by_cases hge : n ≤ p
    · have HD := Lib.hid (HS.out.done (by rw [← HN.out]; exact hge))
      go_wp2_with fail
      go_ret3
      exact ⟨⟨_, rfl, by rw [HD.out]; exact ⟨_, rfl, HO.out.rd⟩⟩, HB.out⟩
    · have hlt : p < n := by omega
      clear hge
      obtain ⟨c, hc⟩ : ∃ c, l[p]? = some c := ⟨_, List.getElem?_eq_getElem (by rw [← HN.out]; exact hlt)⟩
      have hget : ∀ h, (⟨l.toArray⟩ : ByteArray)[p]'h = c := fun h => (List.getElem?_eq_some_iff.1 hc).2
      have HC := Lib.hid hc
      by_cases h32 : c.toNat = 32
      · have e32 : c = 32 := by rw [← UInt8.ofNat_toNat (x := c), h32]; rfl
        have h32b : ((c.toNat : Int) == 32) = true := by simp; omega
        have HS2 := Lib.hid (HS.out.blank (e32 ▸ hc))
        clear hc h32 e32
        go_wp2_with fail
        go_roundw
        case rel => exact ⟨p + 1, o, by omega, by go_num, by omega, HO, HB, HS2⟩
        case measure => simp [intOf]; omega
      · have hne : c ≠ 32 := fun e => h32 (by rw [e]; rfl)
        have h32b : ((c.toNat : Int) == 32) = false := by simp; omega
        have HNE := Lib.hid hne
        have hext : (⟨l.toArray⟩ : ByteArray).extract p n = ⟨(l.drop p).toArray⟩ := by rw [ext_T, HN.out]; congr 2; exact List.take_of_length_le (by simp)
        have hfirst := first_any (l.drop p) c (l.drop (p + 1)) (dropc hc) (by rw [List.length_drop, ← HN.out]; omega) wr (HE.out.below HB.out)
        have HF := Lib.hid hfirst
        clear hc h32 hne hfirst
        cases hof : oneF (l.drop p) with
        | none =>
          rw [hof] at HF
          have HST := Lib.hid (HS.out.stop HC.out HNE.out hof)
          clear hof
          generalize (⟨(l.drop p).toArray⟩ : ByteArray) = sd at *
          go_wp2_with fail
          go_at_call 33
          with_reducible refine (HF.out).mono ?_
          rintro e w1 ⟨⟨v, rfl, k, rfl⟩, rfl⟩
          go_wp2_with fail
          go_ret3
          exact ⟨⟨_, rfl, by rw [HST.out]; exact rfl⟩, HB.out⟩
        | some t =>
          obtain ⟨k, x, m⟩ := t
          rw [hof] at HF
          have hpos := oneF_pos hof
          rw [List.length_drop, ← HN.out] at hpos
          obtain ⟨hm1, hm2⟩ := hpos
          have HST := Lib.hid (HS.out.step HC.out HNE.out hof)
          have hsaid := fun W (hW : EnvT W) => said_tok hof (by rw [List.length_drop, ← HN.out]; omega) W hW
          have hext2 : (⟨l.toArray⟩ : ByteArray).extract p (p + m) = ⟨((l.drop p).take m).toArray⟩ := by rw [ext_T]; congr 3; omega
          have HSAID := Lib.hid hsaid
          have t0 : ((m : Int) == 0) = false := by simp; omega
          have HLL := Lib.hid (show o.length ≤ 1300 from by omega)
          have hpm : (p : Int) + (m : Int) ≤ (n : Int) := by omega
          have hpm2 : ((p : Int) + (m : Int)).toNat = p + m := by omega
          have hw : IntKind.i64.wrap ((p : Int) + (m : Int)) = (p : Int) + (m : Int) := IntWalk.i64_in _ (by omega)
          clear hof hsaid
          generalize (⟨(l.drop p).toArray⟩ : ByteArray) = sd at *
          generalize (⟨((l.drop p).take m).toArray⟩ : ByteArray) = se at *
          obtain ⟨xb, hxb⟩ : ∃ xb, xb = (⟨x.toArray⟩ : ByteArray) := ⟨_, rfl⟩
          rw [← hxb] at HSAID
          have HXB := Lib.hid hxb
          clear hxb
          go_wp2_with fail
          go_at_call 33
          with_reducible refine (HF.out).mono ?_
          rintro e w1 ⟨⟨v, rfl, hv⟩, rfl⟩
          simp only [firstT] at hv
          subst hv
          go_wp2_with fail
          go_at_call 34
          with_reducible refine (HSAID.out _ (HE.out.below HB.out)).mono ?_
          rintro e wA ⟨rfl, hbA⟩
          have HB1 := Lib.hid (HB.out.trans (hbA.mono HB.out.size))
          have HO1 := Lib.hid (HO.out.below hbA)
          have hb2 : Below wA.heap.size wA (wA.alloc (.cells #[.int .i64 (k : Int), .string xb, .int .i64 (p : Int)] 53)) := below_alloc wA _
          have HB2 := Lib.hid (HB1.out.trans (hb2.mono HB1.out.size))
          have HO2 := Lib.hid (HO1.out.below hb2)
          have hta : TokAt (wA.alloc (.cells #[.int .i64 (k : Int), .string xb, .int .i64 (p : Int)] 53)) wA.heap.size 0 (k, x, p) := by
            have h := cells3 wA (g := wA.heap.size) rfl (.int .i64 (k : Int)) (.string xb) (.int .i64 (p : Int)) 53
            have e := HXB.out
            subst e
            exact h
          have HTA := Lib.hid hta
          clear hbA hb2 hta
          go_wp2_with (at_builtin; refine wp_appP rfl _ _ rfl w.heap.size _ o rfl HO2.out wA.heap.size 0 1 (k, x, p) rfl (by omega) (by decide) HTA.out (by have := HLL.out; omega) HB2.out.size ?_; intro v2 w2 hown2 hbel2; have HO3 := Lib.hid hown2; have HB3 := Lib.hid (HB2.out.trans hbel2); clear hown2 hbel2)
          go_roundw
          case rel => exact ⟨p + m, o ++ [(k, x, p)], by omega, by go_num, by simp; omega, HO3, HB3, HST⟩
          case measure => simp [intOf]; omega
theorem tokOk : TokOk EnvT := { keep := fun h hb => h.below hb, split := fun l w hE hl => psplit_any l w hE hl }
theorem tokQ : TokQ EnvT := { quote := fun l w hE hl => quote_any l (by omega) w hE }
end Go.Proofs.YtlagjnlajkmmeaaDoor
