/-
The reference of stage 8: Quote, by a contract; the law TokenQuotes over what it asks of package token.
-/
import Derived.Test.YtdjidkhkgmbhfaaDoorToOk
import Derived.Test.YtdjidkhkgmbhfaaDoorToQM
namespace Go.Proofs.YtdjidkhkgmbhfaaDoor
open Go.RowKit Go.Proofs.YtdjidkhkgmbhfaaDoor.Tok

theorem esc_snoc {l : List UInt8} {i : Nat} {c : UInt8} (h : l[i]? = some c) : escL (l.take (i + 1)) = escL (l.take i) ++ (if c = 34 then [34, 34] else [c]) := by
  unfold escL
  rw [List.take_add_one, h, List.flatMap_append]
  simp

set_option maxRecDepth 20000 in
set_option maxHeartbeats 2000000 in
theorem rquote_any (l : List UInt8) (hl : l.length ≤ 100000) (w : World) :
    Calls Tryd.prog 11 #[.string ⟨l.toArray⟩] w fun e w' => e = .returned (.string ⟨(quoteL l).toArray⟩) ∧ w' = w := by
  obtain ⟨n, hn⟩ : ∃ n, n = l.length := ⟨_, rfl⟩
  have hsz : (⟨l.toArray⟩ : ByteArray).size = n := by rw [hn]; rfl
  rw [← hn] at hl
  have HN := Lib.hid hn
  clear hn
  go_enter Tryd.func11, Tryd.ntmps11
  go_wp2
  go_loop [3, 4] (fun a b => ∃ (i : Nat) (t : List UInt8), i ≤ n ∧ t.length ≤ 2 * i + 1 ∧ a = .string ⟨t.toArray⟩ ∧ b = .int .i64 (i : Int) ∧ Hid (t = 34 :: escL (l.take i))) (fun _ b => n - (intOf b).toNat)
  case atStart => exact ⟨0, [34], Nat.zero_le _, by simp, rfl, rfl, Lib.hid (by simp [escL])⟩
  case round =>
    obtain ⟨i, t, hi, ht, rfl, rfl, HT⟩ := hrel
    have htz : (⟨t.toArray⟩ : ByteArray).size = t.length := rfl
    by_cases hge : n ≤ i
    · have hba : (⟨t.toArray⟩ ++ ⟨#[34]⟩ : ByteArray) = ⟨(quoteL l).toArray⟩ := by
        rw [show (⟨#[34]⟩ : ByteArray) = ⟨[34].toArray⟩ from rfl, ba_appT, HT.out, List.take_of_length_le (by rw [← HN.out]; exact hge)]
        rfl
      have HBA := Lib.hid hba
      clear hba
      go_wp2_with fail
      go_ret
      exact ⟨by rw [← HBA.out]; rfl, rfl⟩
    · have hlt : i < n := by omega
      clear hge
      obtain ⟨c, hc⟩ : ∃ c, l[i]? = some c := ⟨_, List.getElem?_eq_getElem (by rw [← HN.out]; exact hlt)⟩
      have hget : ∀ h, (⟨l.toArray⟩ : ByteArray)[i]'h = c := fun h => (List.getElem?_eq_some_iff.1 hc).2
      have hext : (⟨l.toArray⟩ : ByteArray).extract i (i + 1) = ⟨[c].toArray⟩ := by
        rw [ext_T]
        have hi2 := (List.getElem?_eq_some_iff.1 hc)
        rw [List.drop_eq_getElem_cons hi2.1, hi2.2, show i + 1 - i = 1 from by omega]
        rfl
      have hs := esc_snoc hc
      by_cases h34 : c = 34
      · subst h34
        rw [if_pos rfl] at hs
        have hba : (⟨t.toArray⟩ ++ ⟨#[34]⟩ : ByteArray) = ⟨(t ++ [34]).toArray⟩ := ba_appT t [34]
        have hbs : (⟨(t ++ [34]).toArray⟩ : ByteArray).size = t.length + 1 := by show (t ++ [34]).toArray.size = _; simp
        have hba2 : (⟨(t ++ [34]).toArray⟩ ++ ⟨#[34]⟩ : ByteArray) = ⟨(t ++ [34, 34]).toArray⟩ := by rw [show (⟨#[34]⟩ : ByteArray) = ⟨[34].toArray⟩ from rfl, ba_appT, List.append_assoc]; try rfl
        have HT2 := Lib.hid (show t ++ [34, 34] = 34 :: escL (l.take (i + 1)) from by rw [hs, HT.out]; rfl)
        have HBA2 := Lib.hid hba2
        clear hc hs hba2
        go_wp2_with fail
        go_round
        case rel => exact ⟨i + 1, t ++ [34, 34], by omega, by simp; omega, by rw [← HBA2.out]; try rfl, by go_num, HT2⟩
        case measure => simp [intOf]; omega
      · have h34n : c.toNat ≠ 34 := fun e => h34 (by rw [← UInt8.ofNat_toNat (x := c), e]; rfl)
        have h34b : ((c.toNat : Int) == 34) = false := by simp; omega
        rw [if_neg h34] at hs
        have hba : (⟨t.toArray⟩ ++ ⟨[c].toArray⟩ : ByteArray) = ⟨(t ++ [c]).toArray⟩ := ba_appT t [c]
        have HT2 := Lib.hid (show t ++ [c] = 34 :: escL (l.take (i + 1)) from by rw [hs, HT.out]; rfl)
        have HBA := Lib.hid hba
        clear hc hs hba h34
        go_wp2_with fail
        go_round
        case rel => exact ⟨i + 1, t ++ [c], by omega, by simp; omega, by rw [← HBA.out], by go_num, HT2⟩
        case measure => simp [intOf]; omega

/-- What the law asks of package token's Quote; E: what the world holds. -/
structure TokQ (E : World → Prop) : Prop where
  quote : ∀ (l : List UInt8) w, E w → l.length ≤ 600 → Calls Tryd.prog 10 #[.string ⟨l.toArray⟩] w fun e w' => e = .returned (.string ⟨(quoteL l).toArray⟩) ∧ Below w.heap.size w w'

set_option maxRecDepth 20000 in
set_option maxHeartbeats 1000000 in
theorem quotes_fit {E : World → Prop} (K : TokOk E) (Q : TokQ E) (l : List UInt8) (hl : l.length ≤ 600) (w : World) (hE : E w) :
    Calls Tryd.prog 4 #[.string ⟨l.toArray⟩] w fun e w' => e = .returned (.bool true) ∧ Below w.heap.size w w' := by
  have HKEEP := Lib.hid (fun w w' (h : E w) hb => K.keep (w' := w') h hb)
  have HE := Lib.hid hE
  have HQ := Lib.hid (Q.quote l w hE hl)
  have hqn := quote_len l
  have hp := fun W (hW : E W) => K.split (quoteL l) W hW (by omega)
  rw [split_quote] at hp
  have HP := Lib.hid hp
  have HR := Lib.hid (fun W => rquote_any l (by omega) W)
  have HAW := Lib.hid (fun W hW => awakeT K W hW)
  have hlen : (⟨l.toArray⟩ : ByteArray).size ≤ 600 := hl
  have HS := Lib.hid (fun (W : World) g (hg : g = W.heap.size) T => RdT.lit W hg [(2, l, 0)] T (by simp))
  clear hp hE K Q hqn hl
  generalize (⟨(quoteL l).toArray⟩ : ByteArray) = q at *
  obtain ⟨s, hs⟩ : ∃ s, s = (⟨l.toArray⟩ : ByteArray) := ⟨_, rfl⟩
  have HSS := Lib.hid hs
  rw [← hs] at HQ HR hlen ⊢
  clear hs
  go_enter Tryd.func4, Tryd.ntmps4
  go_wp2_with fail
  go_at_call 10
  with_reducible refine (HQ.out).mono ?_
  rintro e w1 ⟨rfl, hb1⟩
  have HB1 := Lib.hid hb1
  clear hb1
  go_wp2_with fail
  go_at_call 7
  with_reducible refine (HP.out _ (HKEEP.out _ _ HE.out HB1.out)).mono ?_
  rintro e w2 ⟨⟨v, rfl, u, rfl, hu⟩, hb2⟩
  obtain ⟨A, n, c, rfl, hn⟩ := hu.named
  obtain rfl : n = 1 := hn
  have HU := Lib.hid hu
  have HB2 := Lib.hid (HB1.out.trans (hb2.mono HB1.out.size))
  clear hu hb2
  go_wp2_with fail
  go_at_call 11
  with_reducible refine (HR.out _).mono ?_
  rintro e w3 ⟨rfl, rfl⟩
  go_wp2_with fail
  go_at_call 9
  refine (same_eq [(2, l, 0)] 1 c 1 A (some ⟨w3.heap.size, 0, none⟩) rfl (by decide) _ (HU.out.below (below_alloc w3 _)) (by have := HS.out w3 _ rfl 34; rw [HSS.out]; exact this)).mono ?_
  rintro e w4 ⟨rfl, hb4⟩
  have HB4 := Lib.hid (HB2.out.trans (((below_alloc w3 _).trans (hb4.mono (by simp))).mono HB2.out.size))
  clear hb4
  go_wp2_with fail
  go_at_call 6
  with_reducible refine (HAW.out _ (HKEEP.out _ _ HE.out HB4.out)).mono ?_
  rintro e w5 ⟨rfl, hb5⟩
  have HB5 := Lib.hid (HB4.out.trans (hb5.mono HB4.out.size))
  clear hb5
  go_wp2_with fail
  go_ret
  exact ⟨rfl, HB5.out⟩
theorem quotes_any {E : World → Prop} (K : TokOk E) (Q : TokQ E) (s : ByteArray) (hs : s.size ≤ 9223372036854775807) (w : World) (hE : E w) :
    Calls Tryd.prog 4 #[.string s] w fun e w' => e = .returned (.bool true) ∧ Below w.heap.size w w' := by
  by_cases hl : s.size ≤ 600
  · have e : s = ⟨s.data.toList.toArray⟩ := by cases s; simp
    have h := quotes_fit K Q s.data.toList (by simpa using hl) w hE
    rw [← e] at h
    exact h
  · have HAW := Lib.hid (awakeT K w hE)
    have hbig : 600 < s.size := by omega
    clear hE K Q hl
    go_enter Tryd.func4, Tryd.ntmps4
    go_wp2_with (go_at_call 6; (with_reducible refine (HAW.out).mono ?_); rintro e w1 ⟨rfl, hb1⟩)
    go_ret
    exact ⟨rfl, hb1⟩
end Go.Proofs.YtdjidkhkgmbhfaaDoor
