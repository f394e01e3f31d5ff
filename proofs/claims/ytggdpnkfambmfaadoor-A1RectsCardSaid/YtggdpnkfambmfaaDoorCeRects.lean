/-
The law A1Rects, over what it asks of package a1.
-/
import Derived.Test.YtggdpnkfambmfaaDoorCeRectB
namespace Go.Proofs.YtggdpnkfambmfaaDoor
open Go.RowKit Go.Proofs.YtggdpnkfambmfaaDoor.Dig

theorem textZ_len (a b : Int) : (textC a b).length ≤ 20 := by
  cases h : rightC a b with
  | false => rw [textC_no h]; simp
  | true =>
    have h1 := rightC_iff.1 h
    obtain ⟨a', rfl⟩ : ∃ n : Nat, a = n := ⟨a.toNat, by omega⟩
    obtain ⟨b', rfl⟩ : ∃ n : Nat, b = n := ⟨b.toNat, by omega⟩
    exact textC_len a' b' h
theorem min_or (a c : Int) : ((min a c == a) = true) ∨ ((min a c == a) = false ∧ (min a c == c) = true) := by
  by_cases h : min a c = a
  · exact .inl (by rw [h]; exact beq_self_eq_true a)
  · have h2 : min a c = c := by omega
    exact .inr ⟨by simpa using h, by rw [h2]; exact beq_self_eq_true c⟩
theorem rects_any {E : World → Prop} (K : A1Ok E) (a b c d x y : Int) (ha : I64 a) (hb : I64 b) (hc : I64 c) (hd : I64 d) (hx : I64 x) (hy : I64 y) (w : World) (hE : E w) :
    Calls Tryd.prog 5 #[rectV a b c d, cellV x y] w fun e w' => e = .returned (.bool true) ∧ Below w.heap.size w w' := by
  have HKEEP := Lib.hid (fun w w' (h : E w) hb => K.keep (w' := w') h hb)
  have HE := Lib.hid (K.keep hE ((below_alloc w (.cells #[.int .i64 a, .int .i64 b, .int .i64 c, .int .i64 d] 38)).alloc (by simp) (.cells #[.int .i64 x, .int .i64 y] 27)))
  have HO := Lib.hid (fun W hW => K.ordered a b c d W hW ha hb hc hd)
  have hi1 := fun W => within_any x a c W
  have hi2 := fun W => within_any y b d W
  have hh := fun W hW => K.has a b c d x y W hW ha hb hc hd hx hy
  rw [← within_has] at hh
  have hra := fun W hW => K.right a b W hW ha hb
  have hrb := fun W hW => K.right c d W hW hc hd
  have HT1 := Lib.hid (fun W => rtext_anyC a b ha hb W)
  have HT2 := Lib.hid (fun W => rtext_anyC c d hc hd W)
  have hrt := fun W hW => K.rtext a b c d W hW ha hb hc hd
  have HAW := Lib.hid (fun W hW => awakeC K W hW)
  have hz1 : (⟨(textC a b).toArray⟩ : ByteArray).size ≤ 20 := textZ_len a b
  have hz2 : (⟨(textC c d).toArray⟩ : ByteArray).size ≤ 20 := textZ_len c d
  have hboth : rightC a b = true → rightC c d = true → (⟨(rectL a b c d).toArray⟩ : ByteArray) = ⟨(textC a b).toArray⟩ ++ ⟨#[58]⟩ ++ ⟨(textC c d).toArray⟩ := fun h1 h2 => by
    unfold rectL
    rw [if_pos ⟨h1, h2⟩]
    have e1 : ((⟨(textC a b).toArray⟩ : ByteArray) ++ ⟨#[58]⟩) = ⟨(textC a b ++ [58]).toArray⟩ := ba_app _ [58]
    rw [e1, ba_app, List.append_assoc]; rfl
  have hnone : ¬ (rightC a b = true ∧ rightC c d = true) → (⟨(rectL a b c d).toArray⟩ : ByteArray) = ⟨#[]⟩ := fun h => by
    unfold rectL
    rw [if_neg h]
  have HC := Lib.hid (min_or a c)
  have HD := Lib.hid (min_or b d)
  have e1 : min a c ≤ max a c := by omega
  have e2 : min b d ≤ max b d := by omega
  have e3 : min a c + max a c = a + c := by omega
  have e4 : min b d + max b d = b + d := by omega
  cases hq1 : withinB x a c with
  | false =>
    rw [hq1] at hi1 hh
    simp only [Bool.false_and] at hh
    cases hqa : rightC a b with
    | false =>
      rw [hqa] at hra
      rw [hnone (by rw [hqa]; simp)] at hrt
      cases hqb : rightC c d with
      | false =>
        rw [hqb] at hrb
        exact rects_000 a b c d x y _ _ _ _ _ _ _ _ _ w HKEEP HE HO (Lib.hid hi1) (Lib.hid hi2) (Lib.hid hh) (Lib.hid hra) (Lib.hid hrb) HT1 HT2 hz1 hz2 (Lib.hid rfl) (Lib.hid hrt) HAW e1 e2 e3 e4 HC HD
      | true =>
        rw [hqb] at hrb
        exact rects_000 a b c d x y _ _ _ _ _ _ _ _ _ w HKEEP HE HO (Lib.hid hi1) (Lib.hid hi2) (Lib.hid hh) (Lib.hid hra) (Lib.hid hrb) HT1 HT2 hz1 hz2 (Lib.hid rfl) (Lib.hid hrt) HAW e1 e2 e3 e4 HC HD
    | true =>
      rw [hqa] at hra
      cases hqb : rightC c d with
      | false =>
        rw [hqb] at hrb
        rw [hnone (by rw [hqb]; simp)] at hrt
        exact rects_010 a b c d x y _ _ _ _ _ _ _ _ w HKEEP HE HO (Lib.hid hi1) (Lib.hid hi2) (Lib.hid hh) (Lib.hid hra) (Lib.hid hrb) HT1 HT2 hz1 hz2 (Lib.hid rfl) (Lib.hid hrt) HAW e1 e2 e3 e4 HC HD
      | true =>
        rw [hqb] at hrb
        rw [hboth hqa hqb] at hrt
        exact rects_011 a b c d x y _ _ _ _ _ _ _ _ w HKEEP HE HO (Lib.hid hi1) (Lib.hid hi2) (Lib.hid hh) (Lib.hid hra) (Lib.hid hrb) HT1 HT2 hz1 hz2 (Lib.hid rfl) (Lib.hid hrt) HAW e1 e2 e3 e4 HC HD
  | true =>
    rw [hq1] at hi1 hh
    simp only [Bool.true_and] at hh
    cases hqa : rightC a b with
    | false =>
      rw [hqa] at hra
      rw [hnone (by rw [hqa]; simp)] at hrt
      cases hqb : rightC c d with
      | false =>
        rw [hqb] at hrb
        exact rects_100 a b c d x y _ _ _ _ _ _ _ _ _ w HKEEP HE HO (Lib.hid hi1) (Lib.hid hi2) (Lib.hid hh) (Lib.hid hra) (Lib.hid hrb) HT1 HT2 hz1 hz2 (Lib.hid rfl) (Lib.hid hrt) HAW e1 e2 e3 e4 HC HD
      | true =>
        rw [hqb] at hrb
        exact rects_100 a b c d x y _ _ _ _ _ _ _ _ _ w HKEEP HE HO (Lib.hid hi1) (Lib.hid hi2) (Lib.hid hh) (Lib.hid hra) (Lib.hid hrb) HT1 HT2 hz1 hz2 (Lib.hid rfl) (Lib.hid hrt) HAW e1 e2 e3 e4 HC HD
    | true =>
      rw [hqa] at hra
      cases hqb : rightC c d with
      | false =>
        rw [hqb] at hrb
        rw [hnone (by rw [hqb]; simp)] at hrt
        exact rects_110 a b c d x y _ _ _ _ _ _ _ _ w HKEEP HE HO (Lib.hid hi1) (Lib.hid hi2) (Lib.hid hh) (Lib.hid hra) (Lib.hid hrb) HT1 HT2 hz1 hz2 (Lib.hid rfl) (Lib.hid hrt) HAW e1 e2 e3 e4 HC HD
      | true =>
        rw [hqb] at hrb
        rw [hboth hqa hqb] at hrt
        exact rects_111 a b c d x y _ _ _ _ _ _ _ _ w HKEEP HE HO (Lib.hid hi1) (Lib.hid hi2) (Lib.hid hh) (Lib.hid hra) (Lib.hid hrb) HT1 HT2 hz1 hz2 (Lib.hid rfl) (Lib.hid hrt) HAW e1 e2 e3 e4 HC HD
end Go.Proofs.YtggdpnkfambmfaaDoor
