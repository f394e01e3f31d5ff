/-
The law StampSorts, over a contract of Sort.
-/
import Derived.Test.YtfgopiopeidfmaaDoorSSame
namespace Go.Proofs.YtfgopiopeidfmaaDoor
open Go.RowKit

/-- The stamps in order, each once. -/
def sortedI (l : List (Nat × Int)) : List (Nat × Int) := l.foldl insI []
theorem insI_len (l : List (Nat × Int)) (a : Nat × Int) : (insI l a).length ≤ l.length + 1 := by
  unfold insI
  split
  · omega
  · simp only [List.length_append, List.length_take, List.length_cons, List.length_drop]; omega
theorem foldI_len : ∀ (l m : List (Nat × Int)), (l.foldl insI m).length ≤ m.length + l.length
  | [], m => by simp
  | a :: l, m => by
    have h1 := foldI_len l (insI m a)
    have h2 := insI_len m a
    simp only [List.foldl_cons, List.length_cons]; omega
theorem sortedI_len (l : List (Nat × Int)) : (sortedI l).length ≤ l.length := by unfold sortedI; simpa using foldI_len l []
theorem sortedI_snoc {l : List (Nat × Int)} {k : Nat} {x : Nat × Int} (h : l[k]? = some x) : insI (sortedI (l.take k)) x = sortedI (l.take (k + 1)) := by
  unfold sortedI
  rw [List.take_add_one, h, List.foldl_append]
  rfl

def FitL (l : List (Nat × Int)) : Prop := ∀ x ∈ l, x.1 < 18446744073709551616 ∧ -9223372036854775808 ≤ x.2 ∧ x.2 ≤ 9223372036854775807

/-- What the law asks of Sort and the example; E: what the world holds. -/
structure SortsOk (E : World → Prop) : Prop where
  keep : ∀ {w w'}, E w → Below w.heap.size w w' → E w'
  sort : ∀ (l : List (Nat × Int)) (n c : Nat) (A : Option Addr) (w : World), n = l.length → n ≤ 200 → FitL l → RdI w (.slice A n c) l →
    Calls Tryd.prog 15 #[.slice A n c] w fun e w' => ∃ v', e = .returned v' ∧ RdI w' v' (sortedI l) ∧ Below w.heap.size w w'
  awake : ∀ w, E w → Calls Tryd.prog 12 #[] w fun e w' => e = .returned (.bool true) ∧ Below w.heap.size w w'

set_option maxRecDepth 20000 in
set_option maxHeartbeats 1000000 in
theorem sorts_form {E : World → Prop} (K : SortsOk E) (l : List (Nat × Int)) (n c : Nat) (A : Option Addr) (hn : n = l.length) (hf : FitL l) (w : World) (hE : E w) (h : RdI w (.slice A n c) l) (hm : n ≤ 9223372036854775807) :
    Calls Tryd.prog 4 #[.slice A n c] w fun e w' => e = .returned (.bool true) ∧ Below w.heap.size w w' := by
  have HE := Lib.hid hE
  have HR := Lib.hid h
  have HF := Lib.hid hf
  have hkeep : ∀ w w', E w → Below w.heap.size w w' → E w' := fun _ _ => K.keep
  have haw := K.awake
  have hsort := K.sort
  have HAW := Lib.hid haw
  have HSORT := Lib.hid hsort
  have HKEEP := Lib.hid hkeep
  have HN := Lib.hid hn
  clear hE h hf haw hsort hkeep hn
  by_cases hbig : 200 < n
  · go_enter Tryd.func4, Tryd.ntmps4
    go_wp2_with (go_at_call 12; (with_reducible refine (HAW.out _ HE.out).mono ?_); rintro e w1 ⟨rfl, hb1⟩)
    go_ret
    exact ⟨rfl, hb1⟩
  · have hn200 : n ≤ 200 := by omega
    clear hbig hm
    go_enter Tryd.func4, Tryd.ntmps4
    go_wp2
    go_loopw [3, 4] (fun v i wr => ∃ (k m d : Nat) (Av : Option Addr), k ≤ n ∧ i = .int .i64 (k : Int) ∧ v = .slice Av m d ∧ m ≤ k ∧ Hid (m = (sortedI (l.take k)).length ∧ RdI wr (.slice Av m d) (sortedI (l.take k)) ∧ Below w.heap.size w wr)) (fun _ i _ => n - (intOf i).toNat)
    case atStart => exact ⟨0, 0, 0, none, Nat.zero_le _, rfl, rfl, Nat.zero_le _, Lib.hid ⟨rfl, .inl ⟨none, 0, rfl, rfl, fun _ => rfl⟩, Below.refl _ _⟩⟩
    case round =>
      obtain ⟨k, m, d, Av, hk, rfl, rfl, hmk, HI⟩ := hrel
      by_cases hkn : k < n
      · obtain ⟨x, hx⟩ : ∃ x, l[k]? = some x := ⟨_, List.getElem?_eq_getElem (by rw [← HN.out]; exact hkn)⟩
        obtain ⟨b, off, rfl, hcs⟩ := HR.out.at_ hx
        obtain ⟨p0, p1⟩ := hcs wr HI.out.2.2
        have hput := rput_form (sortedI (l.take k)) m d Av x.1 x.2 HI.out.1 (by omega) wr HI.out.2.1
        rw [show ((x.1, x.2) : Nat × Int) = x from rfl, sortedI_snoc hx] at hput
        unfold idV at hput
        have HPUT := Lib.hid hput
        clear hput hcs hx
        go_wp2_with (go_at_call 13; (with_reducible refine (HPUT.out).mono ?_); rintro e w1 ⟨v1, rfl, hr1, hb1⟩; (obtain ⟨A1, n1, c1, rfl, hn1⟩ := hr1.named); have HR1 := Lib.hid hr1; have HN1 := Lib.hid hn1; clear hr1 hn1)
        go_roundw
        case rel =>
          refine ⟨k + 1, n1, c1, A1, by omega, by go_num, rfl, ?_, Lib.hid ⟨HN1.out, HR1.out, HI.out.2.2.trans (hb1.mono HI.out.2.2.size)⟩⟩
          have := sortedI_len (l.take (k + 1))
          have := List.length_take_le (k + 1) l
          have := HN1.out
          omega
        case measure => simp [intOf]; omega
      · obtain rfl : k = n := by omega
        have hsrt := HSORT.out l k c A wr HN.out hn200 HF.out (HR.out.below HI.out.2.2)
        have HSRT := Lib.hid hsrt
        have htk : l.take k = l := List.take_of_length_le (by rw [← HN.out]; exact Nat.le_refl _)
        have HTK := Lib.hid htk
        clear hsrt hkn htk
        have hsame : ∀ (n1 c1 : Nat) (A1 : Option Addr) (w1 : World), n1 = (sortedI l).length → RdI w1 (.slice A1 n1 c1) (sortedI l) → Below wr.heap.size wr w1 → Calls Tryd.prog 14 #[.slice A1 n1 c1, .slice Av m d] w1 fun e w' => e = .returned (.bool true) ∧ Below w1.heap.size w1 w' := by
          intro n1 c1 A1 w1 hn1 hr1 hb1
          have hle1 : n1 ≤ 100000 := by have := sortedI_len l; have := HN.out; omega
          have e1 := HI.out.1
          have e2 := HI.out.2.1
          rw [HTK.out] at e1 e2
          have h0 := rsame_form (sortedI l) (sortedI l) n1 c1 A1 m d Av hn1 e1 hle1 (by omega) w1 hr1 (e2.below hb1)
          rw [decide_eq_true (rfl : sortedI l = sortedI l)] at h0
          exact h0
        have HSAME := Lib.hid hsame
        clear hsame
        go_wp2_with (first
          | (go_at_call 15; (with_reducible refine (HSRT.out).mono ?_); rintro e w1 ⟨v1, rfl, hr1, hb1⟩; (obtain ⟨A1, n1, c1, rfl, hn1⟩ := hr1.named); have HS1 := Lib.hid (HSAME.out n1 c1 A1 w1 hn1 hr1 hb1); clear hr1 hn1)
          | (go_at_call 14; (with_reducible refine (HS1.out).mono ?_); rintro e w2 ⟨rfl, hb2⟩; have hw2 := HI.out.2.2.trans ((hb1.trans (hb2.mono hb1.size)).mono HI.out.2.2.size); have HE2 := Lib.hid (HKEEP.out _ _ HE.out hw2); clear hb1 hb2)
          | (go_at_call 12; (with_reducible refine (HAW.out _ HE2.out).mono ?_); rintro e w3 ⟨rfl, hb3⟩))
        go_ret
        exact ⟨rfl, hw2.trans (hb3.mono hw2.size)⟩
end Go.Proofs.YtfgopiopeidfmaaDoor
