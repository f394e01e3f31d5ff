/-
The references that Print calls: Quote of stage 8 (texts up to 2^50 bytes), holds; the law's name: by contracts.
-/
import Derived.Test.YtlagjnlajkmmeaaGreatDoorTrSame
import Derived.Test.YtlagjnlajkmmeaaGreatDoorTrPrM
import Derived.Test.YtlagjnlajkmmeaaGreatDoorOneB
import Derived.Test.YtlagjnlajkmmeaaGreatDoorDigS
import Derived.Test.YtlagjnlajkmmeaaGreatDoorNumM
import Derived.LoopTactic
namespace Go.Proofs.YtlagjnlajkmmeaaGreatDoor
open Go.RowKit

theorem ba_app9 (a b : List UInt8) : (⟨a.toArray⟩ ++ ⟨b.toArray⟩ : ByteArray) = ⟨(a ++ b).toArray⟩ := One.ba_app a b
theorem ext_9 (l : List UInt8) (i j : Nat) : (⟨l.toArray⟩ : ByteArray).extract i j = ⟨((l.drop i).take (j - i)).toArray⟩ := by
  apply ByteArray.ext
  simp [ByteArray.data_extract, List.extract_eq_take_drop]
def escB (l : List UInt8) : List UInt8 := l.flatMap fun c => if c = 34 then [34, 34] else [c]
theorem escB_snoc {l : List UInt8} {i : Nat} {c : UInt8} (h : l[i]? = some c) : escB (l.take (i + 1)) = escB (l.take i) ++ (if c = 34 then [34, 34] else [c]) := by
  unfold escB
  rw [List.take_add_one, h, List.flatMap_append]
  simp

set_option maxRecDepth 20000 in
set_option maxHeartbeats 2000000 in
theorem rquote9 (l : List UInt8) (hl : l.length ≤ 1125899906842624) (w : World) :
    Calls Tryz.prog 24 #[.string ⟨l.toArray⟩] w fun e w' => e = .returned (.string ⟨(quoteB l).toArray⟩) ∧ w' = w := by
  obtain ⟨n, hn⟩ : ∃ n, n = l.length := ⟨_, rfl⟩
  have hsz : (⟨l.toArray⟩ : ByteArray).size = n := by rw [hn]; rfl
  rw [← hn] at hl
  have HN := Lib.hid hn
  clear hn
  go_enter Tryz.func24, Tryz.ntmps24
  go_wp2
  go_loop [3, 4] (fun a b => ∃ (i : Nat) (t : List UInt8), i ≤ n ∧ t.length ≤ 2 * i + 1 ∧ a = .string ⟨t.toArray⟩ ∧ b = .int .i64 (i : Int) ∧ Hid (t = 34 :: escB (l.take i))) (fun _ b => n - (intOf b).toNat)
  case atStart => exact ⟨0, [34], Nat.zero_le _, by simp, rfl, rfl, Lib.hid (by simp [escB])⟩
  case round =>
    obtain ⟨i, t, hi, ht, rfl, rfl, HT⟩ := hrel
    have htz : (⟨t.toArray⟩ : ByteArray).size = t.length := rfl
    by_cases hge : n ≤ i
    · have hba : (⟨t.toArray⟩ ++ ⟨#[34]⟩ : ByteArray) = ⟨(quoteB l).toArray⟩ := by
        rw [show (⟨#[34]⟩ : ByteArray) = ⟨[34].toArray⟩ from rfl, ba_app9, HT.out, List.take_of_length_le (by rw [← HN.out]; exact hge)]
        rfl
      have HBA := Lib.hid hba
      clear hba
      go_wp2_with fail
      go_ret
      exact ⟨by rw [← HBA.out]; rfl, rfl⟩
    · have hlt : i < n := by omega
      clear hge
      obtain ⟨c, hc⟩ : ∃ c, l[i]? = some c := ⟨_, List.getElem?_eq_getElem (by rw [← HN.out]; exact hlt)⟩
      have hget : ∀ h, (⟨l.toArray⟩ : ByteArray)[i]'h = c := fun h => (List.getElem?_eq_some_iff.1 hc).2
      have hext : (⟨l.toArray⟩ : ByteArray).extract i (i + 1) = ⟨[c].toArray⟩ := by
        rw [ext_9]
        have hi2 := (List.getElem?_eq_some_iff.1 hc)
        rw [List.drop_eq_getElem_cons hi2.1, hi2.2, show i + 1 - i = 1 from by omega]
        rfl
      have hs := escB_snoc hc
      by_cases h34 : c = 34
      · subst h34
        rw [if_pos rfl] at hs
        have hba : (⟨t.toArray⟩ ++ ⟨#[34]⟩ : ByteArray) = ⟨(t ++ [34]).toArray⟩ := ba_app9 t [34]
        have hbs : (⟨(t ++ [34]).toArray⟩ : ByteArray).size = t.length + 1 := by show (t ++ [34]).toArray.size = _; simp
        have hba2 : (⟨(t ++ [34]).toArray⟩ ++ ⟨#[34]⟩ : ByteArray) = ⟨(t ++ [34, 34]).toArray⟩ := by rw [show (⟨#[34]⟩ : ByteArray) = ⟨[34].toArray⟩ from rfl, ba_app9, List.append_assoc]; try rfl
        have HT2 := Lib.hid (show t ++ [34, 34] = 34 :: escB (l.take (i + 1)) from by rw [hs, HT.out]; rfl)
        have HBA2 := Lib.hid hba2
        clear hc hs hba2
        go_wp2_with fail
        go_round
        case rel => exact ⟨i + 1, t ++ [34, 34], by omega, by simp; omega, by rw [← HBA2.out]; try rfl, by go_num, HT2⟩
        case measure => simp [intOf]; omega
      · have h34n : c.toNat ≠ 34 := fun e => h34 (by rw [← UInt8.ofNat_toNat (x := c), e]; rfl)
        have h34b : ((c.toNat : Int) == 34) = false := by simp; omega
        rw [if_neg h34] at hs
        have hba : (⟨t.toArray⟩ ++ ⟨[c].toArray⟩ : ByteArray) = ⟨(t ++ [c]).toArray⟩ := ba_app9 t [c]
        have HT2 := Lib.hid (show t ++ [c] = 34 :: escB (l.take (i + 1)) from by rw [hs, HT.out]; rfl)
        have HBA := Lib.hid hba
        clear hc hs hba h34
        go_wp2_with fail
        go_round
        case rel => exact ⟨i + 1, t ++ [c], by omega, by simp; omega, by rw [← HBA.out], by go_num, HT2⟩
        case measure => simp [intOf]; omega

set_option maxRecDepth 20000 in
set_option maxHeartbeats 2000000 in
theorem holds_any (k n : Int) (s : List UInt8) (f t : Int) (u : Value) (w : World) :
    Calls Tryz.prog 25 #[.agg #[.int .i64 k, .int .i64 n, .string ⟨s.toArray⟩, .int .i64 f, .int .i64 t, u]] w fun e w' => e = .returned (.int .i64 (holdsF k s : Nat)) ∧ Below w.heap.size w w' := by
  have HB0 := Lib.hid (below_alloc w (.cells #[.int .i64 k, .int .i64 n, .string ⟨s.toArray⟩, .int .i64 f, .int .i64 t, u] 24))
  obtain ⟨p0, p1, p2, p3, p4, p5⟩ := box6v w rfl k n s f t u 24
  have HL := Lib.hid (fun W => rlevel_any s W)
  unfold holdsF
  by_cases h6 : k = 6
  · subst h6
    rw [if_pos rfl]
    go_enter Tryz.func25, Tryz.ntmps25
    go_wp2_with fail
    go_at_call 14
    with_reducible refine (HL.out _).mono ?_
    rintro e w1 ⟨rfl, hb1⟩
    go_wp2_with fail
    go_ret
    exact ⟨rfl, HB0.out.trans (hb1.mono HB0.out.size)⟩
  · rw [if_neg h6]
    obtain ⟨z1, z2⟩ := int_ne h6
    by_cases h5 : k = 5
    · subst h5
      rw [if_pos rfl]
      clear h6
      go_enter Tryz.func25, Tryz.ntmps25
      go_wp2_with fail
      go_ret
      exact ⟨rfl, HB0.out⟩
    · rw [if_neg h5]
      obtain ⟨z3, z4⟩ := int_ne h5
      clear h5 h6
      go_enter Tryz.func25, Tryz.ntmps25
      go_wp2_with fail
      go_ret
      exact ⟨rfl, HB0.out⟩

theorem itoa_len (k : Int) (h : In64 k) : (Lib.itoa k).length ≤ 40 := by
  have := One.dec_len (u := k.natAbs) (by omega)
  unfold Lib.itoa
  split
  · simp; omega
  · rw [show k.toNat = k.natAbs from by omega]; omega
/-- The law's names of references. -/
def nmF (k : Int) : List UInt8 := 82 :: Lib.itoa (k.tmod 1000)
theorem tmod_in (k : Int) : In64 (k.tmod 1000) := by
  have h1 : (k.tmod 1000).natAbs = k.natAbs % (1000 : Int).natAbs := Int.natAbs_tmod k 1000
  have h2 : (1000 : Int).natAbs = 1000 := rfl
  rw [h2] at h1
  omega
theorem nm_len (k : Int) : (nmF k).length ≤ 41 := by
  have := itoa_len _ (tmod_in k)
  unfold nmF
  rw [List.length_cons]
  omega
set_option maxRecDepth 20000 in
theorem name_any (k : Int) (hk : In64 k) (w : World) :
    Calls Tryz.prog 9 #[.int .i64 k] w fun e w' => e = .returned (.string ⟨(nmF k).toArray⟩) ∧ Below w.heap.size w w' := by
  have hd := fun W => Dig.digits_any (k.tmod 1000) (tmod_in k).1 (tmod_in k).2 W
  have hl := itoa_len _ (tmod_in k)
  have hba : (⟨#[82]⟩ ++ ⟨(Lib.itoa (k.tmod 1000)).toArray⟩ : ByteArray) = ⟨(nmF k).toArray⟩ := ba_app9 [82] _
  have hz : (⟨(Lib.itoa (k.tmod 1000)).toArray⟩ : ByteArray).size ≤ 40 := hl
  obtain ⟨h1, h2⟩ := tmod_in k
  generalize (⟨(Lib.itoa (k.tmod 1000)).toArray⟩ : ByteArray) = sd at *
  have HBA := Lib.hid hba
  have HD := Lib.hid hd
  have HC : Hid ((9223372036854775807 < 1 + sd.size) = False) := eq_false (by omega)
  clear hd hl hba hk
  go_enter Tryz.func9, Tryz.ntmps9
  go_wp2_with fail
  go_at_call 17
  with_reducible refine (HD.out _).mono ?_
  rintro e w1 ⟨rfl, hb1⟩
  go_wp2_with fail
  go_ret
  exact ⟨by rw [← HBA.out]; rfl, hb1⟩
/-- A number's text; nought's where it is no number of 64 bits: so that it is short for every number. -/
def txN (n : Int) : List UInt8 := One.textL (if -9223372036854775808 ≤ n ∧ n ≤ 9223372036854775807 then n else 0)
theorem text_short (n : Int) (h : In64 n) : (One.textL n).length ≤ 40 := by
  unfold One.textL
  have h1 := One.dec_len (u := n.natAbs / 1000000) (by omega)
  have h2 := One.dec_len (u := 1000000 + n.natAbs % 1000000) (by omega)
  have h2b : (Lib.decDigits (1000000 + n.natAbs % 1000000)).length ≤ 6 + 1 := dec_len 6 _ (by omega)
  have h3 := One.trimRight_len (Lib.decDigits (1000000 + n.natAbs % 1000000)).tail 48
  rw [List.length_tail] at h3
  simp only
  split <;> split <;> simp <;> omega
theorem txN_len (n : Int) : (txN n).length ≤ 40 := by
  unfold txN
  refine text_short _ ?_
  split <;> omega
theorem txN_eq (n : Int) (h : In64 n) : txN n = One.textL n := by
  unfold txN
  rw [if_pos (by omega)]
end Go.Proofs.YtlagjnlajkmmeaaGreatDoor
