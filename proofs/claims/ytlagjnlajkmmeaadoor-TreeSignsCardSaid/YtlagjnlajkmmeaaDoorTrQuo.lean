/-
The references that Print calls: Quote of stage 8 (texts up to 2^50 bytes), holds; the law's name: by contracts.
-/
import Derived.Test.YtlagjnlajkmmeaaDoorTrSame
import Derived.Test.YtlagjnlajkmmeaaDoorTrPrM
import Derived.Test.YtlagjnlajkmmeaaDoorOneB
import Derived.Test.YtlagjnlajkmmeaaDoorDigS
import Derived.Test.YtlagjnlajkmmeaaDoorNumM
import Derived.LoopTactic
namespace Go.Proofs.YtlagjnlajkmmeaaDoor
open Go.RowKit

theorem ba_app9 (a b : List UInt8) : (⟨a.toArray⟩ ++ ⟨b.toArray⟩ : ByteArray) = ⟨(a ++ b).toArray⟩ := One.ba_app a b
theorem ext_9 (l : List UInt8) (i j : Nat) : (⟨l.toArray⟩ : ByteArray).extract i j = ⟨((l.drop i).take (j - i)).toArray⟩ := by
  apply ByteArray.ext
  simp [ByteArray.data_extract, List.extract_eq_take_drop]
def escB (l : List UInt8) : List UInt8 := l.flatMap fun c => if c = 34 then [34, 34] else [c]
theorem escB_snoc {l : List UInt8} {i : Nat} {c : UInt8} (h : l[i]? = some c) : escB (l.take (i + 1)) = escB (l.take i) ++ (if c = 34 then [34, 34] else [c]) := by
  unfold escB
  rw [List.take_add_one, h, List.flatMap_append]
  simp

theorem itoa_len (k : Int) (h : In64 k) : (Lib.itoa k).length ≤ 40 := by
  have := One.dec_len (u := k.natAbs) (by omega)
  unfold Lib.itoa
  split
  · simp; omega
  · rw [show k.toNat = k.natAbs from by omega]; omega
/-- The law's names of references. -/
def nmF (k : Int) : List UInt8 := 82 :: Lib.itoa (k.tmod 1000)
theorem tmod_in (k : Int) : In64 (k.tmod 1000) := by
  have h1 : (k.tmod 1000).natAbs = k.natAbs % (1000 : Int).natAbs := Int.natAbs_tmod k 1000
  have h2 : (1000 : Int).natAbs = 1000 := rfl
  rw [h2] at h1
  omega
theorem nm_len (k : Int) : (nmF k).length ≤ 41 := by
  have := itoa_len _ (tmod_in k)
  unfold nmF
  rw [List.length_cons]
  omega
/-- A number's text; nought's where it is no number of 64 bits: so that it is short for every number. -/
def txN (n : Int) : List UInt8 := One.textL (if -9223372036854775808 ≤ n ∧ n ≤ 9223372036854775807 then n else 0)
theorem text_short (n : Int) (h : In64 n) : (One.textL n).length ≤ 40 := by
  unfold One.textL
  have h1 := One.dec_len (u := n.natAbs / 1000000) (by omega)
  have h2 := One.dec_len (u := 1000000 + n.natAbs % 1000000) (by omega)
  have h2b : (Lib.decDigits (1000000 + n.natAbs % 1000000)).length ≤ 6 + 1 := dec_len 6 _ (by omega)
  have h3 := One.trimRight_len (Lib.decDigits (1000000 + n.natAbs % 1000000)).tail 48
  rw [List.length_tail] at h3
  simp only
  split <;> split <;> simp <;> omega
theorem txN_len (n : Int) : (txN n).length ≤ 40 := by
  unfold txN
  refine text_short _ ?_
  split <;> omega
theorem txN_eq (n : Int) (h : In64 n) : txN n = One.textL n := by
  unfold txN
  rw [if_pos (by omega)]
end Go.Proofs.YtlagjnlajkmmeaaDoor
