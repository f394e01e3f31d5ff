/-
strconv.FormatUint at base 10, by its contract, out of the shelf's contracts of its callees.
The program's dec.Text, by its contract.
The program's dec.millionths and dec.Parse, by contracts.
The program's dec.quotient, dec.Mul and dec.Div, by contracts that lean on what bits.Div64 answers.
The law's awake and same, by contracts.
The laws DecBack and DecWholes, walked.
The program's dec.Round, dec.Floor and dec.Mod, by contracts.
The reference's Round, floored, Floor and Mod, by contracts.
The reference's Digits and Text, by contracts.
Digits as texts: what the two sides of the law on texts write. No program in it.
The reference's Text, by its contract.
-/
import Derived.Test.YtlagjnlajkmmeaaDoorOneA
import Derived.Test.YtlagjnlajkmmeaaDoorShelf
import Derived.Lib.ItoaMem
import Derived.Lib.Walk
import Derived.BigCall
import Derived.BigGuard
import Derived.Deep.RegionWith
import Derived.Laws.IdiomStrings
namespace Go.Proofs.YtlagjnlajkmmeaaDoor.One
open Go.RowKit Go.Sort Go.Lib

/-- What the library's functions read of the package-level variables. -/
structure Env (w : World) : Prop where
  tab : Lib.TabIs Tryd.prog w "internal/strconv.uint64pow10" .u64 Lib.pow10Tab
  max : ∃ m : Int, w.cell? ⟨2, 0, none⟩ = some (.int .i64 m)

theorem Env.below {w w' : World} (h : Env w) (hb : Below w.heap.size w w') : Env w' := by
  obtain ⟨ht, m, hm⟩ := h
  refine ⟨?_, m, ?_⟩
  · unfold TabIs World.var? at *
    cases hg : Tryd.prog.globalNamed "internal/strconv.uint64pow10" with
    | none => simp [hg] at ht
    | some g =>
      simp only [hg, Option.bind_some] at ht ⊢
      have hlt : g < w.heap.size := by
        rcases Nat.lt_or_ge g w.heap.size with h' | h'
        · exact h'
        · rw [Array.getElem?_eq_none h'] at ht; simp at ht
      rw [hb.block g hlt]; exact ht
  · rw [hb.cell (World.block_lt_of_cell? w _ hm)]; exact hm

theorem below_grow (w : World) (k : Nat) (os : Array Obj) : Below w.heap.size w (grow (w.drewN k) os) := by
  refine ⟨rfl, rfl, rfl, ?_, fun i hi => ?_⟩
  · show w.heap.size ≤ (w.heap ++ os).size
    simp
  · show (w.heap ++ os)[i]? = _
    rw [Array.getElem?_append_left hi]

set_option maxHeartbeats 6400000 in
set_option maxRecDepth 100000 in
/-- internal/strconv.FormatUint, at base 10. -/
theorem fmtu_any (u : Nat) (hu64 : u < 18446744073709551616) (w : World) (htab : Lib.TabIs Tryd.prog w "internal/strconv.uint64pow10" .u64 Lib.pow10Tab) :
    Calls Tryd.prog 58 #[.int .u64 (u : Int), .int .i64 10] w fun e w' => e = .returned (.string ⟨(Lib.decDigits u).toArray⟩) ∧ Below w.heap.size w w' := by
  by_cases hs : u < 100
  · go_enter Tryd.func58, Tryd.ntmps58
    go_wp2_with (go_at_call 68; go_must (refine (Tryd.internal_strconv_small u hs _).mono ?_); rintro e w' ⟨rfl, rfl⟩)
    go_ret
    exact ⟨rfl, Below.refl _ _⟩
  · have hu1 : 1 ≤ u := by omega
    have hnd20 : Lib.nDigits u ≤ 20 := by have := Lib.numDigits_eq u hu1 hu64; split at this <;> omega
    have hal : Tryd.prog.arrayLen 101 = 24 := by simp [Program.arrayLen, Tryd.underlying101]
    have hsl1 : ∀ W, (Instr.sliceAt 101 (.pointer (some ⟨w.heap.size, 0, none⟩)) none (some (.int .i64 (Lib.nDigits u : Int))) none).run Tryd.prog W = .ok (.slice (some ⟨w.heap.size, 0, none⟩) (Lib.nDigits u) 24) W := fun W => by
      rw [run_sliceAt_array_h W 101 ⟨w.heap.size, 0, none⟩ (by simp [Program.arrayLen, Program.elem, Tryd.underlying101]) .i64 (Lib.nDigits u : Int) (by omega) (by rw [hal]; omega)]
      go_simp
    have hH0 : Holds (fun (b : UInt8) => Value.int .u8 (b.toNat : Int)) (w.alloc (.cells Lib.zeros24 101)) w.heap.size 0 (Array.replicate (Lib.nDigits u) (0 : UInt8)) := fun j hj => by
      have hj' : j < Lib.nDigits u := by simpa using hj
      refine ⟨?_, World.frozen?_alloc_new _ _ _ _⟩
      rw [World.cell?_alloc_new, Lib.zeros24_at _ (by omega), getElem!_pos _ j hj]
      simp
    have hfmt := Tryd.internal_strconv_formatBase10 w.heap.size 0 24 u (Array.replicate (Lib.nDigits u) 0) (w.alloc (.cells Lib.zeros24 101)) hH0 (by rw [Array.size_replicate]; exact Lib.lt_pow_nDigits u) hu64 (by rw [Array.size_replicate]; omega)
    rw [Array.size_replicate] at hfmt
    have HH0 := Lib.hid hH0
    clear hH0 hal
    go_enter Tryd.func58, Tryd.ntmps58
    go_wp2_with (go_at_call 69; go_must (refine (Tryd.internal_strconv_numDigits u hu1 hu64 _ (Lib.tabIs_alloc htab _)).mono ?_); rintro e w' ⟨rfl, rfl⟩)
    refine hfmt.mono ?_
    rintro e w' ⟨rfl, k, v', dk, rfl, hF⟩
    have hcv : (convert 57 9 (.slice (some ⟨w.heap.size, 0, none⟩) (Lib.nDigits u) 24)).run Tryd.prog ((putRow (fun (b : UInt8) => Value.int .u8 (b.toNat : Int)) (w.alloc (.cells Lib.zeros24 101)) w.heap.size 0 dk).drewN k) = .ok (.string ⟨(Lib.decDigits u).toArray⟩) ((putRow (fun (b : UInt8) => Value.int .u8 (b.toNat : Int)) (w.alloc (.cells Lib.zeros24 101)) w.heap.size 0 dk).drewN k) := by
      have h := run_convert_bytes_back (P := Tryd.prog) ((putRow (fun (b : UInt8) => Value.int .u8 (b.toNat : Int)) (w.alloc (.cells Lib.zeros24 101)) w.heap.size 0 dk).drewN k) 57 9 5 ⟨w.heap.size, 0, none⟩ 24 (Lib.decDigits u) Tryd.underlying57 Tryd.underlying5 Tryd.underlying9 (fun j hj => by
        rw [Lib.row_is_numeral hF j hj, Lib.add_plain, World.cell?_drewN]
        exact cell?_putRow (fun (b : UInt8) => Value.int .u8 (b.toNat : Int)) _ w.heap.size 0 _ dk HH0.out (by rw [hF.size, Array.size_replicate]) j (by rw [hF.size]; rw [Lib.decDigits_length] at hj; exact hj))
      rw [Lib.decDigits_length] at h
      exact h
    go_wp2
    go_ret
    refine ⟨rfl, ?_⟩
    rw [alloc_eq_grow]
    obtain ⟨os', _, e⟩ := putRow_grow_new (fun (b : UInt8) => Value.int .u8 (b.toNat : Int)) w #[.cells Lib.zeros24 101] w.heap.size 0 dk (Nat.le_refl _)
    rw [e]
    exact below_grow w k os'

/-- strconv.FormatUint, at base 10. -/
theorem formatUint (u : Nat) (hu64 : u < 18446744073709551616) (w : World) (hE : Env w) :
    Calls Tryd.prog 53 #[.int .u64 (u : Int), .int .i64 10] w fun e w' => e = .returned (.string ⟨(Lib.decDigits u).toArray⟩) ∧ Below w.heap.size w w' := by
  have h0 := fmtu_any u hu64 w hE.tab
  go_enter Tryd.func53, Tryd.ntmps53
  go_wp2_with (go_at_call 58; go_must (refine h0.mono ?_); rintro e w' ⟨rfl, hb⟩)
  go_ret
  exact ⟨rfl, hb⟩
theorem formatUint_z (z : Int) (u : Nat) (hz : z = (u : Int)) (hu64 : u < 18446744073709551616) (w : World) (hE : Env w) :
    Calls Tryd.prog 53 #[.int .u64 z, .int .i64 10] w fun e w' => e = .returned (.string ⟨(Lib.decDigits u).toArray⟩) ∧ Below w.heap.size w w' := by
  subst hz; exact formatUint u hu64 w hE
end Go.Proofs.YtlagjnlajkmmeaaDoor.One

namespace Go.Proofs.YtlagjnlajkmmeaaDoor.One
open Go.RowKit

/-- A number's text. -/
def textL (z : Int) : List UInt8 :=
  let n := z.natAbs
  let t := Lib.decDigits (n / 1000000)
  let t2 := if n % 1000000 = 0 then t else t ++ 46 :: Lib.trimRightB (Lib.decDigits (1000000 + n % 1000000)).tail 48
  if z < 0 then 45 :: t2 else t2

theorem ba_app (a b : List UInt8) : (⟨a.toArray⟩ ++ ⟨b.toArray⟩ : ByteArray) = ⟨(a ++ b).toArray⟩ := by
  apply ByteArray.ext
  simp
theorem ret_str {a b : ByteArray} (h : a = b) : Ending.returned (.string a) = .returned (.string b) := by rw [h]
theorem dec_len {u : Nat} (h : u < 18446744073709551616) : (Lib.decDigits u).length ≤ 20 := by
  rw [Lib.decDigits_length]
  by_cases h1 : 1 ≤ u
  · have := Lib.numDigits_eq u h1 h; split at this <;> omega
  · rw [Lib.nDigits_small (by omega)]; omega
theorem trimRight_len (l : List UInt8) (c : UInt8) : (Lib.trimRightB l c).length ≤ l.length := by
  unfold Lib.trimRightB
  rw [List.length_reverse]
  have := (List.dropWhile_sublist (fun x => x == c) (l := l.reverse)).length_le
  simpa using this

theorem str_a (q tr : List UInt8) : (⟨q.toArray⟩ ++ (⟨#[46]⟩ ++ ⟨tr.toArray⟩) : ByteArray) = ⟨(q ++ 46 :: tr).toArray⟩ := by
  apply ByteArray.ext
  simp
theorem str_b (q tr : List UInt8) : (⟨#[45]⟩ ++ (⟨q.toArray⟩ ++ (⟨#[46]⟩ ++ ⟨tr.toArray⟩)) : ByteArray) = ⟨(45 :: (q ++ 46 :: tr)).toArray⟩ := by
  apply ByteArray.ext
  simp
theorem ba_tail (l : List UInt8) (n : Nat) (h : l.length = n) : (⟨l.toArray⟩ : ByteArray).extract 1 n = ⟨l.tail.toArray⟩ := by
  apply ByteArray.ext
  simp [ByteArray.data_extract, ← h, List.extract_eq_take_drop, List.take_of_length_le]
theorem textL_frac {z : Int} {n q r : Nat} {pd : List UInt8} (hn : z.natAbs = n) (hq : n / 1000000 = q) (hr : n % 1000000 = r) (hp : Lib.decDigits (1000000 + r) = pd) (h0 : r ≠ 0) :
    textL z = if z < 0 then 45 :: (Lib.decDigits q ++ 46 :: Lib.trimRightB pd.tail 48) else Lib.decDigits q ++ 46 :: Lib.trimRightB pd.tail 48 := by
  subst hn hq hr hp
  unfold textL
  simp only [if_neg h0]

set_option maxRecDepth 20000 in
set_option maxHeartbeats 1000000 in
/-- dec.Text. -/
theorem text_any (z : Int) (hz : I64 z) (w : World) (hE : Env w) :
    Calls Tryd.prog 39 #[.int .i64 z] w fun e w' => e = .returned (.string ⟨(textL z).toArray⟩) ∧ Below w.heap.size w w' := by
  obtain ⟨n, hn⟩ : ∃ n, z.natAbs = n := ⟨_, rfl⟩
  have hn63 : n ≤ 9223372036854775808 := by unfold I64 at hz; omega
  obtain ⟨q, hq⟩ : ∃ q, n / 1000000 = q := ⟨_, rfl⟩
  obtain ⟨r, hr⟩ : ∃ r, n % 1000000 = r := ⟨_, rfl⟩
  have hql := dec_len (u := q) (by omega)
  have hq' : (n : Int) / 1000000 = (q : Int) := by omega
  have hr' : (n : Int) % 1000000 = (r : Int) := by omega
  have hsz := fun w => size_any z hz w
  rw [hn] at hsz
  have hr6 : r < 1000000 := by omega
  have hq64 : q < 18446744073709551616 := by omega
  have HN := Lib.hid hn; clear hn
  have HQ := Lib.hid hq; clear hq
  have HR := Lib.hid hr; clear hr
  by_cases hr0 : r = 0
  · subst hr0
    go_enter Tryd.func39, Tryd.ntmps39
    go_wp2_with (first
      | (go_at_call 52; go_must (refine (hsz _).mono ?_); rintro e w' ⟨rfl, rfl⟩)
      | (go_at_call 53; go_must (refine (formatUint q hq64 _ hE).mono ?_); rintro e w1 ⟨rfl, hb1⟩))
    · go_ret
      refine ⟨ret_str ?_, hb1⟩
      unfold textL
      rw [if_pos (by assumption), HN.out, HQ.out, HR.out]
      exact ba_app [45] _
    · have hz0 : ¬ z < 0 := by omega
      go_ret
      refine ⟨ret_str ?_, hb1⟩
      unfold textL
      rw [if_neg hz0, HN.out, HQ.out, HR.out]
      rfl
  · have hb2 : ((r : Int) == 0) = false := by rw [beq_eq_false_iff_ne]; omega
    have hb3 : ((r : Int) != 0) = true := by rw [bne_iff_ne]; omega
    have hlp := dec_len (u := 1000000 + r) (by omega)
    obtain ⟨pd, hpd⟩ : ∃ pd, Lib.decDigits (1000000 + r) = pd := ⟨_, rfl⟩
    have hpl : pd.length = 7 := by rw [← hpd, Lib.decDigits_length]; exact Lib.nDigits_unique 6 _ (by omega) (by omega)
    have HPD := Lib.hid hpd; clear hpd
    go_enter Tryd.func39, Tryd.ntmps39
    go_wp2_with (first
      | (go_at_call 52; go_must (refine (hsz _).mono ?_); rintro e w' ⟨rfl, rfl⟩)
      | (go_at_call_of 53 ((q : Nat) : Int); go_must (refine (formatUint q hq64 _ hE).mono ?_); rintro e w1 ⟨rfl, hb1⟩))
    refine (formatUint_z _ (1000000 + r) (by omega) (by omega) _ (hE.below hb1)).mono ?_; rintro e w2 ⟨rfl, hb2⟩
    rw [HPD.out]
    have hb12 := hb1.trans (hb2.mono hb1.size)
    go_wp2_with fail
    rw [ba_tail pd 7 hpl]
    have htl := trimRight_len pd.tail 48
    have hpt : pd.tail.length = 6 := by simp [hpl]
    have htr := Tryd.strings_TrimRight_one ⟨pd.tail.toArray⟩ 48 (by decide) w2 (by show pd.tail.toArray.size ≤ _; simp; omega)
    obtain ⟨tr, htre⟩ : ∃ tr, Lib.trimRightB pd.tail 48 = tr := ⟨_, rfl⟩
    rw [show (⟨pd.tail.toArray⟩ : ByteArray).data.toList = pd.tail from rfl, htre] at htr
    rw [htre] at htl
    have htr6 : tr.length ≤ 6 := by omega
    have HTR := Lib.hid htre; clear htre
    go_must (refine htr.mono ?_); rintro e w3 ⟨rfl, rfl⟩
    have hfin := textL_frac HN.out HQ.out HR.out HPD.out hr0
    rw [HTR.out] at hfin
    have HF := Lib.hid hfin; clear hfin htr
    go_wp2
    · go_ret
      refine ⟨ret_str ?_, hb12⟩
      rw [HF.out, if_pos (by assumption)]; exact str_b _ _
    · have hz0 : ¬ z < 0 := by omega
      go_ret
      refine ⟨ret_str ?_, hb12⟩
      rw [HF.out, if_neg hz0]; exact str_a _ _
end Go.Proofs.YtlagjnlajkmmeaaDoor.One

namespace Go.Proofs.YtlagjnlajkmmeaaDoor.One
open Go.RowKit

/-- One digit more of a count of millionths. -/
def milStep (n : Option Nat) (c : UInt8) : Option Nat :=
  match n with
  | none => none
  | some v => if c.toNat < 48 ∨ 57 < c.toNat ∨ 922337203685477580 < v then none else some (v * 10 + (c.toNat - 48))
def milF (l : List UInt8) : Option Nat := l.foldl milStep (some 0)
theorem milF_snoc (l : List UInt8) (c : UInt8) : milF (l ++ [c]) = milStep (milF l) c := by simp [milF]
theorem milF_none_take {l : List UInt8} {k : Nat} (h : milF (l.take k) = none) : milF l = none := by
  have : l = l.take k ++ l.drop k := (List.take_append_drop k l).symm
  rw [this]
  unfold milF at *
  rw [List.foldl_append, h]
  generalize l.drop k = r
  induction r with
  | nil => rfl
  | cons c r ih => simpa [milStep] using ih

/-- What millionths reads. -/
def milChars (a b : List UInt8) : List UInt8 := a ++ b ++ List.replicate (6 - b.length) 48

/-- What millionths answers. -/
def milAns (o : Option Nat) : Ending := match o with
  | some v => .returned (.tuple #[.int .u64 (v : Int), .bool true])
  | none => .returned (.tuple #[.int .u64 0, .bool false])

theorem mil_good {o : Option Nat} {v : Nat} {c : UInt8} {n : Nat} (h : o = milStep (some v) c) (hc : c.toNat = n) (h1 : 48 ≤ n) (h2 : n ≤ 57) (h3 : v ≤ 922337203685477580) : o = some (v * 10 + (n - 48)) := by
  subst hc
  rw [h, milStep, if_neg (by omega)]
theorem mil_bad {o : Option Nat} {v : Nat} {c : UInt8} {n : Nat} (h : o = milStep (some v) c) (hc : c.toNat = n) (h1 : n < 48 ∨ 57 < n ∨ 922337203685477580 < v) : o = none := by
  subst hc
  rw [h, milStep, if_pos (by omega)]

/-- What Parse answers. -/
def parseOf (neg : Bool) (wh fr : List UInt8) (pt : Bool) : Int × Bool :=
  if wh = [] ∨ 6 < fr.length ∨ (pt = true ∧ fr = []) then (0, false)
  else match milF (milChars wh fr) with
    | none => (0, false)
    | some v => ((toI (sgn neg v)).1, (toI (sgn neg v)).2 == 0)
def parseL (l : List UInt8) : Int × Bool :=
  let u := Lib.trimPrefix l [45]
  parseOf (Lib.hasPrefix l [45]) (Lib.cut u [46]).1 (Lib.cut u [46]).2.1 (Lib.cut u [46]).2.2

theorem milF_bound {l : List UInt8} {v : Nat} (h : milF l = some v) : v ≤ 9223372036854775809 := by
  have gen : ∀ (l : List UInt8) (o : Option Nat), (∀ x, o = some x → x ≤ 9223372036854775809) → ∀ v, l.foldl milStep o = some v → v ≤ 9223372036854775809 := by
    intro l
    induction l with
    | nil => intro o ho v hv; exact ho v hv
    | cons c l ih =>
      intro o ho v hv
      refine ih (milStep o c) ?_ v hv
      intro x hx
      cases o with
      | none => simp [milStep] at hx
      | some y =>
        simp only [milStep] at hx
        split at hx
        · cases hx
        · have := Option.some.inj hx
          omega
  exact gen l (some 0) (by intro x hx; have := Option.some.inj hx; omega) v h

theorem ret_ib {k : IntKind} {a b : Int} {x y : Bool} (h : a = b) (h' : x = y) : Ending.returned (.tuple #[.int k a, .bool x]) = .returned (.tuple #[.int k b, .bool y]) := by rw [h, h']

end Go.Proofs.YtlagjnlajkmmeaaDoor.One

namespace Go.Proofs.YtlagjnlajkmmeaaDoor.One
open Go.RowKit

/-- Half up. -/
def rnd (a b : Nat) : Nat := a / b + if b ≤ 2 * (a % b) then 1 else 0

end Go.Proofs.YtlagjnlajkmmeaaDoor.One

namespace Go.Proofs.YtlagjnlajkmmeaaDoor.One
open Go.RowKit

theorem parse_awake : parseL [49, 46, 53, 48] = (1500000, true) := by decide +kernel
theorem text_awake : textL 1500000 = [49, 46, 53] := by decide +kernel

theorem toI_i64 (z : Int) : I64 (toI z).1 ∧ I64 (toI z).2 := by
  unfold toI
  split
  · rename_i h; exact ⟨h, i64_zero⟩
  · exact ⟨i64_zero, by unfold I64; omega⟩
end Go.Proofs.YtlagjnlajkmmeaaDoor.One

namespace Go.Proofs.YtlagjnlajkmmeaaDoor.One
open Go.RowKit
open Num (digs valD cutL Ten)

theorem toI_in {z : Int} (h : I64 z) : toI z = (z, 0) := toI_of (.inl ⟨h, rfl, rfl⟩)
theorem toI_out {z : Int} (h : ¬ I64 z) : toI z = (0, 31) := toI_of (.inr ⟨h, rfl, rfl⟩)

/-- What comes back where no error was told. -/
theorem back_cases {s a : Int} (f : Int → Int) (ha : I64 a) (hf : f s = a) : ∃ x e z g : Int, toI s = (x, e) ∧ toI (f x) = (z, g) ∧ I64 x ∧ ((e = 0 ∧ z = a ∧ g = 0) ∨ (e = 31)) := by
  by_cases h : I64 s
  · exact ⟨s, 0, a, 0, toI_in h, by rw [hf]; exact toI_in ha, h, .inl ⟨rfl, rfl, rfl⟩⟩
  · exact ⟨0, 31, _, _, toI_out h, rfl, i64_zero, .inr rfl⟩

theorem digs_len_mul {a b k l : Nat} (ha : (digs a).length ≤ k) (hb : (digs b).length ≤ l) : (digs (a * b)).length ≤ k + l := by
  refine Num.digs_length_le ?_
  have h1 := Num.valD_lt (Num.digs_ten a); rw [Num.valD_digs] at h1
  have h2 := Num.valD_lt (Num.digs_ten b); rw [Num.valD_digs] at h2
  have h3 := Nat.lt_of_lt_of_le h1 (Nat.pow_le_pow_right (show 0 < 10 by decide) ha)
  have h4 := Nat.lt_of_lt_of_le h2 (Nat.pow_le_pow_right (show 0 < 10 by decide) hb)
  rw [Nat.pow_add]
  exact Nat.mul_lt_mul'' h3 h4
theorem sgn_mul (z : Int) (k : Nat) : sgn (decide (z < 0)) (z.natAbs * k) = z * (k : Int) := by
  unfold sgn
  by_cases h : z < 0
  · simp only [h, decide_true, if_true, Int.natCast_mul]
    rw [← Int.neg_mul]
    congr 1
    omega
  · simp only [h, decide_false, Int.natCast_mul]
    rw [if_neg (by simp)]
    congr 1
    omega
theorem mil_len : (digs 1000000).length ≤ 7 := Num.digs_length_le (by decide)

end Go.Proofs.YtlagjnlajkmmeaaDoor.One

namespace Go.Proofs.YtlagjnlajkmmeaaDoor.One
open Go.RowKit

/-- How many places are rounded away. -/
def away (p : Int) : Nat := (6 - min (max p 0) 6).toNat
theorem away_le (p : Int) : away p ≤ 6 := by unfold away; omega
theorem pow_le (k : Nat) (h : k ≤ 6) : 10 ^ k ≤ 1000000 ∧ 0 < 10 ^ k := ⟨Nat.pow_le_pow_right (by decide) h, Nat.pow_pos (by decide)⟩

theorem rnd_mul (n u : Nat) : rnd n u * u = (n - n % u) + if u ≤ 2 * (n % u) then u else 0 := by
  unfold rnd
  have h := Nat.div_add_mod n u
  rw [Nat.add_mul, Nat.mul_comm (n / u) u]
  split <;> omega

theorem tmod_sgn (a b : Int) : a.tmod b = sgn (decide (a < 0)) (a.natAbs % b.natAbs) := by
  have hb : a.tmod b = a.tmod (b.natAbs : Int) := by
    rcases Int.natAbs_eq b with h | h
    · rw [← h]
    · conv => lhs; rw [h]
      rw [Int.tmod_neg]
  rw [hb]
  unfold sgn
  by_cases h : a < 0
  · simp only [h, decide_true, if_true]
    have e : a = -((a.natAbs : Nat) : Int) := by omega
    conv => lhs; rw [e]
    rw [Int.neg_tmod, Int.ofNat_tmod]
  · simp only [h, decide_false]
    rw [if_neg (by simp)]
    have e : a = ((a.natAbs : Nat) : Int) := by omega
    conv => lhs; rw [e]
    rw [Int.ofNat_tmod]
theorem tmod_mil (a : Int) : -1000000 < a.tmod 1000000 ∧ (a.tmod 1000000 < 0 → a.tmod 1000000 + 1000000 = a % 1000000) ∧ (¬ a.tmod 1000000 < 0 → a.tmod 1000000 = a % 1000000) := by
  rw [tmod_sgn]
  unfold sgn
  have h1 : (1000000 : Int).natAbs = 1000000 := rfl
  rw [h1]
  by_cases h : a < 0 <;> simp [h] <;> omega

/-- What is left of a by b, with the sign of b. -/
def fm (a b : Int) : Int := if a.tmod b ≠ 0 ∧ ¬ (a.tmod b < 0 ↔ b < 0) then a.tmod b + b else a.tmod b

end Go.Proofs.YtlagjnlajkmmeaaDoor.One

namespace Go.Proofs.YtlagjnlajkmmeaaDoor.One
open Go.RowKit
open Num (digs valD cutL Ten)

theorem rnd_len {a b k : Nat} (ha : (digs a).length ≤ k) : (digs (rnd a b)).length ≤ k + 1 := by
  have h1 := Num.valD_lt (Num.digs_ten a); rw [Num.valD_digs] at h1
  have h2 := Nat.lt_of_lt_of_le h1 (Nat.pow_le_pow_right (show 0 < 10 by decide) ha)
  refine Num.digs_length_le ?_
  unfold rnd
  have := Nat.div_le_self a b
  rw [Nat.pow_succ]
  split <;> omega

end Go.Proofs.YtlagjnlajkmmeaaDoor.One

namespace Go.Proofs.YtlagjnlajkmmeaaDoor.One
open Go.RowKit
open Num (digs valD cutL Ten)

/-- The k lowest digits, the greatest first, as bytes. -/
def strD (xs : List Nat) : Nat → List UInt8
  | 0 => []
  | k + 1 => UInt8.ofNat (48 + xs[k]?.getD 0) :: strD xs k
theorem strD_length (xs : List Nat) (k : Nat) : (strD xs k).length = k := by
  induction k with
  | zero => rfl
  | succ k ih => simp [strD, ih]

theorem conv1 (w : World) (d : Nat) (hd : d < 10) : (convert 57 9 (.slice (some ⟨w.heap.size, 0, none⟩) 1 1)).run Tryd.prog (w.alloc (.cells #[.int .u8 (48 + (d : Int))] 5)) = .ok (.string ⟨#[UInt8.ofNat (48 + d)]⟩) (w.alloc (.cells #[.int .u8 (48 + (d : Int))] 5)) := by
  refine run_convert_bytes_back (P := Tryd.prog) _ 57 9 5 ⟨w.heap.size, 0, none⟩ 1 [UInt8.ofNat (48 + d)] Tryd.underlying57 Tryd.underlying5 Tryd.underlying9 (fun j hj => ?_)
  obtain rfl : j = 0 := by simp at hj; omega
  have h0 : (w.alloc (.cells #[.int .u8 (48 + (d : Int))] 5)).heap[w.heap.size]? = some (.cells #[.int .u8 (48 + (d : Int))] 5 (0, 0)) := heap_alloc_new w _
  rw [show (Addr.add ⟨w.heap.size, 0, none⟩ 0) = ⟨w.heap.size, 0, none⟩ from rfl, cell_of_row _ _ 0 _ _ _ h0]
  have e : ((UInt8.ofNat (48 + d)).toNat : Int) = 48 + (d : Int) := by
    simp; omega
  show some (Value.int .u8 (48 + (d : Int))) = some (Value.int .u8 ((UInt8.ofNat (48 + d)).toNat : Int))
  rw [e]
theorem strD_succ (xs : List Nat) (k d : Nat) (h : xs[k]?.getD 0 = d) : (⟨#[UInt8.ofNat (48 + d)]⟩ ++ ⟨(strD xs k).toArray⟩ : ByteArray) = ⟨(strD xs (k + 1)).toArray⟩ := by
  rw [strD, h]; exact ba_app [UInt8.ofNat (48 + d)] _

end Go.Proofs.YtlagjnlajkmmeaaDoor.One

namespace Go.Proofs.YtlagjnlajkmmeaaDoor.One
open Go.RowKit
open Num (digs valD cutL Ten)

theorem strD_congr {xs ys : List Nat} (h : ∀ i : Nat, xs[i]?.getD 0 = ys[i]?.getD 0) (k : Nat) : strD xs k = strD ys k := by
  induction k with
  | zero => rfl
  | succ k ih => rw [strD, strD, ih, h k]
theorem strD_cons (x : Nat) (r : List Nat) (k : Nat) : strD (x :: r) (k + 1) = strD r k ++ [UInt8.ofNat (48 + x)] := by
  induction k with
  | zero => rfl
  | succ k ih =>
    rw [strD, ih, strD]
    simp
theorem digs_cons_get (n i : Nat) : (digs n)[i]?.getD 0 = (n % 10 :: digs (n / 10))[i]?.getD 0 := by
  by_cases h : n = 0
  · subst h
    rw [Num.digs_zero]
    cases i <;> simp
  · rw [Num.digs_pos h]
theorem strD_digs (n k : Nat) : strD (digs n) (k + 1) = strD (digs (n / 10)) k ++ [UInt8.ofNat (48 + n % 10)] := by
  rw [strD_congr (digs_cons_get n), strD_cons]

theorem dec_step {u : Nat} (h : 10 ≤ u) : Lib.decDigits u = Lib.decDigits (u / 10) ++ [UInt8.ofNat (48 + u % 10)] := by
  rw [Lib.decDigits, dif_neg (by omega)]

theorem dec_str (n : Nat) : Lib.decDigits n = strD (digs n) (max (digs n).length 1) := by
  induction n using Nat.strongRecOn with
  | ind n ih =>
    by_cases h : n < 10
    · rw [Lib.decDigits_one h]
      have hl : (digs n).length ≤ 1 := Num.digs_length_le (by omega)
      rw [show max (digs n).length 1 = 0 + 1 from by omega, strD_digs]
      simp [strD, Nat.mod_eq_of_lt h]
    · rw [dec_step (by omega), ih (n / 10) (by omega)]
      have hn : n ≠ 0 := by omega
      have hq : n / 10 ≠ 0 := by omega
      have hl : (digs n).length = (digs (n / 10)).length + 1 := by rw [Num.digs_pos hn]; simp
      have hl2 : 1 ≤ (digs (n / 10)).length := by rw [Num.digs_pos hq]; simp
      rw [show max (digs n).length 1 = (digs (n / 10)).length + 1 from by omega, strD_digs, show max (digs (n / 10)).length 1 = (digs (n / 10)).length from by omega]
theorem dec_pad (k : Nat) : ∀ r, r < 10 ^ k → Lib.decDigits (10 ^ k + r) = 49 :: strD (digs r) k := by
  induction k with
  | zero =>
    intro r hr
    obtain rfl : r = 0 := by simp at hr; omega
    rw [Nat.pow_zero, Lib.decDigits_one (by decide)]; rfl
  | succ k ih =>
    intro r hr
    have hp : 0 < 10 ^ k := Nat.pow_pos (by decide)
    rw [Nat.pow_succ] at hr ⊢
    rw [dec_step (by omega), show (10 ^ k * 10 + r) / 10 = 10 ^ k + r / 10 from by omega, ih (r / 10) (by omega), strD_digs, show (10 ^ k * 10 + r) % 10 = r % 10 from by omega]
    rfl
theorem pad6 {r : Nat} (h : r < 1000000) : (Lib.decDigits (1000000 + r)).tail = strD (digs r) 6 := by
  have := dec_pad 6 r h
  rw [show (1000000 : Nat) = 10 ^ 6 from rfl, this]; rfl
theorem strD_some (k : Nat) : ∀ r, r < 10 ^ k → r ≠ 0 → ∃ i : Nat, ∃ h : i < (strD (digs r) k).length, (strD (digs r) k)[i] ≠ 48 := by
  induction k with
  | zero => intro r hr h0; simp at hr; omega
  | succ k ih =>
    intro r hr h0
    rw [Nat.pow_succ] at hr
    rw [strD_digs]
    by_cases hz : r % 10 = 0
    · obtain ⟨i, hi, hne⟩ := ih (r / 10) (by omega) (by omega)
      refine ⟨i, by simp; omega, ?_⟩
      rw [List.getElem_append_left hi]; exact hne
    · refine ⟨(strD (digs (r / 10)) k).length, by simp, ?_⟩
      simp only [List.getElem_append_right (Nat.le_refl _), Nat.sub_self, List.getElem_cons_zero]
      intro h
      have := congrArg UInt8.toNat h
      simp at this; omega
end Go.Proofs.YtlagjnlajkmmeaaDoor.One

namespace Go.Proofs.YtlagjnlajkmmeaaDoor.One
open Go.RowKit
open Num (digs valD cutL Ten)

/-- How long a string is. -/
def szOf : Value → Nat
  | .string s => s.size
  | _ => 0

theorem byte_at {s : ByteArray} {l : List UInt8} {k : Nat} (hkk : k < s.size) (hsl : s.data.toList = l.take (k + 1)) : l[k]? = some (s[k]'hkk) := by
  have h1 : s.data.toList[k]? = some (s[k]'hkk) := by
    rw [Array.getElem?_toList]
    exact Array.getElem?_eq_getElem hkk
  rw [hsl, List.getElem?_take_of_lt (by omega)] at h1
  exact h1
theorem trim_more {s : ByteArray} {l : List UInt8} {k i0 : Nat} {b0 : UInt8} (hb0 : l[i0]? = some b0) (hb48 : b0 ≠ 48) (hik : i0 ≤ k) (hsz : s.size = k + 1) (hsl : s.data.toList = l.take (k + 1))
    (hzs : ∀ (j : Nat) (b : UInt8), k + 1 ≤ j → l[j]? = some b → b = 48) (hkk : k < s.size) (h : (((s[k]'hkk).toNat : Int) == 48) = true) :
    ∃ k', k = k' + 1 ∧ i0 ≤ k' ∧ (s.extract 0 k).size = k' + 1 ∧ (s.extract 0 k).data.toList = l.take (k' + 1) ∧ ∀ (j : Nat) (b : UInt8), k' + 1 ≤ j → l[j]? = some b → b = 48 := by
  have hk := byte_at hkk hsl
  have h48 : s[k]'hkk = 48 := by
    apply UInt8.toNat_inj.1
    have := eq_of_beq h
    show (s[k]'hkk).toNat = 48
    omega
  rw [h48] at hk
  have hne : i0 ≠ k := by
    rintro rfl
    rw [hk] at hb0
    exact hb48 (Option.some.inj hb0).symm
  refine ⟨k - 1, by omega, by omega, ?_, ?_, ?_⟩
  · rw [ByteArray.size_extract]; omega
  · rw [ByteArray.data_extract, Array.toList_extract, hsl, List.extract_eq_take_drop]
    rw [show k - 1 + 1 = k from by omega]
    simp [List.take_take]
  · intro j b hj hb
    rcases (show j = k ∨ k + 1 ≤ j from by omega) with rfl | h'
    · rw [hk] at hb; exact (Option.some.inj hb).symm
    · exact hzs j b h' hb
theorem trim_done {s : ByteArray} {l : List UInt8} {k : Nat} (hl : k < l.length) (hsl : s.data.toList = l.take (k + 1))
    (hzs : ∀ (j : Nat) (b : UInt8), k + 1 ≤ j → l[j]? = some b → b = 48) (hkk : k < s.size) (h : (((s[k]'hkk).toNat : Int) == 48) = false) : Lib.trimRightB l 48 = s.data.toList := by
  rw [hsl]
  refine Lib.trimRightB_take l 48 (k + 1) (by omega) hzs (fun b _ hb => ?_)
  rw [show k + 1 - 1 = k from rfl, byte_at hkk hsl] at hb
  have := Option.some.inj hb
  subst this
  intro h2
  rw [h2] at h
  exact absurd h (by decide)
theorem cat_a (q : List UInt8) (s : ByteArray) : (⟨q.toArray⟩ ++ ⟨#[46]⟩ ++ s : ByteArray) = ⟨(q ++ 46 :: s.data.toList).toArray⟩ := by
  apply ByteArray.ext
  simp
theorem cat_b (q : List UInt8) (s : ByteArray) : (⟨#[45]⟩ ++ ⟨q.toArray⟩ ++ ⟨#[46]⟩ ++ s : ByteArray) = ⟨(45 :: (q ++ 46 :: s.data.toList)).toArray⟩ := by
  apply ByteArray.ext
  simp

end Go.Proofs.YtlagjnlajkmmeaaDoor.One
