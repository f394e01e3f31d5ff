/-
strconv.FormatUint at base 10, by its contract, out of the shelf's contracts of its callees.
The program's dec.Text, by its contract.
The program's dec.millionths and dec.Parse, by contracts.
The program's dec.quotient, dec.Mul and dec.Div, by contracts that lean on what bits.Div64 answers.
The law's awake and same, by contracts.
The laws DecBack and DecWholes, walked.
The program's dec.Round, dec.Floor and dec.Mod, by contracts.
The reference's Round, floored, Floor and Mod, by contracts.
The reference's Digits and Text, by contracts.
Digits as texts: what the two sides of the law on texts write. No program in it.
The reference's Text, by its contract.
-/
import Derived.Test.YtlagjnlajkmmeaaGreatDoorOneA
import Derived.Test.YtlagjnlajkmmeaaGreatDoorShelf
import Derived.Lib.ItoaMem
import Derived.Lib.Walk
import Derived.BigCall
import Derived.BigGuard
import Derived.Deep.RegionWith
import Derived.Laws.IdiomStrings
namespace Go.Proofs.YtlagjnlajkmmeaaGreatDoor.One
open Go.RowKit Go.Sort Go.Lib

/-- What the library's functions read of the package-level variables. -/
structure Env (w : World) : Prop where
  tab : Lib.TabIs Tryz.prog w "internal/strconv.uint64pow10" .u64 Lib.pow10Tab
  max : ∃ m : Int, w.cell? ⟨1, 0, none⟩ = some (.int .i64 m)

theorem Env.below {w w' : World} (h : Env w) (hb : Below w.heap.size w w') : Env w' := by
  obtain ⟨ht, m, hm⟩ := h
  refine ⟨?_, m, ?_⟩
  · unfold TabIs World.var? at *
    cases hg : Tryz.prog.globalNamed "internal/strconv.uint64pow10" with
    | none => simp [hg] at ht
    | some g =>
      simp only [hg, Option.bind_some] at ht ⊢
      have hlt : g < w.heap.size := by
        rcases Nat.lt_or_ge g w.heap.size with h' | h'
        · exact h'
        · rw [Array.getElem?_eq_none h'] at ht; simp at ht
      rw [hb.block g hlt]; exact ht
  · rw [hb.cell (World.block_lt_of_cell? w _ hm)]; exact hm

theorem below_grow (w : World) (k : Nat) (os : Array Obj) : Below w.heap.size w (grow (w.drewN k) os) := by
  refine ⟨rfl, rfl, rfl, ?_, fun i hi => ?_⟩
  · show w.heap.size ≤ (w.heap ++ os).size
    simp
  · show (w.heap ++ os)[i]? = _
    rw [Array.getElem?_append_left hi]

set_option maxHeartbeats 6400000 in
set_option maxRecDepth 100000 in
/-- internal/strconv.FormatUint, at base 10. -/
theorem fmtu_any (u : Nat) (hu64 : u < 18446744073709551616) (w : World) (htab : Lib.TabIs Tryz.prog w "internal/strconv.uint64pow10" .u64 Lib.pow10Tab) :
    Calls Tryz.prog 54 #[.int .u64 (u : Int), .int .i64 10] w fun e w' => e = .returned (.string ⟨(Lib.decDigits u).toArray⟩) ∧ Below w.heap.size w w' := by
  by_cases hs : u < 100
  · go_enter Tryz.func54, Tryz.ntmps54
    go_wp2_with (go_at_call 63; go_must (refine (Tryz.internal_strconv_small u hs _).mono ?_); rintro e w' ⟨rfl, rfl⟩)
    go_ret
    exact ⟨rfl, Below.refl _ _⟩
  · have hu1 : 1 ≤ u := by omega
    have hnd20 : Lib.nDigits u ≤ 20 := by have := Lib.numDigits_eq u hu1 hu64; split at this <;> omega
    have hal : Tryz.prog.arrayLen 102 = 24 := by simp [Program.arrayLen, Tryz.underlying102]
    have hsl1 : ∀ W, (Instr.sliceAt 102 (.pointer (some ⟨w.heap.size, 0, none⟩)) none (some (.int .i64 (Lib.nDigits u : Int))) none).run Tryz.prog W = .ok (.slice (some ⟨w.heap.size, 0, none⟩) (Lib.nDigits u) 24) W := fun W => by
      rw [run_sliceAt_array_h W 102 ⟨w.heap.size, 0, none⟩ (by simp [Program.arrayLen, Program.elem, Tryz.underlying102]) .i64 (Lib.nDigits u : Int) (by omega) (by rw [hal]; omega)]
      go_simp
    have hH0 : Holds (fun (b : UInt8) => Value.int .u8 (b.toNat : Int)) (w.alloc (.cells Lib.zeros24 102)) w.heap.size 0 (Array.replicate (Lib.nDigits u) (0 : UInt8)) := fun j hj => by
      have hj' : j < Lib.nDigits u := by simpa using hj
      refine ⟨?_, World.frozen?_alloc_new _ _ _ _⟩
      rw [World.cell?_alloc_new, Lib.zeros24_at _ (by omega), getElem!_pos _ j hj]
      simp
    have hfmt := Tryz.internal_strconv_formatBase10 w.heap.size 0 24 u (Array.replicate (Lib.nDigits u) 0) (w.alloc (.cells Lib.zeros24 102)) hH0 (by rw [Array.size_replicate]; exact Lib.lt_pow_nDigits u) hu64 (by rw [Array.size_replicate]; omega)
    rw [Array.size_replicate] at hfmt
    have HH0 := Lib.hid hH0
    clear hH0 hal
    go_enter Tryz.func54, Tryz.ntmps54
    go_wp2_with (go_at_call 64; go_must (refine (Tryz.internal_strconv_numDigits u hu1 hu64 _ (Lib.tabIs_alloc htab _)).mono ?_); rintro e w' ⟨rfl, rfl⟩)
    refine hfmt.mono ?_
    rintro e w' ⟨rfl, k, v', dk, rfl, hF⟩
    have hcv : (convert 45 9 (.slice (some ⟨w.heap.size, 0, none⟩) (Lib.nDigits u) 24)).run Tryz.prog ((putRow (fun (b : UInt8) => Value.int .u8 (b.toNat : Int)) (w.alloc (.cells Lib.zeros24 102)) w.heap.size 0 dk).drewN k) = .ok (.string ⟨(Lib.decDigits u).toArray⟩) ((putRow (fun (b : UInt8) => Value.int .u8 (b.toNat : Int)) (w.alloc (.cells Lib.zeros24 102)) w.heap.size 0 dk).drewN k) := by
      have h := run_convert_bytes_back (P := Tryz.prog) ((putRow (fun (b : UInt8) => Value.int .u8 (b.toNat : Int)) (w.alloc (.cells Lib.zeros24 102)) w.heap.size 0 dk).drewN k) 45 9 5 ⟨w.heap.size, 0, none⟩ 24 (Lib.decDigits u) Tryz.underlying45 Tryz.underlying5 Tryz.underlying9 (fun j hj => by
        rw [Lib.row_is_numeral hF j hj, Lib.add_plain, World.cell?_drewN]
        exact cell?_putRow (fun (b : UInt8) => Value.int .u8 (b.toNat : Int)) _ w.heap.size 0 _ dk HH0.out (by rw [hF.size, Array.size_replicate]) j (by rw [hF.size]; rw [Lib.decDigits_length] at hj; exact hj))
      rw [Lib.decDigits_length] at h
      exact h
    go_wp2
    go_ret
    refine ⟨rfl, ?_⟩
    rw [alloc_eq_grow]
    obtain ⟨os', _, e⟩ := putRow_grow_new (fun (b : UInt8) => Value.int .u8 (b.toNat : Int)) w #[.cells Lib.zeros24 102] w.heap.size 0 dk (Nat.le_refl _)
    rw [e]
    exact below_grow w k os'

/-- strconv.FormatUint, at base 10. -/
theorem formatUint (u : Nat) (hu64 : u < 18446744073709551616) (w : World) (hE : Env w) :
    Calls Tryz.prog 42 #[.int .u64 (u : Int), .int .i64 10] w fun e w' => e = .returned (.string ⟨(Lib.decDigits u).toArray⟩) ∧ Below w.heap.size w w' := by
  have h0 := fmtu_any u hu64 w hE.tab
  go_enter Tryz.func42, Tryz.ntmps42
  go_wp2_with (go_at_call 54; go_must (refine h0.mono ?_); rintro e w' ⟨rfl, hb⟩)
  go_ret
  exact ⟨rfl, hb⟩
theorem formatUint_z (z : Int) (u : Nat) (hz : z = (u : Int)) (hu64 : u < 18446744073709551616) (w : World) (hE : Env w) :
    Calls Tryz.prog 42 #[.int .u64 z, .int .i64 10] w fun e w' => e = .returned (.string ⟨(Lib.decDigits u).toArray⟩) ∧ Below w.heap.size w w' := by
  subst hz; exact formatUint u hu64 w hE
end Go.Proofs.YtlagjnlajkmmeaaGreatDoor.One

namespace Go.Proofs.YtlagjnlajkmmeaaGreatDoor.One
open Go.RowKit

/-- A number's text. -/
def textL (z : Int) : List UInt8 :=
  let n := z.natAbs
  let t := Lib.decDigits (n / 1000000)
  let t2 := if n % 1000000 = 0 then t else t ++ 46 :: Lib.trimRightB (Lib.decDigits (1000000 + n % 1000000)).tail 48
  if z < 0 then 45 :: t2 else t2

theorem ba_app (a b : List UInt8) : (⟨a.toArray⟩ ++ ⟨b.toArray⟩ : ByteArray) = ⟨(a ++ b).toArray⟩ := by
  apply ByteArray.ext
  simp
theorem ret_str {a b : ByteArray} (h : a = b) : Ending.returned (.string a) = .returned (.string b) := by rw [h]
theorem dec_len {u : Nat} (h : u < 18446744073709551616) : (Lib.decDigits u).length ≤ 20 := by
  rw [Lib.decDigits_length]
  by_cases h1 : 1 ≤ u
  · have := Lib.numDigits_eq u h1 h; split at this <;> omega
  · rw [Lib.nDigits_small (by omega)]; omega
theorem trimRight_len (l : List UInt8) (c : UInt8) : (Lib.trimRightB l c).length ≤ l.length := by
  unfold Lib.trimRightB
  rw [List.length_reverse]
  have := (List.dropWhile_sublist (fun x => x == c) (l := l.reverse)).length_le
  simpa using this

theorem str_a (q tr : List UInt8) : (⟨q.toArray⟩ ++ (⟨#[46]⟩ ++ ⟨tr.toArray⟩) : ByteArray) = ⟨(q ++ 46 :: tr).toArray⟩ := by
  apply ByteArray.ext
  simp
theorem str_b (q tr : List UInt8) : (⟨#[45]⟩ ++ (⟨q.toArray⟩ ++ (⟨#[46]⟩ ++ ⟨tr.toArray⟩)) : ByteArray) = ⟨(45 :: (q ++ 46 :: tr)).toArray⟩ := by
  apply ByteArray.ext
  simp
theorem ba_tail (l : List UInt8) (n : Nat) (h : l.length = n) : (⟨l.toArray⟩ : ByteArray).extract 1 n = ⟨l.tail.toArray⟩ := by
  apply ByteArray.ext
  simp [ByteArray.data_extract, ← h, List.extract_eq_take_drop, List.take_of_length_le]
theorem textL_frac {z : Int} {n q r : Nat} {pd : List UInt8} (hn : z.natAbs = n) (hq : n / 1000000 = q) (hr : n % 1000000 = r) (hp : Lib.decDigits (1000000 + r) = pd) (h0 : r ≠ 0) :
    textL z = if z < 0 then 45 :: (Lib.decDigits q ++ 46 :: Lib.trimRightB pd.tail 48) else Lib.decDigits q ++ 46 :: Lib.trimRightB pd.tail 48 := by
  subst hn hq hr hp
  unfold textL
  simp only [if_neg h0]

set_option maxRecDepth 20000 in
set_option maxHeartbeats 1000000 in
/-- dec.Text. -/
theorem text_any (z : Int) (hz : I64 z) (w : World) (hE : Env w) :
    Calls Tryz.prog 30 #[.int .i64 z] w fun e w' => e = .returned (.string ⟨(textL z).toArray⟩) ∧ Below w.heap.size w w' := by
  obtain ⟨n, hn⟩ : ∃ n, z.natAbs = n := ⟨_, rfl⟩
  have hn63 : n ≤ 9223372036854775808 := by unfold I64 at hz; omega
  obtain ⟨q, hq⟩ : ∃ q, n / 1000000 = q := ⟨_, rfl⟩
  obtain ⟨r, hr⟩ : ∃ r, n % 1000000 = r := ⟨_, rfl⟩
  have hql := dec_len (u := q) (by omega)
  have hq' : (n : Int) / 1000000 = (q : Int) := by omega
  have hr' : (n : Int) % 1000000 = (r : Int) := by omega
  have hsz := fun w => size_any z hz w
  rw [hn] at hsz
  have hr6 : r < 1000000 := by omega
  have hq64 : q < 18446744073709551616 := by omega
  have HN := Lib.hid hn; clear hn
  have HQ := Lib.hid hq; clear hq
  have HR := Lib.hid hr; clear hr
  by_cases hr0 : r = 0
  · subst hr0
    go_enter Tryz.func30, Tryz.ntmps30
    go_wp2_with (first
      | (go_at_call 41; go_must (refine (hsz _).mono ?_); rintro e w' ⟨rfl, rfl⟩)
      | (go_at_call 42; go_must (refine (formatUint q hq64 _ hE).mono ?_); rintro e w1 ⟨rfl, hb1⟩))
    · go_ret
      refine ⟨ret_str ?_, hb1⟩
      unfold textL
      rw [if_pos (by assumption), HN.out, HQ.out, HR.out]
      exact ba_app [45] _
    · have hz0 : ¬ z < 0 := by omega
      go_ret
      refine ⟨ret_str ?_, hb1⟩
      unfold textL
      rw [if_neg hz0, HN.out, HQ.out, HR.out]
      rfl
  · have hb2 : ((r : Int) == 0) = false := by rw [beq_eq_false_iff_ne]; omega
    have hb3 : ((r : Int) != 0) = true := by rw [bne_iff_ne]; omega
    have hlp := dec_len (u := 1000000 + r) (by omega)
    obtain ⟨pd, hpd⟩ : ∃ pd, Lib.decDigits (1000000 + r) = pd := ⟨_, rfl⟩
    have hpl : pd.length = 7 := by rw [← hpd, Lib.decDigits_length]; exact Lib.nDigits_unique 6 _ (by omega) (by omega)
    have HPD := Lib.hid hpd; clear hpd
    go_enter Tryz.func30, Tryz.ntmps30
    go_wp2_with (first
      | (go_at_call 41; go_must (refine (hsz _).mono ?_); rintro e w' ⟨rfl, rfl⟩)
      | (go_at_call_of 42 ((q : Nat) : Int); go_must (refine (formatUint q hq64 _ hE).mono ?_); rintro e w1 ⟨rfl, hb1⟩))
    refine (formatUint_z _ (1000000 + r) (by omega) (by omega) _ (hE.below hb1)).mono ?_; rintro e w2 ⟨rfl, hb2⟩
    rw [HPD.out]
    have hb12 := hb1.trans (hb2.mono hb1.size)
    go_wp2_with fail
    rw [ba_tail pd 7 hpl]
    have htl := trimRight_len pd.tail 48
    have hpt : pd.tail.length = 6 := by simp [hpl]
    have htr := Tryz.strings_TrimRight_one ⟨pd.tail.toArray⟩ 48 (by decide) w2 (by show pd.tail.toArray.size ≤ _; simp; omega)
    obtain ⟨tr, htre⟩ : ∃ tr, Lib.trimRightB pd.tail 48 = tr := ⟨_, rfl⟩
    rw [show (⟨pd.tail.toArray⟩ : ByteArray).data.toList = pd.tail from rfl, htre] at htr
    rw [htre] at htl
    have htr6 : tr.length ≤ 6 := by omega
    have HTR := Lib.hid htre; clear htre
    go_must (refine htr.mono ?_); rintro e w3 ⟨rfl, rfl⟩
    have hfin := textL_frac HN.out HQ.out HR.out HPD.out hr0
    rw [HTR.out] at hfin
    have HF := Lib.hid hfin; clear hfin htr
    go_wp2
    · go_ret
      refine ⟨ret_str ?_, hb12⟩
      rw [HF.out, if_pos (by assumption)]; exact str_b _ _
    · have hz0 : ¬ z < 0 := by omega
      go_ret
      refine ⟨ret_str ?_, hb12⟩
      rw [HF.out, if_neg hz0]; exact str_a _ _
end Go.Proofs.YtlagjnlajkmmeaaGreatDoor.One

namespace Go.Proofs.YtlagjnlajkmmeaaGreatDoor.One
open Go.RowKit

/-- One digit more of a count of millionths. -/
def milStep (n : Option Nat) (c : UInt8) : Option Nat :=
  match n with
  | none => none
  | some v => if c.toNat < 48 ∨ 57 < c.toNat ∨ 922337203685477580 < v then none else some (v * 10 + (c.toNat - 48))
def milF (l : List UInt8) : Option Nat := l.foldl milStep (some 0)
theorem milF_snoc (l : List UInt8) (c : UInt8) : milF (l ++ [c]) = milStep (milF l) c := by simp [milF]
theorem milF_none_take {l : List UInt8} {k : Nat} (h : milF (l.take k) = none) : milF l = none := by
  have : l = l.take k ++ l.drop k := (List.take_append_drop k l).symm
  rw [this]
  unfold milF at *
  rw [List.foldl_append, h]
  generalize l.drop k = r
  induction r with
  | nil => rfl
  | cons c r ih => simpa [milStep] using ih

/-- What millionths reads. -/
def milChars (a b : List UInt8) : List UInt8 := a ++ b ++ List.replicate (6 - b.length) 48

/-- What millionths answers. -/
def milAns (o : Option Nat) : Ending := match o with
  | some v => .returned (.tuple #[.int .u64 (v : Int), .bool true])
  | none => .returned (.tuple #[.int .u64 0, .bool false])

theorem mil_good {o : Option Nat} {v : Nat} {c : UInt8} {n : Nat} (h : o = milStep (some v) c) (hc : c.toNat = n) (h1 : 48 ≤ n) (h2 : n ≤ 57) (h3 : v ≤ 922337203685477580) : o = some (v * 10 + (n - 48)) := by
  subst hc
  rw [h, milStep, if_neg (by omega)]
theorem mil_bad {o : Option Nat} {v : Nat} {c : UInt8} {n : Nat} (h : o = milStep (some v) c) (hc : c.toNat = n) (h1 : n < 48 ∨ 57 < n ∨ 922337203685477580 < v) : o = none := by
  subst hc
  rw [h, milStep, if_pos (by omega)]

/-- What Parse answers. -/
def parseOf (neg : Bool) (wh fr : List UInt8) (pt : Bool) : Int × Bool :=
  if wh = [] ∨ 6 < fr.length ∨ (pt = true ∧ fr = []) then (0, false)
  else match milF (milChars wh fr) with
    | none => (0, false)
    | some v => ((toI (sgn neg v)).1, (toI (sgn neg v)).2 == 0)
def parseL (l : List UInt8) : Int × Bool :=
  let u := Lib.trimPrefix l [45]
  parseOf (Lib.hasPrefix l [45]) (Lib.cut u [46]).1 (Lib.cut u [46]).2.1 (Lib.cut u [46]).2.2

theorem milF_bound {l : List UInt8} {v : Nat} (h : milF l = some v) : v ≤ 9223372036854775809 := by
  have gen : ∀ (l : List UInt8) (o : Option Nat), (∀ x, o = some x → x ≤ 9223372036854775809) → ∀ v, l.foldl milStep o = some v → v ≤ 9223372036854775809 := by
    intro l
    induction l with
    | nil => intro o ho v hv; exact ho v hv
    | cons c l ih =>
      intro o ho v hv
      refine ih (milStep o c) ?_ v hv
      intro x hx
      cases o with
      | none => simp [milStep] at hx
      | some y =>
        simp only [milStep] at hx
        split at hx
        · cases hx
        · have := Option.some.inj hx
          omega
  exact gen l (some 0) (by intro x hx; have := Option.some.inj hx; omega) v h

theorem ret_ib {k : IntKind} {a b : Int} {x y : Bool} (h : a = b) (h' : x = y) : Ending.returned (.tuple #[.int k a, .bool x]) = .returned (.tuple #[.int k b, .bool y]) := by rw [h, h']

end Go.Proofs.YtlagjnlajkmmeaaGreatDoor.One

namespace Go.Proofs.YtlagjnlajkmmeaaGreatDoor.One
open Go.RowKit

/-- Half up. -/
def rnd (a b : Nat) : Nat := a / b + if b ≤ 2 * (a % b) then 1 else 0

end Go.Proofs.YtlagjnlajkmmeaaGreatDoor.One

namespace Go.Proofs.YtlagjnlajkmmeaaGreatDoor.One
open Go.RowKit

theorem parse_awake : parseL [49, 46, 53, 48] = (1500000, true) := by decide +kernel
theorem text_awake : textL 1500000 = [49, 46, 53] := by decide +kernel

theorem toI_i64 (z : Int) : I64 (toI z).1 ∧ I64 (toI z).2 := by
  unfold toI
  split
  · rename_i h; exact ⟨h, i64_zero⟩
  · exact ⟨i64_zero, by unfold I64; omega⟩
end Go.Proofs.YtlagjnlajkmmeaaGreatDoor.One

namespace Go.Proofs.YtlagjnlajkmmeaaGreatDoor.One
open Go.RowKit
open Num (digs valD cutL Ten)

theorem toI_in {z : Int} (h : I64 z) : toI z = (z, 0) := toI_of (.inl ⟨h, rfl, rfl⟩)
theorem toI_out {z : Int} (h : ¬ I64 z) : toI z = (0, 31) := toI_of (.inr ⟨h, rfl, rfl⟩)

/-- What comes back where no error was told. -/
theorem back_cases {s a : Int} (f : Int → Int) (ha : I64 a) (hf : f s = a) : ∃ x e z g : Int, toI s = (x, e) ∧ toI (f x) = (z, g) ∧ I64 x ∧ ((e = 0 ∧ z = a ∧ g = 0) ∨ (e = 31)) := by
  by_cases h : I64 s
  · exact ⟨s, 0, a, 0, toI_in h, by rw [hf]; exact toI_in ha, h, .inl ⟨rfl, rfl, rfl⟩⟩
  · exact ⟨0, 31, _, _, toI_out h, rfl, i64_zero, .inr rfl⟩

theorem digs_len_mul {a b k l : Nat} (ha : (digs a).length ≤ k) (hb : (digs b).length ≤ l) : (digs (a * b)).length ≤ k + l := by
  refine Num.digs_length_le ?_
  have h1 := Num.valD_lt (Num.digs_ten a); rw [Num.valD_digs] at h1
  have h2 := Num.valD_lt (Num.digs_ten b); rw [Num.valD_digs] at h2
  have h3 := Nat.lt_of_lt_of_le h1 (Nat.pow_le_pow_right (show 0 < 10 by decide) ha)
  have h4 := Nat.lt_of_lt_of_le h2 (Nat.pow_le_pow_right (show 0 < 10 by decide) hb)
  rw [Nat.pow_add]
  exact Nat.mul_lt_mul'' h3 h4
theorem sgn_mul (z : Int) (k : Nat) : sgn (decide (z < 0)) (z.natAbs * k) = z * (k : Int) := by
  unfold sgn
  by_cases h : z < 0
  · simp only [h, decide_true, if_true, Int.natCast_mul]
    rw [← Int.neg_mul]
    congr 1
    omega
  · simp only [h, decide_false, Int.natCast_mul]
    rw [if_neg (by simp)]
    congr 1
    omega
theorem mil_len : (digs 1000000).length ≤ 7 := Num.digs_length_le (by decide)

end Go.Proofs.YtlagjnlajkmmeaaGreatDoor.One

namespace Go.Proofs.YtlagjnlajkmmeaaGreatDoor.One
open Go.RowKit

/-- How many places are rounded away. -/
def away (p : Int) : Nat := (6 - min (max p 0) 6).toNat
theorem away_le (p : Int) : away p ≤ 6 := by unfold away; omega
theorem pow_le (k : Nat) (h : k ≤ 6) : 10 ^ k ≤ 1000000 ∧ 0 < 10 ^ k := ⟨Nat.pow_le_pow_right (by decide) h, Nat.pow_pos (by decide)⟩

theorem rnd_mul (n u : Nat) : rnd n u * u = (n - n % u) + if u ≤ 2 * (n % u) then u else 0 := by
  unfold rnd
  have h := Nat.div_add_mod n u
  rw [Nat.add_mul, Nat.mul_comm (n / u) u]
  split <;> omega

theorem tmod_sgn (a b : Int) : a.tmod b = sgn (decide (a < 0)) (a.natAbs % b.natAbs) := by
  have hb : a.tmod b = a.tmod (b.natAbs : Int) := by
    rcases Int.natAbs_eq b with h | h
    · rw [← h]
    · conv => lhs; rw [h]
      rw [Int.tmod_neg]
  rw [hb]
  unfold sgn
  by_cases h : a < 0
  · simp only [h, decide_true, if_true]
    have e : a = -((a.natAbs : Nat) : Int) := by omega
    conv => lhs; rw [e]
    rw [Int.neg_tmod, Int.ofNat_tmod]
  · simp only [h, decide_false]
    rw [if_neg (by simp)]
    have e : a = ((a.natAbs : Nat) : Int) := by omega
    conv => lhs; rw [e]
    rw [Int.ofNat_tmod]
theorem tmod_mil (a : Int) : -1000000 < a.tmod 1000000 ∧ (a.tmod 1000000 < 0 → a.tmod 1000000 + 1000000 = a % 1000000) ∧ (¬ a.tmod 1000000 < 0 → a.tmod 1000000 = a % 1000000) := by
  rw [tmod_sgn]
  unfold sgn
  have h1 : (1000000 : Int).natAbs = 1000000 := rfl
  rw [h1]
  by_cases h : a < 0 <;> simp [h] <;> omega

/-- What is left of a by b, with the sign of b. -/
def fm (a b : Int) : Int := if a.tmod b ≠ 0 ∧ ¬ (a.tmod b < 0 ↔ b < 0) then a.tmod b + b else a.tmod b

end Go.Proofs.YtlagjnlajkmmeaaGreatDoor.One

namespace Go.Proofs.YtlagjnlajkmmeaaGreatDoor.One
open Go.RowKit
open Num (digs valD cutL Ten)

theorem rnd_len {a b k : Nat} (ha : (digs a).length ≤ k) : (digs (rnd a b)).length ≤ k + 1 := by
  have h1 := Num.valD_lt (Num.digs_ten a); rw [Num.valD_digs] at h1
  have h2 := Nat.lt_of_lt_of_le h1 (Nat.pow_le_pow_right (show 0 < 10 by decide) ha)
  refine Num.digs_length_le ?_
  unfold rnd
  have := Nat.div_le_self a b
  rw [Nat.pow_succ]
  split <;> omega

end Go.Proofs.YtlagjnlajkmmeaaGreatDoor.One

namespace Go.Proofs.YtlagjnlajkmmeaaGreatDoor.One
open Go.RowKit
open Num (digs valD cutL Ten)

/-- The k lowest digits, the greatest first, as bytes. -/
def strD (xs : List Nat) : Nat → List UInt8
  | 0 => []
  | k + 1 => UInt8.ofNat (48 + xs[k]?.getD 0) :: strD xs k
theorem strD_length (xs : List Nat) (k : Nat) : (strD xs k).length = k := by
  induction k with
  | zero => rfl
  | succ k ih => simp [strD, ih]

theorem conv1 (w : World) (d : Nat) (hd : d < 10) : (convert 45 9 (.slice (some ⟨w.heap.size, 0, none⟩) 1 1)).run Tryz.prog (w.alloc (.cells #[.int .u8 (48 + (d : Int))] 5)) = .ok (.string ⟨#[UInt8.ofNat (48 + d)]⟩) (w.alloc (.cells #[.int .u8 (48 + (d : Int))] 5)) := by
  refine run_convert_bytes_back (P := Tryz.prog) _ 45 9 5 ⟨w.heap.size, 0, none⟩ 1 [UInt8.ofNat (48 + d)] Tryz.underlying45 Tryz.underlying5 Tryz.underlying9 (fun j hj => ?_)
  obtain rfl : j = 0 := by simp at hj; omega
  have h0 : (w.alloc (.cells #[.int .u8 (48 + (d : Int))] 5)).heap[w.heap.size]? = some (.cells #[.int .u8 (48 + (d : Int))] 5 (0, 0)) := heap_alloc_new w _
  rw [show (Addr.add ⟨w.heap.size, 0, none⟩ 0) = ⟨w.heap.size, 0, none⟩ from rfl, cell_of_row _ _ 0 _ _ _ h0]
  have e : ((UInt8.ofNat (48 + d)).toNat : Int) = 48 + (d : Int) := by
    simp; omega
  show some (Value.int .u8 (48 + (d : Int))) = some (Value.int .u8 ((UInt8.ofNat (48 + d)).toNat : Int))
  rw [e]
theorem strD_succ (xs : List Nat) (k d : Nat) (h : xs[k]?.getD 0 = d) : (⟨#[UInt8.ofNat (48 + d)]⟩ ++ ⟨(strD xs k).toArray⟩ : ByteArray) = ⟨(strD xs (k + 1)).toArray⟩ := by
  rw [strD, h]; exact ba_app [UInt8.ofNat (48 + d)] _

set_option maxRecDepth 20000 in
set_option maxHeartbeats 4000000 in
/-- ref.Digits. -/
theorem digits_any (w : World) (v : Value) (xs : List Nat) (h : Rd w v xs) (tx : Ten xs) (hb : xs.length ≤ 100) (least : Nat) (hl : least ≤ 100) :
    Calls Tryz.prog 37 #[v, .int .i64 (least : Int)] w fun e w' => e = .returned (.string ⟨(strD xs (max xs.length least)).toArray⟩) ∧ Below w.heap.size w w' := by
  obtain ⟨n, hn⟩ : ∃ n, xs.length = n := ⟨_, rfl⟩
  obtain ⟨p, c, rfl⟩ := h.lens hn.symm
  go_enter Tryz.func37, Tryz.ntmps37
  go_wp2
  go_loopw [5, 6] (fun sv iv wr => ∃ k : Nat, sv = .string ⟨(strD xs k).toArray⟩ ∧ iv = .int .i64 (k : Int) ∧ k ≤ max n least ∧ Below w.heap.size w wr)
    (fun _ i _ => max n least - (intOf i).toNat)
  case atStart => exact ⟨0, rfl, rfl, by omega, Below.refl _ _⟩
  case round =>
    obtain ⟨k, rfl, rfl, hk, hbel⟩ := hrel
    have hsz := hbel.size
    have hw : Rd wr _ xs := h.below hbel
    obtain ⟨d, hd⟩ : ∃ d, xs[k]?.getD 0 = d := ⟨_, rfl⟩
    have hd9 : d < 10 := by rw [← hd]; exact tx.getD k
    have hlen := strD_length xs k
    have HD := Lib.hid hd
    have hcv := conv1 wr d hd9
    have hba := strD_succ xs k d hd
    obtain ⟨bb, hbb⟩ : ∃ b, UInt8.ofNat (48 + d) = b := ⟨_, rfl⟩
    rw [hbb] at hcv hba
    have HBA := Lib.hid hba
    clear hd hbb hba
    rcases (show k < n ∨ (n ≤ k ∧ k < least) ∨ (n ≤ k ∧ least ≤ k) from by omega) with hgo | ⟨hgo, hgo'⟩ | ⟨hgo, hgo'⟩
    · have hkm : k < max n least := by omega
      go_wp2_with fail
      go_must (refine (digit_any _ _ xs hw (by omega) k d HD.out (by omega)).mono ?_); rintro e w' ⟨rfl, rfl⟩
      go_wp2
      go_roundw
      case rel => exact ⟨k + 1, by rw [HBA.out], by go_num, by omega, hbel.alloc hsz _⟩
      case measure => simp [intOf]; omega
    · have hkm : k < max n least := by omega
      go_wp2_with fail
      go_must (refine (digit_any _ _ xs hw (by omega) k d HD.out (by omega)).mono ?_); rintro e w' ⟨rfl, rfl⟩
      go_wp2
      go_roundw
      case rel => exact ⟨k + 1, by rw [HBA.out], by go_num, by omega, hbel.alloc hsz _⟩
      case measure => simp [intOf]; omega
    · obtain rfl : k = max n least := by omega
      go_wp2
      go_ret
      subst hn
      exact ⟨rfl, hbel⟩
end Go.Proofs.YtlagjnlajkmmeaaGreatDoor.One

namespace Go.Proofs.YtlagjnlajkmmeaaGreatDoor.One
open Go.RowKit
open Num (digs valD cutL Ten)

theorem strD_congr {xs ys : List Nat} (h : ∀ i : Nat, xs[i]?.getD 0 = ys[i]?.getD 0) (k : Nat) : strD xs k = strD ys k := by
  induction k with
  | zero => rfl
  | succ k ih => rw [strD, strD, ih, h k]
theorem strD_cons (x : Nat) (r : List Nat) (k : Nat) : strD (x :: r) (k + 1) = strD r k ++ [UInt8.ofNat (48 + x)] := by
  induction k with
  | zero => rfl
  | succ k ih =>
    rw [strD, ih, strD]
    simp
theorem digs_cons_get (n i : Nat) : (digs n)[i]?.getD 0 = (n % 10 :: digs (n / 10))[i]?.getD 0 := by
  by_cases h : n = 0
  · subst h
    rw [Num.digs_zero]
    cases i <;> simp
  · rw [Num.digs_pos h]
theorem strD_digs (n k : Nat) : strD (digs n) (k + 1) = strD (digs (n / 10)) k ++ [UInt8.ofNat (48 + n % 10)] := by
  rw [strD_congr (digs_cons_get n), strD_cons]

theorem dec_step {u : Nat} (h : 10 ≤ u) : Lib.decDigits u = Lib.decDigits (u / 10) ++ [UInt8.ofNat (48 + u % 10)] := by
  rw [Lib.decDigits, dif_neg (by omega)]

theorem dec_str (n : Nat) : Lib.decDigits n = strD (digs n) (max (digs n).length 1) := by
  induction n using Nat.strongRecOn with
  | ind n ih =>
    by_cases h : n < 10
    · rw [Lib.decDigits_one h]
      have hl : (digs n).length ≤ 1 := Num.digs_length_le (by omega)
      rw [show max (digs n).length 1 = 0 + 1 from by omega, strD_digs]
      simp [strD, Nat.mod_eq_of_lt h]
    · rw [dec_step (by omega), ih (n / 10) (by omega)]
      have hn : n ≠ 0 := by omega
      have hq : n / 10 ≠ 0 := by omega
      have hl : (digs n).length = (digs (n / 10)).length + 1 := by rw [Num.digs_pos hn]; simp
      have hl2 : 1 ≤ (digs (n / 10)).length := by rw [Num.digs_pos hq]; simp
      rw [show max (digs n).length 1 = (digs (n / 10)).length + 1 from by omega, strD_digs, show max (digs (n / 10)).length 1 = (digs (n / 10)).length from by omega]
theorem dec_pad (k : Nat) : ∀ r, r < 10 ^ k → Lib.decDigits (10 ^ k + r) = 49 :: strD (digs r) k := by
  induction k with
  | zero =>
    intro r hr
    obtain rfl : r = 0 := by simp at hr; omega
    rw [Nat.pow_zero, Lib.decDigits_one (by decide)]; rfl
  | succ k ih =>
    intro r hr
    have hp : 0 < 10 ^ k := Nat.pow_pos (by decide)
    rw [Nat.pow_succ] at hr ⊢
    rw [dec_step (by omega), show (10 ^ k * 10 + r) / 10 = 10 ^ k + r / 10 from by omega, ih (r / 10) (by omega), strD_digs, show (10 ^ k * 10 + r) % 10 = r % 10 from by omega]
    rfl
theorem pad6 {r : Nat} (h : r < 1000000) : (Lib.decDigits (1000000 + r)).tail = strD (digs r) 6 := by
  have := dec_pad 6 r h
  rw [show (1000000 : Nat) = 10 ^ 6 from rfl, this]; rfl
theorem strD_some (k : Nat) : ∀ r, r < 10 ^ k → r ≠ 0 → ∃ i : Nat, ∃ h : i < (strD (digs r) k).length, (strD (digs r) k)[i] ≠ 48 := by
  induction k with
  | zero => intro r hr h0; simp at hr; omega
  | succ k ih =>
    intro r hr h0
    rw [Nat.pow_succ] at hr
    rw [strD_digs]
    by_cases hz : r % 10 = 0
    · obtain ⟨i, hi, hne⟩ := ih (r / 10) (by omega) (by omega)
      refine ⟨i, by simp; omega, ?_⟩
      rw [List.getElem_append_left hi]; exact hne
    · refine ⟨(strD (digs (r / 10)) k).length, by simp, ?_⟩
      simp only [List.getElem_append_right (Nat.le_refl _), Nat.sub_self, List.getElem_cons_zero]
      intro h
      have := congrArg UInt8.toNat h
      simp at this; omega
end Go.Proofs.YtlagjnlajkmmeaaGreatDoor.One

namespace Go.Proofs.YtlagjnlajkmmeaaGreatDoor.One
open Go.RowKit
open Num (digs valD cutL Ten)

/-- How long a string is. -/
def szOf : Value → Nat
  | .string s => s.size
  | _ => 0

theorem byte_at {s : ByteArray} {l : List UInt8} {k : Nat} (hkk : k < s.size) (hsl : s.data.toList = l.take (k + 1)) : l[k]? = some (s[k]'hkk) := by
  have h1 : s.data.toList[k]? = some (s[k]'hkk) := by
    rw [Array.getElem?_toList]
    exact Array.getElem?_eq_getElem hkk
  rw [hsl, List.getElem?_take_of_lt (by omega)] at h1
  exact h1
theorem trim_more {s : ByteArray} {l : List UInt8} {k i0 : Nat} {b0 : UInt8} (hb0 : l[i0]? = some b0) (hb48 : b0 ≠ 48) (hik : i0 ≤ k) (hsz : s.size = k + 1) (hsl : s.data.toList = l.take (k + 1))
    (hzs : ∀ (j : Nat) (b : UInt8), k + 1 ≤ j → l[j]? = some b → b = 48) (hkk : k < s.size) (h : (((s[k]'hkk).toNat : Int) == 48) = true) :
    ∃ k', k = k' + 1 ∧ i0 ≤ k' ∧ (s.extract 0 k).size = k' + 1 ∧ (s.extract 0 k).data.toList = l.take (k' + 1) ∧ ∀ (j : Nat) (b : UInt8), k' + 1 ≤ j → l[j]? = some b → b = 48 := by
  have hk := byte_at hkk hsl
  have h48 : s[k]'hkk = 48 := by
    apply UInt8.toNat_inj.1
    have := eq_of_beq h
    show (s[k]'hkk).toNat = 48
    omega
  rw [h48] at hk
  have hne : i0 ≠ k := by
    rintro rfl
    rw [hk] at hb0
    exact hb48 (Option.some.inj hb0).symm
  refine ⟨k - 1, by omega, by omega, ?_, ?_, ?_⟩
  · rw [ByteArray.size_extract]; omega
  · rw [ByteArray.data_extract, Array.toList_extract, hsl, List.extract_eq_take_drop]
    rw [show k - 1 + 1 = k from by omega]
    simp [List.take_take]
  · intro j b hj hb
    rcases (show j = k ∨ k + 1 ≤ j from by omega) with rfl | h'
    · rw [hk] at hb; exact (Option.some.inj hb).symm
    · exact hzs j b h' hb
theorem trim_done {s : ByteArray} {l : List UInt8} {k : Nat} (hl : k < l.length) (hsl : s.data.toList = l.take (k + 1))
    (hzs : ∀ (j : Nat) (b : UInt8), k + 1 ≤ j → l[j]? = some b → b = 48) (hkk : k < s.size) (h : (((s[k]'hkk).toNat : Int) == 48) = false) : Lib.trimRightB l 48 = s.data.toList := by
  rw [hsl]
  refine Lib.trimRightB_take l 48 (k + 1) (by omega) hzs (fun b _ hb => ?_)
  rw [show k + 1 - 1 = k from rfl, byte_at hkk hsl] at hb
  have := Option.some.inj hb
  subst this
  intro h2
  rw [h2] at h
  exact absurd h (by decide)
theorem cat_a (q : List UInt8) (s : ByteArray) : (⟨q.toArray⟩ ++ ⟨#[46]⟩ ++ s : ByteArray) = ⟨(q ++ 46 :: s.data.toList).toArray⟩ := by
  apply ByteArray.ext
  simp
theorem cat_b (q : List UInt8) (s : ByteArray) : (⟨#[45]⟩ ++ ⟨q.toArray⟩ ++ ⟨#[46]⟩ ++ s : ByteArray) = ⟨(45 :: (q ++ 46 :: s.data.toList)).toArray⟩ := by
  apply ByteArray.ext
  simp

theorem digits_one (w : World) (v : Value) (q : Nat) (h : Rd w v (digs q)) (hb : (digs q).length ≤ 100) :
    Calls Tryz.prog 37 #[v, .int .i64 1] w fun e w' => e = .returned (.string ⟨(Lib.decDigits q).toArray⟩) ∧ Below w.heap.size w w' := by
  rw [dec_str q]
  exact digits_any w v (digs q) h (Num.digs_ten _) hb 1 (by decide)
theorem digits_six (w : World) (v : Value) (xs : List Nat) (h : Rd w v xs) (tx : Ten xs) (hb : xs.length ≤ 6) :
    Calls Tryz.prog 37 #[v, .int .i64 6] w fun e w' => e = .returned (.string ⟨(strD xs 6).toArray⟩) ∧ Below w.heap.size w w' := by
  have := digits_any w v xs h tx (by omega) 6 (by decide)
  rw [show max xs.length 6 = 6 from by omega] at this
  exact this

set_option maxRecDepth 20000 in
set_option maxHeartbeats 4000000 in
/-- ref.Text: no fraction. -/
theorem rtext_whole (z : Int) (hz : I64 z) (m : Bool) (n : Nat) (hm : decide (z < 0) = m) (hn : z.natAbs = n) (h0 : n % 1000000 = 0) (w : World) :
    Calls Tryz.prog 23 #[.int .i64 z] w fun e w' => e = .returned (.string ⟨((if m then [45] else []) ++ Lib.decDigits (n / 1000000)).toArray⟩) ∧ Below w.heap.size w w' := by
  have la := len_int z hz
  have lm := mil_len
  have fa := fun w => from_any z hz.1 hz.2 w
  have hof := fun w => of_z (1000000 : Int) 1000000 rfl (by decide) w
  rw [hm, hn] at fa
  rw [hn] at la
  have lq := Nat.le_trans (Num.digs_length_mono (Nat.div_le_self n 1000000)) la
  have hql := dec_len (u := n / 1000000) (by unfold I64 at hz; omega)
  obtain ⟨q, hq0⟩ : ∃ q, n / 1000000 = q := ⟨_, rfl⟩
  rw [hq0] at lq hql ⊢
  have HQ := Lib.hid hq0
  clear hq0
  have H0 := Lib.hid h0; clear h0 hm hn
  go_enter Tryz.func23, Tryz.ntmps23
  go_wp2_with fail
  go_must (refine (fa _).mono ?_); rintro e w1 ⟨v1, rfl, hown1, hbel1⟩
  obtain ⟨p1, c1, rfl⟩ := hown1.lens rfl
  go_wp2
  go_region_held3 (fun w' => w'.cell? ⟨w1.heap.size, 0, none⟩ = some (.bool m) ∧ w'.cell? ⟨w1.heap.size, 1, none⟩ = some (.slice p1 (digs n).length c1))
    (first | exact S4 | exact S3 | go_keep)
    (first
      | (go_at_call 36; refine (hof _).mono ?_; rintro e w3 ⟨v3, rfl, hown3, hbel3⟩; have S3 := two_cellsD hbel3; have HB3 := belowA hbel1 hbel3; have ra3 := rdA hown1 hbel3)
      | (go_at_call 35; refine (over_any _ _ _ n 1000000 ra3 hown3.rd ?_ ?_ ?_).mono ?_; omega; omega; omega; rintro e w4 ⟨v4, v5, rfl, hq, hr, hbel4⟩; rw [H0.out, Num.digs_zero] at hr; rw [HQ.out] at hq; obtain ⟨p4, c4, rfl⟩ := hq.lens rfl; obtain ⟨p5, c5, rfl⟩ := hr.lens rfl; have S4 := And.intro (cellB S3.1 hbel4) (cellB S3.2 hbel4); have HB4 := HB3.trans (hbel4.mono HB3.size)))
  go_wp2_with fail
  go_must (refine (digits_one _ _ q hq.rd (by omega)).mono ?_); rintro e w5 ⟨rfl, hbel5⟩
  have S5 := And.intro (cellB S4.1 hbel5) (cellB S4.2 hbel5)
  have HB5 := HB4.trans (hbel5.mono HB4.size)
  obtain ⟨S51, S52⟩ := S5
  go_wp2
  all_goals go_ret
  all_goals refine ⟨ret_str ?_, HB5⟩
  all_goals first | exact ba_app [45] _ | rfl
set_option maxRecDepth 20000 in
set_option maxHeartbeats 4000000 in
/-- ref.Text: a fraction. -/
theorem rtext_frac (z : Int) (hz : I64 z) (m : Bool) (n : Nat) (hm : decide (z < 0) = m) (hn : z.natAbs = n) (h0 : n % 1000000 ≠ 0) (w : World) :
    Calls Tryz.prog 23 #[.int .i64 z] w fun e w' => e = .returned (.string ⟨((if m then [45] else []) ++ (Lib.decDigits (n / 1000000) ++ 46 :: Lib.trimRightB (strD (digs (n % 1000000)) 6) 48)).toArray⟩) ∧ Below w.heap.size w w' := by
  have la := len_int z hz
  have lm := mil_len
  have fa := fun w => from_any z hz.1 hz.2 w
  have hof := fun w => of_z (1000000 : Int) 1000000 rfl (by decide) w
  rw [hm, hn] at fa
  rw [hn] at la
  have lq := Nat.le_trans (Num.digs_length_mono (Nat.div_le_self n 1000000)) la
  have hql := dec_len (u := n / 1000000) (by unfold I64 at hz; omega)
  obtain ⟨q, hq0⟩ : ∃ q, n / 1000000 = q := ⟨_, rfl⟩
  rw [hq0] at lq hql ⊢
  have HQ := Lib.hid hq0
  clear hq0
  obtain ⟨r, hr0⟩ : ∃ r, n % 1000000 = r := ⟨_, rfl⟩
  have hr6 : r < 1000000 := by omega
  rw [hr0] at h0 ⊢
  have HR := Lib.hid hr0; clear hr0
  have lr : (digs r).length ≤ 6 := Num.digs_length_le (by omega)
  obtain ⟨i0, hi0, hne0⟩ := strD_some 6 r hr6 h0
  obtain ⟨b0, hb0, hb48⟩ : ∃ b, (strD (digs r) 6)[i0]? = some b ∧ b ≠ 48 := ⟨_, List.getElem?_eq_getElem hi0, hne0⟩
  clear hne0
  have h1r : 1 ≤ (digs r).length := by rw [Num.digs_pos h0]; simp
  obtain ⟨l, hl⟩ : ∃ l, strD (digs r) 6 = l := ⟨_, rfl⟩
  have hl6 : l.length = 6 := by rw [← hl]; exact strD_length _ _
  rw [hl] at hi0 hb0 ⊢
  have HL := Lib.hid hl; clear hl hm hn h0
  go_enter Tryz.func23, Tryz.ntmps23
  go_wp2_with fail
  go_must (refine (fa _).mono ?_); rintro e w1 ⟨v1, rfl, hown1, hbel1⟩
  obtain ⟨p1, c1, rfl⟩ := hown1.lens rfl
  go_wp2
  go_region_held3 (fun w' => w'.cell? ⟨w1.heap.size, 0, none⟩ = some (.bool m) ∧ w'.cell? ⟨w1.heap.size, 1, none⟩ = some (.slice p1 (digs n).length c1))
    (first | exact S4 | exact S3 | go_keep)
    (first
      | (go_at_call 36; refine (hof _).mono ?_; rintro e w3 ⟨v3, rfl, hown3, hbel3⟩; have S3 := two_cellsD hbel3; have HB3 := belowA hbel1 hbel3; have ra3 := rdA hown1 hbel3)
      | (go_at_call 35; refine (over_any _ _ _ n 1000000 ra3 hown3.rd ?_ ?_ ?_).mono ?_; omega; omega; omega; rintro e w4 ⟨v4, v5, rfl, hq, hr, hbel4⟩; rw [HR.out] at hr; rw [HQ.out] at hq; obtain ⟨p4, c4, rfl⟩ := hq.lens rfl; obtain ⟨p5, c5, rfl⟩ := hr.lens rfl; have S4 := And.intro (cellB S3.1 hbel4) (cellB S3.2 hbel4); have HB4 := HB3.trans (hbel4.mono HB3.size)))
  go_wp2_with fail
  go_must (refine (digits_one _ _ q hq.rd (by omega)).mono ?_); rintro e w5 ⟨rfl, hbel5⟩
  have S5 := And.intro (cellB S4.1 hbel5) (cellB S4.2 hbel5)
  have HB5 := HB4.trans (hbel5.mono HB4.size)
  obtain ⟨S51, S52⟩ := S5
  go_wp2_with fail
  all_goals
    go_must (refine (digits_six _ _ (digs r) (hr.below hbel5).rd (Num.digs_ten _) lr).mono ?_); rintro e w6 ⟨rfl, hbel6⟩
    rw [HL.out]
    have HB6 := HB5.trans (hbel6.mono HB5.size)
    clear S4 S51 S52 hown1 hown3 hq hr
    go_wp2
    go_loop [7] (fun tv => ∃ (k : Nat) (s : ByteArray), tv = .string s ∧ k < 6 ∧ i0 ≤ k ∧ s.size = k + 1 ∧ Hid (s.data.toList = l.take (k + 1)) ∧ Hid (∀ (j : Nat) b, k + 1 ≤ j → l[j]? = some b → b = 48)) (fun tv => szOf tv)
    case atStart =>
      exact ⟨5, ⟨l.toArray⟩, rfl, by omega, by omega, by show l.toArray.size = 6; simp [hl6], by show l.toArray.toList = _; rw [List.take_of_length_le (by omega)], fun j b hj hb => by rw [List.getElem?_eq_none (by omega)] at hb; cases hb⟩
    case round =>
      obtain ⟨k, s, rfl, hk, hik, hsz, hsl, hzs⟩ := hrel
      have hkk : k < s.size := by omega
      rcases Bool.eq_false_or_eq_true (((s[k]'hkk).toNat : Int) == 48) with hT | hF
      · have hmore := trim_more hb0 hb48 hik hsz hsl.out hzs.out hkk hT
        have HMO := Lib.hid hmore; clear hmore
        go_wp2
        go_round
        case rel =>
          obtain ⟨k', rfl, h1, h2, h3, h4⟩ := HMO.out
          exact ⟨k', _, rfl, by omega, h1, h2, h3, h4⟩
        case measure =>
          obtain ⟨k', rfl, h1, h2, h3, h4⟩ := HMO.out
          show (s.extract 0 (k' + 1)).size < s.size
          omega
      · have hdone := trim_done (by omega) hsl.out hzs.out hkk hF
        have HDO := Lib.hid hdone; clear hdone
        go_wp2
        all_goals go_ret
        all_goals refine ⟨ret_str ?_, HB6⟩
        all_goals rw [HDO.out]
        all_goals first | exact cat_b _ _ | exact cat_a _ _

/-- ref.Text. -/
theorem rtext_any (z : Int) (hz : I64 z) (w : World) :
    Calls Tryz.prog 23 #[.int .i64 z] w fun e w' => e = .returned (.string ⟨(textL z).toArray⟩) ∧ Below w.heap.size w w' := by
  by_cases h : z.natAbs % 1000000 = 0
  · have e : textL z = (if decide (z < 0) then [45] else []) ++ Lib.decDigits (z.natAbs / 1000000) := by
      unfold textL
      simp only [if_pos h]
      by_cases hz : z < 0 <;> simp [hz]
    rw [e]
    exact rtext_whole z hz _ _ rfl rfl h w
  · have e : textL z = (if decide (z < 0) then [45] else []) ++ (Lib.decDigits (z.natAbs / 1000000) ++ 46 :: Lib.trimRightB (strD (digs (z.natAbs % 1000000)) 6) 48) := by
      unfold textL
      simp only [if_neg h]
      rw [pad6 (Nat.mod_lt _ (by decide))]
      by_cases hz : z < 0 <;> simp [hz]
    rw [e]
    exact rtext_frac z hz _ _ rfl rfl h w
end Go.Proofs.YtlagjnlajkmmeaaGreatDoor.One
