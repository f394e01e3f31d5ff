/-
The reference's digit numbers: Cut and Of, by contracts.
-/
import Derived.Test.YthfgpmiammfcaaaDoorRows
import Derived.Test.YthfgpmiammfcaaaDoorNum
import Derived.WalkKit
import Derived.WalkSpells
import Derived.WalkLawsBesides
import Derived.Outline
import Derived.Lib.Hide
namespace Go.Proofs.YthfgpmiammfcaaaDoor
open Go.RowKit
open Num (digs valD cutL Ten)

def nv (d : Nat) : Value := .int .u8 (d : Int)
/-- The slice value v is nil, or heads a row from block B on; it reads as the digits xs. -/
def Own (B : Nat) (w : World) (v : Value) (xs : List Nat) : Prop := w.ownsRow B 5 1 v xs.length (xs.map nv)
/-- The slice value v reads as the digits xs in the world w. -/
abbrev Rd (w : World) (v : Value) (xs : List Nat) : Prop := Own 0 w v xs

theorem ownsRow_base {w : World} {B B' e s n : Nat} {v : Value} {xs : List Value} (h : w.ownsRow B e s v n xs) (hB : B' ≤ B) : w.ownsRow B' e s v n xs := by
  refine ⟨h.1, ?_⟩
  rcases h.2 with h2 | ⟨g, cap, cur, hv, hg, r⟩
  · exact .inl h2
  · exact .inr ⟨g, cap, cur, hv, Nat.le_trans hB hg, r⟩
theorem ownsRow_below {w w' : World} {K B e s n : Nat} {v : Value} {xs : List Value} (h : w.ownsRow B e s v n xs) (hb : Below K w w') (hK : w.heap.size ≤ K) : w'.ownsRow B e s v n xs := by
  refine ⟨h.1, ?_⟩
  rcases h.2 with h2 | ⟨g, cap, cur, hv, hg, hh, r⟩
  · exact .inl h2
  · have hlt := (Array.getElem?_eq_some_iff.1 hh).1
    exact .inr ⟨g, cap, cur, hv, hg, by rw [hb.block g (by omega)]; exact hh, r⟩

theorem Own.base {B B' : Nat} {w : World} {v : Value} {xs : List Nat} (h : Own B w v xs) (hB : B' ≤ B) : Own B' w v xs := ownsRow_base h hB
theorem Own.rd {B : Nat} {w : World} {v : Value} {xs : List Nat} (h : Own B w v xs) : Rd w v xs := ownsRow_base h (Nat.zero_le _)
theorem Own.below {B : Nat} {w w' : World} {v : Value} {xs : List Nat} (h : Own B w v xs) (hb : Below w.heap.size w w') : Own B w' v xs := ownsRow_below h hb (Nat.le_refl _)
theorem Own.alloc {B : Nat} {w : World} {v : Value} {xs : List Nat} (h : Own B w v xs) (o : Obj) : Own B (w.alloc o) v xs := World.ownsRow.alloc h o
theorem Own.drew {B : Nat} {w : World} {v : Value} {xs : List Nat} (h : Own B w v xs) : Own B w.drew v xs := World.ownsRow.drew h
theorem Own.nil (B : Nat) (w : World) : Own B w (.slice none 0 0) [] := World.ownsRow_nil _ _ _ _

theorem Own.cases {B : Nat} {w : World} {v : Value} {xs : List Nat} (h : Own B w v xs) :
    (v = .slice none 0 0 ∧ xs = []) ∨ ∃ g cap, v = .slice (some ⟨g, 0, none⟩) xs.length cap ∧ xs.length ≤ cap ∧ cap ≤ maxLen ∧ g < w.heap.size ∧ ∀ j, j < xs.length → w.cell? ⟨g, j, none⟩ = some (.int .u8 ((xs[j]?.getD 0 : Nat) : Int)) := by
  rcases h.2 with ⟨hv, hn⟩ | ⟨g, cap, cur, hv, _, hh, hnc, hm, hs, ht⟩
  · exact .inl ⟨hv, List.eq_nil_of_length_eq_zero hn⟩
  · refine .inr ⟨g, cap, hv, hnc, hm, (Array.getElem?_eq_some_iff.1 hh).1, fun j hj => ?_⟩
    have hx : (xs.map nv)[j]? = some (nv (xs[j]?.getD 0)) := by simp [hj]
    rw [cell_of_row w g j cur 5 (0, 0) hh]
    rw [← ht, List.getElem?_take] at hx
    split at hx
    · simpa [nv] using hx
    · cases hx

theorem Own.take {B : Nat} {w : World} {g n cap : Nat} {xs : List Nat} (h : Own B w (.slice (some ⟨g, 0, none⟩) n cap) xs) (k : Nat) (hk : k ≤ xs.length) : Own B w (.slice (some ⟨g, 0, none⟩) k cap) (xs.take k) := by
  rcases h.2 with ⟨hv, hn⟩ | ⟨g', cap', cur, hv, hb, hh, hnc, hm, hs, ht⟩
  · simp at hv
  · simp only [Value.slice.injEq, Option.some.injEq, Addr.mk.injEq, and_true] at hv
    obtain ⟨rfl, hn, rfl⟩ := hv
    refine ⟨by simp, .inr ⟨g, cap, cur, by simp [Nat.min_eq_left hk], hb, hh, by simp; omega, hm, hs, ?_⟩⟩
    rw [List.map_take, ← ht, List.take_take]
    congr 1
    simp

/-- The element type's row. -/
theorem info_u8 : (Tryd.prog.info? 5).map (fun i => (i.zero, i.size, i.bytes)) = some (some (.int .u8 0), 1, 1) := by kernel_rfl

theorem cut_some (w : World) (g cap n : Nat) (xs : List Nat) (hn : n = xs.length) (hb : xs.length ≤ 1000)
    (hc : ∀ j, j < n → w.cell? ⟨g, j, none⟩ = some (.int .u8 ((xs[j]?.getD 0 : Nat) : Int))) (hcap : n ≤ cap) :
    Calls Tryd.prog 38 #[.slice (some ⟨g, 0, none⟩) n cap] w fun e w' => ∃ k : Nat, k ≤ n ∧ cutL xs = xs.take k ∧ e = .returned (.slice (some ⟨g, 0, none⟩) k cap) ∧ w = w' := by
  have hNM : n ≤ 1000 := by omega
  have hN := Lib.hid hn; clear hn
  go_enter Tryd.func38, Tryd.ntmps38
  go_wp2
  go_loop [0] (fun v => ∃ k : Nat, k ≤ n ∧ v = .slice (some ⟨g, 0, none⟩) k cap ∧ Hid (cutL xs = cutL (xs.take k))) (fun v => match v with | .slice _ k _ => k | _ => 0)
  case atStart => exact ⟨n, Nat.le_refl _, rfl, by rw [List.take_of_length_le (by rw [hN.out]; exact Nat.le_refl _)]; rfl⟩
  case round =>
    obtain ⟨k, hk, rfl, he⟩ := hrel
    have hcell : 0 < k → w.cell? ⟨g, k - 1, none⟩ = some (.int .u8 ((xs[k-1]?.getD 0 : Nat) : Int)) := fun _ => hc _ (by omega)
    go_wp2
    · have hk0 : 0 < k := by assumption
      have hz : (((xs[k - 1]?.getD 0 : Nat) : Int) == 0) = true := by assumption
      have hz' : xs[k - 1]?.getD 0 = 0 := by simpa using hz
      have hlt : k - 1 < xs.length := by have := hN.out; omega
      have hs := Num.take_succ_getD hlt
      rw [show k - 1 + 1 = k from by omega, hz'] at hs
      go_round
      case rel => exact ⟨k - 1, by omega, rfl, by show cutL xs = _; rw [he.out, hs, Num.cutL_snoc_zero]⟩
      case measure => simp; omega
    · have hk0 : 0 < k := by assumption
      have hz : (((xs[k - 1]?.getD 0 : Nat) : Int) == 0) = false := by assumption
      have hz' : xs[k - 1]?.getD 0 ≠ 0 := by intro h; rw [h] at hz; simp at hz
      have hlt : k - 1 < xs.length := by have := hN.out; omega
      have hs := Num.take_succ_getD hlt
      rw [show k - 1 + 1 = k from by omega] at hs
      go_ret
      exact ⟨k, hk, by rw [he.out, hs, Num.cutL_snoc_pos _ hz'], rfl, rfl⟩
    · have hk0 : k = 0 := by omega
      subst hk0
      go_ret
      exact ⟨0, hk, by rw [he.out]; simp [cutL], rfl, rfl⟩

theorem cut_none (w : World) :
    Calls Tryd.prog 38 #[.slice none 0 0] w fun e w' => e = .returned (.slice none 0 0) ∧ w = w' := by
  go_enter Tryd.func38, Tryd.ntmps38
  go_wp2
  refine wp_loop_rounds 1 ?_; rw [rounds_succ]
  go_wp2
  go_ret
  exact ⟨rfl, rfl⟩

/-- ref.Cut. -/
theorem cut_any (B : Nat) (w : World) (v : Value) (xs : List Nat) (h : Own B w v xs) (hb : xs.length ≤ 1000) :
    Calls Tryd.prog 38 #[v] w fun e w' => ∃ v', e = .returned v' ∧ Own B w v' (cutL xs) ∧ w = w' := by
  rcases h.cases with ⟨rfl, rfl⟩ | ⟨g, cap, rfl, hcap, hm, hg, hc⟩
  · exact (cut_none w).mono fun e w' ⟨he, hw⟩ => ⟨_, he, Own.nil B w, hw⟩
  · exact (cut_some w g cap xs.length xs rfl hb hc hcap).mono fun e w' ⟨k, hk, hq, he, hw⟩ => ⟨_, he, by rw [hq]; exact h.take k hk, hw⟩

/-- One digit more, behind a slice that is the call's own. -/
theorem wp_app1 {ops : Array Oper} {rest : List Oper} {o : Oper} {a : Act} {Q : Exit → Act → World → Prop} {w : World} (hgd : o.guard = none) (s x : Operand)
    (ho : o.op = Op.call { callee := Callee.builtin Builtin.append, args := #[s, x], argTypes := #[35, 35] }) (B : Nat) (v : Value) (xs : List Nat) (hs : a.eval s = v) (hown : Own B w v xs)
    (z : Int) (d : Nat) (hz : z = (d : Int)) (hx : a.eval x = .slice (some ⟨w.heap.size, 0, none⟩) 1 1) (hl : xs.length + 1 ≤ 1000000) (hB : B ≤ w.heap.size)
    (h : ∀ v' w', Own B w' v' (xs ++ [d]) → Below B w w' → w.heap.size < w'.heap.size → wpList Tryd.prog ops Q rest (a.put o.dst v') w') :
    wpList Tryd.prog ops Q (o :: rest) a (w.alloc (.cells #[.int .u8 z] 5)) := by
  obtain ⟨i0, hi, hz0, hz1, hz2⟩ := info_parts info_u8
  subst hz
  refine wpList_append_own _ hgd s x _ ho B 5 i0 (.int .u8 0) 1 1 Tryd.underlying35 hi hz0 hz1 hz2 rfl (by decide) v _ _ hs (World.ownsRow.alloc hown _) ⟨w.heap.size, 0, none⟩ 1 1 [nv d] hx rfl (cell_one_new _ _ _) ?_ ?_ ?_ ?_ ?_
  · intro u hu; simp at hu; subst hu; rfl
  · unfold maxLen; omega
  · omega
  · simp; omega
  · intro v' w' ho' hg' _
    have hbel : Below B w w' := ((Below.refl B w).alloc hB _).grown hg' (by simp; omega) (fun k hk => (World.ownsRow.lt hown k hk).1)
    have hsz := hg'.size
    refine h v' w' ?_ hbel (by simp at hsz; omega)
    unfold Own
    simpa using ho'

theorem rem10 (m : Nat) : (m : Int) % 10 = ((m % 10 : Nat) : Int) := by omega

set_option maxRecDepth 20000 in
set_option maxHeartbeats 400000 in
/-- ref.Of. -/
theorem of_any (n : Nat) (hn : n < 18446744073709551616) (w : World) :
    Calls Tryd.prog 19 #[.int .u64 (n : Int)] w fun e w' => ∃ v', e = .returned v' ∧ Own w.heap.size w' v' (digs n) ∧ Below w.heap.size w w' := by
  have hlen : (digs n).length ≤ 20 := Num.digs_length_le (by omega)
  go_enter Tryd.func19, Tryd.ntmps19
  go_wp2
  go_loopw [0, 3] (fun a v wr => ∃ (m : Nat) (ds : List Nat), m ≤ n ∧ a = .int .u64 (m : Int) ∧ Own w.heap.size wr v ds ∧ Below w.heap.size w wr ∧ Hid (ds ++ digs m = digs n))
    (fun a _ _ => (intOf a).toNat)
  case atStart => exact ⟨n, [], Nat.le_refl _, rfl, World.ownsRow_nil _ _ _ _, Below.refl _ _, rfl⟩
  case round =>
    obtain ⟨m, ds, hm, rfl, hown, hbel, hds⟩ := hrel
    have hsz := hbel.size
    have hm64 : (m : Int) ≤ 18446744073709551615 := by omega
    by_cases hm0 : 0 < m
    · have hd := Num.digs_pos (n := m) (by omega)
      have hl : ds.length + 1 ≤ 20 := by
        have := congrArg List.length hds.out
        rw [hd] at this
        simp at this; omega
      have HD := Lib.hid hd; clear hd
      go_wp2_with (at_builtin; refine wp_app1 rfl _ _ rfl w.heap.size _ ds rfl hown _ (m % 10) (rem10 m) rfl (by omega) (by omega) ?_; intro v' w1 hown1 hbel1 hsz1)
      go_roundw
      case rel => exact ⟨m / 10, ds ++ [m % 10], by omega, by go_num, hown1, hbel.trans hbel1, by show _ = _; rw [← hds.out, HD.out]; simp⟩
      case measure => simp [intOf]; omega
    · obtain rfl : m = 0 := by omega
      go_wp2
      go_ret
      refine ⟨_, rfl, ?_, hbel⟩
      have := hds.out
      rw [Num.digs_zero, List.append_nil] at this
      rw [← this]
      exact hown

theorem digit_some (w : World) (g cap n : Nat) (xs : List Nat) (hn : n = xs.length) (hb : xs.length ≤ 1000) (i d : Nat) (hd : xs[i]?.getD 0 = d) (hi : i ≤ 100000)
    (hc : i < n → w.cell? ⟨g, i, none⟩ = some (.int .u8 (d : Int))) (_hcap : n ≤ cap) :
    Calls Tryd.prog 54 #[.slice (some ⟨g, 0, none⟩) n cap, .int .i64 (i : Int)] w fun e w' => e = .returned (.int .u8 (d : Int)) ∧ w = w' := by
  have HN := Lib.hid hn; clear hn
  have HD := Lib.hid hd; clear hd
  by_cases hin : i < n
  · go_enter Tryd.func54, Tryd.ntmps54
    go_wp2
    go_ret
    exact ⟨rfl, rfl⟩
  · have hd0 : d = 0 := by rw [← HD.out]; exact Num.getD_of_le (by have := HN.out; omega)
    subst hd0
    go_enter Tryd.func54, Tryd.ntmps54
    go_wp2
    go_ret
    exact ⟨rfl, rfl⟩
theorem digit_none (w : World) (i : Nat) :
    Calls Tryd.prog 54 #[.slice none 0 0, .int .i64 (i : Int)] w fun e w' => e = .returned (.int .u8 0) ∧ w = w' := by
  go_enter Tryd.func54, Tryd.ntmps54
  go_wp2
  go_ret
  exact ⟨rfl, rfl⟩
/-- ref.digit. -/
theorem digit_any (w : World) (v : Value) (xs : List Nat) (h : Rd w v xs) (hb : xs.length ≤ 1000) (i d : Nat) (hd : xs[i]?.getD 0 = d) (hi : i ≤ 100000) :
    Calls Tryd.prog 54 #[v, .int .i64 (i : Int)] w fun e w' => e = .returned (.int .u8 (d : Int)) ∧ w = w' := by
  rcases h.cases with ⟨rfl, rfl⟩ | ⟨g, cap, rfl, hcap, hm, hg, hc⟩
  · simp at hd; subst hd; exact digit_none w i
  · exact digit_some w g cap xs.length xs rfl hb i d hd hi (fun hin => by rw [hc i hin, hd]) hcap

end Go.Proofs.YthfgpmiammfcaaaDoor
