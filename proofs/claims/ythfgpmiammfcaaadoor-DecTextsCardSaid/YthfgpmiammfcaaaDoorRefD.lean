/-
The reference's product of two numbers of digits, by its contract.
-/
import Derived.Test.YthfgpmiammfcaaaDoorRefC
import Derived.Laws.AppendOwnNone
namespace Go.Proofs.YthfgpmiammfcaaaDoor
open Go.RowKit
open Num (digs valD cutL Ten)

/-- Digits, behind a slice that is the call's own. -/
theorem wp_appN {ops : Array Oper} {rest : List Oper} {o : Oper} {a : Act} {Q : Exit → Act → World → Prop} {w : World} (hgd : o.guard = none) (s x : Operand)
    (ho : o.op = Op.call { callee := Callee.builtin Builtin.append, args := #[s, x], argTypes := #[35, 35] }) (B : Nat) (v : Value) (xs : List Nat) (hs : a.eval s = v) (hown : Own B w v xs)
    (vb : Value) (ys : List Nat) (hx : a.eval x = vb) (hb : Rd w vb ys) (hl : xs.length + ys.length ≤ 1000000) (hB : B ≤ w.heap.size)
    (h : ∀ v' w', Own B w' v' (xs ++ ys) → Below B w w' → w.heap.size ≤ w'.heap.size → wpList Tryd.prog ops Q rest (a.put o.dst v') w') :
    wpList Tryd.prog ops Q (o :: rest) a w := by
  obtain ⟨i0, hi, hz0, hz1, hz2⟩ := info_parts info_u8
  rcases hb.cases with ⟨rfl, rfl⟩ | ⟨g, cap, rfl, hcap, hm, hg, hc⟩
  · refine wpList_append_own_none hgd s x _ ho B 5 i0 1 Tryd.underlying35 hi v _ _ hs hown hx ?_
    exact h v w (by simpa using hown) (Below.refl _ _) (Nat.le_refl _)
  · refine wpList_append_own _ hgd s x _ ho B 5 i0 (.int .u8 0) 1 1 Tryd.underlying35 hi hz0 hz1 hz2 rfl (by decide) v _ _ hs hown ⟨g, 0, none⟩ ys.length cap (ys.map nv) hx (by simp) ?_ ?_ ?_ ?_ ?_ ?_
    · intro j u hj
      have hlt : j < ys.length := by
        have := (List.getElem?_eq_some_iff.1 hj).1
        simpa using this
      rw [Addr.add_lit, Nat.zero_add, hc j hlt]
      simpa [hlt, nv] using hj
    · intro u hu; obtain ⟨_, _, rfl⟩ := List.mem_map.1 hu; rfl
    · unfold maxLen; omega
    · omega
    · exact hB
    · intro v' w' ho' hg' _
      have hbel : Below B w w' := (Below.refl B w).grown hg' hB (fun k hk => (World.ownsRow.lt hown k hk).1)
      refine h v' w' ?_ hbel hg'.size
      unfold Own
      simpa using ho'

/-- make(Nat, n). -/
theorem wp_makeN {ops : Array Oper} {rest : List Oper} {o : Oper} {a : Act} {Q : Exit → Act → World → Prop} {w : World} (hgd : o.guard = none) (l c : Operand) (hop : o.op = Op.makeSlice 35 l c)
    (n : Nat) (z : Int) (hz : z = (n : Int)) (hl : a.eval l = .int .i64 z) (hc : a.eval c = .int .i64 z) (hn : n ≤ 1000000)
    (h : ∀ w', Own w.heap.size w' (.slice (some ⟨w.heap.size, 0, none⟩) n n) (List.replicate n 0) → Below w.heap.size w w' → w.heap.size < w'.heap.size → wpList Tryd.prog ops Q rest (a.put o.dst (.slice (some ⟨w.heap.size, 0, none⟩) n n)) w') :
    wpList Tryd.prog ops Q (o :: rest) a w := by
  obtain ⟨i0, hi, hz0, hz1, hz2⟩ := info_parts info_u8
  refine wpList_make_full w hgd l c _ hop w.heap.size 5 i0 (.int .u8 0) 1 Tryd.underlying35 hi hz0 hz1 .i64 .i64 z z n hl hc hz hz (by rw [hz2]; omega) (by unfold maxLen; omega) (Nat.le_refl _) ?_
  intro w' ho' hg'
  have hbel : Below w.heap.size w w' := (Below.refl _ w).grown hg' (Nat.le_refl _) (by simp)
  have e : (madeCells (Value.int .u8 0).cells (n * 1)).toList = (List.replicate n 0).map nv := by
    show (madeCells #[Value.int .u8 0] (n * 1)).toList = _
    rw [toList_madeCells_one]; simp [nv]
  rw [e] at ho'
  have ho2 : Own w.heap.size w' (.slice (some ⟨w.heap.size, 0, none⟩) n n) (List.replicate n 0) := by unfold Own; simpa using ho'
  refine h w' ho2 hbel ?_
  rcases ho2.cases with ⟨h, _⟩ | ⟨g, cap, h, _, _, hg, _⟩
  · simp at h
  · simp at h; omega

theorem times_step {a s p d : Nat} : a * (s + p * d) + (p * a) = a * (s + p * (d + 1)) := by
  rw [Nat.mul_add p, Nat.mul_one, ← Nat.add_assoc, Nat.mul_add a (s + p * d) p, Nat.mul_comm p a]

set_option maxRecDepth 20000 in
set_option maxHeartbeats 1000000 in
/-- ref.Times. -/
theorem times_any (w : World) (va vb : Value) (a b : Nat) (ha : Rd w va (digs a)) (hb : Rd w vb (digs b)) (la : (digs a).length ≤ 40) (lb : (digs b).length ≤ 40) :
    Calls Tryd.prog 17 #[va, vb] w fun e w' => ∃ v', e = .returned v' ∧ Own w.heap.size w' v' (digs (a * b)) ∧ Below w.heap.size w w' := by
  obtain ⟨ys, hys⟩ : ∃ ys, ys = digs b := ⟨_, rfl⟩
  have ty : Ten ys := hys ▸ Num.digs_ten b
  have hvb : valD ys = b := by rw [hys, Num.valD_digs]
  rw [← hys] at hb lb
  obtain ⟨ly, hly⟩ : ∃ ly, ly = ys.length := ⟨_, rfl⟩
  have hy' : ly ≤ 40 := by omega
  obtain ⟨pb, cb, rfl⟩ := hb.lens hly
  have hcells : ∀ j, j < ly → ∃ g, pb = some ⟨g, 0, none⟩ ∧ g < w.heap.size ∧ w.cell? ⟨g, j, none⟩ = some (.int .u8 ((ys[j]?.getD 0 : Nat) : Int)) := by
    intro j hj
    rcases hb.cases with ⟨h, h'⟩ | ⟨g, cap, h, hcap, hm, hg, hc⟩
    · rw [h'] at hly; simp at hly; omega
    · simp at h; exact ⟨g, h.1, hg, hc j (by omega)⟩
  -- all that is reckoned is short
  have hbig : ∀ k x, k ≤ 40 → x ≤ b → (digs (a * x)).length ≤ 80 := by
    intro k x _ hx
    have h1 : a < 10 ^ 40 := by have := Num.valD_lt (Num.digs_ten a); rw [Num.valD_digs] at this; exact Nat.lt_of_lt_of_le this (Nat.pow_le_pow_right (by decide) la)
    have h2 : b < 10 ^ 40 := by have := Num.valD_lt ty; rw [hvb] at this; exact Nat.lt_of_lt_of_le this (Nat.pow_le_pow_right (by decide) lb)
    refine Num.digs_length_le ?_
    have h3 : a * x ≤ 10 ^ 40 * b := Nat.mul_le_mul (Nat.le_of_lt h1) hx
    have h4 : 10 ^ 40 * b < 10 ^ 40 * 10 ^ 40 := Nat.mul_lt_mul_of_pos_left h2 (by decide)
    rw [show (80 : Nat) = 40 + 40 from rfl, Nat.pow_add]
    omega
  have HV := Lib.hid hvb; clear hvb
  have HLY := Lib.hid hly; clear hly hys
  have HB := Lib.hid hbig; clear hbig
  have HC := Lib.hid hcells; clear hcells
  go_enter Tryd.func17, Tryd.ntmps17
  go_wp2
  go_loopw [5, 6, 7] (fun v iv _ wr => ∃ (i : Nat), iv = .int .i64 (i : Int) ∧ i ≤ ly ∧ Own w.heap.size wr v (digs (a * valD (ys.take i))) ∧ Below w.heap.size w wr)
    (fun _ i _ _ => ly - (intOf i).toNat)
  case atStart => exact ⟨0, rfl, by omega, by simp [valD, Num.digs_zero]; exact Own.nil _ _, Below.refl _ _⟩
  case round =>
    obtain ⟨i, rfl, hi, hown, hbel⟩ := hrel
    have hsz := hbel.size
    by_cases hgo : i < ly
    · obtain ⟨d, hd⟩ : ∃ d, ys[i]?.getD 0 = d := ⟨_, rfl⟩
      have hd9 : d < 10 := by rw [← hd]; exact ty.getD i
      obtain ⟨g, hpb, hgw, hcell⟩ := HC.out i hgo
      subst hpb
      rw [hd] at hcell
      have HD := Lib.hid hd; clear hd
      obtain ⟨wo, hwo⟩ : ∃ wo : World, wo = wr := ⟨_, rfl⟩
      subst hwo
      go_wp2
      go_loopw [5, 7] (fun v kv wr => ∃ (k : Nat), kv = .int .u8 (k : Int) ∧ k ≤ d ∧ Own w.heap.size wr v (digs (a * (valD (ys.take i) + 10 ^ i * k))) ∧ Below w.heap.size w wr)
        (fun _ k _ => d - (intOf k).toNat)
      case atStart => exact ⟨0, rfl, by omega, by simpa using hown, hbel⟩
      case round =>
        obtain ⟨k, rfl, hk, hown1, hbel1⟩ := hrel
        have hsz1 := hbel1.size
        have hc1 : wr.cell? ⟨g, i, none⟩ = some (.int .u8 (d : Int)) := by rw [hbel1.cell (p := ⟨g, i, none⟩) hgw]; exact hcell
        by_cases hgo2 : k < d
        · have hvx : valD (ys.take i) + 10 ^ i * k ≤ b := by
            have h1 := Num.valD_take_succ ys i
            rw [HD.out] at h1
            have h2 := Num.valD_take_drop ys (i + 1) (by rw [← HLY.out]; omega)
            rw [HV.out] at h2
            have h3 : 10 ^ i * k ≤ 10 ^ i * d := Nat.mul_le_mul_left _ hk
            omega
          have hlen := HB.out i _ (by omega) hvx
          have hsum : valD (digs (a * (valD (ys.take i) + 10 ^ i * k))) + valD (List.replicate i 0 ++ digs a) = a * (valD (ys.take i) + 10 ^ i * (k + 1)) := by
            rw [Num.valD_digs, Num.valD_append, Num.valD_replicate, Num.valD_digs, List.length_replicate, Nat.zero_add, times_step]
          have HS := Lib.hid hsum; clear hsum hvx
          go_wp2_with (first
            | (at_make; go_must (refine wp_makeN rfl _ _ rfl i _ rfl rfl rfl (by omega) ?_); intro w1 hown2 hbel2 hsz2)
            | (at_builtin; go_must (refine wp_appN rfl _ _ rfl _ _ _ rfl hown2 _ _ rfl ((ha.below hbel1).below hbel2) (by simp; omega) (by omega) ?_); intro v3 w3 hown3 hbel3 hsz3)
            | (go_at_call 37; go_must (refine (plus_any _ _ _ _ _ (hown1.below (hbel2.trans hbel3)).rd hown3.rd (Num.digs_ten _) ((Num.Ten.replicate i).append (Num.digs_ten a)) (by omega) (by simp; omega)).mono ?_); rintro e w4 ⟨v4, rfl, hown4, hbel4⟩))
          rw [HS.out] at hown4
          have hbelx : Below w.heap.size w w4 := (hbel1.trans ((hbel2.trans hbel3).mono (by omega))).trans (hbel4.mono (by omega))
          have hown5 := hown4.base (B' := w.heap.size) (by omega)
          clear hown4 hown3 hown2 hown1 hbel4 hbel3 hbel2
          go_roundw
          case rel => exact ⟨k + 1, by go_num, by omega, hown5, hbelx⟩
          case measure => simp [intOf] <;> omega
        · obtain rfl : k = d := by omega
          have hv : digs (a * (valD (ys.take i) + 10 ^ i * k)) = digs (a * valD (ys.take (i + 1))) := by rw [Num.valD_take_succ, HD.out]
          rw [hv] at hown1
          clear hv
          go_wp2
          go_roundw
          case rel => exact ⟨i + 1, by go_num, by omega, hown1, hbel1⟩
          case measure => simp [intOf] <;> omega
    · obtain rfl : i = ly := by omega
      have hx : digs (a * valD (ys.take i)) = digs (a * b) := by rw [List.take_of_length_le (by rw [← HLY.out]; exact Nat.le_refl _), HV.out]
      rw [hx] at hown
      have hlen : (digs (a * b)).length ≤ 80 := HB.out 0 b (by omega) (Nat.le_refl _)
      clear hx
      go_wp2_with (go_at_call 38; refine (cut_any w.heap.size _ _ _ hown (by omega)).mono ?_; rintro e w' ⟨v', rfl, hv', rfl⟩)
      go_ret
      exact ⟨_, rfl, by rw [Num.cutL_digs (Num.digs_ten _), Num.valD_digs] at hv'; exact hv', hbel⟩
end Go.Proofs.YthfgpmiammfcaaaDoor
