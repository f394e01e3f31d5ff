/-
The reference of stage 7: Column, by a contract.
-/
import Derived.Test.YtggdpnkfambmfaaDoorCeTxt
import Derived.Deep.QuietTactic
import Derived.BigQuiet
import Derived.Lib.Strings
namespace Go.Proofs.YtggdpnkfambmfaaDoor
open Go.RowKit Go.Proofs.YtggdpnkfambmfaaDoor.Dig

theorem wrap_id {x : Int} (h0 : -9223372036854775808 ≤ x) (h1 : x ≤ 9223372036854775807) : wrap64 x = x := by unfold wrap64; omega
theorem colN_bounds (l : List UInt8) : -9223372036854775808 ≤ colN l ∧ colN l ≤ 9223372036854775807 := by
  unfold colN
  split
  · rename_i c; have := c.toNat_lt; omega
  · rename_i c d; have := c.toNat_lt; have := d.toNat_lt; omega
  · omega
theorem colV_hit {l : List UInt8} {n : Int} (hn : n = colN l) (h : colL n = l) (hl : l ≠ []) : n = (colV l : Nat) := by
  subst hn
  unfold colV
  rw [if_pos h]
  by_cases hb : colN l < 1 ∨ 702 < colN l
  · rw [colL_zero hb] at h
    exact absurd h.symm hl
  · omega
theorem colV_miss {l : List UInt8} {n : Int} (hn : n = colN l) (h : colL n ≠ l) : (colV l : Nat) = 0 := by
  subst hn
  unfold colV
  rw [if_neg h]
theorem below_drewN (w : World) (n : Nat) : Below w.heap.size w (w.drewN n) := ⟨rfl, rfl, rfl, Nat.le_refl _, fun _ _ => rfl⟩
theorem ba_ne {a b : ByteArray} (h : a ≠ b) : (a.toList == b.toList) = false := by
  cases hq : a.toList == b.toList with
  | false => rfl
  | true =>
    have h4 := eq_of_beq hq
    rw [Lib.toList_data, Lib.toList_data] at h4
    exact absurd (ByteArray.ext (Array.ext' h4)) h

set_option maxRecDepth 20000 in
set_option maxHeartbeats 1000000 in
theorem rcolumn_1 (c : UInt8) (w : World) :
    Calls Tryd.prog 11 #[.string ⟨([c]).toArray⟩] w fun e w' => e = .returned (.int .i64 (colV ([c]) : Nat)) ∧ Below w.heap.size w w' := by
  obtain ⟨s, hs⟩ : ∃ s : ByteArray, s = ⟨([c]).toArray⟩ := ⟨_, rfl⟩
  have hsz : s.size = 1 := by rw [hs]; rfl
  have hget0 : ∀ h, s[0]'h = c := fun h => by subst hs; rfl
  obtain ⟨n, hn⟩ : ∃ n : Int, n = colN ([c]) := ⟨_, rfl⟩
  have hcb := hn ▸ colN_bounds _
  have hcol := fun W => rcol_any n (by omega) (by omega) W
  have e1 : wrap64 (wrap64 (c.toNat : Int) - 64) = n := by rw [hn]; simp only [colN]; have hc := c.toNat_lt; rw [wrap_id (x := (c.toNat : Int)) (by omega) (by omega), wrap_id (by omega) (by omega)]
  rw [← hs]
  obtain ⟨sc, hsc⟩ : ∃ sc : ByteArray, sc = ⟨(colL n).toArray⟩ := ⟨_, rfl⟩
  rw [← hsc] at hcol
  have HS := Lib.hid hs
  have HN := Lib.hid hn
  have HSC := Lib.hid hsc
  have HC := Lib.hid hcol
  have HE := Lib.hid e1
  clear hs hn hsc hcol e1
  by_cases heq : sc = s
  · have hl : colL n = [c] := by
      have h := HSC.out.symm.trans (heq.trans HS.out)
      have := congrArg (fun b : ByteArray => b.data.toList) h
      simpa using this
    have hv := colV_hit HN.out hl (by simp)
    have HV := Lib.hid hv
    subst heq
    clear hl hv
    go_enter Tryd.func11, Tryd.ntmps11
    go_wp2_with fail
    rw [HE.out]
    go_at_call 9
    with_reducible refine (HC.out _).mono ?_
    rintro e w1 ⟨rfl, hb1⟩
    go_wp2_with fail
    go_ret
    exact ⟨by rw [← HV.out]; rfl, hb1⟩
  · have hl : colL n ≠ [c] := fun e => heq (by rw [HSC.out, HS.out, e])
    have hv := colV_miss HN.out hl
    have hbl := ba_ne heq
    have HV := Lib.hid hv
    clear hl hv heq
    go_enter Tryd.func11, Tryd.ntmps11
    go_wp2_with fail
    rw [HE.out]
    go_at_call 9
    with_reducible refine (HC.out _).mono ?_
    rintro e w1 ⟨rfl, hb1⟩
    go_wp2_with fail
    go_ret
    exact ⟨by rw [HV.out]; rfl, hb1⟩
set_option maxRecDepth 20000 in
set_option maxHeartbeats 1000000 in
theorem rcolumn_2 (c d : UInt8) (w : World) :
    Calls Tryd.prog 11 #[.string ⟨([c, d]).toArray⟩] w fun e w' => e = .returned (.int .i64 (colV ([c, d]) : Nat)) ∧ Below w.heap.size w w' := by
  obtain ⟨s, hs⟩ : ∃ s : ByteArray, s = ⟨([c, d]).toArray⟩ := ⟨_, rfl⟩
  have hsz : s.size = 2 := by rw [hs]; rfl
  have hget0 : ∀ h, s[0]'h = c := fun h => by subst hs; rfl
  have hget1 : ∀ h, s[1]'h = d := fun h => by subst hs; rfl
  obtain ⟨n, hn⟩ : ∃ n : Int, n = colN ([c, d]) := ⟨_, rfl⟩
  have hcb := hn ▸ colN_bounds _
  have hcol := fun W => rcol_any n (by omega) (by omega) W
  have e1 : wrap64 (wrap64 (wrap64 (27 + wrap64 (wrap64 (wrap64 (c.toNat : Int) - 65) * 26)) + wrap64 (d.toNat : Int)) - 65) = n := by rw [hn]; simp only [colN]; have hc := c.toNat_lt; have hd := d.toNat_lt; rw [wrap_id (x := (c.toNat : Int)) (by omega) (by omega), wrap_id (x := (d.toNat : Int)) (by omega) (by omega), wrap_id (x := (c.toNat : Int) - 65) (by omega) (by omega), wrap_id (x := ((c.toNat : Int) - 65) * 26) (by omega) (by omega), wrap_id (x := 27 + ((c.toNat : Int) - 65) * 26) (by omega) (by omega), wrap_id (x := 27 + ((c.toNat : Int) - 65) * 26 + (d.toNat : Int)) (by omega) (by omega), wrap_id (by omega) (by omega)]
  rw [← hs]
  obtain ⟨sc, hsc⟩ : ∃ sc : ByteArray, sc = ⟨(colL n).toArray⟩ := ⟨_, rfl⟩
  rw [← hsc] at hcol
  have HS := Lib.hid hs
  have HN := Lib.hid hn
  have HSC := Lib.hid hsc
  have HC := Lib.hid hcol
  have HE := Lib.hid e1
  clear hs hn hsc hcol e1
  by_cases heq : sc = s
  · have hl : colL n = [c, d] := by
      have h := HSC.out.symm.trans (heq.trans HS.out)
      have := congrArg (fun b : ByteArray => b.data.toList) h
      simpa using this
    have hv := colV_hit HN.out hl (by simp)
    have HV := Lib.hid hv
    subst heq
    clear hl hv
    go_enter Tryd.func11, Tryd.ntmps11
    go_wp2_with fail
    go_quiet (fail)
    go_wp2_with fail
    rw [HE.out]
    go_at_call 9
    with_reducible refine (HC.out _).mono ?_
    rintro e w1 ⟨rfl, hb1⟩
    go_wp2_with fail
    go_ret
    exact ⟨by rw [← HV.out]; rfl, (below_drewN w nq).trans hb1⟩
  · have hl : colL n ≠ [c, d] := fun e => heq (by rw [HSC.out, HS.out, e])
    have hv := colV_miss HN.out hl
    have hbl := ba_ne heq
    have HV := Lib.hid hv
    clear hl hv heq
    go_enter Tryd.func11, Tryd.ntmps11
    go_wp2_with fail
    go_quiet (fail)
    go_wp2_with fail
    rw [HE.out]
    go_at_call 9
    with_reducible refine (HC.out _).mono ?_
    rintro e w1 ⟨rfl, hb1⟩
    go_wp2_with fail
    go_ret
    exact ⟨by rw [HV.out]; rfl, (below_drewN w nq).trans hb1⟩
set_option maxRecDepth 20000 in
set_option maxHeartbeats 1000000 in
theorem rcolumn_0 (l : List UInt8) (h1 : l.length ≠ 1) (h2 : l.length ≠ 2) (hl : l.length ≤ 100000) (w : World) :
    Calls Tryd.prog 11 #[.string ⟨l.toArray⟩] w fun e w' => e = .returned (.int .i64 (colV l : Nat)) ∧ Below w.heap.size w w' := by
  have hn : colN l = 0 := by
    match l, h1, h2 with
    | [], _, _ => rfl
    | [c], h, _ => exact absurd rfl h
    | [c, d], _, h => exact absurd rfl h
    | c :: d :: e :: r, _, _ => rfl
  have hv : colV l = 0 := by unfold colV; rw [hn]; split <;> rfl
  obtain ⟨s, hs⟩ : ∃ s : ByteArray, s = ⟨l.toArray⟩ := ⟨_, rfl⟩
  obtain ⟨m, hm⟩ : ∃ m, m = l.length := ⟨_, rfl⟩
  have hsz : s.size = m := by rw [hs, hm]; rfl
  rw [← hm] at h1 h2 hl
  have hcol := fun W => rcol_any 0 (by omega) (by omega) W
  rw [colL_zero (by omega)] at hcol
  rw [hv, ← hs]
  have t1 : ((m : Int) == 1) = false := by simp; omega
  have t2 : ((m : Int) == 2) = false := by simp; omega
  have HC := Lib.hid hcol
  clear hs hm hcol hv hn
  go_enter Tryd.func11, Tryd.ntmps11
  go_wp2_with (go_at_call 9; (with_reducible refine (HC.out _).mono ?_); rintro e w1 ⟨rfl, hb1⟩)
  all_goals (go_ret; exact ⟨rfl, hb1⟩)
theorem rcolumn_any (l : List UInt8) (hl : l.length ≤ 100000) (w : World) :
    Calls Tryd.prog 11 #[.string ⟨l.toArray⟩] w fun e w' => e = .returned (.int .i64 (colV l : Nat)) ∧ Below w.heap.size w w' := by
  match l, hl with
  | [], h => exact rcolumn_0 _ (by simp) (by simp) h w
  | [c], _ => exact rcolumn_1 c w
  | [c, d], _ => exact rcolumn_2 c d w
  | c :: d :: e :: r, h => exact rcolumn_0 _ (by simp) (by simp) h w
end Go.Proofs.YtggdpnkfambmfaaDoor
