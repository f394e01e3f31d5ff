/-
The program's a1.Parse, by a contract; and all that the laws ask of the package.
-/
import Derived.Test.YtggdpnkfambmfaaDoorCpRes
namespace Go.Proofs.YtggdpnkfambmfaaDoor
open Go.RowKit Go.Proofs.YtggdpnkfambmfaaDoor.Dig

theorem parse_form (l : List UInt8) : ∃ (x : Int) (b : Bool), numT (numV (l.dropWhile isUp) 9999) = .tuple #[.int .i64 x, .bool b] ∧ I64 x ∧
    (rightC (colV (l.takeWhile isUp) : Nat) x = true → parseTC (parseC l) = .tuple #[cellV (colV (l.takeWhile isUp) : Nat) x, .int .i64 0]) ∧
    (rightC (colV (l.takeWhile isUp) : Nat) x = false → parseTC (parseC l) = .tuple #[cellV 0 0, .int .i64 20]) := by
  cases hn : numV (l.dropWhile isUp) 9999 with
  | none =>
    refine ⟨0, false, rfl, by omega, fun h => ?_, fun _ => ?_⟩
    · have := rightC_iff.1 h; omega
    · unfold parseC
      rw [hn]
      rfl
  | some r =>
    have hr := (numV_iff.1 hn).2
    have hle := colV_le (l.takeWhile isUp)
    refine ⟨(r : Int), true, rfl, by omega, fun h => ?_, fun h => ?_⟩
    · have := rightC_iff.1 h
      unfold parseC
      rw [hn]
      simp only
      rw [if_pos (by omega)]
      rfl
    · unfold parseC
      rw [hn]
      simp only
      rw [if_neg]
      · rfl
      · intro hc
        have : rightC (colV (l.takeWhile isUp) : Nat) (r : Int) = true := rightC_iff.2 (by omega)
        rw [h] at this
        cases this

set_option maxRecDepth 20000 in
set_option maxHeartbeats 4000000 in
theorem parse_anyC (l : List UInt8) (w : World) (hE : Env w) (hl : l.length ≤ 20) :
    Calls Tryd.prog 12 #[.string ⟨l.toArray⟩] w fun e w' => e = .returned (parseTC (parseC l)) ∧ Below w.heap.size w w' := by
  obtain ⟨x, bb, hnt, hx, hyes, hno⟩ := parse_form l
  have hdl : (l.dropWhile isUp).length ≤ l.length := (List.dropWhile_suffix isUp).length_le
  have htl : (l.takeWhile isUp).length = l.length - (l.dropWhile isUp).length := by
    have := congrArg List.length (List.takeWhile_append_dropWhile (p := isUp) (l := l))
    rw [List.length_append] at this
    omega
  have htr := fun W => trim_az ⟨l.toArray⟩ W
  simp only [] at htr
  have hnu := fun W hW => number_any (l.dropWhile isUp) 9999 W hW (by omega) (by omega) (by omega)
  rw [hnt] at hnu
  have hco := fun W => column_any (l.takeWhile isUp) (by omega) W
  have hle := colV_le (l.takeWhile isUp)
  have hex : (⟨l.toArray⟩ : ByteArray).extract 0 (l.length - (l.dropWhile isUp).length) = ⟨(l.takeWhile isUp).toArray⟩ := by
    rw [Lib.extract_mk, ← htl, List.drop_zero, Nat.sub_zero, ← List.prefix_iff_eq_take.1 (List.takeWhile_prefix isUp)]
  have hrt := fun W => right_any (colV (l.takeWhile isUp) : Nat) x W
  have HE := Lib.hid (hE.below (below_alloc w (.cells #[.int .i64 0, .int .i64 0] 27)))
  have HROW := Lib.hid (show (w.alloc (.cells #[.int .i64 0, .int .i64 0] 27)).heap[w.heap.size]? = some (.cells #[.int .i64 0, .int .i64 0] 27 (0, 0)) from heap_new rfl)
  have HB0 := Lib.hid (below_alloc w (.cells #[.int .i64 0, .int .i64 0] 27))
  have hs1 : (⟨l.toArray⟩ : ByteArray).size = l.length := rfl
  have hs2 : (⟨(l.dropWhile isUp).toArray⟩ : ByteArray).size = (l.dropWhile isUp).length := rfl
  generalize parseTC (parseC l) = res at *
  generalize (⟨(l.dropWhile isUp).toArray⟩ : ByteArray) = sd at *
  generalize (⟨(l.takeWhile isUp).toArray⟩ : ByteArray) = st at *
  generalize (⟨l.toArray⟩ : ByteArray) = sl at *
  generalize (l.dropWhile isUp).length = dl at *
  generalize l.length = ll at *
  generalize colV (l.takeWhile isUp) = n at *
  have hq1 : (0 : Int) ≤ (ll : Int) - (dl : Int) := by omega
  have hq2 : ((ll : Int) - (dl : Int)).toNat = ll - dl := by omega
  have HTR := Lib.hid htr
  have HNU := Lib.hid hnu
  have HCO := Lib.hid hco
  clear hE hnt htr hnu hco htl
  unfold cellV at *
  cases hq : rightC (n : Int) x with
  | true =>
    rw [hyes hq]
    rw [hq] at hrt
    clear hyes hno hq
    have HRT := Lib.hid hrt
    clear hrt
    go_enter Tryd.func12, Tryd.ntmps12
    go_wp2_with fail
    go_at_call 23
    with_reducible refine (HTR.out _).mono ?_
    rintro e w1 ⟨rfl, hb1⟩
    have HB1 := Lib.hid hb1
    clear hb1
    go_wp2_with fail
    go_at_call 24
    with_reducible refine (HNU.out _ (HE.out.below HB1.out)).mono ?_
    rintro e w2 ⟨rfl, hb2⟩
    have HB2 := Lib.hid (HB1.out.trans (hb2.mono HB1.out.size))
    clear hb2
    go_wp2_with fail
    go_at_call 10
    with_reducible refine (HCO.out _).mono ?_
    rintro e w3 ⟨rfl, rfl⟩
    have hrow3 := row_belowC HROW.out HB2.out
    obtain ⟨⟨p0, p1⟩, q0, q1⟩ := cells2C hrow3
    have HROW3 := Lib.hid hrow3
    have hlt3 : w.heap.size < w3.heap.size := (Array.getElem?_eq_some_iff.1 HROW3.out).1
    clear hrow3
    go_wp2_with fail
    go_at_call 15
    with_reducible refine (HRT.out _).mono ?_
    rintro e w4 ⟨rfl, hb4⟩
    have hrow4 := row_belowC (heap_old HROW3.out) hb4
    have hrow4b := row_belowC (heap_new (w := w3) rfl) hb4
    have HB4 := Lib.hid ((HB0.out.trans (HB2.out.mono HB0.out.size)).trans (((below_alloc w3 _).trans (hb4.mono (by simp))).mono (Nat.le_of_lt hlt3)))
    clear hb4 p0 p1 q0 q1
    obtain ⟨⟨r0, r1⟩, s0, s1⟩ := cells2C hrow4
    obtain ⟨⟨u0, u1⟩, _, _⟩ := cells2C hrow4b
    have HROW4 := Lib.hid hrow4
    clear hrow4 hrow4b
    go_wp2_with fail
    obtain ⟨f0, f1, f2⟩ := fin_setC HB4.out HROW4.out (.int .i64 (n : Int)) (.int .i64 x)
    refine bodyPost_ret (results_cel2 rfl rfl f1 f2) rfl ?_
    exact ⟨rfl, f0⟩
  | false =>
    rw [hno hq]
    rw [hq] at hrt
    clear hyes hno hq
    have HRT := Lib.hid hrt
    clear hrt
    go_enter Tryd.func12, Tryd.ntmps12
    go_wp2_with fail
    go_at_call 23
    with_reducible refine (HTR.out _).mono ?_
    rintro e w1 ⟨rfl, hb1⟩
    have HB1 := Lib.hid hb1
    clear hb1
    go_wp2_with fail
    go_at_call 24
    with_reducible refine (HNU.out _ (HE.out.below HB1.out)).mono ?_
    rintro e w2 ⟨rfl, hb2⟩
    have HB2 := Lib.hid (HB1.out.trans (hb2.mono HB1.out.size))
    clear hb2
    go_wp2_with fail
    go_at_call 10
    with_reducible refine (HCO.out _).mono ?_
    rintro e w3 ⟨rfl, rfl⟩
    have hrow3 := row_belowC HROW.out HB2.out
    obtain ⟨⟨p0, p1⟩, q0, q1⟩ := cells2C hrow3
    have HROW3 := Lib.hid hrow3
    have hlt3 : w.heap.size < w3.heap.size := (Array.getElem?_eq_some_iff.1 HROW3.out).1
    clear hrow3
    go_wp2_with fail
    go_at_call 15
    with_reducible refine (HRT.out _).mono ?_
    rintro e w4 ⟨rfl, hb4⟩
    have hrow4 := row_belowC (heap_old HROW3.out) hb4
    have hrow4b := row_belowC (heap_new (w := w3) rfl) hb4
    have HB4 := Lib.hid ((HB0.out.trans (HB2.out.mono HB0.out.size)).trans (((below_alloc w3 _).trans (hb4.mono (by simp))).mono (Nat.le_of_lt hlt3)))
    clear hb4 p0 p1 q0 q1
    obtain ⟨⟨r0, r1⟩, s0, s1⟩ := cells2C hrow4
    obtain ⟨⟨u0, u1⟩, _, _⟩ := cells2C hrow4b
    have HROW4 := Lib.hid hrow4
    clear hrow4 hrow4b
    go_wp2_with fail
    obtain ⟨f0, f1, f2⟩ := fin_setC HB4.out HROW4.out (.int .i64 0) (.int .i64 0)
    refine bodyPost_ret (results_cel2 rfl rfl f1 f2) rfl ?_
    exact ⟨rfl, f0⟩

theorem a1Ok : A1Ok Env where
  keep := fun h hb => h.below hb
  col := fun n w _ hn => col_any n hn w
  column := fun l w _ hl => (column_any l (by omega) w).mono fun e w' ⟨he, hw⟩ => ⟨he, hw ▸ Below.refl _ _⟩
  parse := fun l w hE hl => parse_anyC l w hE hl
  right := fun c r w _ _ _ => right_any c r w
  text := fun c r w hE h0 h1 => text_anyC c r h0 h1 w hE.toEnv0
  ordered := fun a b c d w _ _ _ _ _ => ordered_any a b c d w
  has := fun a b c d x y w _ _ _ _ _ _ _ => has_any a b c d x y w
  rtext := fun a b c d w hE ha hb hc hd => rtext_any a b c d w hE.toEnv0 ha hb hc hd
end Go.Proofs.YtggdpnkfambmfaaDoor
