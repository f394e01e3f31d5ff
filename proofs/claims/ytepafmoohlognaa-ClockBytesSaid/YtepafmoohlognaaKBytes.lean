/-
The law ClockBytes, over contracts of clock's Put and Take.
-/
import Derived.Test.YtepafmoohlognaaKBytM
import Derived.Test.YtepafmoohlognaaKOrders
import Derived.Test.YtepafmoohlognaaWRInt
import Derived.Test.YtepafmoohlognaaWRead2
namespace Go.Proofs.Ytepafmoohlognaa
open Go.RowKit
open Wire (numL valL takeL runL bytesL)

/-- What Take gives: the clock, or nothing. -/
def clkX : Option (List Nat × Nat) → List Nat
  | some (xs, _) => xs
  | none => []
/-- What the law asks of Put and Take; E: what the world holds. -/
structure ClockIO (E : World → Prop) : Prop where
  put : ∀ (B g : Nat) (v : Value) (xs : List Nat) (ns : List Nat) (u : Value) (w : World), E w → FitC ns → RdU w u ns → (ns = [] ∨ ∀ k, u.ownBlock = some k → k < B) → Wr B w g v xs → xs.length ≤ 100000 → B ≤ w.heap.size →
    Calls Try.prog 18 #[.pointer (some ⟨g, 0, none⟩), u] w fun e w' => ∃ u' v', e = .returned u' ∧ Wr B w' g v' (xs ++ clkL (cutF (padF ns))) ∧ Kept g v v' w w'
  take : ∀ (B g : Nat) (v : Value) (xs : List Nat) (w : World), E w → Rr B w g v xs false → xs.length ≤ 100000 → (∀ x ∈ xs, x < 256) →
    Calls Try.prog 21 #[.pointer (some ⟨g, 0, none⟩)] w fun e w' => ∃ u, e = .returned (.tuple #[u, .bool (clkT xs).isSome]) ∧ RdU w' u (clkX (clkT xs)) ∧ (clkX (clkT xs) = [] ∨ ∀ k, u.ownBlock = some k → w.heap.size ≤ k) ∧
      (∀ ys k, clkT xs = some (ys, k) → ∃ v', Rr B w' g v' (xs.drop k) false) ∧ KeptG g w w'

/-- The whole row is read, under a guard that holds. -/
theorem wp_loadFG {ops : Array Oper} {rest : List Oper} {op : Oper} {a : Act} {w : World} {Q : Exit → Act → World → Prop} (hw : Region.wanted op (yielded ops a.tmps) = true) (x : Operand) (ho : op.op = .load 28 x)
    (g : Nat) (hx : a.eval x = .pointer (some ⟨g, 0, none⟩)) (F : List Nat) (hr : Row w g F) (h : wpList Try.prog ops Q rest (a.put op.dst (.agg (fullA F))) w) : wpList Try.prog ops Q (op :: rest) a w := by
  have hl := run_loadAt_mid (P := Try.prog) w g 0 28 (F.map nu) _ hr.range Try.underlying28 rfl (by rw [info_full]; simp [hr.2])
  rw [wpList, if_pos hw]
  refine .inl ?_
  unfold Oper.wp execOp
  simp only [ho, hx]
  rw [Sem.run_bind, hl]
  exact h
theorem RdU.keptG {g : Nat} {w w' : World} {v : Value} {ns : List Nat} (h : RdU w v ns) (hk : KeptG g w w') (hne : ns = [] ∨ ∀ k, v.ownBlock = some k → k ≠ g) : RdU w' v ns := by
  refine h.other hk.size ?_
  by_cases hn : ns = []
  · exact .inl hn
  · rcases hne with e | e
    · exact .inl e
    · exact .inr fun b hb => hk.block b (h.block_lt hn hb) (e b hb) (by simp [Value.ownBlock])

set_option maxRecDepth 20000 in
set_option maxHeartbeats 4000000 in
theorem kbytes_fit {E : World → Prop} (K : ClockOk E) (J : ClockIO E) (ns : List Nat) (bs : List Nat) (n c m d : Nat) (A A2 : Option Addr) (hn : n = ns.length) (hm : m = bs.length) (hm1 : m ≤ 1000) (hf : FitC ns) (hbb : ∀ x ∈ bs, x < 256) (w : World) (hE : E w) (hr : RdU w (.slice A n c) ns) (hrb : Rd w (.slice A2 m d) bs) :
    Calls Try.prog 5 #[.slice A n c, .slice A2 m d] w fun e w' => e = .returned (.bool true) ∧ Below w.heap.size w w' := by
  have hn64 : n ≤ 64 := by rw [hn]; exact hf.1
  have HKEEP := Lib.hid (fun w w' (h : E w) hb => K.keep (w' := w') h hb)
  have HAW := Lib.hid (fun W h => awake_any K W h)
  have HPUT := Lib.hid J.put
  have HTAKE := Lib.hid J.take
  have HE0 := Lib.hid hE
  have HR := Lib.hid hr
  have HRB := Lib.hid hrb
  have HN := Lib.hid hn
  have HM := Lib.hid hm
  have HF := Lib.hid hf
  have HBB := Lib.hid hbb
  have HPL := Lib.hid (padF_len hf.1)
  have HPF := Lib.hid (pad_fit hf)
  have hl := clkL_len (cutpad_fit hf)
  have HLEN := Lib.hid (show (clkL (cutF (padF ns))).length ≤ 500000 by omega)
  have HLEN1 := Lib.hid (show (clkL (cutF (padF ns))).length ≤ 100000 by omega)
  have HBY := Lib.hid (clkL_bytes (ns := cutF (padF ns)))
  have hshort := short_form n c A (by omega) w
  rw [decide_eq_true hn64] at hshort
  have HSH := Lib.hid hshort
  have htk := clkT_put hf
  have HTK := Lib.hid htk
  have hisx := fun v W h => is_any (cutF (padF ns)) (padF ns) v (Nat.le_trans (cut_len HPL.out) (by decide)) HPL.out W h
  rw [decide_eq_true (show cutF (padF ns) = cutF (padF ns) from rfl)] at hisx
  have HISX0 := Lib.hid hisx
  have HNW := Lib.hid (Wr.new w)
  have hb0 := below_alloc w (.cells #[.slice none 0 0] 42)
  clear hE hr hrb hn hm hf hbb hl hshort htk hisx K J
  go_enter Try.func5, Try.ntmps5
  go_wp2_with (go_at_call 6; (with_reducible refine HSH.out.mono ?_); rintro e w1 ⟨rfl, rfl⟩)
  refine (HPUT.out w.heap.size w.heap.size _ [] ns _ _ (HKEEP.out _ _ HE0.out hb0) HF.out (HR.out.below hb0) ?_ HNW.out (by simp) (by simp)).mono ?_
  · by_cases h0 : ns = []
    · exact .inl h0
    · exact .inr fun k hk => HR.out.block_lt h0 hk
  rintro e w1 ⟨u1, v1, rfl, hw1, hk1⟩
  rw [List.nil_append] at hw1
  have hx1 : Below w.heap.size (w.alloc (.cells #[.slice none 0 0] 42)) w1 := hk1.below (Nat.le_refl _) (fun k hk => by simp [Value.ownBlock] at hk) (by simp)
  have hww : Below w.heap.size w w1 := hb0.trans hx1
  have HW1 := Lib.hid hw1
  clear hw1 hk1 hx1
  go_wp2_with fail
  refine (wdone_any _ _ _ _ _ HW1.out HLEN.out).mono ?_
  rintro e w2 ⟨v2, rfl, ho2, hb2⟩
  have HO2 := Lib.hid ho2.rd
  clear ho2
  go_wp2_with fail
  refine (read_any _ _ _ HO2.out HLEN1.out).mono ?_
  rintro e w3 ⟨g3, v3, rfl, hr3, hb3⟩
  have HR3 := Lib.hid hr3
  have hx3 : Below w1.heap.size w1 w3 := hb2.trans (hb3.mono hb2.size)
  have hg3 : w1.heap.size ≤ g3 := Nat.le_trans hb2.size hr3.1
  have hwx3 := hww.trans (hx3.mono hww.size)
  clear hr3 hb3
  go_wp2_with fail
  refine (read_own _ bs _ (HRB.out.below hwx3) (by rw [← HM.out]; omega)).mono ?_
  rintro e w4 ⟨g4, v4, rfl, hr4, hb4, ho4⟩
  have hx4 : Below w1.heap.size w1 w4 := hx3.trans (hb4.mono hx3.size)
  have HR34 := Lib.hid (HR3.out.keep hb4)
  have hg34 : g3 < g4 := Nat.lt_of_lt_of_le HR3.out.lt hr4.1
  have HR4 := Lib.hid hr4
  have hwx4 := hww.trans (hx4.mono hww.size)
  clear hr4
  go_wp2_with fail
  refine (HTAKE.out _ _ _ _ _ (HKEEP.out _ _ HE0.out hwx4) HR34.out HLEN1.out HBY.out).mono ?_
  rintro e w5 ⟨x5, he5, hx5r, hx5b, hx5s, hk5⟩
  rw [HTK.out] at he5 hx5r hx5b
  obtain ⟨v5, hr5⟩ := hx5s _ _ HTK.out
  rw [List.drop_of_length_le (Nat.le_refl _)] at hr5
  simp only [Option.isSome_some] at he5
  subst he5
  have hx5 : Below w1.heap.size w1 w5 := hx4.trans (KeptG.below hk5 hg3 hx4.size)
  have hg4lt : g4 < w4.heap.size := HR4.out.lt
  have HR45 := Lib.hid (HR4.out.otherG hk5 (by omega) (fun e => by have := ho4 _ e; have := HR3.out.lt; omega))
  have HRR5 := Lib.hid hr5
  have hg4w : w1.heap.size ≤ g4 := by omega
  have HX5 := Lib.hid hx5r
  have HXB : Hid (cutF (padF ns) = [] ∨ ∀ k, x5.ownBlock = some k → k ≠ g4) := Lib.hid (by
    rcases hx5b with e | e
    · exact .inl e
    · exact .inr fun k hk => by have := e k hk; omega)
  have hwx5 := hww.trans (hx5.mono hww.size)
  clear hx5r hx5b hx5s hr5 hk5 ho4
  go_wp2_with fail
  refine (HTAKE.out _ _ _ _ _ (HKEEP.out _ _ HE0.out hwx5) HR45.out (by rw [← HM.out]; omega) HBB.out).mono ?_
  rintro e w6 ⟨y6, he6, hy6r, _, hy6s, hk6⟩
  have hx6 : Below w1.heap.size w1 w6 := hx5.trans (KeptG.below hk6 hg4w hx5.size)
  have HRR6 := Lib.hid (HRR5.out.otherNil hk6 (by omega))
  have HX6 := Lib.hid (HX5.out.keptG hk6 HXB.out)
  have hwx6 := hww.trans (hx6.mono hww.size)
  clear hk6
  cases hct : clkT bs with
  | none =>
    rw [hct] at he6 hy6r
    simp only [Option.isSome_none] at he6
    subst he6
    have hkt := fun W h => ktake_form bs m d A2 HM.out (by omega) HBB.out W h
    rw [hct] at hkt
    have HKT := Lib.hid (show ∀ W, Rd W (.slice A2 m d) bs → Calls Try.prog 22 #[.slice A2 m d] W fun e w' => e = .returned (.tuple #[.agg (fullA zeroF), .int .i64 0]) ∧ Below W.heap.size W w' from hkt)
    have HY6 := Lib.hid (show RdU w6 y6 [] from hy6r)
    have hisy := fun v W h => is_any [] zeroF v (by decide) rfl W h
    rw [decide_eq_true (show [] = cutF zeroF by decide)] at hisy
    have HISY := Lib.hid hisy
    clear hy6r hy6s hkt hisy hct
    go_wp2_with fail
    refine (HKT.out _ (HRB.out.below hwx6)).mono ?_
    rintro e w7 ⟨rfl, hb7⟩
    go_wp2_with (first
      | (refine wp_storeF rfl _ _ rfl w7.heap.size rfl zeroF zeroF rfl (row_zero w7) rfl ?_; intro wz hrz hoz hbz; have HRZ := Lib.hid hrz; have hb6z := hb7.trans (((below_alloc w7 _).trans (hbz _ (Nat.le_refl _))).mono hb7.size); clear hrz hoz hbz)
      | (refine wp_loadFG rfl _ rfl w7.heap.size rfl _ HRZ.out ?_)
      | (go_at_call 10; (with_reducible refine (HISY.out _ _ (HY6.out.below hb6z)).mono ?_); rintro e w8 ⟨rfl, hb8⟩))
    have hx68 : Below w6.heap.size w6 w8 := hb6z.trans (hb8.mono hb6z.size)
    have hx8 := hx6.trans (hx68.mono hx6.size)
    have hwx8 := hww.trans (hx8.mono hww.size)
    have HW := Lib.hid (HW1.out.keep hx8)
    have HX := Lib.hid (HX6.out.below hx68)
    have HRR := Lib.hid (HRR6.out.keep hx68)
    have HC := Lib.hid (HR.out.below hwx8)
    have HE := Lib.hid (HKEEP.out _ _ HE0.out hwx8)
    have HISX := Lib.hid (fun W h => HISX0.out x5 W h)
    clear hb6z hb8
    refine wp_region_noPanic ?_
    refine wp_region_below (by kernel_rfl) (fun HS0 => ?_)
    refine wpAnyH_take (i := 2) (v := ?_) rfl (by kernel_rfl) (by kernel_rfl) (by kernel_rfl) (fun _ _ _ h => h) (Or.inl ⟨by rfl, ?_⟩) HS0 ?_
    rotate_left
    · intro w hE; go_simp; try with_reducible rfl
    simp only [List.getElem_toArray, List.getElem_cons_succ, List.getElem_cons_zero, Act.put, List.setIfInBounds_toArray, List.set_cons_zero, List.set_cons_succ]
    refine wpAnyH_ready (rs := [0]) (by kernel_rfl) (by simp) ?_
    refine AllReadyH.cons rfl (fun K hK => ?_) AllReadyH.nil
    go_simp
    go_at_call 20
    refine (wdone_any _ _ _ _ _ (HW.out.keep HS0) HLEN.out).mono ?_
    rintro e wA ⟨vA, rfl, hoA, hbA⟩
    go_simp
    refine hK.out _ _ (HS0.trans hbA) (fun HS1 => ?_)
    clear hK
    have hxA : Below w8.heap.size w8 wA := HS0.trans hbA
    have HOA := Lib.hid (show Rd wA vA (clkL (cutF (padF ns))) from hoA.rd)
    clear hoA hbA
    try simp only [List.getElem_toArray, List.getElem_cons_succ, List.getElem_cons_zero, Act.put, List.setIfInBounds_toArray, List.set_cons_zero, List.set_cons_succ]
    refine wpAnyH_from hxA (hxA).size (fun HS2 => ?_)
    refine wpAnyH_take (i := 1) (v := ?_) rfl (by kernel_rfl) (by kernel_rfl) (by kernel_rfl) (fun _ _ _ h => h) (Or.inl ⟨by rfl, ?_⟩) HS2 ?_
    rotate_left
    · intro w hE; have hcv := conv_rd (HOA.out.below hE); go_simp; try with_reducible rfl
    simp only [List.getElem_toArray, List.getElem_cons_succ, List.getElem_cons_zero, Act.put, List.setIfInBounds_toArray, List.set_cons_zero, List.set_cons_succ]
    refine wpAnyH_ready (rs := [3]) (by kernel_rfl) (by simp) ?_
    refine AllReadyH.cons rfl (fun K hK => ?_) AllReadyH.nil
    go_simp
    go_at_call 8
    refine (rof_form ns n c A HN.out hn64 _ (HC.out.below hxA)).mono ?_
    rintro e wB ⟨rfl, hbB⟩
    go_simp
    refine hK.out _ _ hbB (fun HS3 => ?_)
    clear hK
    have hxB := hxA.trans (hbB.mono hxA.size)
    try simp only [List.getElem_toArray, List.getElem_cons_succ, List.getElem_cons_zero, Act.put, List.setIfInBounds_toArray, List.set_cons_zero, List.set_cons_succ]
    refine wpAnyH_ready (rs := [4]) (by kernel_rfl) (by simp) ?_
    refine AllReadyH.cons rfl (fun K hK => ?_) AllReadyH.nil
    go_simp
    go_at_call 24
    refine (rput_form (padF ns) HPL.out HPF.out _).mono ?_
    rintro e wC ⟨vC, rfl, hoC, hbC⟩
    go_simp
    refine hK.out _ _ (hbB.trans (hbC.mono hbB.size)) (fun HS4 => ?_)
    clear hK
    have hxC := hxB.trans (hbC.mono hxB.size)
    have hxAC := hbB.trans (hbC.mono hbB.size)
    have HOC := Lib.hid (show Rd wC vC (clkL (cutF (padF ns))) from hoC.rd)
    clear hoC
    try simp only [List.getElem_toArray, List.getElem_cons_succ, List.getElem_cons_zero, Act.put, List.setIfInBounds_toArray, List.set_cons_zero, List.set_cons_succ]
    refine wpAnyH_from hxAC (hxAC).size (fun HS5 => ?_)
    refine wpAnyH_take (i := 5) (v := ?_) rfl (by kernel_rfl) (by kernel_rfl) (by kernel_rfl) (fun _ _ _ h => h) (Or.inl ⟨by rfl, ?_⟩) HS5 ?_
    rotate_left
    · intro w hE; have hcv := conv_rd (HOC.out.below hE); go_simp; try with_reducible rfl
    simp only [List.getElem_toArray, List.getElem_cons_succ, List.getElem_cons_zero, Act.put, List.setIfInBounds_toArray, List.set_cons_zero, List.set_cons_succ]
    refine wpAnyH_take (i := 6) (v := ?_) rfl (by kernel_rfl) (by kernel_rfl) (by kernel_rfl) (fun _ _ _ h => h) (Or.inl ⟨by rfl, ?_⟩) HS5 ?_
    rotate_left
    · intro w hE; go_simp; try with_reducible rfl
    simp only [List.getElem_toArray, List.getElem_cons_succ, List.getElem_cons_zero, Act.put, List.setIfInBounds_toArray, List.set_cons_zero, List.set_cons_succ]
    refine wpAnyH_take (i := 7) (v := ?_) rfl (by kernel_rfl) (by kernel_rfl) (by kernel_rfl) (fun _ _ _ h => h) (Or.inl ⟨by rfl, ?_⟩) HS5 ?_
    rotate_left
    · intro w hE; go_simp; try with_reducible rfl
    simp only [List.getElem_toArray, List.getElem_cons_succ, List.getElem_cons_zero, Act.put, List.setIfInBounds_toArray, List.set_cons_zero, List.set_cons_succ]
    refine wpAnyH_take (i := 8) (v := ?_) rfl (by kernel_rfl) (by kernel_rfl) (by kernel_rfl) (fun _ _ _ h => h) (Or.inl ⟨by rfl, ?_⟩) HS5 ?_
    rotate_left
    · intro w hE; go_simp; try with_reducible rfl
    simp only [List.getElem_toArray, List.getElem_cons_succ, List.getElem_cons_zero, Act.put, List.setIfInBounds_toArray, List.set_cons_zero, List.set_cons_succ]
    refine wpAnyH_take (i := 9) (v := ?_) rfl (by kernel_rfl) (by kernel_rfl) (by kernel_rfl) (fun _ _ _ h => h) (Or.inl ⟨by rfl, ?_⟩) HS5 ?_
    rotate_left
    · intro w hE; go_simp; try with_reducible rfl
    simp only [List.getElem_toArray, List.getElem_cons_succ, List.getElem_cons_zero, Act.put, List.setIfInBounds_toArray, List.set_cons_zero, List.set_cons_succ]
    refine wpAnyH_take (i := 10) (v := ?_) rfl (by kernel_rfl) (by kernel_rfl) (by kernel_rfl) (fun _ _ _ h => h) (Or.inl ⟨by rfl, ?_⟩) HS5 ?_
    rotate_left
    · intro w hE; go_simp; try with_reducible rfl
    simp only [List.getElem_toArray, List.getElem_cons_succ, List.getElem_cons_zero, Act.put, List.setIfInBounds_toArray, List.set_cons_zero, List.set_cons_succ]
    refine wpAnyH_take (i := 11) (v := ?_) rfl (by kernel_rfl) (by kernel_rfl) (by kernel_rfl) (fun _ _ _ h => h) (Or.inl ⟨by rfl, ?_⟩) HS5 ?_
    rotate_left
    · intro w hE; go_simp; try with_reducible rfl
    simp only [List.getElem_toArray, List.getElem_cons_succ, List.getElem_cons_zero, Act.put, List.setIfInBounds_toArray, List.set_cons_zero, List.set_cons_succ]
    refine wpAnyH_take (i := 12) (v := ?_) rfl (by kernel_rfl) (by kernel_rfl) (by kernel_rfl) (fun _ _ _ h => h) (Or.inl ⟨by rfl, ?_⟩) HS5 ?_
    rotate_left
    · intro w hE; go_simp; try with_reducible rfl
    simp only [List.getElem_toArray, List.getElem_cons_succ, List.getElem_cons_zero, Act.put, List.setIfInBounds_toArray, List.set_cons_zero, List.set_cons_succ]
    refine wpAnyH_ready (rs := [13]) (by kernel_rfl) (by simp) ?_
    refine AllReadyH.cons rfl (fun K hK => ?_) AllReadyH.nil
    go_simp
    go_at_call 8
    refine (rof_form ns n c A HN.out hn64 _ (HC.out.below hxC)).mono ?_
    rintro e wD ⟨rfl, hbD⟩
    go_simp
    refine hK.out _ _ hbD (fun HS6 => ?_)
    clear hK
    have hxD := hxC.trans (hbD.mono hxC.size)
    try simp only [List.getElem_toArray, List.getElem_cons_succ, List.getElem_cons_zero, Act.put, List.setIfInBounds_toArray, List.set_cons_zero, List.set_cons_succ]
    refine wpAnyH_ready (rs := [14]) (by kernel_rfl) (by simp) ?_
    refine AllReadyH.cons rfl (fun K hK => ?_) AllReadyH.nil
    go_simp
    go_at_call 10
    refine (HISX.out _ (HX.out.below hxD)).mono ?_
    rintro e wE ⟨rfl, hbE⟩
    go_simp
    refine hK.out _ _ (hbD.trans (hbE.mono hbD.size)) (fun HS7 => ?_)
    clear hK
    have hxE := hxD.trans (hbE.mono hxD.size)
    have hxCE := hbD.trans (hbE.mono hbD.size)
    try simp only [List.getElem_toArray, List.getElem_cons_succ, List.getElem_cons_zero, Act.put, List.setIfInBounds_toArray, List.set_cons_zero, List.set_cons_succ]
    refine wpAnyH_take (i := 15) (v := ?_) rfl (by kernel_rfl) (by kernel_rfl) (by kernel_rfl) (fun _ _ _ h => h) (Or.inl ⟨by rfl, ?_⟩) HS7 ?_
    rotate_left
    · intro w hE; go_simp; try with_reducible rfl
    simp only [List.getElem_toArray, List.getElem_cons_succ, List.getElem_cons_zero, Act.put, List.setIfInBounds_toArray, List.set_cons_zero, List.set_cons_succ]
    refine wpAnyH_take (i := 16) (v := ?_) rfl (by kernel_rfl) (by kernel_rfl) (by kernel_rfl) (fun _ _ _ h => h) (Or.inl ⟨by rfl, ?_⟩) HS7 ?_
    rotate_left
    · intro w hE; go_simp; try with_reducible rfl
    simp only [List.getElem_toArray, List.getElem_cons_succ, List.getElem_cons_zero, Act.put, List.setIfInBounds_toArray, List.set_cons_zero, List.set_cons_succ]
    refine wpAnyH_take (i := 17) (v := ?_) rfl (by kernel_rfl) (by kernel_rfl) (by kernel_rfl) (fun _ _ _ h => h) (Or.inl ⟨by rfl, ?_⟩) HS7 ?_
    rotate_left
    · intro w hE; go_simp; try with_reducible rfl
    simp only [List.getElem_toArray, List.getElem_cons_succ, List.getElem_cons_zero, Act.put, List.setIfInBounds_toArray, List.set_cons_zero, List.set_cons_succ]
    refine wpAnyH_ready (rs := [18]) (by kernel_rfl) (by simp) ?_
    refine AllReadyH.cons rfl (fun K hK => ?_) AllReadyH.nil
    go_simp
    go_at_call 25
    refine (end_any _ _ _ _ _ _ (HRR.out.keep hxE) (by simp)).mono ?_
    rintro e wF ⟨rfl, rfl⟩
    go_simp
    refine hK.out _ _ hxCE (fun HS8 => ?_)
    clear hK
    try simp only [List.getElem_toArray, List.getElem_cons_succ, List.getElem_cons_zero, Act.put, List.setIfInBounds_toArray, List.set_cons_zero, List.set_cons_succ]
    refine wpAnyH_take (i := 19) (v := ?_) rfl (by kernel_rfl) (by kernel_rfl) (by kernel_rfl) (fun _ _ _ h => h) (Or.inl ⟨by rfl, ?_⟩) HS8 ?_
    rotate_left
    · intro w hE; go_simp; try with_reducible rfl
    simp only [List.getElem_toArray, List.getElem_cons_succ, List.getElem_cons_zero, Act.put, List.setIfInBounds_toArray, List.set_cons_zero, List.set_cons_succ]
    refine wpAnyH_take (i := 20) (v := ?_) rfl (by kernel_rfl) (by kernel_rfl) (by kernel_rfl) (fun _ _ _ h => h) (Or.inl ⟨by rfl, ?_⟩) HS8 ?_
    rotate_left
    · intro w hE; go_simp; try with_reducible rfl
    simp only [List.getElem_toArray, List.getElem_cons_succ, List.getElem_cons_zero, Act.put, List.setIfInBounds_toArray, List.set_cons_zero, List.set_cons_succ]
    refine wpAnyH_ready (rs := [21]) (by kernel_rfl) (by simp) ?_
    refine AllReadyH.cons rfl (fun K hK => ?_) AllReadyH.nil
    go_simp
    go_at_call 7
    refine (HAW.out _ (HKEEP.out _ _ HE.out hxE)).mono ?_
    rintro e wG ⟨rfl, hbG⟩
    go_simp
    refine hK.out _ _ (hxCE.trans (hbG.mono hxCE.size)) (fun HS9 => ?_)
    clear hK
    have hxG := hxE.trans (hbG.mono hxE.size)
    try simp only [List.getElem_toArray, List.getElem_cons_succ, List.getElem_cons_zero, Act.put, List.setIfInBounds_toArray, List.set_cons_zero, List.set_cons_succ]
    refine wpAnyH_take (i := 22) (v := ?_) rfl (by kernel_rfl) (by kernel_rfl) (by kernel_rfl) (fun _ _ _ h => h) (Or.inl ⟨by rfl, ?_⟩) HS9 ?_
    rotate_left
    · intro w hE; go_simp; try with_reducible rfl
    simp only [List.getElem_toArray, List.getElem_cons_succ, List.getElem_cons_zero, Act.put, List.setIfInBounds_toArray, List.set_cons_zero, List.set_cons_succ]
    refine wpAnyH_take (i := 23) (v := ?_) rfl (by kernel_rfl) (by kernel_rfl) (by kernel_rfl) (fun _ _ _ h => h) (Or.inl ⟨by rfl, ?_⟩) HS9 ?_
    rotate_left
    · intro w hE; go_simp; try with_reducible rfl
    simp only [List.getElem_toArray, List.getElem_cons_succ, List.getElem_cons_zero, Act.put, List.setIfInBounds_toArray, List.set_cons_zero, List.set_cons_succ]
    refine wpAnyH_done (by kernel_rfl) ?_ _
    refine NoPanic.normal ?_
    go_wp2
    go_ret
    exact ⟨rfl, hwx8.trans (hxG.mono hwx8.size)⟩
  | some p =>
    obtain ⟨ys, k⟩ := p
    obtain ⟨hys, hk0, hkb, hylast, hyx⟩ := clkT_some hct
    obtain ⟨v6, hr6⟩ := hy6s _ _ hct
    rw [hct] at he6 hy6r
    simp only [Option.isSome_some] at he6
    subst he6
    have HS6 := Lib.hid hr6
    have HY6 := Lib.hid (show RdU w6 y6 ys from hy6r)
    have hkt := fun W h => ktake_form bs m d A2 HM.out (by omega) HBB.out W h
    rw [hct] at hkt
    have HKT := Lib.hid (show ∀ W, Rd W (.slice A2 m d) bs → Calls Try.prog 22 #[.slice A2 m d] W fun e w' => e = .returned (.tuple #[.agg (fullA (padF ys)), .int .i64 (k : Int)]) ∧ Below W.heap.size W w' from hkt)
    have HPY := Lib.hid (padF_len hys)
    have hisy := fun v W h => is_any ys (padF ys) v (Nat.le_trans hys (by decide)) HPY.out W h
    rw [decide_eq_true (show ys = cutF (padF ys) from (cut_pad hys hylast).symm)] at hisy
    have HISY := Lib.hid hisy
    have hkm : k ≤ m := by rw [HM.out]; exact hkb
    have HLD : Hid ((bs.drop k).length = m - k) := Lib.hid (by rw [List.length_drop, HM.out])
    have HLD1 : Hid ((bs.drop k).length ≤ 100000) := Lib.hid (by rw [HLD.out]; omega)
    clear hy6r hy6s hr6 hkt hisy hys hylast hyx hkb hct
    go_wp2_with fail
    refine (HKT.out _ (HRB.out.below hwx6)).mono ?_
    rintro e w7 ⟨rfl, hb7⟩
    have t1 : decide ((0 : Int) < (k : Int)) = true := by simp; omega
    have hlf := fun W h => left_any w3.heap.size g4 v6 (bs.drop k) false W h HLD1.out
    rw [HLD.out, show ((m - k : Nat) : Int) = (m : Int) - (k : Int) by omega] at hlf
    have HLEFT := Lib.hid hlf
    clear hlf
    go_wp2_with (first
      | (refine wp_storeF rfl _ _ rfl w7.heap.size rfl zeroF (padF ys) rfl (row_zero w7) HPY.out ?_; intro wz hrz hoz hbz; have HRZ := Lib.hid hrz; have hb6z := hb7.trans (((below_alloc w7 _).trans (hbz _ (Nat.le_refl _))).mono hb7.size); clear hrz hoz hbz)
      | (refine wp_loadFG rfl _ rfl w7.heap.size rfl _ HRZ.out ?_)
      | (go_at_call 10; (with_reducible refine (HISY.out _ _ (HY6.out.below hb6z)).mono ?_); rintro e w8 ⟨rfl, hb8⟩)
      | (go_at_call 23; (with_reducible refine (HLEFT.out _ (HS6.out.keep (hb6z.trans (hb8.mono hb6z.size)))).mono ?_); rintro e w9 ⟨rfl, rfl⟩))
    have hx68 : Below w6.heap.size w6 w8 := hb6z.trans (hb8.mono hb6z.size)
    have hx8 := hx6.trans (hx68.mono hx6.size)
    have hwx8 := hww.trans (hx8.mono hww.size)
    have HW := Lib.hid (HW1.out.keep hx8)
    have HX := Lib.hid (HX6.out.below hx68)
    have HRR := Lib.hid (HRR6.out.keep hx68)
    have HC := Lib.hid (HR.out.below hwx8)
    have HE := Lib.hid (HKEEP.out _ _ HE0.out hwx8)
    have HISX := Lib.hid (fun W h => HISX0.out x5 W h)
    clear hb6z hb8
    refine wp_region_noPanic ?_
    refine wp_region_below (by kernel_rfl) (fun HS0 => ?_)
    refine wpAnyH_take (i := 2) (v := ?_) rfl (by kernel_rfl) (by kernel_rfl) (by kernel_rfl) (fun _ _ _ h => h) (Or.inl ⟨by rfl, ?_⟩) HS0 ?_
    rotate_left
    · intro w hE; go_simp; try with_reducible rfl
    simp only [List.getElem_toArray, List.getElem_cons_succ, List.getElem_cons_zero, Act.put, List.setIfInBounds_toArray, List.set_cons_zero, List.set_cons_succ]
    refine wpAnyH_ready (rs := [0]) (by kernel_rfl) (by simp) ?_
    refine AllReadyH.cons rfl (fun K hK => ?_) AllReadyH.nil
    go_simp
    go_at_call 20
    refine (wdone_any _ _ _ _ _ (HW.out.keep HS0) HLEN.out).mono ?_
    rintro e wA ⟨vA, rfl, hoA, hbA⟩
    go_simp
    refine hK.out _ _ (HS0.trans hbA) (fun HS1 => ?_)
    clear hK
    have hxA : Below w8.heap.size w8 wA := HS0.trans hbA
    have HOA := Lib.hid (show Rd wA vA (clkL (cutF (padF ns))) from hoA.rd)
    clear hoA hbA
    try simp only [List.getElem_toArray, List.getElem_cons_succ, List.getElem_cons_zero, Act.put, List.setIfInBounds_toArray, List.set_cons_zero, List.set_cons_succ]
    refine wpAnyH_from hxA (hxA).size (fun HS2 => ?_)
    refine wpAnyH_take (i := 1) (v := ?_) rfl (by kernel_rfl) (by kernel_rfl) (by kernel_rfl) (fun _ _ _ h => h) (Or.inl ⟨by rfl, ?_⟩) HS2 ?_
    rotate_left
    · intro w hE; have hcv := conv_rd (HOA.out.below hE); go_simp; try with_reducible rfl
    simp only [List.getElem_toArray, List.getElem_cons_succ, List.getElem_cons_zero, Act.put, List.setIfInBounds_toArray, List.set_cons_zero, List.set_cons_succ]
    refine wpAnyH_ready (rs := [3]) (by kernel_rfl) (by simp) ?_
    refine AllReadyH.cons rfl (fun K hK => ?_) AllReadyH.nil
    go_simp
    go_at_call 8
    refine (rof_form ns n c A HN.out hn64 _ (HC.out.below hxA)).mono ?_
    rintro e wB ⟨rfl, hbB⟩
    go_simp
    refine hK.out _ _ hbB (fun HS3 => ?_)
    clear hK
    have hxB := hxA.trans (hbB.mono hxA.size)
    try simp only [List.getElem_toArray, List.getElem_cons_succ, List.getElem_cons_zero, Act.put, List.setIfInBounds_toArray, List.set_cons_zero, List.set_cons_succ]
    refine wpAnyH_ready (rs := [4]) (by kernel_rfl) (by simp) ?_
    refine AllReadyH.cons rfl (fun K hK => ?_) AllReadyH.nil
    go_simp
    go_at_call 24
    refine (rput_form (padF ns) HPL.out HPF.out _).mono ?_
    rintro e wC ⟨vC, rfl, hoC, hbC⟩
    go_simp
    refine hK.out _ _ (hbB.trans (hbC.mono hbB.size)) (fun HS4 => ?_)
    clear hK
    have hxC := hxB.trans (hbC.mono hxB.size)
    have hxAC := hbB.trans (hbC.mono hbB.size)
    have HOC := Lib.hid (show Rd wC vC (clkL (cutF (padF ns))) from hoC.rd)
    clear hoC
    try simp only [List.getElem_toArray, List.getElem_cons_succ, List.getElem_cons_zero, Act.put, List.setIfInBounds_toArray, List.set_cons_zero, List.set_cons_succ]
    refine wpAnyH_from hxAC (hxAC).size (fun HS5 => ?_)
    refine wpAnyH_take (i := 5) (v := ?_) rfl (by kernel_rfl) (by kernel_rfl) (by kernel_rfl) (fun _ _ _ h => h) (Or.inl ⟨by rfl, ?_⟩) HS5 ?_
    rotate_left
    · intro w hE; have hcv := conv_rd (HOC.out.below hE); go_simp; try with_reducible rfl
    simp only [List.getElem_toArray, List.getElem_cons_succ, List.getElem_cons_zero, Act.put, List.setIfInBounds_toArray, List.set_cons_zero, List.set_cons_succ]
    refine wpAnyH_take (i := 6) (v := ?_) rfl (by kernel_rfl) (by kernel_rfl) (by kernel_rfl) (fun _ _ _ h => h) (Or.inl ⟨by rfl, ?_⟩) HS5 ?_
    rotate_left
    · intro w hE; go_simp; try with_reducible rfl
    simp only [List.getElem_toArray, List.getElem_cons_succ, List.getElem_cons_zero, Act.put, List.setIfInBounds_toArray, List.set_cons_zero, List.set_cons_succ]
    refine wpAnyH_take (i := 7) (v := ?_) rfl (by kernel_rfl) (by kernel_rfl) (by kernel_rfl) (fun _ _ _ h => h) (Or.inl ⟨by rfl, ?_⟩) HS5 ?_
    rotate_left
    · intro w hE; go_simp; try with_reducible rfl
    simp only [List.getElem_toArray, List.getElem_cons_succ, List.getElem_cons_zero, Act.put, List.setIfInBounds_toArray, List.set_cons_zero, List.set_cons_succ]
    refine wpAnyH_take (i := 8) (v := ?_) rfl (by kernel_rfl) (by kernel_rfl) (by kernel_rfl) (fun _ _ _ h => h) (Or.inl ⟨by rfl, ?_⟩) HS5 ?_
    rotate_left
    · intro w hE; go_simp; try with_reducible rfl
    simp only [List.getElem_toArray, List.getElem_cons_succ, List.getElem_cons_zero, Act.put, List.setIfInBounds_toArray, List.set_cons_zero, List.set_cons_succ]
    refine wpAnyH_take (i := 9) (v := ?_) rfl (by kernel_rfl) (by kernel_rfl) (by kernel_rfl) (fun _ _ _ h => h) (Or.inl ⟨by rfl, ?_⟩) HS5 ?_
    rotate_left
    · intro w hE; go_simp; try with_reducible rfl
    simp only [List.getElem_toArray, List.getElem_cons_succ, List.getElem_cons_zero, Act.put, List.setIfInBounds_toArray, List.set_cons_zero, List.set_cons_succ]
    refine wpAnyH_take (i := 10) (v := ?_) rfl (by kernel_rfl) (by kernel_rfl) (by kernel_rfl) (fun _ _ _ h => h) (Or.inl ⟨by rfl, ?_⟩) HS5 ?_
    rotate_left
    · intro w hE; go_simp; try with_reducible rfl
    simp only [List.getElem_toArray, List.getElem_cons_succ, List.getElem_cons_zero, Act.put, List.setIfInBounds_toArray, List.set_cons_zero, List.set_cons_succ]
    refine wpAnyH_take (i := 11) (v := ?_) rfl (by kernel_rfl) (by kernel_rfl) (by kernel_rfl) (fun _ _ _ h => h) (Or.inl ⟨by rfl, ?_⟩) HS5 ?_
    rotate_left
    · intro w hE; go_simp; try with_reducible rfl
    simp only [List.getElem_toArray, List.getElem_cons_succ, List.getElem_cons_zero, Act.put, List.setIfInBounds_toArray, List.set_cons_zero, List.set_cons_succ]
    refine wpAnyH_take (i := 12) (v := ?_) rfl (by kernel_rfl) (by kernel_rfl) (by kernel_rfl) (fun _ _ _ h => h) (Or.inl ⟨by rfl, ?_⟩) HS5 ?_
    rotate_left
    · intro w hE; go_simp; try with_reducible rfl
    simp only [List.getElem_toArray, List.getElem_cons_succ, List.getElem_cons_zero, Act.put, List.setIfInBounds_toArray, List.set_cons_zero, List.set_cons_succ]
    refine wpAnyH_ready (rs := [13]) (by kernel_rfl) (by simp) ?_
    refine AllReadyH.cons rfl (fun K hK => ?_) AllReadyH.nil
    go_simp
    go_at_call 8
    refine (rof_form ns n c A HN.out hn64 _ (HC.out.below hxC)).mono ?_
    rintro e wD ⟨rfl, hbD⟩
    go_simp
    refine hK.out _ _ hbD (fun HS6 => ?_)
    clear hK
    have hxD := hxC.trans (hbD.mono hxC.size)
    try simp only [List.getElem_toArray, List.getElem_cons_succ, List.getElem_cons_zero, Act.put, List.setIfInBounds_toArray, List.set_cons_zero, List.set_cons_succ]
    refine wpAnyH_ready (rs := [14]) (by kernel_rfl) (by simp) ?_
    refine AllReadyH.cons rfl (fun K hK => ?_) AllReadyH.nil
    go_simp
    go_at_call 10
    refine (HISX.out _ (HX.out.below hxD)).mono ?_
    rintro e wE ⟨rfl, hbE⟩
    go_simp
    refine hK.out _ _ (hbD.trans (hbE.mono hbD.size)) (fun HS7 => ?_)
    clear hK
    have hxE := hxD.trans (hbE.mono hxD.size)
    have hxCE := hbD.trans (hbE.mono hbD.size)
    try simp only [List.getElem_toArray, List.getElem_cons_succ, List.getElem_cons_zero, Act.put, List.setIfInBounds_toArray, List.set_cons_zero, List.set_cons_succ]
    refine wpAnyH_take (i := 15) (v := ?_) rfl (by kernel_rfl) (by kernel_rfl) (by kernel_rfl) (fun _ _ _ h => h) (Or.inl ⟨by rfl, ?_⟩) HS7 ?_
    rotate_left
    · intro w hE; go_simp; try with_reducible rfl
    simp only [List.getElem_toArray, List.getElem_cons_succ, List.getElem_cons_zero, Act.put, List.setIfInBounds_toArray, List.set_cons_zero, List.set_cons_succ]
    refine wpAnyH_take (i := 16) (v := ?_) rfl (by kernel_rfl) (by kernel_rfl) (by kernel_rfl) (fun _ _ _ h => h) (Or.inl ⟨by rfl, ?_⟩) HS7 ?_
    rotate_left
    · intro w hE; go_simp; try with_reducible rfl
    simp only [List.getElem_toArray, List.getElem_cons_succ, List.getElem_cons_zero, Act.put, List.setIfInBounds_toArray, List.set_cons_zero, List.set_cons_succ]
    refine wpAnyH_take (i := 17) (v := ?_) rfl (by kernel_rfl) (by kernel_rfl) (by kernel_rfl) (fun _ _ _ h => h) (Or.inl ⟨by rfl, ?_⟩) HS7 ?_
    rotate_left
    · intro w hE; go_simp; try with_reducible rfl
    simp only [List.getElem_toArray, List.getElem_cons_succ, List.getElem_cons_zero, Act.put, List.setIfInBounds_toArray, List.set_cons_zero, List.set_cons_succ]
    refine wpAnyH_ready (rs := [18]) (by kernel_rfl) (by simp) ?_
    refine AllReadyH.cons rfl (fun K hK => ?_) AllReadyH.nil
    go_simp
    go_at_call 25
    refine (end_any _ _ _ _ _ _ (HRR.out.keep hxE) (by simp)).mono ?_
    rintro e wF ⟨rfl, rfl⟩
    go_simp
    refine hK.out _ _ hxCE (fun HS8 => ?_)
    clear hK
    try simp only [List.getElem_toArray, List.getElem_cons_succ, List.getElem_cons_zero, Act.put, List.setIfInBounds_toArray, List.set_cons_zero, List.set_cons_succ]
    refine wpAnyH_take (i := 19) (v := ?_) rfl (by kernel_rfl) (by kernel_rfl) (by kernel_rfl) (fun _ _ _ h => h) (Or.inl ⟨by rfl, ?_⟩) HS8 ?_
    rotate_left
    · intro w hE; go_simp; try with_reducible rfl
    simp only [List.getElem_toArray, List.getElem_cons_succ, List.getElem_cons_zero, Act.put, List.setIfInBounds_toArray, List.set_cons_zero, List.set_cons_succ]
    refine wpAnyH_take (i := 20) (v := ?_) rfl (by kernel_rfl) (by kernel_rfl) (by kernel_rfl) (fun _ _ _ h => h) (Or.inl ⟨by rfl, ?_⟩) HS8 ?_
    rotate_left
    · intro w hE; go_simp; try with_reducible rfl
    simp only [List.getElem_toArray, List.getElem_cons_succ, List.getElem_cons_zero, Act.put, List.setIfInBounds_toArray, List.set_cons_zero, List.set_cons_succ]
    refine wpAnyH_ready (rs := [21]) (by kernel_rfl) (by simp) ?_
    refine AllReadyH.cons rfl (fun K hK => ?_) AllReadyH.nil
    go_simp
    go_at_call 7
    refine (HAW.out _ (HKEEP.out _ _ HE.out hxE)).mono ?_
    rintro e wG ⟨rfl, hbG⟩
    go_simp
    refine hK.out _ _ (hxCE.trans (hbG.mono hxCE.size)) (fun HS9 => ?_)
    clear hK
    have hxG := hxE.trans (hbG.mono hxE.size)
    try simp only [List.getElem_toArray, List.getElem_cons_succ, List.getElem_cons_zero, Act.put, List.setIfInBounds_toArray, List.set_cons_zero, List.set_cons_succ]
    refine wpAnyH_take (i := 22) (v := ?_) rfl (by kernel_rfl) (by kernel_rfl) (by kernel_rfl) (fun _ _ _ h => h) (Or.inl ⟨by rfl, ?_⟩) HS9 ?_
    rotate_left
    · intro w hE; go_simp; try with_reducible rfl
    simp only [List.getElem_toArray, List.getElem_cons_succ, List.getElem_cons_zero, Act.put, List.setIfInBounds_toArray, List.set_cons_zero, List.set_cons_succ]
    refine wpAnyH_take (i := 23) (v := ?_) rfl (by kernel_rfl) (by kernel_rfl) (by kernel_rfl) (fun _ _ _ h => h) (Or.inl ⟨by rfl, ?_⟩) HS9 ?_
    rotate_left
    · intro w hE; go_simp; try with_reducible rfl
    simp only [List.getElem_toArray, List.getElem_cons_succ, List.getElem_cons_zero, Act.put, List.setIfInBounds_toArray, List.set_cons_zero, List.set_cons_succ]
    refine wpAnyH_done (by kernel_rfl) ?_ _
    refine NoPanic.normal ?_
    go_wp2
    go_ret
    exact ⟨rfl, hwx8.trans (hxG.mono hwx8.size)⟩

theorem Rd.len {w : World} {v : Value} {bs : List Nat} (h : Rd w v bs) : bs.length ≤ maxLen := by
  rcases h with ⟨_, _, _, rfl, _⟩ | ⟨_, _, cap, _, h1, h2, _⟩
  · exact Nat.zero_le _
  · exact Nat.le_trans h1 h2
set_option maxRecDepth 20000 in
set_option maxHeartbeats 1000000 in
theorem kbytes_any {E : World → Prop} (K : ClockOk E) (J : ClockIO E) (ns bs : List Nat) (v u : Value) (h1 : ∀ x ∈ ns, x < 18446744073709551616) (h2 : ∀ x ∈ bs, x < 256) (w : World) (hE : E w) (hr1 : RdU w v ns) (hr2 : Rd w u bs) :
    Calls Try.prog 5 #[v, u] w fun e w' => e = .returned (.bool true) ∧ Below w.heap.size w w' := by
  have l1 := hr1.len
  have l2 := hr2.len
  unfold maxLen at l1 l2
  obtain ⟨A1, n1, c1, rfl, hn1⟩ := hr1.named
  obtain ⟨A2, n2, c2, rfl, hn2⟩ := hr2.named
  by_cases s1 : n1 ≤ 64
  · by_cases s2 : n2 ≤ 1000
    · exact kbytes_fit K J ns bs n1 c1 n2 c2 A1 A2 hn1 hn2 s2 ⟨hn1 ▸ s1, h1⟩ h2 w hE hr1 hr2
    · have HAW := Lib.hid (awake_any K w hE)
      have d1 : decide (n1 ≤ 64) = true := decide_eq_true s1
      have s3 : 1000 < n2 := by omega
      have hs1 := short_form n1 c1 A1 (by omega) w
      rw [d1] at hs1
      have hn2m : n2 ≤ 9223372036854775807 := by omega
      clear hr1 hr2 hn1 hn2 h1 h2 K J hE s1 s2 d1
      go_enter Try.func5, Try.ntmps5
      go_wp2_with (first
        | (go_at_call 6; (with_reducible refine hs1.mono ?_); rintro e w1 ⟨rfl, rfl⟩)
        | (go_at_call 7; (with_reducible refine (HAW.out).mono ?_); rintro e w1 ⟨rfl, hb1⟩))
      go_ret
      exact ⟨rfl, hb1⟩
  · have HAW := Lib.hid (awake_any K w hE)
    have d1 : decide (n1 ≤ 64) = false := decide_eq_false s1
    have hs1 := short_form n1 c1 A1 (by omega) w
    rw [d1] at hs1
    clear hr1 hr2 hn1 hn2 h1 h2 K J hE s1 d1
    go_enter Try.func5, Try.ntmps5
    go_wp2_with (first
      | (go_at_call 6; (with_reducible refine hs1.mono ?_); rintro e w1 ⟨rfl, rfl⟩)
      | (go_at_call 7; (with_reducible refine (HAW.out).mono ?_); rintro e w1 ⟨rfl, hb1⟩))
    go_ret
    exact ⟨rfl, hb1⟩
end Go.Proofs.Ytepafmoohlognaa
