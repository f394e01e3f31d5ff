/-
The law TokenBlanks, over what it asks of package token.
-/
import Derived.Test.YtdjidkhkgmbhfaaDoorToOk
import Derived.Test.YtdjidkhkgmbhfaaDoorToBlM
namespace Go.Proofs.YtdjidkhkgmbhfaaDoor
open Go.RowKit Go.Proofs.YtdjidkhkgmbhfaaDoor.Tok

theorem step_appT {ops : Array Oper} {o : Oper} {a : Act} {K : Act → World → Prop} {Q : Exit → Act → World → Prop} {E : Prop} {w : World} (hgd : o.guard = none) (s x : Operand)
    (ho : o.op = Op.call { callee := Callee.builtin Builtin.append, args := #[s, x], argTypes := #[27, 27] }) (B : Nat) (v : Value) (l : List TokD) (hs : a.eval s = v) (hown : OwnT B w v l)
    (g off cap : Nat) (y : TokD) (hx : a.eval x = .slice (some ⟨g, off, none⟩) 1 cap) (hcap : 1 ≤ cap) (hm : cap ≤ maxLen) (hc : TokAt w g off y) (hl : l.length + 1 ≤ 1000000) (hB : B ≤ w.heap.size)
    (h : ∀ v' w', OwnT B w' v' (l ++ [y]) → Below B w w' → K (a.put o.dst v') w') :
    if Region.wanted o (yielded ops a.tmps) = true then Oper.wp Tryd.prog o a w K Q else E := by
  have hw : Region.wanted o (yielded ops a.tmps) = true := by simp [Region.wanted, hgd]
  rw [if_pos hw]
  obtain ⟨v', w', hr, h1, h2, _, _⟩ := run_appT w o.type B v l hown g off cap [y] hcap hm (fun j z hj => by
    rcases j with _ | j
    · simp at hj; subst hj; simpa using hc
    · simp at hj) hl hB
  have hr2 : (Builtin.append_ #[27, 27] o.type #[v, .slice (some ⟨g, off, none⟩) 1 cap]).run Tryd.prog w = .ok v' w' := hr
  unfold Oper.wp
  simp [execOp, ho, resolve, invoke, builtin, hs, hx, hr2, Result.andThen]
  exact h v' w' h1 h2
/-- How many blanks come behind a piece. -/
def bA (xs : List Nat) (i : Nat) : Nat := (xs.getD i 0) % 4
theorem bA_le (xs : List Nat) (i : Nat) : bA xs i ≤ 3 := by unfold bA; omega
theorem blanks_snoc (j : Nat) : blanks (j + 1) = blanks j ++ [32] := List.replicate_succ'

theorem Tok.Bl.last' {l t : List UInt8} {b : Nat → Nat} {toks ws : List TokD'} {p n : Nat} (h : Bl l b toks n p t ws) (hn : n = toks.length) :
    t ++ (l.drop p ++ blanks (b n)) = (bld l b toks 0 0 0).1 ∧ ws = (bld l b toks 0 0 0).2 := by subst hn; exact h.last

set_option maxRecDepth 20000 in
set_option maxHeartbeats 4000000 in
theorem blanks_fit {E : World → Prop} (K : TokOk E) (l : List UInt8) (xs : List Nat) (n c : Nat) (A : Option Addr) (hl : l.length ≤ 300) (hn : n = xs.length) (hn3 : n ≤ 300) (hx : ∀ x ∈ xs, x < 256) (w : World) (hE : E w) (hr : Rd w (.slice A n c) xs) :
    Calls Tryd.prog 5 #[.string ⟨l.toArray⟩, .slice A n c] w fun e w' => e = .returned (.bool true) ∧ Below w.heap.size w w' := by
  have HKEEP := Lib.hid (fun w w' (h : E w) hb => K.keep (w' := w') h hb)
  have HE := Lib.hid hE
  have HAW := Lib.hid (fun W hW => awakeT K W hW)
  have HSP := Lib.hid (fun (l : List UInt8) W (hW : E W) hl => K.split l W hW hl)
  have hr0 := fun W => split_any l (by omega) W
  have HRD := Lib.hid hr
  have HN := Lib.hid hn
  have HX := Lib.hid hx
  obtain ⟨m, hm⟩ : ∃ m, m = l.length := ⟨_, rfl⟩
  have hsz : (⟨l.toArray⟩ : ByteArray).size = m := by rw [hm]; rfl
  rw [← hm] at hl
  have HM := Lib.hid hm
  clear hE K hr hn hx hm
  cases hs : splitF l 0 with
  | error p =>
    rw [hs] at hr0
    have HR := Lib.hid hr0
    clear hr0 hs
    go_enter Tryd.func5, Tryd.ntmps5
    go_wp2_with fail
    go_at_call 8
    with_reducible refine (HR.out _).mono ?_
    rintro e w1 ⟨⟨v, rfl, hv⟩, hb1⟩
    simp only [splitT] at hv
    subst hv
    have HB1 := Lib.hid hb1
    clear hb1
    go_wp2_with fail
    go_at_call 6
    with_reducible refine (HAW.out _ (HKEEP.out _ _ HE.out HB1.out)).mono ?_
    rintro e w2 ⟨rfl, hb2⟩
    have HB2 := Lib.hid (HB1.out.trans (hb2.mono HB1.out.size))
    clear hb2
    go_wp2_with fail
    go_ret
    exact ⟨rfl, HB2.out⟩
  | ok toks =>
    rw [hs] at hr0
    have HR := Lib.hid hr0
    have htl : toks.length ≤ m := by rw [HM.out]; exact splitF_len hs
    obtain ⟨T, hT⟩ : ∃ T, T = toks.length := ⟨_, rfl⟩
    have HT := Lib.hid hT
    rw [← hT] at htl
    have HS0 := Lib.hid (Bl.start (bA xs) hs)
    have HALL := Lib.hid (bld_all l (bA xs) toks hs)
    have hbl := bld_len l (bA xs) (bA_le xs) toks 0 0 0 (asc_split hs (by omega))
    rw [← hT, ← HM.out] at hbl
    have HBL := Lib.hid (show (bld l (bA xs) toks 0 0 0).1.length ≤ 1300 by omega)
    have HWL := Lib.hid (show (bld l (bA xs) toks 0 0 0).2.length ≤ 100000 from by
      have h1 := splitF_len HALL.out
      have h2 := HBL.out
      omega)
    clear hr0 hs hT hbl
    go_enter Tryd.func5, Tryd.ntmps5
    go_wp2_with fail
    go_at_call 8
    with_reducible refine (HR.out _).mono ?_
    rintro e w1 ⟨⟨v, rfl, u, rfl, hu⟩, hb1⟩
    obtain ⟨A1, n1, c1, rfl, hn1⟩ := hu.rd.named
    rw [← HT.out] at hn1
    obtain rfl : n1 = T := hn1
    have HU := Lib.hid hu.rd
    have HB1 := Lib.hid hb1
    clear hu hb1 HR
    go_wp2_with fail
    go_loopw [8, 9, 10, 11] (fun tx av wt iv wr => ∃ (i p : Nat) (t : List UInt8) (ws : List TokD), i ≤ n1 + 1 ∧ t.length ≤ 1300 ∧ ws.length = min i n1 ∧ tx = .string ⟨t.toArray⟩ ∧ av = .int .i64 (p : Int) ∧ iv = .int .i64 (i : Int) ∧ Hid (OwnT w1.heap.size wr wt ws) ∧ Hid (Below w1.heap.size w1 wr) ∧ Hid ((i ≤ n1 ∧ Bl l (bA xs) toks i p t ws) ∨ (i = n1 + 1 ∧ t = (bld l (bA xs) toks 0 0 0).1 ∧ ws = (bld l (bA xs) toks 0 0 0).2))) (fun _ _ _ iv _ => n1 + 1 - (intOf iv).toNat)
    case atStart => exact ⟨0, 0, [], [], by omega, by simp, by simp, rfl, rfl, rfl, Lib.hid (OwnT.nil _ _), Lib.hid (Below.refl _ _), Lib.hid (.inl ⟨Nat.zero_le _, HS0.out⟩)⟩
    case round =>
      obtain ⟨i, p, t, ws, hi, htl2, hwl, rfl, rfl, rfl, HO, HB, HI⟩ := hrel
      have htz : (⟨t.toArray⟩ : ByteArray).size = t.length := rfl
      by_cases hend : i = n1 + 1
      · subst hend
        have hfin : t = (bld l (bA xs) toks 0 0 0).1 ∧ ws = (bld l (bA xs) toks 0 0 0).2 := by
          rcases HI.out with ⟨h, _⟩ | ⟨_, h⟩
          · omega
          · exact h
        obtain ⟨h1, h2⟩ := hfin
        have hsp := HALL.out
        rw [← h1, ← h2] at hsp
        have hwl2 := HWL.out
        rw [← h2] at hwl2
        have HBT := Lib.hid (HB1.out.trans (HB.out.mono HB1.out.size))
        have hcall := HSP.out t wr (HKEEP.out _ _ HE.out HBT.out) htl2
        rw [hsp] at hcall
        have HCALL := Lib.hid hcall
        obtain ⟨A2, n2, c2, rfl, hn2⟩ := HO.out.rd.named
        have HWS := Lib.hid (show n2 ≤ 100000 by rw [hn2]; exact hwl2)
        have HN2 := Lib.hid hn2
        clear h1 h2 hsp hcall hwl hwl2 hn2 HI HBL
        go_wp2_with fail
        go_at_call 7
        with_reducible refine (HCALL.out).mono ?_
        rintro e w2 ⟨⟨v, rfl, u2, rfl, hu2⟩, hb2⟩
        obtain ⟨A3, n3, c3, rfl, hn3⟩ := hu2.named
        obtain rfl : n2 = n3 := HN2.out.trans hn3.symm
        have HU2 := Lib.hid hu2
        have HB2 := Lib.hid (HBT.out.trans (hb2.mono HBT.out.size))
        have HO2 := Lib.hid ((HO.out.below hb2).rd)
        clear hu2 hb2 hn3
        go_wp2_with fail
        go_at_call 9
        refine (same_eq ws n2 c3 c2 A3 A2 HN2.out HWS.out _ HU2.out HO2.out).mono ?_
        rintro e w3 ⟨rfl, hb3⟩
        have HB3 := Lib.hid (HB2.out.trans (hb3.mono HB2.out.size))
        clear hb3
        go_wp2_with fail
        go_at_call 6
        with_reducible refine (HAW.out _ (HKEEP.out _ _ HE.out HB3.out)).mono ?_
        rintro e w4 ⟨rfl, hb4⟩
        have HB4 := Lib.hid (HB3.out.trans (hb4.mono HB3.out.size))
        clear hb4
        go_wp2_with fail
        go_ret
        exact ⟨rfl, HB4.out⟩
      · have hi2 : i ≤ n1 := by omega
        have hbl : Bl l (bA xs) toks i p t ws := by
          rcases HI.out with ⟨_, h⟩ | ⟨h, _⟩
          · exact h
          · exact absurd h hend
        have HBLK := Lib.hid hbl
        clear hend HI hbl
        obtain ⟨b, hb⟩ : ∃ b, b = bA xs i := ⟨_, rfl⟩
        have HBT := Lib.hid (HB1.out.trans (HB.out.mono HB1.out.size))
        by_cases hin : i < n1
        · obtain ⟨⟨kd, x, a⟩, hxt⟩ : ∃ x, toks[i]? = some x := ⟨_, List.getElem?_eq_getElem (by rw [← HT.out]; exact hin)⟩
          obtain ⟨hpa, hal⟩ := HBLK.out.token hxt
          rw [← HM.out] at hal
          obtain ⟨bk, off, rfl, hta⟩ := HU.out.at_ hxt
          obtain ⟨q0, q1, q2⟩ := hta.below HB.out
          have HTA := Lib.hid hta
          have hstep := HBLK.out.step hxt
          obtain ⟨X, hX⟩ : ∃ X, X = (l.drop p).take (a - p) := ⟨_, rfl⟩
          have hXl : X.length ≤ 300 := by rw [hX, List.length_take, List.length_drop]; omega
          have hext : (⟨l.toArray⟩ : ByteArray).extract p a = ⟨X.toArray⟩ := by rw [ext_T, hX]
          have hXz : (⟨X.toArray⟩ : ByteArray).size = X.length := rfl
          rw [← hX, ← List.append_assoc, ← hb] at hstep
          have hba : (⟨t.toArray⟩ ++ ⟨X.toArray⟩ : ByteArray) = ⟨(t ++ X).toArray⟩ := ba_appT t X
          have HNEXT := Lib.hid hstep
          have HTFL := Lib.hid (show (t ++ X ++ blanks b).length ≤ 1300 from Nat.le_trans hstep.len HBL.out)
          obtain ⟨t1, ht1⟩ : ∃ t1, t1 = t ++ X := ⟨_, rfl⟩
          rw [← ht1] at hba HNEXT HTFL
          have ht1l : t1.length ≤ 1300 := by
            have := HTFL.out
            rw [List.length_append] at this; omega
          clear hxt hta hstep hX ht1
          by_cases hmore : i < n
          · obtain ⟨y, hy⟩ : ∃ y, xs[i]? = some y := ⟨_, List.getElem?_eq_getElem (by rw [← HN.out]; exact hmore)⟩
            have hby : b = y % 4 := by rw [hb]; unfold bA; rw [List.getD_eq_getElem?_getD, hy]; rfl
            have hy256 := HX.out y (List.mem_of_getElem? hy)
            obtain ⟨A9, c9, hv9, _, hcell⟩ := HRD.out.form
            obtain ⟨b3, o3, hA9, hc3⟩ := hcell i y hy
            simp only [Value.slice.injEq] at hv9
            obtain ⟨rfl, hnx, rfl⟩ := hv9
            clear hnx
            subst hA9
            have p3 : wr.cell? ⟨b3, o3 + i, none⟩ = some (.int .u8 (y : Int)) := by
              have hlt := World.block_lt_of_cell? _ _ hc3
              rw [HBT.out.cell (p := ⟨b3, o3 + i, none⟩) hlt]; exact hc3
            clear hy hcell hc3 hb
            go_wp2_with fail
            go_loopw [8, 13] (fun tx kv wv => ∃ j, j ≤ b ∧ tx = .string ⟨(t1 ++ blanks j).toArray⟩ ∧ kv = .int .i64 (j : Int) ∧ wv = wr) (fun _ kv _ => b - (intOf kv).toNat)
            case atStart => exact ⟨0, Nat.zero_le _, by simp [blanks], rfl, rfl⟩
            case round =>
              obtain ⟨j, hj, rfl, rfl, rfl⟩ := hrel
              have hjz : (⟨(t1 ++ blanks j).toArray⟩ : ByteArray).size = t1.length + j := by show (t1 ++ blanks j).toArray.size = _; simp [blanks]
              by_cases hjb : j < b
              · have hba2 : (⟨(t1 ++ blanks j).toArray⟩ ++ ⟨#[32]⟩ : ByteArray) = ⟨(t1 ++ blanks (j + 1)).toArray⟩ := by rw [show (⟨#[32]⟩ : ByteArray) = ⟨[32].toArray⟩ from rfl, ba_appT, blanks_snoc, List.append_assoc]
                have HBA2 := Lib.hid hba2
                have hji : (j : Int) < (y : Int) % 4 := by omega
                clear hba2
                go_wp2_with fail
                go_roundw
                case rel => exact ⟨j + 1, by omega, by rw [← HBA2.out], by go_num, trivial⟩
                case measure => simp [intOf]; omega
              · obtain rfl : j = b := by omega
                have hji : (y : Int) % 4 ≤ (j : Int) := by omega
                clear hjb
                have htfz : (⟨(t1 ++ blanks j).toArray⟩ : ByteArray).size = (t1 ++ blanks j).length := rfl
                clear hjz
                generalize t1 ++ blanks j = tf at *
                go_wp2_with fail
                refine wp_region_noPanic ?_
                refine wp_region_held_drew (S := fun w9 => Below w1.heap.size w1 w9) (by kernel_rfl) (Below.drew HB.out) (fun HS0 => ?_)
                have HOD := Lib.hid (HO.out.below (Below.drew (Below.refl _ wr)))
                refine wpAnyH_take (i := 0) (v := ?_) rfl (by kernel_rfl) (by kernel_rfl) (by kernel_rfl) (fun _ _ _ h => h) (Or.inl ⟨by rfl, ?_⟩) HS0 ?_
                rotate_left
                · intro w hE; go_simp; try with_reducible rfl
                simp only [List.getElem_toArray, List.getElem_cons_succ, List.getElem_cons_zero, Act.put, List.setIfInBounds_toArray, List.set_cons_zero, List.set_cons_succ]
                refine wpAnyH_take (i := 1) (v := ?_) rfl (by kernel_rfl) (by kernel_rfl) (by kernel_rfl) (fun _ _ _ h => h) (Or.inl ⟨by rfl, ?_⟩) HS0 ?_
                rotate_left
                · intro w hE; go_simp; try with_reducible rfl
                simp only [List.getElem_toArray, List.getElem_cons_succ, List.getElem_cons_zero, Act.put, List.setIfInBounds_toArray, List.set_cons_zero, List.set_cons_succ]
                refine wpAnyH_take (i := 2) (v := ?_) rfl (by kernel_rfl) (by kernel_rfl) (by kernel_rfl) (fun _ _ _ h => h) (Or.inl ⟨by rfl, ?_⟩) HS0 ?_
                rotate_left
                · intro w hE; go_simp; try with_reducible rfl
                simp only [List.getElem_toArray, List.getElem_cons_succ, List.getElem_cons_zero, Act.put, List.setIfInBounds_toArray, List.set_cons_zero, List.set_cons_succ]
                refine wpAnyH_take (i := 3) (v := ?_) rfl (by kernel_rfl) (by kernel_rfl) (by kernel_rfl) (fun _ _ _ h => h) (Or.inl ⟨by rfl, ?_⟩) HS0 ?_
                rotate_left
                · intro w hE; go_simp; try with_reducible rfl
                simp only [List.getElem_toArray, List.getElem_cons_succ, List.getElem_cons_zero, Act.put, List.setIfInBounds_toArray, List.set_cons_zero, List.set_cons_succ]
                refine wpAnyH_take (i := 4) (v := ?_) rfl (by kernel_rfl) (by kernel_rfl) (by kernel_rfl) (fun _ _ _ h => h) (Or.inl ⟨by rfl, ?_⟩) HS0 ?_
                rotate_left
                · intro w hE; go_simp; try with_reducible rfl
                simp only [List.getElem_toArray, List.getElem_cons_succ, List.getElem_cons_zero, Act.put, List.setIfInBounds_toArray, List.set_cons_zero, List.set_cons_succ]
                refine wpAnyH_take (i := 5) (v := ?_) rfl (by kernel_rfl) (by kernel_rfl) (by kernel_rfl) (fun _ _ _ h => h) (Or.inl ⟨by rfl, ?_⟩) HS0 ?_
                rotate_left
                · intro w hE; obtain ⟨p0, p1, p2⟩ := HTA.out.below hE; go_simp; try with_reducible rfl
                simp only [List.getElem_toArray, List.getElem_cons_succ, List.getElem_cons_zero, Act.put, List.setIfInBounds_toArray, List.set_cons_zero, List.set_cons_succ]
                refine wpAnyH_take (i := 6) (v := ?_) rfl (by kernel_rfl) (by kernel_rfl) (by kernel_rfl) (fun _ _ _ h => h) (Or.inl ⟨by rfl, ?_⟩) HS0 ?_
                rotate_left
                · intro w hE; go_simp; try with_reducible rfl
                simp only [List.getElem_toArray, List.getElem_cons_succ, List.getElem_cons_zero, Act.put, List.setIfInBounds_toArray, List.set_cons_zero, List.set_cons_succ]
                refine wpAnyH_take (i := 7) (v := ?_) rfl (by kernel_rfl) (by kernel_rfl) (by kernel_rfl) (fun _ _ _ h => h) (Or.inl ⟨by rfl, ?_⟩) HS0 ?_
                rotate_left
                · intro w hE; go_simp; try with_reducible rfl
                simp only [List.getElem_toArray, List.getElem_cons_succ, List.getElem_cons_zero, Act.put, List.setIfInBounds_toArray, List.set_cons_zero, List.set_cons_succ]
                refine wpAnyH_take (i := 8) (v := ?_) rfl (by kernel_rfl) (by kernel_rfl) (by kernel_rfl) (fun _ _ _ h => h) (Or.inl ⟨by rfl, ?_⟩) HS0 ?_
                rotate_left
                · intro w hE; go_simp; try with_reducible rfl
                simp only [List.getElem_toArray, List.getElem_cons_succ, List.getElem_cons_zero, Act.put, List.setIfInBounds_toArray, List.set_cons_zero, List.set_cons_succ]
                refine wpAnyH_take (i := 9) (v := ?_) rfl (by kernel_rfl) (by kernel_rfl) (by kernel_rfl) (fun _ _ _ h => h) (Or.inl ⟨by rfl, ?_⟩) HS0 ?_
                rotate_left
                · intro w hE; go_simp; try with_reducible rfl
                simp only [List.getElem_toArray, List.getElem_cons_succ, List.getElem_cons_zero, Act.put, List.setIfInBounds_toArray, List.set_cons_zero, List.set_cons_succ]
                refine wpAnyH_take (i := 10) (v := ?_) rfl (by kernel_rfl) (by kernel_rfl) (by kernel_rfl) (fun _ _ _ h => h) (Or.inl ⟨by rfl, ?_⟩) HS0 ?_
                rotate_left
                · intro w hE; obtain ⟨p0, p1, p2⟩ := HTA.out.below hE; go_simp; try with_reducible rfl
                simp only [List.getElem_toArray, List.getElem_cons_succ, List.getElem_cons_zero, Act.put, List.setIfInBounds_toArray, List.set_cons_zero, List.set_cons_succ]
                refine wpAnyH_take (i := 11) (v := ?_) rfl (by kernel_rfl) (by kernel_rfl) (by kernel_rfl) (fun _ _ _ h => h) (Or.inl ⟨by rfl, ?_⟩) HS0 ?_
                rotate_left
                · intro w hE; go_simp; try with_reducible rfl
                simp only [List.getElem_toArray, List.getElem_cons_succ, List.getElem_cons_zero, Act.put, List.setIfInBounds_toArray, List.set_cons_zero, List.set_cons_succ]
                refine wpAnyH_take (i := 12) (v := ?_) rfl (by kernel_rfl) (by kernel_rfl) (by kernel_rfl) (fun _ _ _ h => h) (Or.inl ⟨by rfl, ?_⟩) HS0 ?_
                rotate_left
                · intro w hE; go_simp; try with_reducible rfl
                simp only [List.getElem_toArray, List.getElem_cons_succ, List.getElem_cons_zero, Act.put, List.setIfInBounds_toArray, List.set_cons_zero, List.set_cons_succ]
                refine wpAnyH_take (i := 13) (v := ?_) rfl (by kernel_rfl) (by kernel_rfl) (by kernel_rfl) (fun _ _ _ h => h) (Or.inl ⟨by rfl, ?_⟩) HS0 ?_
                rotate_left
                · intro w hE; go_simp; try with_reducible rfl
                simp only [List.getElem_toArray, List.getElem_cons_succ, List.getElem_cons_zero, Act.put, List.setIfInBounds_toArray, List.set_cons_zero, List.set_cons_succ]
                refine wpAnyH_ready (rs := [14]) (by kernel_rfl) (by simp) ?_
                refine AllReadyH.cons rfl (fun K hK => ?_) AllReadyH.nil
                go_simp
                refine hK.out _ _ (HS0.alloc HS0.size _) (fun HS1 => ?_)
                clear hK
                try simp only [List.getElem_toArray, List.getElem_cons_succ, List.getElem_cons_zero, Act.put, List.setIfInBounds_toArray, List.set_cons_zero, List.set_cons_succ]
                have HOA := Lib.hid (HOD.out.below (below_alloc wr.drew (.cells #[.int .i64 (kd : Int), .string ⟨x.toArray⟩, .int .i64 ((tf.length : Nat) : Int)] 34)))
                have HTC := Lib.hid (cells3 wr.drew (g := wr.heap.size) rfl (.int .i64 (kd : Int)) (.string ⟨x.toArray⟩) (.int .i64 ((tf.length : Nat) : Int)) 34)
                refine wpAnyH_ready (rs := [15]) (by kernel_rfl) (by simp) ?_
                refine AllReadyH.cons rfl (fun K hK => ?_) AllReadyH.nil
                refine step_appT rfl _ _ rfl w1.heap.size _ ws rfl HOA.out wr.heap.size 0 1 (kd, x, tf.length) rfl (by omega) (by decide) HTC.out (by omega) HS1.size ?_
                intro v2 w2 ho2 hb2
                have HO3 := Lib.hid ho2
                have HB3 := Lib.hid (HS1.trans hb2)
                clear ho2 hb2
                refine hK.out _ _ HB3.out (fun HS2 => ?_)
                clear hK
                try simp only [List.getElem_toArray, List.getElem_cons_succ, List.getElem_cons_zero, Act.put, List.setIfInBounds_toArray, List.set_cons_zero, List.set_cons_succ]
                refine wpAnyH_take (i := 16) (v := ?_) rfl (by kernel_rfl) (by kernel_rfl) (by kernel_rfl) (fun _ _ _ h => h) (Or.inl ⟨by rfl, ?_⟩) HS2 ?_
                rotate_left
                · intro w hE; go_simp; try with_reducible rfl
                simp only [List.getElem_toArray, List.getElem_cons_succ, List.getElem_cons_zero, Act.put, List.setIfInBounds_toArray, List.set_cons_zero, List.set_cons_succ]
                refine wpAnyH_done (by kernel_rfl) ?_ _
                refine NoPanic.normal ?_
                go_wp2_with fail
                go_roundw
                case rel => exact ⟨i + 1, a, tf, ws ++ [(kd, x, tf.length)], by omega, HTFL.out, by rw [List.length_append, hwl]; simp; omega, rfl, rfl, by go_num, HO3, HB3, Lib.hid (.inl ⟨hin, HNEXT.out⟩)⟩
                case measure => simp [intOf]; omega
          · have hby : b = 0 := by rw [hb]; unfold bA; rw [List.getD_eq_getElem?_getD, List.getElem?_eq_none (by rw [← HN.out]; omega)]; rfl
            subst hby
            have hmore2 : (n : Int) ≤ (i : Int) := by omega
            clear hb
            go_wp2_with fail
            go_loopw [8, 13] (fun tx kv wv => tx = .string ⟨(t1 ++ blanks 0).toArray⟩ ∧ kv = .int .i64 0 ∧ wv = wr) (fun _ _ _ => 0)
            case atStart => exact ⟨by simp [blanks], rfl, rfl⟩
            case round =>
              obtain ⟨rfl, rfl, rfl⟩ := hrel
              have htfz : (⟨(t1 ++ blanks 0).toArray⟩ : ByteArray).size = (t1 ++ blanks 0).length := rfl
              generalize t1 ++ blanks 0 = tf at *
              go_wp2_with fail
              refine wp_region_noPanic ?_
              refine wp_region_held_drew (S := fun w9 => Below w1.heap.size w1 w9) (by kernel_rfl) (Below.drew HB.out) (fun HS0 => ?_)
              have HOD := Lib.hid (HO.out.below (Below.drew (Below.refl _ wr)))
              refine wpAnyH_take (i := 0) (v := ?_) rfl (by kernel_rfl) (by kernel_rfl) (by kernel_rfl) (fun _ _ _ h => h) (Or.inl ⟨by rfl, ?_⟩) HS0 ?_
              rotate_left
              · intro w hE; go_simp; try with_reducible rfl
              simp only [List.getElem_toArray, List.getElem_cons_succ, List.getElem_cons_zero, Act.put, List.setIfInBounds_toArray, List.set_cons_zero, List.set_cons_succ]
              refine wpAnyH_take (i := 1) (v := ?_) rfl (by kernel_rfl) (by kernel_rfl) (by kernel_rfl) (fun _ _ _ h => h) (Or.inl ⟨by rfl, ?_⟩) HS0 ?_
              rotate_left
              · intro w hE; go_simp; try with_reducible rfl
              simp only [List.getElem_toArray, List.getElem_cons_succ, List.getElem_cons_zero, Act.put, List.setIfInBounds_toArray, List.set_cons_zero, List.set_cons_succ]
              refine wpAnyH_take (i := 2) (v := ?_) rfl (by kernel_rfl) (by kernel_rfl) (by kernel_rfl) (fun _ _ _ h => h) (Or.inl ⟨by rfl, ?_⟩) HS0 ?_
              rotate_left
              · intro w hE; go_simp; try with_reducible rfl
              simp only [List.getElem_toArray, List.getElem_cons_succ, List.getElem_cons_zero, Act.put, List.setIfInBounds_toArray, List.set_cons_zero, List.set_cons_succ]
              refine wpAnyH_take (i := 3) (v := ?_) rfl (by kernel_rfl) (by kernel_rfl) (by kernel_rfl) (fun _ _ _ h => h) (Or.inl ⟨by rfl, ?_⟩) HS0 ?_
              rotate_left
              · intro w hE; go_simp; try with_reducible rfl
              simp only [List.getElem_toArray, List.getElem_cons_succ, List.getElem_cons_zero, Act.put, List.setIfInBounds_toArray, List.set_cons_zero, List.set_cons_succ]
              refine wpAnyH_take (i := 4) (v := ?_) rfl (by kernel_rfl) (by kernel_rfl) (by kernel_rfl) (fun _ _ _ h => h) (Or.inl ⟨by rfl, ?_⟩) HS0 ?_
              rotate_left
              · intro w hE; go_simp; try with_reducible rfl
              simp only [List.getElem_toArray, List.getElem_cons_succ, List.getElem_cons_zero, Act.put, List.setIfInBounds_toArray, List.set_cons_zero, List.set_cons_succ]
              refine wpAnyH_take (i := 5) (v := ?_) rfl (by kernel_rfl) (by kernel_rfl) (by kernel_rfl) (fun _ _ _ h => h) (Or.inl ⟨by rfl, ?_⟩) HS0 ?_
              rotate_left
              · intro w hE; obtain ⟨p0, p1, p2⟩ := HTA.out.below hE; go_simp; try with_reducible rfl
              simp only [List.getElem_toArray, List.getElem_cons_succ, List.getElem_cons_zero, Act.put, List.setIfInBounds_toArray, List.set_cons_zero, List.set_cons_succ]
              refine wpAnyH_take (i := 6) (v := ?_) rfl (by kernel_rfl) (by kernel_rfl) (by kernel_rfl) (fun _ _ _ h => h) (Or.inl ⟨by rfl, ?_⟩) HS0 ?_
              rotate_left
              · intro w hE; go_simp; try with_reducible rfl
              simp only [List.getElem_toArray, List.getElem_cons_succ, List.getElem_cons_zero, Act.put, List.setIfInBounds_toArray, List.set_cons_zero, List.set_cons_succ]
              refine wpAnyH_take (i := 7) (v := ?_) rfl (by kernel_rfl) (by kernel_rfl) (by kernel_rfl) (fun _ _ _ h => h) (Or.inl ⟨by rfl, ?_⟩) HS0 ?_
              rotate_left
              · intro w hE; go_simp; try with_reducible rfl
              simp only [List.getElem_toArray, List.getElem_cons_succ, List.getElem_cons_zero, Act.put, List.setIfInBounds_toArray, List.set_cons_zero, List.set_cons_succ]
              refine wpAnyH_take (i := 8) (v := ?_) rfl (by kernel_rfl) (by kernel_rfl) (by kernel_rfl) (fun _ _ _ h => h) (Or.inl ⟨by rfl, ?_⟩) HS0 ?_
              rotate_left
              · intro w hE; go_simp; try with_reducible rfl
              simp only [List.getElem_toArray, List.getElem_cons_succ, List.getElem_cons_zero, Act.put, List.setIfInBounds_toArray, List.set_cons_zero, List.set_cons_succ]
              refine wpAnyH_take (i := 9) (v := ?_) rfl (by kernel_rfl) (by kernel_rfl) (by kernel_rfl) (fun _ _ _ h => h) (Or.inl ⟨by rfl, ?_⟩) HS0 ?_
              rotate_left
              · intro w hE; go_simp; try with_reducible rfl
              simp only [List.getElem_toArray, List.getElem_cons_succ, List.getElem_cons_zero, Act.put, List.setIfInBounds_toArray, List.set_cons_zero, List.set_cons_succ]
              refine wpAnyH_take (i := 10) (v := ?_) rfl (by kernel_rfl) (by kernel_rfl) (by kernel_rfl) (fun _ _ _ h => h) (Or.inl ⟨by rfl, ?_⟩) HS0 ?_
              rotate_left
              · intro w hE; obtain ⟨p0, p1, p2⟩ := HTA.out.below hE; go_simp; try with_reducible rfl
              simp only [List.getElem_toArray, List.getElem_cons_succ, List.getElem_cons_zero, Act.put, List.setIfInBounds_toArray, List.set_cons_zero, List.set_cons_succ]
              refine wpAnyH_take (i := 11) (v := ?_) rfl (by kernel_rfl) (by kernel_rfl) (by kernel_rfl) (fun _ _ _ h => h) (Or.inl ⟨by rfl, ?_⟩) HS0 ?_
              rotate_left
              · intro w hE; go_simp; try with_reducible rfl
              simp only [List.getElem_toArray, List.getElem_cons_succ, List.getElem_cons_zero, Act.put, List.setIfInBounds_toArray, List.set_cons_zero, List.set_cons_succ]
              refine wpAnyH_take (i := 12) (v := ?_) rfl (by kernel_rfl) (by kernel_rfl) (by kernel_rfl) (fun _ _ _ h => h) (Or.inl ⟨by rfl, ?_⟩) HS0 ?_
              rotate_left
              · intro w hE; go_simp; try with_reducible rfl
              simp only [List.getElem_toArray, List.getElem_cons_succ, List.getElem_cons_zero, Act.put, List.setIfInBounds_toArray, List.set_cons_zero, List.set_cons_succ]
              refine wpAnyH_take (i := 13) (v := ?_) rfl (by kernel_rfl) (by kernel_rfl) (by kernel_rfl) (fun _ _ _ h => h) (Or.inl ⟨by rfl, ?_⟩) HS0 ?_
              rotate_left
              · intro w hE; go_simp; try with_reducible rfl
              simp only [List.getElem_toArray, List.getElem_cons_succ, List.getElem_cons_zero, Act.put, List.setIfInBounds_toArray, List.set_cons_zero, List.set_cons_succ]
              refine wpAnyH_ready (rs := [14]) (by kernel_rfl) (by simp) ?_
              refine AllReadyH.cons rfl (fun K hK => ?_) AllReadyH.nil
              go_simp
              refine hK.out _ _ (HS0.alloc HS0.size _) (fun HS1 => ?_)
              clear hK
              try simp only [List.getElem_toArray, List.getElem_cons_succ, List.getElem_cons_zero, Act.put, List.setIfInBounds_toArray, List.set_cons_zero, List.set_cons_succ]
              have HOA := Lib.hid (HOD.out.below (below_alloc wr.drew (.cells #[.int .i64 (kd : Int), .string ⟨x.toArray⟩, .int .i64 ((tf.length : Nat) : Int)] 34)))
              have HTC := Lib.hid (cells3 wr.drew (g := wr.heap.size) rfl (.int .i64 (kd : Int)) (.string ⟨x.toArray⟩) (.int .i64 ((tf.length : Nat) : Int)) 34)
              refine wpAnyH_ready (rs := [15]) (by kernel_rfl) (by simp) ?_
              refine AllReadyH.cons rfl (fun K hK => ?_) AllReadyH.nil
              refine step_appT rfl _ _ rfl w1.heap.size _ ws rfl HOA.out wr.heap.size 0 1 (kd, x, tf.length) rfl (by omega) (by decide) HTC.out (by omega) HS1.size ?_
              intro v2 w2 ho2 hb2
              have HO3 := Lib.hid ho2
              have HB3 := Lib.hid (HS1.trans hb2)
              clear ho2 hb2
              refine hK.out _ _ HB3.out (fun HS2 => ?_)
              clear hK
              try simp only [List.getElem_toArray, List.getElem_cons_succ, List.getElem_cons_zero, Act.put, List.setIfInBounds_toArray, List.set_cons_zero, List.set_cons_succ]
              refine wpAnyH_take (i := 16) (v := ?_) rfl (by kernel_rfl) (by kernel_rfl) (by kernel_rfl) (fun _ _ _ h => h) (Or.inl ⟨by rfl, ?_⟩) HS2 ?_
              rotate_left
              · intro w hE; go_simp; try with_reducible rfl
              simp only [List.getElem_toArray, List.getElem_cons_succ, List.getElem_cons_zero, Act.put, List.setIfInBounds_toArray, List.set_cons_zero, List.set_cons_succ]
              refine wpAnyH_done (by kernel_rfl) ?_ _
              refine NoPanic.normal ?_
              go_wp2_with fail
              go_roundw
              case rel => exact ⟨i + 1, a, tf, ws ++ [(kd, x, tf.length)], by omega, HTFL.out, by rw [List.length_append, hwl]; simp; omega, rfl, rfl, by go_num, HO3, HB3, Lib.hid (.inl ⟨hin, HNEXT.out⟩)⟩
              case measure => simp [intOf]; omega
        · obtain rfl : i = n1 := by omega
          have hlast := HBLK.out.last' HT.out
          have hpm : p ≤ m := by have := HBLK.out.2.2.le; rw [← HM.out] at this; exact this
          obtain ⟨X, hX⟩ : ∃ X, X = l.drop p := ⟨_, rfl⟩
          have hXl : X.length ≤ 300 := by rw [hX, List.length_drop, ← HM.out]; omega
          have hext : (⟨l.toArray⟩ : ByteArray).extract p m = ⟨X.toArray⟩ := by rw [ext_T, hX, List.take_of_length_le (by rw [List.length_drop, ← HM.out]; exact Nat.le_refl _)]
          have hXz : (⟨X.toArray⟩ : ByteArray).size = X.length := rfl
          rw [← hX, ← List.append_assoc, ← hb] at hlast
          have hba : (⟨t.toArray⟩ ++ ⟨X.toArray⟩ : ByteArray) = ⟨(t ++ X).toArray⟩ := ba_appT t X
          have HNEXT := Lib.hid hlast
          have HTFL := Lib.hid (show (t ++ X ++ blanks b).length ≤ 1300 by rw [hlast.1]; exact HBL.out)
          obtain ⟨t1, ht1⟩ : ∃ t1, t1 = t ++ X := ⟨_, rfl⟩
          rw [← ht1] at hba HNEXT HTFL
          have ht1l : t1.length ≤ 1300 := by
            have := HTFL.out
            rw [List.length_append] at this; omega
          clear hlast hX ht1
          by_cases hmore : i < n
          · obtain ⟨y, hy⟩ : ∃ y, xs[i]? = some y := ⟨_, List.getElem?_eq_getElem (by rw [← HN.out]; exact hmore)⟩
            have hby : b = y % 4 := by rw [hb]; unfold bA; rw [List.getD_eq_getElem?_getD, hy]; rfl
            have hy256 := HX.out y (List.mem_of_getElem? hy)
            obtain ⟨A9, c9, hv9, _, hcell⟩ := HRD.out.form
            obtain ⟨b3, o3, hA9, hc3⟩ := hcell i y hy
            simp only [Value.slice.injEq] at hv9
            obtain ⟨rfl, hnx, rfl⟩ := hv9
            clear hnx
            subst hA9
            have p3 : wr.cell? ⟨b3, o3 + i, none⟩ = some (.int .u8 (y : Int)) := by
              have hlt := World.block_lt_of_cell? _ _ hc3
              rw [HBT.out.cell (p := ⟨b3, o3 + i, none⟩) hlt]; exact hc3
            clear hy hcell hc3 hb
            go_wp2_with fail
            go_loopw [8, 13] (fun tx kv wv => ∃ j, j ≤ b ∧ tx = .string ⟨(t1 ++ blanks j).toArray⟩ ∧ kv = .int .i64 (j : Int) ∧ wv = wr) (fun _ kv _ => b - (intOf kv).toNat)
            case atStart => exact ⟨0, Nat.zero_le _, by simp [blanks], rfl, rfl⟩
            case round =>
              obtain ⟨j, hj, rfl, rfl, rfl⟩ := hrel
              have hjz : (⟨(t1 ++ blanks j).toArray⟩ : ByteArray).size = t1.length + j := by show (t1 ++ blanks j).toArray.size = _; simp [blanks]
              by_cases hjb : j < b
              · have hba2 : (⟨(t1 ++ blanks j).toArray⟩ ++ ⟨#[32]⟩ : ByteArray) = ⟨(t1 ++ blanks (j + 1)).toArray⟩ := by rw [show (⟨#[32]⟩ : ByteArray) = ⟨[32].toArray⟩ from rfl, ba_appT, blanks_snoc, List.append_assoc]
                have HBA2 := Lib.hid hba2
                have hji : (j : Int) < (y : Int) % 4 := by omega
                clear hba2
                go_wp2_with fail
                go_roundw
                case rel => exact ⟨j + 1, by omega, by rw [← HBA2.out], by go_num, trivial⟩
                case measure => simp [intOf]; omega
              · obtain rfl : j = b := by omega
                have hji : (y : Int) % 4 ≤ (j : Int) := by omega
                clear hjb
                have htfz : (⟨(t1 ++ blanks j).toArray⟩ : ByteArray).size = (t1 ++ blanks j).length := rfl
                clear hjz
                generalize t1 ++ blanks j = tf at *
                go_wp2_with fail
                go_roundw
                case rel => exact ⟨i + 1, m, tf, ws, by omega, HTFL.out, by omega, rfl, rfl, by go_num, HO, HB, Lib.hid (.inr ⟨rfl, HNEXT.out⟩)⟩
                case measure => simp [intOf]
          · have hby : b = 0 := by rw [hb]; unfold bA; rw [List.getD_eq_getElem?_getD, List.getElem?_eq_none (by rw [← HN.out]; omega)]; rfl
            subst hby
            have hmore2 : (n : Int) ≤ (i : Int) := by omega
            clear hb
            go_wp2_with fail
            go_loopw [8, 13] (fun tx kv wv => tx = .string ⟨(t1 ++ blanks 0).toArray⟩ ∧ kv = .int .i64 0 ∧ wv = wr) (fun _ _ _ => 0)
            case atStart => exact ⟨by simp [blanks], rfl, rfl⟩
            case round =>
              obtain ⟨rfl, rfl, rfl⟩ := hrel
              have htfz : (⟨(t1 ++ blanks 0).toArray⟩ : ByteArray).size = (t1 ++ blanks 0).length := rfl
              generalize t1 ++ blanks 0 = tf at *
              go_wp2_with fail
              go_roundw
              case rel => exact ⟨i + 1, m, tf, ws, by omega, HTFL.out, by omega, rfl, rfl, by go_num, HO, HB, Lib.hid (.inr ⟨rfl, HNEXT.out⟩)⟩
              case measure => simp [intOf]
theorem blanks_any {E : World → Prop} (K : TokOk E) (s : ByteArray) (hs : s.size ≤ 9223372036854775807) (v : Value) (xs : List Nat) (hx : ∀ x ∈ xs, x < 256) (w : World) (hE : E w) (hr : Rd w v xs) :
    Calls Tryd.prog 5 #[.string s, v] w fun e w' => e = .returned (.bool true) ∧ Below w.heap.size w w' := by
  obtain ⟨A, n, c, rfl, hn⟩ := hr.named
  by_cases hl : s.size ≤ 300
  · by_cases hn3 : n ≤ 300
    · have e : s = ⟨s.data.toList.toArray⟩ := by cases s; simp
      have h := blanks_fit K s.data.toList xs n c A (by simpa using hl) hn hn3 hx w hE hr
      rw [← e] at h
      exact h
    · have HAW := Lib.hid (awakeT K w hE)
      have hbig : 300 < n := by omega
      clear hE K hn3 hn hr hx
      go_enter Tryd.func5, Tryd.ntmps5
      go_wp2_with (go_at_call 6; (with_reducible refine (HAW.out).mono ?_); rintro e w1 ⟨rfl, hb1⟩)
      go_ret
      exact ⟨rfl, hb1⟩
  · have HAW := Lib.hid (awakeT K w hE)
    have hbig : 300 < s.size := by omega
    clear hE K hl hn hr hx
    go_enter Tryd.func5, Tryd.ntmps5
    go_wp2_with (go_at_call 6; (with_reducible refine (HAW.out).mono ?_); rintro e w1 ⟨rfl, hb1⟩)
    go_ret
    exact ⟨rfl, hb1⟩
end Go.Proofs.YtdjidkhkgmbhfaaDoor
