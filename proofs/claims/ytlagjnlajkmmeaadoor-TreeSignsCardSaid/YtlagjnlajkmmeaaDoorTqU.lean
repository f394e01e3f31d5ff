/-
Package tree's own text: the printer's node, and Print, by contracts.
-/
import Derived.Test.YtlagjnlajkmmeaaDoorTqT
namespace Go.Proofs.YtlagjnlajkmmeaaDoor
open Go.RowKit

theorem pr_mk (nm : Int → List UInt8) (k n : Int) (s : List UInt8) (f t : Int) (l : List Tr) (m : Int) : prF txN (namedF nm (.mk k n s f t l)) m = if (holdsF k s : Int) < m then 40 :: bdF nm (.mk k n s f t l) ++ [41] else bdF nm (.mk k n s f t l) := pr_named nm _ m
set_option maxRecDepth 20000 in
set_option maxHeartbeats 16000000 in
theorem pnode_any (KF : FuncId) (nm : Int → List UInt8) (hent : ∀ args w, (callFunc KF args).run Tryd.prog w = .ok (.enter KF args) w) (w0 : World) (hE : EnvP w0)
    (hnm : ∀ x W, EnvP W → In64 x → Calls Tryd.prog KF #[.int .i64 x] W fun e w' => e = .returned (.string ⟨(nm x).toArray⟩) ∧ Below W.heap.size W w') (r : Nat) (x : Tr) : NodeP KF nm w0 r x := by
  induction x using Tr.ind with
  | _ x ih =>
  intro m v w bs hm1 hm6 hw hp hv hd hM hlen
  obtain ⟨k, n, s, f, t, l⟩ := x
  have hv0 := hv
  obtain ⟨hfit, u, rfl, hA⟩ := hv
  simp only [Tr.kind, Tr.num, Tr.text, Tr.a, Tr.b, Tr.args] at hfit hA ih hv0 ⊢
  obtain ⟨A, c, rfl⟩ := hA.named
  obtain ⟨len, hlen0⟩ : ∃ len, len = l.length := ⟨_, rfl⟩
  rw [← hlen0] at hA hv0 ⊢
  obtain ⟨d, hd⟩ := hd
  obtain ⟨⟨_, hk1, hk8⟩, hr5, hr6, hr7, hparts⟩ := right_parts hd
  have hok6 : k = 6 → 1 ≤ levelF s := fun e => by
    have := hd
    rw [rightF_eq] at this
    simp only [Bool.and_eq_true, Tr.kind, Tr.num, Tr.text, Tr.args] at this
    have h2 := this.1.2
    rw [ok_six e] at h2
    have := of_decide_eq_true (Bool.and_eq_true_iff.1 h2).2
    omega
  simp only [Tr.kind, Tr.args] at hk1 hk8 hr5 hr6 hr7 hparts
  rw [maxT_eq] at hM
  simp only [Tr.text, Tr.args] at hM
  have hsM : s.length ≤ 1048576 := by omega
  have HV := Lib.hid (fun (i : Nat) (y : Tr) (hy : l[i]? = some y) => (show ∃ d, rightF y d = true from ⟨_, hparts i y hy⟩))
  have HMX := Lib.hid (fun (i : Nat) (y : Tr) (hy : l[i]? = some y) => (show maxT y ≤ 1048576 from by have := maxTL_mem l i y hy; omega))
  have HARGS := Lib.hid (fun m' W bs' h1 h2 h3 h4 h5 => pargs_any KF nm w0 r l (fun i y hy => ih i y hy) HV.out HMX.out A len c hA m' h1 h2 W bs' h3 h4 h5)
  have HBIN := Lib.hid (fun W bs' (h0 : l.length = 2) h1 h3 h4 h5 => pbin_any KF nm w0 r 6 n s f t l (fun i y hy => ih i y hy) HV.out HMX.out h0 h1 A len c hA W bs' h3 h4 h5)
  have HPREC := Lib.hid (fun W (h : Below w0.heap.size w0 W) => pprec_any (.mk k n s f t l) _ W (hv0.below h))
  have HTX := Lib.hid (fun W (h : EnvP W) => One.text_any n hfit.2.1 W h.num)
  have HQU := Lib.hid (fun W (h : EnvP W) => quote_any s (by omega) W h.tok)
  have HTN := Lib.hid (txN_eq n hfit.2.1)
  have HNA := Lib.hid (fun W h => hnm f W h hfit.2.2.1)
  have HNB := Lib.hid (fun W h => hnm t W h hfit.2.2.2.1)
  have HE := Lib.hid (fun W (h : Below w0.heap.size w0 W) => hE.below h)
  have HW := Lib.hid hw
  have HLEN := Lib.hid hlen0
  rw [pr_mk] at hlen ⊢
  simp only [Tr.kind, Tr.text, Tr.num, Tr.a, Tr.b, Tr.args] at HPREC
  unfold nodeV at HPREC HBIN ⊢
  obtain ⟨h, hh⟩ : ∃ h, h = holdsF k s := ⟨_, rfl⟩
  rw [← hh] at hlen HPREC ⊢
  obtain ⟨bd, hbd⟩ : ∃ bd, bd = bdF nm (.mk k n s f t l) := ⟨_, rfl⟩
  rw [← hbd] at hlen ⊢
  have HBD := Lib.hid hbd
  have HR5 := Lib.hid hr5
  have HR6 := Lib.hid hr6
  have HK6 := Lib.hid hok6
  have hst := nst_new (nm := (.func (.func KF) #[] #[])) hp (Fr.refl w0.heap.size r w) (.cells #[.int .i64 k, .int .i64 n, .string ⟨s.toArray⟩, .int .i64 f, .int .i64 t, .slice A len c] 36)
  have HST := Lib.hid hst
  have HB1 := Lib.hid (hw.trans (hst.fr.below))
  clear hv0 hfit hA ih hd hparts hr5 hr6 hr7 hM hE hnm hw hp hbd hh hst hlen0 hok6
  have hkk : k = 1 ∨ k = 2 ∨ k = 3 ∨ k = 4 ∨ k = 5 ∨ k = 6 ∨ k = 7 ∨ k = 8 := by omega
  clear hk1 hk8
  by_cases hmh : (h : Int) < m
  · rw [if_pos hmh] at hlen ⊢
    rcases hkk with rfl | rfl | rfl | rfl | rfl | rfl | rfl | rfl
    · have HPR := Lib.hid (HPREC.out _ HB1.out)
      clear HPREC
      obtain ⟨⟨p0, p1, p2, p3, p4, p5⟩, _⟩ := row6 HST.out.bx
      go_enter_defers Tryd.func30, Tryd.ntmps30
      go_wp2_with fail
      go_at_call 37
      with_reducible refine (HPR.out).mono ?_
      rintro e w1 ⟨rfl, hb1⟩
      have HN1 := Lib.hid (HST.out.below hb1)
      clear hb1 HPR p0 p1 p2 p3 p4 p5
      have hle : bs.length + [[(40 : UInt8)]].flatten.length ≤ lim ∧ ((bs ++ [40]).length + bd.length ≤ lim ∧ ((bs ++ [40]) ++ bd).length + [[(41 : UInt8)]].flatten.length ≤ lim) := by
        simp only [List.length_append, List.length_cons, List.length_nil, List.flatten_cons, List.flatten_nil, List.append_nil] at hlen ⊢
        omega
      have HLE0 := Lib.hid hle
      clear hlen hle
      have HC := Lib.hid (pw_any [[40]] 1 rfl (by decide) _ r w1.heap.size (.func (.func KF) #[] #[]) bs _ (HN1.out.row (.cells #[.string ⟨#[40]⟩] 9)).1.pr (heap_new rfl) HLE0.out.1)
      have HNb := Lib.hid (HN1.out.row (.cells #[.string ⟨#[40]⟩] 9)).1
      go_wp2_with fail
      go_at_call 38
      with_reducible refine (HC.out).mono ?_
      rintro e w2 ⟨rfl, hp2, hf2⟩
      have HN2 := Lib.hid ((HNb.out.step hp2 hf2).eq (by simp : _ = bs ++ [40]))
      clear HC HNb HN1 hp2 hf2
      have HQ := Lib.hid (HN2.out.row (.cells #[.string ⟨#[41]⟩] 9)).2
      have HF0 := Lib.hid (HN2.out.row (.cells #[.string ⟨#[41]⟩] 9)).1.fr
      have HN := Lib.hid (HN2.out.row (.cells #[.string ⟨#[41]⟩] 9)).1.base
      have HBW := Lib.hid (HW.out.trans HF0.out.below)
      have HL := Lib.hid HLE0.out.2.1
      have HQR := Lib.hid ((HN2.out.row (.cells #[.string ⟨#[41]⟩] 9)).1.pr.ne HQ.out (by decide))
      clear HN2
      have hbd : bd = txN n := by rw [HBD.out, bd1]
      have HC1 := Lib.hid (HTX.out (w2.alloc (.cells #[.string ⟨#[41]⟩] 9)) (HE.out _ HBW.out))
      rw [← HTN.out] at HC1
      rw [← hbd] at HC1
      clear hbd HTX HQU HTN HARGS HBIN HNA HNB HBD
      obtain ⟨⟨p0, p1, p2, p3, p4, p5⟩, _⟩ := row6 HN.out.bx
      generalize hbb : (⟨bd.toArray⟩ : ByteArray) = bb at *
      generalize (⟨s.toArray⟩ : ByteArray) = sb at *
      go_wp2_with fail
      go_at_call 39
      with_reducible refine (HC1.out).mono ?_
      rintro e wa ⟨rfl, hba⟩
      have HNa := Lib.hid (HN.out.below hba)
      clear hba p0 p1 p2 p3 p4 p5
      have HC := Lib.hid (pw_any [bd] 1 rfl (by decide) _ r wa.heap.size (.func (.func KF) #[] #[]) (bs ++ [40]) _ (HNa.out.row (.cells #[.string bb] 9)).1.pr (by rw [← hbb]; exact heap_new rfl) (by simpa using HL.out))
      have HNb := Lib.hid (HNa.out.row (.cells #[.string bb] 9)).1
      go_wp2_with fail
      go_at_call 38
      with_reducible refine (HC.out).mono ?_
      rintro e wf ⟨rfl, hpF, hfF⟩
      have hpF := hpF.eq (by simp : _ = bs ++ [40] ++ bd)
      have hfF := HNb.out.fr.trans hfF
      clear HC HNb HNa
      go_wp2_with fail
      have HD := Lib.hid (pwd_any [[41]] 1 rfl (by decide) _ r w2.heap.size (.func (.func KF) #[] #[]) _ wf hpF (hfF.heap HQ.out HQR.out (by decide)) HLE0.out.2.2)
      refine leaves_cons (f := 38) (args := #[.pointer (some ⟨r, 0, none⟩), .slice (some ⟨w2.heap.size, 0, none⟩) 1 1]) (by simp) (by simp [go_sem]) ?_
      refine (HD.out).mono ?_
      rintro e u' wz ⟨rfl, rfl, hpZ, hfZ⟩
      exact ⟨_, results_none rfl _ _ _, rfl, hpZ.eq (by simp), (HF0.out.trans hfF).trans hfZ⟩
    · have HPR := Lib.hid (HPREC.out _ HB1.out)
      clear HPREC
      obtain ⟨⟨p0, p1, p2, p3, p4, p5⟩, _⟩ := row6 HST.out.bx
      go_enter_defers Tryd.func30, Tryd.ntmps30
      go_wp2_with fail
      go_at_call 37
      with_reducible refine (HPR.out).mono ?_
      rintro e w1 ⟨rfl, hb1⟩
      have HN1 := Lib.hid (HST.out.below hb1)
      clear hb1 HPR p0 p1 p2 p3 p4 p5
      have hle : bs.length + [[(40 : UInt8)]].flatten.length ≤ lim ∧ ((bs ++ [40]).length + bd.length ≤ lim ∧ ((bs ++ [40]) ++ bd).length + [[(41 : UInt8)]].flatten.length ≤ lim) := by
        simp only [List.length_append, List.length_cons, List.length_nil, List.flatten_cons, List.flatten_nil, List.append_nil] at hlen ⊢
        omega
      have HLE0 := Lib.hid hle
      clear hlen hle
      have HC := Lib.hid (pw_any [[40]] 1 rfl (by decide) _ r w1.heap.size (.func (.func KF) #[] #[]) bs _ (HN1.out.row (.cells #[.string ⟨#[40]⟩] 9)).1.pr (heap_new rfl) HLE0.out.1)
      have HNb := Lib.hid (HN1.out.row (.cells #[.string ⟨#[40]⟩] 9)).1
      go_wp2_with fail
      go_at_call 38
      with_reducible refine (HC.out).mono ?_
      rintro e w2 ⟨rfl, hp2, hf2⟩
      have HN2 := Lib.hid ((HNb.out.step hp2 hf2).eq (by simp : _ = bs ++ [40]))
      clear HC HNb HN1 hp2 hf2
      have HQ := Lib.hid (HN2.out.row (.cells #[.string ⟨#[41]⟩] 9)).2
      have HF0 := Lib.hid (HN2.out.row (.cells #[.string ⟨#[41]⟩] 9)).1.fr
      have HN := Lib.hid (HN2.out.row (.cells #[.string ⟨#[41]⟩] 9)).1.base
      have HBW := Lib.hid (HW.out.trans HF0.out.below)
      have HL := Lib.hid HLE0.out.2.1
      have HQR := Lib.hid ((HN2.out.row (.cells #[.string ⟨#[41]⟩] 9)).1.pr.ne HQ.out (by decide))
      clear HN2
      have hbd : bd = quoteB s := by rw [HBD.out, bd2]
      have HC1 := Lib.hid (HQU.out (w2.alloc (.cells #[.string ⟨#[41]⟩] 9)) (HE.out _ HBW.out))
      rw [quoteL_B] at HC1
      rw [← hbd] at HC1
      clear hbd HTX HQU HTN HARGS HBIN HNA HNB HBD
      obtain ⟨⟨p0, p1, p2, p3, p4, p5⟩, _⟩ := row6 HN.out.bx
      generalize hbb : (⟨bd.toArray⟩ : ByteArray) = bb at *
      generalize (⟨s.toArray⟩ : ByteArray) = sb at *
      go_wp2_with fail
      go_at_call 40
      with_reducible refine (HC1.out).mono ?_
      rintro e wa ⟨rfl, hba⟩
      have HNa := Lib.hid (HN.out.below hba)
      clear hba p0 p1 p2 p3 p4 p5
      have HC := Lib.hid (pw_any [bd] 1 rfl (by decide) _ r wa.heap.size (.func (.func KF) #[] #[]) (bs ++ [40]) _ (HNa.out.row (.cells #[.string bb] 9)).1.pr (by rw [← hbb]; exact heap_new rfl) (by simpa using HL.out))
      have HNb := Lib.hid (HNa.out.row (.cells #[.string bb] 9)).1
      go_wp2_with fail
      go_at_call 38
      with_reducible refine (HC.out).mono ?_
      rintro e wf ⟨rfl, hpF, hfF⟩
      have hpF := hpF.eq (by simp : _ = bs ++ [40] ++ bd)
      have hfF := HNb.out.fr.trans hfF
      clear HC HNb HNa
      go_wp2_with fail
      have HD := Lib.hid (pwd_any [[41]] 1 rfl (by decide) _ r w2.heap.size (.func (.func KF) #[] #[]) _ wf hpF (hfF.heap HQ.out HQR.out (by decide)) HLE0.out.2.2)
      refine leaves_cons (f := 38) (args := #[.pointer (some ⟨r, 0, none⟩), .slice (some ⟨w2.heap.size, 0, none⟩) 1 1]) (by simp) (by simp [go_sem]) ?_
      refine (HD.out).mono ?_
      rintro e u' wz ⟨rfl, rfl, hpZ, hfZ⟩
      exact ⟨_, results_none rfl _ _ _, rfl, hpZ.eq (by simp), (HF0.out.trans hfF).trans hfZ⟩
    · have HPR := Lib.hid (HPREC.out _ HB1.out)
      clear HPREC
      obtain ⟨⟨p0, p1, p2, p3, p4, p5⟩, _⟩ := row6 HST.out.bx
      go_enter_defers Tryd.func30, Tryd.ntmps30
      go_wp2_with fail
      go_at_call 37
      with_reducible refine (HPR.out).mono ?_
      rintro e w1 ⟨rfl, hb1⟩
      have HN1 := Lib.hid (HST.out.below hb1)
      clear hb1 HPR p0 p1 p2 p3 p4 p5
      have hle : bs.length + [[(40 : UInt8)]].flatten.length ≤ lim ∧ ((bs ++ [40]).length + bd.length ≤ lim ∧ ((bs ++ [40]) ++ bd).length + [[(41 : UInt8)]].flatten.length ≤ lim) := by
        simp only [List.length_append, List.length_cons, List.length_nil, List.flatten_cons, List.flatten_nil, List.append_nil] at hlen ⊢
        omega
      have HLE0 := Lib.hid hle
      clear hlen hle
      have HC := Lib.hid (pw_any [[40]] 1 rfl (by decide) _ r w1.heap.size (.func (.func KF) #[] #[]) bs _ (HN1.out.row (.cells #[.string ⟨#[40]⟩] 9)).1.pr (heap_new rfl) HLE0.out.1)
      have HNb := Lib.hid (HN1.out.row (.cells #[.string ⟨#[40]⟩] 9)).1
      go_wp2_with fail
      go_at_call 38
      with_reducible refine (HC.out).mono ?_
      rintro e w2 ⟨rfl, hp2, hf2⟩
      have HN2 := Lib.hid ((HNb.out.step hp2 hf2).eq (by simp : _ = bs ++ [40]))
      clear HC HNb HN1 hp2 hf2
      have HQ := Lib.hid (HN2.out.row (.cells #[.string ⟨#[41]⟩] 9)).2
      have HF0 := Lib.hid (HN2.out.row (.cells #[.string ⟨#[41]⟩] 9)).1.fr
      have HN := Lib.hid (HN2.out.row (.cells #[.string ⟨#[41]⟩] 9)).1.base
      have HBW := Lib.hid (HW.out.trans HF0.out.below)
      have HL := Lib.hid HLE0.out.2.1
      have HQR := Lib.hid ((HN2.out.row (.cells #[.string ⟨#[41]⟩] 9)).1.pr.ne HQ.out (by decide))
      clear HN2
      have hbd : bd = nm f := by rw [HBD.out, bd3]
      have HBD2 := Lib.hid hbd
      clear hbd HTX HQU HTN HARGS HBIN HBD
      have HLE := Lib.hid (show (bs ++ [40]).length + [nm f].flatten.length ≤ lim from by have h1 := HL.out; rw [HBD2.out] at h1; simpa using h1)
      obtain ⟨⟨p0, p1, p2, p3, p4, p5⟩, _⟩ := row6 HN.out.bx
      obtain ⟨ba, hba0⟩ : ∃ ba : ByteArray, ba = ⟨(nm f).toArray⟩ := ⟨_, rfl⟩
      obtain ⟨bb, hbb0⟩ : ∃ bb : ByteArray, bb = ⟨(nm t).toArray⟩ := ⟨_, rfl⟩
      rw [← hba0] at HNA
      rw [← hbb0] at HNB
      have HBA0 := Lib.hid hba0
      have HBB0 := Lib.hid hbb0
      clear hba0 hbb0
      generalize (⟨s.toArray⟩ : ByteArray) = sb at *
      go_wp2_with fail
      clear p0 p1 p2 p3 p4 p5
      have hd := (Below.refl (w2.alloc (.cells #[.string ⟨#[41]⟩] 9)).heap.size (w2.alloc (.cells #[.string ⟨#[41]⟩] 9))).drew
      refine wp_region_noPanic ?_
      refine wp_region_held_drew (S := fun w' => w'.cell? ⟨r, 2, none⟩ = some (.func (.func KF) #[] #[]) ∧ w'.heap[w.heap.size]? = some (.cells #[.int .i64 3, .int .i64 n, .string sb, .int .i64 f, .int .i64 t, .slice A len c] 36)) (by kernel_rfl) HN.out.sees (fun HS0 => ?_)
      refine wpAnyH_take (i := 0) (v := ?_) rfl (by kernel_rfl) (by kernel_rfl) (by kernel_rfl) (fun _ _ _ h => h) (Or.inl ⟨by rfl, ?_⟩) HS0 ?_
      rotate_left
      · intro w hE; go_simp; try with_reducible rfl
      simp only [List.getElem_toArray, List.getElem_cons_succ, List.getElem_cons_zero, Act.put, List.setIfInBounds_toArray, List.set_cons_zero, List.set_cons_succ]
      refine wpAnyH_take (i := 1) (v := ?_) rfl (by kernel_rfl) (by kernel_rfl) (by kernel_rfl) (fun _ _ _ h => h) (Or.inl ⟨by rfl, ?_⟩) HS0 ?_
      rotate_left
      · intro w hE; go_simp; try with_reducible rfl
      simp only [List.getElem_toArray, List.getElem_cons_succ, List.getElem_cons_zero, Act.put, List.setIfInBounds_toArray, List.set_cons_zero, List.set_cons_succ]
      refine wpAnyH_take (i := 2) (v := ?_) rfl (by kernel_rfl) (by kernel_rfl) (by kernel_rfl) (fun _ _ _ h => h) (Or.inl ⟨by rfl, ?_⟩) HS0 ?_
      rotate_left
      · intro w hE; go_simp; try with_reducible rfl
      simp only [List.getElem_toArray, List.getElem_cons_succ, List.getElem_cons_zero, Act.put, List.setIfInBounds_toArray, List.set_cons_zero, List.set_cons_succ]
      refine wpAnyH_take (i := 3) (v := ?_) rfl (by kernel_rfl) (by kernel_rfl) (by kernel_rfl) (fun _ _ _ h => h) (Or.inl ⟨by rfl, ?_⟩) HS0 ?_
      rotate_left
      · intro w hE; go_simp; try with_reducible rfl
      simp only [List.getElem_toArray, List.getElem_cons_succ, List.getElem_cons_zero, Act.put, List.setIfInBounds_toArray, List.set_cons_zero, List.set_cons_succ]
      refine wpAnyH_take (i := 4) (v := ?_) rfl (by kernel_rfl) (by kernel_rfl) (by kernel_rfl) (fun _ _ _ h => h) (Or.inl ⟨by rfl, ?_⟩) HS0 ?_
      rotate_left
      · intro w hE; have hcell := hE.1; go_simp; try with_reducible rfl
      simp only [List.getElem_toArray, List.getElem_cons_succ, List.getElem_cons_zero, Act.put, List.setIfInBounds_toArray, List.set_cons_zero, List.set_cons_succ]
      refine wpAnyH_take (i := 5) (v := ?_) rfl (by kernel_rfl) (by kernel_rfl) (by kernel_rfl) (fun _ _ _ h => h) (Or.inl ⟨by rfl, ?_⟩) HS0 ?_
      rotate_left
      · intro w hE; go_simp; try with_reducible rfl
      simp only [List.getElem_toArray, List.getElem_cons_succ, List.getElem_cons_zero, Act.put, List.setIfInBounds_toArray, List.set_cons_zero, List.set_cons_succ]
      refine wpAnyH_take (i := 6) (v := ?_) rfl (by kernel_rfl) (by kernel_rfl) (by kernel_rfl) (fun _ _ _ h => h) (Or.inl ⟨by rfl, ?_⟩) HS0 ?_
      rotate_left
      · intro w hE; obtain ⟨⟨p0, p1, p2, p3, p4, p5⟩, _⟩ := row6 hE.2; go_simp; try with_reducible rfl
      simp only [List.getElem_toArray, List.getElem_cons_succ, List.getElem_cons_zero, Act.put, List.setIfInBounds_toArray, List.set_cons_zero, List.set_cons_succ]
      refine wpAnyH_ready (rs := [7]) (by kernel_rfl) (by simp) ?_
      refine AllReadyH.cons rfl (fun K hK => ?_) AllReadyH.nil
      go_simp
      refine (HNA.out _ (HE.out _ (HBW.out.trans (hd.mono HN.out.pr.base)))).mono ?_
      rintro e wA ⟨rfl, hbA⟩
      go_simp
      refine hK.out _ _ (HN.out.below (hd.trans (hbA.mono hd.size))).sees (fun HS1 => ?_)
      clear hK
      have HNx := Lib.hid (HN.out.below (hd.trans (hbA.mono hd.size)))
      try simp only [List.getElem_toArray, List.getElem_cons_succ, List.getElem_cons_zero, Act.put, List.setIfInBounds_toArray, List.set_cons_zero, List.set_cons_succ]
      refine wpAnyH_ready (rs := [8]) (by kernel_rfl) (by simp) ?_
      refine AllReadyH.cons rfl (fun K hK => ?_) AllReadyH.nil
      go_simp
      refine hK.out _ _ (HNx.out.row (.cells #[.string ba] 9)).1.sees (fun HS2 => ?_)
      clear hK
      have HNy := Lib.hid (HNx.out.row (.cells #[.string ba] 9)).1
      try simp only [List.getElem_toArray, List.getElem_cons_succ, List.getElem_cons_zero, Act.put, List.setIfInBounds_toArray, List.set_cons_zero, List.set_cons_succ]
      refine wpAnyH_ready (rs := [9]) (by kernel_rfl) (by simp) ?_
      refine AllReadyH.cons rfl (fun K hK => ?_) AllReadyH.nil
      go_simp
      go_at_call 38
      refine (pw_any [nm f] 1 rfl (by decide) _ r wA.heap.size (.func (.func KF) #[] #[]) (bs ++ [40]) _ HNy.out.pr (by rw [HBA0.out]; exact heap_new rfl) HLE.out).mono ?_
      rintro e wf ⟨rfl, hpF, hfF⟩
      go_simp
      refine hK.out _ _ (HNy.out.step hpF hfF).sees (fun HS3 => ?_)
      clear hK
      try simp only [List.getElem_toArray, List.getElem_cons_succ, List.getElem_cons_zero, Act.put, List.setIfInBounds_toArray, List.set_cons_zero, List.set_cons_succ]
      refine wpAnyH_done (by kernel_rfl) ?_ _
      refine NoPanic.normal ?_
      have hpF := hpF.eq (by rw [HBD2.out]; simp : _ = bs ++ [40] ++ bd)
      have hfF := HNy.out.fr.trans hfF
      clear HNx HNy
      go_wp2_with fail
      have HD := Lib.hid (pwd_any [[41]] 1 rfl (by decide) _ r w2.heap.size (.func (.func KF) #[] #[]) _ wf hpF (hfF.heap HQ.out HQR.out (by decide)) HLE0.out.2.2)
      refine leaves_cons (f := 38) (args := #[.pointer (some ⟨r, 0, none⟩), .slice (some ⟨w2.heap.size, 0, none⟩) 1 1]) (by simp) (by simp [go_sem]) ?_
      refine (HD.out).mono ?_
      rintro e u' wz ⟨rfl, rfl, hpZ, hfZ⟩
      exact ⟨_, results_none rfl _ _ _, rfl, hpZ.eq (by simp), (HF0.out.trans hfF).trans hfZ⟩
    · have HPR := Lib.hid (HPREC.out _ HB1.out)
      clear HPREC
      obtain ⟨⟨p0, p1, p2, p3, p4, p5⟩, _⟩ := row6 HST.out.bx
      go_enter_defers Tryd.func30, Tryd.ntmps30
      go_wp2_with fail
      go_at_call 37
      with_reducible refine (HPR.out).mono ?_
      rintro e w1 ⟨rfl, hb1⟩
      have HN1 := Lib.hid (HST.out.below hb1)
      clear hb1 HPR p0 p1 p2 p3 p4 p5
      have hle : bs.length + [[(40 : UInt8)]].flatten.length ≤ lim ∧ ((bs ++ [40]).length + bd.length ≤ lim ∧ ((bs ++ [40]) ++ bd).length + [[(41 : UInt8)]].flatten.length ≤ lim) := by
        simp only [List.length_append, List.length_cons, List.length_nil, List.flatten_cons, List.flatten_nil, List.append_nil] at hlen ⊢
        omega
      have HLE0 := Lib.hid hle
      clear hlen hle
      have HC := Lib.hid (pw_any [[40]] 1 rfl (by decide) _ r w1.heap.size (.func (.func KF) #[] #[]) bs _ (HN1.out.row (.cells #[.string ⟨#[40]⟩] 9)).1.pr (heap_new rfl) HLE0.out.1)
      have HNb := Lib.hid (HN1.out.row (.cells #[.string ⟨#[40]⟩] 9)).1
      go_wp2_with fail
      go_at_call 38
      with_reducible refine (HC.out).mono ?_
      rintro e w2 ⟨rfl, hp2, hf2⟩
      have HN2 := Lib.hid ((HNb.out.step hp2 hf2).eq (by simp : _ = bs ++ [40]))
      clear HC HNb HN1 hp2 hf2
      have HQ := Lib.hid (HN2.out.row (.cells #[.string ⟨#[41]⟩] 9)).2
      have HF0 := Lib.hid (HN2.out.row (.cells #[.string ⟨#[41]⟩] 9)).1.fr
      have HN := Lib.hid (HN2.out.row (.cells #[.string ⟨#[41]⟩] 9)).1.base
      have HBW := Lib.hid (HW.out.trans HF0.out.below)
      have HL := Lib.hid HLE0.out.2.1
      have HQR := Lib.hid ((HN2.out.row (.cells #[.string ⟨#[41]⟩] 9)).1.pr.ne HQ.out (by decide))
      clear HN2
      have hbd : bd = nm f ++ [58] ++ nm t := by rw [HBD.out, bd4]
      have HBD2 := Lib.hid hbd
      clear hbd HTX HQU HTN HARGS HBIN HBD
      have HLE := Lib.hid (show (bs ++ [40]).length + [nm f, [58], nm t].flatten.length ≤ lim from by have h1 := HL.out; rw [HBD2.out] at h1; simpa using h1)
      obtain ⟨⟨p0, p1, p2, p3, p4, p5⟩, _⟩ := row6 HN.out.bx
      obtain ⟨ba, hba0⟩ : ∃ ba : ByteArray, ba = ⟨(nm f).toArray⟩ := ⟨_, rfl⟩
      obtain ⟨bb, hbb0⟩ : ∃ bb : ByteArray, bb = ⟨(nm t).toArray⟩ := ⟨_, rfl⟩
      rw [← hba0] at HNA
      rw [← hbb0] at HNB
      have HBA0 := Lib.hid hba0
      have HBB0 := Lib.hid hbb0
      clear hba0 hbb0
      generalize (⟨s.toArray⟩ : ByteArray) = sb at *
      go_wp2_with fail
      clear p0 p1 p2 p3 p4 p5
      have hd := (Below.refl (w2.alloc (.cells #[.string ⟨#[41]⟩] 9)).heap.size (w2.alloc (.cells #[.string ⟨#[41]⟩] 9))).drew
      refine wp_region_noPanic ?_
      refine wp_region_held_drew (S := fun w' => w'.cell? ⟨r, 2, none⟩ = some (.func (.func KF) #[] #[]) ∧ w'.heap[w.heap.size]? = some (.cells #[.int .i64 4, .int .i64 n, .string sb, .int .i64 f, .int .i64 t, .slice A len c] 36)) (by kernel_rfl) HN.out.sees (fun HS0 => ?_)
      refine wpAnyH_take (i := 0) (v := ?_) rfl (by kernel_rfl) (by kernel_rfl) (by kernel_rfl) (fun _ _ _ h => h) (Or.inl ⟨by rfl, ?_⟩) HS0 ?_
      rotate_left
      · intro w hE; go_simp; try with_reducible rfl
      simp only [List.getElem_toArray, List.getElem_cons_succ, List.getElem_cons_zero, Act.put, List.setIfInBounds_toArray, List.set_cons_zero, List.set_cons_succ]
      refine wpAnyH_take (i := 1) (v := ?_) rfl (by kernel_rfl) (by kernel_rfl) (by kernel_rfl) (fun _ _ _ h => h) (Or.inl ⟨by rfl, ?_⟩) HS0 ?_
      rotate_left
      · intro w hE; go_simp; try with_reducible rfl
      simp only [List.getElem_toArray, List.getElem_cons_succ, List.getElem_cons_zero, Act.put, List.setIfInBounds_toArray, List.set_cons_zero, List.set_cons_succ]
      refine wpAnyH_take (i := 2) (v := ?_) rfl (by kernel_rfl) (by kernel_rfl) (by kernel_rfl) (fun _ _ _ h => h) (Or.inl ⟨by rfl, ?_⟩) HS0 ?_
      rotate_left
      · intro w hE; go_simp; try with_reducible rfl
      simp only [List.getElem_toArray, List.getElem_cons_succ, List.getElem_cons_zero, Act.put, List.setIfInBounds_toArray, List.set_cons_zero, List.set_cons_succ]
      refine wpAnyH_take (i := 3) (v := ?_) rfl (by kernel_rfl) (by kernel_rfl) (by kernel_rfl) (fun _ _ _ h => h) (Or.inl ⟨by rfl, ?_⟩) HS0 ?_
      rotate_left
      · intro w hE; go_simp; try with_reducible rfl
      simp only [List.getElem_toArray, List.getElem_cons_succ, List.getElem_cons_zero, Act.put, List.setIfInBounds_toArray, List.set_cons_zero, List.set_cons_succ]
      refine wpAnyH_take (i := 4) (v := ?_) rfl (by kernel_rfl) (by kernel_rfl) (by kernel_rfl) (fun _ _ _ h => h) (Or.inl ⟨by rfl, ?_⟩) HS0 ?_
      rotate_left
      · intro w hE; have hcell := hE.1; go_simp; try with_reducible rfl
      simp only [List.getElem_toArray, List.getElem_cons_succ, List.getElem_cons_zero, Act.put, List.setIfInBounds_toArray, List.set_cons_zero, List.set_cons_succ]
      refine wpAnyH_take (i := 5) (v := ?_) rfl (by kernel_rfl) (by kernel_rfl) (by kernel_rfl) (fun _ _ _ h => h) (Or.inl ⟨by rfl, ?_⟩) HS0 ?_
      rotate_left
      · intro w hE; go_simp; try with_reducible rfl
      simp only [List.getElem_toArray, List.getElem_cons_succ, List.getElem_cons_zero, Act.put, List.setIfInBounds_toArray, List.set_cons_zero, List.set_cons_succ]
      refine wpAnyH_take (i := 6) (v := ?_) rfl (by kernel_rfl) (by kernel_rfl) (by kernel_rfl) (fun _ _ _ h => h) (Or.inl ⟨by rfl, ?_⟩) HS0 ?_
      rotate_left
      · intro w hE; obtain ⟨⟨p0, p1, p2, p3, p4, p5⟩, _⟩ := row6 hE.2; go_simp; try with_reducible rfl
      simp only [List.getElem_toArray, List.getElem_cons_succ, List.getElem_cons_zero, Act.put, List.setIfInBounds_toArray, List.set_cons_zero, List.set_cons_succ]
      refine wpAnyH_take (i := 8) (v := ?_) rfl (by kernel_rfl) (by kernel_rfl) (by kernel_rfl) (fun _ _ _ h => h) (Or.inl ⟨by rfl, ?_⟩) HS0 ?_
      rotate_left
      · intro w hE; go_simp; try with_reducible rfl
      simp only [List.getElem_toArray, List.getElem_cons_succ, List.getElem_cons_zero, Act.put, List.setIfInBounds_toArray, List.set_cons_zero, List.set_cons_succ]
      refine wpAnyH_take (i := 9) (v := ?_) rfl (by kernel_rfl) (by kernel_rfl) (by kernel_rfl) (fun _ _ _ h => h) (Or.inl ⟨by rfl, ?_⟩) HS0 ?_
      rotate_left
      · intro w hE; go_simp; try with_reducible rfl
      simp only [List.getElem_toArray, List.getElem_cons_succ, List.getElem_cons_zero, Act.put, List.setIfInBounds_toArray, List.set_cons_zero, List.set_cons_succ]
      refine wpAnyH_take (i := 10) (v := ?_) rfl (by kernel_rfl) (by kernel_rfl) (by kernel_rfl) (fun _ _ _ h => h) (Or.inl ⟨by rfl, ?_⟩) HS0 ?_
      rotate_left
      · intro w hE; go_simp; try with_reducible rfl
      simp only [List.getElem_toArray, List.getElem_cons_succ, List.getElem_cons_zero, Act.put, List.setIfInBounds_toArray, List.set_cons_zero, List.set_cons_succ]
      refine wpAnyH_take (i := 11) (v := ?_) rfl (by kernel_rfl) (by kernel_rfl) (by kernel_rfl) (fun _ _ _ h => h) (Or.inl ⟨by rfl, ?_⟩) HS0 ?_
      rotate_left
      · intro w hE; have hcell := hE.1; go_simp; try with_reducible rfl
      simp only [List.getElem_toArray, List.getElem_cons_succ, List.getElem_cons_zero, Act.put, List.setIfInBounds_toArray, List.set_cons_zero, List.set_cons_succ]
      refine wpAnyH_take (i := 12) (v := ?_) rfl (by kernel_rfl) (by kernel_rfl) (by kernel_rfl) (fun _ _ _ h => h) (Or.inl ⟨by rfl, ?_⟩) HS0 ?_
      rotate_left
      · intro w hE; go_simp; try with_reducible rfl
      simp only [List.getElem_toArray, List.getElem_cons_succ, List.getElem_cons_zero, Act.put, List.setIfInBounds_toArray, List.set_cons_zero, List.set_cons_succ]
      refine wpAnyH_take (i := 13) (v := ?_) rfl (by kernel_rfl) (by kernel_rfl) (by kernel_rfl) (fun _ _ _ h => h) (Or.inl ⟨by rfl, ?_⟩) HS0 ?_
      rotate_left
      · intro w hE; obtain ⟨⟨p0, p1, p2, p3, p4, p5⟩, _⟩ := row6 hE.2; go_simp; try with_reducible rfl
      simp only [List.getElem_toArray, List.getElem_cons_succ, List.getElem_cons_zero, Act.put, List.setIfInBounds_toArray, List.set_cons_zero, List.set_cons_succ]
      refine wpAnyH_ready (rs := [7]) (by kernel_rfl) (by simp) ?_
      refine AllReadyH.cons rfl (fun K hK => ?_) AllReadyH.nil
      go_simp
      refine (HNA.out _ (HE.out _ (HBW.out.trans (hd.mono HN.out.pr.base)))).mono ?_
      rintro e wA ⟨rfl, hbA⟩
      go_simp
      refine hK.out _ _ (HN.out.below (hd.trans (hbA.mono hd.size))).sees (fun HS1 => ?_)
      clear hK
      have HNz := Lib.hid (HN.out.below (hd.trans (hbA.mono hd.size)))
      try simp only [List.getElem_toArray, List.getElem_cons_succ, List.getElem_cons_zero, Act.put, List.setIfInBounds_toArray, List.set_cons_zero, List.set_cons_succ]
      refine wpAnyH_ready (rs := [14]) (by kernel_rfl) (by simp) ?_
      refine AllReadyH.cons rfl (fun K hK => ?_) AllReadyH.nil
      go_simp
      refine (HNB.out _ (HE.out _ (HBW.out.trans HNz.out.fr.below))).mono ?_
      rintro e wB ⟨rfl, hbB⟩
      go_simp
      refine hK.out _ _ (HNz.out.below hbB).sees (fun HS2 => ?_)
      clear hK
      have HNx := Lib.hid (HNz.out.below hbB)
      try simp only [List.getElem_toArray, List.getElem_cons_succ, List.getElem_cons_zero, Act.put, List.setIfInBounds_toArray, List.set_cons_zero, List.set_cons_succ]
      refine wpAnyH_ready (rs := [15]) (by kernel_rfl) (by simp) ?_
      refine AllReadyH.cons rfl (fun K hK => ?_) AllReadyH.nil
      go_simp
      refine hK.out _ _ (HNx.out.row (.cells #[.string ba, .string ⟨#[58]⟩, .string bb] 9)).1.sees (fun HS3 => ?_)
      clear hK
      have HNy := Lib.hid (HNx.out.row (.cells #[.string ba, .string ⟨#[58]⟩, .string bb] 9)).1
      try simp only [List.getElem_toArray, List.getElem_cons_succ, List.getElem_cons_zero, Act.put, List.setIfInBounds_toArray, List.set_cons_zero, List.set_cons_succ]
      refine wpAnyH_ready (rs := [16]) (by kernel_rfl) (by simp) ?_
      refine AllReadyH.cons rfl (fun K hK => ?_) AllReadyH.nil
      go_simp
      go_at_call 38
      refine (pw_any [nm f, [58], nm t] 3 rfl (by decide) _ r wB.heap.size (.func (.func KF) #[] #[]) (bs ++ [40]) _ HNy.out.pr (by rw [HBA0.out, HBB0.out]; exact heap_new rfl) HLE.out).mono ?_
      rintro e wf ⟨rfl, hpF, hfF⟩
      go_simp
      refine hK.out _ _ (HNy.out.step hpF hfF).sees (fun HS4 => ?_)
      clear hK
      try simp only [List.getElem_toArray, List.getElem_cons_succ, List.getElem_cons_zero, Act.put, List.setIfInBounds_toArray, List.set_cons_zero, List.set_cons_succ]
      refine wpAnyH_done (by kernel_rfl) ?_ _
      refine NoPanic.normal ?_
      have hpF := hpF.eq (by rw [HBD2.out]; simp : _ = bs ++ [40] ++ bd)
      have hfF := HNy.out.fr.trans hfF
      clear HNx HNy
      go_wp2_with fail
      have HD := Lib.hid (pwd_any [[41]] 1 rfl (by decide) _ r w2.heap.size (.func (.func KF) #[] #[]) _ wf hpF (hfF.heap HQ.out HQR.out (by decide)) HLE0.out.2.2)
      refine leaves_cons (f := 38) (args := #[.pointer (some ⟨r, 0, none⟩), .slice (some ⟨w2.heap.size, 0, none⟩) 1 1]) (by simp) (by simp [go_sem]) ?_
      refine (HD.out).mono ?_
      rintro e u' wz ⟨rfl, rfl, hpZ, hfZ⟩
      exact ⟨_, results_none rfl _ _ _, rfl, hpZ.eq (by simp), (HF0.out.trans hfF).trans hfZ⟩
    · have HPR := Lib.hid (HPREC.out _ HB1.out)
      clear HPREC
      obtain ⟨⟨p0, p1, p2, p3, p4, p5⟩, _⟩ := row6 HST.out.bx
      go_enter_defers Tryd.func30, Tryd.ntmps30
      go_wp2_with fail
      go_at_call 37
      with_reducible refine (HPR.out).mono ?_
      rintro e w1 ⟨rfl, hb1⟩
      have HN1 := Lib.hid (HST.out.below hb1)
      clear hb1 HPR p0 p1 p2 p3 p4 p5
      have hle : bs.length + [[(40 : UInt8)]].flatten.length ≤ lim ∧ ((bs ++ [40]).length + bd.length ≤ lim ∧ ((bs ++ [40]) ++ bd).length + [[(41 : UInt8)]].flatten.length ≤ lim) := by
        simp only [List.length_append, List.length_cons, List.length_nil, List.flatten_cons, List.flatten_nil, List.append_nil] at hlen ⊢
        omega
      have HLE0 := Lib.hid hle
      clear hlen hle
      have HC := Lib.hid (pw_any [[40]] 1 rfl (by decide) _ r w1.heap.size (.func (.func KF) #[] #[]) bs _ (HN1.out.row (.cells #[.string ⟨#[40]⟩] 9)).1.pr (heap_new rfl) HLE0.out.1)
      have HNb := Lib.hid (HN1.out.row (.cells #[.string ⟨#[40]⟩] 9)).1
      go_wp2_with fail
      go_at_call 38
      with_reducible refine (HC.out).mono ?_
      rintro e w2 ⟨rfl, hp2, hf2⟩
      have HN2 := Lib.hid ((HNb.out.step hp2 hf2).eq (by simp : _ = bs ++ [40]))
      clear HC HNb HN1 hp2 hf2
      have HQ := Lib.hid (HN2.out.row (.cells #[.string ⟨#[41]⟩] 9)).2
      have HF0 := Lib.hid (HN2.out.row (.cells #[.string ⟨#[41]⟩] 9)).1.fr
      have HN := Lib.hid (HN2.out.row (.cells #[.string ⟨#[41]⟩] 9)).1.base
      have HBW := Lib.hid (HW.out.trans HF0.out.below)
      have HL := Lib.hid HLE0.out.2.1
      have HQR := Lib.hid ((HN2.out.row (.cells #[.string ⟨#[41]⟩] 9)).1.pr.ne HQ.out (by decide))
      clear HN2
      have hbd : bd = [45] ++ jnF txN 5 (l.map (namedF nm)) false := by rw [HBD.out]; exact bd5 nm n s f t l (HR5.out (by first | rfl | trivial))
      have hle : (bs ++ [40]).length + [[(45 : UInt8)]].flatten.length ≤ lim ∧ (bs ++ [40] ++ [45]).length + (jnF txN 5 (l.map (namedF nm)) false).length ≤ lim := by
        have h1 := HL.out
        rw [hbd] at h1
        simp only [List.length_append, List.length_cons, List.length_nil, List.flatten_cons, List.flatten_nil, List.append_nil] at h1 ⊢
        omega
      have HBD2 := Lib.hid hbd
      have HLE := Lib.hid hle
      clear hbd hle HTX HQU HTN HBIN HNA HNB HBD
      obtain ⟨⟨p0, p1, p2, p3, p4, p5⟩, _⟩ := row6 (HN.out.row (.cells #[.string ⟨#[45]⟩] 9)).1.bx
      have HC := Lib.hid (pw_any [[45]] 1 rfl (by decide) _ r (w2.heap.size + 1) (.func (.func KF) #[] #[]) (bs ++ [40]) _ (HN.out.row (.cells #[.string ⟨#[45]⟩] 9)).1.pr (heap_new (by simp)) HLE.out.1)
      have HNb := Lib.hid (HN.out.row (.cells #[.string ⟨#[45]⟩] 9)).1
      obtain ⟨⟨p0, p1, p2, p3, p4, p5⟩, _⟩ := row6 HN.out.bx
      generalize (⟨s.toArray⟩ : ByteArray) = sb at *
      go_wp2_with fail
      go_at_call 38
      with_reducible refine (HC.out).mono ?_
      rintro e w5 ⟨rfl, hp5, hf5⟩
      have HN5 := Lib.hid ((HNb.out.step hp5 hf5).eq (by simp : _ = bs ++ [40] ++ [45]))
      clear HC HNb hp5 hf5 p0 p1 p2 p3 p4 p5
      obtain ⟨⟨p0, p1, p2, p3, p4, p5⟩, _⟩ := row6 HN5.out.bx
      have HC := Lib.hid (HARGS.out 5 w5 (bs ++ [40] ++ [45]) (by omega) (by omega) (HBW.out.trans HN5.out.fr.below) HN5.out.pr HLE.out.2)
      go_wp2_with fail
      go_at_call 41
      with_reducible refine (HC.out).mono ?_
      rintro e wf ⟨rfl, hpF, hfF⟩
      have hpF := hpF.eq (by rw [HBD2.out]; simp : _ = bs ++ [40] ++ bd)
      have hfF := HN5.out.fr.trans hfF
      clear HC HN5
      go_wp2_with fail
      have HD := Lib.hid (pwd_any [[41]] 1 rfl (by decide) _ r w2.heap.size (.func (.func KF) #[] #[]) _ wf hpF (hfF.heap HQ.out HQR.out (by decide)) HLE0.out.2.2)
      refine leaves_cons (f := 38) (args := #[.pointer (some ⟨r, 0, none⟩), .slice (some ⟨w2.heap.size, 0, none⟩) 1 1]) (by simp) (by simp [go_sem]) ?_
      refine (HD.out).mono ?_
      rintro e u' wz ⟨rfl, rfl, hpZ, hfZ⟩
      exact ⟨_, results_none rfl _ _ _, rfl, hpZ.eq (by simp), (HF0.out.trans hfF).trans hfZ⟩
    · have HPR := Lib.hid (HPREC.out _ HB1.out)
      clear HPREC
      obtain ⟨⟨p0, p1, p2, p3, p4, p5⟩, _⟩ := row6 HST.out.bx
      go_enter_defers Tryd.func30, Tryd.ntmps30
      go_wp2_with fail
      go_at_call 37
      with_reducible refine (HPR.out).mono ?_
      rintro e w1 ⟨rfl, hb1⟩
      have HN1 := Lib.hid (HST.out.below hb1)
      clear hb1 HPR p0 p1 p2 p3 p4 p5
      have hle : bs.length + [[(40 : UInt8)]].flatten.length ≤ lim ∧ ((bs ++ [40]).length + bd.length ≤ lim ∧ ((bs ++ [40]) ++ bd).length + [[(41 : UInt8)]].flatten.length ≤ lim) := by
        simp only [List.length_append, List.length_cons, List.length_nil, List.flatten_cons, List.flatten_nil, List.append_nil] at hlen ⊢
        omega
      have HLE0 := Lib.hid hle
      clear hlen hle
      have HC := Lib.hid (pw_any [[40]] 1 rfl (by decide) _ r w1.heap.size (.func (.func KF) #[] #[]) bs _ (HN1.out.row (.cells #[.string ⟨#[40]⟩] 9)).1.pr (heap_new rfl) HLE0.out.1)
      have HNb := Lib.hid (HN1.out.row (.cells #[.string ⟨#[40]⟩] 9)).1
      go_wp2_with fail
      go_at_call 38
      with_reducible refine (HC.out).mono ?_
      rintro e w2 ⟨rfl, hp2, hf2⟩
      have HN2 := Lib.hid ((HNb.out.step hp2 hf2).eq (by simp : _ = bs ++ [40]))
      clear HC HNb HN1 hp2 hf2
      have HQ := Lib.hid (HN2.out.row (.cells #[.string ⟨#[41]⟩] 9)).2
      have HF0 := Lib.hid (HN2.out.row (.cells #[.string ⟨#[41]⟩] 9)).1.fr
      have HN := Lib.hid (HN2.out.row (.cells #[.string ⟨#[41]⟩] 9)).1.base
      have HBW := Lib.hid (HW.out.trans HF0.out.below)
      have HL := Lib.hid HLE0.out.2.1
      have HQR := Lib.hid ((HN2.out.row (.cells #[.string ⟨#[41]⟩] 9)).1.pr.ne HQ.out (by decide))
      clear HN2
      have hbd : bd = prAt txN (l.map (namedF nm)) 0 (levelF s) ++ s ++ prAt txN (l.map (namedF nm)) 1 ((levelF s : Int) + 1) := by rw [HBD.out]; exact bd6 nm n s f t l
      have HBD2 := Lib.hid hbd
      have HC := Lib.hid (HBIN.out (w2.alloc (.cells #[.string ⟨#[41]⟩] 9)) (bs ++ [40]) (HR6.out (by first | rfl | trivial)) (HK6.out (by first | rfl | trivial)) HBW.out HN.out.pr (by rw [← hbd]; exact HL.out))
      rw [← hbd] at HC
      clear hbd HTX HQU HTN HARGS HNA HNB HBD HBIN
      obtain ⟨⟨p0, p1, p2, p3, p4, p5⟩, _⟩ := row6 HN.out.bx
      generalize (⟨s.toArray⟩ : ByteArray) = sb at *
      go_wp2_with fail
      go_at_call 42
      with_reducible refine (HC.out).mono ?_
      rintro e wf ⟨rfl, hpF, hfF⟩
      clear HC
      go_wp2_with fail
      have HD := Lib.hid (pwd_any [[41]] 1 rfl (by decide) _ r w2.heap.size (.func (.func KF) #[] #[]) _ wf hpF (hfF.heap HQ.out HQR.out (by decide)) HLE0.out.2.2)
      refine leaves_cons (f := 38) (args := #[.pointer (some ⟨r, 0, none⟩), .slice (some ⟨w2.heap.size, 0, none⟩) 1 1]) (by simp) (by simp [go_sem]) ?_
      refine (HD.out).mono ?_
      rintro e u' wz ⟨rfl, rfl, hpZ, hfZ⟩
      exact ⟨_, results_none rfl _ _ _, rfl, hpZ.eq (by simp), (HF0.out.trans hfF).trans hfZ⟩
    · have HPR := Lib.hid (HPREC.out _ HB1.out)
      clear HPREC
      obtain ⟨⟨p0, p1, p2, p3, p4, p5⟩, _⟩ := row6 HST.out.bx
      go_enter_defers Tryd.func30, Tryd.ntmps30
      go_wp2_with fail
      go_at_call 37
      with_reducible refine (HPR.out).mono ?_
      rintro e w1 ⟨rfl, hb1⟩
      have HN1 := Lib.hid (HST.out.below hb1)
      clear hb1 HPR p0 p1 p2 p3 p4 p5
      have hle : bs.length + [[(40 : UInt8)]].flatten.length ≤ lim ∧ ((bs ++ [40]).length + bd.length ≤ lim ∧ ((bs ++ [40]) ++ bd).length + [[(41 : UInt8)]].flatten.length ≤ lim) := by
        simp only [List.length_append, List.length_cons, List.length_nil, List.flatten_cons, List.flatten_nil, List.append_nil] at hlen ⊢
        omega
      have HLE0 := Lib.hid hle
      clear hlen hle
      have HC := Lib.hid (pw_any [[40]] 1 rfl (by decide) _ r w1.heap.size (.func (.func KF) #[] #[]) bs _ (HN1.out.row (.cells #[.string ⟨#[40]⟩] 9)).1.pr (heap_new rfl) HLE0.out.1)
      have HNb := Lib.hid (HN1.out.row (.cells #[.string ⟨#[40]⟩] 9)).1
      go_wp2_with fail
      go_at_call 38
      with_reducible refine (HC.out).mono ?_
      rintro e w2 ⟨rfl, hp2, hf2⟩
      have HN2 := Lib.hid ((HNb.out.step hp2 hf2).eq (by simp : _ = bs ++ [40]))
      clear HC HNb HN1 hp2 hf2
      have HQ := Lib.hid (HN2.out.row (.cells #[.string ⟨#[41]⟩] 9)).2
      have HF0 := Lib.hid (HN2.out.row (.cells #[.string ⟨#[41]⟩] 9)).1.fr
      have HN := Lib.hid (HN2.out.row (.cells #[.string ⟨#[41]⟩] 9)).1.base
      have HBW := Lib.hid (HW.out.trans HF0.out.below)
      have HL := Lib.hid HLE0.out.2.1
      have HQR := Lib.hid ((HN2.out.row (.cells #[.string ⟨#[41]⟩] 9)).1.pr.ne HQ.out (by decide))
      clear HN2
      have hbd : bd = (s ++ [40]) ++ jnF txN 1 (l.map (namedF nm)) false ++ [41] := by rw [HBD.out, bd7]
      have hle : ((bs ++ [40]).length + [s, [40]].flatten.length ≤ lim ∧ (bs ++ [40] ++ (s ++ [40])).length + (jnF txN 1 (l.map (namedF nm)) false).length ≤ lim) ∧ (bs ++ [40] ++ (s ++ [40]) ++ jnF txN 1 (l.map (namedF nm)) false).length + [[(41 : UInt8)]].flatten.length ≤ lim := by
        have h1 := HL.out
        rw [hbd] at h1
        simp only [List.length_append, List.length_cons, List.length_nil, List.flatten_cons, List.flatten_nil, List.append_nil] at h1 ⊢
        omega
      have HBD2 := Lib.hid hbd
      have HLE := Lib.hid hle
      clear hbd hle HTX HQU HTN HBIN HNA HNB HBD
      have HC := Lib.hid (pw_any [s, [40]] 2 rfl (by decide) _ r (w2.heap.size + 1) (.func (.func KF) #[] #[]) (bs ++ [40]) _ (HN.out.row (.cells #[.string ⟨s.toArray⟩, .string ⟨#[40]⟩] 9)).1.pr (heap_new (by simp)) HLE.out.1.1)
      have HNb := Lib.hid (HN.out.row (.cells #[.string ⟨s.toArray⟩, .string ⟨#[40]⟩] 9)).1
      obtain ⟨⟨p0, p1, p2, p3, p4, p5⟩, _⟩ := row6 HN.out.bx
      generalize (⟨s.toArray⟩ : ByteArray) = sb at *
      go_wp2_with fail
      go_at_call 38
      with_reducible refine (HC.out).mono ?_
      rintro e w5 ⟨rfl, hp5, hf5⟩
      have HN5 := Lib.hid ((HNb.out.step hp5 hf5).eq (by simp : _ = bs ++ [40] ++ (s ++ [40])))
      clear HC HNb hp5 hf5 p0 p1 p2 p3 p4 p5
      obtain ⟨⟨p0, p1, p2, p3, p4, p5⟩, _⟩ := row6 HN5.out.bx
      have HC := Lib.hid (HARGS.out 1 w5 (bs ++ [40] ++ (s ++ [40])) (by omega) (by omega) (HBW.out.trans HN5.out.fr.below) HN5.out.pr HLE.out.1.2)
      go_wp2_with fail
      go_at_call 41
      with_reducible refine (HC.out).mono ?_
      rintro e w7 ⟨rfl, hp7, hf7⟩
      have HN7 := Lib.hid (HN5.out.step hp7 hf7)
      clear HC HN5 hp7 hf7 p0 p1 p2 p3 p4 p5
      have HC := Lib.hid (pw_any [[41]] 1 rfl (by decide) _ r w7.heap.size (.func (.func KF) #[] #[]) (bs ++ [40] ++ (s ++ [40]) ++ jnF txN 1 (l.map (namedF nm)) false) _ (HN7.out.row (.cells #[.string ⟨#[41]⟩] 9)).1.pr (heap_new rfl) HLE.out.2)
      have HN8 := Lib.hid (HN7.out.row (.cells #[.string ⟨#[41]⟩] 9)).1
      go_wp2_with fail
      go_at_call 38
      with_reducible refine (HC.out).mono ?_
      rintro e wf ⟨rfl, hpF, hfF⟩
      have hpF := hpF.eq (by rw [HBD2.out]; simp : _ = bs ++ [40] ++ bd)
      have hfF := HN8.out.fr.trans hfF
      clear HC HN8 HN7
      go_wp2_with fail
      have HD := Lib.hid (pwd_any [[41]] 1 rfl (by decide) _ r w2.heap.size (.func (.func KF) #[] #[]) _ wf hpF (hfF.heap HQ.out HQR.out (by decide)) HLE0.out.2.2)
      refine leaves_cons (f := 38) (args := #[.pointer (some ⟨r, 0, none⟩), .slice (some ⟨w2.heap.size, 0, none⟩) 1 1]) (by simp) (by simp [go_sem]) ?_
      refine (HD.out).mono ?_
      rintro e u' wz ⟨rfl, rfl, hpZ, hfZ⟩
      exact ⟨_, results_none rfl _ _ _, rfl, hpZ.eq (by simp), (HF0.out.trans hfF).trans hfZ⟩
    · have HPR := Lib.hid (HPREC.out _ HB1.out)
      clear HPREC
      obtain ⟨⟨p0, p1, p2, p3, p4, p5⟩, _⟩ := row6 HST.out.bx
      go_enter_defers Tryd.func30, Tryd.ntmps30
      go_wp2_with fail
      go_at_call 37
      with_reducible refine (HPR.out).mono ?_
      rintro e w1 ⟨rfl, hb1⟩
      have HN1 := Lib.hid (HST.out.below hb1)
      clear hb1 HPR p0 p1 p2 p3 p4 p5
      have hle : bs.length + [[(40 : UInt8)]].flatten.length ≤ lim ∧ ((bs ++ [40]).length + bd.length ≤ lim ∧ ((bs ++ [40]) ++ bd).length + [[(41 : UInt8)]].flatten.length ≤ lim) := by
        simp only [List.length_append, List.length_cons, List.length_nil, List.flatten_cons, List.flatten_nil, List.append_nil] at hlen ⊢
        omega
      have HLE0 := Lib.hid hle
      clear hlen hle
      have HC := Lib.hid (pw_any [[40]] 1 rfl (by decide) _ r w1.heap.size (.func (.func KF) #[] #[]) bs _ (HN1.out.row (.cells #[.string ⟨#[40]⟩] 9)).1.pr (heap_new rfl) HLE0.out.1)
      have HNb := Lib.hid (HN1.out.row (.cells #[.string ⟨#[40]⟩] 9)).1
      go_wp2_with fail
      go_at_call 38
      with_reducible refine (HC.out).mono ?_
      rintro e w2 ⟨rfl, hp2, hf2⟩
      have HN2 := Lib.hid ((HNb.out.step hp2 hf2).eq (by simp : _ = bs ++ [40]))
      clear HC HNb HN1 hp2 hf2
      have HQ := Lib.hid (HN2.out.row (.cells #[.string ⟨#[41]⟩] 9)).2
      have HF0 := Lib.hid (HN2.out.row (.cells #[.string ⟨#[41]⟩] 9)).1.fr
      have HN := Lib.hid (HN2.out.row (.cells #[.string ⟨#[41]⟩] 9)).1.base
      have HBW := Lib.hid (HW.out.trans HF0.out.below)
      have HL := Lib.hid HLE0.out.2.1
      have HQR := Lib.hid ((HN2.out.row (.cells #[.string ⟨#[41]⟩] 9)).1.pr.ne HQ.out (by decide))
      clear HN2
      have hbd : bd = [35, 82, 69, 70, 33] := by rw [HBD.out, bd8]
      have HBD2 := Lib.hid hbd
      have HLE := Lib.hid (show (bs ++ [40]).length + [[(35 : UInt8), 82, 69, 70, 33]].flatten.length ≤ lim from by have h1 := HL.out; rw [hbd] at h1; simpa using h1)
      clear hbd HTX HQU HTN HBIN HNA HNB HBD HARGS
      have HC := Lib.hid (pw_any [[35, 82, 69, 70, 33]] 1 rfl (by decide) _ r (w2.heap.size + 1) (.func (.func KF) #[] #[]) (bs ++ [40]) _ (HN.out.row (.cells #[.string ⟨#[35, 82, 69, 70, 33]⟩] 9)).1.pr (heap_new (by simp)) HLE.out)
      have HNb := Lib.hid (HN.out.row (.cells #[.string ⟨#[35, 82, 69, 70, 33]⟩] 9)).1
      obtain ⟨⟨p0, p1, p2, p3, p4, p5⟩, _⟩ := row6 HN.out.bx
      generalize (⟨s.toArray⟩ : ByteArray) = sb at *
      go_wp2_with fail
      go_at_call 38
      with_reducible refine (HC.out).mono ?_
      rintro e wf ⟨rfl, hpF, hfF⟩
      have hpF := hpF.eq (by rw [HBD2.out]; simp : _ = bs ++ [40] ++ bd)
      have hfF := HNb.out.fr.trans hfF
      clear HC HNb
      go_wp2_with fail
      have HD := Lib.hid (pwd_any [[41]] 1 rfl (by decide) _ r w2.heap.size (.func (.func KF) #[] #[]) _ wf hpF (hfF.heap HQ.out HQR.out (by decide)) HLE0.out.2.2)
      refine leaves_cons (f := 38) (args := #[.pointer (some ⟨r, 0, none⟩), .slice (some ⟨w2.heap.size, 0, none⟩) 1 1]) (by simp) (by simp [go_sem]) ?_
      refine (HD.out).mono ?_
      rintro e u' wz ⟨rfl, rfl, hpZ, hfZ⟩
      exact ⟨_, results_none rfl _ _ _, rfl, hpZ.eq (by simp), (HF0.out.trans hfF).trans hfZ⟩
  · rw [if_neg hmh] at hlen ⊢
    have hmh2 : m ≤ (h : Int) := by omega
    clear hmh
    rcases hkk with rfl | rfl | rfl | rfl | rfl | rfl | rfl | rfl
    · have HPR := Lib.hid (HPREC.out _ HB1.out)
      clear HPREC
      obtain ⟨⟨p0, p1, p2, p3, p4, p5⟩, _⟩ := row6 HST.out.bx
      go_enter_defers Tryd.func30, Tryd.ntmps30
      go_wp2_with fail
      go_at_call 37
      with_reducible refine (HPR.out).mono ?_
      rintro e w1 ⟨rfl, hb1⟩
      have HN1 := Lib.hid (HST.out.below hb1)
      clear hb1 HPR p0 p1 p2 p3 p4 p5
      have HF0 := Lib.hid HN1.out.fr
      have HN := Lib.hid HN1.out.base
      have HBW := Lib.hid (HW.out.trans HF0.out.below)
      have HL := Lib.hid hlen
      clear HN1 hlen
      have hbd : bd = txN n := by rw [HBD.out, bd1]
      have HC1 := Lib.hid (HTX.out w1 (HE.out _ HBW.out))
      rw [← HTN.out] at HC1
      rw [← hbd] at HC1
      clear hbd HTX HQU HTN HARGS HBIN HNA HNB HBD
      obtain ⟨⟨p0, p1, p2, p3, p4, p5⟩, _⟩ := row6 HN.out.bx
      generalize hbb : (⟨bd.toArray⟩ : ByteArray) = bb at *
      generalize (⟨s.toArray⟩ : ByteArray) = sb at *
      go_wp2_with fail
      go_at_call 39
      with_reducible refine (HC1.out).mono ?_
      rintro e wa ⟨rfl, hba⟩
      have HNa := Lib.hid (HN.out.below hba)
      clear hba p0 p1 p2 p3 p4 p5
      have HC := Lib.hid (pw_any [bd] 1 rfl (by decide) _ r wa.heap.size (.func (.func KF) #[] #[]) (bs) _ (HNa.out.row (.cells #[.string bb] 9)).1.pr (by rw [← hbb]; exact heap_new rfl) (by simpa using HL.out))
      have HNb := Lib.hid (HNa.out.row (.cells #[.string bb] 9)).1
      go_wp2_with fail
      go_at_call 38
      with_reducible refine (HC.out).mono ?_
      rintro e wf ⟨rfl, hpF, hfF⟩
      have hpF := hpF.eq (by simp : _ = bs ++ bd)
      have hfF := HNb.out.fr.trans hfF
      clear HC HNb HNa
      go_wp2_with fail
      exact ⟨_, results_none rfl _ _ _, rfl, hpF, HF0.out.trans hfF⟩
    · have HPR := Lib.hid (HPREC.out _ HB1.out)
      clear HPREC
      obtain ⟨⟨p0, p1, p2, p3, p4, p5⟩, _⟩ := row6 HST.out.bx
      go_enter_defers Tryd.func30, Tryd.ntmps30
      go_wp2_with fail
      go_at_call 37
      with_reducible refine (HPR.out).mono ?_
      rintro e w1 ⟨rfl, hb1⟩
      have HN1 := Lib.hid (HST.out.below hb1)
      clear hb1 HPR p0 p1 p2 p3 p4 p5
      have HF0 := Lib.hid HN1.out.fr
      have HN := Lib.hid HN1.out.base
      have HBW := Lib.hid (HW.out.trans HF0.out.below)
      have HL := Lib.hid hlen
      clear HN1 hlen
      have hbd : bd = quoteB s := by rw [HBD.out, bd2]
      have HC1 := Lib.hid (HQU.out w1 (HE.out _ HBW.out))
      rw [quoteL_B] at HC1
      rw [← hbd] at HC1
      clear hbd HTX HQU HTN HARGS HBIN HNA HNB HBD
      obtain ⟨⟨p0, p1, p2, p3, p4, p5⟩, _⟩ := row6 HN.out.bx
      generalize hbb : (⟨bd.toArray⟩ : ByteArray) = bb at *
      generalize (⟨s.toArray⟩ : ByteArray) = sb at *
      go_wp2_with fail
      go_at_call 40
      with_reducible refine (HC1.out).mono ?_
      rintro e wa ⟨rfl, hba⟩
      have HNa := Lib.hid (HN.out.below hba)
      clear hba p0 p1 p2 p3 p4 p5
      have HC := Lib.hid (pw_any [bd] 1 rfl (by decide) _ r wa.heap.size (.func (.func KF) #[] #[]) (bs) _ (HNa.out.row (.cells #[.string bb] 9)).1.pr (by rw [← hbb]; exact heap_new rfl) (by simpa using HL.out))
      have HNb := Lib.hid (HNa.out.row (.cells #[.string bb] 9)).1
      go_wp2_with fail
      go_at_call 38
      with_reducible refine (HC.out).mono ?_
      rintro e wf ⟨rfl, hpF, hfF⟩
      have hpF := hpF.eq (by simp : _ = bs ++ bd)
      have hfF := HNb.out.fr.trans hfF
      clear HC HNb HNa
      go_wp2_with fail
      exact ⟨_, results_none rfl _ _ _, rfl, hpF, HF0.out.trans hfF⟩
    · have HPR := Lib.hid (HPREC.out _ HB1.out)
      clear HPREC
      obtain ⟨⟨p0, p1, p2, p3, p4, p5⟩, _⟩ := row6 HST.out.bx
      go_enter_defers Tryd.func30, Tryd.ntmps30
      go_wp2_with fail
      go_at_call 37
      with_reducible refine (HPR.out).mono ?_
      rintro e w1 ⟨rfl, hb1⟩
      have HN1 := Lib.hid (HST.out.below hb1)
      clear hb1 HPR p0 p1 p2 p3 p4 p5
      have HF0 := Lib.hid HN1.out.fr
      have HN := Lib.hid HN1.out.base
      have HBW := Lib.hid (HW.out.trans HF0.out.below)
      have HL := Lib.hid hlen
      clear HN1 hlen
      have hbd : bd = nm f := by rw [HBD.out, bd3]
      have HBD2 := Lib.hid hbd
      clear hbd HTX HQU HTN HARGS HBIN HBD
      have HLE := Lib.hid (show (bs).length + [nm f].flatten.length ≤ lim from by have h1 := HL.out; rw [HBD2.out] at h1; simpa using h1)
      obtain ⟨⟨p0, p1, p2, p3, p4, p5⟩, _⟩ := row6 HN.out.bx
      obtain ⟨ba, hba0⟩ : ∃ ba : ByteArray, ba = ⟨(nm f).toArray⟩ := ⟨_, rfl⟩
      obtain ⟨bb, hbb0⟩ : ∃ bb : ByteArray, bb = ⟨(nm t).toArray⟩ := ⟨_, rfl⟩
      rw [← hba0] at HNA
      rw [← hbb0] at HNB
      have HBA0 := Lib.hid hba0
      have HBB0 := Lib.hid hbb0
      clear hba0 hbb0
      generalize (⟨s.toArray⟩ : ByteArray) = sb at *
      go_wp2_with fail
      clear p0 p1 p2 p3 p4 p5
      have hd := (Below.refl w1.heap.size w1).drew
      refine wp_region_noPanic ?_
      refine wp_region_held_drew (S := fun w' => w'.cell? ⟨r, 2, none⟩ = some (.func (.func KF) #[] #[]) ∧ w'.heap[w.heap.size]? = some (.cells #[.int .i64 3, .int .i64 n, .string sb, .int .i64 f, .int .i64 t, .slice A len c] 36)) (by kernel_rfl) HN.out.sees (fun HS0 => ?_)
      refine wpAnyH_take (i := 0) (v := ?_) rfl (by kernel_rfl) (by kernel_rfl) (by kernel_rfl) (fun _ _ _ h => h) (Or.inl ⟨by rfl, ?_⟩) HS0 ?_
      rotate_left
      · intro w hE; go_simp; try with_reducible rfl
      simp only [List.getElem_toArray, List.getElem_cons_succ, List.getElem_cons_zero, Act.put, List.setIfInBounds_toArray, List.set_cons_zero, List.set_cons_succ]
      refine wpAnyH_take (i := 1) (v := ?_) rfl (by kernel_rfl) (by kernel_rfl) (by kernel_rfl) (fun _ _ _ h => h) (Or.inl ⟨by rfl, ?_⟩) HS0 ?_
      rotate_left
      · intro w hE; go_simp; try with_reducible rfl
      simp only [List.getElem_toArray, List.getElem_cons_succ, List.getElem_cons_zero, Act.put, List.setIfInBounds_toArray, List.set_cons_zero, List.set_cons_succ]
      refine wpAnyH_take (i := 2) (v := ?_) rfl (by kernel_rfl) (by kernel_rfl) (by kernel_rfl) (fun _ _ _ h => h) (Or.inl ⟨by rfl, ?_⟩) HS0 ?_
      rotate_left
      · intro w hE; go_simp; try with_reducible rfl
      simp only [List.getElem_toArray, List.getElem_cons_succ, List.getElem_cons_zero, Act.put, List.setIfInBounds_toArray, List.set_cons_zero, List.set_cons_succ]
      refine wpAnyH_take (i := 3) (v := ?_) rfl (by kernel_rfl) (by kernel_rfl) (by kernel_rfl) (fun _ _ _ h => h) (Or.inl ⟨by rfl, ?_⟩) HS0 ?_
      rotate_left
      · intro w hE; go_simp; try with_reducible rfl
      simp only [List.getElem_toArray, List.getElem_cons_succ, List.getElem_cons_zero, Act.put, List.setIfInBounds_toArray, List.set_cons_zero, List.set_cons_succ]
      refine wpAnyH_take (i := 4) (v := ?_) rfl (by kernel_rfl) (by kernel_rfl) (by kernel_rfl) (fun _ _ _ h => h) (Or.inl ⟨by rfl, ?_⟩) HS0 ?_
      rotate_left
      · intro w hE; have hcell := hE.1; go_simp; try with_reducible rfl
      simp only [List.getElem_toArray, List.getElem_cons_succ, List.getElem_cons_zero, Act.put, List.setIfInBounds_toArray, List.set_cons_zero, List.set_cons_succ]
      refine wpAnyH_take (i := 5) (v := ?_) rfl (by kernel_rfl) (by kernel_rfl) (by kernel_rfl) (fun _ _ _ h => h) (Or.inl ⟨by rfl, ?_⟩) HS0 ?_
      rotate_left
      · intro w hE; go_simp; try with_reducible rfl
      simp only [List.getElem_toArray, List.getElem_cons_succ, List.getElem_cons_zero, Act.put, List.setIfInBounds_toArray, List.set_cons_zero, List.set_cons_succ]
      refine wpAnyH_take (i := 6) (v := ?_) rfl (by kernel_rfl) (by kernel_rfl) (by kernel_rfl) (fun _ _ _ h => h) (Or.inl ⟨by rfl, ?_⟩) HS0 ?_
      rotate_left
      · intro w hE; obtain ⟨⟨p0, p1, p2, p3, p4, p5⟩, _⟩ := row6 hE.2; go_simp; try with_reducible rfl
      simp only [List.getElem_toArray, List.getElem_cons_succ, List.getElem_cons_zero, Act.put, List.setIfInBounds_toArray, List.set_cons_zero, List.set_cons_succ]
      refine wpAnyH_ready (rs := [7]) (by kernel_rfl) (by simp) ?_
      refine AllReadyH.cons rfl (fun K hK => ?_) AllReadyH.nil
      go_simp
      refine (HNA.out _ (HE.out _ (HBW.out.trans (hd.mono HN.out.pr.base)))).mono ?_
      rintro e wA ⟨rfl, hbA⟩
      go_simp
      refine hK.out _ _ (HN.out.below (hd.trans (hbA.mono hd.size))).sees (fun HS1 => ?_)
      clear hK
      have HNx := Lib.hid (HN.out.below (hd.trans (hbA.mono hd.size)))
      try simp only [List.getElem_toArray, List.getElem_cons_succ, List.getElem_cons_zero, Act.put, List.setIfInBounds_toArray, List.set_cons_zero, List.set_cons_succ]
      refine wpAnyH_ready (rs := [8]) (by kernel_rfl) (by simp) ?_
      refine AllReadyH.cons rfl (fun K hK => ?_) AllReadyH.nil
      go_simp
      refine hK.out _ _ (HNx.out.row (.cells #[.string ba] 9)).1.sees (fun HS2 => ?_)
      clear hK
      have HNy := Lib.hid (HNx.out.row (.cells #[.string ba] 9)).1
      try simp only [List.getElem_toArray, List.getElem_cons_succ, List.getElem_cons_zero, Act.put, List.setIfInBounds_toArray, List.set_cons_zero, List.set_cons_succ]
      refine wpAnyH_ready (rs := [9]) (by kernel_rfl) (by simp) ?_
      refine AllReadyH.cons rfl (fun K hK => ?_) AllReadyH.nil
      go_simp
      go_at_call 38
      refine (pw_any [nm f] 1 rfl (by decide) _ r wA.heap.size (.func (.func KF) #[] #[]) (bs) _ HNy.out.pr (by rw [HBA0.out]; exact heap_new rfl) HLE.out).mono ?_
      rintro e wf ⟨rfl, hpF, hfF⟩
      go_simp
      refine hK.out _ _ (HNy.out.step hpF hfF).sees (fun HS3 => ?_)
      clear hK
      try simp only [List.getElem_toArray, List.getElem_cons_succ, List.getElem_cons_zero, Act.put, List.setIfInBounds_toArray, List.set_cons_zero, List.set_cons_succ]
      refine wpAnyH_done (by kernel_rfl) ?_ _
      refine NoPanic.normal ?_
      have hpF := hpF.eq (by rw [HBD2.out]; simp : _ = bs ++ bd)
      have hfF := HNy.out.fr.trans hfF
      clear HNx HNy
      go_wp2_with fail
      exact ⟨_, results_none rfl _ _ _, rfl, hpF, HF0.out.trans hfF⟩
    · have HPR := Lib.hid (HPREC.out _ HB1.out)
      clear HPREC
      obtain ⟨⟨p0, p1, p2, p3, p4, p5⟩, _⟩ := row6 HST.out.bx
      go_enter_defers Tryd.func30, Tryd.ntmps30
      go_wp2_with fail
      go_at_call 37
      with_reducible refine (HPR.out).mono ?_
      rintro e w1 ⟨rfl, hb1⟩
      have HN1 := Lib.hid (HST.out.below hb1)
      clear hb1 HPR p0 p1 p2 p3 p4 p5
      have HF0 := Lib.hid HN1.out.fr
      have HN := Lib.hid HN1.out.base
      have HBW := Lib.hid (HW.out.trans HF0.out.below)
      have HL := Lib.hid hlen
      clear HN1 hlen
      have hbd : bd = nm f ++ [58] ++ nm t := by rw [HBD.out, bd4]
      have HBD2 := Lib.hid hbd
      clear hbd HTX HQU HTN HARGS HBIN HBD
      have HLE := Lib.hid (show (bs).length + [nm f, [58], nm t].flatten.length ≤ lim from by have h1 := HL.out; rw [HBD2.out] at h1; simpa using h1)
      obtain ⟨⟨p0, p1, p2, p3, p4, p5⟩, _⟩ := row6 HN.out.bx
      obtain ⟨ba, hba0⟩ : ∃ ba : ByteArray, ba = ⟨(nm f).toArray⟩ := ⟨_, rfl⟩
      obtain ⟨bb, hbb0⟩ : ∃ bb : ByteArray, bb = ⟨(nm t).toArray⟩ := ⟨_, rfl⟩
      rw [← hba0] at HNA
      rw [← hbb0] at HNB
      have HBA0 := Lib.hid hba0
      have HBB0 := Lib.hid hbb0
      clear hba0 hbb0
      generalize (⟨s.toArray⟩ : ByteArray) = sb at *
      go_wp2_with fail
      clear p0 p1 p2 p3 p4 p5
      have hd := (Below.refl w1.heap.size w1).drew
      refine wp_region_noPanic ?_
      refine wp_region_held_drew (S := fun w' => w'.cell? ⟨r, 2, none⟩ = some (.func (.func KF) #[] #[]) ∧ w'.heap[w.heap.size]? = some (.cells #[.int .i64 4, .int .i64 n, .string sb, .int .i64 f, .int .i64 t, .slice A len c] 36)) (by kernel_rfl) HN.out.sees (fun HS0 => ?_)
      refine wpAnyH_take (i := 0) (v := ?_) rfl (by kernel_rfl) (by kernel_rfl) (by kernel_rfl) (fun _ _ _ h => h) (Or.inl ⟨by rfl, ?_⟩) HS0 ?_
      rotate_left
      · intro w hE; go_simp; try with_reducible rfl
      simp only [List.getElem_toArray, List.getElem_cons_succ, List.getElem_cons_zero, Act.put, List.setIfInBounds_toArray, List.set_cons_zero, List.set_cons_succ]
      refine wpAnyH_take (i := 1) (v := ?_) rfl (by kernel_rfl) (by kernel_rfl) (by kernel_rfl) (fun _ _ _ h => h) (Or.inl ⟨by rfl, ?_⟩) HS0 ?_
      rotate_left
      · intro w hE; go_simp; try with_reducible rfl
      simp only [List.getElem_toArray, List.getElem_cons_succ, List.getElem_cons_zero, Act.put, List.setIfInBounds_toArray, List.set_cons_zero, List.set_cons_succ]
      refine wpAnyH_take (i := 2) (v := ?_) rfl (by kernel_rfl) (by kernel_rfl) (by kernel_rfl) (fun _ _ _ h => h) (Or.inl ⟨by rfl, ?_⟩) HS0 ?_
      rotate_left
      · intro w hE; go_simp; try with_reducible rfl
      simp only [List.getElem_toArray, List.getElem_cons_succ, List.getElem_cons_zero, Act.put, List.setIfInBounds_toArray, List.set_cons_zero, List.set_cons_succ]
      refine wpAnyH_take (i := 3) (v := ?_) rfl (by kernel_rfl) (by kernel_rfl) (by kernel_rfl) (fun _ _ _ h => h) (Or.inl ⟨by rfl, ?_⟩) HS0 ?_
      rotate_left
      · intro w hE; go_simp; try with_reducible rfl
      simp only [List.getElem_toArray, List.getElem_cons_succ, List.getElem_cons_zero, Act.put, List.setIfInBounds_toArray, List.set_cons_zero, List.set_cons_succ]
      refine wpAnyH_take (i := 4) (v := ?_) rfl (by kernel_rfl) (by kernel_rfl) (by kernel_rfl) (fun _ _ _ h => h) (Or.inl ⟨by rfl, ?_⟩) HS0 ?_
      rotate_left
      · intro w hE; have hcell := hE.1; go_simp; try with_reducible rfl
      simp only [List.getElem_toArray, List.getElem_cons_succ, List.getElem_cons_zero, Act.put, List.setIfInBounds_toArray, List.set_cons_zero, List.set_cons_succ]
      refine wpAnyH_take (i := 5) (v := ?_) rfl (by kernel_rfl) (by kernel_rfl) (by kernel_rfl) (fun _ _ _ h => h) (Or.inl ⟨by rfl, ?_⟩) HS0 ?_
      rotate_left
      · intro w hE; go_simp; try with_reducible rfl
      simp only [List.getElem_toArray, List.getElem_cons_succ, List.getElem_cons_zero, Act.put, List.setIfInBounds_toArray, List.set_cons_zero, List.set_cons_succ]
      refine wpAnyH_take (i := 6) (v := ?_) rfl (by kernel_rfl) (by kernel_rfl) (by kernel_rfl) (fun _ _ _ h => h) (Or.inl ⟨by rfl, ?_⟩) HS0 ?_
      rotate_left
      · intro w hE; obtain ⟨⟨p0, p1, p2, p3, p4, p5⟩, _⟩ := row6 hE.2; go_simp; try with_reducible rfl
      simp only [List.getElem_toArray, List.getElem_cons_succ, List.getElem_cons_zero, Act.put, List.setIfInBounds_toArray, List.set_cons_zero, List.set_cons_succ]
      refine wpAnyH_take (i := 8) (v := ?_) rfl (by kernel_rfl) (by kernel_rfl) (by kernel_rfl) (fun _ _ _ h => h) (Or.inl ⟨by rfl, ?_⟩) HS0 ?_
      rotate_left
      · intro w hE; go_simp; try with_reducible rfl
      simp only [List.getElem_toArray, List.getElem_cons_succ, List.getElem_cons_zero, Act.put, List.setIfInBounds_toArray, List.set_cons_zero, List.set_cons_succ]
      refine wpAnyH_take (i := 9) (v := ?_) rfl (by kernel_rfl) (by kernel_rfl) (by kernel_rfl) (fun _ _ _ h => h) (Or.inl ⟨by rfl, ?_⟩) HS0 ?_
      rotate_left
      · intro w hE; go_simp; try with_reducible rfl
      simp only [List.getElem_toArray, List.getElem_cons_succ, List.getElem_cons_zero, Act.put, List.setIfInBounds_toArray, List.set_cons_zero, List.set_cons_succ]
      refine wpAnyH_take (i := 10) (v := ?_) rfl (by kernel_rfl) (by kernel_rfl) (by kernel_rfl) (fun _ _ _ h => h) (Or.inl ⟨by rfl, ?_⟩) HS0 ?_
      rotate_left
      · intro w hE; go_simp; try with_reducible rfl
      simp only [List.getElem_toArray, List.getElem_cons_succ, List.getElem_cons_zero, Act.put, List.setIfInBounds_toArray, List.set_cons_zero, List.set_cons_succ]
      refine wpAnyH_take (i := 11) (v := ?_) rfl (by kernel_rfl) (by kernel_rfl) (by kernel_rfl) (fun _ _ _ h => h) (Or.inl ⟨by rfl, ?_⟩) HS0 ?_
      rotate_left
      · intro w hE; have hcell := hE.1; go_simp; try with_reducible rfl
      simp only [List.getElem_toArray, List.getElem_cons_succ, List.getElem_cons_zero, Act.put, List.setIfInBounds_toArray, List.set_cons_zero, List.set_cons_succ]
      refine wpAnyH_take (i := 12) (v := ?_) rfl (by kernel_rfl) (by kernel_rfl) (by kernel_rfl) (fun _ _ _ h => h) (Or.inl ⟨by rfl, ?_⟩) HS0 ?_
      rotate_left
      · intro w hE; go_simp; try with_reducible rfl
      simp only [List.getElem_toArray, List.getElem_cons_succ, List.getElem_cons_zero, Act.put, List.setIfInBounds_toArray, List.set_cons_zero, List.set_cons_succ]
      refine wpAnyH_take (i := 13) (v := ?_) rfl (by kernel_rfl) (by kernel_rfl) (by kernel_rfl) (fun _ _ _ h => h) (Or.inl ⟨by rfl, ?_⟩) HS0 ?_
      rotate_left
      · intro w hE; obtain ⟨⟨p0, p1, p2, p3, p4, p5⟩, _⟩ := row6 hE.2; go_simp; try with_reducible rfl
      simp only [List.getElem_toArray, List.getElem_cons_succ, List.getElem_cons_zero, Act.put, List.setIfInBounds_toArray, List.set_cons_zero, List.set_cons_succ]
      refine wpAnyH_ready (rs := [7]) (by kernel_rfl) (by simp) ?_
      refine AllReadyH.cons rfl (fun K hK => ?_) AllReadyH.nil
      go_simp
      refine (HNA.out _ (HE.out _ (HBW.out.trans (hd.mono HN.out.pr.base)))).mono ?_
      rintro e wA ⟨rfl, hbA⟩
      go_simp
      refine hK.out _ _ (HN.out.below (hd.trans (hbA.mono hd.size))).sees (fun HS1 => ?_)
      clear hK
      have HNz := Lib.hid (HN.out.below (hd.trans (hbA.mono hd.size)))
      try simp only [List.getElem_toArray, List.getElem_cons_succ, List.getElem_cons_zero, Act.put, List.setIfInBounds_toArray, List.set_cons_zero, List.set_cons_succ]
      refine wpAnyH_ready (rs := [14]) (by kernel_rfl) (by simp) ?_
      refine AllReadyH.cons rfl (fun K hK => ?_) AllReadyH.nil
      go_simp
      refine (HNB.out _ (HE.out _ (HBW.out.trans HNz.out.fr.below))).mono ?_
      rintro e wB ⟨rfl, hbB⟩
      go_simp
      refine hK.out _ _ (HNz.out.below hbB).sees (fun HS2 => ?_)
      clear hK
      have HNx := Lib.hid (HNz.out.below hbB)
      try simp only [List.getElem_toArray, List.getElem_cons_succ, List.getElem_cons_zero, Act.put, List.setIfInBounds_toArray, List.set_cons_zero, List.set_cons_succ]
      refine wpAnyH_ready (rs := [15]) (by kernel_rfl) (by simp) ?_
      refine AllReadyH.cons rfl (fun K hK => ?_) AllReadyH.nil
      go_simp
      refine hK.out _ _ (HNx.out.row (.cells #[.string ba, .string ⟨#[58]⟩, .string bb] 9)).1.sees (fun HS3 => ?_)
      clear hK
      have HNy := Lib.hid (HNx.out.row (.cells #[.string ba, .string ⟨#[58]⟩, .string bb] 9)).1
      try simp only [List.getElem_toArray, List.getElem_cons_succ, List.getElem_cons_zero, Act.put, List.setIfInBounds_toArray, List.set_cons_zero, List.set_cons_succ]
      refine wpAnyH_ready (rs := [16]) (by kernel_rfl) (by simp) ?_
      refine AllReadyH.cons rfl (fun K hK => ?_) AllReadyH.nil
      go_simp
      go_at_call 38
      refine (pw_any [nm f, [58], nm t] 3 rfl (by decide) _ r wB.heap.size (.func (.func KF) #[] #[]) (bs) _ HNy.out.pr (by rw [HBA0.out, HBB0.out]; exact heap_new rfl) HLE.out).mono ?_
      rintro e wf ⟨rfl, hpF, hfF⟩
      go_simp
      refine hK.out _ _ (HNy.out.step hpF hfF).sees (fun HS4 => ?_)
      clear hK
      try simp only [List.getElem_toArray, List.getElem_cons_succ, List.getElem_cons_zero, Act.put, List.setIfInBounds_toArray, List.set_cons_zero, List.set_cons_succ]
      refine wpAnyH_done (by kernel_rfl) ?_ _
      refine NoPanic.normal ?_
      have hpF := hpF.eq (by rw [HBD2.out]; simp : _ = bs ++ bd)
      have hfF := HNy.out.fr.trans hfF
      clear HNx HNy
      go_wp2_with fail
      exact ⟨_, results_none rfl _ _ _, rfl, hpF, HF0.out.trans hfF⟩
    · have HPR := Lib.hid (HPREC.out _ HB1.out)
      clear HPREC
      obtain ⟨⟨p0, p1, p2, p3, p4, p5⟩, _⟩ := row6 HST.out.bx
      go_enter_defers Tryd.func30, Tryd.ntmps30
      go_wp2_with fail
      go_at_call 37
      with_reducible refine (HPR.out).mono ?_
      rintro e w1 ⟨rfl, hb1⟩
      have HN1 := Lib.hid (HST.out.below hb1)
      clear hb1 HPR p0 p1 p2 p3 p4 p5
      have HF0 := Lib.hid HN1.out.fr
      have HN := Lib.hid HN1.out.base
      have HBW := Lib.hid (HW.out.trans HF0.out.below)
      have HL := Lib.hid hlen
      clear HN1 hlen
      have hbd : bd = [45] ++ jnF txN 5 (l.map (namedF nm)) false := by rw [HBD.out]; exact bd5 nm n s f t l (HR5.out (by first | rfl | trivial))
      have hle : (bs).length + [[(45 : UInt8)]].flatten.length ≤ lim ∧ (bs ++ [45]).length + (jnF txN 5 (l.map (namedF nm)) false).length ≤ lim := by
        have h1 := HL.out
        rw [hbd] at h1
        simp only [List.length_append, List.length_cons, List.length_nil, List.flatten_cons, List.flatten_nil, List.append_nil] at h1 ⊢
        omega
      have HBD2 := Lib.hid hbd
      have HLE := Lib.hid hle
      clear hbd hle HTX HQU HTN HBIN HNA HNB HBD
      obtain ⟨⟨p0, p1, p2, p3, p4, p5⟩, _⟩ := row6 (HN.out.row (.cells #[.string ⟨#[45]⟩] 9)).1.bx
      have HC := Lib.hid (pw_any [[45]] 1 rfl (by decide) _ r (w1.heap.size) (.func (.func KF) #[] #[]) (bs) _ (HN.out.row (.cells #[.string ⟨#[45]⟩] 9)).1.pr (heap_new (by simp)) HLE.out.1)
      have HNb := Lib.hid (HN.out.row (.cells #[.string ⟨#[45]⟩] 9)).1
      obtain ⟨⟨p0, p1, p2, p3, p4, p5⟩, _⟩ := row6 HN.out.bx
      generalize (⟨s.toArray⟩ : ByteArray) = sb at *
      go_wp2_with fail
      go_at_call 38
      with_reducible refine (HC.out).mono ?_
      rintro e w5 ⟨rfl, hp5, hf5⟩
      have HN5 := Lib.hid ((HNb.out.step hp5 hf5).eq (by simp : _ = bs ++ [45]))
      clear HC HNb hp5 hf5 p0 p1 p2 p3 p4 p5
      obtain ⟨⟨p0, p1, p2, p3, p4, p5⟩, _⟩ := row6 HN5.out.bx
      have HC := Lib.hid (HARGS.out 5 w5 (bs ++ [45]) (by omega) (by omega) (HBW.out.trans HN5.out.fr.below) HN5.out.pr HLE.out.2)
      go_wp2_with fail
      go_at_call 41
      with_reducible refine (HC.out).mono ?_
      rintro e wf ⟨rfl, hpF, hfF⟩
      have hpF := hpF.eq (by rw [HBD2.out]; simp : _ = bs ++ bd)
      have hfF := HN5.out.fr.trans hfF
      clear HC HN5
      go_wp2_with fail
      exact ⟨_, results_none rfl _ _ _, rfl, hpF, HF0.out.trans hfF⟩
    · have HPR := Lib.hid (HPREC.out _ HB1.out)
      clear HPREC
      obtain ⟨⟨p0, p1, p2, p3, p4, p5⟩, _⟩ := row6 HST.out.bx
      go_enter_defers Tryd.func30, Tryd.ntmps30
      go_wp2_with fail
      go_at_call 37
      with_reducible refine (HPR.out).mono ?_
      rintro e w1 ⟨rfl, hb1⟩
      have HN1 := Lib.hid (HST.out.below hb1)
      clear hb1 HPR p0 p1 p2 p3 p4 p5
      have HF0 := Lib.hid HN1.out.fr
      have HN := Lib.hid HN1.out.base
      have HBW := Lib.hid (HW.out.trans HF0.out.below)
      have HL := Lib.hid hlen
      clear HN1 hlen
      have hbd : bd = prAt txN (l.map (namedF nm)) 0 (levelF s) ++ s ++ prAt txN (l.map (namedF nm)) 1 ((levelF s : Int) + 1) := by rw [HBD.out]; exact bd6 nm n s f t l
      have HBD2 := Lib.hid hbd
      have HC := Lib.hid (HBIN.out w1 (bs) (HR6.out (by first | rfl | trivial)) (HK6.out (by first | rfl | trivial)) HBW.out HN.out.pr (by rw [← hbd]; exact HL.out))
      rw [← hbd] at HC
      clear hbd HTX HQU HTN HARGS HNA HNB HBD HBIN
      obtain ⟨⟨p0, p1, p2, p3, p4, p5⟩, _⟩ := row6 HN.out.bx
      generalize (⟨s.toArray⟩ : ByteArray) = sb at *
      go_wp2_with fail
      go_at_call 42
      with_reducible refine (HC.out).mono ?_
      rintro e wf ⟨rfl, hpF, hfF⟩
      clear HC
      go_wp2_with fail
      exact ⟨_, results_none rfl _ _ _, rfl, hpF, HF0.out.trans hfF⟩
    · have HPR := Lib.hid (HPREC.out _ HB1.out)
      clear HPREC
      obtain ⟨⟨p0, p1, p2, p3, p4, p5⟩, _⟩ := row6 HST.out.bx
      go_enter_defers Tryd.func30, Tryd.ntmps30
      go_wp2_with fail
      go_at_call 37
      with_reducible refine (HPR.out).mono ?_
      rintro e w1 ⟨rfl, hb1⟩
      have HN1 := Lib.hid (HST.out.below hb1)
      clear hb1 HPR p0 p1 p2 p3 p4 p5
      have HF0 := Lib.hid HN1.out.fr
      have HN := Lib.hid HN1.out.base
      have HBW := Lib.hid (HW.out.trans HF0.out.below)
      have HL := Lib.hid hlen
      clear HN1 hlen
      have hbd : bd = (s ++ [40]) ++ jnF txN 1 (l.map (namedF nm)) false ++ [41] := by rw [HBD.out, bd7]
      have hle : ((bs).length + [s, [40]].flatten.length ≤ lim ∧ (bs ++ (s ++ [40])).length + (jnF txN 1 (l.map (namedF nm)) false).length ≤ lim) ∧ (bs ++ (s ++ [40]) ++ jnF txN 1 (l.map (namedF nm)) false).length + [[(41 : UInt8)]].flatten.length ≤ lim := by
        have h1 := HL.out
        rw [hbd] at h1
        simp only [List.length_append, List.length_cons, List.length_nil, List.flatten_cons, List.flatten_nil, List.append_nil] at h1 ⊢
        omega
      have HBD2 := Lib.hid hbd
      have HLE := Lib.hid hle
      clear hbd hle HTX HQU HTN HBIN HNA HNB HBD
      have HC := Lib.hid (pw_any [s, [40]] 2 rfl (by decide) _ r (w1.heap.size) (.func (.func KF) #[] #[]) (bs) _ (HN.out.row (.cells #[.string ⟨s.toArray⟩, .string ⟨#[40]⟩] 9)).1.pr (heap_new (by simp)) HLE.out.1.1)
      have HNb := Lib.hid (HN.out.row (.cells #[.string ⟨s.toArray⟩, .string ⟨#[40]⟩] 9)).1
      obtain ⟨⟨p0, p1, p2, p3, p4, p5⟩, _⟩ := row6 HN.out.bx
      generalize (⟨s.toArray⟩ : ByteArray) = sb at *
      go_wp2_with fail
      go_at_call 38
      with_reducible refine (HC.out).mono ?_
      rintro e w5 ⟨rfl, hp5, hf5⟩
      have HN5 := Lib.hid ((HNb.out.step hp5 hf5).eq (by simp : _ = bs ++ (s ++ [40])))
      clear HC HNb hp5 hf5 p0 p1 p2 p3 p4 p5
      obtain ⟨⟨p0, p1, p2, p3, p4, p5⟩, _⟩ := row6 HN5.out.bx
      have HC := Lib.hid (HARGS.out 1 w5 (bs ++ (s ++ [40])) (by omega) (by omega) (HBW.out.trans HN5.out.fr.below) HN5.out.pr HLE.out.1.2)
      go_wp2_with fail
      go_at_call 41
      with_reducible refine (HC.out).mono ?_
      rintro e w7 ⟨rfl, hp7, hf7⟩
      have HN7 := Lib.hid (HN5.out.step hp7 hf7)
      clear HC HN5 hp7 hf7 p0 p1 p2 p3 p4 p5
      have HC := Lib.hid (pw_any [[41]] 1 rfl (by decide) _ r w7.heap.size (.func (.func KF) #[] #[]) (bs ++ (s ++ [40]) ++ jnF txN 1 (l.map (namedF nm)) false) _ (HN7.out.row (.cells #[.string ⟨#[41]⟩] 9)).1.pr (heap_new rfl) HLE.out.2)
      have HN8 := Lib.hid (HN7.out.row (.cells #[.string ⟨#[41]⟩] 9)).1
      go_wp2_with fail
      go_at_call 38
      with_reducible refine (HC.out).mono ?_
      rintro e wf ⟨rfl, hpF, hfF⟩
      have hpF := hpF.eq (by rw [HBD2.out]; simp : _ = bs ++ bd)
      have hfF := HN8.out.fr.trans hfF
      clear HC HN8 HN7
      go_wp2_with fail
      exact ⟨_, results_none rfl _ _ _, rfl, hpF, HF0.out.trans hfF⟩
    · have HPR := Lib.hid (HPREC.out _ HB1.out)
      clear HPREC
      obtain ⟨⟨p0, p1, p2, p3, p4, p5⟩, _⟩ := row6 HST.out.bx
      go_enter_defers Tryd.func30, Tryd.ntmps30
      go_wp2_with fail
      go_at_call 37
      with_reducible refine (HPR.out).mono ?_
      rintro e w1 ⟨rfl, hb1⟩
      have HN1 := Lib.hid (HST.out.below hb1)
      clear hb1 HPR p0 p1 p2 p3 p4 p5
      have HF0 := Lib.hid HN1.out.fr
      have HN := Lib.hid HN1.out.base
      have HBW := Lib.hid (HW.out.trans HF0.out.below)
      have HL := Lib.hid hlen
      clear HN1 hlen
      have hbd : bd = [35, 82, 69, 70, 33] := by rw [HBD.out, bd8]
      have HBD2 := Lib.hid hbd
      have HLE := Lib.hid (show (bs).length + [[(35 : UInt8), 82, 69, 70, 33]].flatten.length ≤ lim from by have h1 := HL.out; rw [hbd] at h1; simpa using h1)
      clear hbd HTX HQU HTN HBIN HNA HNB HBD HARGS
      have HC := Lib.hid (pw_any [[35, 82, 69, 70, 33]] 1 rfl (by decide) _ r (w1.heap.size) (.func (.func KF) #[] #[]) (bs) _ (HN.out.row (.cells #[.string ⟨#[35, 82, 69, 70, 33]⟩] 9)).1.pr (heap_new (by simp)) HLE.out)
      have HNb := Lib.hid (HN.out.row (.cells #[.string ⟨#[35, 82, 69, 70, 33]⟩] 9)).1
      obtain ⟨⟨p0, p1, p2, p3, p4, p5⟩, _⟩ := row6 HN.out.bx
      generalize (⟨s.toArray⟩ : ByteArray) = sb at *
      go_wp2_with fail
      go_at_call 38
      with_reducible refine (HC.out).mono ?_
      rintro e wf ⟨rfl, hpF, hfF⟩
      have hpF := hpF.eq (by rw [HBD2.out]; simp : _ = bs ++ bd)
      have hfF := HNb.out.fr.trans hfF
      clear HC HNb
      go_wp2_with fail
      exact ⟨_, results_none rfl _ _ _, rfl, hpF, HF0.out.trans hfF⟩

end Go.Proofs.YtlagjnlajkmmeaaDoor
