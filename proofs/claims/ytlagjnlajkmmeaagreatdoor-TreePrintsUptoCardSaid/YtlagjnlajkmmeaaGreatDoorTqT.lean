/-
Package tree's own text: the printer's binary and node, and Print, by contracts.
-/
import Derived.Test.YtlagjnlajkmmeaaGreatDoorTqR
import Derived.IntWalk
namespace Go.Proofs.YtlagjnlajkmmeaaGreatDoor
open Go.RowKit

theorem NSt.sees {B r g : Nat} {o : Obj} {nm : Value} {w wi : World} {bs : List UInt8} (h : NSt B r g o nm w bs wi) : wi.cell? ⟨r, 2, none⟩ = some nm ∧ wi.heap[g]? = some o := by
  obtain ⟨_, p, v, _, hh, _⟩ := h.pr
  exact ⟨by rw [cell_of_row _ _ 2 _ _ _ hh]; rfl, h.bx⟩
theorem NSt.base {B r g : Nat} {o : Obj} {nm : Value} {w wi : World} {bs : List UInt8} (h : NSt B r g o nm w bs wi) : NSt B r g o nm wi bs wi := ⟨h.pr, Fr.refl _ _ _, h.bx⟩
theorem NSt.eq {B r g : Nat} {o : Obj} {nm : Value} {w wi : World} {bs bs' : List UInt8} (h : NSt B r g o nm w bs wi) (e : bs = bs') : NSt B r g o nm w bs' wi := e ▸ h
theorem NSt.drew {B r g : Nat} {o : Obj} {nm : Value} {w wi : World} {bs : List UInt8} (h : NSt B r g o nm w bs wi) : NSt B r g o nm w bs wi.drew := h.below (Below.refl _ _).drew
def preB (nm : Int → List UInt8) (l : List Tr) (s : List UInt8) (lv : Nat) (i : Nat) : List UInt8 :=
  if i = 0 then [] else if i = 1 then prAt txN (l.map (namedF nm)) 0 lv else prAt txN (l.map (namedF nm)) 0 lv ++ s ++ prAt txN (l.map (namedF nm)) 1 ((lv : Int) + 1)

set_option maxRecDepth 20000 in
set_option maxHeartbeats 8000000 in
theorem pbin_any (K : FuncId) (nm : Int → List UInt8) (w0 : World) (r : Nat) (k n : Int) (s : List UInt8) (f t : Int) (l : List Tr) (hP : ∀ (i : Nat) y, l[i]? = some y → NodeP K nm w0 r y) (hV : ∀ (i : Nat) y, l[i]? = some y → ∃ d, rightF y d = true) (hM : ∀ (i : Nat) y, l[i]? = some y → maxT y ≤ 1048576)
    (hl2 : l.length = 2) (hl1 : 1 ≤ levelF s) (A : Option Addr) (len c : Nat) (hA : RdA AnyB w0 l (.slice A len c)) (w : World) (bs : List UInt8) (hw : Below w0.heap.size w0 w) (hp : Pr tPr w0.heap.size r (.func (.func K) #[] #[]) bs w)
    (hlen : bs.length + (prAt txN (l.map (namedF nm)) 0 (levelF s) ++ s ++ prAt txN (l.map (namedF nm)) 1 ((levelF s : Int) + 1)).length ≤ lim) :
    Calls Tryz.prog 33 #[.pointer (some ⟨r, 0, none⟩), nodeV k n s f t (.slice A len c)] w fun e w' => e = .returned (.tuple #[]) ∧ Pr tPr w0.heap.size r (.func (.func K) #[] #[]) (bs ++ (prAt txN (l.map (namedF nm)) 0 (levelF s) ++ s ++ prAt txN (l.map (namedF nm)) 1 ((levelF s : Int) + 1))) w' ∧ Fr w0.heap.size r w w' := by
  have hcap := hA.cap
  obtain rfl : len = 2 := hcap.1.trans hl2
  have HA := Lib.hid (fun (i : Nat) (y : Tr) (hy : l[i]? = some y) => part_s hA hy)
  have HP := Lib.hid hP
  have HV := Lib.hid hV
  have HM := Lib.hid hM
  have HW := Lib.hid hw
  have HL2 := Lib.hid hl2
  have hlv := levelF_le s
  obtain ⟨lv, hlv0⟩ : ∃ lv, lv = levelF s := ⟨_, rfl⟩
  have HLV := Lib.hid (fun W => plevel_any s W)
  rw [← hlv0] at hl1 hlv hlen HLV ⊢
  have hst := nst_new (nm := (.func (.func K) #[] #[])) hp (Fr.refl w0.heap.size r w) (.cells #[.int .i64 k, .int .i64 n, .string ⟨s.toArray⟩, .int .i64 f, .int .i64 t, .slice A 2 c] 32)
  have HST := Lib.hid hst
  obtain ⟨⟨p0, p1, p2, p3, p4, p5⟩, _⟩ := row6 hst.bx
  have HS := Lib.hid (show True from trivial)
  obtain ⟨res, hres⟩ : ∃ x, x = (prAt txN (l.map (namedF nm)) 0 lv ++ s ++ prAt txN (l.map (namedF nm)) 1 ((lv : Int) + 1)) := ⟨_, rfl⟩
  rw [← hres] at hlen ⊢
  have HRES := Lib.hid hres
  have HLIM := Lib.hid hlen
  clear hA hcap hP hV hM hw hp hres hlen hl2 hst hlv0
  unfold nodeV
  go_enter Tryz.func33, Tryz.ntmps33
  go_wp2_with fail
  clear p0 p1 p2 p3 p4 p5
  go_loopw [9] (fun b wr => ∃ (i : Nat) (o : List UInt8), i ≤ 2 ∧ b = .int .i64 (i : Int) ∧ Hid (o = preB nm l s lv i) ∧ Hid (NSt w0.heap.size r w.heap.size (.cells #[.int .i64 k, .int .i64 n, .string ⟨s.toArray⟩, .int .i64 f, .int .i64 t, .slice A 2 c] 32) (.func (.func K) #[] #[]) w (bs ++ o) wr)) (fun b _ => 2 - (intOf b).toNat)
  case atStart => exact ⟨0, [], by omega, rfl, Lib.hid rfl, Lib.hid (by simpa using HST.out)⟩
  case round =>
    obtain ⟨i, o, hi, rfl, HO, HN⟩ := hrel
    obtain ⟨⟨p0, p1, p2, p3, p4, p5⟩, _⟩ := row6 HN.out.bx
    by_cases hlt : i < 2
    · have hltI : (i : Int) < 2 := by omega
      obtain ⟨y, hy⟩ : ∃ y, l[i]? = some y := ⟨_, List.getElem?_eq_getElem (by rw [HL2.out]; exact hlt)⟩
      have hgy : prAt txN (l.map (namedF nm)) i ((lv : Int) + (i : Int)) = prF txN (namedF nm y) ((lv : Int) + (i : Int)) := prAt_get _ _ _ _ _ (by rw [List.getElem?_map, hy]; rfl)
      obtain ⟨b1, off1, Ay, ny, cy, rfl, hw1⟩ := HA.out i y hy
      have hwr := HW.out.trans HN.out.fr.below
      obtain ⟨⟨c0, c1, c2, c3, c4, c5⟩, _⟩ := hw1 wr hwr
      have hN := (hw1 w0 (Below.refl _ _)).2
      unfold nodeV at hN
      have HST1 := Lib.hid (nst_new HN.out.pr HN.out.fr (.cells #[.int .i64 y.kind, .int .i64 y.num, .string ⟨y.text.toArray⟩, .int .i64 y.a, .int .i64 y.b, .slice Ay ny cy] 32))
      have HST0 := Lib.hid (HN.out.row (.cells #[.int .i64 y.kind, .int .i64 y.num, .string ⟨y.text.toArray⟩, .int .i64 y.a, .int .i64 y.b, .slice Ay ny cy] 32)).1
      have HND := Lib.hid (fun W bs' h1 h2 h3 => HP.out i y hy ((lv : Int) + (i : Int)) _ W bs' (by omega) (by omega) h1 h2 hN (HV.out i y hy) (HM.out i y hy) h3)
      have hwp : IntKind.i64.wrap ((lv : Int) + (i : Int)) = (lv : Int) + (i : Int) := IntWalk.i64_in _ (by omega)
      obtain ⟨tp, htp⟩ : ∃ x, x = prF txN (namedF nm y) ((lv : Int) + (i : Int)) := ⟨_, rfl⟩
      rw [← htp] at hgy HND
      clear hy hw1 hwr hN htp
      clear p0 p1 p2 p3 p4 p5
      by_cases h0 : 0 < i
      · have h0I : (0 : Int) < (i : Int) := by omega
        have hi1 : i = 1 := by omega
        have hoe : bs ++ o ++ s ++ tp = bs ++ res := by
          rw [HO.out, HRES.out, ← hgy, hi1]
          simp [preB]
        have hle : (bs ++ o).length + [s].flatten.length ≤ lim ∧ (bs ++ o ++ s).length + tp.length ≤ lim := by
          have h1 := HLIM.out
          have h2 := congrArg List.length hoe
          simp only [List.length_append, List.flatten_cons, List.flatten_nil, List.append_nil] at h1 h2 ⊢
          omega
        have HOE := Lib.hid hoe
        have hrow : ((wr.alloc (.cells #[.int .i64 y.kind, .int .i64 y.num, .string ⟨y.text.toArray⟩, .int .i64 y.a, .int .i64 y.b, .slice Ay ny cy] 32)).alloc (.cells #[.string ⟨s.toArray⟩] 9)).heap[wr.heap.size + 1]? = some (.cells #[.string ⟨s.toArray⟩] 9) := heap_new (by simp)
        have HC := Lib.hid (pw_any [s] 1 rfl (by decide) _ r (wr.heap.size + 1) (.func (.func K) #[] #[]) (bs ++ o) _ (HST0.out.row (.cells #[.string ⟨s.toArray⟩] 9)).1.pr hrow hle.1)
        have HX0 := Lib.hid (HST0.out.row (.cells #[.string ⟨s.toArray⟩] 9)).1
        have HX1 := Lib.hid (HST1.out.row (.cells #[.string ⟨s.toArray⟩] 9)).1
        have HL2' := Lib.hid hle.2
        obtain ⟨⟨p0, p1, p2, p3, p4, p5⟩, _⟩ := row6 HST0.out.bx
        have HI1 := Lib.hid hi1
        clear hgy hoe hle hrow HO hi1
        generalize hsb : (⟨s.toArray⟩ : ByteArray) = sb at *
        go_wp2_with fail
        go_at_call 29
        with_reducible refine (HC.out).mono ?_
        rintro e w2 ⟨rfl, hp2, hf2⟩
        have HY0 := Lib.hid ((HX0.out.step hp2 hf2).eq (by simp : _ = bs ++ o ++ s))
        have HY1 := Lib.hid ((HX1.out.step hp2 hf2).eq (by simp : _ = bs ++ o ++ s))
        clear hp2 hf2 HC p0 p1 p2 p3 p4 p5
        obtain ⟨⟨q0, q1, q2, q3, q4, q5⟩, _⟩ := row6 HY1.out.bx
        obtain ⟨⟨p0, p1, p2, p3, p4, p5⟩, _⟩ := row6 HY0.out.bx
        have HC2 := Lib.hid (fun W hb => HND.out W (bs ++ o ++ s) (HW.out.trans (HY0.out.below hb).fr.below) (HY0.out.below hb).pr HL2'.out)
        go_wp2_with fail
        clear q0 q1 q2 q3 q4 q5 p0 p1 p2 p3 p4 p5
        have hd := (Below.refl w2.heap.size w2).drew
        refine wp_region_noPanic ?_
        refine wp_region_held_drew (S := fun w' => w'.heap[w.heap.size]? = some (.cells #[.int .i64 k, .int .i64 n, .string sb, .int .i64 f, .int .i64 t, .slice (some ⟨b1, off1, none⟩) 2 c] 32) ∧ w'.heap[wr.heap.size]? = some (.cells #[.int .i64 y.kind, .int .i64 y.num, .string ⟨y.text.toArray⟩, .int .i64 y.a, .int .i64 y.b, .slice Ay ny cy] 32)) (by kernel_rfl) ⟨HY0.out.bx, HY1.out.bx⟩ (fun HS0 => ?_)
        refine wpAnyH_take (i := 0) (v := ?_) rfl (by kernel_rfl) (by kernel_rfl) (by kernel_rfl) (fun _ _ _ h => h) (Or.inl ⟨by rfl, ?_⟩) HS0 ?_
        rotate_left
        · intro w hE; go_simp; try with_reducible rfl
        simp only [List.getElem_toArray, List.getElem_cons_succ, List.getElem_cons_zero, Act.put, List.setIfInBounds_toArray, List.set_cons_zero, List.set_cons_succ]
        refine wpAnyH_take (i := 1) (v := ?_) rfl (by kernel_rfl) (by kernel_rfl) (by kernel_rfl) (fun _ _ _ h => h) (Or.inl ⟨by rfl, ?_⟩) HS0 ?_
        rotate_left
        · intro w hE; obtain ⟨⟨q0, q1, q2, q3, q4, q5⟩, _⟩ := row6 hE.2; go_simp; try with_reducible rfl
        simp only [List.getElem_toArray, List.getElem_cons_succ, List.getElem_cons_zero, Act.put, List.setIfInBounds_toArray, List.set_cons_zero, List.set_cons_succ]
        refine wpAnyH_take (i := 2) (v := ?_) rfl (by kernel_rfl) (by kernel_rfl) (by kernel_rfl) (fun _ _ _ h => h) (Or.inl ⟨by rfl, ?_⟩) HS0 ?_
        rotate_left
        · intro w hE; go_simp; try with_reducible rfl
        simp only [List.getElem_toArray, List.getElem_cons_succ, List.getElem_cons_zero, Act.put, List.setIfInBounds_toArray, List.set_cons_zero, List.set_cons_succ]
        refine wpAnyH_take (i := 3) (v := ?_) rfl (by kernel_rfl) (by kernel_rfl) (by kernel_rfl) (fun _ _ _ h => h) (Or.inl ⟨by rfl, ?_⟩) HS0 ?_
        rotate_left
        · intro w hE; obtain ⟨⟨p0, p1, p2, p3, p4, p5⟩, _⟩ := row6 hE.1; go_simp; try with_reducible rfl
        simp only [List.getElem_toArray, List.getElem_cons_succ, List.getElem_cons_zero, Act.put, List.setIfInBounds_toArray, List.set_cons_zero, List.set_cons_succ]
        refine wpAnyH_take (i := 5) (v := ?_) rfl (by kernel_rfl) (by kernel_rfl) (by kernel_rfl) (fun _ _ _ h => h) (Or.inl ⟨by rfl, ?_⟩) HS0 ?_
        rotate_left
        · intro w hE; go_simp; try with_reducible rfl
        simp only [List.getElem_toArray, List.getElem_cons_succ, List.getElem_cons_zero, Act.put, List.setIfInBounds_toArray, List.set_cons_zero, List.set_cons_succ]
        refine wpAnyH_ready (rs := [4]) (by kernel_rfl) (by simp) ?_
        refine AllReadyH.cons rfl (fun K hK => ?_) AllReadyH.nil
        go_simp
        go_at_call 39
        refine (HLV.out _).mono ?_
        rintro e wA ⟨rfl, hbA⟩
        go_simp
        refine hK.out _ _ ⟨(HY0.out.below (hd.trans (hbA.mono hd.size))).bx, (HY1.out.below (hd.trans (hbA.mono hd.size))).bx⟩ (fun HS1 => ?_)
        clear hK
        have HBA := Lib.hid (hd.trans (hbA.mono hd.size))
        have HNB := Lib.hid (HY0.out.below HBA.out)
        have HNC := Lib.hid (HY1.out.below HBA.out)
        try simp only [List.getElem_toArray, List.getElem_cons_succ, List.getElem_cons_zero, Act.put, List.setIfInBounds_toArray, List.set_cons_zero, List.set_cons_succ]
        refine wpAnyH_take (i := 6) (v := ?_) rfl (by kernel_rfl) (by kernel_rfl) (by kernel_rfl) (fun _ _ _ h => h) (Or.inl ⟨by rfl, ?_⟩) HS1 ?_
        rotate_left
        · intro w hE; go_simp; try with_reducible rfl
        simp only [List.getElem_toArray, List.getElem_cons_succ, List.getElem_cons_zero, Act.put, List.setIfInBounds_toArray, List.set_cons_zero, List.set_cons_succ]
        refine wpAnyH_ready (rs := [7]) (by kernel_rfl) (by simp) ?_
        refine AllReadyH.cons rfl (fun K hK => ?_) AllReadyH.nil
        go_simp
        go_at_call 21
        refine (HC2.out _ HBA.out).mono ?_
        rintro e wB ⟨rfl, hpB, hfB⟩
        go_simp
        refine hK.out _ _ ⟨(HNB.out.step hpB hfB).bx, (HNC.out.step hpB hfB).bx⟩ (fun HS2 => ?_)
        clear hK
        try simp only [List.getElem_toArray, List.getElem_cons_succ, List.getElem_cons_zero, Act.put, List.setIfInBounds_toArray, List.set_cons_zero, List.set_cons_succ]
        refine wpAnyH_done (by kernel_rfl) ?_ _
        refine NoPanic.normal ?_
        go_wp2_with fail
        go_roundw
        case rel => exact ⟨i + 1, o ++ s ++ tp, by omega, by go_num, Lib.hid (by
          have e := HOE.out
          simp only [List.append_assoc, List.append_cancel_left_eq] at e ⊢
          rw [e, HRES.out, HI1.out]
          simp [preB]), Lib.hid ((HNB.out.step hpB hfB).eq (by simp))⟩
        case measure => simp [intOf]; omega
      · have h0I : (i : Int) ≤ 0 := by omega
        have hi1 : i = 0 := by omega
        have ho : o = [] := by rw [HO.out, hi1]; rfl
        have htp0 : tp = prAt txN (l.map (namedF nm)) 0 lv := by rw [← hgy, hi1]; simp
        have hle : (bs ++ o).length + tp.length ≤ lim := by
          have h1 := HLIM.out
          rw [HRES.out, ← htp0] at h1
          rw [ho]
          simp only [List.length_append, List.length_nil] at h1 ⊢
          omega
        have HTP0 := Lib.hid htp0
        have HO0 := Lib.hid ho
        have HY0 := HST0
        have HC2 := Lib.hid (fun W hb => HND.out W (bs ++ o) (HW.out.trans (HST0.out.below hb).fr.below) (HST0.out.below hb).pr hle)
        have HI1 := Lib.hid hi1
        clear hgy hle ho htp0 HO hi1 h0
        generalize hsb : (⟨s.toArray⟩ : ByteArray) = sb at *
        have HY1 := HST1
        have HY0 := HST0
        go_wp2_with fail
        have hd := (Below.refl (wr.alloc (.cells #[.int .i64 y.kind, .int .i64 y.num, .string ⟨y.text.toArray⟩, .int .i64 y.a, .int .i64 y.b, .slice Ay ny cy] 32)).heap.size (wr.alloc (.cells #[.int .i64 y.kind, .int .i64 y.num, .string ⟨y.text.toArray⟩, .int .i64 y.a, .int .i64 y.b, .slice Ay ny cy] 32))).drew
        refine wp_region_noPanic ?_
        refine wp_region_held_drew (S := fun w' => w'.heap[w.heap.size]? = some (.cells #[.int .i64 k, .int .i64 n, .string sb, .int .i64 f, .int .i64 t, .slice (some ⟨b1, off1, none⟩) 2 c] 32) ∧ w'.heap[wr.heap.size]? = some (.cells #[.int .i64 y.kind, .int .i64 y.num, .string ⟨y.text.toArray⟩, .int .i64 y.a, .int .i64 y.b, .slice Ay ny cy] 32)) (by kernel_rfl) ⟨HY0.out.bx, HY1.out.bx⟩ (fun HS0 => ?_)
        refine wpAnyH_take (i := 0) (v := ?_) rfl (by kernel_rfl) (by kernel_rfl) (by kernel_rfl) (fun _ _ _ h => h) (Or.inl ⟨by rfl, ?_⟩) HS0 ?_
        rotate_left
        · intro w hE; go_simp; try with_reducible rfl
        simp only [List.getElem_toArray, List.getElem_cons_succ, List.getElem_cons_zero, Act.put, List.setIfInBounds_toArray, List.set_cons_zero, List.set_cons_succ]
        refine wpAnyH_take (i := 1) (v := ?_) rfl (by kernel_rfl) (by kernel_rfl) (by kernel_rfl) (fun _ _ _ h => h) (Or.inl ⟨by rfl, ?_⟩) HS0 ?_
        rotate_left
        · intro w hE; obtain ⟨⟨q0, q1, q2, q3, q4, q5⟩, _⟩ := row6 hE.2; go_simp; try with_reducible rfl
        simp only [List.getElem_toArray, List.getElem_cons_succ, List.getElem_cons_zero, Act.put, List.setIfInBounds_toArray, List.set_cons_zero, List.set_cons_succ]
        refine wpAnyH_take (i := 2) (v := ?_) rfl (by kernel_rfl) (by kernel_rfl) (by kernel_rfl) (fun _ _ _ h => h) (Or.inl ⟨by rfl, ?_⟩) HS0 ?_
        rotate_left
        · intro w hE; go_simp; try with_reducible rfl
        simp only [List.getElem_toArray, List.getElem_cons_succ, List.getElem_cons_zero, Act.put, List.setIfInBounds_toArray, List.set_cons_zero, List.set_cons_succ]
        refine wpAnyH_take (i := 3) (v := ?_) rfl (by kernel_rfl) (by kernel_rfl) (by kernel_rfl) (fun _ _ _ h => h) (Or.inl ⟨by rfl, ?_⟩) HS0 ?_
        rotate_left
        · intro w hE; obtain ⟨⟨p0, p1, p2, p3, p4, p5⟩, _⟩ := row6 hE.1; go_simp; try with_reducible rfl
        simp only [List.getElem_toArray, List.getElem_cons_succ, List.getElem_cons_zero, Act.put, List.setIfInBounds_toArray, List.set_cons_zero, List.set_cons_succ]
        refine wpAnyH_take (i := 5) (v := ?_) rfl (by kernel_rfl) (by kernel_rfl) (by kernel_rfl) (fun _ _ _ h => h) (Or.inl ⟨by rfl, ?_⟩) HS0 ?_
        rotate_left
        · intro w hE; go_simp; try with_reducible rfl
        simp only [List.getElem_toArray, List.getElem_cons_succ, List.getElem_cons_zero, Act.put, List.setIfInBounds_toArray, List.set_cons_zero, List.set_cons_succ]
        refine wpAnyH_ready (rs := [4]) (by kernel_rfl) (by simp) ?_
        refine AllReadyH.cons rfl (fun K hK => ?_) AllReadyH.nil
        go_simp
        go_at_call 39
        refine (HLV.out _).mono ?_
        rintro e wA ⟨rfl, hbA⟩
        go_simp
        refine hK.out _ _ ⟨(HY0.out.below (hd.trans (hbA.mono hd.size))).bx, (HY1.out.below (hd.trans (hbA.mono hd.size))).bx⟩ (fun HS1 => ?_)
        clear hK
        have HBA := Lib.hid (hd.trans (hbA.mono hd.size))
        have HNB := Lib.hid (HY0.out.below HBA.out)
        have HNC := Lib.hid (HY1.out.below HBA.out)
        try simp only [List.getElem_toArray, List.getElem_cons_succ, List.getElem_cons_zero, Act.put, List.setIfInBounds_toArray, List.set_cons_zero, List.set_cons_succ]
        refine wpAnyH_take (i := 6) (v := ?_) rfl (by kernel_rfl) (by kernel_rfl) (by kernel_rfl) (fun _ _ _ h => h) (Or.inl ⟨by rfl, ?_⟩) HS1 ?_
        rotate_left
        · intro w hE; go_simp; try with_reducible rfl
        simp only [List.getElem_toArray, List.getElem_cons_succ, List.getElem_cons_zero, Act.put, List.setIfInBounds_toArray, List.set_cons_zero, List.set_cons_succ]
        refine wpAnyH_ready (rs := [7]) (by kernel_rfl) (by simp) ?_
        refine AllReadyH.cons rfl (fun K hK => ?_) AllReadyH.nil
        go_simp
        go_at_call 21
        refine (HC2.out _ HBA.out).mono ?_
        rintro e wB ⟨rfl, hpB, hfB⟩
        go_simp
        refine hK.out _ _ ⟨(HNB.out.step hpB hfB).bx, (HNC.out.step hpB hfB).bx⟩ (fun HS2 => ?_)
        clear hK
        try simp only [List.getElem_toArray, List.getElem_cons_succ, List.getElem_cons_zero, Act.put, List.setIfInBounds_toArray, List.set_cons_zero, List.set_cons_succ]
        refine wpAnyH_done (by kernel_rfl) ?_ _
        refine NoPanic.normal ?_
        go_wp2_with fail
        go_roundw
        case rel => exact ⟨i + 1, o ++ tp, by omega, by go_num, Lib.hid (by rw [HO0.out, HTP0.out, HI1.out]; rfl), Lib.hid ((HNB.out.step hpB hfB).eq (by simp))⟩
        case measure => simp [intOf]; omega
    · have hi2 : i = 2 := by omega
      have hge : (2 : Int) ≤ (i : Int) := by omega
      have hr : o = res := by rw [HO.out, HRES.out, hi2]; rfl
      subst hr
      clear HO HRES
      clear p0 p1 p2 p3 p4 p5
      go_wp2_with fail
      go_end0
      exact ⟨rfl, HN.out.pr, HN.out.fr⟩

end Go.Proofs.YtlagjnlajkmmeaaGreatDoor
