/-
The reference of stage 9: Print, by a contract.
-/
import Derived.Test.YtlagjnlajkmmeaaGreatDoorTrQuo
import Derived.IntWalk
namespace Go.Proofs.YtlagjnlajkmmeaaGreatDoor
open Go.RowKit

theorem wrap_par (b : List UInt8) : (⟨#[40]⟩ ++ ⟨b.toArray⟩ ++ ⟨#[41]⟩ : ByteArray) = ⟨(40 :: (b ++ [41])).toArray⟩ := by
  have e1 : (⟨#[40]⟩ ++ ⟨b.toArray⟩ : ByteArray) = ⟨([40] ++ b).toArray⟩ := ba_app9 [40] b
  have e2 : (⟨([40] ++ b).toArray⟩ ++ ⟨#[41]⟩ : ByteArray) = ⟨([40] ++ b ++ [41]).toArray⟩ := ba_app9 _ [41]
  rw [e1, e2]
  rfl
theorem prC_drop {tx : Int → List UInt8} {l : List Tr} {i : Nat} {y : Tr} {b : Bool} (h : l[i]? = some y) : prC tx (l.drop i) b = (if b then [44] else []) ++ prF tx y 1 ++ prC tx (l.drop (i + 1)) true := by
  rw [drop_at h]
  conv => lhs; unfold prC

set_option maxRecDepth 20000 in
set_option maxHeartbeats 16000000 in
theorem rprint_big (M : Nat) (hM : M ≤ 140737488355328) (x : Tr) : ∀ (lv m : Int) (v : Value) (w : World), In64 m → rightF x lv = true → maxT x ≤ M → nodes x ≤ 300 → RdN AnyB w x v →
    Calls Tryz.prog 10 #[v, .int .i64 m] w fun e w' => e = .returned (.string ⟨(prF txN x m).toArray⟩) ∧ Below w.heap.size w w' := by
  induction x using Tr.ind with
  | _ x ih =>
  intro lv m v w hm hr hmx hnd hv
  obtain ⟨⟨_, hk1, hk8⟩, hr5, hr6, hr7, hrc⟩ := right_parts hr
  have hZ := (pr_len txN txN_len M x m hmx)
  have hZ2 : nodes x * (2 * M + 60) ≤ 300 * (2 * 140737488355328 + 60) := Nat.mul_le_mul hnd (by omega)
  obtain ⟨k, n, s, f, t, l⟩ := x
  obtain ⟨hfit, u, rfl, hA⟩ := hv
  have hmx2 := hmx
  rw [maxT_eq] at hmx2
  rw [prF_mk] at hZ ⊢
  have hI : In64 n := hfit.2.1
  simp only [Tr.kind, Tr.num, Tr.text, Tr.a, Tr.b, Tr.args] at hA ih hk1 hk8 hr5 hr6 hr7 hrc hmx2 ⊢
  obtain ⟨A, c, rfl⟩ := hA.named
  obtain ⟨len, hlen⟩ : ∃ len, len = l.length := ⟨_, rfl⟩
  rw [← hlen] at hA hr5 hr6 hr7 ⊢
  have HPA := Lib.hid (fun (i : Nat) (y : Tr) (hy : l[i]? = some y) => part_at hA hy)
  have HIH := Lib.hid (fun (i : Nat) (y : Tr) (hy : l[i]? = some y) (m' : Int) (v : Value) (W : World) (hm' : In64 m') (hv : RdN AnyB W y v) => ih i y hy (lv - 1) m' v W hm' (hrc i y hy) (by have := maxTL_mem l i y hy; omega) (by have := Tr.part (x := .mk k n s f t l) hy; omega) hv)
  have HPB := Lib.hid (fun (i : Nat) (y : Tr) (hy : l[i]? = some y) (m' : Int) => (show (prF txN y m').length ≤ 300 * (2 * 140737488355328 + 60) from by
    have h1 := pr_len txN txN_len M y m' (by have := maxTL_mem l i y hy; omega)
    have h2 := Tr.part (x := .mk k n s f t l) hy
    have h3 : nodes y * (2 * M + 60) ≤ 300 * (2 * 140737488355328 + 60) := Nat.mul_le_mul (by omega) (by omega)
    omega))
  have hsl : s.length ≤ 140737488355328 := by omega
  have hbl : (bodyF txN k n s l).length ≤ 300 * (2 * 140737488355328 + 60) := by
    split at hZ
    · rw [List.length_append, List.length_cons] at hZ; omega
    · omega
  have HHO := Lib.hid (fun W => holds_any k n s f t (.slice A len c) W)
  have HLV := Lib.hid (fun W => rlevel_any s W)
  have HTX := Lib.hid (fun W => One.rtext_any n hI W)
  rw [← txN_eq n hI] at HTX
  have HQU := Lib.hid (fun W => rquote9 s (by omega) W)
  have HLEN := Lib.hid hlen
  have hlv4 := levelF_le s
  obtain ⟨hz, hhz⟩ : ∃ z : Nat, z = holdsF k s := ⟨_, rfl⟩
  rw [← hhz] at HHO ⊢
  have hhb : hz ≤ 6 := by rw [hhz]; unfold holdsF; split; omega; split <;> omega
  obtain ⟨body, hbody⟩ : ∃ b, b = bodyF txN k n s l := ⟨_, rfl⟩
  rw [← hbody] at hbl ⊢
  have HBODY := Lib.hid hbody
  unfold nodeV
  clear hA ih hlen hfit hZ hZ2 hr hrc hmx hmx2 hnd hhz hI hbody hM
  have hkk : k = 1 ∨ k = 2 ∨ k = 3 ∨ k = 4 ∨ k = 5 ∨ k = 6 ∨ k = 7 ∨ k = 8 := by omega
  clear hk1 hk8
  rcases hkk with rfl | rfl | rfl | rfl | rfl | rfl | rfl | rfl
  · have hb : body = txN n := by rw [HBODY.out]; rfl
    obtain ⟨sb, hsb⟩ : ∃ sb : ByteArray, sb = ⟨body.toArray⟩ := ⟨_, rfl⟩
    have HSB := Lib.hid hsb
    have hsz : sb.size ≤ 300 * (2 * 140737488355328 + 60) := by rw [hsb]; exact hbl
    rw [← hb, ← hsb] at HTX
    clear hb hsb
    by_cases hp : (hz : Int) < m
    · rw [if_pos hp, List.cons_append]
      have HRES := Lib.hid (show ⟨#[40]⟩ ++ sb ++ ⟨#[41]⟩ = (⟨(40 :: (body ++ [41])).toArray⟩ : ByteArray) from by rw [HSB.out]; exact wrap_par body)
      have HB0 := Lib.hid (below_alloc w (.cells #[.int .i64 1, .int .i64 n, .string ⟨s.toArray⟩, .int .i64 f, .int .i64 t, .slice A len c] 24))
      have HBX := Lib.hid (box6v w rfl 1 n s f t (.slice A len c) 24)
      obtain ⟨p0, p1, p2, p3, p4, p5⟩ := HBX.out
      go_enter Tryz.func10, Tryz.ntmps10
      go_wp2_with fail
      go_at_call 23
      with_reducible refine (HTX.out _).mono ?_
      rintro e w1 ⟨rfl, hb1⟩
      have HB1 := Lib.hid hb1
      clear p0 p1 p2 p3 p4 p5 hb1
      obtain ⟨p0, p1, p2, p3, p4, p5⟩ := HBX.out.below HB1.out
      go_wp2_with fail
      go_at_call 25
      with_reducible refine (HHO.out _).mono ?_
      rintro e wh ⟨rfl, hbh⟩
      go_wp2_with fail
      go_ret
      exact ⟨by first | rfl | (rw [← HRES.out]; rfl), HB0.out.trans ((HB1.out.trans (hbh.mono HB1.out.size)).mono HB0.out.size)⟩
    · rw [if_neg hp]
      have hp2 : m ≤ (hz : Int) := by omega
      have HRES := Lib.hid (show sb = (⟨body.toArray⟩ : ByteArray) from HSB.out)
      clear hp
      have HB0 := Lib.hid (below_alloc w (.cells #[.int .i64 1, .int .i64 n, .string ⟨s.toArray⟩, .int .i64 f, .int .i64 t, .slice A len c] 24))
      have HBX := Lib.hid (box6v w rfl 1 n s f t (.slice A len c) 24)
      obtain ⟨p0, p1, p2, p3, p4, p5⟩ := HBX.out
      go_enter Tryz.func10, Tryz.ntmps10
      go_wp2_with fail
      go_at_call 23
      with_reducible refine (HTX.out _).mono ?_
      rintro e w1 ⟨rfl, hb1⟩
      have HB1 := Lib.hid hb1
      clear p0 p1 p2 p3 p4 p5 hb1
      obtain ⟨p0, p1, p2, p3, p4, p5⟩ := HBX.out.below HB1.out
      go_wp2_with fail
      go_at_call 25
      with_reducible refine (HHO.out _).mono ?_
      rintro e wh ⟨rfl, hbh⟩
      go_wp2_with fail
      go_ret
      exact ⟨by first | rfl | (rw [← HRES.out]; rfl), HB0.out.trans ((HB1.out.trans (hbh.mono HB1.out.size)).mono HB0.out.size)⟩
  · have hb : body = quoteB s := by rw [HBODY.out]; rfl
    obtain ⟨sb, hsb⟩ : ∃ sb : ByteArray, sb = ⟨body.toArray⟩ := ⟨_, rfl⟩
    have HSB := Lib.hid hsb
    have hsz : sb.size ≤ 300 * (2 * 140737488355328 + 60) := by rw [hsb]; exact hbl
    rw [← hb, ← hsb] at HQU
    clear hb hsb
    by_cases hp : (hz : Int) < m
    · rw [if_pos hp, List.cons_append]
      have HRES := Lib.hid (show ⟨#[40]⟩ ++ sb ++ ⟨#[41]⟩ = (⟨(40 :: (body ++ [41])).toArray⟩ : ByteArray) from by rw [HSB.out]; exact wrap_par body)
      have HB0 := Lib.hid (below_alloc w (.cells #[.int .i64 2, .int .i64 n, .string ⟨s.toArray⟩, .int .i64 f, .int .i64 t, .slice A len c] 24))
      have HBX := Lib.hid (box6v w rfl 2 n s f t (.slice A len c) 24)
      obtain ⟨p0, p1, p2, p3, p4, p5⟩ := HBX.out
      go_enter Tryz.func10, Tryz.ntmps10
      go_wp2_with fail
      go_at_call 24
      with_reducible refine (HQU.out _).mono ?_
      rintro e w1 ⟨rfl, rfl⟩
      go_wp2_with fail
      go_at_call 25
      with_reducible refine (HHO.out _).mono ?_
      rintro e wh ⟨rfl, hbh⟩
      go_wp2_with fail
      go_ret
      exact ⟨by first | rfl | (rw [← HRES.out]; rfl), HB0.out.trans (hbh.mono HB0.out.size)⟩
    · rw [if_neg hp]
      have hp2 : m ≤ (hz : Int) := by omega
      have HRES := Lib.hid (show sb = (⟨body.toArray⟩ : ByteArray) from HSB.out)
      clear hp
      have HB0 := Lib.hid (below_alloc w (.cells #[.int .i64 2, .int .i64 n, .string ⟨s.toArray⟩, .int .i64 f, .int .i64 t, .slice A len c] 24))
      have HBX := Lib.hid (box6v w rfl 2 n s f t (.slice A len c) 24)
      obtain ⟨p0, p1, p2, p3, p4, p5⟩ := HBX.out
      go_enter Tryz.func10, Tryz.ntmps10
      go_wp2_with fail
      go_at_call 24
      with_reducible refine (HQU.out _).mono ?_
      rintro e w1 ⟨rfl, rfl⟩
      go_wp2_with fail
      go_at_call 25
      with_reducible refine (HHO.out _).mono ?_
      rintro e wh ⟨rfl, hbh⟩
      go_wp2_with fail
      go_ret
      exact ⟨by first | rfl | (rw [← HRES.out]; rfl), HB0.out.trans (hbh.mono HB0.out.size)⟩
  · have hb : body = s := by rw [HBODY.out]; rfl
    clear HBODY
    have hb2 := hb.symm
    subst hb2
    by_cases hp : (hz : Int) < m
    · rw [if_pos hp, List.cons_append]
      have HRES := Lib.hid (show ⟨#[40]⟩ ++ (⟨s.toArray⟩ : ByteArray) ++ ⟨#[41]⟩ = (⟨(40 :: (s ++ [41])).toArray⟩ : ByteArray) from by exact wrap_par s)
      have HB0 := Lib.hid (below_alloc w (.cells #[.int .i64 3, .int .i64 n, .string ⟨s.toArray⟩, .int .i64 f, .int .i64 t, .slice A len c] 24))
      have HBX := Lib.hid (box6v w rfl 3 n s f t (.slice A len c) 24)
      obtain ⟨p0, p1, p2, p3, p4, p5⟩ := HBX.out
      go_enter Tryz.func10, Tryz.ntmps10
      go_wp2_with fail
      go_at_call 25
      with_reducible refine (HHO.out _).mono ?_
      rintro e wh ⟨rfl, hbh⟩
      go_wp2_with fail
      go_ret
      exact ⟨by first | rfl | (rw [← HRES.out]; rfl), HB0.out.trans (hbh.mono HB0.out.size)⟩
    · rw [if_neg hp]
      have hp2 : m ≤ (hz : Int) := by omega
      have HRES := Lib.hid (show (⟨s.toArray⟩ : ByteArray) = (⟨s.toArray⟩ : ByteArray) from rfl)
      clear hp
      have HB0 := Lib.hid (below_alloc w (.cells #[.int .i64 3, .int .i64 n, .string ⟨s.toArray⟩, .int .i64 f, .int .i64 t, .slice A len c] 24))
      have HBX := Lib.hid (box6v w rfl 3 n s f t (.slice A len c) 24)
      obtain ⟨p0, p1, p2, p3, p4, p5⟩ := HBX.out
      go_enter Tryz.func10, Tryz.ntmps10
      go_wp2_with fail
      go_at_call 25
      with_reducible refine (HHO.out _).mono ?_
      rintro e wh ⟨rfl, hbh⟩
      go_wp2_with fail
      go_ret
      exact ⟨by first | rfl | (rw [← HRES.out]; rfl), HB0.out.trans (hbh.mono HB0.out.size)⟩
  · have hb : body = s := by rw [HBODY.out]; rfl
    clear HBODY
    have hb2 := hb.symm
    subst hb2
    by_cases hp : (hz : Int) < m
    · rw [if_pos hp, List.cons_append]
      have HRES := Lib.hid (show ⟨#[40]⟩ ++ (⟨s.toArray⟩ : ByteArray) ++ ⟨#[41]⟩ = (⟨(40 :: (s ++ [41])).toArray⟩ : ByteArray) from by exact wrap_par s)
      have HB0 := Lib.hid (below_alloc w (.cells #[.int .i64 4, .int .i64 n, .string ⟨s.toArray⟩, .int .i64 f, .int .i64 t, .slice A len c] 24))
      have HBX := Lib.hid (box6v w rfl 4 n s f t (.slice A len c) 24)
      obtain ⟨p0, p1, p2, p3, p4, p5⟩ := HBX.out
      go_enter Tryz.func10, Tryz.ntmps10
      go_wp2_with fail
      go_at_call 25
      with_reducible refine (HHO.out _).mono ?_
      rintro e wh ⟨rfl, hbh⟩
      go_wp2_with fail
      go_ret
      exact ⟨by first | rfl | (rw [← HRES.out]; rfl), HB0.out.trans (hbh.mono HB0.out.size)⟩
    · rw [if_neg hp]
      have hp2 : m ≤ (hz : Int) := by omega
      have HRES := Lib.hid (show (⟨s.toArray⟩ : ByteArray) = (⟨s.toArray⟩ : ByteArray) from rfl)
      clear hp
      have HB0 := Lib.hid (below_alloc w (.cells #[.int .i64 4, .int .i64 n, .string ⟨s.toArray⟩, .int .i64 f, .int .i64 t, .slice A len c] 24))
      have HBX := Lib.hid (box6v w rfl 4 n s f t (.slice A len c) 24)
      obtain ⟨p0, p1, p2, p3, p4, p5⟩ := HBX.out
      go_enter Tryz.func10, Tryz.ntmps10
      go_wp2_with fail
      go_at_call 25
      with_reducible refine (HHO.out _).mono ?_
      rintro e wh ⟨rfl, hbh⟩
      go_wp2_with fail
      go_ret
      exact ⟨by first | rfl | (rw [← HRES.out]; rfl), HB0.out.trans (hbh.mono HB0.out.size)⟩
  · obtain rfl : len = 1 := hr5 rfl
    clear hr5 hr6 hr7
    obtain ⟨y, hy⟩ : ∃ y, l[0]? = some y := ⟨_, List.getElem?_eq_getElem (by rw [← HLEN.out]; omega)⟩
    obtain ⟨b, off, uy, rfl, hw⟩ := HPA.out 0 y hy
    rw [Nat.zero_mul, Nat.add_zero] at hw
    have hby : body = [45] ++ prF txN y 5 := by rw [HBODY.out, ← prAt_get txN l 0 5 y hy]; rfl
    have hpb := HPB.out 0 y hy 5
    have hcall := fun W (h : Below w.heap.size w W) => HIH.out 0 y hy 5 _ W (by omega) (hw W h).2
    unfold nodeV at hcall
    obtain ⟨sy, hsy⟩ : ∃ sb : ByteArray, sb = ⟨(prF txN y 5).toArray⟩ := ⟨_, rfl⟩
    rw [← hsy] at hcall
    have hsz : sy.size ≤ 300 * (2 * 140737488355328 + 60) := by rw [hsy]; exact hpb
    have HWH : Hid ((⟨#[45]⟩ ++ sy : ByteArray) = ⟨body.toArray⟩) := by show _ = _; rw [hsy, hby]; exact ba_app9 [45] _
    have HW6 := Lib.hid (fun W h => (hw W h).1)
    have HCALL := Lib.hid hcall
    clear hy hw hby hpb hcall hsy HBODY
    by_cases hp : (hz : Int) < m
    · rw [if_pos hp, List.cons_append]
      have HRES := Lib.hid (show ⟨#[40]⟩ ++ (⟨#[45]⟩ ++ sy : ByteArray) ++ ⟨#[41]⟩ = (⟨(40 :: (body ++ [41])).toArray⟩ : ByteArray) from by rw [HWH.out]; exact wrap_par body)
      have HB0 := Lib.hid (below_alloc w (.cells #[.int .i64 5, .int .i64 n, .string ⟨s.toArray⟩, .int .i64 f, .int .i64 t, .slice (some ⟨b, off, none⟩) 1 c] 24))
      have HBX := Lib.hid (box6v w rfl 5 n s f t (.slice (some ⟨b, off, none⟩) 1 c) 24)
      obtain ⟨p0, p1, p2, p3, p4, p5⟩ := HBX.out
      obtain ⟨c0, c1, c2, c3, c4, c5⟩ := HW6.out _ HB0.out
      go_enter Tryz.func10, Tryz.ntmps10
      go_wp2_with fail
      go_at_call 10
      with_reducible refine (HCALL.out _ HB0.out).mono ?_
      rintro e w1 ⟨rfl, hb1⟩
      have HB1 := Lib.hid hb1
      clear p0 p1 p2 p3 p4 p5 c0 c1 c2 c3 c4 c5 hb1
      obtain ⟨p0, p1, p2, p3, p4, p5⟩ := HBX.out.below HB1.out
      go_wp2_with fail
      go_at_call 25
      with_reducible refine (HHO.out _).mono ?_
      rintro e wh ⟨rfl, hbh⟩
      go_wp2_with fail
      go_ret
      exact ⟨by first | rfl | (rw [← HRES.out]; rfl), HB0.out.trans ((HB1.out.trans (hbh.mono HB1.out.size)).mono HB0.out.size)⟩
    · rw [if_neg hp]
      have hp2 : m ≤ (hz : Int) := by omega
      have HRES := Lib.hid (show (⟨#[45]⟩ ++ sy : ByteArray) = (⟨body.toArray⟩ : ByteArray) from HWH.out)
      clear hp
      have HB0 := Lib.hid (below_alloc w (.cells #[.int .i64 5, .int .i64 n, .string ⟨s.toArray⟩, .int .i64 f, .int .i64 t, .slice (some ⟨b, off, none⟩) 1 c] 24))
      have HBX := Lib.hid (box6v w rfl 5 n s f t (.slice (some ⟨b, off, none⟩) 1 c) 24)
      obtain ⟨p0, p1, p2, p3, p4, p5⟩ := HBX.out
      obtain ⟨c0, c1, c2, c3, c4, c5⟩ := HW6.out _ HB0.out
      go_enter Tryz.func10, Tryz.ntmps10
      go_wp2_with fail
      go_at_call 10
      with_reducible refine (HCALL.out _ HB0.out).mono ?_
      rintro e w1 ⟨rfl, hb1⟩
      have HB1 := Lib.hid hb1
      clear p0 p1 p2 p3 p4 p5 c0 c1 c2 c3 c4 c5 hb1
      obtain ⟨p0, p1, p2, p3, p4, p5⟩ := HBX.out.below HB1.out
      go_wp2_with fail
      go_at_call 25
      with_reducible refine (HHO.out _).mono ?_
      rintro e wh ⟨rfl, hbh⟩
      go_wp2_with fail
      go_ret
      exact ⟨by first | rfl | (rw [← HRES.out]; rfl), HB0.out.trans ((HB1.out.trans (hbh.mono HB1.out.size)).mono HB0.out.size)⟩
  · obtain rfl : len = 2 := hr6 rfl
    clear hr5 hr6 hr7
    obtain ⟨y, hy⟩ : ∃ y, l[0]? = some y := ⟨_, List.getElem?_eq_getElem (by rw [← HLEN.out]; omega)⟩
    obtain ⟨z, hz1⟩ : ∃ z, l[1]? = some z := ⟨_, List.getElem?_eq_getElem (by rw [← HLEN.out]; omega)⟩
    obtain ⟨b, off, uy, hA0, hwy⟩ := HPA.out 0 y hy
    obtain ⟨b2, off2, uz, hA1, hwz⟩ := HPA.out 1 z hz1
    rw [hA0] at hA1
    injection hA1 with hA1
    injection hA1 with e1 e2
    subst e1 e2 hA0
    rw [Nat.zero_mul, Nat.add_zero] at hwy
    rw [Nat.one_mul] at hwz
    obtain ⟨lvs, hlvs⟩ : ∃ n, n = levelF s := ⟨_, rfl⟩
    rw [← hlvs] at HLV hlv4
    have hby : body = prF txN y (lvs : Int) ++ s ++ prF txN z ((lvs : Int) + 1) := by rw [HBODY.out, hlvs, ← prAt_get txN l 0 _ y hy, ← prAt_get txN l 1 _ z hz1]; rfl
    have hpy := HPB.out 0 y hy (lvs : Int)
    have hpz := HPB.out 1 z hz1 ((lvs : Int) + 1)
    have hcy := fun W (h : Below w.heap.size w W) => HIH.out 0 y hy (lvs : Int) _ W (by omega) (hwy W h).2
    have hcz := fun W (h : Below w.heap.size w W) => HIH.out 1 z hz1 ((lvs : Int) + 1) _ W (by omega) (hwz W h).2
    unfold nodeV at hcy hcz
    obtain ⟨sy, hsy⟩ : ∃ sb : ByteArray, sb = ⟨(prF txN y (lvs : Int)).toArray⟩ := ⟨_, rfl⟩
    obtain ⟨sz, hsz⟩ : ∃ sb : ByteArray, sb = ⟨(prF txN z ((lvs : Int) + 1)).toArray⟩ := ⟨_, rfl⟩
    rw [← hsy] at hcy
    rw [← hsz] at hcz
    have hn1 : sy.size ≤ 300 * (2 * 140737488355328 + 60) := by rw [hsy]; exact hpy
    have hn2 : sz.size ≤ 300 * (2 * 140737488355328 + 60) := by rw [hsz]; exact hpz
    have HWH : Hid ((sy ++ ⟨s.toArray⟩ ++ sz : ByteArray) = ⟨body.toArray⟩) := by show _ = _; rw [hsy, hsz, hby, ba_app9, ba_app9]
    have HN1 : Hid ((9223372036854775807 < sy.size + s.length) = False) := eq_false (by omega)
    have HN2 : Hid ((9223372036854775807 < sy.size + s.length + sz.size) = False) := eq_false (by omega)
    have hwr : IntKind.i64.wrap ((lvs : Int) + 1) = (lvs : Int) + 1 := IntWalk.i64_in _ (by omega)
    have HWY := Lib.hid (fun W h => (hwy W h).1)
    have HWZ := Lib.hid (fun W h => (hwz W h).1)
    have HCY := Lib.hid hcy
    have HCZ := Lib.hid hcz
    clear hy hz1 hwy hwz hby hpy hpz hcy hcz hsy hsz HBODY hlvs
    by_cases hp : (hz : Int) < m
    · rw [if_pos hp, List.cons_append]
      have HRES := Lib.hid (show ⟨#[40]⟩ ++ (sy ++ ⟨s.toArray⟩ ++ sz : ByteArray) ++ ⟨#[41]⟩ = (⟨(40 :: (body ++ [41])).toArray⟩ : ByteArray) from by rw [HWH.out]; exact wrap_par body)
      have HB0 := Lib.hid (below_alloc w (.cells #[.int .i64 6, .int .i64 n, .string ⟨s.toArray⟩, .int .i64 f, .int .i64 t, .slice (some ⟨b, off, none⟩) 2 c] 24))
      have HBX := Lib.hid (box6v w rfl 6 n s f t (.slice (some ⟨b, off, none⟩) 2 c) 24)
      obtain ⟨p0, p1, p2, p3, p4, p5⟩ := HBX.out
      go_enter Tryz.func10, Tryz.ntmps10
      go_wp2_with fail
      clear p0 p1 p2 p3 p4 p5
      refine wp_region_noPanic ?_
      refine wp_region_below (by kernel_rfl) (fun HS0 => ?_)
      refine wpAnyH_take (i := 0) (v := ?_) rfl (by kernel_rfl) (by kernel_rfl) (by kernel_rfl) (fun _ _ _ h => h) (Or.inl ⟨by rfl, ?_⟩) HS0 ?_
      rotate_left
      · intro w hE; go_simp; try with_reducible rfl
      simp only [List.getElem_toArray, List.getElem_cons_succ, List.getElem_cons_zero, Act.put, List.setIfInBounds_toArray, List.set_cons_zero, List.set_cons_succ]
      refine wpAnyH_take (i := 1) (v := ?_) rfl (by kernel_rfl) (by kernel_rfl) (by kernel_rfl) (fun _ _ _ h => h) (Or.inl ⟨by rfl, ?_⟩) HS0 ?_
      rotate_left
      · intro w hE; obtain ⟨p0, p1, p2, p3, p4, p5⟩ := HBX.out.below hE; go_simp; try with_reducible rfl
      simp only [List.getElem_toArray, List.getElem_cons_succ, List.getElem_cons_zero, Act.put, List.setIfInBounds_toArray, List.set_cons_zero, List.set_cons_succ]
      refine wpAnyH_take (i := 2) (v := ?_) rfl (by kernel_rfl) (by kernel_rfl) (by kernel_rfl) (fun _ _ _ h => h) (Or.inl ⟨by rfl, ?_⟩) HS0 ?_
      rotate_left
      · intro w hE; go_simp; try with_reducible rfl
      simp only [List.getElem_toArray, List.getElem_cons_succ, List.getElem_cons_zero, Act.put, List.setIfInBounds_toArray, List.set_cons_zero, List.set_cons_succ]
      refine wpAnyH_take (i := 3) (v := ?_) rfl (by kernel_rfl) (by kernel_rfl) (by kernel_rfl) (fun _ _ _ h => h) (Or.inl ⟨by rfl, ?_⟩) HS0 ?_
      rotate_left
      · intro w hE; obtain ⟨c0, c1, c2, c3, c4, c5⟩ := HWY.out _ (HB0.out.trans (hE.mono HB0.out.size)); go_simp; try with_reducible rfl
      simp only [List.getElem_toArray, List.getElem_cons_succ, List.getElem_cons_zero, Act.put, List.setIfInBounds_toArray, List.set_cons_zero, List.set_cons_succ]
      refine wpAnyH_take (i := 4) (v := ?_) rfl (by kernel_rfl) (by kernel_rfl) (by kernel_rfl) (fun _ _ _ h => h) (Or.inl ⟨by rfl, ?_⟩) HS0 ?_
      rotate_left
      · intro w hE; go_simp; try with_reducible rfl
      simp only [List.getElem_toArray, List.getElem_cons_succ, List.getElem_cons_zero, Act.put, List.setIfInBounds_toArray, List.set_cons_zero, List.set_cons_succ]
      refine wpAnyH_take (i := 5) (v := ?_) rfl (by kernel_rfl) (by kernel_rfl) (by kernel_rfl) (fun _ _ _ h => h) (Or.inl ⟨by rfl, ?_⟩) HS0 ?_
      rotate_left
      · intro w hE; obtain ⟨p0, p1, p2, p3, p4, p5⟩ := HBX.out.below hE; go_simp; try with_reducible rfl
      simp only [List.getElem_toArray, List.getElem_cons_succ, List.getElem_cons_zero, Act.put, List.setIfInBounds_toArray, List.set_cons_zero, List.set_cons_succ]
      refine wpAnyH_take (i := 8) (v := ?_) rfl (by kernel_rfl) (by kernel_rfl) (by kernel_rfl) (fun _ _ _ h => h) (Or.inl ⟨by rfl, ?_⟩) HS0 ?_
      rotate_left
      · intro w hE; go_simp; try with_reducible rfl
      simp only [List.getElem_toArray, List.getElem_cons_succ, List.getElem_cons_zero, Act.put, List.setIfInBounds_toArray, List.set_cons_zero, List.set_cons_succ]
      refine wpAnyH_take (i := 9) (v := ?_) rfl (by kernel_rfl) (by kernel_rfl) (by kernel_rfl) (fun _ _ _ h => h) (Or.inl ⟨by rfl, ?_⟩) HS0 ?_
      rotate_left
      · intro w hE; obtain ⟨p0, p1, p2, p3, p4, p5⟩ := HBX.out.below hE; go_simp; try with_reducible rfl
      simp only [List.getElem_toArray, List.getElem_cons_succ, List.getElem_cons_zero, Act.put, List.setIfInBounds_toArray, List.set_cons_zero, List.set_cons_succ]
      refine wpAnyH_take (i := 11) (v := ?_) rfl (by kernel_rfl) (by kernel_rfl) (by kernel_rfl) (fun _ _ _ h => h) (Or.inl ⟨by rfl, ?_⟩) HS0 ?_
      rotate_left
      · intro w hE; go_simp; try with_reducible rfl
      simp only [List.getElem_toArray, List.getElem_cons_succ, List.getElem_cons_zero, Act.put, List.setIfInBounds_toArray, List.set_cons_zero, List.set_cons_succ]
      refine wpAnyH_take (i := 12) (v := ?_) rfl (by kernel_rfl) (by kernel_rfl) (by kernel_rfl) (fun _ _ _ h => h) (Or.inl ⟨by rfl, ?_⟩) HS0 ?_
      rotate_left
      · intro w hE; obtain ⟨p0, p1, p2, p3, p4, p5⟩ := HBX.out.below hE; go_simp; try with_reducible rfl
      simp only [List.getElem_toArray, List.getElem_cons_succ, List.getElem_cons_zero, Act.put, List.setIfInBounds_toArray, List.set_cons_zero, List.set_cons_succ]
      refine wpAnyH_take (i := 13) (v := ?_) rfl (by kernel_rfl) (by kernel_rfl) (by kernel_rfl) (fun _ _ _ h => h) (Or.inl ⟨by rfl, ?_⟩) HS0 ?_
      rotate_left
      · intro w hE; go_simp; try with_reducible rfl
      simp only [List.getElem_toArray, List.getElem_cons_succ, List.getElem_cons_zero, Act.put, List.setIfInBounds_toArray, List.set_cons_zero, List.set_cons_succ]
      refine wpAnyH_take (i := 14) (v := ?_) rfl (by kernel_rfl) (by kernel_rfl) (by kernel_rfl) (fun _ _ _ h => h) (Or.inl ⟨by rfl, ?_⟩) HS0 ?_
      rotate_left
      · intro w hE; obtain ⟨c0, c1, c2, c3, c4, c5⟩ := HWZ.out _ (HB0.out.trans (hE.mono HB0.out.size)); go_simp; try with_reducible rfl
      simp only [List.getElem_toArray, List.getElem_cons_succ, List.getElem_cons_zero, Act.put, List.setIfInBounds_toArray, List.set_cons_zero, List.set_cons_succ]
      refine wpAnyH_take (i := 15) (v := ?_) rfl (by kernel_rfl) (by kernel_rfl) (by kernel_rfl) (fun _ _ _ h => h) (Or.inl ⟨by rfl, ?_⟩) HS0 ?_
      rotate_left
      · intro w hE; go_simp; try with_reducible rfl
      simp only [List.getElem_toArray, List.getElem_cons_succ, List.getElem_cons_zero, Act.put, List.setIfInBounds_toArray, List.set_cons_zero, List.set_cons_succ]
      refine wpAnyH_take (i := 16) (v := ?_) rfl (by kernel_rfl) (by kernel_rfl) (by kernel_rfl) (fun _ _ _ h => h) (Or.inl ⟨by rfl, ?_⟩) HS0 ?_
      rotate_left
      · intro w hE; obtain ⟨p0, p1, p2, p3, p4, p5⟩ := HBX.out.below hE; go_simp; try with_reducible rfl
      simp only [List.getElem_toArray, List.getElem_cons_succ, List.getElem_cons_zero, Act.put, List.setIfInBounds_toArray, List.set_cons_zero, List.set_cons_succ]
      refine wpAnyH_ready (rs := [6]) (by kernel_rfl) (by simp) ?_
      refine AllReadyH.cons rfl (fun K hK => ?_) AllReadyH.nil
      go_simp
      go_at_call 14
      refine (HLV.out _).mono ?_
      rintro e wA ⟨rfl, hbA⟩
      go_simp
      refine hK.out _ _ (HS0.trans (hbA.mono HS0.size)) (fun HS1 => ?_)
      clear hK
      have hxA := HS0.trans (hbA.mono HS0.size)
      try simp only [List.getElem_toArray, List.getElem_cons_succ, List.getElem_cons_zero, Act.put, List.setIfInBounds_toArray, List.set_cons_zero, List.set_cons_succ]
      refine wpAnyH_ready (rs := [7]) (by kernel_rfl) (by simp) ?_
      refine AllReadyH.cons rfl (fun K hK => ?_) AllReadyH.nil
      go_simp
      go_at_call 10
      refine (HCY.out _ (HB0.out.trans (hxA.mono HB0.out.size))).mono ?_
      rintro e wB ⟨rfl, hbB⟩
      go_simp
      refine hK.out _ _ (hxA.trans (hbB.mono hxA.size)) (fun HS2 => ?_)
      clear hK
      have hxB := hxA.trans (hbB.mono hxA.size)
      try simp only [List.getElem_toArray, List.getElem_cons_succ, List.getElem_cons_zero, Act.put, List.setIfInBounds_toArray, List.set_cons_zero, List.set_cons_succ]
      refine wpAnyH_take (i := 10) (v := ?_) rfl (by kernel_rfl) (by kernel_rfl) (by kernel_rfl) (fun _ _ _ h => h) (Or.inl ⟨by rfl, ?_⟩) HS2 ?_
      rotate_left
      · intro w hE; have hq := HN1.out; go_simp; try with_reducible rfl
      simp only [List.getElem_toArray, List.getElem_cons_succ, List.getElem_cons_zero, Act.put, List.setIfInBounds_toArray, List.set_cons_zero, List.set_cons_succ]
      refine wpAnyH_ready (rs := [17]) (by kernel_rfl) (by simp) ?_
      refine AllReadyH.cons rfl (fun K hK => ?_) AllReadyH.nil
      go_simp
      go_at_call 14
      refine (HLV.out _).mono ?_
      rintro e wC ⟨rfl, hbC⟩
      go_simp
      refine hK.out _ _ (hxB.trans (hbC.mono hxB.size)) (fun HS3 => ?_)
      clear hK
      have hxC := hxB.trans (hbC.mono hxB.size)
      try simp only [List.getElem_toArray, List.getElem_cons_succ, List.getElem_cons_zero, Act.put, List.setIfInBounds_toArray, List.set_cons_zero, List.set_cons_succ]
      refine wpAnyH_take (i := 18) (v := ?_) rfl (by kernel_rfl) (by kernel_rfl) (by kernel_rfl) (fun _ _ _ h => h) (Or.inl ⟨by rfl, ?_⟩) HS3 ?_
      rotate_left
      · intro w hE; go_simp; try with_reducible rfl
      simp only [List.getElem_toArray, List.getElem_cons_succ, List.getElem_cons_zero, Act.put, List.setIfInBounds_toArray, List.set_cons_zero, List.set_cons_succ]
      refine wpAnyH_ready (rs := [19]) (by kernel_rfl) (by simp) ?_
      refine AllReadyH.cons rfl (fun K hK => ?_) AllReadyH.nil
      go_simp
      go_at_call 10
      refine (HCZ.out _ (HB0.out.trans (hxC.mono HB0.out.size))).mono ?_
      rintro e wD ⟨rfl, hbD⟩
      go_simp
      refine hK.out _ _ (hxC.trans (hbD.mono hxC.size)) (fun HS4 => ?_)
      clear hK
      have hxD := hxC.trans (hbD.mono hxC.size)
      try simp only [List.getElem_toArray, List.getElem_cons_succ, List.getElem_cons_zero, Act.put, List.setIfInBounds_toArray, List.set_cons_zero, List.set_cons_succ]
      refine wpAnyH_take (i := 20) (v := ?_) rfl (by kernel_rfl) (by kernel_rfl) (by kernel_rfl) (fun _ _ _ h => h) (Or.inl ⟨by rfl, ?_⟩) HS4 ?_
      rotate_left
      · intro w hE; have hq := HN2.out; go_simp; try with_reducible rfl
      simp only [List.getElem_toArray, List.getElem_cons_succ, List.getElem_cons_zero, Act.put, List.setIfInBounds_toArray, List.set_cons_zero, List.set_cons_succ]
      refine wpAnyH_take (i := 21) (v := ?_) rfl (by kernel_rfl) (by kernel_rfl) (by kernel_rfl) (fun _ _ _ h => h) (Or.inl ⟨by rfl, ?_⟩) HS4 ?_
      rotate_left
      · intro w hE; go_simp; try with_reducible rfl
      simp only [List.getElem_toArray, List.getElem_cons_succ, List.getElem_cons_zero, Act.put, List.setIfInBounds_toArray, List.set_cons_zero, List.set_cons_succ]
      refine wpAnyH_done (by kernel_rfl) ?_ _
      refine NoPanic.normal ?_
      obtain ⟨p0, p1, p2, p3, p4, p5⟩ := HBX.out.below hxD
      have hq1 := HN1.out
      have hq2 := HN2.out
      go_wp2_with fail
      go_at_call 25
      with_reducible refine (HHO.out _).mono ?_
      rintro e wh ⟨rfl, hbh⟩
      go_wp2_with fail
      go_ret
      exact ⟨by first | rfl | (rw [← HRES.out]; rfl), HB0.out.trans ((hxD.trans (hbh.mono hxD.size)).mono HB0.out.size)⟩
    · rw [if_neg hp]
      have hp2 : m ≤ (hz : Int) := by omega
      have HRES := Lib.hid (show (sy ++ ⟨s.toArray⟩ ++ sz : ByteArray) = (⟨body.toArray⟩ : ByteArray) from HWH.out)
      clear hp
      have HB0 := Lib.hid (below_alloc w (.cells #[.int .i64 6, .int .i64 n, .string ⟨s.toArray⟩, .int .i64 f, .int .i64 t, .slice (some ⟨b, off, none⟩) 2 c] 24))
      have HBX := Lib.hid (box6v w rfl 6 n s f t (.slice (some ⟨b, off, none⟩) 2 c) 24)
      obtain ⟨p0, p1, p2, p3, p4, p5⟩ := HBX.out
      go_enter Tryz.func10, Tryz.ntmps10
      go_wp2_with fail
      clear p0 p1 p2 p3 p4 p5
      refine wp_region_noPanic ?_
      refine wp_region_below (by kernel_rfl) (fun HS0 => ?_)
      refine wpAnyH_take (i := 0) (v := ?_) rfl (by kernel_rfl) (by kernel_rfl) (by kernel_rfl) (fun _ _ _ h => h) (Or.inl ⟨by rfl, ?_⟩) HS0 ?_
      rotate_left
      · intro w hE; go_simp; try with_reducible rfl
      simp only [List.getElem_toArray, List.getElem_cons_succ, List.getElem_cons_zero, Act.put, List.setIfInBounds_toArray, List.set_cons_zero, List.set_cons_succ]
      refine wpAnyH_take (i := 1) (v := ?_) rfl (by kernel_rfl) (by kernel_rfl) (by kernel_rfl) (fun _ _ _ h => h) (Or.inl ⟨by rfl, ?_⟩) HS0 ?_
      rotate_left
      · intro w hE; obtain ⟨p0, p1, p2, p3, p4, p5⟩ := HBX.out.below hE; go_simp; try with_reducible rfl
      simp only [List.getElem_toArray, List.getElem_cons_succ, List.getElem_cons_zero, Act.put, List.setIfInBounds_toArray, List.set_cons_zero, List.set_cons_succ]
      refine wpAnyH_take (i := 2) (v := ?_) rfl (by kernel_rfl) (by kernel_rfl) (by kernel_rfl) (fun _ _ _ h => h) (Or.inl ⟨by rfl, ?_⟩) HS0 ?_
      rotate_left
      · intro w hE; go_simp; try with_reducible rfl
      simp only [List.getElem_toArray, List.getElem_cons_succ, List.getElem_cons_zero, Act.put, List.setIfInBounds_toArray, List.set_cons_zero, List.set_cons_succ]
      refine wpAnyH_take (i := 3) (v := ?_) rfl (by kernel_rfl) (by kernel_rfl) (by kernel_rfl) (fun _ _ _ h => h) (Or.inl ⟨by rfl, ?_⟩) HS0 ?_
      rotate_left
      · intro w hE; obtain ⟨c0, c1, c2, c3, c4, c5⟩ := HWY.out _ (HB0.out.trans (hE.mono HB0.out.size)); go_simp; try with_reducible rfl
      simp only [List.getElem_toArray, List.getElem_cons_succ, List.getElem_cons_zero, Act.put, List.setIfInBounds_toArray, List.set_cons_zero, List.set_cons_succ]
      refine wpAnyH_take (i := 4) (v := ?_) rfl (by kernel_rfl) (by kernel_rfl) (by kernel_rfl) (fun _ _ _ h => h) (Or.inl ⟨by rfl, ?_⟩) HS0 ?_
      rotate_left
      · intro w hE; go_simp; try with_reducible rfl
      simp only [List.getElem_toArray, List.getElem_cons_succ, List.getElem_cons_zero, Act.put, List.setIfInBounds_toArray, List.set_cons_zero, List.set_cons_succ]
      refine wpAnyH_take (i := 5) (v := ?_) rfl (by kernel_rfl) (by kernel_rfl) (by kernel_rfl) (fun _ _ _ h => h) (Or.inl ⟨by rfl, ?_⟩) HS0 ?_
      rotate_left
      · intro w hE; obtain ⟨p0, p1, p2, p3, p4, p5⟩ := HBX.out.below hE; go_simp; try with_reducible rfl
      simp only [List.getElem_toArray, List.getElem_cons_succ, List.getElem_cons_zero, Act.put, List.setIfInBounds_toArray, List.set_cons_zero, List.set_cons_succ]
      refine wpAnyH_take (i := 8) (v := ?_) rfl (by kernel_rfl) (by kernel_rfl) (by kernel_rfl) (fun _ _ _ h => h) (Or.inl ⟨by rfl, ?_⟩) HS0 ?_
      rotate_left
      · intro w hE; go_simp; try with_reducible rfl
      simp only [List.getElem_toArray, List.getElem_cons_succ, List.getElem_cons_zero, Act.put, List.setIfInBounds_toArray, List.set_cons_zero, List.set_cons_succ]
      refine wpAnyH_take (i := 9) (v := ?_) rfl (by kernel_rfl) (by kernel_rfl) (by kernel_rfl) (fun _ _ _ h => h) (Or.inl ⟨by rfl, ?_⟩) HS0 ?_
      rotate_left
      · intro w hE; obtain ⟨p0, p1, p2, p3, p4, p5⟩ := HBX.out.below hE; go_simp; try with_reducible rfl
      simp only [List.getElem_toArray, List.getElem_cons_succ, List.getElem_cons_zero, Act.put, List.setIfInBounds_toArray, List.set_cons_zero, List.set_cons_succ]
      refine wpAnyH_take (i := 11) (v := ?_) rfl (by kernel_rfl) (by kernel_rfl) (by kernel_rfl) (fun _ _ _ h => h) (Or.inl ⟨by rfl, ?_⟩) HS0 ?_
      rotate_left
      · intro w hE; go_simp; try with_reducible rfl
      simp only [List.getElem_toArray, List.getElem_cons_succ, List.getElem_cons_zero, Act.put, List.setIfInBounds_toArray, List.set_cons_zero, List.set_cons_succ]
      refine wpAnyH_take (i := 12) (v := ?_) rfl (by kernel_rfl) (by kernel_rfl) (by kernel_rfl) (fun _ _ _ h => h) (Or.inl ⟨by rfl, ?_⟩) HS0 ?_
      rotate_left
      · intro w hE; obtain ⟨p0, p1, p2, p3, p4, p5⟩ := HBX.out.below hE; go_simp; try with_reducible rfl
      simp only [List.getElem_toArray, List.getElem_cons_succ, List.getElem_cons_zero, Act.put, List.setIfInBounds_toArray, List.set_cons_zero, List.set_cons_succ]
      refine wpAnyH_take (i := 13) (v := ?_) rfl (by kernel_rfl) (by kernel_rfl) (by kernel_rfl) (fun _ _ _ h => h) (Or.inl ⟨by rfl, ?_⟩) HS0 ?_
      rotate_left
      · intro w hE; go_simp; try with_reducible rfl
      simp only [List.getElem_toArray, List.getElem_cons_succ, List.getElem_cons_zero, Act.put, List.setIfInBounds_toArray, List.set_cons_zero, List.set_cons_succ]
      refine wpAnyH_take (i := 14) (v := ?_) rfl (by kernel_rfl) (by kernel_rfl) (by kernel_rfl) (fun _ _ _ h => h) (Or.inl ⟨by rfl, ?_⟩) HS0 ?_
      rotate_left
      · intro w hE; obtain ⟨c0, c1, c2, c3, c4, c5⟩ := HWZ.out _ (HB0.out.trans (hE.mono HB0.out.size)); go_simp; try with_reducible rfl
      simp only [List.getElem_toArray, List.getElem_cons_succ, List.getElem_cons_zero, Act.put, List.setIfInBounds_toArray, List.set_cons_zero, List.set_cons_succ]
      refine wpAnyH_take (i := 15) (v := ?_) rfl (by kernel_rfl) (by kernel_rfl) (by kernel_rfl) (fun _ _ _ h => h) (Or.inl ⟨by rfl, ?_⟩) HS0 ?_
      rotate_left
      · intro w hE; go_simp; try with_reducible rfl
      simp only [List.getElem_toArray, List.getElem_cons_succ, List.getElem_cons_zero, Act.put, List.setIfInBounds_toArray, List.set_cons_zero, List.set_cons_succ]
      refine wpAnyH_take (i := 16) (v := ?_) rfl (by kernel_rfl) (by kernel_rfl) (by kernel_rfl) (fun _ _ _ h => h) (Or.inl ⟨by rfl, ?_⟩) HS0 ?_
      rotate_left
      · intro w hE; obtain ⟨p0, p1, p2, p3, p4, p5⟩ := HBX.out.below hE; go_simp; try with_reducible rfl
      simp only [List.getElem_toArray, List.getElem_cons_succ, List.getElem_cons_zero, Act.put, List.setIfInBounds_toArray, List.set_cons_zero, List.set_cons_succ]
      refine wpAnyH_ready (rs := [6]) (by kernel_rfl) (by simp) ?_
      refine AllReadyH.cons rfl (fun K hK => ?_) AllReadyH.nil
      go_simp
      go_at_call 14
      refine (HLV.out _).mono ?_
      rintro e wA ⟨rfl, hbA⟩
      go_simp
      refine hK.out _ _ (HS0.trans (hbA.mono HS0.size)) (fun HS1 => ?_)
      clear hK
      have hxA := HS0.trans (hbA.mono HS0.size)
      try simp only [List.getElem_toArray, List.getElem_cons_succ, List.getElem_cons_zero, Act.put, List.setIfInBounds_toArray, List.set_cons_zero, List.set_cons_succ]
      refine wpAnyH_ready (rs := [7]) (by kernel_rfl) (by simp) ?_
      refine AllReadyH.cons rfl (fun K hK => ?_) AllReadyH.nil
      go_simp
      go_at_call 10
      refine (HCY.out _ (HB0.out.trans (hxA.mono HB0.out.size))).mono ?_
      rintro e wB ⟨rfl, hbB⟩
      go_simp
      refine hK.out _ _ (hxA.trans (hbB.mono hxA.size)) (fun HS2 => ?_)
      clear hK
      have hxB := hxA.trans (hbB.mono hxA.size)
      try simp only [List.getElem_toArray, List.getElem_cons_succ, List.getElem_cons_zero, Act.put, List.setIfInBounds_toArray, List.set_cons_zero, List.set_cons_succ]
      refine wpAnyH_take (i := 10) (v := ?_) rfl (by kernel_rfl) (by kernel_rfl) (by kernel_rfl) (fun _ _ _ h => h) (Or.inl ⟨by rfl, ?_⟩) HS2 ?_
      rotate_left
      · intro w hE; have hq := HN1.out; go_simp; try with_reducible rfl
      simp only [List.getElem_toArray, List.getElem_cons_succ, List.getElem_cons_zero, Act.put, List.setIfInBounds_toArray, List.set_cons_zero, List.set_cons_succ]
      refine wpAnyH_ready (rs := [17]) (by kernel_rfl) (by simp) ?_
      refine AllReadyH.cons rfl (fun K hK => ?_) AllReadyH.nil
      go_simp
      go_at_call 14
      refine (HLV.out _).mono ?_
      rintro e wC ⟨rfl, hbC⟩
      go_simp
      refine hK.out _ _ (hxB.trans (hbC.mono hxB.size)) (fun HS3 => ?_)
      clear hK
      have hxC := hxB.trans (hbC.mono hxB.size)
      try simp only [List.getElem_toArray, List.getElem_cons_succ, List.getElem_cons_zero, Act.put, List.setIfInBounds_toArray, List.set_cons_zero, List.set_cons_succ]
      refine wpAnyH_take (i := 18) (v := ?_) rfl (by kernel_rfl) (by kernel_rfl) (by kernel_rfl) (fun _ _ _ h => h) (Or.inl ⟨by rfl, ?_⟩) HS3 ?_
      rotate_left
      · intro w hE; go_simp; try with_reducible rfl
      simp only [List.getElem_toArray, List.getElem_cons_succ, List.getElem_cons_zero, Act.put, List.setIfInBounds_toArray, List.set_cons_zero, List.set_cons_succ]
      refine wpAnyH_ready (rs := [19]) (by kernel_rfl) (by simp) ?_
      refine AllReadyH.cons rfl (fun K hK => ?_) AllReadyH.nil
      go_simp
      go_at_call 10
      refine (HCZ.out _ (HB0.out.trans (hxC.mono HB0.out.size))).mono ?_
      rintro e wD ⟨rfl, hbD⟩
      go_simp
      refine hK.out _ _ (hxC.trans (hbD.mono hxC.size)) (fun HS4 => ?_)
      clear hK
      have hxD := hxC.trans (hbD.mono hxC.size)
      try simp only [List.getElem_toArray, List.getElem_cons_succ, List.getElem_cons_zero, Act.put, List.setIfInBounds_toArray, List.set_cons_zero, List.set_cons_succ]
      refine wpAnyH_take (i := 20) (v := ?_) rfl (by kernel_rfl) (by kernel_rfl) (by kernel_rfl) (fun _ _ _ h => h) (Or.inl ⟨by rfl, ?_⟩) HS4 ?_
      rotate_left
      · intro w hE; have hq := HN2.out; go_simp; try with_reducible rfl
      simp only [List.getElem_toArray, List.getElem_cons_succ, List.getElem_cons_zero, Act.put, List.setIfInBounds_toArray, List.set_cons_zero, List.set_cons_succ]
      refine wpAnyH_take (i := 21) (v := ?_) rfl (by kernel_rfl) (by kernel_rfl) (by kernel_rfl) (fun _ _ _ h => h) (Or.inl ⟨by rfl, ?_⟩) HS4 ?_
      rotate_left
      · intro w hE; go_simp; try with_reducible rfl
      simp only [List.getElem_toArray, List.getElem_cons_succ, List.getElem_cons_zero, Act.put, List.setIfInBounds_toArray, List.set_cons_zero, List.set_cons_succ]
      refine wpAnyH_done (by kernel_rfl) ?_ _
      refine NoPanic.normal ?_
      obtain ⟨p0, p1, p2, p3, p4, p5⟩ := HBX.out.below hxD
      have hq1 := HN1.out
      have hq2 := HN2.out
      go_wp2_with fail
      go_at_call 25
      with_reducible refine (HHO.out _).mono ?_
      rintro e wh ⟨rfl, hbh⟩
      go_wp2_with fail
      go_ret
      exact ⟨by first | rfl | (rw [← HRES.out]; rfl), HB0.out.trans ((hxD.trans (hbh.mono hxD.size)).mono HB0.out.size)⟩
  · have h16 := hr7 rfl
    clear hr5 hr6 hr7
    have hstart : (s ++ [40]) ++ prC txN (l.drop 0) (decide (0 < 0)) ++ [41] = body := by rw [HBODY.out, List.drop_zero]; rfl
    have hst : (⟨s.toArray⟩ ++ ⟨#[40]⟩ : ByteArray) = ⟨(s ++ [40]).toArray⟩ := ba_app9 s [40]
    have HSTART := Lib.hid hstart
    have HST := Lib.hid hst
    have HBL := Lib.hid hbl
    clear hstart hst HBODY
    by_cases hp : (hz : Int) < m
    · rw [if_pos hp, List.cons_append]
      have HRES := Lib.hid (show ⟨#[40]⟩ ++ (⟨body.toArray⟩ : ByteArray) ++ ⟨#[41]⟩ = (⟨(40 :: (body ++ [41])).toArray⟩ : ByteArray) from by exact wrap_par body)
      have HB0 := Lib.hid (below_alloc w (.cells #[.int .i64 7, .int .i64 n, .string ⟨s.toArray⟩, .int .i64 f, .int .i64 t, .slice A len c] 24))
      have HBX := Lib.hid (box6v w rfl 7 n s f t (.slice A len c) 24)
      obtain ⟨p0, p1, p2, p3, p4, p5⟩ := HBX.out
      go_enter Tryz.func10, Tryz.ntmps10
      go_wp2_with fail
      clear p0 p1 p2 p3 p4 p5
      go_loopw [5, 6] (fun a b wr => ∃ (i : Nat) (t' : List UInt8), i ≤ len ∧ a = .string ⟨t'.toArray⟩ ∧ b = .int .i64 (i : Int) ∧ Hid (t' ++ prC txN (l.drop i) (decide (0 < i)) ++ [41] = body) ∧ Hid (Below (w.alloc (.cells #[.int .i64 7, .int .i64 n, .string ⟨s.toArray⟩, .int .i64 f, .int .i64 t, .slice A len c] 24)).heap.size (w.alloc (.cells #[.int .i64 7, .int .i64 n, .string ⟨s.toArray⟩, .int .i64 f, .int .i64 t, .slice A len c] 24)) wr)) (fun _ b _ => len - (intOf b).toNat)
      case atStart => exact ⟨0, s ++ [40], Nat.zero_le _, by rw [← HST.out], rfl, HSTART, Lib.hid (Below.refl _ _)⟩
      case round =>
        rename World => wr
        obtain ⟨i, t', hi, rfl, rfl, HT, HB⟩ := hrel
        have htl : t'.length ≤ 300 * (2 * 140737488355328 + 60) := by
          have h := congrArg List.length HT.out
          have h2 := HBL.out
          simp only [List.length_append] at h
          omega
        have htz : (⟨t'.toArray⟩ : ByteArray).size = t'.length := rfl
        obtain ⟨p0, p1, p2, p3, p4, p5⟩ := HBX.out.below HB.out
        have hBw := HB0.out.trans (HB.out.mono HB0.out.size)
        by_cases hlt : i < len
        · obtain ⟨y, hy⟩ : ∃ y, l[i]? = some y := ⟨_, List.getElem?_eq_getElem (by rw [← HLEN.out]; exact hlt)⟩
          have hdr := prC_drop (tx := txN) (b := decide (0 < i)) hy
          obtain ⟨b, off, uy, rfl, hw⟩ := HPA.out i y hy
          obtain ⟨⟨c0, c1, c2, c3, c4, c5⟩, hN⟩ := hw _ hBw
          have hcall := HIH.out i y hy 1 _ _ (by omega) hN
          unfold nodeV at hcall
          have hpb := HPB.out i y hy 1
          obtain ⟨sy, hsy⟩ : ∃ sb : ByteArray, sb = ⟨(prF txN y 1).toArray⟩ := ⟨_, rfl⟩
          rw [← hsy] at hcall
          have hsz : sy.size ≤ 300 * (2 * 140737488355328 + 60) := by rw [hsy]; exact hpb
          have HCALL := Lib.hid hcall
          by_cases h0 : 0 < i
          · have hnew : (t' ++ [44] ++ prF txN y 1) ++ prC txN (l.drop (i + 1)) (decide (0 < i + 1)) ++ [41] = body := by
              rw [← HT.out, hdr, decide_eq_true h0, decide_eq_true (Nat.succ_pos i)]
              simp
            have hba : (⟨t'.toArray⟩ ++ ⟨#[44]⟩ : ByteArray) = ⟨(t' ++ [44]).toArray⟩ := ba_app9 t' [44]
            have hbs : (⟨(t' ++ [44]).toArray⟩ : ByteArray).size = t'.length + 1 := by show (t' ++ [44]).toArray.size = _; simp
            have hba2 : (⟨(t' ++ [44]).toArray⟩ ++ sy : ByteArray) = ⟨(t' ++ [44] ++ prF txN y 1).toArray⟩ := by rw [hsy]; exact ba_app9 _ _
            have HNEW := Lib.hid hnew
            have HBA2 := Lib.hid hba2
            have hi0 : (0 : Int) < (i : Int) := by omega
            clear hy hdr hw hN hcall hpb hsy hnew hba2 HT h0
            go_wp2_with fail
            go_at_call 10
            with_reducible refine HCALL.out.mono ?_
            rintro e w1 ⟨rfl, hb1⟩
            go_wp2_with fail
            go_roundw
            case rel => exact ⟨i + 1, t' ++ [44] ++ prF txN y 1, by omega, by first | (rw [← HBA2.out]) | (rw [hba, HBA2.out]), by go_num, HNEW, Lib.hid (HB.out.trans (hb1.mono HB.out.size))⟩
            case measure => simp [intOf]; omega
          · obtain rfl : i = 0 := by omega
            have hnew : (t' ++ prF txN y 1) ++ prC txN (l.drop (0 + 1)) (decide (0 < 0 + 1)) ++ [41] = body := by
              rw [← HT.out, hdr]
              simp
            have hba2 : (⟨t'.toArray⟩ ++ sy : ByteArray) = ⟨(t' ++ prF txN y 1).toArray⟩ := by rw [hsy]; exact ba_app9 _ _
            have HNEW := Lib.hid hnew
            have HBA2 := Lib.hid hba2
            rw [Nat.zero_mul, Nat.add_zero] at c0 c1 c2 c3 c4 c5
            clear hy hdr hw hN hcall hpb hsy hnew hba2 HT h0
            go_wp2_with fail
            go_at_call 10
            with_reducible refine HCALL.out.mono ?_
            rintro e w1 ⟨rfl, hb1⟩
            go_wp2_with fail
            go_roundw
            case rel => exact ⟨1, t' ++ prF txN y 1, by omega, by rw [← HBA2.out], by go_num, HNEW, Lib.hid (HB.out.trans (hb1.mono HB.out.size))⟩
            case measure => simp [intOf]; omega
        · obtain rfl : i = len := by omega
          have hfin : t' ++ [41] = body := by
            rw [← HT.out, HLEN.out, List.drop_length]
            unfold prC
            simp
          have hba : (⟨t'.toArray⟩ ++ ⟨#[41]⟩ : ByteArray) = ⟨(t' ++ [41]).toArray⟩ := ba_app9 t' [41]
          have hbs : (⟨(t' ++ [41]).toArray⟩ : ByteArray).size = t'.length + 1 := by show (t' ++ [41]).toArray.size = _; simp
          rw [hfin] at hba hbs
          have HBA := Lib.hid hba
          clear HT HLEN hlt
          go_wp2_with fail
          go_at_call 25
          with_reducible refine (HHO.out _).mono ?_
          rintro e wh ⟨rfl, hbh⟩
          go_wp2_with fail
          go_ret
          exact ⟨by first | rfl | (rw [← HRES.out, ← HBA.out]; rfl) | (rw [← HRES.out]; rfl) | (rw [← HBA.out]; rfl), hBw.trans (hbh.mono hBw.size)⟩
    · rw [if_neg hp]
      have hp2 : m ≤ (hz : Int) := by omega
      have HRES := Lib.hid (show (⟨body.toArray⟩ : ByteArray) = (⟨body.toArray⟩ : ByteArray) from rfl)
      clear hp
      have HB0 := Lib.hid (below_alloc w (.cells #[.int .i64 7, .int .i64 n, .string ⟨s.toArray⟩, .int .i64 f, .int .i64 t, .slice A len c] 24))
      have HBX := Lib.hid (box6v w rfl 7 n s f t (.slice A len c) 24)
      obtain ⟨p0, p1, p2, p3, p4, p5⟩ := HBX.out
      go_enter Tryz.func10, Tryz.ntmps10
      go_wp2_with fail
      clear p0 p1 p2 p3 p4 p5
      go_loopw [5, 6] (fun a b wr => ∃ (i : Nat) (t' : List UInt8), i ≤ len ∧ a = .string ⟨t'.toArray⟩ ∧ b = .int .i64 (i : Int) ∧ Hid (t' ++ prC txN (l.drop i) (decide (0 < i)) ++ [41] = body) ∧ Hid (Below (w.alloc (.cells #[.int .i64 7, .int .i64 n, .string ⟨s.toArray⟩, .int .i64 f, .int .i64 t, .slice A len c] 24)).heap.size (w.alloc (.cells #[.int .i64 7, .int .i64 n, .string ⟨s.toArray⟩, .int .i64 f, .int .i64 t, .slice A len c] 24)) wr)) (fun _ b _ => len - (intOf b).toNat)
      case atStart => exact ⟨0, s ++ [40], Nat.zero_le _, by rw [← HST.out], rfl, HSTART, Lib.hid (Below.refl _ _)⟩
      case round =>
        rename World => wr
        obtain ⟨i, t', hi, rfl, rfl, HT, HB⟩ := hrel
        have htl : t'.length ≤ 300 * (2 * 140737488355328 + 60) := by
          have h := congrArg List.length HT.out
          have h2 := HBL.out
          simp only [List.length_append] at h
          omega
        have htz : (⟨t'.toArray⟩ : ByteArray).size = t'.length := rfl
        obtain ⟨p0, p1, p2, p3, p4, p5⟩ := HBX.out.below HB.out
        have hBw := HB0.out.trans (HB.out.mono HB0.out.size)
        by_cases hlt : i < len
        · obtain ⟨y, hy⟩ : ∃ y, l[i]? = some y := ⟨_, List.getElem?_eq_getElem (by rw [← HLEN.out]; exact hlt)⟩
          have hdr := prC_drop (tx := txN) (b := decide (0 < i)) hy
          obtain ⟨b, off, uy, rfl, hw⟩ := HPA.out i y hy
          obtain ⟨⟨c0, c1, c2, c3, c4, c5⟩, hN⟩ := hw _ hBw
          have hcall := HIH.out i y hy 1 _ _ (by omega) hN
          unfold nodeV at hcall
          have hpb := HPB.out i y hy 1
          obtain ⟨sy, hsy⟩ : ∃ sb : ByteArray, sb = ⟨(prF txN y 1).toArray⟩ := ⟨_, rfl⟩
          rw [← hsy] at hcall
          have hsz : sy.size ≤ 300 * (2 * 140737488355328 + 60) := by rw [hsy]; exact hpb
          have HCALL := Lib.hid hcall
          by_cases h0 : 0 < i
          · have hnew : (t' ++ [44] ++ prF txN y 1) ++ prC txN (l.drop (i + 1)) (decide (0 < i + 1)) ++ [41] = body := by
              rw [← HT.out, hdr, decide_eq_true h0, decide_eq_true (Nat.succ_pos i)]
              simp
            have hba : (⟨t'.toArray⟩ ++ ⟨#[44]⟩ : ByteArray) = ⟨(t' ++ [44]).toArray⟩ := ba_app9 t' [44]
            have hbs : (⟨(t' ++ [44]).toArray⟩ : ByteArray).size = t'.length + 1 := by show (t' ++ [44]).toArray.size = _; simp
            have hba2 : (⟨(t' ++ [44]).toArray⟩ ++ sy : ByteArray) = ⟨(t' ++ [44] ++ prF txN y 1).toArray⟩ := by rw [hsy]; exact ba_app9 _ _
            have HNEW := Lib.hid hnew
            have HBA2 := Lib.hid hba2
            have hi0 : (0 : Int) < (i : Int) := by omega
            clear hy hdr hw hN hcall hpb hsy hnew hba2 HT h0
            go_wp2_with fail
            go_at_call 10
            with_reducible refine HCALL.out.mono ?_
            rintro e w1 ⟨rfl, hb1⟩
            go_wp2_with fail
            go_roundw
            case rel => exact ⟨i + 1, t' ++ [44] ++ prF txN y 1, by omega, by first | (rw [← HBA2.out]) | (rw [hba, HBA2.out]), by go_num, HNEW, Lib.hid (HB.out.trans (hb1.mono HB.out.size))⟩
            case measure => simp [intOf]; omega
          · obtain rfl : i = 0 := by omega
            have hnew : (t' ++ prF txN y 1) ++ prC txN (l.drop (0 + 1)) (decide (0 < 0 + 1)) ++ [41] = body := by
              rw [← HT.out, hdr]
              simp
            have hba2 : (⟨t'.toArray⟩ ++ sy : ByteArray) = ⟨(t' ++ prF txN y 1).toArray⟩ := by rw [hsy]; exact ba_app9 _ _
            have HNEW := Lib.hid hnew
            have HBA2 := Lib.hid hba2
            rw [Nat.zero_mul, Nat.add_zero] at c0 c1 c2 c3 c4 c5
            clear hy hdr hw hN hcall hpb hsy hnew hba2 HT h0
            go_wp2_with fail
            go_at_call 10
            with_reducible refine HCALL.out.mono ?_
            rintro e w1 ⟨rfl, hb1⟩
            go_wp2_with fail
            go_roundw
            case rel => exact ⟨1, t' ++ prF txN y 1, by omega, by rw [← HBA2.out], by go_num, HNEW, Lib.hid (HB.out.trans (hb1.mono HB.out.size))⟩
            case measure => simp [intOf]; omega
        · obtain rfl : i = len := by omega
          have hfin : t' ++ [41] = body := by
            rw [← HT.out, HLEN.out, List.drop_length]
            unfold prC
            simp
          have hba : (⟨t'.toArray⟩ ++ ⟨#[41]⟩ : ByteArray) = ⟨(t' ++ [41]).toArray⟩ := ba_app9 t' [41]
          have hbs : (⟨(t' ++ [41]).toArray⟩ : ByteArray).size = t'.length + 1 := by show (t' ++ [41]).toArray.size = _; simp
          rw [hfin] at hba hbs
          have HBA := Lib.hid hba
          clear HT HLEN hlt
          go_wp2_with fail
          go_at_call 25
          with_reducible refine (HHO.out _).mono ?_
          rintro e wh ⟨rfl, hbh⟩
          go_wp2_with fail
          go_ret
          exact ⟨by first | rfl | (rw [← HRES.out, ← HBA.out]; rfl) | (rw [← HRES.out]; rfl) | (rw [← HBA.out]; rfl), hBw.trans (hbh.mono hBw.size)⟩
  · have hb : body = [35, 82, 69, 70, 33] := by rw [HBODY.out]; rfl
    clear HBODY
    subst hb
    by_cases hp : (hz : Int) < m
    · rw [if_pos hp, List.cons_append]
      have HRES := Lib.hid (show ⟨#[40]⟩ ++ (⟨#[35, 82, 69, 70, 33]⟩ : ByteArray) ++ ⟨#[41]⟩ = (⟨(40 :: ([35, 82, 69, 70, 33] ++ [41])).toArray⟩ : ByteArray) from by exact wrap_par [35, 82, 69, 70, 33])
      have HB0 := Lib.hid (below_alloc w (.cells #[.int .i64 8, .int .i64 n, .string ⟨s.toArray⟩, .int .i64 f, .int .i64 t, .slice A len c] 24))
      have HBX := Lib.hid (box6v w rfl 8 n s f t (.slice A len c) 24)
      obtain ⟨p0, p1, p2, p3, p4, p5⟩ := HBX.out
      go_enter Tryz.func10, Tryz.ntmps10
      go_wp2_with fail
      go_at_call 25
      with_reducible refine (HHO.out _).mono ?_
      rintro e wh ⟨rfl, hbh⟩
      go_wp2_with fail
      go_ret
      exact ⟨by first | rfl | (rw [← HRES.out]; rfl), HB0.out.trans (hbh.mono HB0.out.size)⟩
    · rw [if_neg hp]
      have hp2 : m ≤ (hz : Int) := by omega
      have HRES := Lib.hid (show (⟨#[35, 82, 69, 70, 33]⟩ : ByteArray) = (⟨([35, 82, 69, 70, 33] : List UInt8).toArray⟩ : ByteArray) from rfl)
      clear hp
      have HB0 := Lib.hid (below_alloc w (.cells #[.int .i64 8, .int .i64 n, .string ⟨s.toArray⟩, .int .i64 f, .int .i64 t, .slice A len c] 24))
      have HBX := Lib.hid (box6v w rfl 8 n s f t (.slice A len c) 24)
      obtain ⟨p0, p1, p2, p3, p4, p5⟩ := HBX.out
      go_enter Tryz.func10, Tryz.ntmps10
      go_wp2_with fail
      go_at_call 25
      with_reducible refine (HHO.out _).mono ?_
      rintro e wh ⟨rfl, hbh⟩
      go_wp2_with fail
      go_ret
      exact ⟨by first | rfl | (rw [← HRES.out]; rfl), HB0.out.trans (hbh.mono HB0.out.size)⟩
theorem rprint_any (M : Nat) (hM : M ≤ 140737488355328) (x : Tr) (lv m : Int) (v : Value) (w : World) (hm : In64 m) (hr : rightF x lv = true) (hx : maxT x ≤ M) (hn : nodes x ≤ 200) (hv : RdN AnyB w x v) :
    Calls Tryz.prog 10 #[v, .int .i64 m] w fun e w' => e = .returned (.string ⟨(prF txN x m).toArray⟩) ∧ Below w.heap.size w w' :=
  rprint_big M hM x lv m v w hm hr hx (by omega) hv
end Go.Proofs.YtlagjnlajkmmeaaGreatDoor
