/-
The program's a1.Col, by contracts.
-/
import Derived.Test.YtggdpnkfambmfaaDoorCpTrim
import Derived.Deep.QuietTactic
import Derived.BigQuiet
import Derived.IntWalk
namespace Go.Proofs.YtggdpnkfambmfaaDoor
open Go.RowKit Go.Proofs.YtggdpnkfambmfaaDoor.Dig

set_option maxRecDepth 20000 in
theorem col_out (n : Int) (h : n < 1 ∨ 702 < n) (w : World) :
    Calls Tryd.prog 8 #[.int .i64 n] w fun e w' => e = .returned (.string ⟨#[]⟩) ∧ w' = w := by
  by_cases h1 : n < 1
  · go_enter Tryd.func8, Tryd.ntmps8
    go_wp2
    go_ret
    exact ⟨rfl, rfl⟩
  · have h2 : 1 ≤ n := by omega
    have h3 : 702 < n := by omega
    clear h h1
    go_enter Tryd.func8, Tryd.ntmps8
    go_wp2
    go_ret
    exact ⟨rfl, rfl⟩

theorem az_one_all : ∀ r : Fin 26, (⟨azL.toArray⟩ : ByteArray).extract r.val (r.val + 1) = ⟨#[UInt8.ofNat (65 + r.val)]⟩ := by decide +kernel
set_option maxRecDepth 20000 in
set_option maxHeartbeats 2000000 in
theorem col_step (n : Int) (q r : Nat) (hn : n = 26 * q + r + 1) (hr : r < 26) (h2 : n ≤ 702) (bs : ByteArray) (hbs : bs.size ≤ 2)
    (hb : ∀ W, Calls Tryd.prog 8 #[.int .i64 (q : Int)] W fun e w' => e = .returned (.string bs) ∧ ∃ m, w' = W.drewN m) (w : World) :
    Calls Tryd.prog 8 #[.int .i64 n] w fun e w' => e = .returned (.string (bs ++ ⟨#[UInt8.ofNat (65 + r)]⟩)) ∧ ∃ m, w' = w.drewN m := by
  have h1 : 1 ≤ n := by omega
  have hq : (n - 1).tdiv 26 = (q : Int) := by rw [Int.tdiv_eq_ediv_of_nonneg (by omega)]; omega
  have hm : (n - 1).tmod 26 = (r : Int) := by rw [Int.tmod_eq_emod_of_nonneg (by omega)]; omega
  have hx := az_one_all ⟨r, hr⟩
  rw [← az_bytes] at hx
  have hcs : (⟨#[UInt8.ofNat (65 + r)]⟩ : ByteArray).size = 1 := rfl
  generalize (⟨#[UInt8.ofNat (65 + r)]⟩ : ByteArray) = c at *
  simp only at hx
  have hw : IntKind.i64.wrap ((r : Int) + 1) = (r : Int) + 1 := IntWalk.i64_in _ (by omega)
  have hr0 : (0 : Int) ≤ (r : Int) + 1 := by omega
  have hr1 : ((r : Int) + 1).toNat = r + 1 := by omega
  have hr2 : (r : Int) + 1 ≤ 26 := by omega
  have hq2 : (q : Int) ≤ 26 := by omega
  have hzs : (⟨#[65, 66, 67, 68, 69, 70, 71, 72, 73, 74, 75, 76, 77, 78, 79, 80, 81, 82, 83, 84, 85, 86, 87, 88, 89, 90]⟩ : ByteArray).size = 26 := rfl
  have HC := Lib.hid hb
  clear hb hn
  go_enter Tryd.func8, Tryd.ntmps8
  go_wp2_with fail
  generalize (⟨#[65, 66, 67, 68, 69, 70, 71, 72, 73, 74, 75, 76, 77, 78, 79, 80, 81, 82, 83, 84, 85, 86, 87, 88, 89, 90]⟩ : ByteArray) = z at *
  go_quiet ((go_at_call 8; refine Calls.quiet_of (HC.out _)))
  go_wp2_with fail
  go_ret
  exact ⟨rfl, _, rfl⟩
theorem col_drew (n : Int) (h : I64 n) (w : World) :
    Calls Tryd.prog 8 #[.int .i64 n] w fun e w' => e = .returned (.string ⟨(colL n).toArray⟩) ∧ ∃ m, w' = w.drewN m := by
  have hout : ∀ m : Int, m < 1 ∨ 702 < m → ∀ W, Calls Tryd.prog 8 #[.int .i64 m] W fun e w' => e = .returned (.string ⟨(colL m).toArray⟩) ∧ ∃ k, w' = W.drewN k := fun m hm W => by
    rw [colL_zero hm]
    exact (col_out m hm W).mono fun e w' ⟨he, hw⟩ => ⟨he, 0, hw⟩
  have hlow : ∀ m : Int, 1 ≤ m → m ≤ 26 → ∀ W, Calls Tryd.prog 8 #[.int .i64 m] W fun e w' => e = .returned (.string ⟨(colL m).toArray⟩) ∧ ∃ k, w' = W.drewN k := fun m h1 h2 W => by
    have hs := col_step m 0 (m.toNat - 1) (by omega) (by omega) (by omega) ⟨#[]⟩ (by decide) (fun W => by have := hout 0 (by omega) W; rw [colL_zero (by omega)] at this; exact this) W
    have e : colL m = [] ++ [UInt8.ofNat (65 + (m.toNat - 1))] := by
      unfold colL
      rw [if_neg (by omega), if_pos (by omega), show 65 + (m.toNat - 1) = 64 + m.toNat from by omega]
      rfl
    rw [e]
    exact (ba_app [] _ : _ = _) ▸ hs
  by_cases h0 : n < 1 ∨ 702 < n
  · exact hout n h0 w
  by_cases h1 : n ≤ 26
  · exact hlow n (by omega) h1 w
  have hs := col_step n ((n.toNat - 1) / 26) ((n.toNat - 1) % 26) (by omega) (by omega) (by omega) ⟨(colL ((((n.toNat - 1) / 26 : Nat)) : Int)).toArray⟩ (colL_len ((((n.toNat - 1) / 26 : Nat)) : Int)) (fun W => hlow _ (by omega) (by omega) W) w
  have e : colL n = colL ((((n.toNat - 1) / 26 : Nat)) : Int) ++ [UInt8.ofNat (65 + (n.toNat - 1) % 26)] := by
    unfold colL
    rw [if_neg (by omega), if_neg (by omega), if_neg (by omega), if_pos (by omega), show 65 + (n.toNat - 27) / 26 = 64 + (((n.toNat - 1) / 26 : Nat) : Int).toNat from by omega, show (n.toNat - 27) % 26 = (n.toNat - 1) % 26 from by omega]
    rfl
  rw [e]
  exact (ba_app _ [UInt8.ofNat (65 + (n.toNat - 1) % 26)] : _ = _) ▸ hs
theorem col_any (n : Int) (h : I64 n) (w : World) :
    Calls Tryd.prog 8 #[.int .i64 n] w fun e w' => e = .returned (.string ⟨(colL n).toArray⟩) ∧ Below w.heap.size w w' :=
  (col_drew n h w).mono fun e w' ⟨he, m, hw⟩ => ⟨he, hw ▸ below_drewN w m⟩

/-- What Column reckons, letter by letter. -/
def colW (n : Nat) : List UInt8 → Nat
  | [] => n
  | c :: l => if isUp c = true ∧ n * 26 + (c.toNat - 64) ≤ 702 then colW (n * 26 + (c.toNat - 64)) l else 0
theorem up_nat {c : UInt8} (h : isUp c = true) : 65 ≤ c.toNat ∧ c.toNat ≤ 90 := by unfold isUp at h; exact of_decide_eq_true h
theorem colW_big {n : Nat} (h : 27 ≤ n) (c : UInt8) (l : List UInt8) : colW n (c :: l) = 0 := by
  unfold colW
  rw [if_neg]
  rintro ⟨hu, hle⟩
  have := up_nat hu
  omega
theorem colV_no {l : List UInt8} (h : ∀ m : Int, 1 ≤ m ∧ m ≤ 702 → colL m ≠ l) : colV l = 0 := by
  cases hc : colV l with
  | zero => rfl
  | succ k =>
    have h1 := colV_name (l := l) (by omega)
    have h2 := colV_le l
    exact absurd h1 (h _ (by omega))
theorem colV_down {l : List UInt8} {c : UInt8} (hm : c ∈ l) (h : isUp c = false) : colV l = 0 :=
  colV_no fun m hmm e => by
    have := colL_up hmm c (e ▸ hm)
    rw [h] at this
    cases this
theorem colW_colV (l : List UInt8) : colW 0 l = colV l := by
  match l with
  | [] => decide
  | [c] =>
    unfold colW
    cases hu : isUp c with
    | false => rw [if_neg (by simp)]; exact (colV_down List.mem_cons_self hu).symm
    | true =>
      have hb := up_nat hu
      rw [if_pos ⟨rfl, by omega⟩]
      unfold colW
      refine (colV_of (n := 0 * 26 + (c.toNat - 64)) (by omega) ?_).symm
      unfold colL
      rw [if_neg (by omega), if_pos (by omega), show 64 + (((0 * 26 + (c.toNat - 64) : Nat)) : Int).toNat = c.toNat from by omega, UInt8.ofNat_toNat]
  | c :: d :: r =>
    unfold colW
    cases hu : isUp c with
    | false => rw [if_neg (by simp)]; exact (colV_down List.mem_cons_self hu).symm
    | true =>
      have hb := up_nat hu
      rw [if_pos ⟨rfl, by omega⟩]
      unfold colW
      cases hd : isUp d with
      | false => rw [if_neg (by simp)]; exact (colV_down (List.mem_cons_of_mem _ List.mem_cons_self) hd).symm
      | true =>
        have hb2 := up_nat hd
        rw [if_pos ⟨rfl, by omega⟩]
        match r with
        | [] =>
          unfold colW
          refine (colV_of (n := (0 * 26 + (c.toNat - 64)) * 26 + (d.toNat - 64)) (by omega) ?_).symm
          unfold colL
          rw [if_neg (by omega), if_neg (by omega), show 65 + (((((0 * 26 + (c.toNat - 64)) * 26 + (d.toNat - 64) : Nat)) : Int).toNat - 27) / 26 = c.toNat from by omega,
            show 65 + (((((0 * 26 + (c.toNat - 64)) * 26 + (d.toNat - 64) : Nat)) : Int).toNat - 27) % 26 = d.toNat from by omega, UInt8.ofNat_toNat, UInt8.ofNat_toNat]
        | e :: r =>
          rw [colW_big (by omega)]
          refine (colV_no fun m _ he => ?_).symm
          have h1 := colL_len m
          rw [he] at h1
          simp only [List.length_cons] at h1
          omega

set_option maxRecDepth 20000 in
set_option maxHeartbeats 2000000 in
theorem column_any (l : List UInt8) (hl : l.length ≤ 1000) (w : World) :
    Calls Tryd.prog 10 #[.string ⟨l.toArray⟩] w fun e w' => e = .returned (.int .i64 (colV l : Nat)) ∧ w' = w := by
  rw [← colW_colV]
  obtain ⟨s, hs⟩ : ∃ s : ByteArray, s = ⟨l.toArray⟩ := ⟨_, rfl⟩
  have hsz : s.size = l.length := by rw [hs]; rfl
  have hget : ∀ i (hi : i < s.size), l[i]? = some (s[i]'hi) := fun i hi => by subst hs; simp [← Lib.getElem_mk l i hi]
  rw [← hs]
  obtain ⟨m, hm⟩ : ∃ m, m = colW 0 l := ⟨_, rfl⟩
  rw [← hm]
  obtain ⟨len, hlen⟩ : ∃ len, len = l.length := ⟨_, rfl⟩
  rw [← hlen] at hsz hl
  have HG := Lib.hid hget
  have HLEN := Lib.hid hlen
  have HM := Lib.hid hm
  clear hget hlen hm hs
  go_enter Tryd.func10, Tryd.ntmps10
  go_wp2
  go_loop [3, 8] (fun n i => ∃ k a : Nat, k ≤ len ∧ i = .int .i64 (k : Int) ∧ n = .int .i64 (a : Int) ∧ a ≤ 702 ∧ Hid (colW a (l.drop k) = m)) (fun n i => len - (intOf i).toNat)
  case atStart => exact ⟨0, 0, Nat.zero_le _, rfl, rfl, by omega, Lib.hid (by rw [HM.out, List.drop_zero])⟩
  case round =>
    obtain ⟨k, a, hk, rfl, rfl, ha, HW⟩ := hrel
    by_cases hkl : k < len
    · obtain ⟨x, hx⟩ : ∃ x, s[k]'(by omega) = x := ⟨_, rfl⟩
      have hxl : l[k]? = some x := by rw [← hx]; exact HG.out k _
      have hdr := drop_at hxl
      have hpb := place_bounds x
      have hi := fun W => index_az x W
      cases hu : isUp x with
      | false =>
        have hp : placeB x = -1 := by unfold placeB; rw [hu]; rfl
        rw [hp] at hi
        have hm0 : m = 0 := by
          rw [← HW.out, hdr]
          unfold colW
          rw [if_neg (by rw [hu]; simp)]
        have HI := Lib.hid hi
        clear hxl hdr hpb hi hu hp HW
        subst hm0
        go_wp2_with fail
        go_at_call 22
        with_reducible refine (HI.out _).mono ?_
        rintro e w1 ⟨rfl, rfl⟩
        go_wp2_with fail
        go_ret
        exact ⟨rfl, rfl⟩
      | true =>
        have hb := up_nat hu
        have hp : placeB x = (x.toNat : Int) - 65 := by unfold placeB; rw [hu]; rfl
        have hstep : colW a (l.drop k) = if a * 26 + (x.toNat - 64) ≤ 702 then colW (a * 26 + (x.toNat - 64)) (l.drop (k + 1)) else 0 := by
          rw [hdr]
          conv => lhs; unfold colW
          rw [hu]
          simp
        rw [HW.out] at hstep
        obtain ⟨p, hpp⟩ : ∃ p : Int, p = placeB x := ⟨_, rfl⟩
        rw [← hpp] at hi hpb hp
        obtain ⟨b, hbb⟩ : ∃ b : Nat, b = a * 26 + (x.toNat - 64) := ⟨_, rfl⟩
        rw [← hbb] at hstep
        have hpe : (a : Int) * 26 + p + 1 = (b : Int) := by omega
        have hp0 : 0 ≤ p := by omega
        have hbM : b ≤ 20000 := by omega
        have HI := Lib.hid hi
        clear hxl hdr hi hu hp HW hpp hbb hb
        by_cases hle : b ≤ 702
        · rw [if_pos hle] at hstep
          have HS := Lib.hid hstep
          have hle2 : (b : Int) ≤ 702 := by omega
          clear hstep
          go_wp2_with fail
          go_at_call 22
          with_reducible refine (HI.out _).mono ?_
          rintro e w1 ⟨rfl, rfl⟩
          go_wp2_with fail
          go_round
          case rel => exact ⟨k + 1, b, by omega, by go_num, by first | rfl | rw [hpe], hle, Lib.hid HS.out.symm⟩
          case measure => simp only [intOf]; omega
        · rw [if_neg hle] at hstep
          subst hstep
          have hgt : (702 : Int) < (b : Int) := by omega
          clear hle
          go_wp2_with fail
          go_at_call 22
          with_reducible refine (HI.out _).mono ?_
          rintro e w1 ⟨rfl, rfl⟩
          go_wp2_with fail
          go_ret
          exact ⟨rfl, rfl⟩
    · obtain rfl : k = len := by omega
      have hma : m = a := by
        rw [← HW.out, HLEN.out, List.drop_length]
        rfl
      subst hma
      clear HW HG HLEN
      go_wp2
      go_ret
      exact ⟨rfl, rfl⟩
end Go.Proofs.YtggdpnkfambmfaaDoor
