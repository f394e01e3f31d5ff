/-
The program's numberSize (two labels and goto), by a contract.
-/
import Derived.Test.YtlagjnlajkmmeaaDoorTpB
namespace Go.Proofs.YtlagjnlajkmmeaaDoor
open Go.RowKit Go.Proofs.YtlagjnlajkmmeaaDoor.Tok

/-- How many bytes the number at the head has; 0: its point has no digit behind it. -/
def numN (l : List UInt8) : Nat :=
  if [46].isPrefixOf (l.drop (runB isDg l)) then (if runB isDg (l.drop (runB isDg l + 1)) = 0 then 0 else runB isDg l + 1 + runB isDg (l.drop (runB isDg l + 1))) else runB isDg l
theorem numN_plain {l : List UInt8} {k : Nat} (h : runB isDg l = k) (hn : ∀ d, l[k]? = some d → d ≠ 46) : numN l = k := by
  unfold numN
  rw [h, if_neg]
  intro hp
  have h1 := List.isPrefixOf_iff_prefix.1 hp
  obtain ⟨t, ht⟩ := h1
  have : l[k]? = some 46 := by
    have h2 := congrArg (·[0]?) ht
    simp only [List.getElem?_drop, List.cons_append, List.getElem?_cons_zero, Nat.add_zero] at h2
    exact h2.symm
  exact hn 46 this rfl
theorem numN_point {l : List UInt8} {k m : Nat} (h : runB isDg l = k) (hn : l[k]? = some 46) (hm : runB isDg (l.drop (k + 1)) = m) : numN l = if m = 0 then 0 else k + 1 + m := by
  unfold numN
  rw [h, hm, if_pos]
  rw [dropc hn]
  simp [List.isPrefixOf]
theorem run_drop {p : UInt8 → Bool} {l : List UInt8} {a b : Nat} (h1 : a ≤ b) (hk : b ≤ l.length) (hj : ∀ j d, a ≤ j → j < b → l[j]? = some d → p d = true) (he : ∀ d, l[b]? = some d → p d = false) : runB p (l.drop a) = b - a :=
  runB_at (by rw [List.length_drop]; omega) (fun j d hd hx => hj (a + j) d (by omega) (by omega) (by rw [List.getElem?_drop] at hx; exact hx)) (fun d hd => he d (by rw [List.getElem?_drop] at hd; rw [show a + (b - a) = b from by omega] at hd; exact hd))

set_option maxRecDepth 20000 in
set_option maxHeartbeats 8000000 in
theorem number_size (l : List UInt8) (c0 : UInt8) (h0 : l[0]? = some c0) (hc0 : isDg c0 = true) (hl : l.length ≤ 1000000) (w : World) :
    Calls Tryd.prog 44 #[.string ⟨l.toArray⟩] w fun e w' => e = .returned (.int .i64 (numN l : Nat)) ∧ w' = w := by
  obtain ⟨n, hn⟩ : ∃ n, n = l.length := ⟨_, rfl⟩
  have hsz : (⟨l.toArray⟩ : ByteArray).size = n := by rw [hn]; rfl
  have hpos : 0 < n := by have := (List.getElem?_eq_some_iff.1 h0).1; omega
  rw [← hn] at hl
  have HN := Lib.hid hn
  obtain ⟨K, hK⟩ : ∃ K, K = numN l := ⟨_, rfl⟩
  rw [← hK]
  have HK := Lib.hid hK
  have HG := Lib.hid (fun (k : Nat) (c : UInt8) (hc : l[k]? = some c) => (show ∀ h, (⟨l.toArray⟩ : ByteArray)[k]'h = c from fun h => (List.getElem?_eq_some_iff.1 hc).2))
  have HX := Lib.hid (fun (k : Nat) (hk : k < n) => (show ∃ c, l[k]? = some c from ⟨_, List.getElem?_eq_getElem (by rw [← hn]; exact hk)⟩))
  have HE := Lib.hid (fun (k : Nat) (d : UInt8) (hk : n ≤ k) (hd : l[k]? = some d) => (show False from by have := (List.getElem?_eq_some_iff.1 hd).1; omega))
  have HS := Lib.hid (show ∀ j d, j ≤ 0 → l[j]? = some d → isDg d = true from fun j d hj hx => by
    obtain rfl : j = 0 := by omega
    rw [h0] at hx; injection hx with hx; subst hx; exact hc0)
  have HDIG := Lib.hid (fun c w => digit_any c w)
  clear hK hn h0 hc0
  go_enter Tryd.func44, Tryd.ntmps44
  go_wp2_with fail
  refine wp_scope_jumpsN (fun lb a' w' => w' = w ∧ ∃ (k : Nat) (u4 u5 u6 u7 u8 u9 u10 u11 u12 u13 u14 u15 u16 u17 u18 u19 u20 u21 u22 u23 u24 u25 u26 u27 u28 u29 u30 u31 u32 u33 u34 u35 u36 u37 u38 u39 u40 u41 u42 u43 u44 u45 : Value), a' = { tmps := #[.string ⟨l.toArray⟩, undef, .int .i64 0, .int .i64 (k : Int), u4, u5, u6, u7, u8, u9, u10, u11, u12, u13, u14, u15, u16, u17, u18, u19, u20, u21, u22, u23, u24, u25, u26, u27, u28, u29, u30, u31, u32, u33, u34, u35, u36, u37, u38, u39, u40, u41, u42, u43, u44, u45], defers := [] } ∧ k < n ∧ (lb = 0 ∧ Hid (∀ j d, j ≤ k → l[j]? = some d → isDg d = true) ∨ lb = 1 ∧ ∃ D, D + 1 ≤ k ∧ Hid (runB isDg l = D) ∧ Hid (l[D]? = some 46) ∧ Hid (∀ j d, D + 1 ≤ j → j ≤ k → l[j]? = some d → isDg d = true))) (fun a' _ => n - (intOf (a'.tmps.getD 3 undef)).toNat) ?_ ?_
  · have HU := HS
    go_wp2_with fail
    go_step3
    by_cases he : n ≤ 1
    · have HR := Lib.hid (show numN l = 1 from numN_plain (by have := (run_drop (p := isDg) (l := l) (a := 0) (b := 1) (by omega) (by rw [← HN.out]; omega) (fun j d _ h2 hx => HU.out j d (by omega) hx) (fun d hd => (HE.out _ d he hd).elim)); rw [List.drop_zero] at this; exact this) (fun d hd => (HE.out _ d he hd).elim))
      have hen : ((1 : Int) == (n : Int)) = true := by simp; omega
      go_wp2_with fail
      simp only [Exit.jumps]
      go_ret
      exact ⟨by rw [HK.out, HR.out]; rfl, rfl⟩
    · have hlt : 1 < n := by omega
      clear he
      obtain ⟨c, hc⟩ := HX.out (1) hlt
      have hget := HG.out _ _ hc
      have HC := Lib.hid hc
      clear hc
      have hen : ((1 : Int) == (n : Int)) = false := by simp; omega
      cases hD : isDg c with
      | true =>
        have HU2 := Lib.hid (show ∀ j d, j ≤ 1 → l[j]? = some d → isDg d = true from fun j d hj hx => by
          by_cases e : j = 1
          · subst e; rw [HC.out] at hx; injection hx with hx; subst hx; exact hD
          · exact HU.out j d (by omega) hx)
        go_wp2_with (go_at_call 43; (with_reducible refine (HDIG.out _ _).mono ?_); rintro e w1 ⟨rfl, rfl⟩; simp only [hD])
        go_step3
        exact ⟨rfl, 1, _, _, _, _, _, _, _, _, _, _, _, _, _, _, _, _, _, _, _, _, _, _, _, _, _, _, _, _, _, _, _, _, _, _, _, _, _, _, _, _, _, _, by go_num, hlt, .inl ⟨rfl, HU2⟩⟩
      | false =>
        have HD := Lib.hid (show runB isDg l = 1 from by have := (run_drop (p := isDg) (l := l) (a := 0) (b := 1) (by omega) (by rw [← HN.out]; omega) (fun j d _ h2 hx => HU.out j d (by omega) hx) (fun d hd => by rw [HC.out] at hd; injection hd with hd; subst hd; exact hD)); rw [List.drop_zero] at this; exact this)
        by_cases hp : c.toNat = 46
        · have hpt : ((c.toNat : Int) == 46) = true := by simp; omega
          have H46 := Lib.hid (show l[1]? = some 46 from by rw [HC.out]; congr 1; rw [← UInt8.ofNat_toNat (x := c), hp]; rfl)
          clear hp
          by_cases he2 : n ≤ 2
          · have HR := Lib.hid (show numN l = 0 from by rw [numN_point HD.out H46.out (m := 0) (by rw [List.drop_eq_nil_of_le (by rw [← HN.out]; omega)]; rfl)]; rfl)
            have hen2 : ((2 : Int) == (n : Int)) = true := by simp; omega
            go_wp2_with (go_at_call 43; (with_reducible refine (HDIG.out _ _).mono ?_); rintro e w1 ⟨rfl, rfl⟩; simp only [hD])
            simp only [Exit.jumps]
            go_ret
            exact ⟨by rw [HK.out, HR.out]; rfl, rfl⟩
          · have hlt2 : 2 < n := by omega
            clear he2
            obtain ⟨g, hg⟩ := HX.out (2) hlt2
            have hget2 := HG.out _ _ hg
            have HGC := Lib.hid hg
            clear hg
            have hen2 : ((2 : Int) == (n : Int)) = false := by simp; omega
            cases hGD : isDg g with
            | false =>
              have HR := Lib.hid (show numN l = 0 from by rw [numN_point HD.out H46.out (m := 0) (run_drop (a := 1 + 1) (b := 2) (by omega) (by rw [← HN.out]; omega) (fun j d h1 h2 hx => by omega) (fun d hd => by rw [HGC.out] at hd; injection hd with hd; subst hd; exact hGD) |>.trans (by omega))]; rfl)
              go_wp2_with (go_at_call 43; (with_reducible refine (HDIG.out _ _).mono ?_); rintro e w1 ⟨rfl, rfl⟩; simp only [hD, hGD])
              simp only [Exit.jumps]
              go_ret
              exact ⟨by rw [HK.out, HR.out]; rfl, rfl⟩
            | true =>
              have HF := Lib.hid (show ∀ j d, 1 + 1 ≤ j → j ≤ 2 → l[j]? = some d → isDg d = true from fun j d h1 hj hx => by
                obtain rfl : j = 2 := by omega
                rw [HGC.out] at hx; injection hx with hx; subst hx; exact hGD)
              go_wp2_with (go_at_call 43; (with_reducible refine (HDIG.out _ _).mono ?_); rintro e w1 ⟨rfl, rfl⟩; simp only [hD, hGD])
              go_step3
              by_cases hf : n ≤ 3
              · have HR := Lib.hid (show numN l = 3 from (by rw [numN_point HD.out H46.out (run_drop (a := 1 + 1) (b := 3) (by omega) (by rw [← HN.out]; omega) (fun j d h1 h2 hx => HF.out j d h1 (by omega) hx) (fun d hd => (HE.out _ d hf hd).elim)), if_neg (by omega)]; all_goals omega))
                go_wp2_with fail
                simp only [Exit.jumps]
                go_ret
                exact ⟨by rw [HK.out, HR.out]; rfl, rfl⟩
              · have hft : 3 < n := by omega
                clear hf
                obtain ⟨f, hfc⟩ := HX.out (3) hft
                have hgf := HG.out _ _ hfc
                have HFC := Lib.hid hfc
                clear hfc
                cases hF : isDg f with
                | true =>
                  have HF2 := Lib.hid (show ∀ j d, 1 + 1 ≤ j → j ≤ 3 → l[j]? = some d → isDg d = true from fun j d h1 hj hx => by
                    by_cases e : j = 3
                    · subst e; rw [HFC.out] at hx; injection hx with hx; subst hx; exact hF
                    · exact HF.out j d h1 (by omega) hx)
                  go_wp2_with (go_at_call 43; (with_reducible refine (HDIG.out _ _).mono ?_); rintro e w1 ⟨rfl, rfl⟩; simp only [hF])
                  go_step3
                  exact ⟨rfl, 3, _, _, _, _, _, _, _, _, _, _, _, _, _, _, _, _, _, _, _, _, _, _, _, _, _, _, _, _, _, _, _, _, _, _, _, _, _, _, _, _, _, _, by go_num, hft, .inr ⟨rfl, 1, by omega, HD, H46, HF2⟩⟩
                | false =>
                  have HR := Lib.hid (show numN l = 3 from (by rw [numN_point HD.out H46.out (run_drop (a := 1 + 1) (b := 3) (by omega) (by rw [← HN.out]; omega) (fun j d h1 h2 hx => HF.out j d h1 (by omega) hx) (fun d hd => by rw [HFC.out] at hd; injection hd with hd; subst hd; exact hF)), if_neg (by omega)]; all_goals omega))
                  go_wp2_with (go_at_call 43; (with_reducible refine (HDIG.out _ _).mono ?_); rintro e w1 ⟨rfl, rfl⟩; simp only [hF])
                  simp only [Exit.jumps]
                  go_ret
                  exact ⟨by rw [HK.out, HR.out]; rfl, rfl⟩
        · have hpn : ((c.toNat : Int) == 46) = false := by simp; omega
          have HR := Lib.hid (show numN l = 1 from numN_plain HD.out (fun d hd e => by rw [HC.out] at hd; injection hd with hd; subst hd; exact hp (by rw [e]; rfl)))
          clear hp
          go_wp2_with (go_at_call 43; (with_reducible refine (HDIG.out _ _).mono ?_); rintro e w1 ⟨rfl, rfl⟩; simp only [hD])
          simp only [Exit.jumps]
          go_ret
          exact ⟨by rw [HK.out, HR.out]; rfl, rfl⟩
  · rintro lb a' w' ⟨rfl, k, u4, u5, u6, u7, u8, u9, u10, u11, u12, u13, u14, u15, u16, u17, u18, u19, u20, u21, u22, u23, u24, u25, u26, u27, u28, u29, u30, u31, u32, u33, u34, u35, u36, u37, u38, u39, u40, u41, u42, u43, u44, u45, rfl, hk, ⟨rfl, HU⟩ | ⟨rfl, D, hDk, HD, H46, HF⟩⟩
    · refine ⟨_, rfl, ?_⟩
      by_cases he : n ≤ k + 1
      · have HR := Lib.hid (show numN l = k + 1 from numN_plain (by have := (run_drop (p := isDg) (l := l) (a := 0) (b := k + 1) (by omega) (by rw [← HN.out]; omega) (fun j d _ h2 hx => HU.out j d (by omega) hx) (fun d hd => (HE.out _ d he hd).elim)); rw [List.drop_zero] at this; exact this) (fun d hd => (HE.out _ d he hd).elim))
        have hen : (((k : Int) + 1 : Int) == (n : Int)) = true := by simp; omega
        go_wp2_with fail
        simp only [Exit.jumps]
        go_ret
        exact ⟨by rw [HK.out, HR.out]; rfl, rfl⟩
      · have hlt : k + 1 < n := by omega
        clear he
        obtain ⟨c, hc⟩ := HX.out (k + 1) hlt
        have hget := HG.out _ _ hc
        have HC := Lib.hid hc
        clear hc
        have hen : (((k : Int) + 1 : Int) == (n : Int)) = false := by simp; omega
        cases hD : isDg c with
        | true =>
          have HU2 := Lib.hid (show ∀ j d, j ≤ k + 1 → l[j]? = some d → isDg d = true from fun j d hj hx => by
            by_cases e : j = k + 1
            · subst e; rw [HC.out] at hx; injection hx with hx; subst hx; exact hD
            · exact HU.out j d (by omega) hx)
          go_wp2_with (go_at_call 43; (with_reducible refine (HDIG.out _ _).mono ?_); rintro e w1 ⟨rfl, rfl⟩; simp only [hD])
          go_step3
          exact ⟨⟨rfl, k + 1, _, _, _, _, _, _, _, _, _, _, _, _, _, _, _, _, _, _, _, _, _, _, _, _, _, _, _, _, _, _, _, _, _, _, _, _, _, _, _, _, _, _, by go_num, hlt, .inl ⟨rfl, HU2⟩⟩, by simp [intOf]; omega⟩
        | false =>
          have HD := Lib.hid (show runB isDg l = k + 1 from by have := (run_drop (p := isDg) (l := l) (a := 0) (b := k + 1) (by omega) (by rw [← HN.out]; omega) (fun j d _ h2 hx => HU.out j d (by omega) hx) (fun d hd => by rw [HC.out] at hd; injection hd with hd; subst hd; exact hD)); rw [List.drop_zero] at this; exact this)
          by_cases hp : c.toNat = 46
          · have hpt : ((c.toNat : Int) == 46) = true := by simp; omega
            have H46 := Lib.hid (show l[k + 1]? = some 46 from by rw [HC.out]; congr 1; rw [← UInt8.ofNat_toNat (x := c), hp]; rfl)
            clear hp
            by_cases he2 : n ≤ k + 2
            · have HR := Lib.hid (show numN l = 0 from by rw [numN_point HD.out H46.out (m := 0) (by rw [List.drop_eq_nil_of_le (by rw [← HN.out]; omega)]; rfl)]; rfl)
              have hen2 : (((k : Int) + 1 + 1 : Int) == (n : Int)) = true := by simp; omega
              go_wp2_with (go_at_call 43; (with_reducible refine (HDIG.out _ _).mono ?_); rintro e w1 ⟨rfl, rfl⟩; simp only [hD])
              simp only [Exit.jumps]
              go_ret
              exact ⟨by rw [HK.out, HR.out]; rfl, rfl⟩
            · have hlt2 : k + 2 < n := by omega
              clear he2
              obtain ⟨g, hg⟩ := HX.out (k + 2) hlt2
              have hget2 := HG.out _ _ hg
              have HGC := Lib.hid hg
              clear hg
              have hen2 : (((k : Int) + 1 + 1 : Int) == (n : Int)) = false := by simp; omega
              cases hGD : isDg g with
              | false =>
                have HR := Lib.hid (show numN l = 0 from by rw [numN_point HD.out H46.out (m := 0) (run_drop (a := k + 1 + 1) (b := k + 2) (by omega) (by rw [← HN.out]; omega) (fun j d h1 h2 hx => by omega) (fun d hd => by rw [HGC.out] at hd; injection hd with hd; subst hd; exact hGD) |>.trans (by omega))]; rfl)
                go_wp2_with (go_at_call 43; (with_reducible refine (HDIG.out _ _).mono ?_); rintro e w1 ⟨rfl, rfl⟩; simp only [hD, hGD])
                simp only [Exit.jumps]
                go_ret
                exact ⟨by rw [HK.out, HR.out]; rfl, rfl⟩
              | true =>
                have HF := Lib.hid (show ∀ j d, k + 1 + 1 ≤ j → j ≤ k + 2 → l[j]? = some d → isDg d = true from fun j d h1 hj hx => by
                  obtain rfl : j = k + 2 := by omega
                  rw [HGC.out] at hx; injection hx with hx; subst hx; exact hGD)
                go_wp2_with (go_at_call 43; (with_reducible refine (HDIG.out _ _).mono ?_); rintro e w1 ⟨rfl, rfl⟩; simp only [hD, hGD])
                go_step3
                by_cases hf : n ≤ k + 3
                · have HR := Lib.hid (show numN l = k + 3 from (by rw [numN_point HD.out H46.out (run_drop (a := k + 1 + 1) (b := k + 3) (by omega) (by rw [← HN.out]; omega) (fun j d h1 h2 hx => HF.out j d h1 (by omega) hx) (fun d hd => (HE.out _ d hf hd).elim)), if_neg (by omega)]; all_goals omega))
                  go_wp2_with fail
                  simp only [Exit.jumps]
                  go_ret
                  exact ⟨by rw [HK.out, HR.out]; rfl, rfl⟩
                · have hft : k + 3 < n := by omega
                  clear hf
                  obtain ⟨f, hfc⟩ := HX.out (k + 3) hft
                  have hgf := HG.out _ _ hfc
                  have HFC := Lib.hid hfc
                  clear hfc
                  cases hF : isDg f with
                  | true =>
                    have HF2 := Lib.hid (show ∀ j d, k + 1 + 1 ≤ j → j ≤ k + 3 → l[j]? = some d → isDg d = true from fun j d h1 hj hx => by
                      by_cases e : j = k + 3
                      · subst e; rw [HFC.out] at hx; injection hx with hx; subst hx; exact hF
                      · exact HF.out j d h1 (by omega) hx)
                    go_wp2_with (go_at_call 43; (with_reducible refine (HDIG.out _ _).mono ?_); rintro e w1 ⟨rfl, rfl⟩; simp only [hF])
                    go_step3
                    exact ⟨⟨rfl, k + 3, _, _, _, _, _, _, _, _, _, _, _, _, _, _, _, _, _, _, _, _, _, _, _, _, _, _, _, _, _, _, _, _, _, _, _, _, _, _, _, _, _, _, by go_num, hft, .inr ⟨rfl, k + 1, by omega, HD, H46, HF2⟩⟩, by simp [intOf]; omega⟩
                  | false =>
                    have HR := Lib.hid (show numN l = k + 3 from (by rw [numN_point HD.out H46.out (run_drop (a := k + 1 + 1) (b := k + 3) (by omega) (by rw [← HN.out]; omega) (fun j d h1 h2 hx => HF.out j d h1 (by omega) hx) (fun d hd => by rw [HFC.out] at hd; injection hd with hd; subst hd; exact hF)), if_neg (by omega)]; all_goals omega))
                    go_wp2_with (go_at_call 43; (with_reducible refine (HDIG.out _ _).mono ?_); rintro e w1 ⟨rfl, rfl⟩; simp only [hF])
                    simp only [Exit.jumps]
                    go_ret
                    exact ⟨by rw [HK.out, HR.out]; rfl, rfl⟩
          · have hpn : ((c.toNat : Int) == 46) = false := by simp; omega
            have HR := Lib.hid (show numN l = k + 1 from numN_plain HD.out (fun d hd e => by rw [HC.out] at hd; injection hd with hd; subst hd; exact hp (by rw [e]; rfl)))
            clear hp
            go_wp2_with (go_at_call 43; (with_reducible refine (HDIG.out _ _).mono ?_); rintro e w1 ⟨rfl, rfl⟩; simp only [hD])
            simp only [Exit.jumps]
            go_ret
            exact ⟨by rw [HK.out, HR.out]; rfl, rfl⟩
    · refine ⟨_, rfl, ?_⟩
      by_cases hf : n ≤ k + 1
      · have HR := Lib.hid (show numN l = k + 1 from (by rw [numN_point HD.out H46.out (run_drop (a := D + 1) (b := k + 1) (by omega) (by rw [← HN.out]; omega) (fun j d h1 h2 hx => HF.out j d h1 (by omega) hx) (fun d hd => (HE.out _ d hf hd).elim)), if_neg (by omega)]; all_goals omega))
        go_wp2_with fail
        simp only [Exit.jumps]
        go_ret
        exact ⟨by rw [HK.out, HR.out]; rfl, rfl⟩
      · have hft : k + 1 < n := by omega
        clear hf
        obtain ⟨f, hfc⟩ := HX.out (k + 1) hft
        have hgf := HG.out _ _ hfc
        have HFC := Lib.hid hfc
        clear hfc
        cases hF : isDg f with
        | true =>
          have HF2 := Lib.hid (show ∀ j d, D + 1 ≤ j → j ≤ k + 1 → l[j]? = some d → isDg d = true from fun j d h1 hj hx => by
            by_cases e : j = k + 1
            · subst e; rw [HFC.out] at hx; injection hx with hx; subst hx; exact hF
            · exact HF.out j d h1 (by omega) hx)
          go_wp2_with (go_at_call 43; (with_reducible refine (HDIG.out _ _).mono ?_); rintro e w1 ⟨rfl, rfl⟩; simp only [hF])
          go_step3
          exact ⟨⟨rfl, k + 1, _, _, _, _, _, _, _, _, _, _, _, _, _, _, _, _, _, _, _, _, _, _, _, _, _, _, _, _, _, _, _, _, _, _, _, _, _, _, _, _, _, _, by go_num, hft, .inr ⟨rfl, D, by omega, HD, H46, HF2⟩⟩, by simp [intOf]; omega⟩
        | false =>
          have HR := Lib.hid (show numN l = k + 1 from (by rw [numN_point HD.out H46.out (run_drop (a := D + 1) (b := k + 1) (by omega) (by rw [← HN.out]; omega) (fun j d h1 h2 hx => HF.out j d h1 (by omega) hx) (fun d hd => by rw [HFC.out] at hd; injection hd with hd; subst hd; exact hF)), if_neg (by omega)]; all_goals omega))
          go_wp2_with (go_at_call 43; (with_reducible refine (HDIG.out _ _).mono ?_); rintro e w1 ⟨rfl, rfl⟩; simp only [hF])
          simp only [Exit.jumps]
          go_ret
          exact ⟨by rw [HK.out, HR.out]; rfl, rfl⟩
end Go.Proofs.YtlagjnlajkmmeaaDoor
