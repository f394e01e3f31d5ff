/-
The program's token: digit, letter, the library's HasPrefix, nameSize, by contracts.
-/
import Derived.Test.YtlagjnlajkmmeaaGreatDoorTokR
namespace Go.Proofs.YtlagjnlajkmmeaaGreatDoor
open Go.RowKit Go.Proofs.YtlagjnlajkmmeaaGreatDoor.Tok

set_option maxRecDepth 20000 in
theorem digit_any (c : UInt8) (w : World) : Calls Tryz.prog 88 #[.int .u8 (c.toNat : Int)] w fun e w' => e = .returned (.bool (isDg c)) ∧ w' = w := by
  by_cases h48 : c.toNat < 48
  · have HR := Lib.hid (show isDg c = false from by simp [isDg]; omega)
    go_enter Tryz.func88, Tryz.ntmps88
    go_wp2
    go_ret
    exact ⟨by rw [HR.out]; rfl, rfl⟩
  · have h48' : 48 ≤ c.toNat := by omega
    clear h48
    by_cases h57 : c.toNat ≤ 57
    · have HR := Lib.hid (show isDg c = true from by simp [isDg]; omega)
      go_enter Tryz.func88, Tryz.ntmps88
      go_wp2
      go_ret
      exact ⟨by rw [HR.out, show decide ((c.toNat : Int) ≤ 57) = true from decide_eq_true (by omega)]; rfl, rfl⟩
    · have h57' : 57 < c.toNat := by omega
      clear h57
      have HR := Lib.hid (show isDg c = false from by simp [isDg]; omega)
      go_enter Tryz.func88, Tryz.ntmps88
      go_wp2
      go_ret
      exact ⟨by rw [HR.out, show decide ((c.toNat : Int) ≤ 57) = false from decide_eq_false (by omega)]; rfl, rfl⟩
set_option maxRecDepth 20000 in
theorem letter_any (c : UInt8) (w : World) : Calls Tryz.prog 90 #[.int .u8 (c.toNat : Int)] w fun e w' => e = .returned (.bool (isLt c)) ∧ w' = w := by
  by_cases h65 : c.toNat < 65
  · have HR := Lib.hid (show isLt c = false from by simp [isLt]; omega)
    go_enter Tryz.func90, Tryz.ntmps90
    go_wp2
    go_ret
    exact ⟨by rw [HR.out]; rfl, rfl⟩
  · have h65' : 65 ≤ c.toNat := by omega
    clear h65
    by_cases h90 : c.toNat ≤ 90
    · have HR := Lib.hid (show isLt c = true from by simp [isLt]; omega)
      go_enter Tryz.func90, Tryz.ntmps90
      go_wp2
      go_ret
      exact ⟨by rw [HR.out, show decide ((c.toNat : Int) ≤ 90) = true from decide_eq_true (by omega)]; rfl, rfl⟩
    · have h90' : 90 < c.toNat := by omega
      clear h90
      have HR := Lib.hid (show isLt c = false from by simp [isLt]; omega)
      go_enter Tryz.func90, Tryz.ntmps90
      go_wp2
      go_ret
      exact ⟨by rw [HR.out, show decide ((c.toNat : Int) ≤ 90) = false from decide_eq_false (by omega)]; rfl, rfl⟩

theorem pre_dec (l x : List UInt8) : x.isPrefixOf l = decide (l.take x.length = x) := by
  by_cases h : l.take x.length = x
  · rw [decide_eq_true h]
    exact List.isPrefixOf_iff_prefix.2 (List.prefix_iff_eq_take.2 h.symm)
  · rw [decide_eq_false h]
    cases hq : x.isPrefixOf l with
    | false => rfl
    | true => exact absurd (List.prefix_iff_eq_take.1 (List.isPrefixOf_iff_prefix.1 hq)).symm h
set_option maxRecDepth 20000 in
set_option maxHeartbeats 1000000 in
theorem hasPre_in (l x : List UInt8) (hl : l.length ≤ 1000000) (hx : x.length ≤ 1000000) (w : World) :
    Calls Tryz.prog 104 #[.string ⟨l.toArray⟩, .string ⟨x.toArray⟩] w fun e w' => e = .returned (.bool (x.isPrefixOf l)) ∧ w' = w := by
  obtain ⟨n, hn⟩ : ∃ n, n = l.length := ⟨_, rfl⟩
  obtain ⟨m, hm⟩ : ∃ m, m = x.length := ⟨_, rfl⟩
  have hsz : (⟨l.toArray⟩ : ByteArray).size = n := by rw [hn]; rfl
  have hsx : (⟨x.toArray⟩ : ByteArray).size = m := by rw [hm]; rfl
  have hext : (⟨l.toArray⟩ : ByteArray).extract 0 m = ⟨(l.take m).toArray⟩ := by rw [ext_T]; simp
  have hpre := pre_dec l x
  have hlen : (l.take m).length = min m n := by rw [List.length_take, hn]
  rw [← hn] at hl
  rw [← hm] at hx hpre
  rw [hpre]
  by_cases hmn : m ≤ n
  · by_cases heq : l.take m = x
    · rw [decide_eq_true heq]
      rw [heq] at hext
      have hbl : ((⟨x.toArray⟩ : ByteArray).toList == (⟨x.toArray⟩ : ByteArray).toList) = true := beq_self_eq_true _
      generalize (⟨x.toArray⟩ : ByteArray) = sx at *
      clear hn hm hpre hlen heq
      go_enter Tryz.func104, Tryz.ntmps104
      go_wp2
      go_ret
      exact ⟨rfl, rfl⟩
    · rw [decide_eq_false heq]
      have hbl : ((⟨(l.take m).toArray⟩ : ByteArray).toList == x) = false := by rw [Lib.toList_data]; simpa using heq
      generalize (⟨(l.take m).toArray⟩ : ByteArray) = su at *
      clear hn hm hpre hlen heq
      go_enter Tryz.func104, Tryz.ntmps104
      go_wp2
      go_ret
      exact ⟨by first | rfl | (simp only [hbl]; rfl), rfl⟩
  · have hne : ¬ l.take m = x := fun e => by
      rw [e, ← hm] at hlen
      omega
    rw [decide_eq_false hne]
    have h1 : n < m := by omega
    clear hn hm hpre hlen hne hmn hext
    go_enter Tryz.func104, Tryz.ntmps104
    go_wp2
    go_ret
    exact ⟨rfl, rfl⟩
set_option maxRecDepth 20000 in
theorem hasPre_any (l x : List UInt8) (hl : l.length ≤ 1000000) (hx : x.length ≤ 1000000) (w : World) :
    Calls Tryz.prog 93 #[.string ⟨l.toArray⟩, .string ⟨x.toArray⟩] w fun e w' => e = .returned (.bool (x.isPrefixOf l)) ∧ w' = w := by
  have HC := Lib.hid (hasPre_in l x hl hx w)
  clear hl hx
  go_enter Tryz.func93, Tryz.ntmps93
  go_wp2_with (go_at_call 104; (with_reducible refine (HC.out).mono ?_); rintro e w1 ⟨rfl, rfl⟩)
  go_ret
  exact ⟨rfl, rfl⟩

theorem runB_cons {p : UInt8 → Bool} {c : UInt8} {r : List UInt8} (h : p c = true) : runB p (c :: r) = 1 + runB p r := by
  unfold runB
  rw [List.takeWhile_cons, if_pos h, List.length_cons]
  omega
/-- Of c :: r: how many behind the first, from place k on: the loops' count. -/
theorem run_tail {p : UInt8 → Bool} {l : List UInt8} {k : Nat} (h1 : 1 ≤ k) (hk : k ≤ l.length) (hj : ∀ j d, 1 ≤ j → j < k → l[j]? = some d → p d = true) (he : ∀ d, l[k]? = some d → p d = false) : 1 + runB p l.tail = k := by
  have := runB_at (p := p) (l := l.tail) (k := k - 1) (by rw [List.length_tail]; omega) (fun j d hd hx => hj (j + 1) d (by omega) (by omega) (by rw [List.getElem?_tail] at hx; exact hx)) (fun d hd => he d (by rw [List.getElem?_tail] at hd; rw [show k - 1 + 1 = k from by omega] at hd; exact hd))
  omega

set_option maxRecDepth 20000 in
set_option maxHeartbeats 2000000 in
theorem name_size (l : List UInt8) (h0 : 1 ≤ l.length) (hl : l.length ≤ 1000000) (w : World) :
    Calls Tryz.prog 91 #[.string ⟨l.toArray⟩] w fun e w' => e = .returned (.int .i64 ((1 + runB isLd l.tail : Nat) : Int)) ∧ w' = w := by
  obtain ⟨n, hn⟩ : ∃ n, n = l.length := ⟨_, rfl⟩
  have hsz : (⟨l.toArray⟩ : ByteArray).size = n := by rw [hn]; rfl
  rw [← hn] at h0 hl
  have HN := Lib.hid hn
  obtain ⟨K, hK⟩ : ∃ K, K = 1 + runB isLd l.tail := ⟨_, rfl⟩
  rw [← hK]
  have HK := Lib.hid hK
  clear hK
  have HLET := Lib.hid (fun c w => letter_any c w)
  have HDIG := Lib.hid (fun c w => digit_any c w)
  clear hn
  go_enter Tryz.func91, Tryz.ntmps91
  go_wp2_with fail
  go_loop [3] (fun i => ∃ k : Nat, 1 ≤ k ∧ k ≤ n ∧ i = .int .i64 (k : Int) ∧ Hid (∀ j c, 1 ≤ j → j < k → l[j]? = some c → isLd c = true)) (fun i => n - (intOf i).toNat)
  case atStart => exact ⟨1, by omega, by omega, rfl, Lib.hid (fun j c h h2 => by omega)⟩
  case round =>
    obtain ⟨k, hk1, hk, rfl, HU⟩ := hrel
    by_cases hge : n ≤ k
    · have HR := Lib.hid (run_tail (p := isLd) (l := l) hk1 (by rw [← HN.out]; exact hk) HU.out (fun c hc => by
        have := (List.getElem?_eq_some_iff.1 hc).1
        rw [← HN.out] at this
        omega))
      go_wp2_with fail
      go_ret
      exact ⟨by rw [HK.out, HR.out]; rfl, rfl⟩
    · have hlt : k < n := by omega
      clear hge
      obtain ⟨c, hc⟩ : ∃ c, l[k]? = some c := ⟨_, List.getElem?_eq_getElem (by rw [← HN.out]; exact hlt)⟩
      have hget : ∀ h, (⟨l.toArray⟩ : ByteArray)[k]'h = c := fun h => (List.getElem?_eq_some_iff.1 hc).2
      have HC := Lib.hid hc
      have hlet := HLET.out c w
      have hdig := HDIG.out c w
      clear hc
      cases hL : isLt c with
      | true =>
        rw [hL] at hlet
        have HLE := Lib.hid hlet
        have HST := Lib.hid (show ∀ j d, 1 ≤ j → j < k + 1 → l[j]? = some d → isLd d = true from fun j d h1 hj hx => by
          by_cases e : j = k
          · subst e; rw [HC.out] at hx; injection hx with hx; subst hx; simp [isLd, hL]
          · exact HU.out j d h1 (by omega) hx)
        clear hlet hdig hL
        go_wp2_with (go_at_call 90; (with_reducible refine (HLE.out).mono ?_); rintro e w1 ⟨rfl, rfl⟩)
        go_round
        case rel => exact ⟨k + 1, by omega, by omega, by go_num, HST⟩
        case measure => simp [intOf]; omega
      | false =>
        rw [hL] at hlet
        have HLE := Lib.hid hlet
        cases hD : isDg c with
        | true =>
          rw [hD] at hdig
          have HDI := Lib.hid hdig
          have HST := Lib.hid (show ∀ j d, 1 ≤ j → j < k + 1 → l[j]? = some d → isLd d = true from fun j d h1 hj hx => by
            by_cases e : j = k
            · subst e; rw [HC.out] at hx; injection hx with hx; subst hx; simp [isLd, hD]
            · exact HU.out j d h1 (by omega) hx)
          clear hlet hdig hL hD
          go_wp2_with (first | (go_at_call 90; (with_reducible refine (HLE.out).mono ?_); rintro e w1 ⟨rfl, rfl⟩) | (go_at_call 88; (with_reducible refine (HDI.out).mono ?_); rintro e w1 ⟨rfl, rfl⟩))
          go_round
          case rel => exact ⟨k + 1, by omega, by omega, by go_num, HST⟩
          case measure => simp [intOf]; omega
        | false =>
          rw [hD] at hdig
          have HDI := Lib.hid hdig
          have HR := Lib.hid (run_tail (p := isLd) (l := l) hk1 (by rw [← HN.out]; exact hk) HU.out (fun d hd => by
            rw [HC.out] at hd; injection hd with hd; subst hd; simp [isLd, hL, hD]))
          clear hlet hdig hL hD
          go_wp2_with (first | (go_at_call 90; (with_reducible refine (HLE.out).mono ?_); rintro e w1 ⟨rfl, rfl⟩) | (go_at_call 88; (with_reducible refine (HDI.out).mono ?_); rintro e w1 ⟨rfl, rfl⟩))
          go_ret
          exact ⟨by rw [HK.out, HR.out]; rfl, rfl⟩
end Go.Proofs.YtlagjnlajkmmeaaGreatDoor
