/-
The reference of stage 8: run and begins, by contracts.
-/
import Derived.Test.YtdjidkhkgmbhfaaDoorToM
import Derived.Test.YtdjidkhkgmbhfaaDoorBRead
import Derived.Lib.Strings
namespace Go.Proofs.YtdjidkhkgmbhfaaDoor
open Go.RowKit Go.Proofs.YtdjidkhkgmbhfaaDoor.Tok

theorem runB_at : ∀ {p : UInt8 → Bool} {l : List UInt8} {k : Nat}, k ≤ l.length → (∀ j c, j < k → l[j]? = some c → p c = true) → (∀ c, l[k]? = some c → p c = false) → runB p l = k
  | p, [], k, hk, _, _ => by
    obtain rfl : k = 0 := by simpa using hk
    rfl
  | p, c :: t, 0, _, _, h => by
    have h0 := h c rfl
    simp [runB, h0]
  | p, c :: t, k + 1, hk, hj, h => by
    have h0 := hj 0 c (by omega) rfl
    have e := runB_at (p := p) (l := t) (k := k) (by simpa using hk) (fun j d hd hx => hj (j + 1) d (by omega) (by simpa using hx)) (fun d hd => h d (by simpa using hd))
    unfold runB at e ⊢
    rw [List.takeWhile_cons, if_pos h0, List.length_cons, e]
theorem ba_neT {a b : ByteArray} (h : a ≠ b) : (a.toList == b.toList) = false := by
  cases hq : a.toList == b.toList with
  | false => rfl
  | true =>
    have h4 := eq_of_beq hq
    rw [Lib.toList_data, Lib.toList_data] at h4
    exact absurd (ByteArray.ext (Array.ext' h4)) h
theorem ba_eqT {l m : List UInt8} : ((⟨l.toArray⟩ : ByteArray) = ⟨m.toArray⟩) ↔ l = m := by
  constructor
  · intro h
    have := congrArg (fun b : ByteArray => b.data.toList) h
    simpa using this
  · rintro rfl; rfl
theorem ext_T (l : List UInt8) (i j : Nat) : (⟨l.toArray⟩ : ByteArray).extract i j = ⟨((l.drop i).take (j - i)).toArray⟩ := by
  apply ByteArray.ext
  simp

set_option maxRecDepth 20000 in
set_option maxHeartbeats 2000000 in
theorem run_f (l : List UInt8) (p : Nat) (hp : p ≤ l.length) (hl : l.length ≤ 1000000) (w : World) :
    Calls Tryd.prog 23 #[.string ⟨l.toArray⟩, .int .i64 (p : Int), .bool false] w fun e w' => e = .returned (.int .i64 (runB isDg (l.drop p) : Nat)) ∧ w' = w := by
  obtain ⟨n, hn⟩ : ∃ n, n = l.length := ⟨_, rfl⟩
  have hsz : (⟨l.toArray⟩ : ByteArray).size = n := by rw [hn]; rfl
  rw [← hn] at hp hl
  have HN := Lib.hid hn
  clear hn
  go_enter Tryd.func23, Tryd.ntmps23
  go_wp2
  go_loop [7] (fun i => ∃ k : Nat, p + k ≤ n ∧ i = .int .i64 (k : Int) ∧ Hid (∀ j c, j < k → (l.drop p)[j]? = some c → isDg c = true)) (fun i => n - (intOf i).toNat)
  case atStart => exact ⟨0, by omega, rfl, Lib.hid (fun j c h => by omega)⟩
  case round =>
    obtain ⟨k, hk, rfl, HU⟩ := hrel
    by_cases hge : n ≤ p + k
    · have HR := Lib.hid (runB_at (p := isDg) (l := l.drop p) (k := k) (by rw [List.length_drop, ← HN.out]; omega) HU.out (fun c hc => by
        have := (List.getElem?_eq_some_iff.1 hc).1
        rw [List.length_drop, ← HN.out] at this
        omega))
      go_wp2
      go_ret
      exact ⟨by rw [HR.out]; rfl, rfl⟩
    · have hlt : p + k < n := by omega
      clear hge
      obtain ⟨c, hc⟩ : ∃ c, l[p + k]? = some c := ⟨_, List.getElem?_eq_getElem (by rw [← HN.out]; exact hlt)⟩
      have hget : ∀ h, (⟨l.toArray⟩ : ByteArray)[p + k]'h = c := fun h => (List.getElem?_eq_some_iff.1 hc).2
      have hd : (l.drop p)[k]? = some c := by rw [List.getElem?_drop]; exact hc
      have HD := Lib.hid hd
      have hstep : isDg c = true → Hid (∀ j d, j < k + 1 → (l.drop p)[j]? = some d → isDg d = true) := fun hq => Lib.hid (fun j d hj hx => by
        by_cases e : j = k
        · subst e; rw [HD.out] at hx; injection hx with hx; subst hx; exact hq
        · exact HU.out j d (by omega) hx)
      have hend : isDg c = false → Hid (runB isDg (l.drop p) = k) := fun hq => Lib.hid (runB_at (by rw [List.length_drop, ← HN.out]; omega) HU.out (fun d hx => by
        rw [HD.out] at hx; injection hx with hx; subst hx; exact hq))
      have HST := Lib.hid hstep
      have HEN := Lib.hid hend
      clear hc hd hstep hend
      by_cases h48 : c.toNat < 48
      · have HR := HEN.out (by simp [isDg]; omega)
        go_wp2
        go_ret
        exact ⟨by rw [HR.out]; rfl, rfl⟩
      · have h48' : 48 ≤ c.toNat := by omega
        clear h48
        by_cases h57 : c.toNat ≤ 57
        · go_wp2
          go_round
          case rel => exact ⟨k + 1, by omega, by go_num, HST.out (by simp [isDg]; omega)⟩
          case measure => simp [intOf]; omega
        · have h57' : 57 < c.toNat := by omega
          clear h57
          have HR := HEN.out (by simp [isDg]; omega)
          go_wp2
          go_ret
          exact ⟨by rw [HR.out]; rfl, rfl⟩

set_option maxRecDepth 20000 in
set_option maxHeartbeats 2000000 in
theorem run_t (l : List UInt8) (p : Nat) (hp : p ≤ l.length) (hl : l.length ≤ 1000000) (w : World) :
    Calls Tryd.prog 23 #[.string ⟨l.toArray⟩, .int .i64 (p : Int), .bool true] w fun e w' => e = .returned (.int .i64 (runB isLd (l.drop p) : Nat)) ∧ w' = w := by
  obtain ⟨n, hn⟩ : ∃ n, n = l.length := ⟨_, rfl⟩
  have hsz : (⟨l.toArray⟩ : ByteArray).size = n := by rw [hn]; rfl
  rw [← hn] at hp hl
  have HN := Lib.hid hn
  clear hn
  go_enter Tryd.func23, Tryd.ntmps23
  go_wp2
  go_loop [7] (fun i => ∃ k : Nat, p + k ≤ n ∧ i = .int .i64 (k : Int) ∧ Hid (∀ j c, j < k → (l.drop p)[j]? = some c → isLd c = true)) (fun i => n - (intOf i).toNat)
  case atStart => exact ⟨0, by omega, rfl, Lib.hid (fun j c h => by omega)⟩
  case round =>
    obtain ⟨k, hk, rfl, HU⟩ := hrel
    by_cases hge : n ≤ p + k
    · have HR := Lib.hid (runB_at (p := isLd) (l := l.drop p) (k := k) (by rw [List.length_drop, ← HN.out]; omega) HU.out (fun c hc => by
        have := (List.getElem?_eq_some_iff.1 hc).1
        rw [List.length_drop, ← HN.out] at this
        omega))
      go_wp2
      go_ret
      exact ⟨by rw [HR.out]; rfl, rfl⟩
    · have hlt : p + k < n := by omega
      clear hge
      obtain ⟨c, hc⟩ : ∃ c, l[p + k]? = some c := ⟨_, List.getElem?_eq_getElem (by rw [← HN.out]; exact hlt)⟩
      have hget : ∀ h, (⟨l.toArray⟩ : ByteArray)[p + k]'h = c := fun h => (List.getElem?_eq_some_iff.1 hc).2
      have hd : (l.drop p)[k]? = some c := by rw [List.getElem?_drop]; exact hc
      have HD := Lib.hid hd
      have hstep : isLd c = true → Hid (∀ j d, j < k + 1 → (l.drop p)[j]? = some d → isLd d = true) := fun hq => Lib.hid (fun j d hj hx => by
        by_cases e : j = k
        · subst e; rw [HD.out] at hx; injection hx with hx; subst hx; exact hq
        · exact HU.out j d (by omega) hx)
      have hend : isLd c = false → Hid (runB isLd (l.drop p) = k) := fun hq => Lib.hid (runB_at (by rw [List.length_drop, ← HN.out]; omega) HU.out (fun d hx => by
        rw [HD.out] at hx; injection hx with hx; subst hx; exact hq))
      have HST := Lib.hid hstep
      have HEN := Lib.hid hend
      clear hc hd hstep hend
      by_cases h48 : c.toNat < 48
      · have HR := HEN.out (by simp [isLd, isDg, isLt]; omega)
        go_wp2
        go_ret
        exact ⟨by rw [HR.out]; rfl, rfl⟩
      · have h48' : 48 ≤ c.toNat := by omega
        clear h48
        by_cases h57 : c.toNat ≤ 57
        · go_wp2
          go_round
          case rel => exact ⟨k + 1, by omega, by go_num, HST.out (by simp [isLd, isDg, isLt]; omega)⟩
          case measure => simp [intOf]; omega
        · have h57' : 57 < c.toNat := by omega
          clear h57
          by_cases h65 : c.toNat < 65
          · have HR := HEN.out (by simp [isLd, isDg, isLt]; omega)
            go_wp2
            go_ret
            exact ⟨by rw [HR.out]; rfl, rfl⟩
          · have h65' : 65 ≤ c.toNat := by omega
            clear h65
            by_cases h90 : c.toNat ≤ 90
            · go_wp2
              go_round
              case rel => exact ⟨k + 1, by omega, by go_num, HST.out (by simp [isLd, isDg, isLt]; omega)⟩
              case measure => simp [intOf]; omega
            · have h90' : 90 < c.toNat := by omega
              clear h90
              have HR := HEN.out (by simp [isLd, isDg, isLt]; omega)
              go_wp2
              go_ret
              exact ⟨by rw [HR.out]; rfl, rfl⟩

set_option maxRecDepth 20000 in
set_option maxHeartbeats 1000000 in
theorem begins_any (l x : List UInt8) (p : Nat) (hp : p ≤ l.length) (hl : l.length ≤ 1000000) (hx : x.length ≤ 1000000) (w : World) :
    Calls Tryd.prog 24 #[.string ⟨l.toArray⟩, .int .i64 (p : Int), .string ⟨x.toArray⟩] w fun e w' => e = .returned (.bool (x.isPrefixOf (l.drop p))) ∧ w' = w := by
  obtain ⟨n, hn⟩ : ∃ n, n = l.length := ⟨_, rfl⟩
  obtain ⟨m, hm⟩ : ∃ m, m = x.length := ⟨_, rfl⟩
  have hsz : (⟨l.toArray⟩ : ByteArray).size = n := by rw [hn]; rfl
  have hsx : (⟨x.toArray⟩ : ByteArray).size = m := by rw [hm]; rfl
  have hext : (⟨l.toArray⟩ : ByteArray).extract p (p + m) = ⟨((l.drop p).take m).toArray⟩ := by rw [ext_T]; congr 3; omega
  have hpre : x.isPrefixOf (l.drop p) = decide ((l.drop p).take m = x) := by
    rw [hm]
    by_cases h : (l.drop p).take x.length = x
    · rw [decide_eq_true h]
      exact List.isPrefixOf_iff_prefix.2 (List.prefix_iff_eq_take.2 h.symm)
    · rw [decide_eq_false h]
      cases hq : x.isPrefixOf (l.drop p) with
      | false => rfl
      | true => exact absurd (List.prefix_iff_eq_take.1 (List.isPrefixOf_iff_prefix.1 hq)).symm h
  have hlen : ((l.drop p).take m).length = min m (n - p) := by rw [List.length_take, List.length_drop, hn]
  rw [← hn] at hp hl
  rw [← hm] at hx
  rw [hpre]
  by_cases hmn : m ≤ n - p
  · by_cases heq : (l.drop p).take m = x
    · rw [decide_eq_true heq]
      rw [heq] at hext
      have h1 : (m : Int) ≤ (n : Int) - (p : Int) := by omega
      have h2 : p + m ≤ n := by omega
      have hbl : ((⟨x.toArray⟩ : ByteArray).toList == (⟨x.toArray⟩ : ByteArray).toList) = true := beq_self_eq_true _
      generalize (⟨x.toArray⟩ : ByteArray) = sx at *
      clear hn hm hpre hlen heq hmn
      go_enter Tryd.func24, Tryd.ntmps24
      go_wp2
      go_ret
      exact ⟨rfl, rfl⟩
    · rw [decide_eq_false heq]
      have h1 : (m : Int) ≤ (n : Int) - (p : Int) := by omega
      have h2 : p + m ≤ n := by omega
      have hbl : ((⟨((l.drop p).take m).toArray⟩ : ByteArray).toList == x) = false := by rw [Lib.toList_data]; simpa using heq
      generalize (⟨((l.drop p).take m).toArray⟩ : ByteArray) = su at *
      clear hn hm hpre hlen heq hmn
      go_enter Tryd.func24, Tryd.ntmps24
      go_wp2
      go_ret
      exact ⟨by first | rfl | (simp only [hbl]; rfl), rfl⟩
  · have hne : ¬ (l.drop p).take m = x := fun e => by
      rw [e, ← hm] at hlen
      omega
    rw [decide_eq_false hne]
    have h1 : (n : Int) - (p : Int) < (m : Int) := by omega
    clear hn hm hpre hlen hne hmn hext
    go_enter Tryd.func24, Tryd.ntmps24
    go_wp2
    go_ret
    exact ⟨rfl, rfl⟩
end Go.Proofs.YtdjidkhkgmbhfaaDoor
