/-
The reference of stage 7: Parse, by a contract.
-/
import Derived.Test.YtggdpnkfambmfaaDoorCeCol
namespace Go.Proofs.YtggdpnkfambmfaaDoor
open Go.RowKit Go.Proofs.YtggdpnkfambmfaaDoor.Dig

def rparseT : Option (Nat × Int) → Value
  | some (c, r) => .tuple #[.int .i64 (c : Int), .int .i64 r, .bool true]
  | none => .tuple #[.int .i64 0, .int .i64 0, .bool false]
theorem up_split : ∀ {l : List UInt8} {k : Nat}, k ≤ l.length → (∀ j c, j < k → l[j]? = some c → isUp c = true) → (∀ c, l[k]? = some c → isUp c = false) → l.takeWhile isUp = l.take k ∧ l.dropWhile isUp = l.drop k
  | [], k, hk, _, _ => by simp
  | c :: t, 0, _, _, h => by
    have h0 := h c rfl
    simp [h0]
  | c :: t, k + 1, hk, hj, h => by
    have h0 := hj 0 c (by omega) rfl
    obtain ⟨e1, e2⟩ := up_split (l := t) (k := k) (by simpa using hk) (fun j d hd hx => hj (j + 1) d (by omega) (by simpa using hx)) (fun d hd => h d (by simpa using hd))
    simp [h0, e1, e2]
theorem rparse_at {l : List UInt8} {k : Nat} (hk : k ≤ l.length) (hup : ∀ j c, j < k → l[j]? = some c → isUp c = true) (hend : ∀ c, l[k]? = some c → isUp c = false) :
    rparseC l = if k = 0 ∨ 2 < k ∨ textC (colV (l.take k) : Nat) (rowF (l.drop k)) ≠ l then none else some (colV (l.take k), rowF (l.drop k)) := by
  obtain ⟨e1, e2⟩ := up_split hk hup hend
  unfold rparseC
  rw [e1, e2, List.length_take, Nat.min_eq_left hk]
theorem val_bound : ∀ (m : Nat) (l : List UInt8), l.length = m → ∀ v : Int, -(300 * 10 ^ m) + 300 ≤ val 0 l ∧ val 0 l ≤ 300 * 10 ^ m - 300 := by
  intro m
  induction m with
  | zero =>
    intro l hl v
    obtain rfl : l = [] := List.eq_nil_of_length_eq_zero hl
    simp [val]
  | succ m ih =>
    intro l hl v
    obtain ⟨t, c, rfl⟩ : ∃ t c, l = t ++ [c] := ⟨l.dropLast, l.getLast (by intro e; subst e; simp at hl), (List.dropLast_concat_getLast _).symm⟩
    have ht : t.length = m := by simpa using hl
    obtain ⟨a, b⟩ := ih t ht v
    rw [val_append]
    show _ ≤ val 0 t * 10 + ((c.toNat : Int) - 48) ∧ val 0 t * 10 + ((c.toNat : Int) - 48) ≤ _
    have hc := c.toNat_lt
    rw [Int.pow_succ]
    generalize (10 : Int) ^ m = p at *
    omega
theorem val_small {l : List UInt8} (h : l.length ≤ 5) : -30000000 ≤ val 0 l ∧ val 0 l ≤ 30000000 := by
  have hb := val_bound l.length l rfl 0
  have hp : ((10 : Int)) ^ l.length ≤ 100000 := by
    match l.length, h with
    | 0, _ => decide
    | 1, _ => decide
    | 2, _ => decide
    | 3, _ => decide
    | 4, _ => decide
    | 5, _ => decide
  generalize (10 : Int) ^ l.length = p at *
  omega
theorem row_snoc {l : List UInt8} {k j : Nat} {c : UInt8} (hkj : k ≤ j) (h : l[j]? = some c) : val 0 ((l.drop k).take (j + 1 - k)) = val 0 ((l.drop k).take (j - k)) * 10 + ((c.toNat : Int) - 48) := by
  have e : j + 1 - k = (j - k) + 1 := by omega
  have hx : (l.drop k)[j - k]? = some c := by rw [List.getElem?_drop, show k + (j - k) = j from by omega]; exact h
  rw [e, List.take_add_one, hx, val_append]
  rfl
theorem row_step {l : List UInt8} {k j : Nat} {c : UInt8} {v : Int} (hkj : k ≤ j) (hj : j < k + 5) (h : l[j]? = some c) (hv : v = val 0 ((l.drop k).take (j - k))) :
    wrap64 (wrap64 (wrap64 (v * 10) + wrap64 (c.toNat : Int)) - 48) = val 0 ((l.drop k).take (j + 1 - k)) := by
  have hb : -30000000 ≤ v ∧ v ≤ 30000000 := by
    rw [hv]
    exact val_small (by rw [List.length_take]; omega)
  have hc := c.toNat_lt
  rw [row_snoc hkj h, ← hv, wrap_id (x := (c.toNat : Int)) (by omega) (by omega), wrap_id (x := v * 10) (by omega) (by omega), wrap_id (x := v * 10 + (c.toNat : Int)) (by omega) (by omega), wrap_id (by omega) (by omega)]
  omega
theorem ext_takeC (l : List UInt8) (k : Nat) : (⟨l.toArray⟩ : ByteArray).extract 0 k = ⟨(l.take k).toArray⟩ := by
  apply ByteArray.ext
  simp

set_option maxRecDepth 20000 in
set_option maxHeartbeats 2000000 in
theorem rparse_anyC (l : List UInt8) (hl : l.length ≤ 1000) (w : World) :
    Calls Tryd.prog 13 #[.string ⟨l.toArray⟩] w fun e w' => e = .returned (rparseT (rparseC l)) ∧ Below w.heap.size w w' := by
  obtain ⟨n, hn⟩ : ∃ n, n = l.length := ⟨_, rfl⟩
  have hsz : (⟨l.toArray⟩ : ByteArray).size = n := by rw [hn]; rfl
  rw [← hn] at hl
  have HN := Lib.hid hn
  clear hn
  go_enter Tryd.func13, Tryd.ntmps13
  go_wp2
  go_loop [5] (fun i => ∃ k : Nat, k ≤ n ∧ i = .int .i64 (k : Int) ∧ Hid (∀ j c, j < k → l[j]? = some c → isUp c = true)) (fun i => n - (intOf i).toNat)
  case atStart => exact ⟨0, Nat.zero_le _, rfl, Lib.hid (fun j c h => by omega)⟩
  case round =>
    obtain ⟨k, hk, rfl, HU⟩ := hrel
    by_cases hup : k < n ∧ ∃ c, l[k]? = some c ∧ isUp c = true
    · obtain ⟨hkn, c, hc, hcu⟩ := hup
      have hget : ∀ h, (⟨l.toArray⟩ : ByteArray)[k]'h = c := fun h => (List.getElem?_eq_some_iff.1 hc).2
      have hcu2 : 65 ≤ c.toNat ∧ c.toNat ≤ 90 := by simpa [isUp] using hcu
      obtain ⟨h65, h90⟩ := hcu2
      have HC := Lib.hid hc
      have HCU := Lib.hid hcu
      clear hc hcu
      go_wp2
      go_round
      case rel => exact ⟨k + 1, by omega, by go_num, Lib.hid (fun j d hj hd => by
        by_cases e : j = k
        · subst e; rw [HC.out] at hd; injection hd with hd; subst hd; exact HCU.out
        · exact HU.out j d (by omega) hd)⟩
      case measure => simp [intOf]; try omega
    · have hend : ∀ c, l[k]? = some c → isUp c = false := fun c hc => by
        cases hu : isUp c with
        | false => rfl
        | true => exact absurd ⟨by have := (List.getElem?_eq_some_iff.1 hc).1; rw [HN.out]; exact this, c, hc, hu⟩ hup
      have hcase : n ≤ k ∨ (k < n ∧ ∃ c, l[k]? = some c ∧ (c.toNat < 65 ∨ (65 ≤ c.toNat ∧ 90 < c.toNat))) := by
        rcases Nat.lt_or_ge k n with h | h
        · right
          obtain ⟨c, hc⟩ : ∃ c, l[k]? = some c := ⟨_, List.getElem?_eq_getElem (by rw [← HN.out]; exact h)⟩
          have := hend c hc
          unfold isUp at this
          have := of_decide_eq_false this
          exact ⟨h, c, hc, by omega⟩
        · exact .inl h
      have HRP := Lib.hid (rparse_at (l := l) (k := k) (by rw [← HN.out]; exact hk) HU.out hend)
      have HCOL := Lib.hid (fun W => rcolumn_any (l.take k) (by rw [List.length_take, ← HN.out]; omega) W)
      clear hup hend
      rcases hcase with hge | ⟨hkn, c, hc, h65 | ⟨h65, h90⟩⟩
      · go_wp2
        go_loop [6, 7] (fun a i => ∃ (j : Nat) (v : Int), k ≤ j ∧ j ≤ n ∧ j ≤ k + 5 ∧ a = .int .i64 v ∧ i = .int .i64 (j : Int) ∧ Hid (v = val 0 ((l.drop k).take (j - k)))) (fun _ i => n - (intOf i).toNat)
        case atStart => exact ⟨k, 0, Nat.le_refl _, hk, by omega, rfl, rfl, Lib.hid (by simp [val])⟩
        case round =>
          obtain ⟨j, v, hkj, hj, hj5, rfl, rfl, HV⟩ := hrel
          by_cases hlt : j < n ∧ j < k + 5
          · exfalso; omega
          · have hrow : v = rowF (l.drop k) := by
              rw [HV.out]
              unfold rowF
              rcases Nat.lt_or_ge j n with h | h
              · rw [show j - k = 5 from by omega]
              · rw [List.take_of_length_le (by rw [List.length_drop, ← HN.out]; omega), List.take_of_length_le (by rw [List.length_drop, ← HN.out]; omega)]
            have hvb : -30000000 ≤ v ∧ v ≤ 30000000 := by
              rw [HV.out]
              exact val_small (by rw [List.length_take]; omega)
            have hrp := HRP.out
            rw [← hrow] at hrp
            have HRP2 := Lib.hid hrp
            have HTX := Lib.hid (fun W => rtext_anyC (colV (l.take k) : Nat) v (by have := colV_le (l.take k); omega) (by omega) W)
            have hor : n ≤ j ∨ (j < n ∧ k + 5 ≤ j) := by omega
            clear hrow hvb hrp hlt
            rcases hor with h1 | ⟨h1, h2⟩
            · by_cases hk0 : k = 0
              · subst hk0
                have hnone : rparseC l = none := by rw [HRP2.out, if_pos (.inl rfl)]
                have HNONE := Lib.hid hnone
                clear hnone
                go_wp2
                go_ret3
                exact ⟨by rw [HNONE.out]; rfl, Below.refl _ _⟩
              · have hk1 : 1 ≤ k := by omega
                clear hk0
                by_cases hk2 : 2 < k
                · have hnone : rparseC l = none := by rw [HRP2.out, if_pos (.inr (.inl hk2))]
                  have HNONE := Lib.hid hnone
                  clear hnone
                  go_wp2
                  go_ret3
                  exact ⟨by rw [HNONE.out]; rfl, Below.refl _ _⟩
                · have hk3 : k ≤ 2 := by omega
                  have tk0 : ((k : Int) == 0) = false := by simp; omega
                  have tk2 : ((2 : Int) < (k : Int)) = False := eq_false (by omega)
                  obtain ⟨s, hs⟩ : ∃ s : ByteArray, s = ⟨l.toArray⟩ := ⟨_, rfl⟩
                  obtain ⟨st, hst⟩ : ∃ st : ByteArray, st = ⟨(textC (colV (l.take k) : Nat) v).toArray⟩ := ⟨_, rfl⟩
                  have HST := Lib.hid hst
                  have HS := Lib.hid hs
                  have htx := HTX.out
                  rw [← hst] at htx
                  have HTX2 := Lib.hid htx
                  have hext : s.extract 0 k = ⟨(l.take k).toArray⟩ := by rw [hs]; exact ext_takeC l k
                  rw [← hs] at hsz ⊢
                  clear htx hst hs hk2 HTX HV
                  by_cases heq : st = s
                  · have ht : textC (colV (l.take k) : Nat) v = l := by
                      have h := HST.out.symm.trans (heq.trans HS.out)
                      have := congrArg (fun b : ByteArray => b.data.toList) h
                      simpa using this
                    have hsome : rparseC l = some (colV (l.take k), v) := by rw [HRP2.out, if_neg (by rintro (h | h | h); (· omega); (· omega); exact h ht)]
                    have HNONE := Lib.hid hsome
                    subst heq
                    clear ht hsome
                    generalize colV (l.take k) = cv at *
                    go_wp2_with fail
                    go_at_call 11
                    with_reducible refine (HCOL.out _).mono ?_
                    rintro e w1 ⟨rfl, hb1⟩
                    go_wp2_with fail
                    go_at_call 17
                    with_reducible refine (HTX2.out _).mono ?_
                    rintro e w2 ⟨rfl, hb2⟩
                    go_wp2_with fail
                    go_at_call 11
                    with_reducible refine (HCOL.out _).mono ?_
                    rintro e w3 ⟨rfl, hb3⟩
                    go_wp2_with fail
                    go_ret3
                    exact ⟨by rw [HNONE.out]; rfl, (hb1.trans (hb2.mono hb1.size)).trans (hb3.mono (Nat.le_trans hb1.size hb2.size))⟩
                  · have hnone : rparseC l = none := by rw [HRP2.out, if_pos (.inr (.inr (fun e => heq (by rw [HST.out, HS.out, e]))))]
                    have HNONE := Lib.hid hnone
                    have hbl := ba_ne heq
                    clear hnone heq
                    generalize colV (l.take k) = cv at *
                    go_wp2_with fail
                    go_at_call 11
                    with_reducible refine (HCOL.out _).mono ?_
                    rintro e w1 ⟨rfl, hb1⟩
                    go_wp2_with fail
                    go_at_call 17
                    with_reducible refine (HTX2.out _).mono ?_
                    rintro e w2 ⟨rfl, hb2⟩
                    go_wp2_with fail
                    go_ret3
                    exact ⟨by rw [HNONE.out]; rfl, hb1.trans (hb2.mono hb1.size)⟩
            · exfalso; omega
      · have hget : ∀ h, (⟨l.toArray⟩ : ByteArray)[k]'h = c := fun h => (List.getElem?_eq_some_iff.1 hc).2
        clear hc
        go_wp2
        clear hget
        go_loop [6, 7] (fun a i => ∃ (j : Nat) (v : Int), k ≤ j ∧ j ≤ n ∧ j ≤ k + 5 ∧ a = .int .i64 v ∧ i = .int .i64 (j : Int) ∧ Hid (v = val 0 ((l.drop k).take (j - k)))) (fun _ i => n - (intOf i).toNat)
        case atStart => exact ⟨k, 0, Nat.le_refl _, hk, by omega, rfl, rfl, Lib.hid (by simp [val])⟩
        case round =>
          obtain ⟨j, v, hkj, hj, hj5, rfl, rfl, HV⟩ := hrel
          by_cases hlt : j < n ∧ j < k + 5
          · obtain ⟨hjn, hjk⟩ := hlt
            obtain ⟨d, hd⟩ : ∃ d, l[j]? = some d := ⟨_, List.getElem?_eq_getElem (by rw [← HN.out]; exact hjn)⟩
            have hget : ∀ h, (⟨l.toArray⟩ : ByteArray)[j]'h = d := fun h => (List.getElem?_eq_some_iff.1 hd).2
            have hval := row_step hkj (by omega) hd HV.out
            have HVAL := Lib.hid hval
            clear hd hval
            go_wp2
            go_round
            case rel => exact ⟨j + 1, _, by omega, by omega, by omega, rfl, by go_num, HVAL⟩
            case measure => simp [intOf]; try omega
          · have hrow : v = rowF (l.drop k) := by
              rw [HV.out]
              unfold rowF
              rcases Nat.lt_or_ge j n with h | h
              · rw [show j - k = 5 from by omega]
              · rw [List.take_of_length_le (by rw [List.length_drop, ← HN.out]; omega), List.take_of_length_le (by rw [List.length_drop, ← HN.out]; omega)]
            have hvb : -30000000 ≤ v ∧ v ≤ 30000000 := by
              rw [HV.out]
              exact val_small (by rw [List.length_take]; omega)
            have hrp := HRP.out
            rw [← hrow] at hrp
            have HRP2 := Lib.hid hrp
            have HTX := Lib.hid (fun W => rtext_anyC (colV (l.take k) : Nat) v (by have := colV_le (l.take k); omega) (by omega) W)
            have hor : n ≤ j ∨ (j < n ∧ k + 5 ≤ j) := by omega
            clear hrow hvb hrp hlt
            rcases hor with h1 | ⟨h1, h2⟩
            · by_cases hk0 : k = 0
              · subst hk0
                have hnone : rparseC l = none := by rw [HRP2.out, if_pos (.inl rfl)]
                have HNONE := Lib.hid hnone
                clear hnone
                go_wp2
                go_ret3
                exact ⟨by rw [HNONE.out]; rfl, Below.refl _ _⟩
              · have hk1 : 1 ≤ k := by omega
                clear hk0
                by_cases hk2 : 2 < k
                · have hnone : rparseC l = none := by rw [HRP2.out, if_pos (.inr (.inl hk2))]
                  have HNONE := Lib.hid hnone
                  clear hnone
                  go_wp2
                  go_ret3
                  exact ⟨by rw [HNONE.out]; rfl, Below.refl _ _⟩
                · have hk3 : k ≤ 2 := by omega
                  have tk0 : ((k : Int) == 0) = false := by simp; omega
                  have tk2 : ((2 : Int) < (k : Int)) = False := eq_false (by omega)
                  obtain ⟨s, hs⟩ : ∃ s : ByteArray, s = ⟨l.toArray⟩ := ⟨_, rfl⟩
                  obtain ⟨st, hst⟩ : ∃ st : ByteArray, st = ⟨(textC (colV (l.take k) : Nat) v).toArray⟩ := ⟨_, rfl⟩
                  have HST := Lib.hid hst
                  have HS := Lib.hid hs
                  have htx := HTX.out
                  rw [← hst] at htx
                  have HTX2 := Lib.hid htx
                  have hext : s.extract 0 k = ⟨(l.take k).toArray⟩ := by rw [hs]; exact ext_takeC l k
                  rw [← hs] at hsz ⊢
                  clear htx hst hs hk2 HTX HV
                  by_cases heq : st = s
                  · have ht : textC (colV (l.take k) : Nat) v = l := by
                      have h := HST.out.symm.trans (heq.trans HS.out)
                      have := congrArg (fun b : ByteArray => b.data.toList) h
                      simpa using this
                    have hsome : rparseC l = some (colV (l.take k), v) := by rw [HRP2.out, if_neg (by rintro (h | h | h); (· omega); (· omega); exact h ht)]
                    have HNONE := Lib.hid hsome
                    subst heq
                    clear ht hsome
                    generalize colV (l.take k) = cv at *
                    go_wp2_with fail
                    go_at_call 11
                    with_reducible refine (HCOL.out _).mono ?_
                    rintro e w1 ⟨rfl, hb1⟩
                    go_wp2_with fail
                    go_at_call 17
                    with_reducible refine (HTX2.out _).mono ?_
                    rintro e w2 ⟨rfl, hb2⟩
                    go_wp2_with fail
                    go_at_call 11
                    with_reducible refine (HCOL.out _).mono ?_
                    rintro e w3 ⟨rfl, hb3⟩
                    go_wp2_with fail
                    go_ret3
                    exact ⟨by rw [HNONE.out]; rfl, (hb1.trans (hb2.mono hb1.size)).trans (hb3.mono (Nat.le_trans hb1.size hb2.size))⟩
                  · have hnone : rparseC l = none := by rw [HRP2.out, if_pos (.inr (.inr (fun e => heq (by rw [HST.out, HS.out, e]))))]
                    have HNONE := Lib.hid hnone
                    have hbl := ba_ne heq
                    clear hnone heq
                    generalize colV (l.take k) = cv at *
                    go_wp2_with fail
                    go_at_call 11
                    with_reducible refine (HCOL.out _).mono ?_
                    rintro e w1 ⟨rfl, hb1⟩
                    go_wp2_with fail
                    go_at_call 17
                    with_reducible refine (HTX2.out _).mono ?_
                    rintro e w2 ⟨rfl, hb2⟩
                    go_wp2_with fail
                    go_ret3
                    exact ⟨by rw [HNONE.out]; rfl, hb1.trans (hb2.mono hb1.size)⟩
            · by_cases hk0 : k = 0
              · subst hk0
                have hnone : rparseC l = none := by rw [HRP2.out, if_pos (.inl rfl)]
                have HNONE := Lib.hid hnone
                clear hnone
                go_wp2
                go_ret3
                exact ⟨by rw [HNONE.out]; rfl, Below.refl _ _⟩
              · have hk1 : 1 ≤ k := by omega
                clear hk0
                by_cases hk2 : 2 < k
                · have hnone : rparseC l = none := by rw [HRP2.out, if_pos (.inr (.inl hk2))]
                  have HNONE := Lib.hid hnone
                  clear hnone
                  go_wp2
                  go_ret3
                  exact ⟨by rw [HNONE.out]; rfl, Below.refl _ _⟩
                · have hk3 : k ≤ 2 := by omega
                  have tk0 : ((k : Int) == 0) = false := by simp; omega
                  have tk2 : ((2 : Int) < (k : Int)) = False := eq_false (by omega)
                  obtain ⟨s, hs⟩ : ∃ s : ByteArray, s = ⟨l.toArray⟩ := ⟨_, rfl⟩
                  obtain ⟨st, hst⟩ : ∃ st : ByteArray, st = ⟨(textC (colV (l.take k) : Nat) v).toArray⟩ := ⟨_, rfl⟩
                  have HST := Lib.hid hst
                  have HS := Lib.hid hs
                  have htx := HTX.out
                  rw [← hst] at htx
                  have HTX2 := Lib.hid htx
                  have hext : s.extract 0 k = ⟨(l.take k).toArray⟩ := by rw [hs]; exact ext_takeC l k
                  rw [← hs] at hsz ⊢
                  clear htx hst hs hk2 HTX HV
                  by_cases heq : st = s
                  · have ht : textC (colV (l.take k) : Nat) v = l := by
                      have h := HST.out.symm.trans (heq.trans HS.out)
                      have := congrArg (fun b : ByteArray => b.data.toList) h
                      simpa using this
                    have hsome : rparseC l = some (colV (l.take k), v) := by rw [HRP2.out, if_neg (by rintro (h | h | h); (· omega); (· omega); exact h ht)]
                    have HNONE := Lib.hid hsome
                    subst heq
                    clear ht hsome
                    generalize colV (l.take k) = cv at *
                    go_wp2_with fail
                    go_at_call 11
                    with_reducible refine (HCOL.out _).mono ?_
                    rintro e w1 ⟨rfl, hb1⟩
                    go_wp2_with fail
                    go_at_call 17
                    with_reducible refine (HTX2.out _).mono ?_
                    rintro e w2 ⟨rfl, hb2⟩
                    go_wp2_with fail
                    go_at_call 11
                    with_reducible refine (HCOL.out _).mono ?_
                    rintro e w3 ⟨rfl, hb3⟩
                    go_wp2_with fail
                    go_ret3
                    exact ⟨by rw [HNONE.out]; rfl, (hb1.trans (hb2.mono hb1.size)).trans (hb3.mono (Nat.le_trans hb1.size hb2.size))⟩
                  · have hnone : rparseC l = none := by rw [HRP2.out, if_pos (.inr (.inr (fun e => heq (by rw [HST.out, HS.out, e]))))]
                    have HNONE := Lib.hid hnone
                    have hbl := ba_ne heq
                    clear hnone heq
                    generalize colV (l.take k) = cv at *
                    go_wp2_with fail
                    go_at_call 11
                    with_reducible refine (HCOL.out _).mono ?_
                    rintro e w1 ⟨rfl, hb1⟩
                    go_wp2_with fail
                    go_at_call 17
                    with_reducible refine (HTX2.out _).mono ?_
                    rintro e w2 ⟨rfl, hb2⟩
                    go_wp2_with fail
                    go_ret3
                    exact ⟨by rw [HNONE.out]; rfl, hb1.trans (hb2.mono hb1.size)⟩
      · have hget : ∀ h, (⟨l.toArray⟩ : ByteArray)[k]'h = c := fun h => (List.getElem?_eq_some_iff.1 hc).2
        clear hc
        go_wp2
        clear hget
        go_loop [6, 7] (fun a i => ∃ (j : Nat) (v : Int), k ≤ j ∧ j ≤ n ∧ j ≤ k + 5 ∧ a = .int .i64 v ∧ i = .int .i64 (j : Int) ∧ Hid (v = val 0 ((l.drop k).take (j - k)))) (fun _ i => n - (intOf i).toNat)
        case atStart => exact ⟨k, 0, Nat.le_refl _, hk, by omega, rfl, rfl, Lib.hid (by simp [val])⟩
        case round =>
          obtain ⟨j, v, hkj, hj, hj5, rfl, rfl, HV⟩ := hrel
          by_cases hlt : j < n ∧ j < k + 5
          · obtain ⟨hjn, hjk⟩ := hlt
            obtain ⟨d, hd⟩ : ∃ d, l[j]? = some d := ⟨_, List.getElem?_eq_getElem (by rw [← HN.out]; exact hjn)⟩
            have hget : ∀ h, (⟨l.toArray⟩ : ByteArray)[j]'h = d := fun h => (List.getElem?_eq_some_iff.1 hd).2
            have hval := row_step hkj (by omega) hd HV.out
            have HVAL := Lib.hid hval
            clear hd hval
            go_wp2
            go_round
            case rel => exact ⟨j + 1, _, by omega, by omega, by omega, rfl, by go_num, HVAL⟩
            case measure => simp [intOf]; try omega
          · have hrow : v = rowF (l.drop k) := by
              rw [HV.out]
              unfold rowF
              rcases Nat.lt_or_ge j n with h | h
              · rw [show j - k = 5 from by omega]
              · rw [List.take_of_length_le (by rw [List.length_drop, ← HN.out]; omega), List.take_of_length_le (by rw [List.length_drop, ← HN.out]; omega)]
            have hvb : -30000000 ≤ v ∧ v ≤ 30000000 := by
              rw [HV.out]
              exact val_small (by rw [List.length_take]; omega)
            have hrp := HRP.out
            rw [← hrow] at hrp
            have HRP2 := Lib.hid hrp
            have HTX := Lib.hid (fun W => rtext_anyC (colV (l.take k) : Nat) v (by have := colV_le (l.take k); omega) (by omega) W)
            have hor : n ≤ j ∨ (j < n ∧ k + 5 ≤ j) := by omega
            clear hrow hvb hrp hlt
            rcases hor with h1 | ⟨h1, h2⟩
            · by_cases hk0 : k = 0
              · subst hk0
                have hnone : rparseC l = none := by rw [HRP2.out, if_pos (.inl rfl)]
                have HNONE := Lib.hid hnone
                clear hnone
                go_wp2
                go_ret3
                exact ⟨by rw [HNONE.out]; rfl, Below.refl _ _⟩
              · have hk1 : 1 ≤ k := by omega
                clear hk0
                by_cases hk2 : 2 < k
                · have hnone : rparseC l = none := by rw [HRP2.out, if_pos (.inr (.inl hk2))]
                  have HNONE := Lib.hid hnone
                  clear hnone
                  go_wp2
                  go_ret3
                  exact ⟨by rw [HNONE.out]; rfl, Below.refl _ _⟩
                · have hk3 : k ≤ 2 := by omega
                  have tk0 : ((k : Int) == 0) = false := by simp; omega
                  have tk2 : ((2 : Int) < (k : Int)) = False := eq_false (by omega)
                  obtain ⟨s, hs⟩ : ∃ s : ByteArray, s = ⟨l.toArray⟩ := ⟨_, rfl⟩
                  obtain ⟨st, hst⟩ : ∃ st : ByteArray, st = ⟨(textC (colV (l.take k) : Nat) v).toArray⟩ := ⟨_, rfl⟩
                  have HST := Lib.hid hst
                  have HS := Lib.hid hs
                  have htx := HTX.out
                  rw [← hst] at htx
                  have HTX2 := Lib.hid htx
                  have hext : s.extract 0 k = ⟨(l.take k).toArray⟩ := by rw [hs]; exact ext_takeC l k
                  rw [← hs] at hsz ⊢
                  clear htx hst hs hk2 HTX HV
                  by_cases heq : st = s
                  · have ht : textC (colV (l.take k) : Nat) v = l := by
                      have h := HST.out.symm.trans (heq.trans HS.out)
                      have := congrArg (fun b : ByteArray => b.data.toList) h
                      simpa using this
                    have hsome : rparseC l = some (colV (l.take k), v) := by rw [HRP2.out, if_neg (by rintro (h | h | h); (· omega); (· omega); exact h ht)]
                    have HNONE := Lib.hid hsome
                    subst heq
                    clear ht hsome
                    generalize colV (l.take k) = cv at *
                    go_wp2_with fail
                    go_at_call 11
                    with_reducible refine (HCOL.out _).mono ?_
                    rintro e w1 ⟨rfl, hb1⟩
                    go_wp2_with fail
                    go_at_call 17
                    with_reducible refine (HTX2.out _).mono ?_
                    rintro e w2 ⟨rfl, hb2⟩
                    go_wp2_with fail
                    go_at_call 11
                    with_reducible refine (HCOL.out _).mono ?_
                    rintro e w3 ⟨rfl, hb3⟩
                    go_wp2_with fail
                    go_ret3
                    exact ⟨by rw [HNONE.out]; rfl, (hb1.trans (hb2.mono hb1.size)).trans (hb3.mono (Nat.le_trans hb1.size hb2.size))⟩
                  · have hnone : rparseC l = none := by rw [HRP2.out, if_pos (.inr (.inr (fun e => heq (by rw [HST.out, HS.out, e]))))]
                    have HNONE := Lib.hid hnone
                    have hbl := ba_ne heq
                    clear hnone heq
                    generalize colV (l.take k) = cv at *
                    go_wp2_with fail
                    go_at_call 11
                    with_reducible refine (HCOL.out _).mono ?_
                    rintro e w1 ⟨rfl, hb1⟩
                    go_wp2_with fail
                    go_at_call 17
                    with_reducible refine (HTX2.out _).mono ?_
                    rintro e w2 ⟨rfl, hb2⟩
                    go_wp2_with fail
                    go_ret3
                    exact ⟨by rw [HNONE.out]; rfl, hb1.trans (hb2.mono hb1.size)⟩
            · by_cases hk0 : k = 0
              · subst hk0
                have hnone : rparseC l = none := by rw [HRP2.out, if_pos (.inl rfl)]
                have HNONE := Lib.hid hnone
                clear hnone
                go_wp2
                go_ret3
                exact ⟨by rw [HNONE.out]; rfl, Below.refl _ _⟩
              · have hk1 : 1 ≤ k := by omega
                clear hk0
                by_cases hk2 : 2 < k
                · have hnone : rparseC l = none := by rw [HRP2.out, if_pos (.inr (.inl hk2))]
                  have HNONE := Lib.hid hnone
                  clear hnone
                  go_wp2
                  go_ret3
                  exact ⟨by rw [HNONE.out]; rfl, Below.refl _ _⟩
                · have hk3 : k ≤ 2 := by omega
                  have tk0 : ((k : Int) == 0) = false := by simp; omega
                  have tk2 : ((2 : Int) < (k : Int)) = False := eq_false (by omega)
                  obtain ⟨s, hs⟩ : ∃ s : ByteArray, s = ⟨l.toArray⟩ := ⟨_, rfl⟩
                  obtain ⟨st, hst⟩ : ∃ st : ByteArray, st = ⟨(textC (colV (l.take k) : Nat) v).toArray⟩ := ⟨_, rfl⟩
                  have HST := Lib.hid hst
                  have HS := Lib.hid hs
                  have htx := HTX.out
                  rw [← hst] at htx
                  have HTX2 := Lib.hid htx
                  have hext : s.extract 0 k = ⟨(l.take k).toArray⟩ := by rw [hs]; exact ext_takeC l k
                  rw [← hs] at hsz ⊢
                  clear htx hst hs hk2 HTX HV
                  by_cases heq : st = s
                  · have ht : textC (colV (l.take k) : Nat) v = l := by
                      have h := HST.out.symm.trans (heq.trans HS.out)
                      have := congrArg (fun b : ByteArray => b.data.toList) h
                      simpa using this
                    have hsome : rparseC l = some (colV (l.take k), v) := by rw [HRP2.out, if_neg (by rintro (h | h | h); (· omega); (· omega); exact h ht)]
                    have HNONE := Lib.hid hsome
                    subst heq
                    clear ht hsome
                    generalize colV (l.take k) = cv at *
                    go_wp2_with fail
                    go_at_call 11
                    with_reducible refine (HCOL.out _).mono ?_
                    rintro e w1 ⟨rfl, hb1⟩
                    go_wp2_with fail
                    go_at_call 17
                    with_reducible refine (HTX2.out _).mono ?_
                    rintro e w2 ⟨rfl, hb2⟩
                    go_wp2_with fail
                    go_at_call 11
                    with_reducible refine (HCOL.out _).mono ?_
                    rintro e w3 ⟨rfl, hb3⟩
                    go_wp2_with fail
                    go_ret3
                    exact ⟨by rw [HNONE.out]; rfl, (hb1.trans (hb2.mono hb1.size)).trans (hb3.mono (Nat.le_trans hb1.size hb2.size))⟩
                  · have hnone : rparseC l = none := by rw [HRP2.out, if_pos (.inr (.inr (fun e => heq (by rw [HST.out, HS.out, e]))))]
                    have HNONE := Lib.hid hnone
                    have hbl := ba_ne heq
                    clear hnone heq
                    generalize colV (l.take k) = cv at *
                    go_wp2_with fail
                    go_at_call 11
                    with_reducible refine (HCOL.out _).mono ?_
                    rintro e w1 ⟨rfl, hb1⟩
                    go_wp2_with fail
                    go_at_call 17
                    with_reducible refine (HTX2.out _).mono ?_
                    rintro e w2 ⟨rfl, hb2⟩
                    go_wp2_with fail
                    go_ret3
                    exact ⟨by rw [HNONE.out]; rfl, hb1.trans (hb2.mono hb1.size)⟩
end Go.Proofs.YtggdpnkfambmfaaDoor
