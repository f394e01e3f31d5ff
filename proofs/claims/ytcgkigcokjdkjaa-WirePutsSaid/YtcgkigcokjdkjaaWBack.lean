/-
The law WireBack, over the Writer's and the Reader's contracts. (The Writer's were made over a trial text of the verifier's own.)
-/
import Derived.Test.YtcgkigcokjdkjaaWTakes
namespace Go.Proofs.Ytcgkigcokjdkjaa
open Go.RowKit
open Wire (numL valL takeL runL bytesL)

/-- The slice value v reads as these unsigned integers. -/
def RdU (w : World) (v : Value) (ns : List Nat) : Prop :=
  (∃ p c, v = .slice p 0 c ∧ ns = []) ∨ ∃ b off cap, v = .slice (some ⟨b, off, none⟩) ns.length cap ∧ ns.length ≤ cap ∧ cap ≤ maxLen ∧ b < w.heap.size ∧ ∀ (j n : Nat), ns[j]? = some n → w.cell? ⟨b, off + j, none⟩ = some (.int .u64 (n : Int))
theorem RdU.at_ {w : World} {A : Option Addr} {n c k x : Nat} {ns : List Nat} (h : RdU w (.slice A n c) ns) (hx : ns[k]? = some x) :
    ∃ b off, A = some ⟨b, off, none⟩ ∧ ∀ w', Below w.heap.size w w' → w'.cell? ⟨b, off + k, none⟩ = some (.int .u64 (x : Int)) := by
  rcases h with ⟨p, c', hv, rfl⟩ | ⟨b, off, cap, hv, hcap, hm, hb, hc⟩
  · simp at hx
  · simp only [Value.slice.injEq] at hv
    obtain ⟨rfl, _, _⟩ := hv
    exact ⟨b, off, rfl, fun w' hw => by rw [bcell hw _ _ hb]; exact hc k x hx⟩
theorem RdP.at_ {w : World} {A : Option Addr} {n c k : Nat} {pss : List (List Nat)} {ps : List Nat} (h : RdP w (.slice A n c) pss) (hx : pss[k]? = some ps) :
    ∃ b off A2 m c2, A = some ⟨b, off, none⟩ ∧ m = ps.length ∧ ∀ w', Below w.heap.size w w' → w'.cell? ⟨b, off + k, none⟩ = some (.slice A2 m c2) ∧ Rd w' (.slice A2 m c2) ps := by
  obtain ⟨A', n', c', hv, _, hc⟩ := h.form2
  simp only [Value.slice.injEq] at hv
  obtain ⟨rfl, _, _⟩ := hv
  obtain ⟨b, off, u, rfl, hb, hcell, hr⟩ := hc k ps hx
  obtain ⟨A2, m, c2, rfl, hm⟩ := hr.named
  exact ⟨b, off, A2, m, c2, rfl, hm, fun w' hw => ⟨by rw [bcell hw _ _ hb]; exact hcell, hr.below hw⟩⟩
def allB (pss : List (List Nat)) : List Nat := (pss.map bytesL).flatten
def allN (ns : List Nat) : List Nat := (ns.map numL).flatten
theorem allB_snoc {pss : List (List Nat)} {k : Nat} {ps : List Nat} (h : pss[k]? = some ps) : allB (pss.take (k + 1)) = allB (pss.take k) ++ bytesL ps := by
  rw [List.take_add_one, h]; simp [allB]
theorem allN_snoc {ns : List Nat} {k n : Nat} (h : ns[k]? = some n) : allN (ns.take (k + 1)) = allN (ns.take k) ++ numL n := by
  rw [List.take_add_one, h]; simp [allN]
theorem allB_drop {pss : List (List Nat)} {k : Nat} {ps : List Nat} (h : pss[k]? = some ps) : allB (pss.drop k) = bytesL ps ++ allB (pss.drop (k + 1)) := by
  rw [drop_at h]; simp [allB]
theorem allN_drop {ns : List Nat} {k n : Nat} (h : ns[k]? = some n) : allN (ns.drop k) = numL n ++ allN (ns.drop (k + 1)) := by
  rw [drop_at h]; simp [allN]
theorem allN_len : ∀ (ns : List Nat), (∀ n ∈ ns, n < 18446744073709551616) → (allN ns).length ≤ 10 * ns.length
  | [], _ => by simp [allN]
  | n :: t, h => by
    have h1 := Wire.numL_length_10 (h n (by simp))
    have h2 := allN_len t (fun m hm => h m (by simp [hm]))
    have e : allN (n :: t) = numL n ++ allN t := by simp [allN]
    rw [e, List.length_append, List.length_cons]; omega
theorem allB_len : ∀ (pss : List (List Nat)), (∀ ps ∈ pss, ps.length ≤ 300) → (allB pss).length ≤ 310 * pss.length
  | [], _ => by simp [allB]
  | p :: t, h => by
    have h0 := h p (by simp)
    have h1 := Wire.numL_length_10 (show p.length < 18446744073709551616 by omega)
    have h2 := allB_len t (fun m hm => h m (by simp [hm]))
    have e : allB (p :: t) = bytesL p ++ allB t := by simp [allB]
    rw [e, List.length_append, List.length_cons]; simp only [bytesL, List.length_append]; omega
theorem allN_bytes (ns : List Nat) : ∀ x ∈ allN ns, x < 256 := fun x hx => by
  simp only [allN, List.mem_flatten, List.mem_map] at hx
  obtain ⟨_, ⟨n, _, rfl⟩, hx⟩ := hx
  exact Wire.numL_bytes n x hx
theorem allB_bytes {pss : List (List Nat)} (h : ∀ ps ∈ pss, ∀ x ∈ ps, x < 256) : ∀ x ∈ allB pss, x < 256 := fun x hx => by
  simp only [allB, List.mem_flatten, List.mem_map] at hx
  obtain ⟨_, ⟨p, hp, rfl⟩, hx⟩ := hx
  rcases List.mem_append.1 hx with hx | hx
  · exact Wire.numL_bytes _ x hx
  · exact h p hp x hx
theorem mem_app {xs ys : List Nat} (hx : ∀ x ∈ xs, x < 256) (hy : ∀ x ∈ ys, x < 256) : ∀ x ∈ xs ++ ys, x < 256 := fun x h => (List.mem_append.1 h).elim (hx x) (hy x)
theorem bytesL_pos (ps : List Nat) : (bytesL ps).length ≠ 0 := by
  have := Wire.numL_pos ps.length
  simp only [bytesL, List.length_append]; omega

set_option maxRecDepth 20000 in
theorem back_long (An Ap : Option Addr) (nn nc np pc : Nat) (h : 40 < nn ∨ 20 < np) (w : World) :
    Calls Try.prog 5 #[.slice An nn nc, .slice Ap np pc] w fun e w' => e = .returned (.bool true) ∧ Below w.heap.size w w' := by
  by_cases h1 : 40 < nn
  · clear h
    go_enter Try.func5, Try.ntmps5
    go_wp2_with (go_at_call 6; (with_reducible refine (awake_any _).mono ?_); rintro e w1 ⟨rfl, hb1⟩)
    go_ret
    exact ⟨rfl, hb1⟩
  · have h2 : 20 < np := by omega
    have h3 : nn ≤ 40 := by omega
    clear h h1
    go_enter Try.func5, Try.ntmps5
    go_wp2_with (go_at_call 6; (with_reducible refine (awake_any _).mono ?_); rintro e w1 ⟨rfl, hb1⟩)
    go_ret
    exact ⟨rfl, hb1⟩

set_option maxRecDepth 20000 in
set_option maxHeartbeats 4000000 in
theorem back_form {R : Nat → World → Nat → List Nat → Bool → Prop} (K : ReaderOk R) (ns : List Nat) (pss : List (List Nat)) (An Ap : Option Addr) (nn nc np pc : Nat) (hnn : nn = ns.length) (hnp : np = pss.length) (h40 : nn ≤ 40) (h20 : np ≤ 20)
    (hu : ∀ n ∈ ns, n < 18446744073709551616) (hpx : ∀ ps ∈ pss, ∀ x ∈ ps, x < 256) (w0 : World) (hn : RdU w0 (.slice An nn nc) ns) (hp : RdP w0 (.slice Ap np pc) pss) :
    Calls Try.prog 5 #[.slice An nn nc, .slice Ap np pc] w0 fun e w' => e = .returned (.bool true) ∧ Below w0.heap.size w0 w' := by
  have HN := Lib.hid hnn
  have HPN := Lib.hid hnp
  have HUX := Lib.hid hu
  have HPX := Lib.hid hpx
  have HRN := Lib.hid hn
  have HRP := Lib.hid hp
  have KK := K
  clear hnn hnp hu hpx hn hp K
  go_enter Try.func5, Try.ntmps5
  go_wp2
  go_loopw [6] (fun i wr => ∃ (k : Nat) (v : Value), k ≤ np ∧ i = .int .i64 (k : Int) ∧ Hid (Wr w0.heap.size wr w0.heap.size v (allB (pss.take k))) ∧ Below w0.heap.size w0 wr ∧ w0.heap.size < wr.heap.size ∧ Hid (∀ ps ∈ pss.take k, ps.length ≤ 300)) (fun i _ => np - (intOf i).toNat)
  case atStart => exact ⟨0, .slice none 0 0, Nat.zero_le _, rfl, Lib.hid (Wr.new w0), below_alloc _ _, by simp, Lib.hid (by simp)⟩
  case round =>
    obtain ⟨k, v, hk, rfl, HW, hbel, hsz, HL⟩ := hrel
    have hB : w0.heap.size ≤ wr.heap.size := Nat.le_of_lt hsz
    by_cases hkn : k < np
    · obtain ⟨ps, hx⟩ : ∃ x, pss[k]? = some x := ⟨_, List.getElem?_eq_getElem (by rw [← HPN.out]; exact hkn)⟩
      obtain ⟨b, off, A2, m, c2, rfl, hm, hcs⟩ := HRP.out.at_ hx
      obtain ⟨hcell, hrd⟩ := hcs wr hbel
      have hsn := allB_snoc hx
      have hpx := HPX.out ps (List.mem_of_getElem? hx)
      have htk : pss.take (k + 1) = pss.take k ++ [ps] := by rw [List.take_add_one, hx]; rfl
      have HSN := Lib.hid hsn
      have HTK := Lib.hid htk
      have hal := allB_len _ HL.out
      have hln : (allB (pss.take k)).length ≤ 6200 := Nat.le_trans hal (by have : (pss.take k).length ≤ k := List.length_take_le _ _; omega)
      by_cases h3 : 300 < m
      · clear hx hcs hm hsn htk hrd
        go_wp2_with (go_at_call 6; (with_reducible refine (awake_any _).mono ?_); rintro e w1 ⟨rfl, hb1⟩)
        go_ret
        exact ⟨rfl, hbel.trans (hb1.mono hB)⟩
      · have hle : ∀ qs ∈ pss.take (k + 1), qs.length ≤ 300 := by
          rw [HTK.out]
          intro qs hq
          rcases List.mem_append.1 hq with hq | hq
          · exact HL.out qs hq
          · simp at hq; subst hq; omega
        have HLE := Lib.hid hle
        have hby := wbytes_any w0.heap.size w0.heap.size v (allB (pss.take k)) _ ps wr HW.out hrd (by omega) (by omega) hB (fun w' v' hkp => (hcs w' (hbel.trans (hkp.below (Nat.le_refl _) HW.out.base hB))).2)
        have HBY := Lib.hid hby
        clear hx hcs hm hsn htk hrd hle hby hal hln hpx
        go_wp2_with (go_at_call 9; (with_reducible refine (HBY.out).mono ?_); rintro e w1 ⟨v1, rfl, hw1, hkp1⟩; have HW1 := Lib.hid hw1; have hbel1 : Below w0.heap.size w0 w1 := hbel.trans (hkp1.below (Nat.le_refl _) HW.out.base hB); have hsz1 : w0.heap.size < w1.heap.size := Nat.lt_of_lt_of_le hsz hkp1.size; clear hw1)
        rw [← HSN.out] at HW1
        go_roundw
        case rel => exact ⟨k + 1, v1, by omega, by go_num, HW1, hbel1, hsz1, HLE⟩
        case measure => simp [intOf]; omega
    · have hnk : np ≤ k := by omega
      have hall : pss.take k = pss := List.take_of_length_le (by rw [← HPN.out]; exact hnk)
      rw [hall] at HW HL
      have hal := allB_len _ HL.out
      have hln : (allB pss).length ≤ 6200 := Nat.le_trans hal (by have := HPN.out; omega)
      have HAL := Lib.hid hln
      have HB := Lib.hid hB
      clear hall hal hln
      go_wp2
      go_loopw [7] (fun i ws => ∃ (j : Nat) (v : Value), j ≤ nn ∧ i = .int .i64 (j : Int) ∧ Hid (Wr w0.heap.size ws w0.heap.size v (allB pss ++ allN (ns.take j))) ∧ Below w0.heap.size w0 ws ∧ w0.heap.size < ws.heap.size) (fun i _ => nn - (intOf i).toNat)
      case atStart => exact ⟨0, v, Nat.zero_le _, rfl, Lib.hid (by have := HW.out; simpa [allN] using this), hbel, hsz⟩
      case round =>
        obtain ⟨j, v2, hj, rfl, HW2, hbel2, hsz2⟩ := hrel
        have hB2 : w0.heap.size ≤ wr.heap.size := Nat.le_of_lt hsz2
        have hjl := allN_len (ns.take j) (fun n hn => HUX.out n (List.mem_of_mem_take hn))
        have hln2 : (allB pss ++ allN (ns.take j)).length ≤ 6600 := by
          have h1 := HAL.out
          have h2 : (ns.take j).length ≤ j := List.length_take_le _ _
          rw [List.length_append]; omega
        have HLN2 := Lib.hid hln2
        clear hjl hln2
        by_cases hjn : j < nn
        · obtain ⟨x, hx⟩ : ∃ x, ns[j]? = some x := ⟨_, List.getElem?_eq_getElem (by rw [← HN.out]; exact hjn)⟩
          obtain ⟨b, off, rfl, hcs⟩ := HRN.out.at_ hx
          have hcell := hcs wr hbel2
          have hsn : allB pss ++ allN (ns.take (j + 1)) = (allB pss ++ allN (ns.take j)) ++ numL x := by rw [allN_snoc hx, List.append_assoc]
          have HSN := Lib.hid hsn
          have hxu := HUX.out x (List.mem_of_getElem? hx)
          have hnum := wnum_any w0.heap.size w0.heap.size v2 (allB pss ++ allN (ns.take j)) x hxu wr HW2.out (by have := HLN2.out; omega) hB2
          have HNUM := Lib.hid hnum
          clear hx hcs hsn hnum
          go_wp2_with (go_at_call 7; (with_reducible refine (HNUM.out).mono ?_); rintro e w1 ⟨v1, rfl, hw1, hkp1⟩; have HW1 := Lib.hid hw1; have hbel1 : Below w0.heap.size w0 w1 := hbel2.trans (hkp1.below (Nat.le_refl _) HW2.out.base hB2); have hsz1 : w0.heap.size < w1.heap.size := Nat.lt_of_lt_of_le hsz2 hkp1.size; clear hw1)
          rw [← HSN.out] at HW1
          go_roundw
          case rel => exact ⟨j + 1, v1, by omega, by go_num, HW1, hbel1, hsz1⟩
          case measure => simp [intOf]; omega
        · have hnj : nn ≤ j := by omega
          have hall2 : ns.take j = ns := List.take_of_length_le (by rw [← HN.out]; exact hnj)
          rw [hall2] at HW2 HLN2
          have hdone := wdone_any _ _ _ _ wr HW2.out (by have := HLN2.out; omega)
          have HDONE := Lib.hid hdone
          have hall3 : ∀ x ∈ allB pss ++ allN ns, x < 256 := mem_app (allB_bytes HPX.out) (allN_bytes ns)
          have HALL := Lib.hid hall3
          clear hall2 hdone hall3
          go_wp2_with (first
            | (go_at_call 12; (with_reducible refine (HDONE.out).mono ?_); rintro e w1 ⟨v1, rfl, hown1, hb1⟩; have HR1 := Lib.hid hown1.rd; have hbel1 : Below w0.heap.size w0 w1 := hbel2.trans (hb1.mono hB2); clear hown1)
            | (go_at_call 13; (with_reducible refine (KK.read _ _ _ HR1.out (by have := HLN2.out; omega) HALL.out).mono ?_); rintro e w2 ⟨g, rfl, hr2, hb2⟩; have hbel3 : Below w0.heap.size w0 w2 := hbel1.trans (hb2.mono hbel1.size); have HRR2 := Lib.hid (KK.base hr2 hbel1.size); clear hr2))
          go_loopw [9] (fun i ws => ∃ (k : Nat), k ≤ np ∧ i = .int .i64 (k : Int) ∧ Hid (R w0.heap.size ws g (allB (pss.drop k) ++ allN ns) false) ∧ Below w0.heap.size w0 ws) (fun i _ => np - (intOf i).toNat)
          case atStart => exact ⟨0, Nat.zero_le _, rfl, Lib.hid (by rw [List.drop_zero]; exact HRR2.out), hbel3⟩
          case round =>
            obtain ⟨k, hk, rfl, HRR, hbel⟩ := hrel
            by_cases hkn2 : k < np
            · obtain ⟨ps, hx⟩ : ∃ x, pss[k]? = some x := ⟨_, List.getElem?_eq_getElem (by rw [← HPN.out]; exact hkn2)⟩
              obtain ⟨b, off, A2, m, c2, rfl, hm, hcs⟩ := HRP.out.at_ hx
              have HP := Lib.hid hcs
              have hdr := allB_drop hx
              have h300 := HL.out ps (List.mem_of_getElem? hx)
              have e1 : allB (pss.drop k) ++ allN ns = bytesL ps ++ (allB (pss.drop (k + 1)) ++ allN ns) := by rw [hdr, List.append_assoc]
              have e2 : runL (allB (pss.drop k) ++ allN ns) = (ps, (bytesL ps).length) := by rw [e1]; exact Wire.runL_bytes ps _ (by omega)
              have e3 : leftS (allB (pss.drop k) ++ allN ns) false (bytesL ps).length = (allB (pss.drop (k + 1)) ++ allN ns, false) := by
                unfold leftS; rw [if_neg (bytesL_pos ps), e1, List.drop_left]
              have hlenk : (allB (pss.drop k) ++ allN ns).length ≤ 100000 := by
                have h1 := allB_len (pss.drop k) (fun q hq => HL.out q (List.mem_of_mem_drop hq))
                have h2 := allN_len ns HUX.out
                have h3 : (pss.drop k).length ≤ pss.length := by simp
                have := HPN.out; have := HN.out
                rw [List.length_append]; omega
              have hby := fun w2 (hr : R w0.heap.size w2 g (allB (pss.drop k) ++ allN ns) false) (hB : w0.heap.size ≤ w2.heap.size) => KK.bytes w0.heap.size g _ false w2 hr hB hlenk (mem_app (allB_bytes (fun q hq => HPX.out q (List.mem_of_mem_drop hq))) (allN_bytes ns))
              rw [e2] at hby
              simp only [e3] at hby
              have HBY := Lib.hid hby
              have hb0 : Below w0.heap.size w0 wr.drew := hbel.trans (Below.refl _ wr).drew
              clear hx hcs hdr e1 e2 e3 hlenk hby hm h300
              go_wp2
              refine wp_region_noPanic ?_
              refine wp_region_held_drew (S := fun w' => Below w0.heap.size w0 w') (by kernel_rfl) hb0 (fun HH => ?_)
              refine wpAnyH_take (i := 0) (v := ?_) rfl (by kernel_rfl) (by kernel_rfl) (by kernel_rfl) (fun _ _ _ h => h) (Or.inl ⟨by rfl, ?_⟩) HH ?_
              rotate_left
              · intro w hSw; go_simp; try with_reducible rfl
              simp only [List.getElem_toArray, List.getElem_cons_succ, List.getElem_cons_zero, Act.put, List.setIfInBounds_toArray, List.set_cons_zero, List.set_cons_succ]
              refine wpAnyH_take (i := 3) (v := ?_) rfl (by kernel_rfl) (by kernel_rfl) (by kernel_rfl) (fun _ _ _ h => h) (Or.inl ⟨by rfl, ?_⟩) HH ?_
              rotate_left
              · intro w hSw; go_simp; try with_reducible rfl
              simp only [List.getElem_toArray, List.getElem_cons_succ, List.getElem_cons_zero, Act.put, List.setIfInBounds_toArray, List.set_cons_zero, List.set_cons_succ]
              refine wpAnyH_take (i := 4) (v := ?_) rfl (by kernel_rfl) (by kernel_rfl) (by kernel_rfl) (fun _ _ _ h => h) (Or.inl ⟨by rfl, ?_⟩) HH ?_
              rotate_left
              · intro w hSw; go_simp; try with_reducible rfl
              simp only [List.getElem_toArray, List.getElem_cons_succ, List.getElem_cons_zero, Act.put, List.setIfInBounds_toArray, List.set_cons_zero, List.set_cons_succ]
              refine wpAnyH_take (i := 5) (v := ?_) rfl (by kernel_rfl) (by kernel_rfl) (by kernel_rfl) (fun _ _ _ h => h) (Or.inl ⟨by rfl, ?_⟩) HH ?_
              rotate_left
              · intro w hSw; go_simp; try with_reducible rfl
              simp only [List.getElem_toArray, List.getElem_cons_succ, List.getElem_cons_zero, Act.put, List.setIfInBounds_toArray, List.set_cons_zero, List.set_cons_succ]
              refine wpAnyH_take (i := 6) (v := ?_) rfl (by kernel_rfl) (by kernel_rfl) (by kernel_rfl) (fun _ _ _ h => h) (Or.inl ⟨by rfl, ?_⟩) HH ?_
              rotate_left
              · intro w hSw; have hc0 := (HP.out w hSw).1; go_simp; try with_reducible rfl
              simp only [List.getElem_toArray, List.getElem_cons_succ, List.getElem_cons_zero, Act.put, List.setIfInBounds_toArray, List.set_cons_zero, List.set_cons_succ]
              refine wpAnyH_take (i := 7) (v := ?_) rfl (by kernel_rfl) (by kernel_rfl) (by kernel_rfl) (fun _ _ _ h => h) (Or.inl ⟨by rfl, ?_⟩) HH ?_
              rotate_left
              · intro w hSw; have hcv := conv_rd (HP.out w hSw).2; go_simp; try with_reducible rfl
              simp only [List.getElem_toArray, List.getElem_cons_succ, List.getElem_cons_zero, Act.put, List.setIfInBounds_toArray, List.set_cons_zero, List.set_cons_succ]
              refine wpAnyH_ready (rs := [1]) (by kernel_rfl) (by simp) ?_
              refine AllReadyH.cons rfl (fun K hK => ?_) AllReadyH.nil
              go_simp
              go_at_call 18
              refine (HBY.out _ (KK.keep HRR.out (Below.refl _ wr).drew) hbel.size).mono ?_
              rintro e w4 ⟨v84, rfl, hr84, hr4, hb4⟩
              have hbel4 : Below w0.heap.size w0 w4 := hb0.trans hb4
              have HRR4 := Lib.hid hr4
              have hcW := conv_rd hr84
              clear hr4 hb4
              go_simp
              refine hK.out _ _ hbel4 (fun HG1 => ?_)
              clear hK
              try simp only [List.getElem_toArray, List.getElem_cons_succ, List.getElem_cons_zero, Act.put, List.setIfInBounds_toArray, List.set_cons_zero, List.set_cons_succ]
              refine wpAnyH_ready (rs := [2]) (by kernel_rfl) (by simp) ?_
              refine AllReadyH.cons rfl (fun K hK => ?_) AllReadyH.nil
              go_simp
              refine hK.out _ _ hbel4 (fun HG2 => ?_)
              clear hK
              try simp only [List.getElem_toArray, List.getElem_cons_succ, List.getElem_cons_zero, Act.put, List.setIfInBounds_toArray, List.set_cons_zero, List.set_cons_succ]
              refine wpAnyH_take (i := 8) (v := ?_) rfl (by kernel_rfl) (by kernel_rfl) (by kernel_rfl) (fun _ _ _ h => h) (Or.inl ⟨by rfl, ?_⟩) HG2 ?_
              rotate_left
              · intro w hSw; go_simp; try with_reducible rfl
              simp only [List.getElem_toArray, List.getElem_cons_succ, List.getElem_cons_zero, Act.put, List.setIfInBounds_toArray, List.set_cons_zero, List.set_cons_succ]
              refine wpAnyH_done (by kernel_rfl) ?_ _
              refine NoPanic.normal ?_
              go_wp2
              go_roundw
              case rel => exact ⟨k + 1, by omega, by go_num, HRR4, hbel4⟩
              case measure => simp [intOf]; omega
            · have hnk2 : np ≤ k := by omega
              have hdn : allB (pss.drop k) ++ allN ns = allN ns := by rw [List.drop_of_length_le (by rw [← HPN.out]; exact hnk2)]; rfl
              rw [hdn] at HRR
              clear hdn
              go_wp2
              go_loopw [10] (fun i ws => ∃ (j : Nat), j ≤ nn ∧ i = .int .i64 (j : Int) ∧ Hid (R w0.heap.size ws g (allN (ns.drop j)) false) ∧ Below w0.heap.size w0 ws) (fun i _ => nn - (intOf i).toNat)
              case atStart => exact ⟨0, Nat.zero_le _, rfl, Lib.hid (by rw [List.drop_zero]; exact HRR.out), hbel⟩
              case round =>
                clear HRR
                obtain ⟨j, hj2, rfl, HRR, hbel⟩ := hrel
                by_cases hjn2 : j < nn
                · obtain ⟨x, hx⟩ : ∃ x, ns[j]? = some x := ⟨_, List.getElem?_eq_getElem (by rw [← HN.out]; exact hjn2)⟩
                  obtain ⟨b, off, rfl, hcs⟩ := HRN.out.at_ hx
                  have HU := Lib.hid hcs
                  have hxu := HUX.out x (List.mem_of_getElem? hx)
                  have e2 : takeL (allN (ns.drop j)) = (x, (numL x).length) := by rw [allN_drop hx]; exact Wire.takeL_num x hxu _
                  have e3 : leftS (allN (ns.drop j)) false (numL x).length = (allN (ns.drop (j + 1)), false) := by
                    unfold leftS; rw [if_neg (by have := Wire.numL_pos x; omega), allN_drop hx, List.drop_left]
                  have hlenj : (allN (ns.drop j)).length ≤ 100000 := by
                    have h2 := allN_len (ns.drop j) (fun q hq => HUX.out q (List.mem_of_mem_drop hq))
                    have h3 : (ns.drop j).length ≤ ns.length := by simp
                    have := HN.out; omega
                  have hnu := fun w2 (hr : R w0.heap.size w2 g (allN (ns.drop j)) false) (hB : w0.heap.size ≤ w2.heap.size) => KK.num w0.heap.size g _ false w2 hr hB hlenj (allN_bytes _)
                  rw [e2] at hnu
                  simp only [e3] at hnu
                  have HNU := Lib.hid hnu
                  have hb0 : Below w0.heap.size w0 wr.drew := hbel.trans (Below.refl _ wr).drew
                  clear hx hcs e2 e3 hlenj hnu hxu
                  go_wp2
                  refine wp_region_noPanic ?_
                  refine wp_region_held_drew (S := fun w' => Below w0.heap.size w0 w') (by kernel_rfl) hb0 (fun HH => ?_)
                  refine wpAnyH_take (i := 0) (v := ?_) rfl (by kernel_rfl) (by kernel_rfl) (by kernel_rfl) (fun _ _ _ h => h) (Or.inl ⟨by rfl, ?_⟩) HH ?_
                  rotate_left
                  · intro w hSw; go_simp; try with_reducible rfl
                  simp only [List.getElem_toArray, List.getElem_cons_succ, List.getElem_cons_zero, Act.put, List.setIfInBounds_toArray, List.set_cons_zero, List.set_cons_succ]
                  refine wpAnyH_take (i := 2) (v := ?_) rfl (by kernel_rfl) (by kernel_rfl) (by kernel_rfl) (fun _ _ _ h => h) (Or.inl ⟨by rfl, ?_⟩) HH ?_
                  rotate_left
                  · intro w hSw; go_simp; try with_reducible rfl
                  simp only [List.getElem_toArray, List.getElem_cons_succ, List.getElem_cons_zero, Act.put, List.setIfInBounds_toArray, List.set_cons_zero, List.set_cons_succ]
                  refine wpAnyH_take (i := 3) (v := ?_) rfl (by kernel_rfl) (by kernel_rfl) (by kernel_rfl) (fun _ _ _ h => h) (Or.inl ⟨by rfl, ?_⟩) HH ?_
                  rotate_left
                  · intro w hSw; go_simp; try with_reducible rfl
                  simp only [List.getElem_toArray, List.getElem_cons_succ, List.getElem_cons_zero, Act.put, List.setIfInBounds_toArray, List.set_cons_zero, List.set_cons_succ]
                  refine wpAnyH_take (i := 4) (v := ?_) rfl (by kernel_rfl) (by kernel_rfl) (by kernel_rfl) (fun _ _ _ h => h) (Or.inl ⟨by rfl, ?_⟩) HH ?_
                  rotate_left
                  · intro w hSw; go_simp; try with_reducible rfl
                  simp only [List.getElem_toArray, List.getElem_cons_succ, List.getElem_cons_zero, Act.put, List.setIfInBounds_toArray, List.set_cons_zero, List.set_cons_succ]
                  refine wpAnyH_take (i := 5) (v := ?_) rfl (by kernel_rfl) (by kernel_rfl) (by kernel_rfl) (fun _ _ _ h => h) (Or.inl ⟨by rfl, ?_⟩) HH ?_
                  rotate_left
                  · intro w hSw; have hc0 := HU.out w hSw; go_simp; try with_reducible rfl
                  simp only [List.getElem_toArray, List.getElem_cons_succ, List.getElem_cons_zero, Act.put, List.setIfInBounds_toArray, List.set_cons_zero, List.set_cons_succ]
                  refine wpAnyH_ready (rs := [1]) (by kernel_rfl) (by simp) ?_
                  refine AllReadyH.cons rfl (fun K hK => ?_) AllReadyH.nil
                  go_simp
                  go_at_call 16
                  refine (HNU.out _ (KK.keep HRR.out (Below.refl _ wr).drew) hbel.size).mono ?_
                  rintro e w4 ⟨rfl, hr4, hb4⟩
                  have hbel4 : Below w0.heap.size w0 w4 := hb0.trans hb4
                  have HRR4 := Lib.hid hr4
                  clear hr4 hb4
                  go_simp
                  refine hK.out _ _ hbel4 (fun HG1 => ?_)
                  clear hK
                  try simp only [List.getElem_toArray, List.getElem_cons_succ, List.getElem_cons_zero, Act.put, List.setIfInBounds_toArray, List.set_cons_zero, List.set_cons_succ]
                  refine wpAnyH_take (i := 6) (v := ?_) rfl (by kernel_rfl) (by kernel_rfl) (by kernel_rfl) (fun _ _ _ h => h) (Or.inl ⟨by rfl, ?_⟩) HG1 ?_
                  rotate_left
                  · intro w hSw; go_simp; try with_reducible rfl
                  simp only [List.getElem_toArray, List.getElem_cons_succ, List.getElem_cons_zero, Act.put, List.setIfInBounds_toArray, List.set_cons_zero, List.set_cons_succ]
                  refine wpAnyH_done (by kernel_rfl) ?_ _
                  refine NoPanic.normal ?_
                  go_wp2
                  go_roundw
                  case rel => exact ⟨j + 1, by omega, by go_num, HRR4, hbel4⟩
                  case measure => simp [intOf]; omega
                · have hnj2 : nn ≤ j := by omega
                  have hdn : allN (ns.drop j) = [] := by rw [List.drop_of_length_le (by rw [← HN.out]; exact hnj2)]; rfl
                  rw [hdn] at HRR
                  have hend := KK.end_ _ _ _ _ wr HRR.out (by simp)
                  have HEND := Lib.hid hend
                  clear hdn hend
                  go_wp2_with (first
                    | (go_at_call 22; (with_reducible refine (HEND.out).mono ?_); rintro e w5 ⟨rfl, rfl⟩)
                    | (go_at_call 6; (with_reducible refine (awake_any _).mono ?_); rintro e w6 ⟨rfl, hb6⟩))
                  go_ret
                  exact ⟨rfl, hbel.trans (hb6.mono hbel.size)⟩

/-- WireBack. -/
theorem law_back {R : Nat → World → Nat → List Nat → Bool → Prop} (K : ReaderOk R) (v : Value) (ns : List Nat) (vp : Value) (pss : List (List Nat)) (w : World) (h : RdU w v ns ∧ ∀ n ∈ ns, n < 18446744073709551616) (h2 : RdP w vp pss ∧ ∀ ps ∈ pss, ∀ x ∈ ps, x < 256) :
    Calls Try.prog 5 #[v, vp] w fun e w' => e = .returned (.bool true) ∧ Below w.heap.size w w' := by
  obtain ⟨hn, hu⟩ := h
  obtain ⟨hp, hx⟩ := h2
  have hv : ∃ A n c, v = .slice A n c ∧ n = ns.length := by
    rcases hn with ⟨p, c, rfl, rfl⟩ | ⟨b, off, cap, rfl, _⟩
    · exact ⟨p, 0, c, rfl, rfl⟩
    · exact ⟨_, _, cap, rfl, rfl⟩
  obtain ⟨An, nn, nc, rfl, hnn⟩ := hv
  obtain ⟨Ap, np, pc, rfl, hnp, _⟩ := hp.form2
  by_cases h40 : 40 < nn ∨ 20 < np
  · exact back_long An Ap nn nc np pc h40 w
  · exact back_form K ns pss An Ap nn nc np pc hnn hnp (by omega) (by omega) hu hx w hn hp
end Go.Proofs.Ytcgkigcokjdkjaa
