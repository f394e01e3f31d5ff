/-
The reference of stage 6: Of and Cut, by contracts.
-/
import Derived.Test.YtepafmoohlognaaKFull
namespace Go.Proofs.Ytepafmoohlognaa
open Go.RowKit

/-- A clock's sixty-four numbers. -/
def padF (xs : List Nat) : List Nat := xs ++ List.replicate (64 - xs.length) 0
theorem padF_len {xs : List Nat} (h : xs.length ≤ 64) : (padF xs).length = 64 := by unfold padF; simp; omega
def padK (xs : List Nat) (k : Nat) : List Nat := xs.take k ++ List.replicate (64 - k) 0
theorem padK_end {xs : List Nat} {k : Nat} (h : k = xs.length) : padK xs k = padF xs := by unfold padK padF; rw [List.take_of_length_le (by omega), h]
theorem padK_set {xs : List Nat} {k x : Nat} (hx : xs[k]? = some x) (h64 : k < 64) : (padK xs k).set k x = padK xs (k + 1) := by
  have h1 := (List.getElem?_eq_some_iff.1 hx).1
  have hl : (xs.take k).length = k := by rw [List.length_take]; omega
  unfold padK
  rw [List.set_append, if_neg (by omega), hl, Nat.sub_self, show 64 - k = (64 - (k + 1)) + 1 from by omega, List.replicate_succ, List.set_cons_zero, List.take_add_one, hx, List.append_assoc]
  rfl
theorem padK_get {xs : List Nat} {k : Nat} (h : k ≤ xs.length) (h64 : k < 64) : (padK xs k)[k]? = some 0 := by
  have hl : (xs.take k).length = k := by rw [List.length_take]; omega
  unfold padK
  rw [List.getElem?_append_right (by omega), hl, Nat.sub_self, show 64 - k = (64 - (k + 1)) + 1 from by omega, List.replicate_succ]
  rfl
/-- The two rows of the call. -/
def TwoF (w wr : World) (Z F : List Nat) : Prop := Row wr w.heap.size Z ∧ Row wr (w.heap.size + 1) F ∧ Below w.heap.size w wr
theorem twoF_start (w : World) : TwoF w ((w.alloc (.cells (fullA (List.replicate 64 0)) 28)).alloc (.cells (fullA (List.replicate 64 0)) 28)) (List.replicate 64 0) (List.replicate 64 0) :=
  ⟨⟨heap_old (heap_new rfl), by simp⟩, ⟨heap_new (by simp), by simp⟩, below2 w _ _⟩
theorem TwoF.set {w wr : World} {F Z F' : List Nat} (h : TwoF w wr Z F) {k : Nat} (x : Nat) (e : F.set k x = F') : TwoF w (wr.setCell ⟨w.heap.size + 1, k, none⟩ (.int .u64 (x : Int))) Z F' :=
  ⟨h.1.block (Below.heap_setCell _ _ _ _ (by show _ ≠ w.heap.size + 1; omega)), e ▸ h.2.1.set k x, h.2.2.setCell (p := ⟨w.heap.size + 1, k, none⟩) (Nat.le_succ _) _⟩

set_option maxRecDepth 20000 in
set_option maxHeartbeats 1000000 in
theorem rof_form (xs : List Nat) (n c : Nat) (A : Option Addr) (hn : n = xs.length) (hl : n ≤ 64) (w : World) (h : RdU w (.slice A n c) xs) :
    Calls Try.prog 8 #[.slice A n c] w fun e w' => e = .returned (.agg (fullA (padF xs))) ∧ Below w.heap.size w w' := by
  have HN := Lib.hid hn
  have HR := Lib.hid h
  clear hn h
  go_enter Try.func8, Try.ntmps8
  go_wp2
  go_loopw [4] (fun i wr => ∃ (k : Nat), k ≤ n ∧ i = .int .i64 (k : Int) ∧ Hid (TwoF w wr (List.replicate 64 0) (padK xs k))) (fun i _ => n - (intOf i).toNat)
  case atStart => exact ⟨0, Nat.zero_le _, rfl, Lib.hid (twoF_start w)⟩
  case round =>
    obtain ⟨k, hk, rfl, HT⟩ := hrel
    by_cases hkn : k < n
    · have hk64 : k < 64 := by omega
      obtain ⟨x, hx⟩ : ∃ x, xs[k]? = some x := ⟨_, List.getElem?_eq_getElem (by rw [← HN.out]; exact hkn)⟩
      obtain ⟨b, off, rfl, hcs⟩ := HR.out.at_ hx
      have p0 := hcs wr HT.out.2.2
      have q0 := HT.out.2.1.cell (padK_get (by rw [← HN.out]; exact hk) hk64)
      have f0 := HT.out.2.1.frozen k
      have HTN := Lib.hid (HT.out.set x (padK_set hx hk64))
      clear hx hcs
      go_wp2
      go_roundw
      case rel => exact ⟨k + 1, by omega, by go_num, HTN⟩
      case measure => simp [intOf]; omega
    · obtain rfl : k = n := by omega
      have hT := HT.out
      rw [padK_end HN.out] at hT
      have HT2 := Lib.hid hT
      have HPL := Lib.hid (padF_len (xs := xs) (by rw [← HN.out]; exact hl))
      clear hT hkn
      go_wp2_with (first
        | (refine wp_loadF rfl _ rfl (w.heap.size + 1) rfl _ HT2.out.2.1 ?_)
        | (refine wp_storeF rfl _ _ rfl w.heap.size rfl _ (padF xs) rfl HT2.out.1 HPL.out ?_; intro w2 hr2 ho2 hb2; have HR2 := Lib.hid hr2; have HB2 := Lib.hid hb2; clear hr2 ho2 hb2))
      refine bodyPost_ret (v := .agg (fullA (padF xs))) ?_ rfl ⟨rfl, HT2.out.2.2.trans (HB2.out _ (Nat.le_refl _))⟩
      simp [results, Try.results8, Act.put, asAddr, loadF HR2.out]

/-- How many numbers there are ahead of the noughts at the end. -/
def cutN (F : List Nat) : Nat := (F.reverse.dropWhile (· == 0)).length
def cutF (F : List Nat) : List Nat := F.take (cutN F)
theorem cutN_le (F : List Nat) : cutN F ≤ F.length := by
  unfold cutN
  have := (List.dropWhile_suffix (l := F.reverse) (· == 0)).length_le
  simpa using this
theorem cutN_of {F : List Nat} {k : Nat} (hk : k ≤ F.length) (h0 : ∀ j x, k ≤ j → F[j]? = some x → x = 0) (h1 : k = 0 ∨ ∃ x, F[k - 1]? = some x ∧ x ≠ 0) : cutN F = k := by
  have e : F = F.take k ++ List.replicate (F.length - k) 0 := by
    apply List.ext_getElem?
    intro i
    rcases Nat.lt_or_ge i k with h | h
    · rw [List.getElem?_append_left (by rw [List.length_take]; omega), List.getElem?_take, if_pos h]
    · rw [List.getElem?_append_right (by rw [List.length_take]; omega), List.length_take, Nat.min_eq_left hk]
      rcases Nat.lt_or_ge i F.length with h2 | h2
      · obtain ⟨x, hx⟩ : ∃ x, F[i]? = some x := ⟨_, List.getElem?_eq_getElem h2⟩
        rw [hx, h0 i x h hx, List.getElem?_replicate, if_pos (by omega)]
      · rw [List.getElem?_eq_none h2, List.getElem?_replicate, if_neg (by omega)]
  have hd : ∀ (m : Nat) (l : List Nat), (List.replicate m 0 ++ l).dropWhile (· == 0) = l.dropWhile (· == 0) := by
    intro m
    induction m with
    | zero => intro l; rfl
    | succ m ih => intro l; rw [List.replicate_succ, List.cons_append, List.dropWhile_cons, if_pos (by rfl)]; exact ih l
  unfold cutN
  rw [e, List.reverse_append, List.reverse_replicate, hd]
  rcases h1 with rfl | ⟨x, hx, hne⟩
  · simp
  · rcases k with _ | k
    · simp
    · rw [Nat.add_sub_cancel] at hx
      rw [List.take_add_one, hx]
      simp only [Option.toList, List.reverse_append, List.reverse_cons, List.reverse_nil, List.nil_append, List.singleton_append]
      rw [List.dropWhile_cons, if_neg (by simpa using hne)]
      simp
      omega

/-- A row cut up to a place. -/
theorem row_slice {w : World} {g : Nat} {F : List Nat} (h : Row w g F) {k : Nat} (hk : k ≤ 64) : RdU w (.slice (some ⟨g, 0, none⟩) k 64) (F.take k) := by
  have hl : (F.take k).length = k := by rw [List.length_take]; have := h.2; omega
  refine .inr ⟨g, 0, 64, by rw [hl], by omega, by decide, h.lt, fun j x hj => ?_⟩
  rw [List.getElem?_take] at hj
  split at hj
  · rw [Nat.zero_add]; exact h.cell hj
  · cases hj

set_option maxRecDepth 20000 in
set_option maxHeartbeats 1000000 in
theorem rcut_form (F : List Nat) (hF : F.length = 64) (w : World) :
    Calls Try.prog 26 #[.agg (fullA F)] w fun e w' => ∃ v', e = .returned v' ∧ OwnU w.heap.size w' v' (cutF F) ∧ Below w.heap.size w w' := by
  have hrow := row_new (w := w) rfl hF
  have HF := Lib.hid hF
  have HROW := Lib.hid hrow
  clear hF hrow
  go_enter Try.func26, Try.ntmps26
  go_wp2
  go_loop [3] (fun i => ∃ (k : Nat), k ≤ 64 ∧ i = .int .i64 (k : Int) ∧ Hid (∀ j x, k ≤ j → F[j]? = some x → x = 0)) (fun i => (intOf i).toNat)
  case atStart => exact ⟨64, Nat.le_refl _, rfl, Lib.hid (fun j x hj hx => by have := (List.getElem?_eq_some_iff.1 hx).1; have := HF.out; omega)⟩
  case round =>
    obtain ⟨k, hk, rfl, HZ⟩ := hrel
    by_cases hk0 : k = 0
    · subst hk0
      have hcn : cutN F = 0 := cutN_of (Nat.zero_le _) HZ.out (.inl rfl)
      have hcf : cutF F = [] := by unfold cutF; rw [hcn]; rfl
      have HCF := Lib.hid hcf
      have hrd : RdU ((w.alloc (.cells (fullA F) 28)).alloc (.cells #[] 26)) (.slice (some ⟨w.heap.size, 0, none⟩) 0 64) [] := .inl ⟨_, _, rfl, rfl, fun e => by cases e⟩
      have HRD := Lib.hid hrd
      have hown := OwnU.empty w.heap.size (w.alloc (.cells (fullA F) 28)) (g := w.heap.size + 1) (by simp) (by simp)
      have HOWN := Lib.hid hown
      clear hcn hcf hrd hown
      go_wp2_with (at_builtin; refine wp_appU _ Try.underlying22 rfl _ _ rfl w.heap.size _ [] rfl HOWN.out _ [] rfl HRD.out (by simp) (by simp; omega) ?_; intro v1 w1 hown1 hbel1 _ _)
      go_ret
      exact ⟨_, rfl, by rw [HCF.out]; exact hown1, ((below_alloc w _).alloc (by simp) _).trans hbel1⟩
    · obtain ⟨m, rfl⟩ : ∃ m, k = m + 1 := ⟨k - 1, by omega⟩
      obtain ⟨x, hx⟩ : ∃ x, F[m]? = some x := ⟨_, List.getElem?_eq_getElem (by have := HF.out; omega)⟩
      have p0 := HROW.out.cell hx
      have HX := Lib.hid hx
      clear hx
      by_cases hx0 : x = 0
      · have t0 : ((x : Int) == 0) = true := by simp; exact hx0
        have hz : ∀ j y, m ≤ j → F[j]? = some y → y = 0 := by
          intro j y hj hy
          rcases Nat.lt_or_ge m j with h | h
          · exact HZ.out j y h hy
          · obtain rfl : j = m := by omega
            have e := HX.out.symm.trans hy
            injection e with e
            rw [← e]; exact hx0
        have HZ2 := Lib.hid hz
        clear hz hx0
        go_wp2
        go_round
        case rel => exact ⟨m, by omega, rfl, HZ2⟩
        case measure => simp [intOf]
      · have t0 : ((x : Int) == 0) = false := by simp; exact hx0
        have hcn : cutN F = m + 1 := cutN_of (by have := HF.out; omega) HZ.out (.inr ⟨x, by rw [Nat.add_sub_cancel]; exact HX.out, hx0⟩)
        have hcf : cutF F = F.take (m + 1) := by unfold cutF; rw [hcn]
        have HCF := Lib.hid hcf
        have hrd : RdU ((w.alloc (.cells (fullA F) 28)).alloc (.cells #[] 26)) (.slice (some ⟨w.heap.size, 0, none⟩) (m + 1) 64) (F.take (m + 1)) := (row_slice HROW.out hk).below (below_alloc _ _)
        have HRD := Lib.hid hrd
        have hown := OwnU.empty w.heap.size (w.alloc (.cells (fullA F) 28)) (g := w.heap.size + 1) (by simp) (by simp)
        have HOWN := Lib.hid hown
        have HSZ := Lib.hid (show (F.take (m + 1)).length ≤ 64 by rw [List.length_take]; omega)
        have hal : (Try.prog.arrayLen 28 : Int) = 64 := by kernel_rfl
        have hb1 : (0 : Int) ≤ (m : Int) + 1 := by omega
        have hb2 : (m : Int) + 1 ≤ 64 := by omega
        clear hcn hcf hrd hown hx0
        go_wp2_with (at_builtin; refine wp_appU _ Try.underlying22 rfl _ _ rfl w.heap.size _ [] rfl HOWN.out _ (F.take (m + 1)) rfl HRD.out (by have := HSZ.out; simp only [List.length_nil]; omega) (by simp; omega) ?_; intro v1 w1 hown1 hbel1 _ _)
        go_ret
        exact ⟨_, rfl, by rw [HCF.out]; exact hown1, ((below_alloc w _).alloc (by simp) _).trans hbel1⟩
end Go.Proofs.Ytepafmoohlognaa
