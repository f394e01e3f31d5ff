/-
The reference of stage 6: Join and Meet, by contracts.
-/
import Derived.Test.YtepafmoohlognaaKFull
namespace Go.Proofs.Ytepafmoohlognaa
open Go.RowKit

/-- The first k numbers are reckoned. -/
def uptoF (f : Nat → Nat → Nat) (F G : List Nat) (k : Nat) : List Nat := (List.zipWith f F G).take k ++ F.drop k
theorem upto_get {f : Nat → Nat → Nat} {F G : List Nat} {k x y : Nat} (hx : F[k]? = some x) (hy : G[k]? = some y) : (uptoF f F G k)[k]? = some x := by
  have h1 := (List.getElem?_eq_some_iff.1 hx).1
  have h2 := (List.getElem?_eq_some_iff.1 hy).1
  have hl : ((List.zipWith f F G).take k).length = k := by rw [List.length_take, List.length_zipWith]; omega
  unfold uptoF
  rw [List.getElem?_append_right (by omega), hl, Nat.sub_self, List.getElem?_drop, Nat.add_zero]
  exact hx
theorem upto_set {f : Nat → Nat → Nat} {F G : List Nat} {k x y : Nat} (hx : F[k]? = some x) (hy : G[k]? = some y) : (uptoF f F G k).set k (f x y) = uptoF f F G (k + 1) := by
  have h1 := (List.getElem?_eq_some_iff.1 hx).1
  have h2 := (List.getElem?_eq_some_iff.1 hy).1
  have hl : ((List.zipWith f F G).take k).length = k := by rw [List.length_take, List.length_zipWith]; omega
  have hz : (List.zipWith f F G)[k]? = some (f x y) := by rw [List.getElem?_zipWith, hx, hy]
  unfold uptoF
  rw [List.set_append, if_neg (by omega), hl, Nat.sub_self, drop_at hx, List.set_cons_zero, List.take_add_one, hz, List.append_assoc]
  rfl
theorem set_same {l : List Nat} {k x : Nat} (h : l[k]? = some x) : l.set k x = l := by
  apply List.ext_getElem?
  intro i
  rw [List.getElem?_set]
  split
  · rename_i e
    subst e
    have := (List.getElem?_eq_some_iff.1 h).1
    rw [if_pos this, h]
  · rfl
theorem upto_end {f : Nat → Nat → Nat} {F G : List Nat} (hF : F.length = 64) (hG : G.length = 64) : uptoF f F G 64 = List.zipWith f F G := by
  unfold uptoF
  rw [List.take_of_length_le (by rw [List.length_zipWith]; omega), List.drop_of_length_le (by omega), List.append_nil]
/-- The three rows of the call. -/
def Three (w wr : World) (F G Z : List Nat) : Prop := Row wr w.heap.size F ∧ Row wr (w.heap.size + 1) G ∧ Row wr (w.heap.size + 1 + 1) Z ∧ Below w.heap.size w wr
theorem three_start (w : World) {F G : List Nat} (hF : F.length = 64) (hG : G.length = 64) : Three w (((w.alloc (.cells (fullA F) 28)).alloc (.cells (fullA G) 28)).alloc (.cells (fullA (List.replicate 64 0)) 28)) F G (List.replicate 64 0) :=
  ⟨⟨heap_old (heap_old (heap_new rfl)), hF⟩, ⟨heap_old (heap_new (by simp)), hG⟩, ⟨heap_new (by simp), by simp⟩, below3 w _ _ _⟩
theorem Three.drewN {w wr : World} {F G Z : List Nat} (h : Three w wr F G Z) (n : Nat) : Three w (wr.drewN n) F G Z := ⟨h.1, h.2.1, h.2.2.1, h.2.2.2.trans ⟨rfl, rfl, rfl, Nat.le_refl _, fun _ _ => rfl⟩⟩
theorem Three.set {w wr : World} {F G Z F' : List Nat} (h : Three w wr F G Z) {k : Nat} (x : Nat) (e : F.set k x = F') : Three w (wr.setCell ⟨w.heap.size, k, none⟩ (.int .u64 (x : Int))) F' G Z :=
  ⟨e ▸ h.1.set k x, h.2.1.block (Below.heap_setCell _ _ _ _ (by show _ ≠ w.heap.size; omega)), h.2.2.1.block (Below.heap_setCell _ _ _ _ (by show _ ≠ w.heap.size; omega)), h.2.2.2.setCell (p := ⟨w.heap.size, k, none⟩) (Nat.le_refl _) _⟩

set_option maxRecDepth 20000 in
set_option maxHeartbeats 1000000 in
theorem rjoin_form (F G : List Nat) (hF : F.length = 64) (hG : G.length = 64) (w : World) :
    Calls Try.prog 12 #[.agg (fullA F), .agg (fullA G)] w fun e w' => e = .returned (.agg (fullA (List.zipWith max F G))) ∧ Below w.heap.size w w' := by
  have hrow0 := row_new (w := w) rfl hF
  have hrowz := fun (W : World) => row_new (w := W) (F := List.replicate 64 0) rfl (by simp)
  have HF := Lib.hid hF
  have HG := Lib.hid hG
  clear hF hG
  go_enter Try.func12, Try.ntmps12
  go_wp2
  go_loopw [5] (fun i wr => ∃ (k : Nat), k ≤ 64 ∧ i = .int .i64 (k : Int) ∧ Hid (Three w wr (uptoF max F G k) G (List.replicate 64 0))) (fun i _ => 64 - (intOf i).toNat)
  case atStart => exact ⟨0, Nat.zero_le _, rfl, Lib.hid (three_start w HF.out HG.out)⟩
  case round =>
    obtain ⟨k, hk, rfl, HT⟩ := hrel
    clear hrow0 hrowz
    by_cases hk64 : k < 64
    · obtain ⟨x, hx⟩ : ∃ x, F[k]? = some x := ⟨_, List.getElem?_eq_getElem (by rw [HF.out]; exact hk64)⟩
      obtain ⟨y, hy⟩ : ∃ y, G[k]? = some y := ⟨_, List.getElem?_eq_getElem (by rw [HG.out]; exact hk64)⟩
      have hux : (uptoF max F G k)[k]? = some x := upto_get hx hy
      have p0 := HT.out.1.cell hux
      have q0 := HT.out.2.1.cell hy
      have f0 := HT.out.1.frozen k
      have hset := upto_set (f := max) hx hy
      have HS := Lib.hid hset
      clear hx hy hset
      by_cases hxy : x < y
      · have hv : max x y = y := by omega
        have HSV : Hid ((uptoF max F G k).set k y = uptoF max F G (k + 1)) := by show _ = _; rw [← HS.out, hv]
        clear hv hux
        go_wp2
        go_quiet (fail)
        go_wp2
        go_roundw
        case rel => exact ⟨k + 1, by omega, by go_num, Lib.hid ((HT.out.drewN _).set y HSV.out)⟩
        case measure => simp [intOf]; omega
      · have hxy' : y ≤ x := by omega
        have hv : max x y = x := by omega
        have hsame : uptoF max F G (k + 1) = uptoF max F G k := by rw [← HS.out, hv]; exact set_same hux
        have HTN : Hid (Three w wr (uptoF max F G (k + 1)) G (List.replicate 64 0)) := by rw [hsame]; exact HT
        clear hv hux hsame hxy
        go_wp2
        go_quiet (fail)
        go_wp2
        go_roundw
        case rel => exact ⟨k + 1, by omega, by go_num, Lib.hid (HTN.out.drewN _)⟩
        case measure => simp [intOf]; omega
    · obtain rfl : k = 64 := by omega
      have hend : uptoF max F G 64 = List.zipWith max F G := upto_end HF.out HG.out
      have HEND := Lib.hid hend
      have hzl : (List.zipWith max F G).length = 64 := by rw [List.length_zipWith, HF.out, HG.out]; rfl
      have HZL := Lib.hid hzl
      have hT := HT.out
      rw [hend] at hT
      have HT2 := Lib.hid hT
      clear hend hk64 hzl hT
      go_wp2_with (first
        | (refine wp_loadF rfl _ rfl w.heap.size rfl _ HT2.out.1 ?_)
        | (refine wp_storeF rfl _ _ rfl (w.heap.size + 1 + 1) rfl _ (List.zipWith max F G) rfl HT2.out.2.2.1 HZL.out ?_; intro w2 hr2 ho2 hb2; have HR2 := Lib.hid hr2; have HB2 := Lib.hid hb2; clear hr2 ho2 hb2))
      refine bodyPost_ret (v := .agg (fullA (List.zipWith max F G))) ?_ rfl ⟨rfl, HT2.out.2.2.2.trans (HB2.out _ (by omega))⟩
      simp [results, Try.results12, Act.put, asAddr, loadF HR2.out]

set_option maxRecDepth 20000 in
set_option maxHeartbeats 1000000 in
theorem rmeet_form (F G : List Nat) (hF : F.length = 64) (hG : G.length = 64) (w : World) :
    Calls Try.prog 14 #[.agg (fullA F), .agg (fullA G)] w fun e w' => e = .returned (.agg (fullA (List.zipWith min F G))) ∧ Below w.heap.size w w' := by
  have hrow0 := row_new (w := w) rfl hF
  have hrowz := fun (W : World) => row_new (w := W) (F := List.replicate 64 0) rfl (by simp)
  have HF := Lib.hid hF
  have HG := Lib.hid hG
  clear hF hG
  go_enter Try.func14, Try.ntmps14
  go_wp2
  go_loopw [5] (fun i wr => ∃ (k : Nat), k ≤ 64 ∧ i = .int .i64 (k : Int) ∧ Hid (Three w wr (uptoF min F G k) G (List.replicate 64 0))) (fun i _ => 64 - (intOf i).toNat)
  case atStart => exact ⟨0, Nat.zero_le _, rfl, Lib.hid (three_start w HF.out HG.out)⟩
  case round =>
    obtain ⟨k, hk, rfl, HT⟩ := hrel
    clear hrow0 hrowz
    by_cases hk64 : k < 64
    · obtain ⟨x, hx⟩ : ∃ x, F[k]? = some x := ⟨_, List.getElem?_eq_getElem (by rw [HF.out]; exact hk64)⟩
      obtain ⟨y, hy⟩ : ∃ y, G[k]? = some y := ⟨_, List.getElem?_eq_getElem (by rw [HG.out]; exact hk64)⟩
      have hux : (uptoF min F G k)[k]? = some x := upto_get hx hy
      have p0 := HT.out.1.cell hux
      have q0 := HT.out.2.1.cell hy
      have f0 := HT.out.1.frozen k
      have hset := upto_set (f := min) hx hy
      have HS := Lib.hid hset
      clear hx hy hset
      by_cases hxy : y < x
      · have hv : min x y = y := by omega
        have HSV : Hid ((uptoF min F G k).set k y = uptoF min F G (k + 1)) := by show _ = _; rw [← HS.out, hv]
        clear hv hux
        go_wp2
        go_quiet (fail)
        go_wp2
        go_roundw
        case rel => exact ⟨k + 1, by omega, by go_num, Lib.hid ((HT.out.drewN _).set y HSV.out)⟩
        case measure => simp [intOf]; omega
      · have hxy' : x ≤ y := by omega
        have hv : min x y = x := by omega
        have hsame : uptoF min F G (k + 1) = uptoF min F G k := by rw [← HS.out, hv]; exact set_same hux
        have HTN : Hid (Three w wr (uptoF min F G (k + 1)) G (List.replicate 64 0)) := by rw [hsame]; exact HT
        clear hv hux hsame hxy
        go_wp2
        go_quiet (fail)
        go_wp2
        go_roundw
        case rel => exact ⟨k + 1, by omega, by go_num, Lib.hid (HTN.out.drewN _)⟩
        case measure => simp [intOf]; omega
    · obtain rfl : k = 64 := by omega
      have hend : uptoF min F G 64 = List.zipWith min F G := upto_end HF.out HG.out
      have HEND := Lib.hid hend
      have hzl : (List.zipWith min F G).length = 64 := by rw [List.length_zipWith, HF.out, HG.out]; rfl
      have HZL := Lib.hid hzl
      have hT := HT.out
      rw [hend] at hT
      have HT2 := Lib.hid hT
      clear hend hk64 hzl hT
      go_wp2_with (first
        | (refine wp_loadF rfl _ rfl w.heap.size rfl _ HT2.out.1 ?_)
        | (refine wp_storeF rfl _ _ rfl (w.heap.size + 1 + 1) rfl _ (List.zipWith min F G) rfl HT2.out.2.2.1 HZL.out ?_; intro w2 hr2 ho2 hb2; have HR2 := Lib.hid hr2; have HB2 := Lib.hid hb2; clear hr2 ho2 hb2))
      refine bodyPost_ret (v := .agg (fullA (List.zipWith min F G))) ?_ rfl ⟨rfl, HT2.out.2.2.2.trans (HB2.out _ (by omega))⟩
      simp [results, Try.results14, Act.put, asAddr, loadF HR2.out]
end Go.Proofs.Ytepafmoohlognaa
