/-
The reference of stage 6: Put, by a contract.
-/
import Derived.Test.YtepafmoohlognaaKOf
import Derived.Test.YtepafmoohlognaaWRefN
namespace Go.Proofs.Ytepafmoohlognaa
open Go.RowKit
open Wire (numL valL takeL runL bytesL)

def numsL (ns : List Nat) : List Nat := ns.flatMap numL
/-- A clock's bytes. -/
def clkL (ns : List Nat) : List Nat := numL ns.length ++ numsL ns
theorem numsL_snoc {ns : List Nat} {k x : Nat} (h : ns[k]? = some x) : numsL (ns.take (k + 1)) = numsL (ns.take k) ++ numL x := by
  unfold numsL
  rw [List.take_add_one, h, List.flatMap_append]
  simp
theorem numsL_len : ∀ {ns : List Nat}, (∀ x ∈ ns, x < 18446744073709551616) → (numsL ns).length ≤ ns.length * 10
  | [], _ => by simp [numsL]
  | x :: t, h => by
    have h1 := Wire.numL_length_10 (h x List.mem_cons_self)
    have h2 := numsL_len (ns := t) (fun y hy => h y (List.mem_cons_of_mem _ hy))
    have e : numsL (x :: t) = numL x ++ numsL t := rfl
    rw [e, List.length_append, List.length_cons]; omega

theorem own_base {B B' : Nat} {w : World} {v : Value} {xs : List Nat} (h : Own B w v xs) (hB : B' ≤ B) : Own B' w v xs := by
  refine ⟨h.1, ?_⟩
  rcases h.2 with h2 | ⟨g, cap, cur, hv, hg, r⟩
  · exact .inl h2
  · exact .inr ⟨g, cap, cur, hv, Nat.le_trans hB hg, r⟩

set_option maxRecDepth 20000 in
set_option maxHeartbeats 1000000 in
theorem rput_form (F : List Nat) (hF : F.length = 64) (hx : ∀ x ∈ F, x < 18446744073709551616) (w : World) :
    Calls Try.prog 24 #[.agg (fullA F)] w fun e w' => ∃ v', e = .returned v' ∧ Own w.heap.size w' v' (clkL (cutF F)) ∧ Below w.heap.size w w' := by
  have hrow := row_new (w := w) rfl hF
  have HROW := Lib.hid hrow
  have hcut := fun W => rcut_form F hF W
  have HCUT := Lib.hid hcut
  have hcl : (cutF F).length ≤ 64 := by unfold cutF; rw [List.length_take]; omega
  have hcx : ∀ x ∈ cutF F, x < 18446744073709551616 := fun x h => hx x (List.mem_of_mem_take h)
  obtain ⟨cs, hcs⟩ : ∃ cs, cs = cutF F := ⟨_, rfl⟩
  rw [← hcs] at hcl hcx hcut ⊢
  have HCUT := Lib.hid hcut
  have HCL := Lib.hid hcl
  have HCX := Lib.hid hcx
  have hb0 := below_alloc w (.cells (fullA F) 28)
  clear hrow hcut hcl hcx hx hF hcs
  go_enter Try.func24, Try.ntmps24
  go_wp2_with (first
    | (refine wp_loadF rfl _ rfl w.heap.size rfl _ HROW.out ?_)
    | (go_at_call 26; (with_reducible refine (HCUT.out _).mono ?_); rintro e w1 ⟨v1, rfl, ho1, hb1⟩; have HR1 := Lib.hid ho1.rd; (obtain ⟨A1, n1, c1, rfl, hn1⟩ := ho1.rd.named); have HN1 := Lib.hid hn1; have hn64 : n1 ≤ 64 := (by have := HCL.out; omega); have hx1 := hb0.trans (hb1.mono hb0.size); clear ho1 hn1)
    | (go_at_call 39; (with_reducible refine (rnum_any n1 (by omega) _).mono ?_); rintro e w2 ⟨v2, rfl, ho2, hb2⟩; have HO2 := Lib.hid ho2; clear ho2))
  go_loopw [4, 5] (fun v i wr => ∃ (k : Nat), k ≤ n1 ∧ i = .int .i64 (k : Int) ∧ Hid (Own w1.heap.size wr v (numL n1 ++ numsL (cs.take k)) ∧ Below w1.heap.size w1 wr)) (fun _ i _ => n1 - (intOf i).toNat)
  case atStart => exact ⟨0, Nat.zero_le _, rfl, Lib.hid ⟨by simpa [numsL] using HO2.out, hb2⟩⟩
  case round =>
    obtain ⟨k, hk, rfl, HI⟩ := hrel
    by_cases hkn : k < n1
    · obtain ⟨x, hx⟩ : ∃ x, cs[k]? = some x := ⟨_, List.getElem?_eq_getElem (by rw [← HN1.out]; exact hkn)⟩
      obtain ⟨b, off, rfl, hcc⟩ := HR1.out.at_ hx
      have p0 := hcc wr HI.out.2
      have hx64 := HCX.out x (List.mem_of_getElem? hx)
      have HX64 := Lib.hid hx64
      have hsn := numsL_snoc hx
      have HSN := Lib.hid hsn
      have hlen : (numL n1 ++ numsL (cs.take k)).length + (numL x).length ≤ 1000000 := by
        have h1 := Wire.numL_length_10 (show n1 < 18446744073709551616 by omega)
        have h2 := numsL_len (ns := cs.take k) (fun y hy => HCX.out y (List.mem_of_mem_take hy))
        have h3 := Wire.numL_length_10 hx64
        rw [List.length_take] at h2
        rw [List.length_append]
        omega
      have HLEN := Lib.hid hlen
      clear hx hcc hx64 hsn hlen
      go_wp2_with (first
        | (go_at_call 39; (with_reducible refine (rnum_any x HX64.out _).mono ?_); rintro e w3 ⟨v3, rfl, ho3, hb3⟩; have HO3 := Lib.hid ho3; have hx3 := HI.out.2.trans (hb3.mono HI.out.2.size); have HI3 := Lib.hid (HI.out.1.below hb3); clear ho3)
        | (at_builtin; refine wp_appR rfl _ _ rfl w1.heap.size _ (numL n1 ++ numsL (cs.take k)) rfl HI3.out _ (numL x) rfl HO3.out.rd HLEN.out hx3.size ?_; intro v4 w4 hown4 hbel4 hsz4))
      go_roundw
      case rel => exact ⟨k + 1, by omega, by go_num, Lib.hid ⟨by rw [HSN.out, ← List.append_assoc]; exact hown4, hx3.trans hbel4⟩⟩
      case measure => simp [intOf]; omega
    · obtain rfl : k = n1 := by omega
      have htk : cs.take k = cs := List.take_of_length_le (by rw [← HN1.out]; exact Nat.le_refl _)
      have HTK := Lib.hid htk
      clear hkn htk
      go_wp2
      go_ret
      refine ⟨_, rfl, ?_, hx1.trans (HI.out.2.mono hx1.size)⟩
      have h := HI.out.1
      rw [HTK.out] at h
      unfold clkL
      rw [← HN1.out]
      exact own_base h hx1.size
end Go.Proofs.Ytepafmoohlognaa
