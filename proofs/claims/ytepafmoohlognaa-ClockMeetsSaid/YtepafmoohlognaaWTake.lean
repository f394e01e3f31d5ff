/-
The reference of stage 4: Take and Run, by contracts.
-/
import Derived.Test.YtepafmoohlognaaWRefN
import Derived.Test.YtepafmoohlognaaWLeft
import Derived.Deep.QuietTactic
import Derived.BigQuiet
namespace Go.Proofs.Ytepafmoohlognaa
open Go.RowKit
open Wire (numL valL takeL runL bytesL)

/-- 2^64, behind a name. -/
def M64 : Nat := 18446744073709551616
theorem wrap_u64n (a : Nat) : IntKind.u64.wrap (a : Int) = ((a % M64 : Nat) : Int) := by
  rw [IntKind.wrap_u64]; rfl
theorem step_mod (v s q : Nat) : (v % M64 + (s % M64 * q) % M64) % M64 = (v + s * q) % M64 := by
  have e : s * q % M64 = (s % M64 * q) % M64 := by rw [Nat.mul_mod, Nat.mul_mod (s % M64) q, Nat.mod_mod]
  rw [Nat.add_mod v (s * q), e]

set_option maxRecDepth 20000 in
set_option maxHeartbeats 2000000 in
theorem rtake_form (b : List Nat) (n c : Nat) (A : Option Addr) (hn : n = b.length) (hl : n ≤ 100000) (hx : ∀ x ∈ b, x < 256) (w : World) (h : Rd w (.slice A n c) b) :
    Calls Try.prog 38 #[.slice A n c] w fun e w' => e = .returned (.tuple #[.int .u64 ((takeL b).1 : Nat), .int .i64 ((takeL b).2 : Nat)]) ∧ Below w.heap.size w w' := by
  have HN := Lib.hid hn; clear hn
  have HR := Lib.hid h; clear h
  have HX := Lib.hid hx; clear hx
  have hM : (M64 : Int) = 18446744073709551616 := rfl
  have HM := Lib.hid hM; clear hM
  go_enter Try.func38, Try.ntmps38
  go_wp2
  go_loop [4, 5, 6] (fun a s i => ∃ (k u t : Nat), k ≤ n ∧ k ≤ 10 ∧ u < M64 ∧ t < M64 ∧ a = .int .u64 (u : Int) ∧ s = .int .u64 (t : Int) ∧ i = .int .i64 (k : Int) ∧ Hid (u = valL (b.take k) % M64 ∧ t = 128 ^ k % M64 ∧ ∀ j y, j < k → b[j]? = some y → 128 ≤ y)) (fun _ _ i => n - (intOf i).toNat)
  case atStart => exact ⟨0, 0, 1, Nat.zero_le _, Nat.zero_le _, by decide, by decide, rfl, rfl, rfl, Lib.hid ⟨rfl, rfl, fun j y hj => absurd hj (Nat.not_lt_zero _)⟩⟩
  case round =>
    obtain ⟨k, u, t, hk, hk10, hu, ht, rfl, rfl, rfl, HS⟩ := hrel
    by_cases hkn : k < n
    · by_cases hk9 : k < 10
      · obtain ⟨x, hbx⟩ : ∃ x, b[k]? = some x := ⟨_, List.getElem?_eq_getElem (by rw [← HN.out]; exact hkn)⟩
        obtain ⟨b0, off, rfl, hcn, hcm⟩ := HR.out.addr (by omega)
        have hcell : w.cell? ⟨b0, off + k, none⟩ = some (nv x) := by
          rcases HR.out with ⟨p, c', hv, _⟩ | ⟨b', off', cap', hv, _, _, _, hc⟩
          · simp at hv; omega
          · simp only [Value.slice.injEq, Option.some.injEq, Addr.mk.injEq, and_true] at hv
            obtain ⟨⟨rfl, rfl⟩, _, _⟩ := hv
            exact hc k x hbx
        have hx256 := HX.out x (List.mem_of_getElem? hbx)
        obtain ⟨hsu, hst, hge0⟩ := HS.out
        have HGE := Lib.hid hge0
        have HBX := Lib.hid hbx
        have hm : IntKind.u64.wrap ((t : Int) * ((x : Int) % 128)) = ((t * (x % 128) % M64 : Nat) : Int) := by
          rw [← wrap_u64n]; congr 1
        have ha := wrap_u64n (u + t * (x % 128) % M64)
        have hs : IntKind.u64.wrap ((t : Int) * 128) = ((t * 128 % M64 : Nat) : Int) := by
          rw [← wrap_u64n]; congr 1
        have hvu : (u + t * (x % 128) % M64) % M64 = valL (b.take (k + 1)) % M64 := by rw [hsu, hst, step_mod, valL_step hbx]
        have hvs : (t * 128) % M64 = 128 ^ (k + 1) % M64 := by rw [hst, Nat.pow_succ, Nat.mul_mod, Nat.mod_mod, ← Nat.mul_mod]
        rw [hvu] at ha
        rw [hvs] at hs
        have hu' : valL (b.take (k + 1)) % M64 < M64 := Nat.mod_lt _ (by decide)
        have ht' : 128 ^ (k + 1) % M64 < M64 := Nat.mod_lt _ (by decide)
        rw [Int.natCast_add] at ha
        have HU := Lib.hid (Eq.refl (valL (b.take (k + 1)) % M64))
        generalize hgu : valL (b.take (k + 1)) % M64 = u' at ha hu'
        generalize hgt : 128 ^ (k + 1) % M64 = t' at hs ht'
        generalize hgp : t * (x % 128) % M64 = p at hm ha
        have HGU := Lib.hid hgu
        have HGT := Lib.hid hgt
        clear hgu hgt hgp hvu hvs HU hsu hst hge0 hbx HS
        unfold nv at hcell
        have hnum := fun w2 => rnum_any u' hu' w2
        have HNUM := Lib.hid hnum
        clear hnum
        by_cases hx128 : x < 128
        · have htk := Wire.take_at HBX.out hx128 HGE.out HX.out
          have hgu := HGU.out
          have hM : M64 = 18446744073709551616 := rfl
          rw [hM] at hgu
          rw [hgu] at htk
          have HTK := Lib.hid htk
          clear htk hgu hM
          have hrt := HR.out.take (by omega) (k + 1) (by omega)
          have HRT := Lib.hid hrt
          clear hrt
          have hcm2 : c ≤ 9223372036854775807 := by unfold maxLen at hcm; exact hcm
          go_wp2_with (go_at_call 39; ((with_reducible refine (HNUM.out _).mono ?_); rintro e w1 ⟨v1, rfl, hown1, hbel1⟩))
          have q1 : ∀ nq, (convert 40 9 v1).run Try.prog (w1.drewN nq) = .ok (.string (strN (numL u'))) (w1.drewN nq) := fun nq => conv_rd (w := w1.drewN nq) hown1.rd
          have q2 : ∀ nq, (convert 40 9 (.slice (some ⟨b0, off, none⟩) (k + 1) c)).run Try.prog (w1.drewN nq) = .ok (.string (strN (b.take (k + 1)))) (w1.drewN nq) := fun nq => conv_rd (w := w1.drewN nq) (HRT.out.below (hbel1.trans ⟨rfl, rfl, rfl, Nat.le_refl _, fun _ _ => rfl⟩))
          have h1 : IntKind.i64.wrap ((k : Int) + 1) = (k : Int) + 1 := IntWalk.i64_in _ (by omega)
          have h2 : ((k : Int) + 1).toNat = k + 1 := by omega
          have h3 : (0 : Int) ≤ (k : Int) + 1 := by omega
          have h4 : (k : Int) + 1 ≤ (c : Int) := by omega
          have h5 : (c = 0) = False := by simp; omega
          by_cases he : numL u' = b.take (k + 1)
          · have htk := HTK.out
            rw [if_pos he] at htk
            have HTK2 := Lib.hid htk
            rw [he] at q1
            clear htk HTK he
            go_quiet (fail)
            clear h1 h2 h3 h4 h5 q1 q2
            go_wp2
            go_ret2
            refine ⟨?_, hbel1.trans ⟨rfl, rfl, rfl, Nat.le_refl _, fun _ _ => rfl⟩⟩
            rw [HTK2.out]
            show _ = Ending.returned (.tuple #[.int .u64 (u' : Int), .int .i64 ((k + 1 : Nat) : Int)])
            rw [Int.natCast_add]; rfl
          · have htk := HTK.out
            rw [if_neg he] at htk
            have HTK2 := Lib.hid htk
            have hne := strN_ne (fun h => he (strN_inj (Wire.numL_bytes u') (fun y hy => HX.out y (List.mem_of_mem_take hy)) h))
            clear htk HTK he
            go_quiet (fail)
            clear h1 h2 h3 h4 h5 q1 q2 hne
            go_wp2
            go_ret2
            refine ⟨?_, hbel1.trans ⟨rfl, rfl, rfl, Nat.le_refl _, fun _ _ => rfl⟩⟩
            rw [HTK2.out]; rfl
        · have hge2 : ∀ j y, j < k + 1 → b[j]? = some y → 128 ≤ y := by
            intro j y hj hy
            rcases Nat.lt_or_ge j k with h | h
            · exact HGE.out j y h hy
            · obtain rfl : j = k := by omega
              have e := HBX.out.symm.trans hy
              simp at e; omega
          have HS2 := Lib.hid (show u' = valL (b.take (k + 1)) % M64 ∧ t' = 128 ^ (k + 1) % M64 ∧ ∀ j y, j < k + 1 → b[j]? = some y → 128 ≤ y from ⟨HGU.out.symm, HGT.out.symm, hge2⟩)
          clear hge2
          go_wp2
          go_round
          case rel => exact ⟨k + 1, u', t', by omega, by omega, hu', ht', rfl, rfl, by go_num, HS2⟩
          case measure => simp [intOf]; omega
      · have hk9' : 10 ≤ k := by omega
        have htk := Wire.take_none (b := b) (fun j y hj hy => HS.out.2.2 j y (by omega) hy)
        have HTK := Lib.hid htk
        clear htk
        go_wp2
        go_ret2
        exact ⟨by rw [HTK.out]; rfl, Below.refl _ _⟩
    · have hkn' : n ≤ k := by omega
      have htk := Wire.take_none (b := b) (fun j y hj hy => HS.out.2.2 j y (by have := (List.getElem?_eq_some_iff.1 hy).1; have := HN.out; omega) hy)
      have HTK := Lib.hid htk
      clear htk
      go_wp2
      go_ret2
      exact ⟨by rw [HTK.out]; rfl, Below.refl _ _⟩

/-- ref.Take. -/
theorem rtake_any (v : Value) (b : List Nat) (w : World) (h : Rd w v b) (hl : b.length ≤ 100000) (hx : ∀ x ∈ b, x < 256) :
    Calls Try.prog 38 #[v] w fun e w' => e = .returned (.tuple #[.int .u64 ((takeL b).1 : Nat), .int .i64 ((takeL b).2 : Nat)]) ∧ Below w.heap.size w w' := by
  obtain ⟨A, n, c, rfl, hn⟩ := h.named
  exact rtake_form b n c A hn (by omega) hx w h
end Go.Proofs.Ytepafmoohlognaa
