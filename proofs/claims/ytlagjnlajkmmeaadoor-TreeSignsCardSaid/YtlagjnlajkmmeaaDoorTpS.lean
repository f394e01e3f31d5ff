/-
The program's signSize, by a contract.
-/
import Derived.Test.YtlagjnlajkmmeaaDoorTpE
import Derived.Test.YtlagjnlajkmmeaaDoorTpA
import Derived.Deep.MidRow
import Derived.Deep.WholeRow
namespace Go.Proofs.YtlagjnlajkmmeaaDoor
open Go.RowKit Go.Proofs.YtlagjnlajkmmeaaDoor.Tok

def signsV : List Value := signsL.map (fun x => .string ⟨x.toArray⟩)
theorem info_signs : (Tryd.prog.info? 86).map (·.size) = some 15 := by kernel_rfl
theorem EnvT.range {w : World} (h : EnvT w) : w.rangeAt 0 0 signsV := fun j v hv => by
  unfold signsV at hv
  rw [List.getElem?_map, Option.map_eq_some_iff] at hv
  obtain ⟨x, hx, rfl⟩ := hv
  rw [Nat.zero_add]
  exact h.signs j x hx
/-- How many bytes the sign at the head has; 0: there is none. -/
def signN (l : List UInt8) : Nat := match signsL.find? (fun x => x.isPrefixOf l) with | none => 0 | some x => x.length
theorem signN_at {l x : List UInt8} {k : Nat} (hx : signsL[k]? = some x) (hp : x.isPrefixOf l = true) (hn : ∀ j y, j < k → signsL[j]? = some y → y.isPrefixOf l = false) : signN l = x.length := by
  have : signsL.find? (fun x => x.isPrefixOf l) = some x := by
    rw [List.find?_eq_some_iff_getElem]
    have hk := List.getElem?_eq_some_iff.1 hx
    have hk1 := hk.1
    exact ⟨hp, k, hk.1, hk.2, fun j hj => by rw [hn j _ hj (List.getElem?_eq_getElem (by omega))]; rfl⟩
  unfold signN
  rw [this]
theorem signN_none {l : List UInt8} (hn : ∀ j y, j < 15 → signsL[j]? = some y → y.isPrefixOf l = false) : signN l = 0 := by
  have : signsL.find? (fun x => x.isPrefixOf l) = none := by
    rw [List.find?_eq_none]
    intro y hy
    obtain ⟨j, hj, e⟩ := List.getElem_of_mem hy
    rw [hn j y (by have h15 : signsL.length = 15 := rfl; rw [h15] at hj; exact hj) (by rw [← e]; exact List.getElem?_eq_getElem hj)]
    simp
  unfold signN
  rw [this]

theorem idx_signs (arr : Array Value) (k : Nat) (hk : k < 15) (x : ByteArray) (h : arr[k]? = some (.string x)) (w : World) :
    (Instr.index 86 (.agg arr) (.int .i64 (k : Int))).run Tryd.prog w = .ok (.string x) w := by
  have hk2 : (k : Int) < 15 := by omega
  simp [Instr.index, run_underlying Tryd.underlying86, asIntOf, go_sem, part, hk, h]
set_option maxRecDepth 20000 in
set_option maxHeartbeats 2000000 in
theorem sign_size (l : List UInt8) (hl : l.length ≤ 1000000) (w : World) (hE : EnvT w) :
    Calls Tryd.prog 49 #[.string ⟨l.toArray⟩] w fun e w' => e = .returned (.int .i64 (signN l : Nat)) ∧ w' = w := by
  obtain ⟨K, hK⟩ : ∃ K, K = signN l := ⟨_, rfl⟩
  rw [← hK]
  have HK := Lib.hid hK
  have HE := Lib.hid hE
  have HP := Lib.hid (fun (x : List UInt8) (hx : x.length ≤ 1000000) w => hasPre_any l x hl hx w)
  clear hK hE hl
  generalize hlb : (⟨l.toArray⟩ : ByteArray) = lb at *
  clear hlb
  obtain ⟨arr, harr⟩ : ∃ arr, arr = signsV.toArray := ⟨_, rfl⟩
  have hsz : arr.size = 15 := by rw [harr]; rfl
  have HA := Lib.hid harr
  have HG := Lib.hid (fun (k : Nat) (hk : k < 15) => (show ∃ x : List UInt8, signsL[k]? = some x ∧ x.length ≤ 2 ∧ arr[k]? = some (.string ⟨x.toArray⟩) from by
    have hk2 : k < signsL.length := hk
    have h2 : ∀ y ∈ signsL, y.length ≤ 2 := by decide
    exact ⟨_, List.getElem?_eq_getElem hk2, h2 _ (List.getElem_mem hk2), by rw [harr]; simp [signsV, hk2]⟩))
  clear harr
  go_enter Tryd.func49, Tryd.ntmps49
  go_wp2_with (refine wpList_load_mid rfl 86 _ rfl 0 0 rfl signsV _ HE.out.range Tryd.underlying86 rfl (by rw [info_signs]; rfl) ?_; rw [← HA.out])
  go_loop [6] (fun i => ∃ k : Nat, k ≤ 15 ∧ i = .int .i64 (k : Int) ∧ Hid (∀ j y, j < k → signsL[j]? = some y → y.isPrefixOf l = false)) (fun i => 15 - (intOf i).toNat)
  case atStart => exact ⟨0, by omega, rfl, Lib.hid (fun j y h => by omega)⟩
  case round =>
    obtain ⟨k, hk, rfl, HU⟩ := hrel
    by_cases hlt : k < 15
    · obtain ⟨x, hx, hx2, hax⟩ := HG.out k hlt
      have hidx := fun W => idx_signs arr k hlt _ hax W
      clear hax
      have HX := Lib.hid hx
      have hpx := HP.out x (by omega) w
      have hxs : (⟨x.toArray⟩ : ByteArray).size = x.length := rfl
      obtain ⟨m, hm⟩ : ∃ m, m = x.length := ⟨_, rfl⟩
      rw [← hm] at hxs hx2
      have HM := Lib.hid hm
      clear hx hm
      cases hP : x.isPrefixOf l with
      | true =>
        rw [hP] at hpx
        have HR := Lib.hid (signN_at HX.out hP HU.out)
        have HPX := Lib.hid hpx
        clear hpx hP
        generalize (⟨x.toArray⟩ : ByteArray) = xb at *
        go_wp2_with (go_at_call 48; (with_reducible refine (HPX.out).mono ?_); rintro e w1 ⟨rfl, rfl⟩)
        go_ret
        exact ⟨by rw [HK.out, HR.out, ← HM.out]; rfl, rfl⟩
      | false =>
        rw [hP] at hpx
        have HU2 := Lib.hid (show ∀ j y, j < k + 1 → signsL[j]? = some y → y.isPrefixOf l = false from fun j y hj hy => by
          by_cases e : j = k
          · subst e; rw [HX.out] at hy; injection hy with hy; subst hy; exact hP
          · exact HU.out j y (by omega) hy)
        have HPX := Lib.hid hpx
        clear hpx hP
        generalize (⟨x.toArray⟩ : ByteArray) = xb at *
        go_wp2_with (go_at_call 48; (with_reducible refine (HPX.out).mono ?_); rintro e w1 ⟨rfl, rfl⟩)
        go_round
        case rel => exact ⟨k + 1, by omega, by go_num, HU2⟩
        case measure => simp [intOf]; omega
    · obtain rfl : k = 15 := by omega
      have HR := Lib.hid (signN_none HU.out)
      go_wp2_with fail
      go_ret
      exact ⟨by rw [HK.out, HR.out]; rfl, rfl⟩
end Go.Proofs.YtlagjnlajkmmeaaDoor
