/-
The program's stamp.Decimal and stamp.Number, by contracts.
-/
import Derived.Test.YtggdpnkfambmfaaDoorEnvI
import Derived.Test.YtggdpnkfambmfaaDoorNumM
namespace Go.Proofs.YtggdpnkfambmfaaDoor
open Go.RowKit Go.Proofs.YtggdpnkfambmfaaDoor.Dig

set_option maxRecDepth 20000 in
theorem decimal_any (n : Int) (w : World) (hE : Env0 w) (h0 : -9223372036854775808 ≤ n) (h1 : n ≤ 9223372036854775807) :
    Calls Tryd.prog 25 #[.int .i64 n] w fun e w' => e = .returned (.string ⟨(Lib.itoa n).toArray⟩) ∧ Below w.heap.size w w' := by
  have hi := itoa_any n h0 h1 w hE
  clear h0 h1
  go_enter Tryd.func25, Tryd.ntmps25
  go_wp2_with (go_at_call 33; go_must (refine hi.mono ?_); rintro e w1 ⟨rfl, hb1⟩)
  go_ret
  exact ⟨rfl, hb1⟩

theorem ba_eq {l m : List UInt8} : ((⟨l.toArray⟩ : ByteArray) = ⟨m.toArray⟩) ↔ l = m := by
  constructor
  · intro h
    have := congrArg (fun b : ByteArray => b.data.toList) h
    simpa using this
  · rintro rfl; rfl

set_option maxRecDepth 20000 in
set_option maxHeartbeats 1000000 in
theorem number_any (l : List UInt8) (most : Int) (w : World) (hE : Env w) (hl : l.length ≤ 100) (hm0 : -9223372036854775808 ≤ most) (hm1 : most ≤ 1125899906842624) :
    Calls Tryd.prog 24 #[.string ⟨l.toArray⟩, .int .i64 most] w fun e w' => e = .returned (numT (numV l most)) ∧ Below w.heap.size w w' := by
  have ha := atoi_any ⟨l.toArray⟩ (by show l.toArray.size ≤ _; simp; omega) w hE
  obtain ⟨s, hs⟩ : ∃ s : ByteArray, s = ⟨l.toArray⟩ := ⟨_, rfl⟩
  have hsl : s.data.toList = l := by rw [hs]
  rw [← hs] at ha ⊢
  rw [hsl] at ha
  have HSL := Lib.hid hs
  have HE := Lib.hid hE
  have HM := Lib.hid hm1
  have hdec := fun v (hv : -9223372036854775808 ≤ v ∧ v ≤ 9223372036854775807) W (hW : Env0 W) => decimal_any v W hW hv.1 hv.2
  have HDEC := Lib.hid hdec
  clear hE hl hs hsl hdec
  cases hat : Lib.atoiAll l with
  | ok v =>
    have hnum := number_some hm1 hat
    have hv := Lib.atoiAll_bounds hat
    have ha2 : Calls Tryd.prog 32 #[.string s] w fun e w' => e = .returned (.tuple #[.int .i64 v, .nilIface]) ∧ Below w.heap.size w w' := ha.mono (by
      rintro e w' ⟨⟨v', er, rfl, _, her⟩, hb⟩
      rcases her with ⟨rfl, h⟩ | ⟨h, _⟩
      · rw [hat] at h; injection h with h; subst h; exact ⟨rfl, hb⟩
      · exact absurd hat (h v))
    have HA := Lib.hid ha2
    have HNUM := Lib.hid hnum
    obtain ⟨ds, hds⟩ : ∃ ds : ByteArray, ds = ⟨(Lib.itoa v).toArray⟩ := ⟨_, rfl⟩
    have hd2 := fun W hW => HDEC.out v hv W hW
    rw [← hds] at hd2
    have HD := Lib.hid hd2
    have HDS := Lib.hid hds
    clear ha ha2 hat hnum hd2 hds hm0 hm1 HDEC
    by_cases hneg : v < 0
    · have e : numV l most = none := by rw [HNUM.out, if_neg (by omega)]
      rw [e]
      have hneg2 : v ≠ 0 := by omega
      clear e
      go_enter Tryd.func24, Tryd.ntmps24
      go_wp2_with (go_at_call 32; go_must (refine HA.out.mono ?_); rintro e w1 ⟨rfl, hb1⟩)
      go_ret2
      exact ⟨rfl, hb1⟩
    · have hnn : 0 ≤ v := by omega
      clear hneg
      by_cases hgt : most < v
      · have e : numV l most = none := by rw [HNUM.out, if_neg (by omega)]
        rw [e]
        clear e
        go_enter Tryd.func24, Tryd.ntmps24
        go_wp2_with (go_at_call 32; go_must (refine HA.out.mono ?_); rintro e w1 ⟨rfl, hb1⟩)
        go_ret2
        exact ⟨rfl, hb1⟩
      · have hle : v ≤ most := by omega
        clear hgt
        by_cases heq : ds = s
        · have e : numV l most = some v.toNat := by
            have h3 : Lib.itoa v = l := ba_eq.1 (HDS.out.symm.trans (heq.trans HSL.out))
            rw [HNUM.out, if_pos ⟨hnn, hle, h3⟩]
          rw [e]
          subst heq
          clear e
          have HNN := Lib.hid hnn
          go_enter Tryd.func24, Tryd.ntmps24
          go_wp2_with (first
            | (go_at_call 32; go_must (refine HA.out.mono ?_); rintro e w1 ⟨rfl, hb1⟩; have HB1 := Lib.hid hb1; clear hb1)
            | (go_at_call 25; go_must (refine (HD.out _ (HE.out.below HB1.out).toEnv0).mono ?_); rintro e w2 ⟨rfl, hb2⟩; have HB2 := Lib.hid hb2; clear hb2))
          go_ret2
          refine ⟨?_, HB1.out.trans (HB2.out.mono HB1.out.size)⟩
          have hvv : ((v.toNat : Nat) : Int) = v := by have := HNN.out; omega
          show _ = Ending.returned (.tuple #[.int .i64 ((v.toNat : Nat) : Int), .bool true])
          rw [hvv]; rfl
        · have e : numV l most = none := by
            rw [HNUM.out, if_neg]
            rintro ⟨_, _, h3⟩
            exact heq (by rw [HDS.out, HSL.out, h3])
          rw [e]
          clear e
          have hbl : (ds.toList == s.toList) = false := by
            cases hq : ds.toList == s.toList with
            | false => rfl
            | true =>
              have h4 := eq_of_beq hq
              rw [Lib.toList_data, Lib.toList_data] at h4
              exact absurd (ByteArray.ext (Array.ext' h4)) heq
          go_enter Tryd.func24, Tryd.ntmps24
          go_wp2_with (first
            | (go_at_call 32; go_must (refine HA.out.mono ?_); rintro e w1 ⟨rfl, hb1⟩; have HB1 := Lib.hid hb1; clear hb1)
            | (go_at_call 25; go_must (refine (HD.out _ (HE.out.below HB1.out).toEnv0).mono ?_); rintro e w2 ⟨rfl, hb2⟩; have HB2 := Lib.hid hb2; clear hb2))
          go_ret2
          exact ⟨rfl, HB1.out.trans (HB2.out.mono HB1.out.size)⟩
  | _ =>
    have hno : ∀ v, Lib.atoiAll l ≠ .ok v := by rw [hat]; simp
    rw [number_none hm1 hno]
    have ha2 : Calls Tryd.prog 32 #[.string s] w fun e w' => (∃ v' t p, e = .returned (.tuple #[.int .i64 v', .iface t p])) ∧ Below w.heap.size w w' := ha.mono (by
      rintro e w' ⟨⟨v', er, rfl, _, her⟩, hb⟩
      rcases her with ⟨rfl, h⟩ | ⟨h, t, p, rfl⟩
      · exact absurd h (hno _)
      · exact ⟨⟨v', t, p, rfl⟩, hb⟩)
    have HA := Lib.hid ha2
    clear ha2
    clear ha hat hno HDEC hm0 hm1
    go_enter Tryd.func24, Tryd.ntmps24
    go_wp2_with (go_at_call 32; go_must (refine HA.out.mono ?_); rintro e w1 ⟨⟨v', tp, p, rfl⟩, hb1⟩)
    go_ret2
    exact ⟨rfl, hb1⟩
end Go.Proofs.YtggdpnkfambmfaaDoor
