/-
The program's Name, by a contract.
-/
import Derived.Test.YtlagjnlajkmmeaaGreatDoorTqM
import Derived.Test.YtlagjnlajkmmeaaGreatDoorTpSplit
namespace Go.Proofs.YtlagjnlajkmmeaaGreatDoor
open Go.RowKit Go.Proofs.YtlagjnlajkmmeaaGreatDoor.Tok

set_option maxRecDepth 20000 in
set_option maxHeartbeats 4000000 in
theorem pname_any (s : List UInt8) (hs : s.length ≤ 9223372036854775807) (w : World) (hE : EnvT w) :
    Calls Tryz.prog 50 #[.string ⟨s.toArray⟩] w fun e w' => e = .returned (.bool (nameF s)) ∧ Below w.heap.size w w' := by
  obtain ⟨n, hn⟩ : ∃ n, n = s.length := ⟨_, rfl⟩
  have hsz : (⟨s.toArray⟩ : ByteArray).size = n := by rw [hn]; rfl
  obtain ⟨res, hres⟩ : ∃ r, r = nameF s := ⟨_, rfl⟩
  rw [← hres]
  rw [← hn] at hs
  by_cases h32 : 32 < n
  · obtain rfl : res = false := by rw [hres]; exact name_long (by omega)
    clear hres hn
    generalize (⟨s.toArray⟩ : ByteArray) = sb at *
    go_enter Tryz.func50, Tryz.ntmps50
    go_wp2_with fail
    go_ret
    exact ⟨rfl, Below.refl _ _⟩
  have h32' : n ≤ 32 := by omega
  clear h32
  have HSP := Lib.hid (tokOk.split s w hE (by omega))
  have HRES := Lib.hid hres
  have HY := Lib.hid (fun (h : splitF s 0 ≠ .ok [(3, s, 0)]) => (show res = false from by
    cases hr : res with
    | false => rfl
    | true => exact absurd (name_split1 (by rw [← hres]; exact hr)) h))
  have HT := Lib.hid (fun (q : Nat) (h : splitF s 0 = .ok [(3, s, q)]) => (show res = true from by rw [hres]; exact name_split2 (by omega) h))
  obtain ⟨sb, hsb⟩ : ∃ sb : ByteArray, sb = ⟨s.toArray⟩ := ⟨_, rfl⟩
  rw [← hsb] at HSP hsz ⊢
  have HSB := Lib.hid hsb
  clear hres hn hsb hE hs
  go_enter Tryz.func50, Tryz.ntmps50
  go_wp2_with fail
  go_at_call 60
  with_reducible refine (HSP.out).mono ?_
  rintro e w1 ⟨⟨v, rfl, hv⟩, hb1⟩
  have HB1 := Lib.hid hb1
  clear HSP hb1
  cases hsp : splitF s 0 with
  | error p =>
    rw [hsp] at hv
    simp only [psplitT] at hv
    subst hv
    obtain rfl : res = false := HY.out (by rw [hsp]; intro h; cases h)
    clear HY HT HRES
    go_wp2_with fail
    go_ret
    exact ⟨rfl, HB1.out⟩
  | ok l =>
    rw [hsp] at hv
    simp only [psplitT] at hv
    obtain ⟨u, rfl, hu⟩ := hv
    obtain ⟨A, m, c, rfl, hm⟩ := hu.named
    by_cases hm1 : m = 1
    · subst hm1
      obtain ⟨⟨k, x, p⟩, rfl⟩ : ∃ t, l = [t] := List.length_eq_one_iff.1 hm.symm
      obtain ⟨b, off, rfl, c0, c1, c2⟩ := hu.at_ (k := 0) (x := (k, x, p)) rfl
      rw [Nat.zero_mul, Nat.add_zero] at c0 c1 c2
      simp only at c0 c1 c2
      clear hm hu
      by_cases hk : k = 3
      · subst hk
        by_cases hx : x = s
        · subst hx
          obtain rfl : res = true := HT.out p hsp
          rw [← HSB.out] at c1
          clear HY HT HRES hsp
          go_wp2_with fail
          go_ret
          exact ⟨rfl, HB1.out⟩
        · have hne : (⟨x.toArray⟩ : ByteArray) ≠ sb := fun e => hx (by
            rw [HSB.out] at e
            have := congrArg (fun b : ByteArray => b.data.toList) e
            simpa using this)
          have z1 := strN_ne hne
          obtain rfl : res = false := HY.out (by
            rw [hsp]; intro h; injection h with h; injection h with h _; injection h with _ h; injection h with h _; exact hx h)
          clear HY HT HRES hsp hx hne
          generalize (⟨x.toArray⟩ : ByteArray) = xb at *
          go_wp2_with fail
          go_ret
          exact ⟨rfl, HB1.out⟩
      · have z1 : ((k : Int) == 3) = false := beq_eq_false_iff_ne.2 (by omega)
        obtain rfl : res = false := HY.out (by
          rw [hsp]; intro h; injection h with h; injection h with h _; injection h with h _; exact hk h)
        clear HY HT HRES hsp hk
        generalize (⟨x.toArray⟩ : ByteArray) = xb at *
        go_wp2_with fail
        go_ret
        exact ⟨rfl, HB1.out⟩
    · have z1 : ((m : Int) == 1) = false := beq_eq_false_iff_ne.2 (by omega)
      obtain rfl : res = false := HY.out (by
        rw [hsp]; intro h; injection h with h; subst h; simp at hm; omega)
      clear HY HT HRES hsp hu hm hm1
      go_wp2_with fail
      go_ret
      exact ⟨rfl, HB1.out⟩
end Go.Proofs.YtlagjnlajkmmeaaGreatDoor
