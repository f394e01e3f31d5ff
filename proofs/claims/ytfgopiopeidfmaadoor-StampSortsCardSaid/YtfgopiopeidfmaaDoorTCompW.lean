/-
slices.Compact at stamps, by a contract.
-/
import Derived.Test.YtfgopiopeidfmaaDoorTCompact
import Derived.BigQuiet
import Derived.Deep.QuietTactic
namespace Go.Proofs.YtfgopiopeidfmaaDoor
open Go.RowKit Go.Sort Go.Lib

theorem compact_fin {B blk off cap q kk : Nat} {d dk : Array (Nat × Int)} {w : World} (hH : HoldsK idC 2 w blk off d) (hblk : blk < w.heap.size) (hcap : d.size ≤ cap) (hm : cap ≤ maxLen) (hB : B ≤ blk) (hI : CompInv d d.size kk dk) :
    RdI ((putRowK idC 2 (Sort.ahead w q) blk off dk).setCells blk (off + kk * 2) (zeros2 (d.size - kk))) (.slice (some ⟨blk, off, none⟩) kk cap) (compactUpTo d d.size) ∧
    Go.RowKit.Below B w ((putRowK idC 2 (Sort.ahead w q) blk off dk).setCells blk (off + kk * 2) (zeros2 (d.size - kk))) := by
  have hs := hI.size
  have hl := hI.len
  have hlt := hI.lt
  have hlow := hI.low
  have e := clear_row (w := w) (q := q) (blk := blk) (off := off) (dk := dk) (k := kk) (by omega)
  rw [hs] at e
  rw [e]
  refine ⟨?_, below_putRow w q blk off _ hB (by omega)⟩
  have hr := rd_rowI (w := Sort.ahead w q) (blk := blk) (off := off) (cap := cap) (d0 := d) (F := setMany (flatK idC 2 dk) (kk * 2) (zeros2 (d.size - kk))) (l := compactUpTo d d.size) (holdsK_ahead _ _ _ _ _ _ _ hH) (by simp [hs]) (fun j x hj => ?_) (by omega) (by omega) hm hblk
  · rw [hl] at hr; exact hr
  · have hjk : j < kk := by have := (List.getElem?_eq_some_iff.1 hj).1; omega
    have hx : dk[j]! = x := by rw [hlow j hjk] at hj; exact Option.some.inj hj
    rw [get_setMany _ _ _ _ (by rw [size_flatK]; omega), get_setMany _ _ _ _ (by rw [size_flatK]; omega), if_neg (by omega), if_neg (by omega), get_flatK _ _ _ _ (by omega), get_flatK _ _ _ _ (by omega), show j * 2 / 2 = j from by omega, show (j * 2 + 1) / 2 = j from by omega, hx, show j * 2 % 2 = 0 from by omega, show (j * 2 + 1) % 2 = 1 from by omega]
    exact ⟨rfl, rfl⟩
theorem compact_same {B blk off cap q : Nat} {d : Array (Nat × Int)} {w : World} (hH : HoldsK idC 2 w blk off d) (hblk : blk < w.heap.size) (hcap : d.size ≤ cap) (hm : cap ≤ maxLen) (hB : B ≤ blk) (hall : ∀ j, j < d.size → keeps d j = true) :
    RdI (w.drewN q) (.slice (some ⟨blk, off, none⟩) d.size cap) (compactUpTo d d.size) ∧ Go.RowKit.Below B w (w.drewN q) := by
  rw [compactUpTo_all d _ hall, range_map_get]
  exact ⟨rd_holds (w := w.drewN q) hH hcap hm hblk, Below.drewN _ _ _⟩

theorem store_world_j {w wr : World} {n blk off : Nat} {dk : Array (Nat × Int)} {k : Nat} (hk : k < dk.size) (hwr : wr = putRowK idC 2 (Sort.ahead w n) blk off dk) (u1 : Nat) (u2 : Int) :
    (wr.setCell ⟨blk, off + k * 2, none⟩ (.int .u64 (u1 : Int))).setCell ⟨blk, off + k * 2 + 1, none⟩ (.int .i64 u2) = putRowK idC 2 (Sort.ahead w n) blk off (dk.setIfInBounds k (u1, u2)) := by
  subst hwr
  have h := setCells_putRow (Sort.ahead w n) blk off (idC (u1, u2)) (k * 2) (flatK idC 2 dk) (by rw [idC_len, size_flatK]; omega)
  rw [flat_set dk k (u1, u2) hk] at h
  exact h

set_option maxRecDepth 40000 in
set_option maxHeartbeats 4000000 in
theorem compact_any (B blk off cap : Nat) (d : Array (Nat × Int)) (w : World) (hH : HoldsK idC 2 w blk off d) (hblk : blk < w.heap.size) (hsz : d.size ≤ 100000) (hcap : d.size ≤ cap) (hm : cap ≤ maxLen) (hB : B ≤ blk) :
    Calls Tryd.prog 35 #[.slice (some ⟨blk, off, none⟩) d.size cap] w fun e w' => ∃ v', e = .returned v' ∧ RdI w' v' (compactUpTo d d.size) ∧ Go.RowKit.Below B w w' := by
  have HFIN := Lib.hid (fun q kk dk (hI : CompInv d d.size kk dk) => compact_fin (B := B) (q := q) hH hblk hcap hm hB hI)
  have HSAME := Lib.hid (fun q hall => compact_same (B := B) (q := q) hH hblk hcap hm hB hall)
  have HH : Hid (HoldsK idC 2 w blk off d) := Lib.hid hH
  have hsl : ∀ m, m < d.size → ∀ W, (Instr.slice 29 (.slice (some ⟨blk, off, none⟩) d.size cap) (some (.int .i64 (m : Int))) none none).run Tryd.prog W = .ok (.slice (some ⟨blk, off + m * 2, none⟩) (d.size - m) (cap - m)) W := fun m hm1 W => by
    rw [sliceVI_run _ _ _ _ (by omega), sliceVI_at _ _ _ _ _ (by omega)]
  have hsh : ∀ m, m ≤ d.size → ∀ W, (Instr.slice 29 (.slice (some ⟨blk, off, none⟩) d.size cap) none (some (.int .i64 (m : Int))) none).run Tryd.prog W = .ok (.slice (some ⟨blk, off, none⟩) m cap) W := fun m hm1 W => by
    rw [sliceHI_run _ _ _ _ (by omega), sliceHI_at]
  have HSL := Lib.hid hsl
  have HSH := Lib.hid hsh
  clear hH hsl hsh hB hm hblk
  by_cases h2 : d.size < 2
  · go_enter Tryd.func35, Tryd.ntmps35
    go_wp2
    go_ret
    obtain ⟨a, b⟩ := HSAME.out 0 (fun j hj => keeps_lt_one d j (by omega))
    exact ⟨_, rfl, a, b⟩
  · go_enter Tryd.func35, Tryd.ntmps35
    go_wp2
    go_loopg [3] d.size (fun g s3 wr => ∃ k q : Nat, 1 ≤ k ∧ k ≤ d.size ∧ d.size - k ≤ g ∧ s3 = .int .i64 k ∧ wr = w.drewN q ∧ Hid (∀ j, j < k → keeps d j = true))
    case atStart => exact ⟨1, 0, Nat.le_refl _, by omega, by omega, rfl, rfl, Lib.hid (keeps_lt_one d)⟩
    case round =>
      obtain ⟨k, q, hk1, hk, hg, rfl, rfl, HALL⟩ := hrel
      by_cases hlt : k < d.size
      · obtain ⟨x1, x2, hx⟩ : ∃ x1 x2, d[k]! = (x1, x2) := ⟨_, _, rfl⟩
        obtain ⟨y1, y2, hy⟩ : ∃ y1 y2, d[k - 1]! = (y1, y2) := ⟨_, _, rfl⟩
        have c1 := (HoldsI.at_ (holdsK_ahead idC 2 w q blk off d HH.out) hlt hx).1
        have c0 := (HoldsI.at_ (holdsK_ahead idC 2 w q blk off d HH.out) (show k - 1 < d.size by omega) hy).1
        obtain ⟨c10, c11⟩ := c1
        obtain ⟨c00, c01⟩ := c0
        have HX := Lib.hid hx
        have HY := Lib.hid hy
        clear hx hy
        change (w.drewN q).cell? _ = _ at c10 c11 c00 c01
        obtain ⟨wq, hwq⟩ : ∃ wq, wq = w.drewN q := ⟨_, rfl⟩
        rw [← hwq] at c10 c11 c00 c01 ⊢
        have HWQ := Lib.hid hwq
        clear hwq
        by_cases hdup : x1 = y1 ∧ x2 = y2
        · obtain ⟨rfl, rfl⟩ := hdup
          go_wp2
          go_quiet (fail)
          have hslk := HSL.out k hlt
          go_wp2
          clear c00 c01 c10 c11 hslk
          go_loopg [3, 5] d.size (fun g s3 s5 wr => ∃ (kk k2 q2 : Nat) (dk : Array (Nat × Int)), s3 = .int .i64 kk ∧ s5 = .int .i64 k2 ∧ 1 ≤ k2 ∧ k + k2 ≤ d.size ∧ d.size - (k + k2) ≤ g ∧ Hid (wr = putRowK idC 2 (Sort.ahead w q2) blk off dk) ∧ Hid (CompInv d (k + k2) kk dk))
          case atStart => exact ⟨k, 1, q + nq, d, rfl, rfl, Nat.le_refl _, by omega, by omega, Lib.hid (by rw [HWQ.out, putRowK_self idC 2 _ blk off d (holdsK_ahead idC 2 w _ blk off d HH.out)]; simp [World.drewN, Sort.ahead, Nat.add_assoc]), Lib.hid (CompInv.start HALL.out (keeps_neg (by omega) (by rw [HX.out, HY.out])))⟩
          case round =>
            obtain ⟨kk, k2, q2, dk, rfl, rfl, h1, hle, hg2, HWR, HI⟩ := hrel
            have hkk := HI.out.lt
            have hds := HI.out.size
            have HHK : Hid (HoldsK idC 2 wr blk off dk) := Lib.hid (by rw [HWR.out]; exact holdsK_putRowK idC 2 _ blk off d dk (holdsK_ahead idC 2 w q2 blk off d HH.out) hds)
            by_cases hlt2 : k + k2 < d.size
            · obtain ⟨u1, u2, hu⟩ : ∃ u1 u2, d[k + k2]! = (u1, u2) := ⟨_, _, rfl⟩
              obtain ⟨v1, v2, hv⟩ : ∃ v1 v2, d[k + k2 - 1]! = (v1, v2) := ⟨_, _, rfl⟩
              obtain ⟨o1, o2, ho⟩ : ∃ o1 o2, dk[kk]! = (o1, o2) := ⟨_, _, rfl⟩
              obtain ⟨m0, m1⟩ := (HoldsI.at_ HHK.out (j := k + k2) (x1 := u1) (x2 := u2) (by omega) (by rw [HI.out.high _ (by omega)]; exact hu)).1
              obtain ⟨p0, p1⟩ := (HoldsI.at_ HHK.out (j := k + k2 - 1) (x1 := v1) (x2 := v2) (by omega) (by rw [HI.out.high _ (by omega)]; exact hv)).1
              obtain ⟨⟨k0, k1⟩, f0, f1⟩ := HoldsI.at_ HHK.out (j := kk) (by omega) ho
              rw [show off + (k + k2) * 2 = off + k * 2 + k2 * 2 from by omega] at m0 m1
              rw [show off + (k + k2 - 1) * 2 = off + k * 2 + (k2 - 1) * 2 from by omega] at p0 p1
              have HU := Lib.hid hu
              have HV := Lib.hid hv
              clear hu hv ho
              by_cases huv : u1 = v1 ∧ u2 = v2
              · obtain ⟨rfl, rfl⟩ := huv
                go_wp2
                go_quiet (fail)
                go_wp2
                go_roundg (d.size - (k + (k2 + 1)))
                case measure => omega
                case rel =>
                  refine ⟨kk, k2 + 1, q2 + nq, dk, rfl, by go_num, by omega, by omega, Nat.le_refl _, Lib.hid (by rw [HWR.out, putRowK_drewN]), Lib.hid (HI.out.skip (keeps_neg (by omega) (by rw [HU.out, HV.out])))⟩
              · have hnest := ite2_neg huv
                have HUV := Lib.hid huv
                clear huv
                go_wp2
                go_quiet (fail)
                go_wp2
                go_roundg (d.size - (k + (k2 + 1)))
                case measure => omega
                case rel =>
                  refine ⟨kk + 1, k2 + 1, q2 + nq, dk.setIfInBounds kk (u1, u2), by go_num, by go_num, by omega, by omega, Nat.le_refl _, Lib.hid (store_world_j (by omega) (by rw [HWR.out, putRowK_drewN]) u1 u2), Lib.hid (by have := HI.out.keep hlt2 (keeps_pos (by rw [HU.out, HV.out]; intro e; exact HUV.out ⟨congrArg Prod.fst e, congrArg Prod.snd e⟩)); rw [HU.out] at this; exact this)⟩
            · have hend : k + k2 = d.size := by omega
              have hcl : ∀ ty, (Builtin.clear_ #[29] ty #[.slice (some ⟨blk, off + kk * 2, none⟩) (d.size - kk) (cap - kk)]).run Tryd.prog wr = .ok (.tuple #[]) (wr.setCells blk (off + kk * 2) (zeros2 (d.size - kk))) := fun ty => by
                have hcell : ∀ j, j < (d.size - kk) * 2 → (wr.cell? ⟨blk, off + kk * 2 + j, none⟩).isSome = true ∧ wr.frozen? ⟨blk, off + kk * 2 + j, none⟩ = false := fun j hj => by
                  obtain ⟨⟨a0, a1⟩, b0, b1⟩ := HoldsI.at_ HHK.out (j := kk + j / 2) (by omega) (x1 := dk[kk + j / 2]!.1) (x2 := dk[kk + j / 2]!.2) rfl
                  rcases Nat.mod_two_eq_zero_or_one j with hj2 | hj2
                  · rw [show off + kk * 2 + j = off + (kk + j / 2) * 2 from by omega]
                    exact ⟨by rw [a0]; rfl, b0⟩
                  · rw [show off + kk * 2 + j = off + (kk + j / 2) * 2 + 1 from by omega]
                    exact ⟨by rw [a1]; rfl, b1⟩
                exact clear_ids wr ty blk (off + kk * 2) (d.size - kk) (cap - kk) (by omega) (fun j hj => (hcell j hj).1) (fun j hj => (hcell j hj).2)
              have hslk := HSL.out kk (by omega)
              have hshk := HSH.out kk (by omega)
              have HEND := Lib.hid hend
              clear hend
              go_wp2
              go_ret
              have hI := HI.out
              rw [HEND.out] at hI
              obtain ⟨ra, rb⟩ := HFIN.out q2 kk dk hI
              rw [← HWR.out] at ra rb
              exact ⟨_, rfl, ra, rb⟩
        · have hnest := ite2_neg hdup
          have HDUP := Lib.hid hdup
          clear hdup
          go_wp2
          go_quiet (fail)
          go_wp2
          go_roundg (d.size - (k + 1))
          case measure => omega
          case rel =>
            refine ⟨k + 1, q + nq, by omega, by omega, Nat.le_refl _, by go_num, by rw [HWQ.out]; simp [World.drewN, Nat.add_assoc], Lib.hid fun j hj => ?_⟩
            by_cases e : j = k
            · subst e
              exact keeps_pos (by rw [HX.out, HY.out]; intro e; exact HDUP.out ⟨congrArg Prod.fst e, congrArg Prod.snd e⟩)
            · exact HALL.out j (by omega)
      · obtain rfl : k = d.size := by omega
        go_wp2
        go_ret
        obtain ⟨a, b⟩ := HSAME.out q HALL.out
        exact ⟨_, rfl, a, b⟩
end Go.Proofs.YtfgopiopeidfmaaDoor
