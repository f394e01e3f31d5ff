/-
The law A1Columns, over what it asks of package a1.
-/
import Derived.Test.YtggdpnkfambmfaaDoorCeOk
namespace Go.Proofs.YtggdpnkfambmfaaDoor
open Go.RowKit Go.Proofs.YtggdpnkfambmfaaDoor.Dig

set_option maxRecDepth 20000 in
set_option maxHeartbeats 1000000 in
theorem columns_fit {E : World → Prop} (K : A1Ok E) (n : Int) (l : List UInt8) (hn : I64 n) (hl : l.length ≤ 20) (w : World) (hE : E w) :
    Calls Tryd.prog 3 #[.int .i64 n, .string ⟨l.toArray⟩] w fun e w' => e = .returned (.bool true) ∧ Below w.heap.size w w' := by
  have HKEEP := Lib.hid (fun w w' (h : E w) hb => K.keep (w' := w') h hb)
  have HE := Lib.hid hE
  have hcol := fun W hW => K.col n W hW hn
  have hrcol := fun W => rcol_any n hn.1 hn.2 W
  have hcl := fun W hW => K.column l W hW hl
  have hrcl := fun W => rcolumn_any l (by omega) W
  have hcc := fun W hW => K.column (colL n) W hW (by have := colL_len n; omega)
  have hrcc := fun W => rcolumn_any (colL n) (by have := colL_len n; omega) W
  have haw := fun W hW => awakeC K W hW
  have hsz : (⟨l.toArray⟩ : ByteArray).size ≤ 20 := hl
  generalize (⟨l.toArray⟩ : ByteArray) = s at *
  generalize (⟨(colL n).toArray⟩ : ByteArray) = sc at *
  generalize (colV l : Nat) = vl at *
  generalize (colV (colL n) : Nat) = vc at *
  have H1 := Lib.hid hcol
  have H2 := Lib.hid hrcol
  have H3 := Lib.hid hcl
  have H4 := Lib.hid hrcl
  have H5 := Lib.hid hcc
  have H6 := Lib.hid hrcc
  have H7 := Lib.hid haw
  clear hcol hrcol hcl hrcl hcc hrcc haw hE hn hl K
  go_enter Tryd.func3, Tryd.ntmps3
  go_wp2_with fail
  have HW := Lib.hid (Below.refl w.heap.size w)
  go_at_call 8
  with_reducible refine (H1.out _ (HKEEP.out _ _ HE.out HW.out)).mono ?_
  rintro e w1 ⟨rfl, hb⟩
  have HW1 := Lib.hid (HW.out.trans (hb.mono HW.out.size))
  clear hb
  go_wp2_with fail
  go_at_call 9
  with_reducible refine (H2.out _).mono ?_
  rintro e w2 ⟨rfl, hb⟩
  have HW2 := Lib.hid (HW1.out.trans (hb.mono HW1.out.size))
  clear hb
  go_wp2_with fail
  go_at_call 10
  with_reducible refine (H3.out _ (HKEEP.out _ _ HE.out HW2.out)).mono ?_
  rintro e w3 ⟨rfl, hb⟩
  have HW3 := Lib.hid (HW2.out.trans (hb.mono HW2.out.size))
  clear hb
  go_wp2_with fail
  go_at_call 11
  with_reducible refine (H4.out _).mono ?_
  rintro e w4 ⟨rfl, hb⟩
  have HW4 := Lib.hid (HW3.out.trans (hb.mono HW3.out.size))
  clear hb
  go_wp2_with fail
  go_at_call 8
  with_reducible refine (H1.out _ (HKEEP.out _ _ HE.out HW4.out)).mono ?_
  rintro e w5 ⟨rfl, hb⟩
  have HW5 := Lib.hid (HW4.out.trans (hb.mono HW4.out.size))
  clear hb
  go_wp2_with fail
  go_at_call 10
  with_reducible refine (H5.out _ (HKEEP.out _ _ HE.out HW5.out)).mono ?_
  rintro e w6 ⟨rfl, hb⟩
  have HW6 := Lib.hid (HW5.out.trans (hb.mono HW5.out.size))
  clear hb
  go_wp2_with fail
  go_at_call 9
  with_reducible refine (H2.out _).mono ?_
  rintro e w7 ⟨rfl, hb⟩
  have HW7 := Lib.hid (HW6.out.trans (hb.mono HW6.out.size))
  clear hb
  go_wp2_with fail
  go_at_call 11
  with_reducible refine (H6.out _).mono ?_
  rintro e w8 ⟨rfl, hb⟩
  have HW8 := Lib.hid (HW7.out.trans (hb.mono HW7.out.size))
  clear hb
  go_wp2_with fail
  go_at_call 7
  with_reducible refine (H7.out _ (HKEEP.out _ _ HE.out HW8.out)).mono ?_
  rintro e w9 ⟨rfl, hb⟩
  have HW9 := Lib.hid (HW8.out.trans (hb.mono HW8.out.size))
  clear hb
  go_wp2_with fail
  go_ret
  exact ⟨rfl, HW9.out⟩
theorem columns_any {E : World → Prop} (K : A1Ok E) (n : Int) (s : ByteArray) (hn : I64 n) (hs : s.size ≤ 9223372036854775807) (w : World) (hE : E w) :
    Calls Tryd.prog 3 #[.int .i64 n, .string s] w fun e w' => e = .returned (.bool true) ∧ Below w.heap.size w w' := by
  by_cases hl : s.size ≤ 20
  · have e : s = ⟨s.data.toList.toArray⟩ := by cases s; simp
    have h := columns_fit K n s.data.toList hn (by simpa using hl) w hE
    rw [← e] at h
    exact h
  · have HAW := Lib.hid (awakeC K w hE)
    have hbig : 20 < s.size := by omega
    clear hE K hl
    go_enter Tryd.func3, Tryd.ntmps3
    go_wp2_with (go_at_call 7; (with_reducible refine (HAW.out).mono ?_); rintro e w1 ⟨rfl, hb1⟩)
    go_ret
    exact ⟨rfl, hb1⟩
end Go.Proofs.YtggdpnkfambmfaaDoor
