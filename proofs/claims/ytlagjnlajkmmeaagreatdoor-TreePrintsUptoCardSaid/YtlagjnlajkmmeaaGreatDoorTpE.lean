/-
What the world holds for package token; said and Quote of the program, by contracts.
-/
import Derived.Test.YtlagjnlajkmmeaaGreatDoorTokM
import Derived.Test.YtlagjnlajkmmeaaGreatDoorTokR
import Derived.Test.YtlagjnlajkmmeaaGreatDoorShelf
import Derived.Deep.QuietTactic
import Derived.BigQuiet
import Derived.IntWalk
namespace Go.Proofs.YtlagjnlajkmmeaaGreatDoor
open Go.RowKit Go.Proofs.YtlagjnlajkmmeaaGreatDoor.Tok

/-- The program's own signs, and the library's greatest length of a short search. -/
structure EnvT (w : World) : Prop where
  max : ∃ m : Int, w.cell? ⟨1, 0, none⟩ = some (.int .i64 m)
  signs : ∀ (i : Nat) x, signsL[i]? = some x → w.cell? ⟨4, i, none⟩ = some (.string ⟨x.toArray⟩)
theorem EnvT.below {w w' : World} (h : EnvT w) (hb : Below w.heap.size w w') : EnvT w' := by
  obtain ⟨⟨m, hm⟩, hs⟩ := h
  exact ⟨⟨m, by rw [bcell hb _ _ (World.block_lt_of_cell? _ _ hm)]; exact hm⟩, fun i x hx => by rw [bcell hb _ _ (World.block_lt_of_cell? _ _ (hs i x hx))]; exact hs i x hx⟩

theorem rep_any (s old new : List UInt8) (hs : s.length ≤ 2000000) (ho : 1 ≤ old.length) (hn : new.length ≤ 2) (w : World) (hE : EnvT w) :
    Calls Tryz.prog 44 #[.string ⟨s.toArray⟩, .string ⟨old.toArray⟩, .string ⟨new.toArray⟩] w fun e w' => e = .returned (.string ⟨(repA s old new).toArray⟩) ∧ Below w.heap.size w w' := by
  obtain ⟨m, hm⟩ := hE.max
  have h1 : (⟨s.toArray⟩ : ByteArray).size = s.length := rfl
  have h2 : (⟨old.toArray⟩ : ByteArray).size = old.length := rfl
  have h3 : (⟨new.toArray⟩ : ByteArray).size = new.length := rfl
  have h4 : Lib.countB ⟨s.toArray⟩ ⟨old.toArray⟩ ≤ s.length + 1 := by have := Lib.count_le s old; simpa [Lib.countB] using this
  have h5 : Lib.countB ⟨s.toArray⟩ ⟨old.toArray⟩ * new.length ≤ (s.length + 1) * 2 := Nat.mul_le_mul h4 hn
  refine (Tryz.strings_ReplaceAll _ _ _ m w (by omega) hm (by omega) (by rw [h1, h3]; omega)).mono ?_
  rintro e w' ⟨rfl, hb⟩
  exact ⟨by simp [repA], hb⟩

set_option maxRecDepth 20000 in
theorem said_other (k : Int) (hk : (k == 2) = false) (l : List UInt8) (w : World) :
    Calls Tryz.prog 75 #[.int .i64 k, .string ⟨l.toArray⟩] w fun e w' => e = .returned (.string ⟨l.toArray⟩) ∧ Below w.heap.size w w' := by
  go_enter Tryz.func75, Tryz.ntmps75
  go_wp2
  go_ret
  exact ⟨rfl, Below.refl _ _⟩
set_option maxRecDepth 20000 in
theorem said_text (l : List UInt8) (h2 : 2 ≤ l.length) (hl : l.length ≤ 100000) (w : World) (hE : EnvT w) :
    Calls Tryz.prog 75 #[.int .i64 2, .string ⟨l.toArray⟩] w fun e w' => e = .returned (.string ⟨(repA ((l.drop 1).take (l.length - 2)) [34, 34] [34]).toArray⟩) ∧ Below w.heap.size w w' := by
  obtain ⟨n, hn⟩ : ∃ n, n = l.length := ⟨_, rfl⟩
  have hsz : (⟨l.toArray⟩ : ByteArray).size = n := by rw [hn]; rfl
  have hr := rep_any ((l.drop 1).take (l.length - 2)) [34, 34] [34] (by rw [List.length_take]; omega) (by decide) (by decide) w hE
  have hx : (⟨l.toArray⟩ : ByteArray).extract 1 (n - 1) = ⟨((l.drop 1).take (l.length - 2)).toArray⟩ := by rw [ext_T, hn]; congr 3
  rw [← hn] at h2 hl
  have HR := Lib.hid hr
  generalize (⟨((l.drop 1).take (l.length - 2)).toArray⟩ : ByteArray) = p at *
  generalize (⟨(repA ((l.drop 1).take (l.length - 2)) [34, 34] [34]).toArray⟩ : ByteArray) = q at *
  clear hr hE hn
  have hw : IntKind.i64.wrap ((n : Int) - 1) = (n : Int) - 1 := IntWalk.i64_in _ (by omega)
  have hn1 : ((n : Int) - 1).toNat = n - 1 := by omega
  go_enter Tryz.func75, Tryz.ntmps75
  go_wp2_with fail
  go_at_call 44
  with_reducible refine (HR.out).mono ?_
  rintro e w1 ⟨rfl, hb1⟩
  go_wp2_with fail
  go_ret
  exact ⟨rfl, hb1⟩
theorem esc_quote (s : List UInt8) : (⟨#[34]⟩ : ByteArray) ++ ⟨(repA s [34] [34, 34]).toArray⟩ ++ ⟨#[34]⟩ = ⟨(quoteL s).toArray⟩ := by
  rw [rep_esc]
  apply ByteArray.ext
  simp [quoteL]
set_option maxRecDepth 20000 in
theorem quote_any (s : List UInt8) (hl : s.length ≤ 2000000) (w : World) (hE : EnvT w) :
    Calls Tryz.prog 31 #[.string ⟨s.toArray⟩] w fun e w' => e = .returned (.string ⟨(quoteL s).toArray⟩) ∧ Below w.heap.size w w' := by
  have hr := rep_any s [34] [34, 34] hl (by decide) (by decide) w hE
  have he := esc_quote s
  have hsz : (⟨(repA s [34] [34, 34]).toArray⟩ : ByteArray).size ≤ 5000000 := by
    rw [rep_esc]
    have := esc_len s
    show (escL s).toArray.size ≤ _
    simp; omega
  have h34 : (⟨#[34]⟩ : ByteArray).size = 1 := rfl
  have hc1 : ((⟨#[34]⟩ : ByteArray) ++ ⟨(repA s [34] [34, 34]).toArray⟩).size = 1 + (⟨(repA s [34] [34, 34]).toArray⟩ : ByteArray).size := by rw [ByteArray.size_append]; rfl
  have HR := Lib.hid hr
  generalize (⟨(quoteL s).toArray⟩ : ByteArray) = q at *
  generalize (⟨(repA s [34] [34, 34]).toArray⟩ : ByteArray) = r at *
  generalize (⟨s.toArray⟩ : ByteArray) = sb at *
  have HQ := Lib.hid he
  clear hr hE he hl
  go_enter Tryz.func31, Tryz.ntmps31
  go_wp2_with fail
  go_at_call 44
  with_reducible refine (HR.out).mono ?_
  rintro e w1 ⟨rfl, hb1⟩
  go_wp2_with fail
  go_ret
  exact ⟨by rw [← HQ.out]; rfl, hb1⟩
end Go.Proofs.YtlagjnlajkmmeaaGreatDoor
