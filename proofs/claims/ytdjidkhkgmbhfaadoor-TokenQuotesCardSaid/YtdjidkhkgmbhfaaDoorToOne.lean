/-
The reference of stage 8: one, by a contract: numbers, names, texts, the fault.
-/
import Derived.Test.YtdjidkhkgmbhfaaDoorToQuo
import Derived.Test.YtdjidkhkgmbhfaaDoorBHeld
namespace Go.Proofs.YtdjidkhkgmbhfaaDoor
open Go.RowKit Go.Proofs.YtdjidkhkgmbhfaaDoor.Tok

def tokV (k : Int) (x : ByteArray) (p : Int) : Value := .agg #[.int .i64 k, .string x, .int .i64 p]
/-- What one answers. -/
def oneT (p : Nat) (o : Option (Nat × List UInt8 × Nat)) (v : Value) : Prop := match o with
  | some (k, x, n) => v = .tuple #[tokV k ⟨x.toArray⟩ p, .int .i64 (n : Int)]
  | none => ∃ (a : Int) (b : ByteArray) (c : Int), v = .tuple #[tokV a b c, .int .i64 0]
theorem loadVar_tok {w : World} {b : Nat} {x y z : Value} (c0 : w.cell? ⟨b, 0, none⟩ = some x) (c1 : w.cell? ⟨b, 1, none⟩ = some y) (c2 : w.cell? ⟨b, 2, none⟩ = some z) : (loadVar 34 ⟨b, 0, none⟩).run Tryd.prog w = .ok (.agg #[x, y, z]) w := by
  unfold loadVar
  go_simp
theorem results_tok {fn : Func} {t u : Tmp} (h : fn.results = #[.cell t 34, .tmp u]) {tmps : Array Value} {w : World} {b : Nat} {x y z : Value} (ht : tmps.getD t undef = .pointer (some ⟨b, 0, none⟩))
    (c0 : w.cell? ⟨b, 0, none⟩ = some x) (c1 : w.cell? ⟨b, 1, none⟩ = some y) (c2 : w.cell? ⟨b, 2, none⟩ = some z) : (results fn tmps).run Tryd.prog w = .ok (.tuple #[.agg #[x, y, z], tmps.getD u undef]) w := by
  have ht' : tmps[t]?.getD undef = .pointer (some ⟨b, 0, none⟩) := by simpa using ht
  simp [results, h, ht', asAddr, loadVar_tok c0 c1 c2]
theorem cells3 (w : World) {g : Nat} (hg : g = w.heap.size) (x y z : Value) (T : TypeId) : (w.alloc (.cells #[x, y, z] T)).cell? ⟨g, 0, none⟩ = some x ∧ (w.alloc (.cells #[x, y, z] T)).cell? ⟨g, 1, none⟩ = some y ∧ (w.alloc (.cells #[x, y, z] T)).cell? ⟨g, 2, none⟩ = some z := by
  have h1 : (w.alloc (.cells #[x, y, z] T)).heap[g]? = some (.cells #[x, y, z] T (0, 0)) := heap_new hg
  exact ⟨by rw [cell_of_row _ _ 0 _ _ _ h1]; rfl, by rw [cell_of_row _ _ 1 _ _ _ h1]; rfl, by rw [cell_of_row _ _ 2 _ _ _ h1]; rfl⟩

theorem heap_setT {w : World} {b g i : Nat} {v : Value} (h : b ≠ g) : (w.setCell ⟨b, i, none⟩ v).heap[g]? = w.heap[g]? := by
  simp [World.setCell, Array.getElem?_modify, h]
theorem set3 {w : World} {b : Nat} {x y z x' y' z' : Value} {T : TypeId} (h : w.heap[b]? = some (.cells #[x', y', z'] T (0, 0))) :
    (((w.setCell ⟨b, 0, none⟩ x).setCell ⟨b, 1, none⟩ y).setCell ⟨b, 2, none⟩ z).cell? ⟨b, 0, none⟩ = some x ∧ (((w.setCell ⟨b, 0, none⟩ x).setCell ⟨b, 1, none⟩ y).setCell ⟨b, 2, none⟩ z).cell? ⟨b, 1, none⟩ = some y ∧ (((w.setCell ⟨b, 0, none⟩ x).setCell ⟨b, 1, none⟩ y).setCell ⟨b, 2, none⟩ z).cell? ⟨b, 2, none⟩ = some z := by
  have h1 : (((w.setCell ⟨b, 0, none⟩ x).setCell ⟨b, 1, none⟩ y).setCell ⟨b, 2, none⟩ z).heap[b]? = some (.cells #[x, y, z] T (0, 0)) := by
    simp [World.setCell, Array.getElem?_modify, h]
  exact ⟨by rw [cell_of_row _ _ 0 _ _ _ h1]; rfl, by rw [cell_of_row _ _ 1 _ _ _ h1]; rfl, by rw [cell_of_row _ _ 2 _ _ _ h1]; rfl⟩
theorem below_set3 {w w' : World} (hb : Below w.heap.size w w') (x y z : Value) : Below w.heap.size w (((w'.setCell ⟨w.heap.size, 0, none⟩ x).setCell ⟨w.heap.size, 1, none⟩ y).setCell ⟨w.heap.size, 2, none⟩ z) := by
  refine ⟨hb.os, hb.tape, hb.output, ?_, fun i hi => ?_⟩
  · have := hb.size
    simpa [World.setCell] using this
  · rw [heap_setT (by omega), heap_setT (by omega), heap_setT (by omega)]; exact hb.block i hi
theorem keep_set3 {w : World} {b g i : Nat} {x y z v : Value} (h : w.cell? ⟨g, i, none⟩ = some v) (hne : b ≠ g) : (((w.setCell ⟨b, 0, none⟩ x).setCell ⟨b, 1, none⟩ y).setCell ⟨b, 2, none⟩ z).cell? ⟨g, i, none⟩ = some v := by
  have hb : (((w.setCell ⟨b, 0, none⟩ x).setCell ⟨b, 1, none⟩ y).setCell ⟨b, 2, none⟩ z).heap[g]? = w.heap[g]? := by
    rw [heap_setT hne, heap_setT hne, heap_setT hne]
  exact (World.cell?_of_block (a := ⟨g, i, none⟩) hb).trans h
def signsC : Array Value := (signsL.map (fun x => Value.string ⟨x.toArray⟩)).toArray
set_option maxRecDepth 20000 in
theorem signs_any (w : World) :
    Calls Tryd.prog 26 #[] w fun e w' => e = .returned (.slice (some ⟨w.heap.size, 0, none⟩) 15 15) ∧ w' = w.alloc (.cells signsC 9) := by
  go_enter Tryd.func26, Tryd.ntmps26
  go_wp2
  go_ret
  exact ⟨rfl, rfl⟩
theorem signs_cell (w : World) {g k : Nat} {x : List UInt8} (hg : g = w.heap.size) (hk : signsL[k]? = some x) (T : TypeId) : (w.alloc (.cells signsC T)).cell? ⟨g, k, none⟩ = some (.string ⟨x.toArray⟩) := by
  have h1 : (w.alloc (.cells signsC T)).heap[g]? = some (.cells signsC T (0, 0)) := heap_new hg
  rw [cell_of_row _ _ k _ _ _ h1]
  simp [signsC, hk]
theorem find_at {l : List (List UInt8)} {q : List UInt8 → Bool} {k : Nat} {x : List UInt8} (hx : l[k]? = some x) (hq : q x = true) (hj : ∀ (j : Nat) y, j < k → l[j]? = some y → q y = false) : l.find? q = some x := by
  rw [List.find?_eq_some_iff_getElem]
  have h := List.getElem?_eq_some_iff.1 hx
  refine ⟨hq, k, h.1, h.2, fun j hjk => ?_⟩
  rw [hj j _ hjk (List.getElem?_eq_getElem (by have := h.1; omega))]; rfl
theorem find_no {l : List (List UInt8)} {q : List UInt8 → Bool} (hj : ∀ (j : Nat) y, l[j]? = some y → q y = false) : l.find? q = none := by
  rw [List.find?_eq_none]
  intro x hx
  obtain ⟨j, hj2, rfl⟩ := List.getElem_of_mem hx
  rw [hj j _ (List.getElem?_eq_getElem hj2)]
  simp

set_option maxRecDepth 20000 in
set_option maxHeartbeats 2000000 in
theorem one_any (l : List UInt8) (p : Nat) (hp : p < l.length) (hl : l.length ≤ 100000) (w : World) :
    Calls Tryd.prog 14 #[.string ⟨l.toArray⟩, .int .i64 (p : Int)] w fun e w' => (∃ v, e = .returned v ∧ oneT p (oneF (l.drop p)) v) ∧ Below w.heap.size w w' := by
  obtain ⟨n, hn⟩ : ∃ n, n = l.length := ⟨_, rfl⟩
  have hsz : (⟨l.toArray⟩ : ByteArray).size = n := by rw [hn]; rfl
  have hrf := fun W => run_f l p (by omega) (by omega) W
  have hrl := runB_le isDg (l.drop p)
  rw [List.length_drop] at hrl
  obtain ⟨d, hd⟩ : ∃ d, d = runB isDg (l.drop p) := ⟨_, rfl⟩
  rw [← hd] at hrf hrl
  have hone : oneF (l.drop p) = oneF (l.drop p) := rfl
  conv at hone => rhs; unfold oneF
  rw [← hd] at hone
  have HD := Lib.hid hd
  have HNL := Lib.hid hn
  have HL := Lib.hid hl
  by_cases h0 : d = 0
  · rw [if_neg (by simpa using h0)] at hone
    have hrt := fun W => run_t l p (by omega) (by omega) W
    have hel := runB_le isLd (l.drop p)
    rw [List.length_drop] at hel
    obtain ⟨q, hq⟩ : ∃ q, q = runB isLd (l.drop p) := ⟨_, rfl⟩
    rw [← hq] at hrt hel hone
    subst h0
    have HRF := Lib.hid hrf
    have HRT := Lib.hid hrt
    by_cases hq0 : q = 0
    · rw [if_neg (by simpa using hq0)] at hone
      subst hq0
      obtain ⟨c, hc⟩ : ∃ c, l[p]? = some c := ⟨_, List.getElem?_eq_getElem hp⟩
      have hget : ∀ h, (⟨l.toArray⟩ : ByteArray)[p]'h = c := fun h => (List.getElem?_eq_some_iff.1 hc).2
      have hhead : (l.drop p).head? = some c := by rw [List.head?_drop]; exact hc
      have htail : (l.drop p).tail = l.drop (p + 1) := by rw [List.tail_drop]
      rw [hhead, htail] at hone
      by_cases h34 : c = 34
      · subst h34
        rw [if_pos rfl] at hone
        have hqu := fun W => quoted_any l p hp (by omega) W
        cases hqf : quotedF (l.drop (p + 1)) with
        | none =>
          rw [hqf] at hone hqu
          simp only [Option.map_none] at hone
          simp only [quotedT] at hqu
          have HONE := Lib.hid hone
          have HQU := Lib.hid hqu
          rw [← hn] at hp hl hrl hel
          clear hone hrf hd hn hrt hq hqu hqf hhead htail hc
          go_enter Tryd.func14, Tryd.ntmps14
          go_wp2_with fail
          go_at_call 23
          with_reducible refine (HRF.out _).mono ?_
          rintro e w1 ⟨rfl, rfl⟩
          go_wp2_with fail
          go_at_call 23
          with_reducible refine (HRT.out _).mono ?_
          rintro e w1 ⟨rfl, rfl⟩
          go_wp2_with fail
          go_at_call 25
          with_reducible refine (HQU.out _).mono ?_
          rintro e w1 ⟨rfl, rfl⟩
          go_wp2_with fail
          obtain ⟨f0, f1, f2⟩ := cells3 w rfl (.int .i64 2) (.string ⟨#[]⟩) (.int .i64 (p : Int)) 34
          refine bodyPost_ret (results_tok rfl rfl f0 f1 f2) rfl ?_
          refine ⟨⟨_, rfl, ?_⟩, below_alloc w _⟩
          rw [HONE.out]
          exact ⟨_, _, _, rfl⟩
        | some x =>
          obtain ⟨x, k⟩ := x
          rw [hqf] at hone hqu
          simp only [Option.map_some] at hone
          simp only [quotedT] at hqu
          have HONE := Lib.hid hone
          have HQU := Lib.hid hqu
          rw [← hn] at hp hl hrl hel
          clear hone hrf hd hn hrt hq hqu hqf hhead htail hc
          go_enter Tryd.func14, Tryd.ntmps14
          go_wp2_with fail
          go_at_call 23
          with_reducible refine (HRF.out _).mono ?_
          rintro e w1 ⟨rfl, rfl⟩
          go_wp2_with fail
          go_at_call 23
          with_reducible refine (HRT.out _).mono ?_
          rintro e w1 ⟨rfl, rfl⟩
          go_wp2_with fail
          go_at_call 25
          with_reducible refine (HQU.out _).mono ?_
          rintro e w1 ⟨rfl, rfl⟩
          go_wp2_with fail
          obtain ⟨f0, f1, f2⟩ := cells3 w rfl (.int .i64 2) (.string ⟨x.toArray⟩) (.int .i64 (p : Int)) 34
          refine bodyPost_ret (results_tok rfl rfl f0 f1 f2) rfl ?_
          refine ⟨⟨_, rfl, ?_⟩, below_alloc w _⟩
          rw [HONE.out]
          exact rfl
      · rw [if_neg (by simpa using h34)] at hone
        have h34n : c.toNat ≠ 34 := fun e => h34 (by rw [← UInt8.ofNat_toNat (x := c), e]; rfl)
        have h34b : ((c.toNat : Int) == 34) = false := by simp; omega
        have hbeg := fun W => begins_any l [35, 82, 69, 70, 33] p (by omega) (by omega) (by simp) W
        rw [show faultL = [35, 82, 69, 70, 33] from rfl] at hone
        cases hb : [35, 82, 69, 70, 33].isPrefixOf (l.drop p) with
        | true =>
          rw [hb] at hbeg
          rw [hb] at hone
          simp only [if_true] at hone
          have HONE := Lib.hid hone
          have HB := Lib.hid hbeg
          rw [← hn] at hp hl hrl hel
          clear hone hrf hbeg hb hd hn hrt hq hhead htail hc h34
          go_enter Tryd.func14, Tryd.ntmps14
          go_wp2_with fail
          go_at_call 23
          with_reducible refine (HRF.out _).mono ?_
          rintro e w1 ⟨rfl, rfl⟩
          go_wp2_with fail
          go_at_call 23
          with_reducible refine (HRT.out _).mono ?_
          rintro e w1 ⟨rfl, rfl⟩
          go_wp2_with fail
          go_at_call 24
          with_reducible refine (HB.out _).mono ?_
          rintro e w1 ⟨rfl, rfl⟩
          go_wp2_with fail
          obtain ⟨f0, f1, f2⟩ := cells3 w rfl (.int .i64 5) (.string ⟨#[35, 82, 69, 70, 33]⟩) (.int .i64 (p : Int)) 34
          refine bodyPost_ret (results_tok rfl rfl f0 f1 f2) rfl ?_
          refine ⟨⟨_, rfl, ?_⟩, below_alloc w _⟩
          rw [HONE.out]
          exact rfl
        | false =>
          rw [hb] at hbeg
          rw [hb] at hone
          simp only [Bool.false_eq_true, if_false] at hone
          have HONE := Lib.hid hone
          have HB := Lib.hid hbeg
          rw [← hn] at hp hl hrl hel
          clear hone hrf hbeg hb hd hn hrt hq hhead htail hc h34
          go_enter Tryd.func14, Tryd.ntmps14
          go_wp2_with fail
          go_at_call 23
          with_reducible refine (HRF.out _).mono ?_
          rintro e w1 ⟨rfl, rfl⟩
          go_wp2_with fail
          go_at_call 23
          with_reducible refine (HRT.out _).mono ?_
          rintro e w1 ⟨rfl, rfl⟩
          go_wp2_with fail
          go_at_call 24
          with_reducible refine (HB.out _).mono ?_
          rintro e w1 ⟨rfl, rfl⟩
          go_wp2_with fail
          go_at_call 26
          with_reducible refine (signs_any _).mono ?_
          rintro e w2 ⟨rfl, hw2⟩
          have HSC := Lib.hid (fun k x (hk : signsL[k]? = some x) => (show w2.cell? ⟨w.heap.size + 1, k, none⟩ = some (.string ⟨x.toArray⟩) by rw [hw2]; exact signs_cell _ (by simp) hk _))
          have hrow : w2.heap[w.heap.size]? = some (.cells #[.int .i64 0, .string ⟨#[]⟩, .int .i64 0] 34 (0, 0)) := by rw [hw2]; exact heap_old (heap_new rfl)
          have HBW : Hid (Below w.heap.size w w2) := by rw [hw2]; exact Lib.hid ((below_alloc w _).alloc (by simp) _)
          have HROW := Lib.hid hrow
          have r0 : w2.cell? ⟨w.heap.size, 0, none⟩ = some (.int .i64 0) := by rw [cell_of_row _ _ 0 _ _ _ hrow]; rfl
          have r1 : w2.cell? ⟨w.heap.size, 1, none⟩ = some (.string ⟨#[]⟩) := by rw [cell_of_row _ _ 1 _ _ _ hrow]; rfl
          have r2 : w2.cell? ⟨w.heap.size, 2, none⟩ = some (.int .i64 0) := by rw [cell_of_row _ _ 2 _ _ _ hrow]; rfl
          have q0 : w2.frozen? ⟨w.heap.size, 0, none⟩ = false := by simp [World.frozen?, hrow]
          have q1 : w2.frozen? ⟨w.heap.size, 1, none⟩ = false := by simp [World.frozen?, hrow]
          have q2 : w2.frozen? ⟨w.heap.size, 2, none⟩ = false := by simp [World.frozen?, hrow]
          clear hw2 hrow
          go_wp2_with fail
          go_loop [11] (fun i => ∃ k : Nat, k ≤ 15 ∧ i = .int .i64 (k : Int) ∧ Hid (∀ j x, j < k → signsL[j]? = some x → x.isPrefixOf (l.drop p) = false)) (fun i => 15 - (intOf i).toNat)
          case atStart => exact ⟨0, by omega, rfl, Lib.hid (fun j x h => by omega)⟩
          case round =>
            obtain ⟨k, hk, rfl, HJ⟩ := hrel
            by_cases hge : 15 ≤ k
            · have hno := HONE.out
              rw [find_no (fun j y hy => HJ.out j y (by have := (List.getElem?_eq_some_iff.1 hy).1; have hl15 : signsL.length = 15 := rfl; omega) hy)] at hno
              have HNO := Lib.hid hno
              clear hno
              go_wp2_with fail
              obtain ⟨f0, f1, f2⟩ := set3 (x := .int .i64 0) (y := .string ⟨#[]⟩) (z := .int .i64 0) HROW.out
              refine bodyPost_ret (results_tok rfl rfl f0 f1 f2) rfl ?_
              refine ⟨⟨_, rfl, ?_⟩, below_set3 HBW.out _ _ _⟩
              rw [HNO.out]
              exact ⟨_, _, _, rfl⟩
            · have hlt : k < 15 := by omega
              clear hge
              obtain ⟨x, hx⟩ : ∃ x, signsL[k]? = some x := ⟨_, List.getElem?_eq_getElem (show k < signsL.length from hlt)⟩
              have hck := HSC.out k x hx
              have hxl : x.length ≤ 5 := by
                have h5 : ∀ y ∈ signsL, y.length ≤ 5 := by decide
                exact h5 x (List.mem_of_getElem? hx)
              have hxz : (⟨x.toArray⟩ : ByteArray).size = x.length := rfl
              have HX := Lib.hid hx
              have hbeg := fun W => begins_any l x p (by have := HNL.out; omega) (by have := HL.out; omega) (by omega) W
              cases hbx : x.isPrefixOf (l.drop p) with
              | true =>
                rw [hbx] at hbeg
                have hsome := HONE.out
                rw [find_at hx hbx HJ.out] at hsome
                have HSOME := Lib.hid hsome
                have HBX := Lib.hid hbeg
                clear hsome hbx hbeg hx
                generalize hsx : (⟨x.toArray⟩ : ByteArray) = sx at *
                have HSX := Lib.hid hsx
                clear hsx
                go_wp2_with fail
                go_at_call 24
                with_reducible refine (HBX.out _).mono ?_
                rintro e w3 ⟨rfl, rfl⟩
                go_wp2_with fail
                refine wp_region_noPanic ?_
                refine wp_region_held_drew (S := fun w' => w'.cell? ⟨w.heap.size + 1, k, none⟩ = some (.string sx)) (by kernel_rfl) hck (fun HS0 => ?_)
                refine wpAnyH_take (i := 0) (v := ?_) rfl (by kernel_rfl) (by kernel_rfl) (by kernel_rfl) (fun _ _ _ h => h) (Or.inl ⟨by rfl, ?_⟩) HS0 ?_
                rotate_left
                · intro w hE; go_simp; try with_reducible rfl
                simp only [List.getElem_toArray, List.getElem_cons_succ, List.getElem_cons_zero, Act.put, List.setIfInBounds_toArray, List.set_cons_zero, List.set_cons_succ]
                refine wpAnyH_take (i := 1) (v := ?_) rfl (by kernel_rfl) (by kernel_rfl) (by kernel_rfl) (fun _ _ _ h => h) (Or.inl ⟨by rfl, ?_⟩) HS0 ?_
                rotate_left
                · intro w hE; go_simp; try with_reducible rfl
                simp only [List.getElem_toArray, List.getElem_cons_succ, List.getElem_cons_zero, Act.put, List.setIfInBounds_toArray, List.set_cons_zero, List.set_cons_succ]
                refine wpAnyH_take (i := 2) (v := ?_) rfl (by kernel_rfl) (by kernel_rfl) (by kernel_rfl) (fun _ _ _ h => h) (Or.inl ⟨by rfl, ?_⟩) HS0 ?_
                rotate_left
                · intro w hE; go_simp; try with_reducible rfl
                simp only [List.getElem_toArray, List.getElem_cons_succ, List.getElem_cons_zero, Act.put, List.setIfInBounds_toArray, List.set_cons_zero, List.set_cons_succ]
                refine wpAnyH_take (i := 3) (v := ?_) rfl (by kernel_rfl) (by kernel_rfl) (by kernel_rfl) (fun _ _ _ h => h) (Or.inl ⟨by rfl, ?_⟩) HS0 ?_
                rotate_left
                · intro w hE; have hck := hE; go_simp; try with_reducible rfl
                simp only [List.getElem_toArray, List.getElem_cons_succ, List.getElem_cons_zero, Act.put, List.setIfInBounds_toArray, List.set_cons_zero, List.set_cons_succ]
                refine wpAnyH_take (i := 4) (v := ?_) rfl (by kernel_rfl) (by kernel_rfl) (by kernel_rfl) (fun _ _ _ h => h) (Or.inl ⟨by rfl, ?_⟩) HS0 ?_
                rotate_left
                · intro w hE; go_simp; try with_reducible rfl
                simp only [List.getElem_toArray, List.getElem_cons_succ, List.getElem_cons_zero, Act.put, List.setIfInBounds_toArray, List.set_cons_zero, List.set_cons_succ]
                refine wpAnyH_take (i := 5) (v := ?_) rfl (by kernel_rfl) (by kernel_rfl) (by kernel_rfl) (fun _ _ _ h => h) (Or.inl ⟨by rfl, ?_⟩) HS0 ?_
                rotate_left
                · intro w hE; go_simp; try with_reducible rfl
                simp only [List.getElem_toArray, List.getElem_cons_succ, List.getElem_cons_zero, Act.put, List.setIfInBounds_toArray, List.set_cons_zero, List.set_cons_succ]
                refine wpAnyH_take (i := 6) (v := ?_) rfl (by kernel_rfl) (by kernel_rfl) (by kernel_rfl) (fun _ _ _ h => h) (Or.inl ⟨by rfl, ?_⟩) HS0 ?_
                rotate_left
                · intro w hE; go_simp; try with_reducible rfl
                simp only [List.getElem_toArray, List.getElem_cons_succ, List.getElem_cons_zero, Act.put, List.setIfInBounds_toArray, List.set_cons_zero, List.set_cons_succ]
                refine wpAnyH_take (i := 7) (v := ?_) rfl (by kernel_rfl) (by kernel_rfl) (by kernel_rfl) (fun _ _ _ h => h) (Or.inl ⟨by rfl, ?_⟩) HS0 ?_
                rotate_left
                · intro w hE; go_simp; try with_reducible rfl
                simp only [List.getElem_toArray, List.getElem_cons_succ, List.getElem_cons_zero, Act.put, List.setIfInBounds_toArray, List.set_cons_zero, List.set_cons_succ]
                refine wpAnyH_take (i := 8) (v := ?_) rfl (by kernel_rfl) (by kernel_rfl) (by kernel_rfl) (fun _ _ _ h => h) (Or.inl ⟨by rfl, ?_⟩) HS0 ?_
                rotate_left
                · intro w hE; go_simp; try with_reducible rfl
                simp only [List.getElem_toArray, List.getElem_cons_succ, List.getElem_cons_zero, Act.put, List.setIfInBounds_toArray, List.set_cons_zero, List.set_cons_succ]
                refine wpAnyH_take (i := 9) (v := ?_) rfl (by kernel_rfl) (by kernel_rfl) (by kernel_rfl) (fun _ _ _ h => h) (Or.inl ⟨by rfl, ?_⟩) HS0 ?_
                rotate_left
                · intro w hE; have hck := hE; go_simp; try with_reducible rfl
                simp only [List.getElem_toArray, List.getElem_cons_succ, List.getElem_cons_zero, Act.put, List.setIfInBounds_toArray, List.set_cons_zero, List.set_cons_succ]
                refine wpAnyH_take (i := 10) (v := ?_) rfl (by kernel_rfl) (by kernel_rfl) (by kernel_rfl) (fun _ _ _ h => h) (Or.inl ⟨by rfl, ?_⟩) HS0 ?_
                rotate_left
                · intro w hE; go_simp; try with_reducible rfl
                simp only [List.getElem_toArray, List.getElem_cons_succ, List.getElem_cons_zero, Act.put, List.setIfInBounds_toArray, List.set_cons_zero, List.set_cons_succ]
                refine wpAnyH_ready (rs := [11]) (by kernel_rfl) (by simp) ?_
                refine AllReadyH.cons rfl (fun K hK => ?_) AllReadyH.nil
                go_simp
                refine hK.out _ _ (keep_set3 HS0 (by omega)) (fun HS1 => ?_)
                clear hK
                try simp only [List.getElem_toArray, List.getElem_cons_succ, List.getElem_cons_zero, Act.put, List.setIfInBounds_toArray, List.set_cons_zero, List.set_cons_succ]
                refine wpAnyH_take (i := 12) (v := ?_) rfl (by kernel_rfl) (by kernel_rfl) (by kernel_rfl) (fun _ _ _ h => h) (Or.inl ⟨by rfl, ?_⟩) HS1 ?_
                rotate_left
                · intro w hE; go_simp; try with_reducible rfl
                simp only [List.getElem_toArray, List.getElem_cons_succ, List.getElem_cons_zero, Act.put, List.setIfInBounds_toArray, List.set_cons_zero, List.set_cons_succ]
                refine wpAnyH_done (by kernel_rfl) ?_ _
                refine NoPanic.normal ?_
                go_wp2_with fail
                obtain ⟨f0, f1, f2⟩ := set3 (x := .int .i64 4) (y := .string sx) (z := .int .i64 (p : Int)) HROW.out
                refine bodyPost_ret (results_tok (x := .int .i64 4) (y := .string sx) (z := .int .i64 (p : Int)) rfl rfl ?_ ?_ ?_) rfl ?_
                · exact f0
                · exact f1
                · exact f2
                refine ⟨⟨_, rfl, ?_⟩, (below_set3 HBW.out _ _ _).drew⟩
                rw [HSOME.out]
                show _ = _
                rw [HSX.out]
                rfl
              | false =>
                rw [hbx] at hbeg
                have HBX := Lib.hid hbeg
                have HJ2 : Hid (∀ j y, j < k + 1 → signsL[j]? = some y → y.isPrefixOf (l.drop p) = false) := Lib.hid (fun j y hj hy => by
                  by_cases e : j = k
                  · subst e; rw [HX.out] at hy; injection hy with hy; subst hy; exact hbx
                  · exact HJ.out j y (by omega) hy)
                clear hbx hbeg hx
                go_wp2_with fail
                go_at_call 24
                with_reducible refine (HBX.out _).mono ?_
                rintro e w3 ⟨rfl, rfl⟩
                go_wp2_with fail
                go_round
                case rel => exact ⟨k + 1, by omega, by go_num, HJ2⟩
                case measure => simp [intOf]; omega
    · rw [if_pos hq0] at hone
      have hq1 : 0 < q := by omega
      have hext : (⟨l.toArray⟩ : ByteArray).extract p (p + q) = ⟨((l.drop p).take q).toArray⟩ := by rw [ext_T, show p + q - p = q from by omega]
      have HONE := Lib.hid hone
      rw [← hn] at hp hl hrl hel
      clear hone hrf hd hn hrt hq hq0
      go_enter Tryd.func14, Tryd.ntmps14
      go_wp2_with fail
      go_at_call 23
      with_reducible refine (HRF.out _).mono ?_
      rintro e w1 ⟨rfl, rfl⟩
      go_wp2_with fail
      go_at_call 23
      with_reducible refine (HRT.out _).mono ?_
      rintro e w1 ⟨rfl, rfl⟩
      go_wp2_with fail
      obtain ⟨f0, f1, f2⟩ := cells3 w rfl (.int .i64 3) (.string ⟨((l.drop p).take q).toArray⟩) (.int .i64 (p : Int)) 34
      refine bodyPost_ret (results_tok rfl rfl f0 f1 f2) rfl ?_
      refine ⟨⟨_, rfl, ?_⟩, below_alloc w _⟩
      rw [HONE.out]
      exact rfl
  · rw [if_pos h0] at hone
    have hd1 : 0 < d := by omega
    have hbeg := fun W => begins_any l [46] (p + d) (by omega) (by omega) (by simp) W
    simp only [Int.natCast_add] at hbeg
    rw [List.drop_drop] at hone
    have hext : (⟨l.toArray⟩ : ByteArray).extract p (p + d) = ⟨((l.drop p).take d).toArray⟩ := by rw [ext_T, show p + d - p = d from by omega]
    cases hb : [46].isPrefixOf (l.drop (p + d)) with
    | false =>
      rw [hb] at hone hbeg
      simp only [Bool.false_eq_true, if_false] at hone
      have HONE := Lib.hid hone
      have HRF := Lib.hid hrf
      have HB := Lib.hid hbeg
      rw [← hn] at hp hl hrl
      clear hone hrf hbeg hb hd h0 hn
      go_enter Tryd.func14, Tryd.ntmps14
      go_wp2_with fail
      go_at_call 23
      with_reducible refine (HRF.out _).mono ?_
      rintro e w1 ⟨rfl, rfl⟩
      go_wp2_with fail
      go_at_call 24
      with_reducible refine (HB.out _).mono ?_
      rintro e w1 ⟨rfl, rfl⟩
      go_wp2_with fail
      obtain ⟨f0, f1, f2⟩ := cells3 w rfl (.int .i64 1) (.string ⟨((l.drop p).take d).toArray⟩) (.int .i64 (p : Int)) 34
      refine bodyPost_ret (results_tok rfl rfl f0 f1 f2) rfl ?_
      refine ⟨⟨_, rfl, ?_⟩, below_alloc w _⟩
      rw [HONE.out]
      exact rfl
    | true =>
      rw [hb] at hone hbeg
      simp only [if_true] at hone
      have hpl := (List.isPrefixOf_iff_prefix.1 hb).length_le
      rw [List.length_drop] at hpl
      have hpd : p + d + 1 ≤ l.length := by simp at hpl; omega
      have hrf2 := fun W => run_f l (p + d + 1) hpd (by omega) W
      rw [List.drop_drop, show p + (d + 1) = p + d + 1 from by omega] at hone
      have hml := runB_le isDg (l.drop (p + d + 1))
      rw [List.length_drop] at hml
      obtain ⟨m, hm⟩ : ∃ m, m = runB isDg (l.drop (p + d + 1)) := ⟨_, rfl⟩
      rw [← hm] at hone hrf2 hml
      simp only [Int.natCast_add, Int.cast_ofNat_Int] at hrf2
      have hext2 : (⟨l.toArray⟩ : ByteArray).extract p (p + d + 1 + m) = ⟨((l.drop p).take (d + 1 + m)).toArray⟩ := by rw [ext_T, show p + d + 1 + m - p = d + 1 + m from by omega]
      by_cases hm0 : m = 0
      · rw [if_pos hm0] at hone
        have HONE := Lib.hid hone
        have HRF := Lib.hid hrf
        have HB := Lib.hid hbeg
        have HRF2 := Lib.hid hrf2
        rw [← hn] at hp hl hrl hpd hml
        clear hone hrf hbeg hb hd h0 hn hrf2 hpl hm
        subst hm0
        go_enter Tryd.func14, Tryd.ntmps14
        go_wp2_with fail
        go_at_call 23
        with_reducible refine (HRF.out _).mono ?_
        rintro e w1 ⟨rfl, rfl⟩
        go_wp2_with fail
        go_at_call 24
        with_reducible refine (HB.out _).mono ?_
        rintro e w1 ⟨rfl, rfl⟩
        go_wp2_with fail
        go_at_call 23
        with_reducible refine (HRF2.out _).mono ?_
        rintro e w1 ⟨rfl, rfl⟩
        go_wp2_with fail
        obtain ⟨f0, f1, f2⟩ := cells3 w rfl (.int .i64 0) (.string ⟨#[]⟩) (.int .i64 0) 34
        refine bodyPost_ret (results_tok rfl rfl f0 f1 f2) rfl ?_
        refine ⟨⟨_, rfl, ?_⟩, below_alloc w _⟩
        rw [HONE.out]
        exact ⟨_, _, _, rfl⟩
      · rw [if_neg hm0] at hone
        have HONE := Lib.hid hone
        have HRF := Lib.hid hrf
        have HB := Lib.hid hbeg
        have HRF2 := Lib.hid hrf2
        have hm1 : 0 < m := by omega
        have t0 : ((m : Int) == 0) = false := by simp; omega
        rw [← hn] at hp hl hrl hpd hml
        clear hone hrf hbeg hb hd h0 hn hrf2 hpl hm hm0
        go_enter Tryd.func14, Tryd.ntmps14
        go_wp2_with fail
        go_at_call 23
        with_reducible refine (HRF.out _).mono ?_
        rintro e w1 ⟨rfl, rfl⟩
        go_wp2_with fail
        go_at_call 24
        with_reducible refine (HB.out _).mono ?_
        rintro e w1 ⟨rfl, rfl⟩
        go_wp2_with fail
        go_at_call 23
        with_reducible refine (HRF2.out _).mono ?_
        rintro e w1 ⟨rfl, rfl⟩
        go_wp2_with fail
        obtain ⟨f0, f1, f2⟩ := cells3 w rfl (.int .i64 1) (.string ⟨((l.drop p).take (d + 1 + m)).toArray⟩) (.int .i64 (p : Int)) 34
        refine bodyPost_ret (results_tok rfl rfl f0 f1 f2) rfl ?_
        refine ⟨⟨_, rfl, ?_⟩, below_alloc w _⟩
        rw [HONE.out]
        exact rfl
end Go.Proofs.YtdjidkhkgmbhfaaDoor
