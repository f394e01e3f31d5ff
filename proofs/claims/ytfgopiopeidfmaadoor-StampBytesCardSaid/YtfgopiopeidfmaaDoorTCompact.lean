/-
slices.Clone and slices.Compact at stamps, by contracts.
-/
import Derived.Test.YtfgopiopeidfmaaDoorTSortM
import Derived.Shelf.GgSortFunc.RowK
import Derived.Sort.WalkA
import Derived.Deep.LoopGhost
import Derived.Lib.SliceRun
import Derived.Lib.LazyBuf
namespace Go.Proofs.YtfgopiopeidfmaaDoor
open Go.RowKit Go.Sort Go.Lib

theorem wp_appIl {ops : Array Oper} {rest : List Oper} {o : Oper} {a : Act} {Q : Exit → Act → World → Prop} {w : World} (hgd : o.guard = none) (s x : Operand)
    (ho : o.op = Op.call { callee := Callee.builtin Builtin.append, args := #[s, x], argTypes := #[29, 29] }) (B : Nat) (v : Value) (l : List (Nat × Int)) (hs : a.eval s = v) (hown : OwnI B w v l)
    (vb : Value) (m : List (Nat × Int)) (hx : a.eval x = vb) (hb : RdI w vb m) (hl : l.length + m.length ≤ 1000000) (hB : B ≤ w.heap.size)
    (h : ∀ v' w', OwnI B w' v' (l ++ m) → Go.RowKit.Below B w w' → wpList Tryd.prog ops Q rest (a.put o.dst v') w') :
    wpList Tryd.prog ops Q (o :: rest) a w := by
  obtain ⟨v', w', hr, h1, h2, _, _⟩ := run_appI w o.type B v l hown vb m hb hl hB
  exact Lib.wpList_append_run w hgd s x _ _ ho v vb hs hx v' w' hr (h v' w' h1 h2)
theorem eq_nilI (w : World) (a : Option Addr) (n c : Nat) : (binOp .eql 29 (.slice a n c) (.slice none 0 0)).run Tryd.prog w = .ok (.bool a.isNone) w :=
  Lib.run_eql_slice_nil w _ _ a n c 0 0 Tryd.underlying29

set_option maxRecDepth 20000 in
theorem cloneI_any (v : Value) (l : List (Nat × Int)) (w : World) (h : RdI w v l) (hl : l.length ≤ 100000) :
    Calls Tryd.prog 33 #[v] w fun e w' => ∃ v', e = .returned v' ∧ OwnI w.heap.size w' v' l ∧ Go.RowKit.Below w.heap.size w w' := by
  obtain ⟨A, n, c, rfl, hn⟩ := h.named
  have HR := Lib.hid h
  have HL := Lib.hid hl
  have hq := eq_nilI
  rcases A with _ | a
  · have hx : l = [] := by
      rcases h with ⟨_, _, _, hx, _⟩ | ⟨_, _, _, hv, _⟩
      · exact hx
      · simp at hv
    clear h hl hn HR HL
    subst hx
    go_enter Tryd.func33, Tryd.ntmps33
    go_wp2
    go_ret
    exact ⟨_, rfl, OwnI.nil _ _, Below.refl _ _⟩
  · clear h hl hn
    go_enter Tryd.func33, Tryd.ntmps33
    go_wp2_with (at_builtin; refine wp_appIl rfl _ _ rfl w.heap.size _ [] rfl (OwnI.empty _ w rfl (Nat.le_refl _)) _ l rfl (HR.out.below (below_alloc _ _)) (by have := HL.out; simp; omega) (by simp) ?_; intro v1 w1 hown1 hbel1)
    go_ret
    exact ⟨_, rfl, hown1, (below_alloc w _).trans hbel1⟩

/-- An element's cells. -/
theorem HoldsI.at_ {w : World} {blk off : Nat} {d : Array (Nat × Int)} (h : HoldsK idC 2 w blk off d) {j : Nat} (hj : j < d.size) {x1 : Nat} {x2 : Int} (hx : d[j]! = (x1, x2)) :
    (w.cell? ⟨blk, off + j * 2, none⟩ = some (.int .u64 (x1 : Int)) ∧ w.cell? ⟨blk, off + j * 2 + 1, none⟩ = some (.int .i64 x2)) ∧ w.frozen? ⟨blk, off + j * 2, none⟩ = false ∧ w.frozen? ⟨blk, off + j * 2 + 1, none⟩ = false := by
  obtain ⟨a, b⟩ := HoldsK.cell (enc := idC) h hj (c := 0) (by omega)
  obtain ⟨c, e⟩ := HoldsK.cell (enc := idC) h hj (c := 1) (by omega)
  rw [hx] at a c
  exact ⟨⟨a, c⟩, b, e⟩
theorem idC_len (x : Nat × Int) : (idC x).length = 2 := rfl
theorem flat_set (dk : Array (Nat × Int)) (k : Nat) (u : Nat × Int) (hk : k < dk.size) : setMany (flatK idC 2 dk) (k * 2) (idC u) = flatK idC 2 (dk.setIfInBounds k u) := by
  refine ext_get! (by simp) fun t ht => ?_
  have ht' : t < dk.size * 2 := by simpa using ht
  rw [get_setMany _ _ _ t (by simpa using ht'), get_flatK _ _ _ t ht', get_flatK _ _ _ t (by simpa using ht'), idC_len]
  by_cases a : t / 2 = k
  · rw [if_pos ((blk_iff 2 k t (by omega)).2 a), a, getElem!_set_same dk k u hk, show t - k * 2 = t % 2 from by omega]
  · rw [if_neg (fun h => a ((blk_iff 2 k t (by omega)).1 h)), getElem!_set_other dk k _ u a]
theorem store_world_i {w wr : World} {n blk off : Nat} {dk : Array (Nat × Int)} {k : Nat} (hk : k < dk.size) (hwr : wr = putRowK idC 2 (Sort.ahead w n) blk off dk) (u1 : Nat) (u2 : Int) :
    ((wr.setCell ⟨blk, off + k * 2, none⟩ (.int .u64 (u1 : Int))).setCell ⟨blk, off + k * 2 + 1, none⟩ (.int .i64 u2)).drew = putRowK idC 2 (Sort.ahead w (n + 1)) blk off (dk.setIfInBounds k (u1, u2)) := by
  subst hwr
  have h := setCells_putRow (Sort.ahead w n) blk off (idC (u1, u2)) (k * 2) (flatK idC 2 dk) (by rw [idC_len, size_flatK]; omega)
  rw [flat_set dk k (u1, u2) hk] at h
  have h2 : ((putRowK idC 2 (Sort.ahead w n) blk off dk).setCell ⟨blk, off + k * 2, none⟩ (.int .u64 (u1 : Int))).setCell ⟨blk, off + k * 2 + 1, none⟩ (.int .i64 u2) = putRow id (Sort.ahead w n) blk off (flatK idC 2 (dk.setIfInBounds k (u1, u2))) := h
  rw [h2]; rfl
/-- The row's cells, read again. -/
theorem rd_rowI {w : World} {blk off cap : Nat} {d0 : Array (Nat × Int)} {F : Array Value} {l : List (Nat × Int)} (h0 : Holds id w blk off (flatK idC 2 d0)) (hF : F.size = d0.size * 2)
    (hl : ∀ (j : Nat) x, l[j]? = some x → F[j * 2]! = .int .u64 (x.1 : Int) ∧ F[j * 2 + 1]! = .int .i64 x.2) (hlen : l.length ≤ d0.size) (hcap : l.length ≤ cap) (hm : cap ≤ maxLen) (hblk : blk < w.heap.size) :
    RdI (putRow id w blk off F) (.slice (some ⟨blk, off, none⟩) l.length cap) l := by
  refine .inr ⟨blk, off, cap, rfl, hcap, hm, by rw [size_putRow]; exact hblk, fun j x hj => ?_⟩
  have hjl := (List.getElem?_eq_some_iff.1 hj).1
  obtain ⟨e0, e1⟩ := hl j x hj
  have c0 := (cell?_putRow id w blk off _ F h0 (by rw [hF, size_flatK]) (j * 2) (by omega))
  have c1 := (cell?_putRow id w blk off _ F h0 (by rw [hF, size_flatK]) (j * 2 + 1) (by omega))
  rw [e0] at c0
  rw [e1] at c1
  exact ⟨c0, by rw [show off + j * 2 + 1 = off + (j * 2 + 1) from by omega]; exact c1⟩
theorem below_putRow {B : Nat} (w : World) (q blk off : Nat) (F : Array Value) (hB : B ≤ blk) (hB2 : B ≤ w.heap.size) : Go.RowKit.Below B w (putRow id (Sort.ahead w q) blk off F) := by
  refine ⟨rfl, rfl, rfl, by rw [size_putRow]; exact Nat.le_refl _, fun i hi => ?_⟩
  show ((Sort.ahead w q).heap.modify blk _)[i]? = w.heap[i]?
  rw [Array.getElem?_modify, if_neg (by omega)]; rfl
theorem rd_holds {w : World} {blk off cap : Nat} {d : Array (Nat × Int)} (h : HoldsK idC 2 w blk off d) (hcap : d.size ≤ cap) (hm : cap ≤ maxLen) (hblk : blk < w.heap.size) : RdI w (.slice (some ⟨blk, off, none⟩) d.size cap) d.toList := by
  refine .inr ⟨blk, off, cap, by simp, by simpa using hcap, hm, hblk, fun j x hj => ?_⟩
  have hjl : j < d.size := by have := (List.getElem?_eq_some_iff.1 hj).1; simpa using this
  have e : d[j]! = x := by
    rw [getElem!_pos d j hjl]
    have := (List.getElem?_eq_some_iff.1 hj).2
    simpa using this
  exact (HoldsI.at_ h hjl (x1 := x.1) (x2 := x.2) e).1

/-- What clear lays. -/
def zeros2 (m : Nat) : List Value := (Builtin.zeroCells #[.int .u64 0, .int .i64 0] m).toList
theorem zeros2_len (m : Nat) : (zeros2 m).length = m * 2 := by simp [zeros2, Builtin.zeroCells]
theorem zeros2_one (m : Nat) : ∀ v ∈ zeros2 m, v.oneCell' = true := by
  intro v hv
  simp only [zeros2, Builtin.zeroCells, Array.toList_map, List.mem_map] at hv
  obtain ⟨i, _, rfl⟩ := hv
  have : i % 2 = 0 ∨ i % 2 = 1 := by omega
  rcases this with h | h
  · show (#[Value.int .u64 0, .int .i64 0][i % 2]!).oneCell' = true
    rw [h]; rfl
  · show (#[Value.int .u64 0, .int .i64 0][i % 2]!).oneCell' = true
    rw [h]; rfl
theorem clear_ids (w : World) (ty : TypeId) (b o n c : Nat) (hn : 0 < n) (hc : ∀ j, j < n * 2 → (w.cell? ⟨b, o + j, none⟩).isSome = true) (hf : ∀ j, j < n * 2 → w.frozen? ⟨b, o + j, none⟩ = false) :
    (Builtin.clear_ #[29] ty #[.slice (some ⟨b, o, none⟩) n c]).run Tryd.prog w = .ok (.tuple #[]) (w.setCells b o (zeros2 n)) := by
  have hst := run_storeCells_cells (P := Tryd.prog) b o (zeros2 n) 0 w (by rw [zeros2_len]; simpa using hc) (by rw [zeros2_len]; simpa using hf) (zeros2_one n)
  simp only [Nat.add_zero] at hst
  have hz : ∀ w, (zeroValue 24).run Tryd.prog w = .ok (.agg #[.int .u64 0, .int .i64 0]) w := Tryd.zeroValue24
  have hcl : (Value.agg #[.int .u64 0, .int .i64 0]).cells = #[.int .u64 0, .int .i64 0] := by rfl
  obtain ⟨m, rfl⟩ : ∃ m, n = m + 1 := ⟨n - 1, by omega⟩
  unfold zeros2 at hst
  simp [Builtin.clear_, run_underlying Tryd.underlying29, hz, hcl, hst, zeros2]
theorem clear_row {w : World} {q blk off : Nat} {dk : Array (Nat × Int)} {k : Nat} (hk : k ≤ dk.size) :
    (putRowK idC 2 (Sort.ahead w q) blk off dk).setCells blk (off + k * 2) (zeros2 (dk.size - k)) = putRow id (Sort.ahead w q) blk off (setMany (flatK idC 2 dk) (k * 2) (zeros2 (dk.size - k))) :=
  setCells_putRow (Sort.ahead w q) blk off _ (k * 2) _ (by rw [zeros2_len, size_flatK]; omega)
theorem sliceVI_at (blk off n c m : Nat) (hm : m < c) : sliceVI (some ⟨blk, off, none⟩) n c m = .slice (some ⟨blk, off + m * 2, none⟩) (n - m) (c - m) := by
  unfold sliceVI
  rw [if_neg (by omega)]
  simp only [Option.map_some, Addr.add_lit]
theorem sliceHI_at (blk off c m : Nat) : sliceHI (some ⟨blk, off, none⟩) c m = .slice (some ⟨blk, off, none⟩) m c := by
  unfold sliceHI
  split <;> simp [Addr.add]
theorem compact_nil (p : Option Addr) (c : Nat) (w : World) :
    Calls Tryd.prog 35 #[.slice p 0 c] w fun e w' => e = .returned (.slice p 0 c) ∧ w' = w := by
  go_enter Tryd.func35, Tryd.ntmps35
  go_wp2
  go_ret
  exact ⟨rfl, rfl⟩
end Go.Proofs.YtfgopiopeidfmaaDoor
