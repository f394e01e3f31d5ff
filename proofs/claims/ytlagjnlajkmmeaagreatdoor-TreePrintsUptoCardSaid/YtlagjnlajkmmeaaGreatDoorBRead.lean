/-
Slices of bytes, and of such slices, that read as lists: kept in later worlds, cut, appended, turned into strings. Of no function of the program.
-/
import Derived.Test.YtlagjnlajkmmeaaGreatDoorRows
import Derived.WalkKit
import Derived.WalkSpells
import Derived.WalkLawsBesides
import Derived.LoopTactic
import Derived.Outline
import Derived.Lib.Hide
import Derived.Below
import Derived.Laws.AppendOwn
import Derived.Laws.AppendOwnNone
import Derived.Laws.BytesArg
import Derived.WideShapes
import Derived.Maps.AppendAt
import Derived.Lib.AppendStr
import Derived.Lib.AppendZeros
namespace Go.Proofs.YtlagjnlajkmmeaaGreatDoor
open Go.RowKit

def nv (d : Nat) : Value := .int .u8 (d : Int)
/-- The slice value v reads as these bytes. -/
def Rd (w : World) (v : Value) (xs : List Nat) : Prop :=
  (∃ p c, v = .slice p 0 c ∧ xs = [] ∧ (p = none → c = 0)) ∨ ∃ b off cap, v = .slice (some ⟨b, off, none⟩) xs.length cap ∧ xs.length ≤ cap ∧ cap ≤ maxLen ∧ b < w.heap.size ∧ ∀ j x, xs[j]? = some x → w.cell? ⟨b, off + j, none⟩ = some (nv x)

theorem drop_at {α : Type} {xs : List α} {k : Nat} {x : α} (h : xs[k]? = some x) : xs.drop k = x :: xs.drop (k + 1) := by
  obtain ⟨h1, h2⟩ := List.getElem?_eq_some_iff.1 h
  rw [List.drop_eq_getElem_cons h1, h2]
/-- The slice value v reads as these parts. -/
def RdP (w : World) (v : Value) (pss : List (List Nat)) : Prop :=
  (∃ p c, v = .slice p 0 c ∧ pss = []) ∨ ∃ b off cap, v = .slice (some ⟨b, off, none⟩) pss.length cap ∧ pss.length ≤ cap ∧ cap ≤ maxLen ∧ b < w.heap.size ∧ ∀ j ps, pss[j]? = some ps → ∃ u, w.cell? ⟨b, off + j, none⟩ = some u ∧ Rd w u ps

theorem Rd.form {w : World} {v : Value} {xs : List Nat} (h : Rd w v xs) :
    ∃ A c, v = .slice A xs.length c ∧ xs.length ≤ c + xs.length ∧ ∀ j x, xs[j]? = some x → ∃ b off, A = some ⟨b, off, none⟩ ∧ w.cell? ⟨b, off + j, none⟩ = some (nv x) := by
  rcases h with ⟨p, c, rfl, rfl, _⟩ | ⟨b, off, cap, rfl, hcap, hm, hb, hc⟩
  · exact ⟨p, c, rfl, by omega, fun j x hj => by simp at hj⟩
  · exact ⟨_, cap, rfl, by omega, fun j x hj => ⟨b, off, rfl, hc j x hj⟩⟩
theorem RdP.form {w : World} {v : Value} {pss : List (List Nat)} (h : RdP w v pss) :
    ∃ A c, v = .slice A pss.length c ∧ ∀ j ps, pss[j]? = some ps → ∃ b off u, A = some ⟨b, off, none⟩ ∧ w.cell? ⟨b, off + j, none⟩ = some u ∧ Rd w u ps := by
  rcases h with ⟨p, c, rfl, rfl⟩ | ⟨b, off, cap, rfl, hcap, hm, hb, hc⟩
  · exact ⟨p, c, rfl, fun j x hj => by simp at hj⟩
  · exact ⟨_, cap, rfl, fun j x hj => by obtain ⟨u, hu, hr⟩ := hc j x hj; exact ⟨b, off, u, rfl, hu, hr⟩⟩

theorem bcell {W w1 : World} (hb : Below W.heap.size W w1) : ∀ b o, b < W.heap.size → w1.cell? ⟨b, o, none⟩ = W.cell? ⟨b, o, none⟩ :=
  fun b o h => hb.cell (p := ⟨b, o, none⟩) h
theorem Rd.below {w w' : World} {v : Value} {xs : List Nat} (h : Rd w v xs) (hb : Below w.heap.size w w') : Rd w' v xs := by
  rcases h with h | ⟨b, off, cap, rfl, hcap, hm, hlt, hc⟩
  · exact .inl h
  · exact .inr ⟨b, off, cap, rfl, hcap, hm, Nat.lt_of_lt_of_le hlt hb.size, fun j x hx => by rw [bcell hb _ _ hlt]; exact hc j x hx⟩
theorem RdP.below {w w' : World} {v : Value} {pss : List (List Nat)} (h : RdP w v pss) (hb : Below w.heap.size w w') : RdP w' v pss := by
  rcases h with h | ⟨b, off, cap, rfl, hcap, hm, hlt, hc⟩
  · exact .inl h
  · refine .inr ⟨b, off, cap, rfl, hcap, hm, Nat.lt_of_lt_of_le hlt hb.size, fun j x hx => ?_⟩
    obtain ⟨u, hu, hr⟩ := hc j x hx
    exact ⟨u, by rw [bcell hb _ _ hlt]; exact hu, hr.below hb⟩
/-- The slice value v is nil, or heads a row from block B on; it reads as these bytes. -/
def Own (B : Nat) (w : World) (v : Value) (xs : List Nat) : Prop := w.ownsRow B 5 1 v xs.length (xs.map nv)
theorem ownsRow_below {w w' : World} {K B e s n : Nat} {v : Value} {xs : List Value} (h : w.ownsRow B e s v n xs) (hb : Below K w w') (hK : w.heap.size ≤ K) : w'.ownsRow B e s v n xs := by
  refine ⟨h.1, ?_⟩
  rcases h.2 with h2 | ⟨g, cap, cur, hv, hg, hh, r⟩
  · exact .inl h2
  · have hlt := (Array.getElem?_eq_some_iff.1 hh).1
    exact .inr ⟨g, cap, cur, hv, hg, by rw [hb.block g (by omega)]; exact hh, r⟩
theorem Own.below {B : Nat} {w w' : World} {v : Value} {xs : List Nat} (h : Own B w v xs) (hb : Below w.heap.size w w') : Own B w' v xs := ownsRow_below h hb (Nat.le_refl _)
theorem Own.nil (B : Nat) (w : World) : Own B w (.slice none 0 0) [] := World.ownsRow_nil _ _ _ _
theorem Own.rd {B : Nat} {w : World} {v : Value} {xs : List Nat} (h : Own B w v xs) : Rd w v xs := by
  rcases h.2 with ⟨hv, hn⟩ | ⟨g, cap, cur, hv, _, hh, hnc, hm, hs, ht⟩
  · exact .inl ⟨none, 0, hv, List.eq_nil_of_length_eq_zero hn, fun _ => rfl⟩
  · refine .inr ⟨g, 0, cap, hv, hnc, hm, (Array.getElem?_eq_some_iff.1 hh).1, fun j x hj => ?_⟩
    have hx : (xs.map nv)[j]? = some (nv x) := by simp [hj]
    rw [Nat.zero_add, cell_of_row w g j cur 5 (0, 0) hh]
    rw [← ht, List.getElem?_take] at hx
    split at hx
    · simpa using hx
    · cases hx

/-- A block that the call made, read as bytes. -/
theorem rd_row {w : World} {g : Nat} {cs : Array Value} {t : TypeId} (xs : List Nat) (n : Nat) (hn : n = xs.length) (hm : n ≤ maxLen) (hh : w.heap[g]? = some (.cells cs t (0, 0))) (hcs : cs.toList = xs.map nv) : Rd w (.slice (some ⟨g, 0, none⟩) n n) xs := by
  subst hn
  refine .inr ⟨g, 0, _, rfl, Nat.le_refl _, hm, (Array.getElem?_eq_some_iff.1 hh).1, fun j x hj => ?_⟩
  rw [Nat.zero_add, cell_of_row w g j cs t (0, 0) hh, ← Array.getElem?_toList, hcs]
  simp [hj]
/-- A block that the call made, read as parts. -/
theorem rdP_row {w : World} {g : Nat} {cs : Array Value} {t : TypeId} (pss : List (List Nat)) (n : Nat) (hn : n = pss.length) (hm : n ≤ maxLen) (hh : w.heap[g]? = some (.cells cs t (0, 0))) (hcs : ∀ (j : Nat) (ps : List Nat), pss[j]? = some ps → ∃ u : Value, cs[j]? = some u ∧ Rd w u ps) : RdP w (.slice (some ⟨g, 0, none⟩) n n) pss := by
  subst hn
  refine .inr ⟨g, 0, _, rfl, Nat.le_refl _, hm, (Array.getElem?_eq_some_iff.1 hh).1, fun j x hj => ?_⟩
  obtain ⟨u, hu, hr⟩ := hcs j x hj
  exact ⟨u, by rw [Nat.zero_add, cell_of_row w g j cs t (0, 0) hh]; exact hu, hr⟩

theorem info_u8 : (Tryz.prog.info? 5).map (fun i => (i.zero, i.size, i.bytes)) = some (some (.int .u8 0), 1, 1) := by kernel_rfl

/-- More bytes, behind a slice that is the call's own. -/
theorem wp_appR {ops : Array Oper} {rest : List Oper} {o : Oper} {a : Act} {Q : Exit → Act → World → Prop} {w : World} (hgd : o.guard = none) (s x : Operand)
    (ho : o.op = Op.call { callee := Callee.builtin Builtin.append, args := #[s, x], argTypes := #[45, 45] }) (B : Nat) (v : Value) (xs : List Nat) (hs : a.eval s = v) (hown : Own B w v xs)
    (vb : Value) (ys : List Nat) (hx : a.eval x = vb) (hb : Rd w vb ys) (hl : xs.length + ys.length ≤ 1000000) (hB : B ≤ w.heap.size)
    (h : ∀ v' w', Own B w' v' (xs ++ ys) → Below B w w' → w.heap.size ≤ w'.heap.size → wpList Tryz.prog ops Q rest (a.put o.dst v') w') :
    wpList Tryz.prog ops Q (o :: rest) a w := by
  obtain ⟨i0, hi, hz0, hz1, hz2⟩ := info_parts info_u8
  rcases hb with ⟨p, c, rfl, rfl, h0⟩ | ⟨g, off, cap, rfl, hcap, hm, hg, hc⟩
  · rcases p with _ | p
    · obtain rfl := h0 rfl
      refine wpList_append_own_none hgd s x _ ho B 5 i0 1 Tryz.underlying45 hi v _ _ hs hown hx ?_
      exact h v w (by simpa using hown) (Below.refl _ _) (Nat.le_refl _)
    · refine wpList_append_own _ hgd s x _ ho B 5 i0 (.int .u8 0) 1 1 Tryz.underlying45 hi hz0 hz1 hz2 rfl (by decide) v _ _ hs hown p 0 c [] hx (by simp) (by simp) (by simp) ?_ ?_ hB ?_
      · unfold maxLen; omega
      · omega
      · intro v' w' ho' hg' _
        exact h v' w' (by unfold Own; simpa using ho') ((Below.refl B w).grown hg' hB (fun k hk => (World.ownsRow.lt hown k hk).1)) hg'.size
  · refine wpList_append_own _ hgd s x _ ho B 5 i0 (.int .u8 0) 1 1 Tryz.underlying45 hi hz0 hz1 hz2 rfl (by decide) v _ _ hs hown ⟨g, off, none⟩ ys.length cap (ys.map nv) hx (by simp) ?_ ?_ ?_ ?_ ?_ ?_
    · intro j u hj
      have hlt : j < ys.length := by
        have := (List.getElem?_eq_some_iff.1 hj).1
        simpa using this
      rw [Addr.add_lit, hc j ys[j] (List.getElem?_eq_getElem hlt)]
      simpa [hlt, nv] using hj
    · intro u hu; obtain ⟨_, _, rfl⟩ := List.mem_map.1 hu; rfl
    · unfold maxLen; omega
    · omega
    · exact hB
    · intro v' w' ho' hg' _
      have hbel : Below B w w' := (Below.refl B w).grown hg' hB (fun k hk => (World.ownsRow.lt hown k hk).1)
      refine h v' w' ?_ hbel hg'.size
      unfold Own
      simpa using ho'

theorem below_alloc (w : World) (o : Obj) : Below w.heap.size w (w.alloc o) := (Below.refl _ w).alloc (Nat.le_refl _) o

theorem heap_new {w : World} {o : Obj} {g : Nat} (h : g = w.heap.size) : (w.alloc o).heap[g]? = some o := h ▸ heap_alloc_new w o
theorem heap_old {w : World} {o x : Obj} {g : Nat} (h : w.heap[g]? = some x) : (w.alloc o).heap[g]? = some x :=
  (Below.heap_alloc w o g (Array.getElem?_eq_some_iff.1 h).1).trans h
theorem below2 (w : World) (o p : Obj) : Below w.heap.size w ((w.alloc o).alloc p) := (below_alloc w o).alloc (by simp) p
theorem below3 (w : World) (o p q : Obj) : Below w.heap.size w (((w.alloc o).alloc p).alloc q) := (below2 w o p).alloc (by simp; omega) q

/-- One part, in a block of its own. -/
theorem rdP_one {w : World} {v : Value} {xs : List Nat} {t : TypeId} {g : Nat} (hg : g = w.heap.size) (h : Rd w v xs) : RdP (w.alloc (.cells #[v] t)) (.slice (some ⟨g, 0, none⟩) 1 1) [xs] := by
  refine rdP_row [xs] 1 rfl (by decide) (heap_new hg) (fun j ps hj => ?_)
  rcases j with _ | j
  · simp at hj; subst hj; exact ⟨v, rfl, h.below (below_alloc w _)⟩
  · simp at hj
/-- Two. -/
theorem rdP_two {w : World} {v u : Value} {xs ys : List Nat} {t : TypeId} {g : Nat} (hg : g = w.heap.size) (h : Rd w v xs) (h2 : Rd w u ys) : RdP (w.alloc (.cells #[v, u] t)) (.slice (some ⟨g, 0, none⟩) 2 2) [xs, ys] := by
  refine rdP_row [xs, ys] 2 rfl (by decide) (heap_new hg) (fun j ps hj => ?_)
  rcases j with _ | _ | j
  · simp at hj; subst hj; exact ⟨v, rfl, h.below (below_alloc w _)⟩
  · simp at hj; subst hj; exact ⟨u, rfl, h2.below (below_alloc w _)⟩
  · simp at hj

theorem Rd.named {w : World} {v : Value} {xs : List Nat} (h : Rd w v xs) : ∃ A n c, v = .slice A n c ∧ n = xs.length := by
  obtain ⟨A, c, hv, _⟩ := h.form
  exact ⟨A, _, c, hv, rfl⟩

theorem RdP.form2 {w : World} {v : Value} {pss : List (List Nat)} (h : RdP w v pss) :
    ∃ A n c, v = .slice A n c ∧ n = pss.length ∧ ∀ j ps, pss[j]? = some ps → ∃ b off u, A = some ⟨b, off, none⟩ ∧ b < w.heap.size ∧ w.cell? ⟨b, off + j, none⟩ = some u ∧ Rd w u ps := by
  rcases h with ⟨p, c, rfl, rfl⟩ | ⟨b, off, cap, rfl, hcap, hm, hb, hc⟩
  · exact ⟨p, _, c, rfl, rfl, fun j x hj => by simp at hj⟩
  · exact ⟨_, _, cap, rfl, rfl, fun j x hj => by obtain ⟨u, hu, hr⟩ := hc j x hj; exact ⟨b, off, u, rfl, hb, hu, hr⟩⟩

/-- The string of these bytes. -/
def strN (xs : List Nat) : ByteArray := strOfNums (xs.map Int.ofNat)
theorem strN_inj {xs ys : List Nat} (hx : ∀ x ∈ xs, x < 256) (hy : ∀ x ∈ ys, x < 256) (h : strN xs = strN ys) : xs = ys := by
  have h1 : (strN xs).data.toList = (strN ys).data.toList := by rw [h]
  unfold strN at h1
  rw [strOfNums_data, strOfNums_data, List.map_map, List.map_map] at h1
  have key : ∀ zs : List Nat, (∀ z ∈ zs, z < 256) → (zs.map ((fun n : Int => UInt8.ofNat n.toNat) ∘ Int.ofNat)).map UInt8.toNat = zs := by
    intro zs hz
    rw [List.map_map]
    conv => rhs; rw [← List.map_id zs]
    refine List.map_congr_left fun z hzm => ?_
    have := hz z hzm
    simp [Nat.mod_eq_of_lt this]
  rw [← key xs hx, ← key ys hy, h1]

theorem strN_ne {s t : ByteArray} (h : s ≠ t) : (s.toList == t.toList) = false := by
  rw [ByteArray.toList_eq, ByteArray.toList_eq]
  simp only [beq_eq_false_iff_ne, ne_eq]
  intro he
  exact h (Go.WideShapes.bytes_inj he)

theorem conv_rd {w : World} {v : Value} {xs : List Nat} (h : Rd w v xs) : (convert 45 9 v).run Tryz.prog w = .ok (.string (strN xs)) w := by
  rcases h with ⟨p, c, rfl, rfl, h0⟩ | ⟨b, off, cap, rfl, hcap, hm, hb, hc⟩
  · rcases p with _ | p
    · rw [run_convert_bytes_nil (P := Tryz.prog) w 45 5 Tryz.underlying45 Tryz.underlying5 _ _ 9 Tryz.underlying9]
      rfl
    · rw [run_convert_bytes_string w _ _ 5 _ _ _ Tryz.underlying45 Tryz.underlying5 Tryz.underlying9, run_bytesToString w p 0 c [] (by
        have := run_loadCells_list (P := Tryz.prog) w p [] (fun j v hj => by simp at hj)
        simpa using this)]
      rfl
  · exact run_convert_bytes_arg (P := Tryz.prog) w 45 5 Tryz.underlying45 Tryz.underlying5 b off xs.length cap (xs.map Int.ofNat) (by simp) (fun i hi => by
      rw [hc i xs[i] (List.getElem?_eq_getElem hi)]
      simp [nv, List.getD, hi]) 9 Tryz.underlying9

theorem Rd.take {w : World} {b off cap n : Nat} {xs : List Nat} (h : Rd w (.slice (some ⟨b, off, none⟩) n cap) xs) (hn : 0 < n) (k : Nat) (hk : k ≤ n) : Rd w (.slice (some ⟨b, off, none⟩) k cap) (xs.take k) := by
  rcases h with ⟨p, c, hv, rfl, _⟩ | ⟨b', off', cap', hv, hcap, hm, hb, hc⟩
  · simp at hv; omega
  · simp only [Value.slice.injEq, Option.some.injEq, Addr.mk.injEq, and_true] at hv
    obtain ⟨⟨rfl, rfl⟩, rfl, rfl⟩ := hv
    refine .inr ⟨b, off, cap, by simp [Nat.min_eq_left hk], by simp; omega, hm, hb, fun j x hj => hc j x ?_⟩
    rw [List.getElem?_take] at hj
    split at hj
    · exact hj
    · cases hj
theorem Rd.drop {w : World} {b off cap n : Nat} {xs : List Nat} (h : Rd w (.slice (some ⟨b, off, none⟩) n cap) xs) (hn : 0 < n) (k : Nat) (hk : k ≤ n) : Rd w (.slice (some ⟨b, off + k, none⟩) (n - k) (cap - k)) (xs.drop k) := by
  rcases h with ⟨p, c, hv, rfl, _⟩ | ⟨b', off', cap', hv, hcap, hm, hb, hc⟩
  · simp at hv; omega
  · simp only [Value.slice.injEq, Option.some.injEq, Addr.mk.injEq, and_true] at hv
    obtain ⟨⟨rfl, rfl⟩, rfl, rfl⟩ := hv
    refine .inr ⟨b, off + k, cap - k, by simp, by simp; omega, by omega, hb, fun j x hj => ?_⟩
    rw [Nat.add_assoc]
    exact hc (k + j) x (by rw [← List.getElem?_drop]; exact hj)
theorem Rd.addr {w : World} {A : Option Addr} {n cap : Nat} {xs : List Nat} (h : Rd w (.slice A n cap) xs) (hn : 0 < n) : ∃ b off, A = some ⟨b, off, none⟩ ∧ n ≤ cap ∧ cap ≤ maxLen := by
  rcases h with ⟨p, c, hv, rfl, _⟩ | ⟨b', off', cap', hv, hcap, hm, hb, hc⟩
  · simp at hv; omega
  · simp only [Value.slice.injEq] at hv
    obtain ⟨rfl, rfl, rfl⟩ := hv
    exact ⟨b', off', rfl, hcap, hm⟩


/-- One byte more, behind a slice that is the call's own: the byte lies in a block of its own. -/
theorem wp_app1 {ops : Array Oper} {rest : List Oper} {o : Oper} {a : Act} {Q : Exit → Act → World → Prop} {w : World} (hgd : o.guard = none) (s x : Operand)
    (ho : o.op = Op.call { callee := Callee.builtin Builtin.append, args := #[s, x], argTypes := #[45, 45] }) (B : Nat) (v : Value) (xs : List Nat) (hs : a.eval s = v) (hown : Own B w v xs)
    (z : Int) (d : Nat) (hz : z = (d : Int)) (hx : a.eval x = .slice (some ⟨w.heap.size, 0, none⟩) 1 1) (hl : xs.length + 1 ≤ 1000000) (hB : B ≤ w.heap.size)
    (h : ∀ v' w', Own B w' v' (xs ++ [d]) → Below B w w' → w.heap.size < w'.heap.size → wpList Tryz.prog ops Q rest (a.put o.dst v') w') :
    wpList Tryz.prog ops Q (o :: rest) a (w.alloc (.cells #[.int .u8 z] 5)) := by
  subst hz
  refine wp_appR hgd s x ho B v xs hs (World.ownsRow.alloc hown _) _ [d] hx (rd_row [d] 1 rfl (by decide) (heap_new rfl) rfl) (by simpa using hl) (by simp; omega) ?_
  intro v' w' ho' hb' hsz
  refine h v' w' ho' (((Below.refl B w).alloc hB _).trans hb') (by simp at hsz; omega)

/-- An append onto a row of the call's own: where the new row lies. -/
theorem run_appG (w : World) (ty : TypeId) (B : Nat) (v : Value) (xs : List Nat) (hown : Own B w v xs) (vb : Value) (ys : List Nat) (hb : Rd w vb ys) (hl : xs.length + ys.length ≤ 1000000) (hB : B ≤ w.heap.size) :
    ∃ v' w', (Builtin.append_ #[45, 45] ty #[v, vb]).run Tryz.prog w = .ok v' w' ∧ Own B w' v' (xs ++ ys) ∧ w.grownBy w' v.ownBlock ∧ (v'.ownBlock = v.ownBlock ∨ v'.ownBlock = some w.heap.size) := by
  obtain ⟨i0, hi, hz0, hz1, hz2⟩ := info_parts info_u8
  rcases hb with ⟨p, c, rfl, rfl, h0⟩ | ⟨g, off, cap, rfl, hcap, hm, hg, hc⟩
  · rcases p with _ | p
    · obtain rfl := h0 rfl
      exact ⟨v, w, run_append_owned_none (P := Tryz.prog) (w := w) B _ ty 5 i0 1 Tryz.underlying45 hi v _ _ hown, by simpa using hown, World.grownBy.refl w _, .inl rfl⟩
    · obtain ⟨v', w', hr, ho, hg, _, hv⟩ := run_append_own_at (P := Tryz.prog) w B 45 ty 5 i0 (.int .u8 0) 1 1 Tryz.underlying45 hi hz0 hz1 hz2 rfl (by decide) v _ _ hown p 0 c [] (by simp) (by simp) (by simp) (by unfold maxLen; omega) (by omega) hB
      exact ⟨v', w', hr, by unfold Own; simpa using ho, hg, hv⟩
  · obtain ⟨v', w', hr, ho, hg, _, hv⟩ := run_append_own_at (P := Tryz.prog) w B 45 ty 5 i0 (.int .u8 0) 1 1 Tryz.underlying45 hi hz0 hz1 hz2 rfl (by decide) v _ _ hown ⟨g, off, none⟩ ys.length cap (ys.map nv) (by simp) (by
        intro j u hj
        have hlt : j < ys.length := by
          have := (List.getElem?_eq_some_iff.1 hj).1
          simpa using this
        rw [Addr.add_lit, hc j ys[j] (List.getElem?_eq_getElem hlt)]
        simpa [hlt, nv] using hj) (by intro u hu; obtain ⟨_, _, rfl⟩ := List.mem_map.1 hu; rfl) (by unfold maxLen; omega) (by omega) hB
    exact ⟨v', w', hr, by unfold Own; simpa using ho, hg, hv⟩
theorem wp_appG {ops : Array Oper} {rest : List Oper} {o : Oper} {a : Act} {Q : Exit → Act → World → Prop} {w : World} (hgd : o.guard = none) (s x : Operand)
    (ho : o.op = Op.call { callee := Callee.builtin Builtin.append, args := #[s, x], argTypes := #[45, 45] }) (B : Nat) (v : Value) (xs : List Nat) (hs : a.eval s = v) (hown : Own B w v xs)
    (vb : Value) (ys : List Nat) (hx : a.eval x = vb) (hb : Rd w vb ys) (hl : xs.length + ys.length ≤ 1000000) (hB : B ≤ w.heap.size)
    (h : ∀ v' w', Own B w' v' (xs ++ ys) → w.grownBy w' v.ownBlock → (v'.ownBlock = v.ownBlock ∨ v'.ownBlock = some w.heap.size) → wpList Tryz.prog ops Q rest (a.put o.dst v') w') :
    wpList Tryz.prog ops Q (o :: rest) a w := by
  obtain ⟨v', w', hr, h1, h2, h3⟩ := run_appG w o.type B v xs hown vb ys hb hl hB
  exact Lib.wpList_append_run w hgd s x _ _ ho v vb hs hx v' w' hr (h v' w' h1 h2 h3)

theorem strCells_strN {ys : List Nat} (hy : ∀ y ∈ ys, y < 256) : Lib.strCells (strN ys) = ys.map nv := by
  unfold Lib.strCells
  rw [show (strN ys).data.toList = (ys.map Int.ofNat).map (fun n => UInt8.ofNat n.toNat) from strOfNums_data _]
  rw [List.map_map, List.map_map]
  refine List.map_congr_left fun y hm => ?_
  have := hy y hm
  simp [nv, Nat.mod_eq_of_lt this]
theorem strN_size (ys : List Nat) : (strN ys).size = ys.length := by unfold strN; rw [strOfNums_size]; simp
/-- The same where the source is a string. -/
theorem run_appS (w : World) (ty : TypeId) (B : Nat) (v : Value) (xs : List Nat) (hown : Own B w v xs) (ys : List Nat) (hy : ∀ y ∈ ys, y < 256) (hl : xs.length + ys.length ≤ 1000000) (hB : B ≤ w.heap.size) :
    ∃ v' w', (Builtin.append_ #[45, 9] ty #[v, .string (strN ys)]).run Tryz.prog w = .ok v' w' ∧ Own B w' v' (xs ++ ys) ∧ w.grownBy w' v.ownBlock ∧ (v'.ownBlock = v.ownBlock ∨ v'.ownBlock = some w.heap.size) := by
  obtain ⟨i0, hi, hz0, hz1, hz2⟩ := info_parts info_u8
  have hsz := strN_size ys
  obtain ⟨v', w', hr, ho, hg, hnil⟩ := Lib.run_append_own_string (P := Tryz.prog) w B 45 9 ty 5 i0 Tryz.underlying45 Tryz.underlying9 hi hz0 hz1 hz2 v _ _ hown (strN ys) (by rw [hsz]; unfold maxLen; omega) (by omega) hB
  rw [hsz, strCells_strN hy] at ho
  refine ⟨v', w', hr, by unfold Own; simpa using ho, hg, ?_⟩
  rcases hown.2 with ⟨rfl, hn0⟩ | ⟨g, cap, cur, rfl, hbg, hgh, hnc, hcm, hcs, htake⟩
  · by_cases hm : (strN ys).size = 0
    · exact .inl (by rw [hnil.2 ⟨rfl, hm⟩])
    · have hr2 := run_append_nil_string (P := Tryz.prog) w 45 9 ty 5 i0 (.int .u8 0) Tryz.underlying45 Tryz.underlying9 hi hz0 (strN ys) (by omega) (by omega) (by rw [hz2]; omega)
      rw [hr] at hr2
      injection hr2 with hv _
      exact .inr (by rw [hv]; rfl)
  · by_cases hroom : xs.length + (strN ys).size ≤ cap
    · have hr2 := Lib.run_append_room_string (P := Tryz.prog) w 45 9 ty 5 i0 Tryz.underlying45 Tryz.underlying9 hi hz1 g xs.length cap cur hgh (strN ys) hroom (by omega)
      rw [hr] at hr2
      injection hr2 with hv _
      exact .inl (by rw [hv]; rfl)
    · have hr2 := Lib.run_append_grow_string (P := Tryz.prog) w 45 9 ty 5 i0 (.int .u8 0) Tryz.underlying45 Tryz.underlying9 hi hz0 ⟨g, 0, none⟩ xs.length cap (xs.map nv) (by rw [hz1]; simp) (hown.cells (g := g) rfl) (strN ys) (by omega) (by omega) (by rw [hz2]; exact growslice_fits (by omega) (by omega))
      rw [hr] at hr2
      injection hr2 with hv _
      exact .inr (by rw [hv]; rfl)
theorem wp_appS {ops : Array Oper} {rest : List Oper} {o : Oper} {a : Act} {Q : Exit → Act → World → Prop} {w : World} (hgd : o.guard = none) (s x : Operand)
    (ho : o.op = Op.call { callee := Callee.builtin Builtin.append, args := #[s, x], argTypes := #[45, 9] }) (B : Nat) (v : Value) (xs : List Nat) (hs : a.eval s = v) (hown : Own B w v xs)
    (ys : List Nat) (hx : a.eval x = .string (strN ys)) (hy : ∀ y ∈ ys, y < 256) (hl : xs.length + ys.length ≤ 1000000) (hB : B ≤ w.heap.size)
    (h : ∀ v' w', Own B w' v' (xs ++ ys) → w.grownBy w' v.ownBlock → (v'.ownBlock = v.ownBlock ∨ v'.ownBlock = some w.heap.size) → wpList Tryz.prog ops Q rest (a.put o.dst v') w') :
    wpList Tryz.prog ops Q (o :: rest) a w := by
  obtain ⟨v', w', hr, h1, h2, h3⟩ := run_appS w o.type B v xs hown ys hy hl hB
  exact Lib.wpList_append_run w hgd s x _ _ ho v _ hs hx v' w' hr (h v' w' h1 h2 h3)

/-- From w to w' nothing that was there has turned but block g and the row of v; the row is v''s behind it, old or new. -/
structure Kept (g : Nat) (v v' : Value) (w w' : World) : Prop where
  os : w'.os = w.os
  tape : w'.tape = w.tape
  output : w'.output = w.output
  size : w.heap.size ≤ w'.heap.size
  block : ∀ k, k < w.heap.size → k ≠ g → v.ownBlock ≠ some k → w'.heap[k]? = w.heap[k]?
  row : v'.ownBlock = v.ownBlock ∨ ∃ k, w.heap.size ≤ k ∧ v'.ownBlock = some k
theorem Kept.refl (g : Nat) (v : Value) (w : World) : Kept g v v w w := ⟨rfl, rfl, rfl, Nat.le_refl _, fun _ _ _ _ => rfl, .inl rfl⟩
theorem Kept.trans {g : Nat} {v v' v'' : Value} {w w' w'' : World} (h : Kept g v v' w w') (k : Kept g v' v'' w' w'') : Kept g v v'' w w'' := by
  refine ⟨k.os.trans h.os, k.tape.trans h.tape, k.output.trans h.output, Nat.le_trans h.size k.size, fun i hi hg hv => ?_, ?_⟩
  · refine (k.block i (Nat.lt_of_lt_of_le hi h.size) hg ?_).trans (h.block i hi hg hv)
    rcases h.row with e | ⟨j, hj, e⟩
    · rw [e]; exact hv
    · rw [e]; intro hh; injection hh with hh; omega
  · rcases k.row with e | ⟨j, hj, e⟩
    · rcases h.row with e2 | ⟨j, hj, e2⟩
      · exact .inl (e.trans e2)
      · exact .inr ⟨j, hj, e.trans e2⟩
    · exact .inr ⟨j, Nat.le_trans h.size hj, e⟩
theorem Kept.grown {g : Nat} {v v' : Value} {w w' : World} (h : w.grownBy w' v.ownBlock) (hv : v'.ownBlock = v.ownBlock ∨ v'.ownBlock = some w.heap.size) : Kept g v v' w w' :=
  ⟨h.os, h.tape, h.output, h.size, fun k hk _ hne => h.block k hk (fun e => hne e.symm), hv.imp_right fun e => ⟨_, Nat.le_refl _, e⟩⟩
theorem Kept.alloc (g : Nat) (v : Value) (w : World) (o : Obj) : Kept g v v w (w.alloc o) :=
  ⟨rfl, rfl, rfl, by simp, fun k hk _ _ => Below.heap_alloc w o k hk, .inl rfl⟩
theorem Kept.set (g : Nat) (v : Value) (w : World) (i : Nat) (u : Value) : Kept g v v w (w.setCell ⟨g, i, none⟩ u) :=
  ⟨rfl, rfl, rfl, by simp, fun k _ hg _ => Below.heap_setCell w _ u k hg, .inl rfl⟩
theorem Kept.of_below {g : Nat} {v : Value} {w w' : World} (h : Below w.heap.size w w') : Kept g v v w w' :=
  ⟨h.os, h.tape, h.output, h.size, fun k hk _ _ => h.block k hk, .inl rfl⟩
theorem Kept.below {g B : Nat} {v v' : Value} {w w' : World} (h : Kept g v v' w w') (hg : B ≤ g) (hv : ∀ k, v.ownBlock = some k → B ≤ k) (hB : B ≤ w.heap.size) : Below B w w' :=
  ⟨h.os, h.tape, h.output, h.size, fun k hk => h.block k (by omega) (by omega) (fun e => by have := hv k e; omega)⟩
/-- A row of another value, that is neither in block g nor v's, is kept. -/
theorem Kept.own {g B : Nat} {v v' u : Value} {w w' : World} {ys : List Nat} (h : Kept g v v' w w') (ho : Own B w u ys) (hg : u.ownBlock ≠ some g) (hd : ∀ k, v.ownBlock = some k → u.ownBlock ≠ some k) :
    Own B w' u ys ∧ ∀ k, v'.ownBlock = some k → u.ownBlock ≠ some k := by
  refine ⟨⟨ho.1, ?_⟩, ?_⟩
  · rcases ho.2 with h2 | ⟨b, cap, cur, hv, hb, hh, r⟩
    · exact .inl h2
    · have hlt := (Array.getElem?_eq_some_iff.1 hh).1
      have hub : u.ownBlock = some b := by rw [hv]; rfl
      exact .inr ⟨b, cap, cur, hv, hb, by rw [h.block b hlt (fun e => hg (by rw [hub, e])) (fun e => hd b e hub)]; exact hh, r⟩
  · intro k hk
    rcases h.row with e | ⟨j, hj, e⟩
    · exact hd k (e ▸ hk)
    · rw [e] at hk
      injection hk with hk
      subst hk
      rcases ho.2 with ⟨h2, _⟩ | ⟨b, cap, cur, hv, hb, hh, r⟩
      · rw [h2]; simp [Value.ownBlock]
      · have hlt := (Array.getElem?_eq_some_iff.1 hh).1
        rw [hv]; simp [Value.ownBlock]; omega
theorem Own.base_le {B : Nat} {w : World} {v : Value} {xs : List Nat} (h : Own B w v xs) : ∀ k, v.ownBlock = some k → B ≤ k := fun k hk => (World.ownsRow.lt h k hk).1
/-- What lies in a row of bytes lies in no block of another type. -/
theorem Own.not_in {B g : Nat} {w : World} {v : Value} {xs : List Nat} {cs : Array Value} {t : TypeId} (h : Own B w v xs) (hg : w.heap[g]? = some (.cells cs t (0, 0))) (ht : 5 ≠ t) : v.ownBlock ≠ some g := by
  rcases h.2 with ⟨h2, _⟩ | ⟨b, cap, cur, hv, hb, hh, r⟩
  · rw [h2]; simp [Value.ownBlock]
  · rw [hv]
    intro e
    have e2 : b = g := by simpa [Value.ownBlock] using e
    subst e2
    rw [hh] at hg
    injection hg with hg
    injection hg with _ hg
    exact ht hg

/-- A slice cut from a place on. -/
def sliceV (A : Option Addr) (n c m : Nat) : Value := .slice (if c = m then A else A.map (·.add m)) (n - m) (c - m)
theorem elem_bytes : Tryz.prog.elem 45 = 5 := by kernel_rfl
theorem slice_run (A : Option Addr) (n c m : Nat) (h : m ≤ n) (W : World) : (Instr.slice 45 (.slice A n c) (some (.int .i64 (m : Int))) none none).run Tryz.prog W = .ok (sliceV A n c m) W := by
  obtain ⟨i0, hi, hz0, hz1, hz2⟩ := info_parts info_u8
  rw [run_slice_l (P := Tryz.prog) W 45 A n c (by rw [elem_bytes]; exact Tryz.underlying45) .i64 (m : Int) (by omega) (by omega), elem_bytes]
  have hs : (sizeOf 5).run Tryz.prog W = .ok 1 W := by simp [sizeOf, typeInfo, hi, hz1]
  rw [hs]
  simp [Result.andThen, sliced, sliceV]
theorem Rd.cutV {w : World} {A : Option Addr} {n c : Nat} {xs : List Nat} (h : Rd w (.slice A n c) xs) (m : Nat) (hm : m ≤ n) : Rd w (sliceV A n c m) (xs.drop m) := by
  rcases Nat.eq_zero_or_pos n with h0 | h0
  · subst h0
    obtain rfl : m = 0 := by omega
    rcases h with ⟨p, c', hv, rfl, hp⟩ | ⟨b, off, cap, hv, hcap, hmx, hb, hc⟩
    · simp only [Value.slice.injEq] at hv
      obtain ⟨rfl, _, rfl⟩ := hv
      refine .inl ⟨_, _, rfl, by simp, fun e => ?_⟩
      by_cases hc : c = 0
      · subst hc; rfl
      · rw [if_neg hc] at e
        exact absurd (hp (by simpa using e)) hc
    · simp only [Value.slice.injEq] at hv
      obtain ⟨rfl, h2, rfl⟩ := hv
      have hx0 : xs = [] := List.eq_nil_of_length_eq_zero h2.symm
      subst hx0
      refine .inl ⟨_, _, rfl, by simp, fun e => ?_⟩
      split at e
      · cases e
      · cases e
  · obtain ⟨b, off, rfl, hcn, hcm⟩ := h.addr h0
    unfold sliceV
    by_cases hc : c = m
    · rw [if_pos hc, show n - m = 0 from by omega]
      have hl : xs.length = n := by
        rcases h with ⟨p, c', hv, rfl, hp⟩ | ⟨b', off', cap, hv, _⟩
        · simp at hv; omega
        · simp only [Value.slice.injEq] at hv; exact hv.2.1.symm
      exact .inl ⟨_, _, rfl, List.drop_of_length_le (by omega), fun e => by cases e⟩
    · rw [if_neg hc]
      simp only [Option.map_some, Addr.add_lit]
      exact h.drop h0 m hm

theorem sliceV_own (A : Option Addr) (n c m : Nat) : (sliceV A n c m).ownBlock = (Value.slice A n c).ownBlock := by
  unfold sliceV
  rcases A with _ | a
  · split <;> rfl
  · split
    · rfl
    · simp only [Option.map_some, Value.ownBlock]
      unfold Addr.add; split <;> rfl

/-- A slice cut up to a place. -/
def sliceH (A : Option Addr) (c m : Nat) : Value := .slice (if c = 0 then A else A.map (·.add 0)) m c
theorem sliceH_run (A : Option Addr) (n c m : Nat) (h : m ≤ c) (W : World) : (Instr.slice 45 (.slice A n c) none (some (.int .i64 (m : Int))) none).run Tryz.prog W = .ok (sliceH A c m) W := by
  obtain ⟨i0, hi, hz0, hz1, hz2⟩ := info_parts info_u8
  rw [run_slice_h (P := Tryz.prog) W 45 A n c (by rw [elem_bytes]; exact Tryz.underlying45) .i64 (m : Int) (by omega) (by omega), elem_bytes]
  have hs : (sizeOf 5).run Tryz.prog W = .ok 1 W := by simp [sizeOf, typeInfo, hi, hz1]
  rw [hs]
  simp [Result.andThen, sliced, sliceH]
theorem sliceH_own (A : Option Addr) (n c m : Nat) : (sliceH A c m).ownBlock = (Value.slice A n c).ownBlock := by
  unfold sliceH
  rcases A with _ | a
  · split <;> rfl
  · split
    · rfl
    · simp only [Option.map_some, Value.ownBlock]
      unfold Addr.add; split <;> rfl
theorem Rd.takeH {w : World} {A : Option Addr} {n c : Nat} {xs : List Nat} (h : Rd w (.slice A n c) xs) (m : Nat) (hm : m ≤ n) : Rd w (sliceH A c m) (xs.take m) := by
  have ha : ∀ B : Option Addr, B.map (·.add 0) = B := fun B => by
    rcases B with _ | a
    · rfl
    · simp [Addr.add]
  have e : sliceH A c m = .slice A m c := by unfold sliceH; rw [ha]; split <;> rfl
  rw [e]
  rcases Nat.eq_zero_or_pos n with h0 | h0
  · subst h0
    obtain rfl : m = 0 := by omega
    rcases h with ⟨p, c', hv, rfl, hp⟩ | ⟨b, off, cap, hv, hcap, hmx, hb, hc⟩
    · simp only [Value.slice.injEq] at hv
      obtain ⟨rfl, _, rfl⟩ := hv
      exact .inl ⟨_, _, rfl, by simp, hp⟩
    · simp only [Value.slice.injEq] at hv
      obtain ⟨rfl, _, rfl⟩ := hv
      exact .inl ⟨_, _, rfl, by simp, fun e => by cases e⟩
  · obtain ⟨b, off, rfl, hcn, hcm⟩ := h.addr h0
    exact h.take h0 m hm
theorem Rd.cap_le {w : World} {A : Option Addr} {n c : Nat} {xs : List Nat} (h : Rd w (.slice A n c) xs) : n ≤ c := by
  rcases h with ⟨p, c', hv, rfl, hp⟩ | ⟨b, off, cap, hv, hcap, hmx, hb, hc⟩
  · simp only [Value.slice.injEq] at hv; omega
  · simp only [Value.slice.injEq] at hv; omega
end Go.Proofs.YtlagjnlajkmmeaaGreatDoor
