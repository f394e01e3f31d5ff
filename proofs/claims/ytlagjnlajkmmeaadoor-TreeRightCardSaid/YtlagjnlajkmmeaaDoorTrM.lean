/-
Trees, plain maths: what a value of a tree's type reads as. Of no function of the program.
-/
import Derived.Test.YtlagjnlajkmmeaaDoorBRead
namespace Go.Proofs.YtlagjnlajkmmeaaDoor
open Go.RowKit

/-- A tree: its kind, its number, its text, its references, its parts. -/
inductive Tr where
  | mk (kind num : Int) (text : List UInt8) (a b : Int) (args : List Tr)
instance : Inhabited Tr := ⟨.mk 0 0 [] 0 0 []⟩
def Tr.kind : Tr → Int | .mk k _ _ _ _ _ => k
def Tr.num : Tr → Int | .mk _ n _ _ _ _ => n
def Tr.text : Tr → List UInt8 | .mk _ _ s _ _ _ => s
def Tr.a : Tr → Int | .mk _ _ _ f _ _ => f
def Tr.b : Tr → Int | .mk _ _ _ _ t _ => t
def Tr.args : Tr → List Tr | .mk _ _ _ _ _ l => l
abbrev In64 (x : Int) : Prop := -9223372036854775808 ≤ x ∧ x ≤ 9223372036854775807

def nodeV (k n : Int) (s : List UInt8) (f t : Int) (v : Value) : Value := .agg #[.int .i64 k, .int .i64 n, .string ⟨s.toArray⟩, .int .i64 f, .int .i64 t, v]
/-- The cells from off on are this struct's. -/
def At6 (w : World) (b off : Nat) (k n : Int) (s : List UInt8) (f t : Int) (v : Value) : Prop :=
  w.cell? ⟨b, off, none⟩ = some (.int .i64 k) ∧ w.cell? ⟨b, off + 1, none⟩ = some (.int .i64 n) ∧ w.cell? ⟨b, off + 2, none⟩ = some (.string ⟨s.toArray⟩) ∧
  w.cell? ⟨b, off + 3, none⟩ = some (.int .i64 f) ∧ w.cell? ⟨b, off + 4, none⟩ = some (.int .i64 t) ∧ w.cell? ⟨b, off + 5, none⟩ = some v
mutual
/-- From off on lie these parts, in blocks of which p holds. -/
def RdL (p : Nat → Prop) (w : World) : List Tr → Nat → Nat → Prop
  | [], _, _ => True
  | x :: l, b, off => RdC p w x b off ∧ RdL p w l b (off + 6)
/-- At off lies this part. -/
def RdC (p : Nat → Prop) (w : World) : Tr → Nat → Nat → Prop
  | .mk k n s f t l, b, off => (In64 k ∧ In64 n ∧ In64 f ∧ In64 t ∧ s.length ≤ maxLen) ∧ ∃ v, At6 w b off k n s f t v ∧
      ((∃ A c, v = .slice A 0 c ∧ l = [] ∧ (A = none → c = 0)) ∨ ∃ b' off' c, v = .slice (some ⟨b', off', none⟩) l.length c ∧ l.length ≤ c ∧ c ≤ maxLen ∧ b' < w.heap.size ∧ p b' ∧ RdL p w l b' off')
end
/-- The slice value v reads as these parts. -/
def RdA (p : Nat → Prop) (w : World) (l : List Tr) (v : Value) : Prop :=
  (∃ A c, v = .slice A 0 c ∧ l = [] ∧ (A = none → c = 0)) ∨ ∃ b off c, v = .slice (some ⟨b, off, none⟩) l.length c ∧ l.length ≤ c ∧ c ≤ maxLen ∧ b < w.heap.size ∧ p b ∧ RdL p w l b off
def FitN (x : Tr) : Prop := In64 x.kind ∧ In64 x.num ∧ In64 x.a ∧ In64 x.b ∧ x.text.length ≤ maxLen
theorem RdC_iff {p : Nat → Prop} {w : World} {x : Tr} {b off : Nat} : RdC p w x b off ↔ FitN x ∧ ∃ v, At6 w b off x.kind x.num x.text x.a x.b v ∧ RdA p w x.args v := by
  obtain ⟨k, n, s, f, t, l⟩ := x
  unfold RdC
  exact Iff.rfl
/-- The value v reads as this tree. -/
def RdN (p : Nat → Prop) (w : World) (x : Tr) (v : Value) : Prop :=
  FitN x ∧ ∃ u, v = nodeV x.kind x.num x.text x.a x.b u ∧ RdA p w x.args u

theorem cell_of_heap {w w' : World} {b : Nat} (h : w'.heap[b]? = w.heap[b]?) (o : Nat) : w'.cell? ⟨b, o, none⟩ = w.cell? ⟨b, o, none⟩ := by
  simp [World.cell?, h]
theorem At6.keep {w w' : World} {b off : Nat} {k n : Int} {s : List UInt8} {f t : Int} {v : Value} (h : At6 w b off k n s f t v) (hb : w'.heap[b]? = w.heap[b]?) : At6 w' b off k n s f t v := by
  obtain ⟨h0, h1, h2, h3, h4, h5⟩ := h
  exact ⟨by rw [cell_of_heap hb]; exact h0, by rw [cell_of_heap hb]; exact h1, by rw [cell_of_heap hb]; exact h2, by rw [cell_of_heap hb]; exact h3, by rw [cell_of_heap hb]; exact h4, by rw [cell_of_heap hb]; exact h5⟩
section
variable {p q : Nat → Prop} {w w' : World}
mutual
theorem RdC.keep (hq : ∀ b, p b → b < w.heap.size → q b ∧ w'.heap[b]? = w.heap[b]?) (hs : w.heap.size ≤ w'.heap.size) : ∀ (x : Tr) (b off : Nat), w'.heap[b]? = w.heap[b]? → RdC p w x b off → RdC q w' x b off
  | .mk k n s f t l, b, off => fun hb h => by
    unfold RdC at h ⊢
    obtain ⟨h1, v, h2, h3⟩ := h
    refine ⟨h1, v, h2.keep hb, ?_⟩
    rcases h3 with h3 | ⟨b', off', c, rfl, hc, hm, hlt, hp, hL⟩
    · exact .inl h3
    · obtain ⟨hqb, hbb⟩ := hq b' hp hlt
      exact .inr ⟨b', off', c, rfl, hc, hm, Nat.lt_of_lt_of_le hlt hs, hqb, RdL.keep hq hs l b' off' hbb hL⟩
theorem RdL.keep (hq : ∀ b, p b → b < w.heap.size → q b ∧ w'.heap[b]? = w.heap[b]?) (hs : w.heap.size ≤ w'.heap.size) : ∀ (l : List Tr) (b off : Nat), w'.heap[b]? = w.heap[b]? → RdL p w l b off → RdL q w' l b off
  | [], _, _ => fun _ _ => by unfold RdL; trivial
  | x :: l, b, off => fun hb h => by
    unfold RdL at h ⊢
    exact ⟨RdC.keep hq hs x b off hb h.1, RdL.keep hq hs l b (off + 6) hb h.2⟩
end
theorem RdA.keep (hq : ∀ b, p b → b < w.heap.size → q b ∧ w'.heap[b]? = w.heap[b]?) (hs : w.heap.size ≤ w'.heap.size) {l : List Tr} {v : Value} (h : RdA p w l v) : RdA q w' l v := by
  rcases h with h | ⟨b, off, c, rfl, hc, hm, hlt, hp, hL⟩
  · exact .inl h
  · obtain ⟨hqb, hbb⟩ := hq b hp hlt
    exact .inr ⟨b, off, c, rfl, hc, hm, Nat.lt_of_lt_of_le hlt hs, hqb, hL.keep hq hs l b off hbb⟩
theorem RdN.keep (hq : ∀ b, p b → b < w.heap.size → q b ∧ w'.heap[b]? = w.heap[b]?) (hs : w.heap.size ≤ w'.heap.size) {x : Tr} {v : Value} (h : RdN p w x v) : RdN q w' x v := by
  obtain ⟨h0, u, rfl, h1⟩ := h
  exact ⟨h0, u, rfl, h1.keep hq hs⟩
end
theorem RdA.below {p : Nat → Prop} {w w' : World} {l : List Tr} {v : Value} (h : RdA p w l v) (hb : Below w.heap.size w w') : RdA p w' l v := h.keep (fun b hp hlt => ⟨hp, hb.block b hlt⟩) hb.size
theorem RdN.below {p : Nat → Prop} {w w' : World} {x : Tr} {v : Value} (h : RdN p w x v) (hb : Below w.heap.size w w') : RdN p w' x v := h.keep (fun b hp hlt => ⟨hp, hb.block b hlt⟩) hb.size
theorem RdA.imp {p q : Nat → Prop} {w : World} {l : List Tr} {v : Value} (hi : ∀ b, p b → q b) (h : RdA p w l v) : RdA q w l v := h.keep (fun b hp _ => ⟨hi b hp, rfl⟩) (Nat.le_refl _)
theorem RdN.imp {p q : Nat → Prop} {w : World} {x : Tr} {v : Value} (hi : ∀ b, p b → q b) (h : RdN p w x v) : RdN q w x v := h.keep (fun b hp _ => ⟨hi b hp, rfl⟩) (Nat.le_refl _)
theorem RdL.at_ {p : Nat → Prop} {w : World} : ∀ (l : List Tr) (b off i : Nat) (x : Tr), RdL p w l b off → l[i]? = some x → RdC p w x b (off + i * 6)
  | [], _, _, _, _, _, h => by simp at h
  | y :: l, b, off, 0, x, hr, h => by
    simp at h
    subst h
    unfold RdL at hr
    simpa using hr.1
  | y :: l, b, off, i + 1, x, hr, h => by
    unfold RdL at hr
    have := RdL.at_ l b (off + 6) i x hr.2 (by simpa using h)
    rw [show off + (i + 1) * 6 = off + 6 + i * 6 from by omega]
    exact this
theorem RdL.of {p : Nat → Prop} {w : World} : ∀ (l : List Tr) (b off : Nat), (∀ i x, l[i]? = some x → RdC p w x b (off + i * 6)) → RdL p w l b off
  | [], _, _, _ => by unfold RdL; trivial
  | y :: l, b, off, h => by
    unfold RdL
    refine ⟨by simpa using h 0 y rfl, RdL.of l b (off + 6) fun i x hx => ?_⟩
    have := h (i + 1) x (by simpa using hx)
    rw [show off + 6 + i * 6 = off + (i + 1) * 6 from by omega]
    exact this
theorem RdA.named {p : Nat → Prop} {w : World} {l : List Tr} {v : Value} (h : RdA p w l v) : ∃ A c, v = .slice A l.length c := by
  rcases h with ⟨A, c, rfl, rfl, _⟩ | ⟨b, off, c, rfl, _⟩
  · exact ⟨A, c, rfl⟩
  · exact ⟨_, c, rfl⟩
/-- Part i of a slice of parts. -/
theorem RdA.at_ {p : Nat → Prop} {w : World} {A : Option Addr} {n c i : Nat} {l : List Tr} {x : Tr} (h : RdA p w l (.slice A n c)) (hx : l[i]? = some x) :
    ∃ b off, A = some ⟨b, off, none⟩ ∧ b < w.heap.size ∧ FitN x ∧ ∃ v, At6 w b (off + i * 6) x.kind x.num x.text x.a x.b v ∧ RdA p w x.args v := by
  rcases h with ⟨A, c, hv, rfl, _⟩ | ⟨b, off, c, hv, hc, hm, hlt, hp, hL⟩
  · simp at hx
  · simp only [Value.slice.injEq] at hv
    obtain ⟨rfl, _, _⟩ := hv
    obtain ⟨h0, v, h1, h2⟩ := RdC_iff.1 (hL.at_ l b off i x hx)
    exact ⟨b, off, rfl, hlt, h0, v, h1, h2⟩
theorem RdA.cap {p : Nat → Prop} {w : World} {A : Option Addr} {n c : Nat} {l : List Tr} (h : RdA p w l (.slice A n c)) : n = l.length ∧ l.length ≤ maxLen := by
  rcases h with ⟨A, c, hv, rfl, _⟩ | ⟨b, off, c, hv, hc, hm, hlt, hp, hL⟩
  · simp only [Value.slice.injEq] at hv
    exact ⟨hv.2.1, Nat.zero_le _⟩
  · simp only [Value.slice.injEq] at hv
    exact ⟨hv.2.1, by omega⟩

/-! What the reference reckons. -/
mutual
/-- How many nodes. -/
def nodes : Tr → Nat
  | .mk _ _ _ _ _ l => nodesL l + 1
def nodesL : List Tr → Nat
  | [] => 0
  | x :: l => nodes x + nodesL l
end
mutual
/-- Size: as far as so many. -/
def sizeF : Tr → Int → Int
  | .mk _ _ _ _ _ l, m => sizeL l m 1
def sizeL : List Tr → Int → Int → Int
  | [], _, k => k
  | x :: l, m, k => if k ≤ m then sizeL l m (k + sizeF x (m - k)) else k
end
mutual
theorem size_mem : ∀ (x : Tr) (m : Int), 0 ≤ m → (1 ≤ sizeF x m ∧ sizeF x m ≤ m + 1) ∧ ((nodes x : Int) ≤ m → sizeF x m = nodes x) ∧ (m < (nodes x : Int) → sizeF x m = m + 1)
  | .mk k n s f t l, m => fun hm => by
    unfold sizeF nodes
    have := sizeL_mem l m 1 (by omega) (by omega)
    omega
theorem sizeL_mem : ∀ (l : List Tr) (m k : Int), 1 ≤ k → k ≤ m + 1 → (1 ≤ sizeL l m k ∧ sizeL l m k ≤ m + 1) ∧ (k + (nodesL l : Int) ≤ m → sizeL l m k = k + nodesL l) ∧ (m < k + (nodesL l : Int) → sizeL l m k = m + 1)
  | [], m, k => fun h1 h2 => by
    unfold sizeL nodesL
    omega
  | x :: l, m, k => fun h1 h2 => by
    have hp := nodes_pos x
    unfold sizeL nodesL
    by_cases h : k ≤ m
    · rw [if_pos h]
      have h3 := size_mem x (m - k) (by omega)
      have h4 := sizeL_mem l m (k + sizeF x (m - k)) (by omega) (by omega)
      omega
    · rw [if_neg h]
      omega
theorem nodes_pos : ∀ x : Tr, 1 ≤ nodes x
  | .mk _ _ _ _ _ _ => by unfold nodes; omega
end
theorem nodesL_mem : ∀ (l : List Tr) (i : Nat) (y : Tr), l[i]? = some y → nodes y ≤ nodesL l
  | [], _, _, h => by simp at h
  | x :: l, 0, y, h => by
    simp at h
    subst h
    unfold nodesL
    omega
  | x :: l, i + 1, y, h => by
    have := nodesL_mem l i y (by simpa using h)
    unfold nodesL
    omega
theorem nodesL_len : ∀ l : List Tr, l.length ≤ nodesL l
  | [] => by simp [nodesL]
  | x :: l => by
    have := nodesL_len l
    have := nodes_pos x
    simp only [List.length_cons, nodesL]
    omega
theorem nodes_eq (x : Tr) : nodes x = nodesL x.args + 1 := by
  obtain ⟨k, n, s, f, t, l⟩ := x
  unfold nodes
  rfl
/-- A part is less than the whole. -/
theorem Tr.part {x : Tr} {i : Nat} {y : Tr} (h : x.args[i]? = some y) : nodes y < nodes x := by
  have h1 := nodesL_mem _ i y h
  have h2 := nodes_eq x
  omega
theorem sizeF_eq (x : Tr) (m : Int) : sizeF x m = sizeL x.args m 1 := by
  obtain ⟨k, n, s, f, t, l⟩ := x
  unfold sizeF
  rfl
/-- By the number of nodes. -/
theorem Tr.ind {C : Tr → Prop} (h : ∀ x, (∀ (i : Nat) y, x.args[i]? = some y → C y) → C x) (x : Tr) : C x := by
  have : ∀ n, ∀ x, nodes x ≤ n → C x := by
    intro n
    induction n with
    | zero => intro x hx; have := nodes_pos x; omega
    | succ n ih => exact fun x hx => h x fun i y hy => ih y (by have := Tr.part hy; omega)
  exact this _ x (Nat.le_refl _)
mutual
/-- Depth. -/
def depthF : Tr → Nat
  | .mk _ _ _ _ _ l => depthL l 0 + 1
def depthL : List Tr → Nat → Nat
  | [], d => d
  | x :: l, d => depthL l (max d (depthF x))
end
theorem depthF_eq (x : Tr) : depthF x = depthL x.args 0 + 1 := by
  obtain ⟨k, n, s, f, t, l⟩ := x
  unfold depthF
  rfl
mutual
theorem depth_nodes : ∀ x : Tr, depthF x ≤ nodes x
  | .mk _ _ _ _ _ l => by
    have := depthL_nodes l 0
    unfold depthF nodes
    omega
theorem depthL_nodes : ∀ (l : List Tr) (d : Nat), depthL l d ≤ max d (nodesL l)
  | [], d => by unfold depthL; omega
  | x :: l, d => by
    have h1 := depthL_nodes l (max d (depthF x))
    have h2 := depth_nodes x
    unfold depthL nodesL
    omega
end
theorem depthL_ge : ∀ (l : List Tr) (d : Nat), d ≤ depthL l d ∧ ∀ (i : Nat) y, l[i]? = some y → depthF y ≤ depthL l d
  | [], d => ⟨by unfold depthL; omega, fun i y h => by simp at h⟩
  | x :: l, d => by
    have h1 := depthL_ge l (max d (depthF x))
    unfold depthL
    refine ⟨by omega, fun i y h => ?_⟩
    rcases i with _ | i
    · simp at h
      subst h
      omega
    · exact h1.2 i y (by simpa using h)
theorem Tr.part_depth {x : Tr} {i : Nat} {y : Tr} (h : x.args[i]? = some y) : depthF y < depthF x := by
  have := (depthL_ge x.args 0).2 i y h
  rw [depthF_eq x]
  omega

/-- The signs of a level. -/
def signsF (k : Int) : List (List UInt8) :=
  if k = 1 then [[61], [60, 62], [60], [60, 61], [62], [62, 61]] else if k = 2 then [[38]] else if k = 3 then [[43], [45]] else if k = 4 then [[42], [47]] else []
def levelF (s : List UInt8) : Nat :=
  if s ∈ signsF 1 then 1 else if s ∈ signsF 2 then 2 else if s ∈ signsF 3 then 3 else if s ∈ signsF 4 then 4 else 0
def upB (c : UInt8) : Bool := decide (65 ≤ c.toNat ∧ c.toNat ≤ 90)
def digB (c : UInt8) : Bool := decide (48 ≤ c.toNat ∧ c.toNat ≤ 57)
/-- Each byte a letter, or a digit that isn't the first. -/
def chkF : List UInt8 → Nat → Bool
  | [], _ => true
  | c :: l, i => (upB c || (digB c && decide (0 < i))) && chkF l (i + 1)
/-- A function's name. -/
def nameF (s : List UInt8) : Bool := chkF s 0 && decide (1 ≤ s.length ∧ s.length ≤ 32)
theorem level_at {s : List UInt8} {k : Int} (h1 : 1 ≤ k) (h4 : k ≤ 4) (hs : s ∈ signsF k) (hb : ∀ j : Int, 1 ≤ j → j < k → s ∉ signsF j) : (levelF s : Int) = k := by
  unfold levelF
  have : k = 1 ∨ k = 2 ∨ k = 3 ∨ k = 4 := by omega
  rcases this with rfl | rfl | rfl | rfl
  · rw [if_pos hs]; rfl
  · rw [if_neg (hb 1 (by omega) (by omega)), if_pos hs]; rfl
  · rw [if_neg (hb 1 (by omega) (by omega)), if_neg (hb 2 (by omega) (by omega)), if_pos hs]; rfl
  · rw [if_neg (hb 1 (by omega) (by omega)), if_neg (hb 2 (by omega) (by omega)), if_neg (hb 3 (by omega) (by omega)), if_pos hs]; rfl
theorem level_none {s : List UInt8} (hb : ∀ j : Int, 1 ≤ j → j < 5 → s ∉ signsF j) : levelF s = 0 := by
  unfold levelF
  rw [if_neg (hb 1 (by omega) (by omega)), if_neg (hb 2 (by omega) (by omega)), if_neg (hb 3 (by omega) (by omega)), if_neg (hb 4 (by omega) (by omega))]
theorem levelF_le (s : List UInt8) : levelF s ≤ 4 := by
  unfold levelF
  split
  · omega
  · split
    · omega
    · split
      · omega
      · split <;> omega
theorem level_pos {s : List UInt8} {k : Int} (hs : s ∈ signsF k) : (levelF s : Int) = k := by
  have hk : k = 1 ∨ k = 2 ∨ k = 3 ∨ k = 4 := by
    unfold signsF at hs
    split at hs
    · omega
    · split at hs
      · omega
      · split at hs
        · omega
        · split at hs
          · omega
          · cases hs
  have all1 : ∀ s ∈ signsF 1, levelF s = 1 := by decide +kernel
  have all2 : ∀ s ∈ signsF 2, levelF s = 2 := by decide +kernel
  have all3 : ∀ s ∈ signsF 3, levelF s = 3 := by decide +kernel
  have all4 : ∀ s ∈ signsF 4, levelF s = 4 := by decide +kernel
  rcases hk with rfl | rfl | rfl | rfl
  · rw [all1 s hs]; rfl
  · rw [all2 s hs]; rfl
  · rw [all3 s hs]; rfl
  · rw [all4 s hs]; rfl
/-- What is asked of one node. -/
def nodeOk (k n : Int) (s : List UInt8) (m : Nat) : Bool :=
  decide (1 ≤ k ∧ k ≤ 8) && decide (¬ (k = 5 ∧ m ≠ 1 ∨ k = 6 ∧ m ≠ 2 ∨ k = 7 ∧ 16 < m ∨ (k < 5 ∨ k = 8) ∧ m ≠ 0)) && !(decide (k = 1 ∧ n < 0) || (decide (k = 6) && levelF s == 0) || (decide (k = 7) && !nameF s))
mutual
def rightF : Tr → Int → Bool
  | .mk k n s _ _ l, m => decide (1 ≤ m) && nodeOk k n s l.length && rightL l (m - 1)
def rightL : List Tr → Int → Bool
  | [], _ => true
  | x :: l, m => rightF x m && rightL l m
end
theorem rightF_eq (x : Tr) (m : Int) : rightF x m = (decide (1 ≤ m) && nodeOk x.kind x.num x.text x.args.length && rightL x.args (m - 1)) := by
  obtain ⟨k, n, s, f, t, l⟩ := x
  unfold rightF
  rfl
mutual
def sameF : Tr → Tr → Bool
  | .mk k n s f t l, y => decide (k = y.kind ∧ n = y.num ∧ s = y.text ∧ f = y.a ∧ t = y.b ∧ l.length = y.args.length) && sameL l y.args
def sameL : List Tr → List Tr → Bool
  | [], _ => true
  | _ :: _, [] => true
  | x :: l, y :: m => sameF x y && sameL l m
end
theorem sameF_eq (x y : Tr) : sameF x y = (decide (x.kind = y.kind ∧ x.num = y.num ∧ x.text = y.text ∧ x.a = y.a ∧ x.b = y.b ∧ x.args.length = y.args.length) && sameL x.args y.args) := by
  obtain ⟨k, n, s, f, t, l⟩ := x
  unfold sameF
  rfl
mutual
theorem same_self : ∀ x : Tr, sameF x x = true
  | .mk k n s f t l => by
    unfold sameF
    simp only [Tr.kind, Tr.num, Tr.text, Tr.a, Tr.b, Tr.args, and_self, decide_true, Bool.true_and]
    exact sameL_self l
theorem sameL_self : ∀ l : List Tr, sameL l l = true
  | [] => by unfold sameL; rfl
  | x :: l => by
    unfold sameL
    rw [same_self x, sameL_self l]
    rfl
end

/-! Print. -/
/-- A text between quotes, each quote in it doubled. -/
def quoteB (s : List UInt8) : List UInt8 := 34 :: (s.flatMap fun c => if c = 34 then [34, 34] else [c]) ++ [34]
def holdsF (k : Int) (s : List UInt8) : Nat := if k = 6 then levelF s else if k = 5 then 5 else 6
section
variable (tx : Int → List UInt8)
mutual
/-- The text of a tree whose references have their names as text, where one must hold so tightly; tx: the text of a number. -/
def prF : Tr → Int → List UInt8
  | .mk k n s _ _ l, m =>
    let body := if k = 1 then tx n else if k = 2 then quoteB s else if k = 3 ∨ k = 4 then s else if k = 5 then 45 :: prAt l 0 5
      else if k = 6 then prAt l 0 (levelF s) ++ s ++ prAt l 1 (levelF s + 1) else if k = 7 then s ++ [40] ++ prC l false ++ [41] else [35, 82, 69, 70, 33]
    if (holdsF k s : Int) < m then 40 :: body ++ [41] else body
def prAt : List Tr → Nat → Int → List UInt8
  | [], _, _ => []
  | x :: _, 0, m => prF x m
  | _ :: l, i + 1, m => prAt l i m
/-- The parts of a call, commas between. -/
def prC : List Tr → Bool → List UInt8
  | [], _ => []
  | x :: l, b => (if b then [44] else []) ++ prF x 1 ++ prC l true
end
end
mutual
/-- References become their names. -/
def namedF (nm : Int → List UInt8) : Tr → Tr
  | .mk k n s f t l => .mk k n (if k = 3 then nm f else if k = 4 then nm f ++ 58 :: nm t else s) 0 0 (namedL nm l)
def namedL (nm : Int → List UInt8) : List Tr → List Tr
  | [] => []
  | x :: l => namedF nm x :: namedL nm l
end
theorem namedL_map (nm : Int → List UInt8) : ∀ l, namedL nm l = l.map (namedF nm)
  | [] => by unfold namedL; rfl
  | x :: l => by unfold namedL; rw [namedL_map nm l]; rfl
theorem namedF_eq (nm : Int → List UInt8) (x : Tr) : namedF nm x = .mk x.kind x.num (if x.kind = 3 then nm x.a else if x.kind = 4 then nm x.a ++ 58 :: nm x.b else x.text) 0 0 (x.args.map (namedF nm)) := by
  obtain ⟨k, n, s, f, t, l⟩ := x
  rw [← namedL_map]
  unfold namedF
  rfl
theorem prAt_get (tx : Int → List UInt8) : ∀ (l : List Tr) (i : Nat) (m : Int) (x : Tr), l[i]? = some x → prAt tx l i m = prF tx x m
  | [], _, _, _, h => by simp at h
  | y :: l, 0, m, x, h => by
    simp at h
    subst h
    unfold prAt
    rfl
  | y :: l, i + 1, m, x, h => by
    unfold prAt
    exact prAt_get tx l i m x (by simpa using h)
end Go.Proofs.YtlagjnlajkmmeaaDoor
