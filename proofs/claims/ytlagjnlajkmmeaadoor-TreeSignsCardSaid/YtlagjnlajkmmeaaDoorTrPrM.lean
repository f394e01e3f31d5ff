/-
Trees as texts, plain maths: how long, what names do. Of no function of the program.
-/
import Derived.Test.YtlagjnlajkmmeaaDoorTrM
namespace Go.Proofs.YtlagjnlajkmmeaaDoor
open Go.RowKit

mutual
/-- The greatest text of a tree. -/
def maxT : Tr → Nat
  | .mk _ _ s _ _ l => max s.length (maxTL l)
def maxTL : List Tr → Nat
  | [] => 0
  | x :: l => max (maxT x) (maxTL l)
end
theorem maxT_eq (x : Tr) : maxT x = max x.text.length (maxTL x.args) := by
  obtain ⟨k, n, s, f, t, l⟩ := x
  unfold maxT
  rfl
theorem maxTL_mem : ∀ (l : List Tr) (i : Nat) (y : Tr), l[i]? = some y → maxT y ≤ maxTL l
  | [], _, _, h => by simp at h
  | x :: l, 0, y, h => by
    simp at h
    subst h
    unfold maxTL
    omega
  | x :: l, i + 1, y, h => by
    have := maxTL_mem l i y (by simpa using h)
    unfold maxTL
    omega
/-- What stands between a tree's parentheses, if it has any. -/
def bodyF (tx : Int → List UInt8) (k n : Int) (s : List UInt8) (l : List Tr) : List UInt8 :=
  if k = 1 then tx n else if k = 2 then quoteB s else if k = 3 ∨ k = 4 then s else if k = 5 then 45 :: prAt tx l 0 5
  else if k = 6 then prAt tx l 0 (levelF s) ++ s ++ prAt tx l 1 (levelF s + 1) else if k = 7 then s ++ [40] ++ prC tx l false ++ [41] else [35, 82, 69, 70, 33]
theorem prF_eq (tx : Int → List UInt8) (x : Tr) (m : Int) : prF tx x m = if (holdsF x.kind x.text : Int) < m then 40 :: bodyF tx x.kind x.num x.text x.args ++ [41] else bodyF tx x.kind x.num x.text x.args := by
  obtain ⟨k, n, s, f, t, l⟩ := x
  conv => lhs; unfold prF
  rfl
theorem prF_mk (tx : Int → List UInt8) (k n : Int) (s : List UInt8) (f t : Int) (l : List Tr) (m : Int) : prF tx (.mk k n s f t l) m = if (holdsF k s : Int) < m then 40 :: bodyF tx k n s l ++ [41] else bodyF tx k n s l := prF_eq tx (.mk k n s f t l) m
theorem quote_len (s : List UInt8) : (quoteB s).length ≤ 2 * s.length + 2 := by
  unfold quoteB
  have : ∀ s : List UInt8, (s.flatMap fun c => if c = 34 then [34, 34] else [c]).length ≤ 2 * s.length := by
    intro s
    induction s with
    | nil => simp
    | cons c l ih =>
      rw [List.flatMap_cons, List.length_append, List.length_cons]
      have : (if c = 34 then [34, 34] else [c] : List UInt8).length ≤ 2 := by split <;> simp
      omega
  have := this s
  simp only [List.length_append, List.length_cons, List.length_nil]
  omega
theorem body_len (tx : Int → List UInt8) (ht : ∀ n, (tx n).length ≤ 40) (M : Nat) (k n : Int) (s : List UInt8) (l : List Tr) (hs : s.length ≤ M) (Z : Nat) (h1 : ∀ b, (prC tx l b).length ≤ Z) (h2 : ∀ i m, (prAt tx l i m).length ≤ Z) (h3 : ∀ a b, (prAt tx l 0 a).length + (prAt tx l 1 b).length ≤ Z) :
    (bodyF tx k n s l).length ≤ Z + (2 * M + 50) := by
  unfold bodyF
  have hn := ht n
  have hq := quote_len s
  have hc := h1 false
  have ha := h2 0 5
  have hb := h3 (levelF s) (levelF s + 1)
  split
  · omega
  · split
    · omega
    · split
      · omega
      · split
        · rw [List.length_cons]; omega
        · split
          · rw [List.length_append, List.length_append]; omega
          · split
            · simp only [List.length_append, List.length_cons, List.length_nil]; omega
            · simp; omega
mutual
theorem pr_len (tx : Int → List UInt8) (ht : ∀ n, (tx n).length ≤ 40) (M : Nat) : ∀ (x : Tr) (m : Int), maxT x ≤ M → (prF tx x m).length + 1 ≤ nodes x * (2 * M + 60)
  | .mk k n s f t l, m => fun hm => by
    rw [maxT_eq] at hm
    simp only [Tr.text, Tr.args] at hm
    obtain ⟨h1, h2, h3⟩ := prL_len tx ht M l (by omega)
    have hb := body_len tx ht M k n s l (by omega) _ h1 h2 h3
    rw [prF_mk, nodes_eq, Nat.add_mul, Nat.one_mul]
    simp only [Tr.args]
    generalize nodesL l * (2 * M + 60) = Z at *
    by_cases hh : (holdsF k s : Int) < m
    · rw [if_pos hh, List.length_append, List.length_cons, List.length_cons, List.length_nil]
      omega
    · rw [if_neg hh]
      omega
theorem prL_len (tx : Int → List UInt8) (ht : ∀ n, (tx n).length ≤ 40) (M : Nat) : ∀ (l : List Tr), maxTL l ≤ M → (∀ b, (prC tx l b).length ≤ nodesL l * (2 * M + 60)) ∧ (∀ i m, (prAt tx l i m).length ≤ nodesL l * (2 * M + 60)) ∧ (∀ a b, (prAt tx l 0 a).length + (prAt tx l 1 b).length ≤ nodesL l * (2 * M + 60))
  | [] => fun _ => by
    refine ⟨fun b => ?_, fun i m => ?_, fun a b => ?_⟩
    · unfold prC; simp
    · unfold prAt; simp
    · unfold prAt; simp
  | x :: l => fun hm => by
    unfold maxTL at hm
    obtain ⟨h1, h2, h3⟩ := prL_len tx ht M l (by omega)
    have hx := fun m => pr_len tx ht M x m (by omega)
    unfold nodesL
    rw [Nat.add_mul]
    generalize nodesL l * (2 * M + 60) = Z at *
    generalize nodes x * (2 * M + 60) = Y at *
    refine ⟨fun b => ?_, fun i m => ?_, fun a b => ?_⟩
    · unfold prC
      have := hx 1
      have := h1 true
      rw [List.length_append, List.length_append]
      have : (if b = true then [44] else [] : List UInt8).length ≤ 1 := by split <;> simp
      omega
    · rcases i with _ | i
      · unfold prAt
        have := hx m
        omega
      · unfold prAt
        have := h2 i m
        omega
    · have e0 : prAt tx (x :: l) 0 a = prF tx x a := by unfold prAt; rfl
      have e1 : prAt tx (x :: l) 1 b = prAt tx l 0 b := by conv => lhs; unfold prAt
      rw [e0, e1]
      have := hx a
      have := h2 0 b
      omega
end
/-! Names. -/
section
variable (nm : Int → List UInt8)
theorem named_kind (x : Tr) : (namedF nm x).kind = x.kind := by rw [namedF_eq]; rfl
theorem named_args (x : Tr) : (namedF nm x).args = x.args.map (namedF nm) := by rw [namedF_eq]; rfl
theorem named_len (x : Tr) : (namedF nm x).args.length = x.args.length := by rw [named_args]; simp
theorem named_node (x : Tr) (m : Nat) : nodeOk (namedF nm x).kind (namedF nm x).num (namedF nm x).text m = nodeOk x.kind x.num x.text m := by
  obtain ⟨k, n, s, f, t, l⟩ := x
  rw [namedF_eq]
  simp only [Tr.kind, Tr.num, Tr.text, Tr.a, Tr.b]
  unfold nodeOk
  by_cases h6 : k = 6
  · subst h6; simp
  · by_cases h7 : k = 7
    · subst h7; simp
    · simp [h6, h7]
theorem named_right (x : Tr) : ∀ m, rightF (namedF nm x) m = rightF x m := by
  induction x using Tr.ind with
  | _ x ih =>
  intro m
  rw [rightF_eq, rightF_eq x, named_node, named_len, named_args]
  congr 1
  have all : ∀ (l : List Tr), (∀ y ∈ l, ∀ m, rightF (namedF nm y) m = rightF y m) → ∀ m, rightL (l.map (namedF nm)) m = rightL l m := by
    intro l
    induction l with
    | nil => intro _ _; rfl
    | cons y l ih2 =>
      intro h m
      rw [List.map_cons]
      unfold rightL
      rw [h y List.mem_cons_self, ih2 (fun z hz => h z (List.mem_cons_of_mem _ hz))]
  exact all _ (fun y hy m => by obtain ⟨i, hi⟩ := List.getElem?_of_mem hy; exact ih i y hi m) _
theorem named_nodes (x : Tr) : nodes (namedF nm x) = nodes x := by
  induction x using Tr.ind with
  | _ x ih =>
  rw [nodes_eq, nodes_eq x, named_args]
  congr 1
  have all : ∀ (l : List Tr), (∀ y ∈ l, nodes (namedF nm y) = nodes y) → nodesL (l.map (namedF nm)) = nodesL l := by
    intro l
    induction l with
    | nil => intro _; rfl
    | cons y l ih2 =>
      intro h
      rw [List.map_cons]
      unfold nodesL
      rw [h y List.mem_cons_self, ih2 (fun z hz => h z (List.mem_cons_of_mem _ hz))]
  exact all _ (fun y hy => by obtain ⟨i, hi⟩ := List.getElem?_of_mem hy; exact ih i y hi)
end
/-- What a valid node's parts are. -/
theorem right_parts {x : Tr} {m : Int} (h : rightF x m = true) : (1 ≤ m ∧ 1 ≤ x.kind ∧ x.kind ≤ 8) ∧ (x.kind = 5 → x.args.length = 1) ∧ (x.kind = 6 → x.args.length = 2) ∧ (x.kind = 7 → x.args.length ≤ 16) ∧ ∀ (i : Nat) y, x.args[i]? = some y → rightF y (m - 1) = true := by
  rw [rightF_eq] at h
  simp only [Bool.and_eq_true] at h
  obtain ⟨⟨h1, h2⟩, h3⟩ := h
  have h1 := of_decide_eq_true h1
  unfold nodeOk at h2
  simp only [Bool.and_eq_true] at h2
  obtain ⟨⟨h4, h5⟩, _⟩ := h2
  have h4 := of_decide_eq_true h4
  have h5 := of_decide_eq_true h5
  have all : ∀ (l : List Tr), rightL l (m - 1) = true → ∀ (i : Nat) y, l[i]? = some y → rightF y (m - 1) = true := by
    intro l
    induction l with
    | nil => intro _ i y hy; simp at hy
    | cons z l ih =>
      intro hr i y hy
      unfold rightL at hr
      rw [Bool.and_eq_true] at hr
      rcases i with _ | i
      · simp at hy
        subst hy
        exact hr.1
      · exact ih hr.2 i y (by simpa using hy)
  exact ⟨⟨h1, h4⟩, fun e => by omega, fun e => by omega, fun e => by omega, all _ h3⟩
end Go.Proofs.YtlagjnlajkmmeaaDoor
