/-
Package tree's own text: Print, by a contract.
-/
import Derived.Test.YtlagjnlajkmmeaaGreatDoorTqU
import Derived.Test.YtlagjnlajkmmeaaGreatDoorTrOk
import Derived.Laws.EntriesVeiled
namespace Go.Proofs.YtlagjnlajkmmeaaGreatDoor
open Go.RowKit

/-- How long the texts of a tree are whose references have become names. -/
theorem max_nm (nm : Int → List UInt8) (hl : ∀ k, In64 k → (nm k).length ≤ 41) {w : World} (x : Tr) : ∀ (v : Value), RdN AnyB w x v → maxT (namedF nm x) ≤ max (maxT x) 83 := by
  induction x using Tr.ind with
  | _ x ih =>
  intro v hv
  obtain ⟨hf, u, rfl, hA⟩ := hv
  rw [maxT_eq, maxT_eq x, named_args]
  have h1 : (namedF nm x).text.length ≤ max x.text.length 83 := by
    rw [namedF_eq]
    simp only [Tr.text]
    have ha := hl x.a hf.2.2.1
    have hb := hl x.b hf.2.2.2.1
    split
    · omega
    · split
      · simp only [List.length_append, List.length_cons]; omega
      · exact Nat.le_max_left _ _
  have all : ∀ (l : List Tr), (∀ y ∈ l, maxT (namedF nm y) ≤ max (maxT y) 83) → maxTL (l.map (namedF nm)) ≤ max (maxTL l) 83 := by
    intro l
    induction l with
    | nil => intro _; simp [maxTL]
    | cons y l ih2 =>
      intro h
      rw [List.map_cons]
      unfold maxTL
      have := h y (by simp)
      have := ih2 (fun z hz => h z (by simp [hz]))
      omega
  obtain ⟨A, c, rfl⟩ := hA.named
  have h2 := all x.args (fun y hy => by
    obtain ⟨i, hi⟩ := List.getElem?_of_mem hy
    obtain ⟨b, off, _, _, hfy, v', _, hA'⟩ := hA.at_ hi
    exact ih i y hi _ ⟨hfy, v', rfl, hA'⟩)
  omega

set_option maxRecDepth 20000 in
set_option maxHeartbeats 8000000 in
theorem pprint_any (KF : FuncId) (nm : Int → List UInt8) (hent : ∀ args w, (callFunc KF args).run Tryz.prog w = .ok (.enter KF args) w)
    (hnm : ∀ x W, EnvP W → In64 x → Calls Tryz.prog KF #[.int .i64 x] W fun e w' => e = .returned (.string ⟨(nm x).toArray⟩) ∧ Below W.heap.size W w') (hnl : ∀ k, In64 k → (nm k).length ≤ 41)
    (x : Tr) (v : Value) (w : World) (hE : EnvP w) (hn : nodes x ≤ 300) (hr : rightF x 64 = true) (hm : maxT x ≤ 1048576) (hv : RdN AnyB w x v) :
    Calls Tryz.prog 7 #[v, (.func (.func KF) #[] #[])] w fun e w' => e = .returned (.string ⟨(prF txN (namedF nm x) 1).toArray⟩) ∧ Below w.heap.size w w' := by
  have hlen : (prF txN (namedF nm x) 1).length ≤ lim := by
    have h1 := pr_len txN txN_len 1048576 (namedF nm x) 1 (by have := max_nm nm hnl x v hv; omega)
    have h2 : nodes (namedF nm x) * (2 * 1048576 + 60) ≤ 300 * (2 * 1048576 + 60) := Nat.mul_le_mul_right _ (by rw [named_nodes]; exact hn)
    unfold lim
    omega
  have hnf : ∀ W : World, (binOp BinOp.eql 34 (.func (.func KF) #[] #[]) .nilFunc).run Tryz.prog W = .ok (.bool false) W := fun _ => by kernel_rfl
  have hv0 := hv
  obtain ⟨k, n, s, f, t, l⟩ := x
  obtain ⟨hfit, u, rfl, hA⟩ := hv
  simp only [Tr.kind, Tr.num, Tr.text, Tr.a, Tr.b, Tr.args] at hfit hA hv0 ⊢
  obtain ⟨A, c, rfl⟩ := hA.named
  obtain ⟨len, hlen0⟩ : ∃ len, len = l.length := ⟨_, rfl⟩
  rw [← hlen0] at hA hv0 ⊢
  have hB0 := below_alloc w (.cells #[.int .i64 k, .int .i64 n, .string ⟨s.toArray⟩, .int .i64 f, .int .i64 t, .slice A len c] 32)
  have HB0 := Lib.hid hB0
  have HBX := Lib.hid (boxv w rfl k n s f t (.slice A len c) 32)
  have hwp : (w.alloc (.cells #[.int .i64 k, .int .i64 n, .string ⟨s.toArray⟩, .int .i64 f, .int .i64 t, .slice A len c] 32)).heap.size = w.heap.size + 1 := by simp
  have hP := pnode_any KF nm hent (w.alloc (.cells #[.int .i64 k, .int .i64 n, .string ⟨s.toArray⟩, .int .i64 f, .int .i64 t, .slice A len c] 32)) (hE.below hB0) hnm (w.heap.size + 1) (.mk k n s f t l)
  have hb2 := below_alloc (w.alloc (.cells #[.int .i64 k, .int .i64 n, .string ⟨s.toArray⟩, .int .i64 f, .int .i64 t, .slice A len c] 32)) (.cells #[.pointer none, .slice none 0 0, (.func (.func KF) #[] #[])] 49)
  have hpr := Pr.new tPr (by decide) (w.alloc (.cells #[.int .i64 k, .int .i64 n, .string ⟨s.toArray⟩, .int .i64 f, .int .i64 t, .slice A len c] 32)) (.func (.func KF) #[] #[])
  rw [hwp] at hpr
  have hcall := hP 1 _ ((w.alloc (.cells #[.int .i64 k, .int .i64 n, .string ⟨s.toArray⟩, .int .i64 f, .int .i64 t, .slice A len c] 32)).alloc (.cells #[.pointer none, .slice none 0 0, (.func (.func KF) #[] #[])] 49)) [] (by omega) (by omega) hb2 (by rw [hwp]; exact hpr) (hv0.below hB0) ⟨_, hr⟩ hm (by simpa using hlen)
  rw [hwp] at hcall
  rw [List.nil_append] at hcall
  try simp only [Tr.kind, Tr.num, Tr.text, Tr.a, Tr.b, Tr.args] at hcall
  have HX2 := Lib.hid (HBX.out.below hb2)
  have HB2 := Lib.hid (hB0.trans (hb2.mono hB0.size))
  obtain ⟨res, hres⟩ : ∃ x, x = prF txN (namedF nm (.mk k n s f t l)) 1 := ⟨_, rfl⟩
  rw [← hres] at hcall ⊢
  unfold nodeV at hcall ⊢
  have HCALL := Lib.hid hcall
  have HST := Lib.hid (fun W (h : Pr tPr (w.heap.size + 1) (w.heap.size + 1) (.func (.func KF) #[] #[]) res W) => bstr_any res W h)
  obtain ⟨p0, p1, p2, p3, p4, p5⟩ := HX2.out
  clear hcall hP hv0 hA hfit hlen hlen0 hB0 hb2 hpr hE hn hr hm hres hwp hnm hnl
  generalize (⟨s.toArray⟩ : ByteArray) = sb at *
  generalize (⟨res.toArray⟩ : ByteArray) = rb at *
  go_enter Tryz.func7, Tryz.ntmps7
  go_wp2_with fail
  go_at_call 21
  with_reducible refine (HCALL.out).mono ?_
  rintro e w3 ⟨rfl, hp3, hf3⟩
  have HB3 := Lib.hid (HB2.out.trans (hf3.below.mono (by omega)))
  have HC := Lib.hid (HST.out w3 hp3)
  clear hp3 hf3
  go_wp2_with fail
  go_at_call 22
  with_reducible refine (HC.out).mono ?_
  rintro e w4 ⟨rfl, hb4⟩
  have HB4 := Lib.hid (HB3.out.trans (hb4.mono (by omega)))
  clear hb4
  go_wp2_with fail
  go_ret
  exact ⟨rfl, HB4.out⟩

/-- What the laws of stage 9 ask of package tree: it holds of its own text. -/
theorem treeOk : TreeOk EnvP 1048576 := {
  keep := fun h hb => h.below hb
  signs := fun k w _ _ => psigns_any k w
  level := fun s w _ _ => plevel_any s w
  name := fun s w hE hs => pname_any s (by omega) w hE.tok
  right := fun x v w hE _ hv => pright_any x v w hE.tok hv
  depth := fun x v w _ hn hv => pdepth_any x v w (by omega) hv
  print := fun x v w KF nm hE hn hr hm hv hent hnm hnl => pprint_any KF nm hent hnm hnl x v w hE (by omega) hr hm hv }

end Go.Proofs.YtlagjnlajkmmeaaGreatDoor
