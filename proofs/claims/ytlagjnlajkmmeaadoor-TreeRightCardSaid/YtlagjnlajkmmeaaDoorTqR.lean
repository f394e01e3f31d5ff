/-
Package tree's own text: the printer's args, binary and node, and Print, by contracts.
-/
import Derived.Test.YtlagjnlajkmmeaaDoorTqP
import Derived.Test.YtlagjnlajkmmeaaDoorTrQuo
import Derived.Test.YtlagjnlajkmmeaaDoorBHeld
import Derived.Test.YtlagjnlajkmmeaaDoorTrOut
namespace Go.Proofs.YtlagjnlajkmmeaaDoor
open Go.RowKit

/-- What the world holds where trees are printed. -/
structure EnvP (w : World) : Prop where
  tok : EnvT w
  num : One.Env w
theorem EnvP.below {w w' : World} (h : EnvP w) (hb : Below w.heap.size w w') : EnvP w' := ⟨h.tok.below hb, h.num.below hb⟩
theorem quoteL_B (s : List UInt8) : Tok.quoteL s = quoteB s := rfl
/-- Parts with commas between. -/
def jnF (tx : Int → List UInt8) (m : Int) : List Tr → Bool → List UInt8
  | [], _ => []
  | x :: l, b => (if b then [44] else []) ++ prF tx x m ++ jnF tx m l true
theorem jn_one (tx : Int → List UInt8) : ∀ (l : List Tr) (b : Bool), jnF tx 1 l b = prC tx l b
  | [], b => by unfold jnF prC; rfl
  | x :: l, b => by unfold jnF prC; rw [jn_one tx l true]
theorem jn_single (tx : Int → List UInt8) (m : Int) : ∀ (l : List Tr), l.length = 1 → jnF tx m l false = prAt tx l 0 m
  | [x], _ => by simp [jnF, prAt]
  | [], h => by simp at h
  | _ :: _ :: _, h => by simp at h
theorem Pr.eq {T : TypeId} {B r : Nat} {nm : Value} {bs bs' : List UInt8} {w : World} (h : Pr T B r nm bs w) (e : bs = bs') : Pr T B r nm bs' w := e ▸ h
/-- A node's text: what its parts say. -/
def bdF (nm : Int → List UInt8) (x : Tr) : List UInt8 := bodyF txN x.kind x.num (namedF nm x).text (x.args.map (namedF nm))
theorem holds_named (nm : Int → List UInt8) (x : Tr) : holdsF (namedF nm x).kind (namedF nm x).text = holdsF x.kind x.text := by
  obtain ⟨k, n, s, f, t, l⟩ := x
  rw [namedF_eq]
  simp only [Tr.kind, Tr.num, Tr.text, Tr.a, Tr.b]
  unfold holdsF
  by_cases h6 : k = 6
  · subst h6; simp
  · rw [if_neg h6, if_neg h6]
theorem pr_named (nm : Int → List UInt8) (x : Tr) (m : Int) : prF txN (namedF nm x) m = if (holdsF x.kind x.text : Int) < m then 40 :: bdF nm x ++ [41] else bdF nm x := by
  rw [prF_eq, holds_named, named_kind, named_args]
  unfold bdF
  rw [show (namedF nm x).num = x.num from by rw [namedF_eq]; rfl]
section
variable (nm : Int → List UInt8) (n : Int) (s : List UInt8) (f t : Int) (l : List Tr)
theorem bd1 : bdF nm (.mk 1 n s f t l) = txN n := by unfold bdF bodyF; simp [Tr.kind, Tr.num]
theorem bd2 : bdF nm (.mk 2 n s f t l) = quoteB s := by unfold bdF bodyF; rw [namedF_eq]; simp [Tr.kind, Tr.text]
theorem bd3 : bdF nm (.mk 3 n s f t l) = nm f := by unfold bdF bodyF; rw [namedF_eq]; simp [Tr.kind, Tr.text, Tr.a]
theorem bd4 : bdF nm (.mk 4 n s f t l) = nm f ++ [58] ++ nm t := by unfold bdF bodyF; rw [namedF_eq]; simp [Tr.kind, Tr.text, Tr.a, Tr.b]
theorem bd5 (h : l.length = 1) : bdF nm (.mk 5 n s f t l) = [45] ++ jnF txN 5 (l.map (namedF nm)) false := by
  rw [jn_single _ _ _ (by simpa using h)]
  unfold bdF bodyF
  simp [Tr.kind, Tr.args]
theorem bd6 : bdF nm (.mk 6 n s f t l) = prAt txN (l.map (namedF nm)) 0 (levelF s) ++ s ++ prAt txN (l.map (namedF nm)) 1 (levelF s + 1) := by
  unfold bdF bodyF
  rw [namedF_eq]
  simp [Tr.kind, Tr.args, Tr.text]
theorem bd7 : bdF nm (.mk 7 n s f t l) = (s ++ [40]) ++ jnF txN 1 (l.map (namedF nm)) false ++ [41] := by
  rw [jn_one]
  unfold bdF bodyF
  rw [namedF_eq]
  simp [Tr.kind, Tr.args, Tr.text]
theorem bd8 : bdF nm (.mk 8 n s f t l) = [35, 82, 69, 70, 33] := by unfold bdF bodyF; simp [Tr.kind]
end

/-- What is said of a node that is printed: the Builder in block r; the tree in the world w0. -/
def NodeP (K : FuncId) (nm : Int → List UInt8) (w0 : World) (r : Nat) (x : Tr) : Prop :=
  ∀ (m : Int) (v : Value) (w : World) (bs : List UInt8), 1 ≤ m → m ≤ 6 → Below w0.heap.size w0 w → Pr tPr w0.heap.size r (.func (.func K) #[] #[]) bs w → RdN AnyB w0 x v → (∃ d, rightF x d = true) → maxT x ≤ 1048576 →
    bs.length + (prF txN (namedF nm x) m).length ≤ lim → Calls Tryd.prog 30 #[.pointer (some ⟨r, 0, none⟩), v, .int .i64 m] w fun e w' =>
    e = .returned (.tuple #[]) ∧ Pr tPr w0.heap.size r (.func (.func K) #[] #[]) (bs ++ prF txN (namedF nm x) m) w' ∧ Fr w0.heap.size r w w'

theorem nst_new {B r : Nat} {nm : Value} {w wi : World} {bs : List UInt8} (hp : Pr tPr B r nm bs wi) (hf : Fr B r w wi) (o : Obj) : NSt B r wi.heap.size o nm w bs (wi.alloc o) :=
  ⟨hp.alloc o, hf.trans (Fr.of (below_alloc _ _) hp.base), heap_new rfl⟩

set_option maxRecDepth 20000 in
set_option maxHeartbeats 8000000 in
theorem pargs_any (K : FuncId) (nm : Int → List UInt8) (w0 : World) (r : Nat) (l : List Tr) (hP : ∀ (i : Nat) y, l[i]? = some y → NodeP K nm w0 r y) (hV : ∀ (i : Nat) y, l[i]? = some y → ∃ d, rightF y d = true) (hM : ∀ (i : Nat) y, l[i]? = some y → maxT y ≤ 1048576)
    (A : Option Addr) (len c : Nat) (hA : RdA AnyB w0 l (.slice A len c)) (m : Int) (hm1 : 1 ≤ m) (hm6 : m ≤ 6) (w : World) (bs : List UInt8) (hw : Below w0.heap.size w0 w) (hp : Pr tPr w0.heap.size r (.func (.func K) #[] #[]) bs w)
    (hlen : bs.length + (jnF txN m (l.map (namedF nm)) false).length ≤ lim) :
    Calls Tryd.prog 41 #[.pointer (some ⟨r, 0, none⟩), .slice A len c, .int .i64 m] w fun e w' => e = .returned (.tuple #[]) ∧ Pr tPr w0.heap.size r (.func (.func K) #[] #[]) (bs ++ jnF txN m (l.map (namedF nm)) false) w' ∧ Fr w0.heap.size r w w' := by
  have hcap := hA.cap
  have hlm : len ≤ 9223372036854775807 := by have := hcap.2; unfold maxLen at this; omega
  have HLEN := Lib.hid hcap.1
  have HA := Lib.hid (fun (i : Nat) (y : Tr) (hy : l[i]? = some y) => part_s hA hy)
  have HP := Lib.hid hP
  have HV := Lib.hid hV
  have HM := Lib.hid hM
  have HW := Lib.hid hw
  have HPR := Lib.hid hp
  obtain ⟨res, hres⟩ : ∃ x, x = jnF txN m (l.map (namedF nm)) false := ⟨_, rfl⟩
  rw [← hres] at hlen ⊢
  have HRES := Lib.hid hres
  have HLIM := Lib.hid hlen
  obtain ⟨nmv, hnmv⟩ : ∃ v : Value, v = (.func (.func K) #[] #[]) := ⟨_, rfl⟩
  clear hA hcap hP hV hM hw hp hres hlen
  go_enter Tryd.func41, Tryd.ntmps41
  go_wp2_with fail
  go_loopw [10] (fun b wr => ∃ (i : Nat) (o : List UInt8), i ≤ len ∧ b = .int .i64 (i : Int) ∧ Hid (o ++ jnF txN m ((l.drop i).map (namedF nm)) (decide (0 < i)) = res) ∧ Hid (Pr tPr w0.heap.size r (.func (.func K) #[] #[]) (bs ++ o) wr) ∧ Hid (Fr w0.heap.size r w wr)) (fun b _ => len - (intOf b).toNat)
  case atStart => exact ⟨0, [], Nat.zero_le _, rfl, Lib.hid (by rw [List.drop_zero, HRES.out]; rfl), Lib.hid (by simpa using HPR.out), Lib.hid (Fr.refl _ _ _)⟩
  case round =>
    obtain ⟨i, o, hi, rfl, HK, HPI, HFI⟩ := hrel
    by_cases hlt : i < len
    · obtain ⟨y, hy⟩ : ∃ y, l[i]? = some y := ⟨_, List.getElem?_eq_getElem (by rw [← HLEN.out]; exact hlt)⟩
      have hk := HK.out
      rw [drop_at hy, List.map_cons] at hk
      unfold jnF at hk
      obtain ⟨b1, off1, Ay, ny, cy, rfl, hw1⟩ := HA.out i y hy
      have hwr := HW.out.trans HFI.out.below
      obtain ⟨⟨c0, c1, c2, c3, c4, c5⟩, _⟩ := hw1 wr hwr
      have hN := (hw1 w0 (Below.refl _ _)).2
      unfold nodeV at hN
      have hst := nst_new HPI.out HFI.out (.cells #[.int .i64 y.kind, .int .i64 y.num, .string ⟨y.text.toArray⟩, .int .i64 y.a, .int .i64 y.b, .slice Ay ny cy] 36)
      have HST := Lib.hid hst
      obtain ⟨⟨q0, q1, q2, q3, q4, q5⟩, _⟩ := row6 hst.bx
      have HND := Lib.hid (fun W bs' h1 h2 h3 => HP.out i y hy m _ W bs' hm1 hm6 h1 h2 hN (HV.out i y hy) (HM.out i y hy) h3)
      obtain ⟨tp, htp⟩ : ∃ x, x = prF txN (namedF nm y) m := ⟨_, rfl⟩
      rw [← htp] at hk
      have HTP := Lib.hid htp
      by_cases h0 : 0 < i
      · rw [decide_eq_true h0, if_pos rfl] at hk
        have HK2 := Lib.hid hk
        have HR2 := Lib.hid (HST.out.row (.cells #[.string ⟨#[44]⟩] 9))
        have hle : (bs ++ o).length + [[(44 : UInt8)]].flatten.length ≤ lim ∧ (bs ++ o ++ [44]).length + tp.length ≤ lim := by
          have h1 := HLIM.out
          rw [← hk] at h1
          simp only [List.length_append, List.length_cons, List.length_nil, List.flatten_cons, List.flatten_nil, List.append_nil] at h1 ⊢
          omega
        have HC := Lib.hid (pw_any [[44]] 1 rfl (by decide) _ r (wr.heap.size + 1) (.func (.func K) #[] #[]) (bs ++ o) _ HR2.out.1.pr (heap_new (by simp)) hle.1)
        have HL2 := Lib.hid hle.2
        clear hy hk hw1 hwr hN hst htp hle
        go_wp2_with fail
        go_at_call 38
        with_reducible refine (HC.out).mono ?_
        rintro e w2 ⟨rfl, hp2, hf2⟩
        have HS2 := Lib.hid (HR2.out.1.step (hp2.eq (by simp : _ = bs ++ o ++ [44])) hf2)
        clear hp2 hf2 HC
        clear q0 q1 q2 q3 q4 q5
        obtain ⟨⟨q0, q1, q2, q3, q4, q5⟩, _⟩ := row6 HS2.out.bx
        have HC2 := Lib.hid (HND.out w2 (bs ++ o ++ [44]) (HW.out.trans HS2.out.fr.below) HS2.out.pr (by rw [← HTP.out]; exact HL2.out))
        go_wp2_with fail
        go_at_call 30
        with_reducible refine (HC2.out).mono ?_
        rintro e w3 ⟨rfl, hp3, hf3⟩
        have HP3 := Lib.hid (hp3.eq (by rw [← HTP.out]; simp : _ = bs ++ (o ++ [44] ++ tp)))
        have HF3 := Lib.hid (HS2.out.fr.trans hf3)
        clear hp3 hf3 HC2
        clear q0 q1 q2 q3 q4 q5
        go_wp2_with fail
        go_roundw
        case rel => exact ⟨i + 1, o ++ [44] ++ tp, by omega, by go_num, Lib.hid (by rw [← HK2.out, decide_eq_true (Nat.succ_pos i)]; simp), HP3, HF3⟩
        case measure => simp [intOf]; omega
      · have hi0 : (i : Int) ≤ 0 := by omega
        rw [decide_eq_false h0] at hk
        simp only [Bool.false_eq_true, if_false, List.nil_append] at hk
        have HK2 := Lib.hid hk
        have hle : (bs ++ o).length + tp.length ≤ lim := by
          have h1 := HLIM.out
          rw [← hk] at h1
          simp only [List.length_append] at h1 ⊢
          omega
        have HC2 := Lib.hid (HND.out _ (bs ++ o) (HW.out.trans HST.out.fr.below) HST.out.pr (by rw [← HTP.out]; exact hle))
        clear hy hk hw1 hwr hN hst htp hle h0 HND
        go_wp2_with fail
        go_at_call 30
        with_reducible refine (HC2.out).mono ?_
        rintro e w3 ⟨rfl, hp3, hf3⟩
        have HP3 := Lib.hid (hp3.eq (by rw [← HTP.out]; simp : _ = bs ++ (o ++ tp)))
        have HF3 := Lib.hid (HST.out.fr.trans hf3)
        clear hp3 hf3 HC2
        clear q0 q1 q2 q3 q4 q5
        go_wp2_with fail
        go_roundw
        case rel => exact ⟨i + 1, o ++ tp, by omega, by go_num, Lib.hid (by rw [← HK2.out, decide_eq_true (Nat.succ_pos i)]; simp), HP3, HF3⟩
        case measure => simp [intOf]; omega
    · obtain rfl : i = len := by omega
      have hk := HK.out
      rw [HLEN.out, List.drop_length] at hk
      have ho : o = res := by
        rw [← hk]; simp [jnF]
      subst ho
      clear hk HK HLEN
      go_wp2_with fail
      go_end0
      exact ⟨rfl, HPI.out, HFI.out⟩

end Go.Proofs.YtlagjnlajkmmeaaDoor
