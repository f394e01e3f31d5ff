/-
An append of bytes as a step of a region that draws its order.
-/
import Derived.Test.YtfgopiopeidfmaaDoorBRead
import Derived.Test.YtfgopiopeidfmaaDoorBHeld
namespace Go.Proofs.YtfgopiopeidfmaaDoor
open Go.RowKit
theorem step_appB {ops : Array Oper} {o : Oper} {a : Act} {K : Act → World → Prop} {Q : Exit → Act → World → Prop} {E : Prop} {w : World} (hgd : o.guard = none) (s x : Operand)
    (ho : o.op = Op.call { callee := Callee.builtin Builtin.append, args := #[s, x], argTypes := #[34, 34] }) (B : Nat) (v : Value) (l : List Nat) (hs : a.eval s = v) (hown : Own B w v l)
    (vb : Value) (m : List Nat) (hx : a.eval x = vb) (hb : Rd w vb m) (hl : l.length + m.length ≤ 1000000) (hB : B ≤ w.heap.size)
    (h : ∀ v' w', Own B w' v' (l ++ m) → Below B w w' → w.grownBy w' v.ownBlock → (v'.ownBlock = v.ownBlock ∨ v'.ownBlock = some w.heap.size) → K (a.put o.dst v') w') :
    if Region.wanted o (yielded ops a.tmps) = true then Oper.wp Tryd.prog o a w K Q else E := by
  have hw : Region.wanted o (yielded ops a.tmps) = true := by simp [Region.wanted, hgd]
  rw [if_pos hw]
  obtain ⟨v', w', hr, h1, h2, h3⟩ := run_appG w o.type B v l hown vb m hb hl hB
  unfold Oper.wp
  simp [execOp, ho, resolve, invoke, builtin, hs, hx, hr, Result.andThen]
  exact h v' w' h1 ((Below.refl B w).grown h2 hB (fun k hk => (World.ownsRow.lt hown k hk).1)) h2 h3
end Go.Proofs.YtfgopiopeidfmaaDoor
