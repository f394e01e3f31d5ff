/-
What the cards of stage 6 share: the laws as the cards call them.
-/
import Derived.Test.YtepafmoohlognaaKOpen
import Derived.Test.YtepafmoohlognaaKOrders
import Derived.Test.YtepafmoohlognaaKMeets
import Derived.Test.YtepafmoohlognaaKBytes
namespace Go.Proofs.Ytepafmoohlognaa
open Go.RowKit
theorem law_orders {E : World → Prop} (K : ClockOk E) (v : Value) (xs : List Nat) (u : Value) (ys : List Nat) (W : World) (h0 : RdU W v xs ∧ ∀ n ∈ xs, n < 18446744073709551616) (h1 : RdU W u ys ∧ ∀ n ∈ ys, n < 18446744073709551616) (hE : E W) :
    Calls Try.prog 3 #[v, u] W fun e w' => e = .returned (.bool true) ∧ Below W.heap.size W w' :=
  orders_any K xs ys v u h0.2 h1.2 W hE h0.1 h1.1
theorem law_meets {E : World → Prop} (K : ClockOk E) (v : Value) (ls : List (List Nat)) (u : Value) (cs : List Nat) (W : World) (h0 : RdC W v ls ∧ ∀ xs ∈ ls, ∀ x ∈ xs, x < 18446744073709551616) (h1 : RdU W u cs ∧ ∀ n ∈ cs, n < 18446744073709551616) (hE : E W) :
    Calls Try.prog 4 #[v, u] W fun e w' => e = .returned (.bool true) ∧ Below W.heap.size W w' :=
  meets_any K ls cs v u h0.2 h1.2 W hE h0.1 h1.1
theorem law_bytes {E : World → Prop} (K : ClockOk E) (J : ClockIO E) (v : Value) (ns : List Nat) (u : Value) (bs : List Nat) (W : World) (h0 : RdU W v ns ∧ ∀ n ∈ ns, n < 18446744073709551616) (h1 : Rd W u bs ∧ ∀ x ∈ bs, x < 256) (hE : E W) :
    Calls Try.prog 5 #[v, u] W fun e w' => e = .returned (.bool true) ∧ Below W.heap.size W w' :=
  kbytes_any K J ns bs v u h0.2 h1.2 W hE h0.1 h1.1
/-- Where nothing of the library's is listed. -/
abbrev AnyW : World → Prop := fun _ => True
theorem law_orders0 (K : ClockOk AnyW) (v : Value) (xs : List Nat) (u : Value) (ys : List Nat) (W : World) (h0 : RdU W v xs ∧ ∀ n ∈ xs, n < 18446744073709551616) (h1 : RdU W u ys ∧ ∀ n ∈ ys, n < 18446744073709551616) :
    Calls Try.prog 3 #[v, u] W fun e w' => e = .returned (.bool true) ∧ Below W.heap.size W w' :=
  law_orders K v xs u ys W h0 h1 trivial
theorem law_meets0 (K : ClockOk AnyW) (v : Value) (ls : List (List Nat)) (u : Value) (cs : List Nat) (W : World) (h0 : RdC W v ls ∧ ∀ xs ∈ ls, ∀ x ∈ xs, x < 18446744073709551616) (h1 : RdU W u cs ∧ ∀ n ∈ cs, n < 18446744073709551616) :
    Calls Try.prog 4 #[v, u] W fun e w' => e = .returned (.bool true) ∧ Below W.heap.size W w' :=
  law_meets K v ls u cs W h0 h1 trivial
theorem law_bytes0 (K : ClockOk AnyW) (J : ClockIO AnyW) (v : Value) (ns : List Nat) (u : Value) (bs : List Nat) (W : World) (h0 : RdU W v ns ∧ ∀ n ∈ ns, n < 18446744073709551616) (h1 : Rd W u bs ∧ ∀ x ∈ bs, x < 256) :
    Calls Try.prog 5 #[v, u] W fun e w' => e = .returned (.bool true) ∧ Below W.heap.size W w' :=
  law_bytes K J v ns u bs W h0 h1 trivial
end Go.Proofs.Ytepafmoohlognaa
