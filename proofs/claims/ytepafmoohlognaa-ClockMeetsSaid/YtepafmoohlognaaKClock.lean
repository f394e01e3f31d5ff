/-
The contracts that the laws of stage 6 ask for.
-/
import Derived.Test.YtepafmoohlognaaKClkE
import Derived.Test.YtepafmoohlognaaKFrame
namespace Go.Proofs.Ytepafmoohlognaa
theorem clockOk : ClockOk AnyW := clock_ok AnyW (fun h _ => h)
theorem clockIO : ClockIO AnyW := clock_io AnyW
end Go.Proofs.Ytepafmoohlognaa
