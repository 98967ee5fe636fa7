/- A slice of bytes that came in: what it reads as. Conditions: none. -/
import Derived.Test.YtgeeaipdihlmhaaRows
import Derived.Test.YtgeeaipdihlmhaaBytes
import Derived.ProofKit
import Derived.SizedLaws
namespace Go.Proofs.Ytgeeaipdihlmhaa
open Go.ChangeShapes Go.WideShapes Go.ChangeAt Go.RowKit

theorem kit_own : ownKnob Try.prog.godebug = none := by kernel_rfl
theorem kit_laidOut : laidOutB Try.prog = true := by kernel_rfl
theorem kit_cells8 : Try.prog.cellsOf 5 = 1 := by kernel_rfl

end Go.Proofs.Ytgeeaipdihlmhaa
