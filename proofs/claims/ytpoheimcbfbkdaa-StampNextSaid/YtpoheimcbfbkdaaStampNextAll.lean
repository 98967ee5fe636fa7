/- StampNext answers true, and changes nothing that was there: all cases. Conditions: the slice's cells are stamps. -/
import Derived.Test.YtpoheimcbfbkdaaStampNextLaw
namespace Go.Proofs.Ytpoheimcbfbkdaa.Stamp
open Go.RowKit

theorem nextAll_walk (r : Nat) (hr : r < 256) (ao : Option Addr) (cap : Nat) (l : List Id) (w : World) (hv : Ids w (.slice ao l.length cap) l) :
    Calls Try.prog 6 #[.int .u8 (r : Int), .slice ao l.length cap] w fun e w' => e = .returned (.bool true) ∧ Below w.heap.size w w' := by
  by_cases h1 : 1024 < l.length
  · exact nextLaw_bad r hr ao cap l w hv ⟨4, next_many h1, by decide⟩
  by_cases h2 : 8 ≤ r
  · exact nextLaw_bad r hr ao cap l w hv ⟨8, next_r h1 h2, by decide⟩
  by_cases h3 : Fine l
  · by_cases h4 : top l = 1073741824
    · exact nextLaw_bad r hr ao cap l w hv ⟨50, next_time h1 h2 h3 h4, by decide⟩
    · exact nextLaw_ok r (by omega) ao cap l w hv h1 h3 h4
  · exact nextLaw_bad r hr ao cap l w hv ⟨8, next_bad h1 h3, by decide⟩
end Go.Proofs.Ytpoheimcbfbkdaa.Stamp
