/- octavoref06.Under: what it answers. Conditions: the slice's cells are runs. -/
import Derived.Test.YtgeeaipdihlmhaaPlaceMath3
import Derived.Test.YtgeeaipdihlmhaaPlaceFn
import Derived.Deep.DeepCutAuto
namespace Go.Proofs.Ytgeeaipdihlmhaa.Place
open Go.RowKit Stamp
attribute [local go_sem ↓] Go.wp_at_zero Go.wp_at_succ
attribute [local go_sem] yielded_undef

end Go.Proofs.Ytgeeaipdihlmhaa.Place
