/-
  No cell of these rows narrows 'for every input' (looked for: loops, veiled, ifaces, maps, wideKeys, modest, calm, conditions, laid).
  DERIVED. THE GIVEN ROWS OF THIS SEAT. 6 by the template 'for every input the law returns true; each argument reads behind the call as it read before'; 0 by the template 'total and deterministic' (their statements: YtfhmleigceakjaaTotals.lean).
  GIVEN WITH THE SEED: the statements are not yours to turn. If you find one false, say at which input.
  Laid BY PROGRAM, IN A SANDBOX (cutbox-rows.mjs): the forced cells as the released guide's own fill.sh prints them over the translation 60d0593d91235c7c… (all of the seat's roots in one cut). By AI agents, Wed Nov 11 2026. No macro, syntax, notation, axiom, sorry.
-/
import Derived.Test.YtfhmleigceakjaaChecked
import GoSem.Claim
import GoSem.ClaimJoined
import GoSem.ClaimMapViews
import Derived.JoinedTies
import Derived.KernelRfl
namespace Go.Proofs.Ytfhmleigceakjaa
/- THE CELL 'sum', in the pinned program and in every row, IS THE sha256 OF THE DUMP (.gsa) THAT YtfhmleigceakjaaProg.lean LOADS. Nothing in Lean hashes anything: it is a label: what it is worth is what the hold of that sum in a sandbox is worth. -/
noncomputable def Try.pinned : Pinned := { name := "ytfhmleigceakjaa", sum := "60d0593d91235c7cb7dacb42e7ae82541770c0c2bbec78749039e3842be425e9", checked := Try.checked }
namespace Rows
def none {H : Type} : Left H := { results := [], args := [] }

/-- 'octavolaw06.PlaceNames': WHATEVER THE INPUT: true; the input reads as it did. -/
def placeNamesSpec : ChangeSpec := { name := "placeNames", fn := fun _ => fun
  | [] => { results := [.lit (.bool true)], args := [] }
  | _ => none }
def placeNamesRow : OpenClaim := { program := "ytfhmleigceakjaa", sum := "60d0593d91235c7cb7dacb42e7ae82541770c0c2bbec78749039e3842be425e9", func := "octavo/octavolaw06.PlaceNames", spec := "placeNames", apart := false }
def PlaceNamesSaid : Prop := placeNamesRow.holds Try.pinned (OpenSpec.ofChange placeNamesSpec)

/-- ITS FALSE NEIGHBOUR: 'it returns false'. Refute it at one input. -/
def placeNamesWrong : ChangeSpec := { name := "placeNames", fn := fun _ => fun
  | [] => { results := [.lit (.bool false)], args := [] }
  | _ => none }
def PlaceNamesWrongFalsely : Prop := placeNamesRow.holds Try.pinned (OpenSpec.ofChange placeNamesWrong)

/-- 'octavolaw06.PlaceTells': WHATEVER THE INPUT: true; the input reads as it did. -/
def placeTellsSpec : ChangeSpec := { name := "placeTells", fn := fun _ => fun
  | [d1, d2] => { results := [.lit (.bool true)], args := [d1, d2] }
  | _ => none }
def placeTellsRow : OpenClaim := { program := "ytfhmleigceakjaa", sum := "60d0593d91235c7cb7dacb42e7ae82541770c0c2bbec78749039e3842be425e9", func := "octavo/octavolaw06.PlaceTells", spec := "placeTells", apart := false }
def PlaceTellsSaid : Prop := placeTellsRow.holds Try.pinned (OpenSpec.ofChange placeTellsSpec)

/-- ITS FALSE NEIGHBOUR: 'it returns false'. Refute it at one input. -/
def placeTellsWrong : ChangeSpec := { name := "placeTells", fn := fun _ => fun
  | [d1, d2] => { results := [.lit (.bool false)], args := [d1, d2] }
  | _ => none }
def PlaceTellsWrongFalsely : Prop := placeTellsRow.holds Try.pinned (OpenSpec.ofChange placeTellsWrong)

/-- 'octavolaw06.PlaceUnder': WHATEVER THE INPUT: true; the input reads as it did. -/
def placeUnderSpec : ChangeSpec := { name := "placeUnder", fn := fun _ => fun
  | [d1, d2] => { results := [.lit (.bool true)], args := [d1, d2] }
  | _ => none }
def placeUnderRow : OpenClaim := { program := "ytfhmleigceakjaa", sum := "60d0593d91235c7cb7dacb42e7ae82541770c0c2bbec78749039e3842be425e9", func := "octavo/octavolaw06.PlaceUnder", spec := "placeUnder", apart := false }
def PlaceUnderSaid : Prop := placeUnderRow.holds Try.pinned (OpenSpec.ofChange placeUnderSpec)

/-- ITS FALSE NEIGHBOUR: 'it returns false'. Refute it at one input. -/
def placeUnderWrong : ChangeSpec := { name := "placeUnder", fn := fun _ => fun
  | [d1, d2] => { results := [.lit (.bool false)], args := [d1, d2] }
  | _ => none }
def PlaceUnderWrongFalsely : Prop := placeUnderRow.holds Try.pinned (OpenSpec.ofChange placeUnderWrong)

/-- 'octavolaw06.PlaceOrder': WHATEVER THE INPUT: true; the input reads as it did. -/
def placeOrderSpec : ChangeSpec := { name := "placeOrder", fn := fun _ => fun
  | [d1, d2, d3] => { results := [.lit (.bool true)], args := [d1, d2, d3] }
  | _ => none }
def placeOrderRow : OpenClaim := { program := "ytfhmleigceakjaa", sum := "60d0593d91235c7cb7dacb42e7ae82541770c0c2bbec78749039e3842be425e9", func := "octavo/octavolaw06.PlaceOrder", spec := "placeOrder", apart := false }
def PlaceOrderSaid : Prop := placeOrderRow.holds Try.pinned (OpenSpec.ofChange placeOrderSpec)

/-- ITS FALSE NEIGHBOUR: 'it returns false'. Refute it at one input. -/
def placeOrderWrong : ChangeSpec := { name := "placeOrder", fn := fun _ => fun
  | [d1, d2, d3] => { results := [.lit (.bool false)], args := [d1, d2, d3] }
  | _ => none }
def PlaceOrderWrongFalsely : Prop := placeOrderRow.holds Try.pinned (OpenSpec.ofChange placeOrderWrong)

/-- 'octavolaw06.PlaceChild': WHATEVER THE INPUT: true; the input reads as it did. -/
def placeChildSpec : ChangeSpec := { name := "placeChild", fn := fun _ => fun
  | [d1, d2, d3] => { results := [.lit (.bool true)], args := [d1, d2, d3] }
  | _ => none }
def placeChildRow : OpenClaim := { program := "ytfhmleigceakjaa", sum := "60d0593d91235c7cb7dacb42e7ae82541770c0c2bbec78749039e3842be425e9", func := "octavo/octavolaw06.PlaceChild", spec := "placeChild", apart := false }
def PlaceChildSaid : Prop := placeChildRow.holds Try.pinned (OpenSpec.ofChange placeChildSpec)

/-- ITS FALSE NEIGHBOUR: 'it returns false'. Refute it at one input. -/
def placeChildWrong : ChangeSpec := { name := "placeChild", fn := fun _ => fun
  | [d1, d2, d3] => { results := [.lit (.bool false)], args := [d1, d2, d3] }
  | _ => none }
def PlaceChildWrongFalsely : Prop := placeChildRow.holds Try.pinned (OpenSpec.ofChange placeChildWrong)

/-- 'octavolaw06.PlaceIds': WHATEVER THE INPUT: true; the input reads as it did. -/
def placeIdsSpec : ChangeSpec := { name := "placeIds", fn := fun _ => fun
  | [d] => { results := [.lit (.bool true)], args := [d] }
  | _ => none }
def placeIdsRow : OpenClaim := { program := "ytfhmleigceakjaa", sum := "60d0593d91235c7cb7dacb42e7ae82541770c0c2bbec78749039e3842be425e9", func := "octavo/octavolaw06.PlaceIds", spec := "placeIds", apart := false }
def PlaceIdsSaid : Prop := placeIdsRow.holds Try.pinned (OpenSpec.ofChange placeIdsSpec)

/-- ITS FALSE NEIGHBOUR: 'it returns false'. Refute it at one input. -/
def placeIdsWrong : ChangeSpec := { name := "placeIds", fn := fun _ => fun
  | [d] => { results := [.lit (.bool false)], args := [d] }
  | _ => none }
def PlaceIdsWrongFalsely : Prop := placeIdsRow.holds Try.pinned (OpenSpec.ofChange placeIdsWrong)

/- THE SECOND FORM. 'bulk': how many values and letters a reading holds, each counted each time it is reached (what is shared counts as often as it is met; a slice's spare places count too). A statement '..UptoSaid' is the law's where the arguments, and the package variables that the reading takes, are together of bulk at most 1048576: NARROWER than '..Said'. Prove '..Said' where nothing that the law and all that it calls make is longer than what came in: it says more and counts as full. Else prove '..UptoSaid'. A law counts once. -/
mutual
def uptoBulk {H : Type} : DataW H → Nat
  | .lit (.string bytes) => bytes.length + 1
  | .lit _ => 1
  | .nil => 1
  | .ptr d => uptoBulk d + 1
  | .slice elems spare => uptoBulkAll elems + uptoBulkAll spare + 1
  | .agg parts => uptoBulkAll parts + 1
  | .iface _ d => uptoBulk d + 1
  | .map entries => uptoBulkEntries entries + 1
  | .held _ => 1
def uptoBulkAll {H : Type} : List (DataW H) → Nat
  | [] => 0
  | d :: r => uptoBulk d + uptoBulkAll r
def uptoBulkEntries {H : Type} : List (Lit × DataW H) → Nat
  | [] => 0
  | x :: r => uptoBulkEntry x + uptoBulkEntries r
def uptoBulkEntry {H : Type} : Lit × DataW H → Nat
  | (.string bytes, d) => bytes.length + uptoBulk d + 1
  | (_, d) => uptoBulk d + 1
 end
def uptoSmall : (H : Type) → List (DataW H) → Bool := fun _ ds => decide (uptoBulkAll ds ≤ 1048576)
def OpenSpec.upto (s : _root_.Go.ChangeSpec) : _root_.Go.OpenSpec := { _root_.Go.OpenSpec.ofChange s with cond := some uptoSmall }

/-- 'octavolaw06.PlaceNames', WHERE WHAT IT READS IS OF BULK AT MOST 1048576: true; the input reads as it did. -/
def placeNamesUptoRow : OpenClaim := { program := "ytfhmleigceakjaa", sum := "60d0593d91235c7cb7dacb42e7ae82541770c0c2bbec78749039e3842be425e9", func := "octavo/octavolaw06.PlaceNames", spec := "placeNames", apart := false, narrowed := true }
def PlaceNamesUptoSaid : Prop := placeNamesUptoRow.holds Try.pinned (OpenSpec.upto placeNamesSpec)

/-- 'octavolaw06.PlaceTells', WHERE WHAT IT READS IS OF BULK AT MOST 1048576: true; the input reads as it did. -/
def placeTellsUptoRow : OpenClaim := { program := "ytfhmleigceakjaa", sum := "60d0593d91235c7cb7dacb42e7ae82541770c0c2bbec78749039e3842be425e9", func := "octavo/octavolaw06.PlaceTells", spec := "placeTells", apart := false, narrowed := true }
def PlaceTellsUptoSaid : Prop := placeTellsUptoRow.holds Try.pinned (OpenSpec.upto placeTellsSpec)

/-- 'octavolaw06.PlaceUnder', WHERE WHAT IT READS IS OF BULK AT MOST 1048576: true; the input reads as it did. -/
def placeUnderUptoRow : OpenClaim := { program := "ytfhmleigceakjaa", sum := "60d0593d91235c7cb7dacb42e7ae82541770c0c2bbec78749039e3842be425e9", func := "octavo/octavolaw06.PlaceUnder", spec := "placeUnder", apart := false, narrowed := true }
def PlaceUnderUptoSaid : Prop := placeUnderUptoRow.holds Try.pinned (OpenSpec.upto placeUnderSpec)

/-- 'octavolaw06.PlaceOrder', WHERE WHAT IT READS IS OF BULK AT MOST 1048576: true; the input reads as it did. -/
def placeOrderUptoRow : OpenClaim := { program := "ytfhmleigceakjaa", sum := "60d0593d91235c7cb7dacb42e7ae82541770c0c2bbec78749039e3842be425e9", func := "octavo/octavolaw06.PlaceOrder", spec := "placeOrder", apart := false, narrowed := true }
def PlaceOrderUptoSaid : Prop := placeOrderUptoRow.holds Try.pinned (OpenSpec.upto placeOrderSpec)

/-- 'octavolaw06.PlaceChild', WHERE WHAT IT READS IS OF BULK AT MOST 1048576: true; the input reads as it did. -/
def placeChildUptoRow : OpenClaim := { program := "ytfhmleigceakjaa", sum := "60d0593d91235c7cb7dacb42e7ae82541770c0c2bbec78749039e3842be425e9", func := "octavo/octavolaw06.PlaceChild", spec := "placeChild", apart := false, narrowed := true }
def PlaceChildUptoSaid : Prop := placeChildUptoRow.holds Try.pinned (OpenSpec.upto placeChildSpec)

/-- 'octavolaw06.PlaceIds', WHERE WHAT IT READS IS OF BULK AT MOST 1048576: true; the input reads as it did. -/
def placeIdsUptoRow : OpenClaim := { program := "ytfhmleigceakjaa", sum := "60d0593d91235c7cb7dacb42e7ae82541770c0c2bbec78749039e3842be425e9", func := "octavo/octavolaw06.PlaceIds", spec := "placeIds", apart := false, narrowed := true }
def PlaceIdsUptoSaid : Prop := placeIdsUptoRow.holds Try.pinned (OpenSpec.upto placeIdsSpec)

end Rows
end Go.Proofs.Ytfhmleigceakjaa
