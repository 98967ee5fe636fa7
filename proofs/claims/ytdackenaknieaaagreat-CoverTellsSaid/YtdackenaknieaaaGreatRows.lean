/-
  No cell of these rows narrows 'for every input' (looked for: loops, veiled, ifaces, maps, wideKeys, modest, calm, conditions, laid).
  DERIVED. THE GIVEN ROWS OF THIS SEAT. 4 by the template 'for every input the law returns true; each argument reads behind the call as it read before'; 0 by the template 'total and deterministic' (their statements: YtdackenaknieaaaGreatTotals.lean).
  GIVEN WITH THE SEED: the statements are not yours to turn. If you find one false, say at which input.
  Laid BY PROGRAM, IN A SANDBOX (cutbox-rows.mjs): the forced cells as the released guide's own fill.sh prints them over the translation 3e5a42bc7a00720c… (all of the seat's roots in one cut). By AI agents, Wed Nov 11 2026. No macro, syntax, notation, axiom, sorry.
-/
import Derived.Test.YtdackenaknieaaaGreatChecked
import GoSem.Claim
import GoSem.ClaimJoined
import GoSem.ClaimMapViews
import Derived.JoinedTies
import Derived.KernelRfl
namespace Go.Proofs.YtdackenaknieaaaGreat
/- THE CELL 'sum', in the pinned program and in every row, IS THE sha256 OF THE DUMP (.gsa) THAT YtdackenaknieaaaGreatProg.lean LOADS. Nothing in Lean hashes anything: it is a label: what it is worth is what the hold of that sum in a sandbox is worth. -/
noncomputable def Tryz.pinned : Pinned := { name := "ytdackenaknieaaagreat", sum := "3e5a42bc7a00720c3f352195085f7cd7502d7ba2edd4efa3c9332ba05218d16f", checked := Tryz.checked }
namespace Rows
def none {H : Type} : Left H := { results := [], args := [] }

/-- 'octavolaw14.CoverNames': WHATEVER THE INPUT: true; the input reads as it did. -/
def coverNamesSpec : ChangeSpec := { name := "coverNames", fn := fun _ => fun
  | [] => { results := [.lit (.bool true)], args := [] }
  | _ => none }
def coverNamesRow : OpenClaim := { program := "ytdackenaknieaaagreat", sum := "3e5a42bc7a00720c3f352195085f7cd7502d7ba2edd4efa3c9332ba05218d16f", func := "octavo/octavolaw14.CoverNames", spec := "coverNames", unfollowed := true, recurses := true, plainKeys := false, apart := false }
def CoverNamesSaid : Prop := coverNamesRow.holds Tryz.pinned (OpenSpec.ofChange coverNamesSpec)

/-- ITS FALSE NEIGHBOUR: 'it returns false'. Refute it at one input. -/
def coverNamesWrong : ChangeSpec := { name := "coverNames", fn := fun _ => fun
  | [] => { results := [.lit (.bool false)], args := [] }
  | _ => none }
def CoverNamesWrongFalsely : Prop := coverNamesRow.holds Tryz.pinned (OpenSpec.ofChange coverNamesWrong)

/-- 'octavolaw14.CoverTells': WHATEVER THE INPUT: true; the input reads as it did. -/
def coverTellsSpec : ChangeSpec := { name := "coverTells", fn := fun _ => fun
  | [d1, d2] => { results := [.lit (.bool true)], args := [d1, d2] }
  | _ => none }
def coverTellsRow : OpenClaim := { program := "ytdackenaknieaaagreat", sum := "3e5a42bc7a00720c3f352195085f7cd7502d7ba2edd4efa3c9332ba05218d16f", func := "octavo/octavolaw14.CoverTells", spec := "coverTells", unfollowed := true, recurses := true, plainKeys := false, apart := false }
def CoverTellsSaid : Prop := coverTellsRow.holds Tryz.pinned (OpenSpec.ofChange coverTellsSpec)

/-- ITS FALSE NEIGHBOUR: 'it returns false'. Refute it at one input. -/
def coverTellsWrong : ChangeSpec := { name := "coverTells", fn := fun _ => fun
  | [d1, d2] => { results := [.lit (.bool false)], args := [d1, d2] }
  | _ => none }
def CoverTellsWrongFalsely : Prop := coverTellsRow.holds Tryz.pinned (OpenSpec.ofChange coverTellsWrong)

/-- 'octavolaw14.CoverClosed': WHATEVER THE INPUT: true; the input reads as it did. -/
def coverClosedSpec : ChangeSpec := { name := "coverClosed", fn := fun _ => fun
  | [d1, d2] => { results := [.lit (.bool true)], args := [d1, d2] }
  | _ => none }
def coverClosedRow : OpenClaim := { program := "ytdackenaknieaaagreat", sum := "3e5a42bc7a00720c3f352195085f7cd7502d7ba2edd4efa3c9332ba05218d16f", func := "octavo/octavolaw14.CoverClosed", spec := "coverClosed", unfollowed := true, recurses := true, plainKeys := false, apart := false }
def CoverClosedSaid : Prop := coverClosedRow.holds Tryz.pinned (OpenSpec.ofChange coverClosedSpec)

/-- ITS FALSE NEIGHBOUR: 'it returns false'. Refute it at one input. -/
def coverClosedWrong : ChangeSpec := { name := "coverClosed", fn := fun _ => fun
  | [d1, d2] => { results := [.lit (.bool false)], args := [d1, d2] }
  | _ => none }
def CoverClosedWrongFalsely : Prop := coverClosedRow.holds Tryz.pinned (OpenSpec.ofChange coverClosedWrong)

/-- 'octavolaw14.CoverGrows': WHATEVER THE INPUT: true; the input reads as it did. -/
def coverGrowsSpec : ChangeSpec := { name := "coverGrows", fn := fun _ => fun
  | [d1, d2, d3] => { results := [.lit (.bool true)], args := [d1, d2, d3] }
  | _ => none }
def coverGrowsRow : OpenClaim := { program := "ytdackenaknieaaagreat", sum := "3e5a42bc7a00720c3f352195085f7cd7502d7ba2edd4efa3c9332ba05218d16f", func := "octavo/octavolaw14.CoverGrows", spec := "coverGrows", inPlace := ["slices.overlaps[octavo/api.Op]"], unfollowed := true, recurses := true, plainKeys := false, apart := false }
def CoverGrowsSaid : Prop := coverGrowsRow.holds Tryz.pinned (OpenSpec.ofChange coverGrowsSpec)

/-- ITS FALSE NEIGHBOUR: 'it returns false'. Refute it at one input. -/
def coverGrowsWrong : ChangeSpec := { name := "coverGrows", fn := fun _ => fun
  | [d1, d2, d3] => { results := [.lit (.bool false)], args := [d1, d2, d3] }
  | _ => none }
def CoverGrowsWrongFalsely : Prop := coverGrowsRow.holds Tryz.pinned (OpenSpec.ofChange coverGrowsWrong)

/- THE SECOND FORM. 'bulk': how many values and letters a reading holds, each counted each time it is reached (what is shared counts as often as it is met; a slice's spare places count too). A statement '..UptoSaid' is the law's where the arguments, and the package variables that the reading takes, are together of bulk at most 1048576: NARROWER than '..Said'. Prove '..Said' where nothing that the law and all that it calls make is longer than what came in: it says more and counts as full. Else prove '..UptoSaid'. A law counts once. -/
mutual
def uptoBulk {H : Type} : DataW H → Nat
  | .lit (.string bytes) => bytes.length + 1
  | .lit _ => 1
  | .nil => 1
  | .ptr d => uptoBulk d + 1
  | .slice elems spare => uptoBulkAll elems + uptoBulkAll spare + 1
  | .agg parts => uptoBulkAll parts + 1
  | .iface _ d => uptoBulk d + 1
  | .map entries => uptoBulkEntries entries + 1
  | .held _ => 1
def uptoBulkAll {H : Type} : List (DataW H) → Nat
  | [] => 0
  | d :: r => uptoBulk d + uptoBulkAll r
def uptoBulkEntries {H : Type} : List (Lit × DataW H) → Nat
  | [] => 0
  | x :: r => uptoBulkEntry x + uptoBulkEntries r
def uptoBulkEntry {H : Type} : Lit × DataW H → Nat
  | (.string bytes, d) => bytes.length + uptoBulk d + 1
  | (_, d) => uptoBulk d + 1
 end
def uptoSmall : (H : Type) → List (DataW H) → Bool := fun _ ds => decide (uptoBulkAll ds ≤ 1048576)
def OpenSpec.upto (s : _root_.Go.ChangeSpec) : _root_.Go.OpenSpec := { _root_.Go.OpenSpec.ofChange s with cond := some uptoSmall }

/-- 'octavolaw14.CoverNames', WHERE WHAT IT READS IS OF BULK AT MOST 1048576: true; the input reads as it did. -/
def coverNamesUptoRow : OpenClaim := { program := "ytdackenaknieaaagreat", sum := "3e5a42bc7a00720c3f352195085f7cd7502d7ba2edd4efa3c9332ba05218d16f", func := "octavo/octavolaw14.CoverNames", spec := "coverNames", unfollowed := true, recurses := true, plainKeys := false, apart := false, narrowed := true }
def CoverNamesUptoSaid : Prop := coverNamesUptoRow.holds Tryz.pinned (OpenSpec.upto coverNamesSpec)

/-- 'octavolaw14.CoverTells', WHERE WHAT IT READS IS OF BULK AT MOST 1048576: true; the input reads as it did. -/
def coverTellsUptoRow : OpenClaim := { program := "ytdackenaknieaaagreat", sum := "3e5a42bc7a00720c3f352195085f7cd7502d7ba2edd4efa3c9332ba05218d16f", func := "octavo/octavolaw14.CoverTells", spec := "coverTells", unfollowed := true, recurses := true, plainKeys := false, apart := false, narrowed := true }
def CoverTellsUptoSaid : Prop := coverTellsUptoRow.holds Tryz.pinned (OpenSpec.upto coverTellsSpec)

/-- 'octavolaw14.CoverClosed', WHERE WHAT IT READS IS OF BULK AT MOST 1048576: true; the input reads as it did. -/
def coverClosedUptoRow : OpenClaim := { program := "ytdackenaknieaaagreat", sum := "3e5a42bc7a00720c3f352195085f7cd7502d7ba2edd4efa3c9332ba05218d16f", func := "octavo/octavolaw14.CoverClosed", spec := "coverClosed", unfollowed := true, recurses := true, plainKeys := false, apart := false, narrowed := true }
def CoverClosedUptoSaid : Prop := coverClosedUptoRow.holds Tryz.pinned (OpenSpec.upto coverClosedSpec)

/-- 'octavolaw14.CoverGrows', WHERE WHAT IT READS IS OF BULK AT MOST 1048576: true; the input reads as it did. -/
def coverGrowsUptoRow : OpenClaim := { program := "ytdackenaknieaaagreat", sum := "3e5a42bc7a00720c3f352195085f7cd7502d7ba2edd4efa3c9332ba05218d16f", func := "octavo/octavolaw14.CoverGrows", spec := "coverGrows", inPlace := ["slices.overlaps[octavo/api.Op]"], unfollowed := true, recurses := true, plainKeys := false, apart := false, narrowed := true }
def CoverGrowsUptoSaid : Prop := coverGrowsUptoRow.holds Tryz.pinned (OpenSpec.upto coverGrowsSpec)

end Rows
end Go.Proofs.YtdackenaknieaaaGreat
