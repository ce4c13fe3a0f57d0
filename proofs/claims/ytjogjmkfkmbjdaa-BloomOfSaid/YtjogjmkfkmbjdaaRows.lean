/-
  No cell of these rows narrows 'for every input' (looked for: loops, veiled, ifaces, maps, wideKeys, modest, calm, conditions, laid).
  DERIVED. THE GIVEN ROWS OF THIS SEAT. 4 by the template 'for every input the law returns true; each argument reads behind the call as it read before'; 0 by the template 'total and deterministic' (their statements: YtjogjmkfkmbjdaaTotals.lean).
  GIVEN WITH THE SEED: the statements are not yours to turn. If you find one false, say at which input.
  Laid BY PROGRAM, IN A SANDBOX (cutbox-rows.mjs): the forced cells as the released guide's own fill.sh prints them over the translation ff242284af9acf4b… (all of the seat's roots in one cut). By AI agents, Wed Nov 11 2026. No macro, syntax, notation, axiom, sorry.
-/
import Derived.Test.YtjogjmkfkmbjdaaChecked
import GoSem.Claim
import GoSem.ClaimJoined
import GoSem.ClaimMapViews
import Derived.JoinedTies
import Derived.KernelRfl
namespace Go.Proofs.Ytjogjmkfkmbjdaa
/- THE CELL 'sum', in the pinned program and in every row, IS THE sha256 OF THE DUMP (.gsa) THAT YtjogjmkfkmbjdaaProg.lean LOADS. Nothing in Lean hashes anything: it is a label: what it is worth is what the hold of that sum in a sandbox is worth. -/
noncomputable def Try.pinned : Pinned := { name := "ytjogjmkfkmbjdaa", sum := "ff242284af9acf4b90b7da7a6fe6e18eb7592e048f5a25ad783f866fc62aac0a", checked := Try.checked }
namespace Rows
def none {H : Type} : Left H := { results := [], args := [] }

/-- 'loggialaw09.BloomRuns': WHATEVER THE INPUT: true; the input reads as it did. -/
def bloomRunsSpec : ChangeSpec := { name := "bloomRuns", fn := fun _ => fun
  | [d1, d2, d3] => { results := [.lit (.bool true)], args := [d1, d2, d3] }
  | _ => none }
def bloomRunsRow : OpenClaim := { program := "ytjogjmkfkmbjdaa", sum := "ff242284af9acf4b90b7da7a6fe6e18eb7592e048f5a25ad783f866fc62aac0a", func := "loggia/loggialaw09.BloomRuns", spec := "bloomRuns", apart := false }
def BloomRunsSaid : Prop := bloomRunsRow.holds Try.pinned (OpenSpec.ofChange bloomRunsSpec)

/-- ITS FALSE NEIGHBOUR: 'it returns false'. Refute it at one input. -/
def bloomRunsWrong : ChangeSpec := { name := "bloomRuns", fn := fun _ => fun
  | [d1, d2, d3] => { results := [.lit (.bool false)], args := [d1, d2, d3] }
  | _ => none }
def BloomRunsWrongFalsely : Prop := bloomRunsRow.holds Try.pinned (OpenSpec.ofChange bloomRunsWrong)

/-- 'loggialaw09.BloomOf': WHATEVER THE INPUT: true; the input reads as it did. -/
def bloomOfSpec : ChangeSpec := { name := "bloomOf", fn := fun _ => fun
  | [d1, d2, d3] => { results := [.lit (.bool true)], args := [d1, d2, d3] }
  | _ => none }
def bloomOfRow : OpenClaim := { program := "ytjogjmkfkmbjdaa", sum := "ff242284af9acf4b90b7da7a6fe6e18eb7592e048f5a25ad783f866fc62aac0a", func := "loggia/loggialaw09.BloomOf", spec := "bloomOf", apart := false }
def BloomOfSaid : Prop := bloomOfRow.holds Try.pinned (OpenSpec.ofChange bloomOfSpec)

/-- ITS FALSE NEIGHBOUR: 'it returns false'. Refute it at one input. -/
def bloomOfWrong : ChangeSpec := { name := "bloomOf", fn := fun _ => fun
  | [d1, d2, d3] => { results := [.lit (.bool false)], args := [d1, d2, d3] }
  | _ => none }
def BloomOfWrongFalsely : Prop := bloomOfRow.holds Try.pinned (OpenSpec.ofChange bloomOfWrong)

/-- 'loggialaw09.BloomNever': WHATEVER THE INPUT: true; the input reads as it did. -/
def bloomNeverSpec : ChangeSpec := { name := "bloomNever", fn := fun _ => fun
  | [d1, d2] => { results := [.lit (.bool true)], args := [d1, d2] }
  | _ => none }
def bloomNeverRow : OpenClaim := { program := "ytjogjmkfkmbjdaa", sum := "ff242284af9acf4b90b7da7a6fe6e18eb7592e048f5a25ad783f866fc62aac0a", func := "loggia/loggialaw09.BloomNever", spec := "bloomNever", apart := false }
def BloomNeverSaid : Prop := bloomNeverRow.holds Try.pinned (OpenSpec.ofChange bloomNeverSpec)

/-- ITS FALSE NEIGHBOUR: 'it returns false'. Refute it at one input. -/
def bloomNeverWrong : ChangeSpec := { name := "bloomNever", fn := fun _ => fun
  | [d1, d2] => { results := [.lit (.bool false)], args := [d1, d2] }
  | _ => none }
def BloomNeverWrongFalsely : Prop := bloomNeverRow.holds Try.pinned (OpenSpec.ofChange bloomNeverWrong)

/-- 'loggialaw09.BloomNobody': WHATEVER THE INPUT: true; the input reads as it did. -/
def bloomNobodySpec : ChangeSpec := { name := "bloomNobody", fn := fun _ => fun
  | [d1, d2] => { results := [.lit (.bool true)], args := [d1, d2] }
  | _ => none }
def bloomNobodyRow : OpenClaim := { program := "ytjogjmkfkmbjdaa", sum := "ff242284af9acf4b90b7da7a6fe6e18eb7592e048f5a25ad783f866fc62aac0a", func := "loggia/loggialaw09.BloomNobody", spec := "bloomNobody", apart := false }
def BloomNobodySaid : Prop := bloomNobodyRow.holds Try.pinned (OpenSpec.ofChange bloomNobodySpec)

/-- ITS FALSE NEIGHBOUR: 'it returns false'. Refute it at one input. -/
def bloomNobodyWrong : ChangeSpec := { name := "bloomNobody", fn := fun _ => fun
  | [d1, d2] => { results := [.lit (.bool false)], args := [d1, d2] }
  | _ => none }
def BloomNobodyWrongFalsely : Prop := bloomNobodyRow.holds Try.pinned (OpenSpec.ofChange bloomNobodyWrong)

/- THE SECOND FORM. 'bulk': how many values and letters a reading holds, each counted each time it is reached (what is shared counts as often as it is met; a slice's spare places count too). A statement '..UptoSaid' is the law's where the arguments, and the package variables that the reading takes, are together of bulk at most 1048576: NARROWER than '..Said'. Prove '..Said' where nothing that the law and all that it calls make is longer than what came in: it says more and counts as full. Else prove '..UptoSaid'. A law counts once. -/
mutual
def uptoBulk {H : Type} : DataW H → Nat
  | .lit (.string bytes) => bytes.length + 1
  | .lit _ => 1
  | .nil => 1
  | .ptr d => uptoBulk d + 1
  | .slice elems spare => uptoBulkAll elems + uptoBulkAll spare + 1
  | .agg parts => uptoBulkAll parts + 1
  | .iface _ d => uptoBulk d + 1
  | .map entries => uptoBulkEntries entries + 1
  | .held _ => 1
def uptoBulkAll {H : Type} : List (DataW H) → Nat
  | [] => 0
  | d :: r => uptoBulk d + uptoBulkAll r
def uptoBulkEntries {H : Type} : List (Lit × DataW H) → Nat
  | [] => 0
  | x :: r => uptoBulkEntry x + uptoBulkEntries r
def uptoBulkEntry {H : Type} : Lit × DataW H → Nat
  | (.string bytes, d) => bytes.length + uptoBulk d + 1
  | (_, d) => uptoBulk d + 1
 end
def uptoSmall : (H : Type) → List (DataW H) → Bool := fun _ ds => decide (uptoBulkAll ds ≤ 1048576)
def OpenSpec.upto (s : _root_.Go.ChangeSpec) : _root_.Go.OpenSpec := { _root_.Go.OpenSpec.ofChange s with cond := some uptoSmall }

/-- 'loggialaw09.BloomRuns', WHERE WHAT IT READS IS OF BULK AT MOST 1048576: true; the input reads as it did. -/
def bloomRunsUptoRow : OpenClaim := { program := "ytjogjmkfkmbjdaa", sum := "ff242284af9acf4b90b7da7a6fe6e18eb7592e048f5a25ad783f866fc62aac0a", func := "loggia/loggialaw09.BloomRuns", spec := "bloomRuns", apart := false, narrowed := true }
def BloomRunsUptoSaid : Prop := bloomRunsUptoRow.holds Try.pinned (OpenSpec.upto bloomRunsSpec)

/-- 'loggialaw09.BloomOf', WHERE WHAT IT READS IS OF BULK AT MOST 1048576: true; the input reads as it did. -/
def bloomOfUptoRow : OpenClaim := { program := "ytjogjmkfkmbjdaa", sum := "ff242284af9acf4b90b7da7a6fe6e18eb7592e048f5a25ad783f866fc62aac0a", func := "loggia/loggialaw09.BloomOf", spec := "bloomOf", apart := false, narrowed := true }
def BloomOfUptoSaid : Prop := bloomOfUptoRow.holds Try.pinned (OpenSpec.upto bloomOfSpec)

/-- 'loggialaw09.BloomNever', WHERE WHAT IT READS IS OF BULK AT MOST 1048576: true; the input reads as it did. -/
def bloomNeverUptoRow : OpenClaim := { program := "ytjogjmkfkmbjdaa", sum := "ff242284af9acf4b90b7da7a6fe6e18eb7592e048f5a25ad783f866fc62aac0a", func := "loggia/loggialaw09.BloomNever", spec := "bloomNever", apart := false, narrowed := true }
def BloomNeverUptoSaid : Prop := bloomNeverUptoRow.holds Try.pinned (OpenSpec.upto bloomNeverSpec)

/-- 'loggialaw09.BloomNobody', WHERE WHAT IT READS IS OF BULK AT MOST 1048576: true; the input reads as it did. -/
def bloomNobodyUptoRow : OpenClaim := { program := "ytjogjmkfkmbjdaa", sum := "ff242284af9acf4b90b7da7a6fe6e18eb7592e048f5a25ad783f866fc62aac0a", func := "loggia/loggialaw09.BloomNobody", spec := "bloomNobody", apart := false, narrowed := true }
def BloomNobodyUptoSaid : Prop := bloomNobodyUptoRow.holds Try.pinned (OpenSpec.upto bloomNobodySpec)

end Rows
end Go.Proofs.Ytjogjmkfkmbjdaa
