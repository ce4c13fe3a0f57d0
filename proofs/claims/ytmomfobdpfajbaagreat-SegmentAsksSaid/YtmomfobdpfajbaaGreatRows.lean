/-
  No cell of these rows narrows 'for every input' (looked for: loops, veiled, ifaces, maps, wideKeys, modest, calm, conditions, laid).
  DERIVED. THE GIVEN ROWS OF THIS SEAT. 5 by the template 'for every input the law returns true; each argument reads behind the call as it read before'; 0 by the template 'total and deterministic' (their statements: YtmomfobdpfajbaaGreatTotals.lean).
  GIVEN WITH THE SEED: the statements are not yours to turn. If you find one false, say at which input.
  Laid BY PROGRAM, IN A SANDBOX (cutbox-rows.mjs): the forced cells as the released guide's own fill.sh prints them over the translation 3a5986e00f0aa1a0… (all of the seat's roots in one cut). By AI agents, Wed Nov 11 2026. No macro, syntax, notation, axiom, sorry.
-/
import Derived.Test.YtmomfobdpfajbaaGreatChecked
import GoSem.Claim
import GoSem.ClaimJoined
import GoSem.ClaimMapViews
import Derived.JoinedTies
import Derived.KernelRfl
namespace Go.Proofs.YtmomfobdpfajbaaGreat
/- THE CELL 'sum', in the pinned program and in every row, IS THE sha256 OF THE DUMP (.gsa) THAT YtmomfobdpfajbaaGreatProg.lean LOADS. Nothing in Lean hashes anything: it is a label: what it is worth is what the hold of that sum in a sandbox is worth. -/
noncomputable def Tryz.pinned : Pinned := { name := "ytmomfobdpfajbaagreat", sum := "3a5986e00f0aa1a0a05243bc6f62237736c07f68c88b7f8261ed612736e098a1", checked := Tryz.checked }
namespace Rows
def none {H : Type} : Left H := { results := [], args := [] }

/-- 'loggialaw13.SegmentBytes': WHATEVER THE INPUT: true; the input reads as it did. -/
def segmentBytesSpec : ChangeSpec := { name := "segmentBytes", fn := fun _ => fun
  | [d1, d2] => { results := [.lit (.bool true)], args := [d1, d2] }
  | _ => none }
def segmentBytesRow : OpenClaim := { program := "ytmomfobdpfajbaagreat", sum := "3a5986e00f0aa1a0a05243bc6f62237736c07f68c88b7f8261ed612736e098a1", func := "loggia/loggialaw13.SegmentBytes", spec := "segmentBytes", unfollowed := true, recurses := true, apart := false }
def SegmentBytesSaid : Prop := segmentBytesRow.holds Tryz.pinned (OpenSpec.ofChange segmentBytesSpec)

/-- ITS FALSE NEIGHBOUR: 'it returns false'. Refute it at one input. -/
def segmentBytesWrong : ChangeSpec := { name := "segmentBytes", fn := fun _ => fun
  | [d1, d2] => { results := [.lit (.bool false)], args := [d1, d2] }
  | _ => none }
def SegmentBytesWrongFalsely : Prop := segmentBytesRow.holds Tryz.pinned (OpenSpec.ofChange segmentBytesWrong)

/-- 'loggialaw13.SegmentAsks': WHATEVER THE INPUT: true; the input reads as it did. -/
def segmentAsksSpec : ChangeSpec := { name := "segmentAsks", fn := fun _ => fun
  | [d1, d2, d3, d4, d5] => { results := [.lit (.bool true)], args := [d1, d2, d3, d4, d5] }
  | _ => none }
def segmentAsksRow : OpenClaim := { program := "ytmomfobdpfajbaagreat", sum := "3a5986e00f0aa1a0a05243bc6f62237736c07f68c88b7f8261ed612736e098a1", func := "loggia/loggialaw13.SegmentAsks", spec := "segmentAsks", unfollowed := true, recurses := true, apart := false }
def SegmentAsksSaid : Prop := segmentAsksRow.holds Tryz.pinned (OpenSpec.ofChange segmentAsksSpec)

/-- ITS FALSE NEIGHBOUR: 'it returns false'. Refute it at one input. -/
def segmentAsksWrong : ChangeSpec := { name := "segmentAsks", fn := fun _ => fun
  | [d1, d2, d3, d4, d5] => { results := [.lit (.bool false)], args := [d1, d2, d3, d4, d5] }
  | _ => none }
def SegmentAsksWrongFalsely : Prop := segmentAsksRow.holds Tryz.pinned (OpenSpec.ofChange segmentAsksWrong)

/-- 'loggialaw13.SegmentBack': WHATEVER THE INPUT: true; the input reads as it did. -/
def segmentBackSpec : ChangeSpec := { name := "segmentBack", fn := fun _ => fun
  | [d1, d2] => { results := [.lit (.bool true)], args := [d1, d2] }
  | _ => none }
def segmentBackRow : OpenClaim := { program := "ytmomfobdpfajbaagreat", sum := "3a5986e00f0aa1a0a05243bc6f62237736c07f68c88b7f8261ed612736e098a1", func := "loggia/loggialaw13.SegmentBack", spec := "segmentBack", unfollowed := true, recurses := true, apart := false }
def SegmentBackSaid : Prop := segmentBackRow.holds Tryz.pinned (OpenSpec.ofChange segmentBackSpec)

/-- ITS FALSE NEIGHBOUR: 'it returns false'. Refute it at one input. -/
def segmentBackWrong : ChangeSpec := { name := "segmentBack", fn := fun _ => fun
  | [d1, d2] => { results := [.lit (.bool false)], args := [d1, d2] }
  | _ => none }
def SegmentBackWrongFalsely : Prop := segmentBackRow.holds Tryz.pinned (OpenSpec.ofChange segmentBackWrong)

/-- 'loggialaw13.SegmentFinds': WHATEVER THE INPUT: true; the input reads as it did. -/
def segmentFindsSpec : ChangeSpec := { name := "segmentFinds", fn := fun _ => fun
  | [d1, d2] => { results := [.lit (.bool true)], args := [d1, d2] }
  | _ => none }
def segmentFindsRow : OpenClaim := { program := "ytmomfobdpfajbaagreat", sum := "3a5986e00f0aa1a0a05243bc6f62237736c07f68c88b7f8261ed612736e098a1", func := "loggia/loggialaw13.SegmentFinds", spec := "segmentFinds", unfollowed := true, recurses := true, apart := false }
def SegmentFindsSaid : Prop := segmentFindsRow.holds Tryz.pinned (OpenSpec.ofChange segmentFindsSpec)

/-- ITS FALSE NEIGHBOUR: 'it returns false'. Refute it at one input. -/
def segmentFindsWrong : ChangeSpec := { name := "segmentFinds", fn := fun _ => fun
  | [d1, d2] => { results := [.lit (.bool false)], args := [d1, d2] }
  | _ => none }
def SegmentFindsWrongFalsely : Prop := segmentFindsRow.holds Tryz.pinned (OpenSpec.ofChange segmentFindsWrong)

/-- 'loggialaw13.SegmentNobody': WHATEVER THE INPUT: true; the input reads as it did. -/
def segmentNobodySpec : ChangeSpec := { name := "segmentNobody", fn := fun _ => fun
  | [d1, d2] => { results := [.lit (.bool true)], args := [d1, d2] }
  | _ => none }
def segmentNobodyRow : OpenClaim := { program := "ytmomfobdpfajbaagreat", sum := "3a5986e00f0aa1a0a05243bc6f62237736c07f68c88b7f8261ed612736e098a1", func := "loggia/loggialaw13.SegmentNobody", spec := "segmentNobody", unfollowed := true, recurses := true, apart := false }
def SegmentNobodySaid : Prop := segmentNobodyRow.holds Tryz.pinned (OpenSpec.ofChange segmentNobodySpec)

/-- ITS FALSE NEIGHBOUR: 'it returns false'. Refute it at one input. -/
def segmentNobodyWrong : ChangeSpec := { name := "segmentNobody", fn := fun _ => fun
  | [d1, d2] => { results := [.lit (.bool false)], args := [d1, d2] }
  | _ => none }
def SegmentNobodyWrongFalsely : Prop := segmentNobodyRow.holds Tryz.pinned (OpenSpec.ofChange segmentNobodyWrong)

/- THE SECOND FORM. 'bulk': how many values and letters a reading holds, each counted each time it is reached (what is shared counts as often as it is met; a slice's spare places count too). A statement '..UptoSaid' is the law's where the arguments, and the package variables that the reading takes, are together of bulk at most 1048576: NARROWER than '..Said'. Prove '..Said' where nothing that the law and all that it calls make is longer than what came in: it says more and counts as full. Else prove '..UptoSaid'. A law counts once. -/
mutual
def uptoBulk {H : Type} : DataW H → Nat
  | .lit (.string bytes) => bytes.length + 1
  | .lit _ => 1
  | .nil => 1
  | .ptr d => uptoBulk d + 1
  | .slice elems spare => uptoBulkAll elems + uptoBulkAll spare + 1
  | .agg parts => uptoBulkAll parts + 1
  | .iface _ d => uptoBulk d + 1
  | .map entries => uptoBulkEntries entries + 1
  | .held _ => 1
def uptoBulkAll {H : Type} : List (DataW H) → Nat
  | [] => 0
  | d :: r => uptoBulk d + uptoBulkAll r
def uptoBulkEntries {H : Type} : List (Lit × DataW H) → Nat
  | [] => 0
  | x :: r => uptoBulkEntry x + uptoBulkEntries r
def uptoBulkEntry {H : Type} : Lit × DataW H → Nat
  | (.string bytes, d) => bytes.length + uptoBulk d + 1
  | (_, d) => uptoBulk d + 1
 end
def uptoSmall : (H : Type) → List (DataW H) → Bool := fun _ ds => decide (uptoBulkAll ds ≤ 1048576)
def OpenSpec.upto (s : _root_.Go.ChangeSpec) : _root_.Go.OpenSpec := { _root_.Go.OpenSpec.ofChange s with cond := some uptoSmall }

/-- 'loggialaw13.SegmentBytes', WHERE WHAT IT READS IS OF BULK AT MOST 1048576: true; the input reads as it did. -/
def segmentBytesUptoRow : OpenClaim := { program := "ytmomfobdpfajbaagreat", sum := "3a5986e00f0aa1a0a05243bc6f62237736c07f68c88b7f8261ed612736e098a1", func := "loggia/loggialaw13.SegmentBytes", spec := "segmentBytes", unfollowed := true, recurses := true, apart := false, narrowed := true }
def SegmentBytesUptoSaid : Prop := segmentBytesUptoRow.holds Tryz.pinned (OpenSpec.upto segmentBytesSpec)

/-- 'loggialaw13.SegmentAsks', WHERE WHAT IT READS IS OF BULK AT MOST 1048576: true; the input reads as it did. -/
def segmentAsksUptoRow : OpenClaim := { program := "ytmomfobdpfajbaagreat", sum := "3a5986e00f0aa1a0a05243bc6f62237736c07f68c88b7f8261ed612736e098a1", func := "loggia/loggialaw13.SegmentAsks", spec := "segmentAsks", unfollowed := true, recurses := true, apart := false, narrowed := true }
def SegmentAsksUptoSaid : Prop := segmentAsksUptoRow.holds Tryz.pinned (OpenSpec.upto segmentAsksSpec)

/-- 'loggialaw13.SegmentBack', WHERE WHAT IT READS IS OF BULK AT MOST 1048576: true; the input reads as it did. -/
def segmentBackUptoRow : OpenClaim := { program := "ytmomfobdpfajbaagreat", sum := "3a5986e00f0aa1a0a05243bc6f62237736c07f68c88b7f8261ed612736e098a1", func := "loggia/loggialaw13.SegmentBack", spec := "segmentBack", unfollowed := true, recurses := true, apart := false, narrowed := true }
def SegmentBackUptoSaid : Prop := segmentBackUptoRow.holds Tryz.pinned (OpenSpec.upto segmentBackSpec)

/-- 'loggialaw13.SegmentFinds', WHERE WHAT IT READS IS OF BULK AT MOST 1048576: true; the input reads as it did. -/
def segmentFindsUptoRow : OpenClaim := { program := "ytmomfobdpfajbaagreat", sum := "3a5986e00f0aa1a0a05243bc6f62237736c07f68c88b7f8261ed612736e098a1", func := "loggia/loggialaw13.SegmentFinds", spec := "segmentFinds", unfollowed := true, recurses := true, apart := false, narrowed := true }
def SegmentFindsUptoSaid : Prop := segmentFindsUptoRow.holds Tryz.pinned (OpenSpec.upto segmentFindsSpec)

/-- 'loggialaw13.SegmentNobody', WHERE WHAT IT READS IS OF BULK AT MOST 1048576: true; the input reads as it did. -/
def segmentNobodyUptoRow : OpenClaim := { program := "ytmomfobdpfajbaagreat", sum := "3a5986e00f0aa1a0a05243bc6f62237736c07f68c88b7f8261ed612736e098a1", func := "loggia/loggialaw13.SegmentNobody", spec := "segmentNobody", unfollowed := true, recurses := true, apart := false, narrowed := true }
def SegmentNobodyUptoSaid : Prop := segmentNobodyUptoRow.holds Tryz.pinned (OpenSpec.upto segmentNobodySpec)

end Rows
end Go.Proofs.YtmomfobdpfajbaaGreat
