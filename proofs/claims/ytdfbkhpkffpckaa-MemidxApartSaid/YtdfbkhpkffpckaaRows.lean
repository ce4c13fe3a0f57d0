/-
  No cell of these rows narrows 'for every input' (looked for: loops, veiled, ifaces, maps, wideKeys, modest, calm, conditions, laid).
  DERIVED. THE GIVEN ROWS OF THIS SEAT. 4 by the template 'for every input the law returns true; each argument reads behind the call as it read before'; 0 by the template 'total and deterministic' (their statements: YtdfbkhpkffpckaaTotals.lean).
  GIVEN WITH THE SEED: the statements are not yours to turn. If you find one false, say at which input.
  Laid BY PROGRAM, IN A SANDBOX (cutbox-rows.mjs): the forced cells as the released guide's own fill.sh prints them over the translation c4f62ebaa85efc8f… (all of the seat's roots in one cut). By AI agents, Wed Nov 11 2026. No macro, syntax, notation, axiom, sorry.
-/
import Derived.Test.YtdfbkhpkffpckaaChecked
import GoSem.Claim
import GoSem.ClaimJoined
import GoSem.ClaimMapViews
import Derived.JoinedTies
import Derived.KernelRfl
namespace Go.Proofs.Ytdfbkhpkffpckaa
/- THE CELL 'sum', in the pinned program and in every row, IS THE sha256 OF THE DUMP (.gsa) THAT YtdfbkhpkffpckaaProg.lean LOADS. Nothing in Lean hashes anything: it is a label: what it is worth is what the hold of that sum in a sandbox is worth. -/
noncomputable def Try.pinned : Pinned := { name := "ytdfbkhpkffpckaa", sum := "c4f62ebaa85efc8f2594658ea62580af6d583f8aa320279d12c41dd57ff1c164", checked := Try.checked }
namespace Rows
def none {H : Type} : Left H := { results := [], args := [] }

/-- 'loggialaw08.PostingForms': WHATEVER THE INPUT: true; the input reads as it did. -/
def postingFormsSpec : ChangeSpec := { name := "postingForms", fn := fun _ => fun
  | [d1, d2] => { results := [.lit (.bool true)], args := [d1, d2] }
  | _ => none }
def postingFormsRow : OpenClaim := { program := "ytdfbkhpkffpckaa", sum := "c4f62ebaa85efc8f2594658ea62580af6d583f8aa320279d12c41dd57ff1c164", func := "loggia/loggialaw08.PostingForms", spec := "postingForms", unfollowed := true, recurses := true, apart := false }
def PostingFormsSaid : Prop := postingFormsRow.holds Try.pinned (OpenSpec.ofChange postingFormsSpec)

/-- ITS FALSE NEIGHBOUR: 'it returns false'. Refute it at one input. -/
def postingFormsWrong : ChangeSpec := { name := "postingForms", fn := fun _ => fun
  | [d1, d2] => { results := [.lit (.bool false)], args := [d1, d2] }
  | _ => none }
def PostingFormsWrongFalsely : Prop := postingFormsRow.holds Try.pinned (OpenSpec.ofChange postingFormsWrong)

/-- 'loggialaw10.EventTerms': WHATEVER THE INPUT: true; the input reads as it did. -/
def eventTermsSpec : ChangeSpec := { name := "eventTerms", fn := fun _ => fun
  | [d] => { results := [.lit (.bool true)], args := [d] }
  | _ => none }
def eventTermsRow : OpenClaim := { program := "ytdfbkhpkffpckaa", sum := "c4f62ebaa85efc8f2594658ea62580af6d583f8aa320279d12c41dd57ff1c164", func := "loggia/loggialaw10.EventTerms", spec := "eventTerms", unfollowed := true, recurses := true, apart := false }
def EventTermsSaid : Prop := eventTermsRow.holds Try.pinned (OpenSpec.ofChange eventTermsSpec)

/-- ITS FALSE NEIGHBOUR: 'it returns false'. Refute it at one input. -/
def eventTermsWrong : ChangeSpec := { name := "eventTerms", fn := fun _ => fun
  | [d] => { results := [.lit (.bool false)], args := [d] }
  | _ => none }
def EventTermsWrongFalsely : Prop := eventTermsRow.holds Try.pinned (OpenSpec.ofChange eventTermsWrong)

/-- 'loggialaw14.MemidxAdds': WHATEVER THE INPUT: true; the input reads as it did. -/
def memidxAddsSpec : ChangeSpec := { name := "memidxAdds", fn := fun _ => fun
  | [d1, d2] => { results := [.lit (.bool true)], args := [d1, d2] }
  | _ => none }
def memidxAddsRow : OpenClaim := { program := "ytdfbkhpkffpckaa", sum := "c4f62ebaa85efc8f2594658ea62580af6d583f8aa320279d12c41dd57ff1c164", func := "loggia/loggialaw14.MemidxAdds", spec := "memidxAdds", unfollowed := true, recurses := true, apart := false }
def MemidxAddsSaid : Prop := memidxAddsRow.holds Try.pinned (OpenSpec.ofChange memidxAddsSpec)

/-- ITS FALSE NEIGHBOUR: 'it returns false'. Refute it at one input. -/
def memidxAddsWrong : ChangeSpec := { name := "memidxAdds", fn := fun _ => fun
  | [d1, d2] => { results := [.lit (.bool false)], args := [d1, d2] }
  | _ => none }
def MemidxAddsWrongFalsely : Prop := memidxAddsRow.holds Try.pinned (OpenSpec.ofChange memidxAddsWrong)

/-- 'loggialaw14.MemidxApart': WHATEVER THE INPUT: true; the input reads as it did. -/
def memidxApartSpec : ChangeSpec := { name := "memidxApart", fn := fun _ => fun
  | [d1, d2] => { results := [.lit (.bool true)], args := [d1, d2] }
  | _ => none }
def memidxApartRow : OpenClaim := { program := "ytdfbkhpkffpckaa", sum := "c4f62ebaa85efc8f2594658ea62580af6d583f8aa320279d12c41dd57ff1c164", func := "loggia/loggialaw14.MemidxApart", spec := "memidxApart", unfollowed := true, recurses := true, apart := false }
def MemidxApartSaid : Prop := memidxApartRow.holds Try.pinned (OpenSpec.ofChange memidxApartSpec)

/-- ITS FALSE NEIGHBOUR: 'it returns false'. Refute it at one input. -/
def memidxApartWrong : ChangeSpec := { name := "memidxApart", fn := fun _ => fun
  | [d1, d2] => { results := [.lit (.bool false)], args := [d1, d2] }
  | _ => none }
def MemidxApartWrongFalsely : Prop := memidxApartRow.holds Try.pinned (OpenSpec.ofChange memidxApartWrong)

/- THE SECOND FORM. 'bulk': how many values and letters a reading holds, each counted each time it is reached (what is shared counts as often as it is met; a slice's spare places count too). A statement '..UptoSaid' is the law's where the arguments, and the package variables that the reading takes, are together of bulk at most 1048576: NARROWER than '..Said'. Prove '..Said' where nothing that the law and all that it calls make is longer than what came in: it says more and counts as full. Else prove '..UptoSaid'. A law counts once. -/
mutual
def uptoBulk {H : Type} : DataW H → Nat
  | .lit (.string bytes) => bytes.length + 1
  | .lit _ => 1
  | .nil => 1
  | .ptr d => uptoBulk d + 1
  | .slice elems spare => uptoBulkAll elems + uptoBulkAll spare + 1
  | .agg parts => uptoBulkAll parts + 1
  | .iface _ d => uptoBulk d + 1
  | .map entries => uptoBulkEntries entries + 1
  | .held _ => 1
def uptoBulkAll {H : Type} : List (DataW H) → Nat
  | [] => 0
  | d :: r => uptoBulk d + uptoBulkAll r
def uptoBulkEntries {H : Type} : List (Lit × DataW H) → Nat
  | [] => 0
  | x :: r => uptoBulkEntry x + uptoBulkEntries r
def uptoBulkEntry {H : Type} : Lit × DataW H → Nat
  | (.string bytes, d) => bytes.length + uptoBulk d + 1
  | (_, d) => uptoBulk d + 1
 end
def uptoSmall : (H : Type) → List (DataW H) → Bool := fun _ ds => decide (uptoBulkAll ds ≤ 1048576)
def OpenSpec.upto (s : _root_.Go.ChangeSpec) : _root_.Go.OpenSpec := { _root_.Go.OpenSpec.ofChange s with cond := some uptoSmall }

/-- 'loggialaw08.PostingForms', WHERE WHAT IT READS IS OF BULK AT MOST 1048576: true; the input reads as it did. -/
def postingFormsUptoRow : OpenClaim := { program := "ytdfbkhpkffpckaa", sum := "c4f62ebaa85efc8f2594658ea62580af6d583f8aa320279d12c41dd57ff1c164", func := "loggia/loggialaw08.PostingForms", spec := "postingForms", unfollowed := true, recurses := true, apart := false, narrowed := true }
def PostingFormsUptoSaid : Prop := postingFormsUptoRow.holds Try.pinned (OpenSpec.upto postingFormsSpec)

/-- 'loggialaw10.EventTerms', WHERE WHAT IT READS IS OF BULK AT MOST 1048576: true; the input reads as it did. -/
def eventTermsUptoRow : OpenClaim := { program := "ytdfbkhpkffpckaa", sum := "c4f62ebaa85efc8f2594658ea62580af6d583f8aa320279d12c41dd57ff1c164", func := "loggia/loggialaw10.EventTerms", spec := "eventTerms", unfollowed := true, recurses := true, apart := false, narrowed := true }
def EventTermsUptoSaid : Prop := eventTermsUptoRow.holds Try.pinned (OpenSpec.upto eventTermsSpec)

/-- 'loggialaw14.MemidxAdds', WHERE WHAT IT READS IS OF BULK AT MOST 1048576: true; the input reads as it did. -/
def memidxAddsUptoRow : OpenClaim := { program := "ytdfbkhpkffpckaa", sum := "c4f62ebaa85efc8f2594658ea62580af6d583f8aa320279d12c41dd57ff1c164", func := "loggia/loggialaw14.MemidxAdds", spec := "memidxAdds", unfollowed := true, recurses := true, apart := false, narrowed := true }
def MemidxAddsUptoSaid : Prop := memidxAddsUptoRow.holds Try.pinned (OpenSpec.upto memidxAddsSpec)

/-- 'loggialaw14.MemidxApart', WHERE WHAT IT READS IS OF BULK AT MOST 1048576: true; the input reads as it did. -/
def memidxApartUptoRow : OpenClaim := { program := "ytdfbkhpkffpckaa", sum := "c4f62ebaa85efc8f2594658ea62580af6d583f8aa320279d12c41dd57ff1c164", func := "loggia/loggialaw14.MemidxApart", spec := "memidxApart", unfollowed := true, recurses := true, apart := false, narrowed := true }
def MemidxApartUptoSaid : Prop := memidxApartUptoRow.holds Try.pinned (OpenSpec.upto memidxApartSpec)

end Rows
end Go.Proofs.Ytdfbkhpkffpckaa
