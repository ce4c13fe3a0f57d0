import Derived.Test.YtdfibahafilklaaGreatDoorZB32
import Derived.Test.YtdfibahafilklaaGreatDoorZB12
set_option maxRecDepth 100000
set_option maxHeartbeats 8000000
set_option linter.unusedVariables false
set_option linter.unusedSimpArgs false
namespace Go.Proofs.YtdfibahafilklaaGreatDoor.EV
open Go Go.RowKit MM EM
theorem fldE:Elem fldC Tryz.prog 85 84 32:=⟨Tryz.underlying85,by
 have h:(Tryz.prog.info? 84).map (fun i=>(i.zero,i.size,i.bytes))=some (some (.agg #[.string ⟨#[]⟩,.string ⟨#[]⟩]),2,32):=by kernel_rfl
 obtain ⟨i,h1,h2,h3,h4⟩:=info_parts h
 exact ⟨i,_,h1,h2,h3,h4,rfl⟩⟩
end Go.Proofs.YtdfibahafilklaaGreatDoor.EV
namespace Go.Proofs.YtdfibahafilklaaGreatDoor.EV
open Go Go.RowKit MM EM VM GB
open VP
def CodeLeft (l:List UInt8) (x:Int) (w:World) (e:Ending) (w':World):Prop:=∃ v,e=.returned (.tuple #[v,.int .i64 x])∧OwnB w.heap.size w' v l∧Below w.heap.size w w'
theorem own_none (B:Nat) (w:World):OwnB B w (.slice none 0 0) []:=World.ownsRow_nil _ _ _ _
end Go.Proofs.YtdfibahafilklaaGreatDoor.EV
namespace Go.Proofs.YtdfibahafilklaaGreatDoor.EV
open Go Go.RowKit MM EM VM GB
open VP
theorem grown_low {B:Nat} {wr w':World} {u u':Value} {L L':List UInt8} (hB:B≤wr.heap.size) (ho:OwnB B wr u L) (hg:Grown wr w' u u') (ho':OwnB 0 w' u' L'):OwnB B w' u' L'∧Below B wr w':=by
 have h1:∀ k,u.ownBlock=some k→B≤k:=fun k hk=>(World.ownsRow.lt ho k hk).1
 refine ⟨OwnB.from ho' fun k hk => ?_,hg.kep.below hB fun k hk e=>by have:=h1 k e;omega⟩
 rcases hg.2 k hk with e | e
 ·exact h1 k e
 ·omega
end Go.Proofs.YtdfibahafilklaaGreatDoor.EV
namespace Go.Proofs.YtdfibahafilklaaGreatDoor.MM
open Go Go.RowKit
variable {α : Type} {C : Codec α}
end Go.Proofs.YtdfibahafilklaaGreatDoor.MM
