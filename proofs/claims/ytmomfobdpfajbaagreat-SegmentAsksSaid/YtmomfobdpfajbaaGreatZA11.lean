import Derived.Test.YtmomfobdpfajbaaGreatZA10
import Derived.Lib.SliceRun
set_option maxRecDepth 100000
set_option maxHeartbeats 0
set_option linter.unusedVariables false
set_option linter.unusedSimpArgs false
namespace Go.Proofs.YtmomfobdpfajbaaGreat
open Tryz
namespace VG
open RowKit MM VM
end VG
namespace MM
open RowKit VP
theorem ZsY (w:World) (B:Nat) (a:B<=w.heap.size):Zd B (w.alloc (.cells #[] 5)) (.slice (some ⟨w.heap.size,0,none⟩) 0 0) []:=ZdO w [] 5 B a (by unfold maxLen;simp)
theorem Zr9 (v:Value) (l:Xu) (w:World) (h:Zv w v l) (hl:l.length<=1000000000000):Calls prog 106 #[v] w (ZV w.heap.size l w):=by
 obtain ⟨p,x,rfl,m,_⟩:=h.shape;have hq:=fun (w:World) (a:Option Addr) (n c:Nat)=>Lib.run_eql_slice_nil (P:=prog) w 23 5 a n c 0 0 underlying23;cases p with
 | none =>
   have d:l=[]:=by
    obtain ⟨p',cap',g,h1,h2,r,h4⟩:=h;simp only [Value.slice.injEq] at g;obtain ⟨rfl,j,t⟩:=g;have:=r rfl;exact XP (by omega)
   subst d;have e:=Y4 (show ZV w.heap.size [] w (.returned (.slice none 0 0)) w from ⟨_,rfl,World.ownsRow_nil _ _ _ _,Below.refl _ _⟩);clear h;go_enter func106,ntmps106;go_wp2_with fail;go_ret;exact e.z
 | some a =>
   have i:=Y4 (ZsY w w.heap.size (Xa _));have u:=Y4 (fun o=>Zv.below h ((Below.refl w.heap.size w).alloc (Xa _) o));have k:=Y4 (fun o=>(Below.refl w.heap.size w).alloc (Xa _) o);clear h;go_enter func106,ntmps106;go_wp2_with (at_builtin;go_loud (refine Zh rfl _ _ rfl w.heap.size _ [] rfl i.z _ l rfl (u.z _) (by simp;omega) (by simp) ?_))
   intro q s b f;have e:=Y4 (show ZV w.heap.size l w (.returned q) s from ⟨_,rfl,b,(k.z _).trans f⟩);clear b f;go_wp2_with fail;go_ret;exact e.z
