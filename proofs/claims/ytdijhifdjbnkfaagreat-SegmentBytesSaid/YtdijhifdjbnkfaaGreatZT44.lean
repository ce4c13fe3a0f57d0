import Derived.Test.YtdijhifdjbnkfaaGreatZT6
import Derived.Lib.SliceRun
set_option maxRecDepth 100000
set_option maxHeartbeats 0
set_option linter.unusedVariables false
set_option linter.unusedSimpArgs false
namespace Go.Proofs.YtdijhifdjbnkfaaGreat
open Lib (hid)
open Tryz
namespace MM
open RowKit VP
theorem Zsu (w:World) (B:Nat) (a:B<=w.heap.size):Zd B (w.alloc (.cells #[] 5)) (.slice (some ⟨w.heap.size,0,none⟩) 0 0) []:=ZdN w [] 5 B a (by unfold maxLen;simp)
theorem ZrE (v:Value) (l:Xu) (w:World) (h:Zq w v l) (hl:l.length<=1000000000000):Calls prog 106 #[v] w (ZS w.heap.size l w):=by
 obtain ⟨p,x,rfl,m,_⟩:=h.shape;have hq:=fun (w:World) (a:Option Addr) (n c:Nat)=>Lib.run_eql_slice_nil (P:=prog) w 23 5 a n c 0 0 underlying23;cases p with
 | none =>
   have e:l=[]:=by
    obtain ⟨p',cap',g,h1,h2,r,h4⟩:=h;simp only [Value.slice.injEq] at g;obtain ⟨rfl,u,j⟩:=g;have:=r rfl;exact XO (by omega)
   subst e;have d:=hid (show ZS w.heap.size [] w (.returned (.slice none 0 0)) w from ⟨_,rfl,World.ownsRow_nil _ _ _ _,Below.refl _ _⟩);clear h;go_enter func106,ntmps106;go_wp2_with fail;go_ret;exact d.out
 | some a =>
   have i:=hid (Zsu w w.heap.size (Xc _));have k:=hid (fun o=>Zq.below h ((Below.refl w.heap.size w).alloc (Xc _) o));have q:=hid (fun o=>(Below.refl w.heap.size w).alloc (Xc _) o);clear h;go_enter func106,ntmps106;go_wp2_with (at_builtin;go_loud (refine Zg rfl _ _ rfl w.heap.size _ [] rfl i.out _ l rfl (k.out _) (by simp;omega) (by simp) ?_))
   intro t s b f;have d:=hid (show ZS w.heap.size l w (.returned t) s from ⟨_,rfl,b,(q.out _).trans f⟩);clear b f;go_wp2_with fail;go_ret;exact d.out
