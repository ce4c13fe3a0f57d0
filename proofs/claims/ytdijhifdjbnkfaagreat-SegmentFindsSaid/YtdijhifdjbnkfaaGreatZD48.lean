import Derived.Test.YtdijhifdjbnkfaaGreatZD10
import Derived.Lib.SliceRun
set_option maxRecDepth 100000
set_option maxHeartbeats 8000000
set_option linter.unusedVariables false
set_option linter.unusedSimpArgs false
namespace Go.Proofs.YtdijhifdjbnkfaaGreat.MM
open Go.RowKit VP
theorem Zqb (w:World) (B:Nat) (hB:B≤w.heap.size):OwnB B (w.alloc (.cells #[] 5)) (.slice (some ⟨w.heap.size,0,none⟩) 0 0) []:=Zqg w [] 5 B hB (by unfold maxLen;simp)
theorem ZcH (v:Value) (l:List UInt8) (w:World) (h:BRow w v l) (hl:l.length≤1000000000000):Calls Tryz.prog 106 #[v] w (Zbg w.heap.size l w):=by
 obtain ⟨p,cap,rfl,hlc,_⟩:=h.shape
 have hq:=fun (w:World) (a:Option Addr) (n c:Nat)=>Lib.run_eql_slice_nil (P:=Tryz.prog) w 23 5 a n c 0 0 Tryz.underlying23
 cases p with
 | none =>
   have hl0:l=[]:=by
    obtain ⟨p',cap',hv,h1,h2,h3,h4⟩:=h
    simp only [Value.slice.injEq] at hv
    obtain ⟨rfl,hv2,hv3⟩:=hv
    have:=h3 rfl
    exact List.eq_nil_of_length_eq_zero (by omega)
   subst hl0
   have HF:=Lib.hid (show Zbg w.heap.size [] w (.returned (.slice none 0 0)) w from ⟨_,rfl,World.ownsRow_nil _ _ _ _,Below.refl _ _⟩)
   clear h
   go_enter Tryz.func106,Tryz.ntmps106
   go_wp2_with fail
   go_ret
   exact HF.out
 | some a =>
   have HO:=Lib.hid (Zqb w w.heap.size (Nat.le_refl _))
   have HR:=Lib.hid (fun o=>BRow.below h ((Below.refl w.heap.size w).alloc (Nat.le_refl _) o))
   have HB:=Lib.hid (fun o=>(Below.refl w.heap.size w).alloc (Nat.le_refl _) o)
   clear h
   go_enter Tryz.func106,Tryz.ntmps106
   go_wp2_with (at_builtin;go_loud (refine Zzn rfl _ _ rfl w.heap.size _ [] rfl HO.out _ l rfl (HR.out _) (by simp;omega) (by simp) ?_))
   intro v1 w1 hown hb
   have HF:=Lib.hid (show Zbg w.heap.size l w (.returned v1) w1 from ⟨_,rfl,hown,(HB.out _).trans hb⟩)
   clear hown hb
   go_wp2_with fail
   go_ret
   exact HF.out
end Go.Proofs.YtdijhifdjbnkfaaGreat.MM
