import Derived.Test.YtdfibahafilklaaGreatDoorZB23
import Derived.Test.YtdfibahafilklaaGreatDoorZB38
set_option maxRecDepth 100000
set_option maxHeartbeats 8000000
set_option linter.unusedVariables false
set_option linter.unusedSimpArgs false
namespace Go.Proofs.YtdfibahafilklaaGreatDoor.EV
open Go Go.RowKit MM EM VM
def numSt (m:Nat) (l:List UInt8) (o:Bool):Nat×List UInt8×Bool:=if (getL l).2.2=0∧(getL l).1≤m then ((getL l).1,VG.restL l,o) else (0,[],true)
def timSt (l:List UInt8) (o:Bool):Int×List UInt8×Bool:=((getI l).1,VG.restL l,o||(getI l).2.2 != 0)
def txtSt (m:Int) (l:List UInt8) (o:Bool):List UInt8×List UInt8×Bool:=((getT l m).1,VG.restT l m,o||(getT l m).2.2 != 0)
def Rd (B:Nat) (w:World) (g:Nat) (l:List UInt8) (o:Bool):Prop:=∃ v,w.heap[g]? = some (.cells #[v,.bool o] 193 (0,0))∧BIn B w v l
theorem Rd.lt {B:Nat} {w:World} {g:Nat} {l:List UInt8} {o:Bool} (h:Rd B w g l o):g<w.heap.size:=by obtain ⟨v,h,_⟩:=h;exact (Array.getElem?_eq_some_iff.1 h).1
theorem Rd.keep {S:Nat→Prop} {B:Nat} {w w':World} {g:Nat} {l:List UInt8} {o:Bool} (h:Rd B w g l o) (hk:Kep S w w') (hg:S g) (hB:∀ k,k<B→S k) (hBs:B≤w.heap.size):Rd B w' g l o:=by
 have hl:=h.lt
 obtain ⟨v,h,hv⟩:=h
 exact ⟨v,(hk.block g hl hg).trans h,hv.below (hk.below hBs hB)⟩
theorem rd_set0 {B:Nat} {w w1:World} {g:Nat} {l m:List UInt8} {o:Bool} {v:Value} (h:Rd B w g l o) (hb:Below w.heap.size w w1) (hB:B≤g) (hv:BIn B w1 v m):Rd B (w1.setCell ⟨g,0,none⟩ v) g m o:=by
 obtain ⟨v0,h,_⟩:=h
 have hlt:=(Array.getElem?_eq_some_iff.1 h).1
 have h1:=heap_setCell_same w1 g 0 _ _ v ((hb.block g hlt).trans h)
 exact ⟨v,h1,hv.below ((Below.refl B w1).setCell (p:=⟨g,0,none⟩) hB v)⟩
theorem rd_set1 {B:Nat} {w w1:World} {g:Nat} {l m:List UInt8} {o:Bool} {v:Value} (h:Rd B w g l o) (hb:Below w.heap.size w w1) (hB:B≤g) (hv:BIn B w1 v m):Rd B ((w1.setCell ⟨g,0,none⟩ v).setCell ⟨g,1,none⟩ (.bool true)) g m true:=by
 obtain ⟨v0,h,_⟩:=h
 have hlt:=(Array.getElem?_eq_some_iff.1 h).1
 have h1:=heap_setCell_same w1 g 0 _ _ v ((hb.block g hlt).trans h)
 have h2:=heap_setCell_same _ g 1 _ _ (.bool true) h1
 exact ⟨v,h2,(hv.below ((Below.refl B w1).setCell (p:=⟨g,0,none⟩) hB v)).below ((Below.refl B _).setCell (p:=⟨g,1,none⟩) hB (.bool true))⟩
def Took (B g:Nat) (x:Value) (l:List UInt8) (o:Bool) (w:World) (e:Ending) (w':World):Prop:=e=.returned x∧Rd B w' g l o∧Kep (fun b=>b≠g) w w'
theorem goon_any (B g:Nat) (l m:List UInt8) (o:Bool) (v:Value) (er:Int) (w:World) (h:Rd B w g l o) (hB:B≤g) (hv:BIn B w v m) :
  Calls Tryz.prog 167 #[.pointer (some ⟨g,0,none⟩),v,.int .i64 er] w (Took B g (.tuple #[]) m (o||er != 0) w):=by
 have HR:=Lib.hid h
 have hlt:=h.lt
 obtain ⟨v0,hc,_⟩:=h
 have HV:=Lib.hid hv
 have f0:=cell_of_row w g 0 _ _ _ hc
 have f1:=cell_of_row w g 1 _ _ _ hc
 have f2:=frozen_of_row w g 0 _ _ hc
 have f3:=frozen_of_row w g 1 _ _ hc
 obtain ⟨p1,c1,rfl,_⟩:=hv.shape
 by_cases h0:er=0
 ·subst h0
  have t1:(o||((0:Int) != 0))=o:=by simp
  rw [t1]
  have HQ:=Lib.hid (show Took B g (.tuple #[]) m o w (.returned (.tuple #[])) (w.setCell ⟨g,0,none⟩ (.slice p1 m.length c1)) from ⟨rfl,rd_set0 HR.out (Below.refl _ _) hB HV.out,kep_set (by simp) _⟩)
  clear hv HV HR hc
  go_enter Tryz.func167,Tryz.ntmps167
  go_wp2_with fail
  refine bodyPost_end (results_none rfl _ _ _) rfl ?_
  exact HQ.out
 ·have t0:(er != 0)=true:=by rw [bne_iff_ne];exact h0
  have t1:(o||(er != 0))=true:=by rw [t0];simp
  rw [t1]
  have HQ:=Lib.hid (show Took B g (.tuple #[]) m true w (.returned (.tuple #[])) ((w.setCell ⟨g,0,none⟩ (.slice p1 m.length c1)).setCell ⟨g,1,none⟩ (.bool true)) from ⟨rfl,rd_set1 HR.out (Below.refl _ _) hB HV.out,(kep_set (by simp) _).trans (kep_set (by simp) _)⟩)
  clear hv HV HR hc
  go_enter Tryz.func167,Tryz.ntmps167
  go_wp2_with fail
  refine bodyPost_end (results_none rfl _ _ _) rfl ?_
  exact HQ.out
theorem time_any (B g:Nat) (l:List UInt8) (o:Bool) (w:World) (h:Rd B w g l o) (hB:B≤g) :
  Calls Tryz.prog 168 #[.pointer (some ⟨g,0,none⟩)] w (Took B g (.int .i64 (timSt l o).1) (timSt l o).2.1 (timSt l o).2.2 w):=by
 have HR:=Lib.hid h
 have hlt:=h.lt
 obtain ⟨v,hc,hv⟩:=h
 have f0:w.cell? ⟨g,0,none⟩=some v:=by rw [cell_of_row w g 0 _ _ _ hc];rfl
 have HG:=Lib.hid (VG.getint_in B v l w hv (Nat.le_of_lt (Nat.lt_of_le_of_lt hB hlt)))
 have HGO:=Lib.hid (fun m v er w1 (h1:Rd B w1 g l o) (h2:BIn B w1 v m)=>goon_any B g l m o v er w1 h1 hB h2)
 unfold timSt
 generalize (getI l).1=n at *
 generalize (getI l).2.2=er at *
 generalize VG.restL l=R at *
 have HBS:=Lib.hid (show B≤w.heap.size by omega)
 clear hv hc hlt
 go_enter Tryz.func168,Tryz.ntmps168
 go_wp2_with fail
 refine HG.out.mono ?_
 rintro e w1 ⟨v1,rfl,hv1,hb1⟩
 have hr1:=HR.out.keep (S:=fun _=>True) (kep_below _ hb1) trivial (fun _ _=>trivial) HBS.out
 have HQ:=Lib.hid (HGO.out R v1 er w1 hr1 hv1)
 have HB1:=Lib.hid hb1
 clear hv1 hb1 hr1 HG HGO
 go_wp2_with fail
 refine HQ.out.mono ?_
 rintro e w2 ⟨rfl,h2,k2⟩
 have H2:=Lib.hid h2
 have K2:=Lib.hid k2
 clear h2 k2 HQ
 go_wp2_with fail
 go_ret
 exact ⟨rfl,H2.out,(kep_below _ HB1.out).trans K2.out⟩
theorem text_any (B g:Nat) (most:Int) (l:List UInt8) (o:Bool) (w:World) (h0:0≤most) (h1:most≤9223372036854775807) (h:Rd B w g l o) (hB:B≤g) :
  Calls Tryz.prog 169 #[.pointer (some ⟨g,0,none⟩),.int .i64 most] w (Took B g (.string ⟨(txtSt most l o).1.toArray⟩) (txtSt most l o).2.1 (txtSt most l o).2.2 w):=by
 have HR:=Lib.hid h
 have hlt:=h.lt
 obtain ⟨v,hc,hv⟩:=h
 have f0:w.cell? ⟨g,0,none⟩=some v:=by rw [cell_of_row w g 0 _ _ _ hc];rfl
 have HG:=Lib.hid (VG.gettext_in B v l most w (by omega) h1 hv (Nat.le_of_lt (Nat.lt_of_le_of_lt hB hlt)))
 have HGO:=Lib.hid (fun m v er w1 (h1:Rd B w1 g l o) (h2:BIn B w1 v m)=>goon_any B g l m o v er w1 h1 hB h2)
 unfold txtSt
 dsimp only
 generalize (getT l most).1=n at *
 generalize (getT l most).2.2=er at *
 generalize VG.restT l most=R at *
 have HBS:=Lib.hid (show B≤w.heap.size by omega)
 clear hv hc hlt
 go_enter Tryz.func169,Tryz.ntmps169
 go_wp2_with fail
 refine HG.out.mono ?_
 rintro e w1 ⟨v1,rfl,hv1,hb1⟩
 have hr1:=HR.out.keep (S:=fun _=>True) (kep_below _ hb1) trivial (fun _ _=>trivial) HBS.out
 have HQ:=Lib.hid (HGO.out R v1 er w1 hr1 hv1)
 have HB1:=Lib.hid hb1
 clear hv1 hb1 hr1 HG HGO
 go_wp2_with fail
 refine HQ.out.mono ?_
 rintro e w2 ⟨rfl,h2,k2⟩
 have H2:=Lib.hid h2
 have K2:=Lib.hid k2
 clear h2 k2 HQ
 go_wp2_with fail
 go_ret
 exact ⟨rfl,H2.out,(kep_below _ HB1.out).trans K2.out⟩
theorem number_any (B g:Nat) (m:Nat) (l:List UInt8) (o:Bool) (w:World) (hm:m≤1099511627776) (h:Rd B w g l o) (hB:B≤g) :
  Calls Tryz.prog 133 #[.pointer (some ⟨g,0,none⟩),.int .i64 m] w (Took B g (.int .i64 (numSt m l o).1) (numSt m l o).2.1 (numSt m l o).2.2 w):=by
 have HR:=Lib.hid h
 have hlt:=h.lt
 obtain ⟨v,hc,hv⟩:=h
 have f0:w.cell? ⟨g,0,none⟩=some v:=by rw [cell_of_row w g 0 _ _ _ hc];rfl
 have HG:=Lib.hid (VG.get_in B v l w hv (Nat.le_of_lt (Nat.lt_of_le_of_lt hB hlt)))
 have HGO:=Lib.hid (fun m v er w1 (h1:Rd B w1 g l o) (h2:BIn B w1 v m)=>goon_any B g l m o v er w1 h1 hB h2)
 have hb:=getL_bounds l
 have herr:(getL l).2.2≠0→(getL l).1=0∧VG.restL l=[]:=fun he=>by
  refine ⟨?_,by unfold VG.restL;rw [if_neg he]⟩
  rcases hb.2.2.1 with e | e | e
  ·exact absurd e he
  ·rw [e]
  ·rw [e]
 have hn:=hb.1
 unfold numSt
 generalize (getL l).1=n at *
 generalize (getL l).2.2=er at *
 generalize VG.restL l=R at *
 have HBS:=Lib.hid (show B≤w.heap.size by omega)
 clear hv hc hlt hb
 by_cases hmn:n≤m
 ·have hst:(if er=0∧n≤m then (n,R,o) else (0,[],true))=(n,R,o||er != 0):=by
   by_cases h0:er=0
   ·subst h0
    rw [if_pos ⟨rfl,hmn⟩];simp
   ·rw [if_neg (fun h=>h0 h.1),(herr h0).1,(herr h0).2]
    have:(er != 0)=true:=by rw [bne_iff_ne];exact h0
    rw [this];simp
  rw [hst]
  have t1:decide ((n:Int)>(m:Int))=false:=decide_eq_false (by omega)
  have t2:IntKind.u64.wrap (m:Int)=(m:Int):=by rw [IntKind.wrap_u64];omega
  have t3:IntKind.i64.wrap (n:Int)=(n:Int):=by rw [IntKind.wrap_i64];omega
  dsimp only
  clear hst herr
  go_enter Tryz.func133,Tryz.ntmps133
  go_wp2_with fail
  refine HG.out.mono ?_
  rintro e w1 ⟨v1,rfl,hv1,hb1⟩
  have hr1:=HR.out.keep (S:=fun _=>True) (kep_below _ hb1) trivial (fun _ _=>trivial) HBS.out
  have HQ:=Lib.hid (HGO.out R v1 er w1 hr1 hv1)
  have HB1:=Lib.hid hb1
  clear hv1 hb1 hr1 HG HGO
  go_wp2_with fail
  refine HQ.out.mono ?_
  rintro e w2 ⟨rfl,h2,k2⟩
  have H2:=Lib.hid h2
  have K2:=Lib.hid k2
  clear h2 k2 HQ
  go_wp2_with fail
  go_ret
  exact ⟨rfl,H2.out,(kep_below _ HB1.out).trans K2.out⟩
 ·have hst:(if er=0∧n≤m then (n,R,o) else (0,[],true))=(0,[],true):=by rw [if_neg (fun h=>hmn h.2)]
  rw [hst]
  have t1:decide ((n:Int)>(m:Int))=true:=decide_eq_true (by omega)
  have t2:IntKind.u64.wrap (m:Int)=(m:Int):=by rw [IntKind.wrap_u64];omega
  dsimp only
  clear hst herr
  go_enter Tryz.func133,Tryz.ntmps133
  go_wp2_with fail
  refine HG.out.mono ?_
  rintro e w1 ⟨v1,rfl,hv1,hb1⟩
  have hr1:=HR.out.keep (S:=fun _=>True) (kep_below _ hb1) trivial (fun _ _=>trivial) HBS.out
  have HQ:=Lib.hid (HGO.out [] (.slice none 0 0) 100 w1 hr1 (BIn.nil_ _ _))
  have HB1:=Lib.hid hb1
  clear hv1 hb1 hr1 HG HGO
  go_wp2_with fail
  refine HQ.out.mono ?_
  rintro e w2 ⟨rfl,h2,k2⟩
  have h2':Rd B w2 g [] true:=by have:=h2;simpa using this
  have H2:=Lib.hid h2'
  have K2:=Lib.hid k2
  clear h2 h2' k2 HQ
  go_wp2_with fail
  go_ret
  exact ⟨rfl,H2.out,(kep_below _ HB1.out).trans K2.out⟩
end Go.Proofs.YtdfibahafilklaaGreatDoor.EV
