import Derived.Test.YtdfibahafilklaaGreatDoorZC33
import Derived.Test.YtdfibahafilklaaGreatDoorZC28
set_option maxRecDepth 100000
set_option maxHeartbeats 8000000
set_option linter.unusedVariables false
set_option linter.unusedSimpArgs false
namespace Go.Proofs.YtdfibahafilklaaGreatDoor.EV
open Go Go.RowKit MM EM VM
def numSt (m:Nat) (l:List UInt8) (o:Bool):Nat×List UInt8×Bool:=if (getL l).2.2=0∧(getL l).1≤m then ((getL l).1,VG.restL l,o) else (0,[],true)
def timSt (l:List UInt8) (o:Bool):Int×List UInt8×Bool:=((getI l).1,VG.restL l,o||(getI l).2.2 != 0)
def txtSt (m:Int) (l:List UInt8) (o:Bool):List UInt8×List UInt8×Bool:=((getT l m).1,VG.restT l m,o||(getT l m).2.2 != 0)
def Rd (B:Nat) (w:World) (g:Nat) (l:List UInt8) (o:Bool):Prop:=∃ v,w.heap[g]? = some (.cells #[v,.bool o] 193 (0,0))∧BIn B w v l
theorem Rd.lt {B:Nat} {w:World} {g:Nat} {l:List UInt8} {o:Bool} (h:Rd B w g l o):g<w.heap.size:=by obtain ⟨v,h,_⟩:=h;exact (Array.getElem?_eq_some_iff.1 h).1
theorem Rd.keep {S:Nat→Prop} {B:Nat} {w w':World} {g:Nat} {l:List UInt8} {o:Bool} (h:Rd B w g l o) (hk:Kep S w w') (hg:S g) (hB:∀ k,k<B→S k) (hBs:B≤w.heap.size):Rd B w' g l o:=by
 have hl:=h.lt
 obtain ⟨v,h,hv⟩:=h
 exact ⟨v,(hk.block g hl hg).trans h,hv.below (hk.below hBs hB)⟩
theorem rd_set0 {B:Nat} {w w1:World} {g:Nat} {l m:List UInt8} {o:Bool} {v:Value} (h:Rd B w g l o) (hb:Below w.heap.size w w1) (hB:B≤g) (hv:BIn B w1 v m):Rd B (w1.setCell ⟨g,0,none⟩ v) g m o:=by
 obtain ⟨v0,h,_⟩:=h
 have hlt:=(Array.getElem?_eq_some_iff.1 h).1
 have h1:=heap_setCell_same w1 g 0 _ _ v ((hb.block g hlt).trans h)
 exact ⟨v,h1,hv.below ((Below.refl B w1).setCell (p:=⟨g,0,none⟩) hB v)⟩
theorem rd_set1 {B:Nat} {w w1:World} {g:Nat} {l m:List UInt8} {o:Bool} {v:Value} (h:Rd B w g l o) (hb:Below w.heap.size w w1) (hB:B≤g) (hv:BIn B w1 v m):Rd B ((w1.setCell ⟨g,0,none⟩ v).setCell ⟨g,1,none⟩ (.bool true)) g m true:=by
 obtain ⟨v0,h,_⟩:=h
 have hlt:=(Array.getElem?_eq_some_iff.1 h).1
 have h1:=heap_setCell_same w1 g 0 _ _ v ((hb.block g hlt).trans h)
 have h2:=heap_setCell_same _ g 1 _ _ (.bool true) h1
 exact ⟨v,h2,(hv.below ((Below.refl B w1).setCell (p:=⟨g,0,none⟩) hB v)).below ((Below.refl B _).setCell (p:=⟨g,1,none⟩) hB (.bool true))⟩
def Took (B g:Nat) (x:Value) (l:List UInt8) (o:Bool) (w:World) (e:Ending) (w':World):Prop:=e=.returned x∧Rd B w' g l o∧Kep (fun b=>b≠g) w w'
theorem goon_any (B g:Nat) (l m:List UInt8) (o:Bool) (v:Value) (er:Int) (w:World) (h:Rd B w g l o) (hB:B≤g) (hv:BIn B w v m) :
  Calls Tryz.prog 167 #[.pointer (some ⟨g,0,none⟩),v,.int .i64 er] w (Took B g (.tuple #[]) m (o||er != 0) w):=by
 have HR:=Lib.hid h
 have hlt:=h.lt
 obtain ⟨v0,hc,_⟩:=h
 have HV:=Lib.hid hv
 have f0:=cell_of_row w g 0 _ _ _ hc
 have f1:=cell_of_row w g 1 _ _ _ hc
 have f2:=frozen_of_row w g 0 _ _ hc
 have f3:=frozen_of_row w g 1 _ _ hc
 obtain ⟨p1,c1,rfl,_⟩:=hv.shape
 by_cases h0:er=0
 ·subst h0
  have t1:(o||((0:Int) != 0))=o:=by simp
  rw [t1]
  have HQ:=Lib.hid (show Took B g (.tuple #[]) m o w (.returned (.tuple #[])) (w.setCell ⟨g,0,none⟩ (.slice p1 m.length c1)) from ⟨rfl,rd_set0 HR.out (Below.refl _ _) hB HV.out,kep_set (by simp) _⟩)
  clear hv HV HR hc
  go_enter Tryz.func167,Tryz.ntmps167
  go_wp2_with fail
  refine bodyPost_end (results_none rfl _ _ _) rfl ?_
  exact HQ.out
 ·have t0:(er != 0)=true:=by rw [bne_iff_ne];exact h0
  have t1:(o||(er != 0))=true:=by rw [t0];simp
  rw [t1]
  have HQ:=Lib.hid (show Took B g (.tuple #[]) m true w (.returned (.tuple #[])) ((w.setCell ⟨g,0,none⟩ (.slice p1 m.length c1)).setCell ⟨g,1,none⟩ (.bool true)) from ⟨rfl,rd_set1 HR.out (Below.refl _ _) hB HV.out,(kep_set (by simp) _).trans (kep_set (by simp) _)⟩)
  clear hv HV HR hc
  go_enter Tryz.func167,Tryz.ntmps167
  go_wp2_with fail
  refine bodyPost_end (results_none rfl _ _ _) rfl ?_
  exact HQ.out
theorem time_any (B g:Nat) (l:List UInt8) (o:Bool) (w:World) (h:Rd B w g l o) (hB:B≤g) :
  Calls Tryz.prog 168 #[.pointer (some ⟨g,0,none⟩)] w (Took B g (.int .i64 (timSt l o).1) (timSt l o).2.1 (timSt l o).2.2 w):=by
 have HR:=Lib.hid h
 have hlt:=h.lt
 obtain ⟨v,hc,hv⟩:=h
 have f0:w.cell? ⟨g,0,none⟩=some v:=by rw [cell_of_row w g 0 _ _ _ hc];rfl
 have HG:=Lib.hid (VG.getint_in B v l w hv (Nat.le_of_lt (Nat.lt_of_le_of_lt hB hlt)))
 have HGO:=Lib.hid (fun m v er w1 (h1:Rd B w1 g l o) (h2:BIn B w1 v m)=>goon_any B g l m o v er w1 h1 hB h2)
 unfold timSt
 generalize (getI l).1=n at *
 generalize (getI l).2.2=er at *
 generalize VG.restL l=R at *
 have HBS:=Lib.hid (show B≤w.heap.size by omega)
 clear hv hc hlt
 go_enter Tryz.func168,Tryz.ntmps168
 go_wp2_with fail
 refine HG.out.mono ?_
 rintro e w1 ⟨v1,rfl,hv1,hb1⟩
 have hr1:=HR.out.keep (S:=fun _=>True) (kep_below _ hb1) trivial (fun _ _=>trivial) HBS.out
 have HQ:=Lib.hid (HGO.out R v1 er w1 hr1 hv1)
 have HB1:=Lib.hid hb1
 clear hv1 hb1 hr1 HG HGO
 go_wp2_with fail
 refine HQ.out.mono ?_
 rintro e w2 ⟨rfl,h2,k2⟩
 have H2:=Lib.hid h2
 have K2:=Lib.hid k2
 clear h2 k2 HQ
 go_wp2_with fail
 go_ret
 exact ⟨rfl,H2.out,(kep_below _ HB1.out).trans K2.out⟩
theorem text_any (B g:Nat) (most:Int) (l:List UInt8) (o:Bool) (w:World) (h0:0≤most) (h1:most≤9223372036854775807) (h:Rd B w g l o) (hB:B≤g) :
  Calls Tryz.prog 169 #[.pointer (some ⟨g,0,none⟩),.int .i64 most] w (Took B g (.string ⟨(txtSt most l o).1.toArray⟩) (txtSt most l o).2.1 (txtSt most l o).2.2 w):=by
 have HR:=Lib.hid h
 have hlt:=h.lt
 obtain ⟨v,hc,hv⟩:=h
 have f0:w.cell? ⟨g,0,none⟩=some v:=by rw [cell_of_row w g 0 _ _ _ hc];rfl
 have HG:=Lib.hid (VG.gettext_in B v l most w (by omega) h1 hv (Nat.le_of_lt (Nat.lt_of_le_of_lt hB hlt)))
 have HGO:=Lib.hid (fun m v er w1 (h1:Rd B w1 g l o) (h2:BIn B w1 v m)=>goon_any B g l m o v er w1 h1 hB h2)
 unfold txtSt
 dsimp only
 generalize (getT l most).1=n at *
 generalize (getT l most).2.2=er at *
 generalize VG.restT l most=R at *
 have HBS:=Lib.hid (show B≤w.heap.size by omega)
 clear hv hc hlt
 go_enter Tryz.func169,Tryz.ntmps169
 go_wp2_with fail
 refine HG.out.mono ?_
 rintro e w1 ⟨v1,rfl,hv1,hb1⟩
 have hr1:=HR.out.keep (S:=fun _=>True) (kep_below _ hb1) trivial (fun _ _=>trivial) HBS.out
 have HQ:=Lib.hid (HGO.out R v1 er w1 hr1 hv1)
 have HB1:=Lib.hid hb1
 clear hv1 hb1 hr1 HG HGO
 go_wp2_with fail
 refine HQ.out.mono ?_
 rintro e w2 ⟨rfl,h2,k2⟩
 have H2:=Lib.hid h2
 have K2:=Lib.hid k2
 clear h2 k2 HQ
 go_wp2_with fail
 go_ret
 exact ⟨rfl,H2.out,(kep_below _ HB1.out).trans K2.out⟩
theorem number_any (B g:Nat) (m:Nat) (l:List UInt8) (o:Bool) (w:World) (hm:m≤1099511627776) (h:Rd B w g l o) (hB:B≤g) :
  Calls Tryz.prog 133 #[.pointer (some ⟨g,0,none⟩),.int .i64 m] w (Took B g (.int .i64 (numSt m l o).1) (numSt m l o).2.1 (numSt m l o).2.2 w):=by
 have HR:=Lib.hid h
 have hlt:=h.lt
 obtain ⟨v,hc,hv⟩:=h
 have f0:w.cell? ⟨g,0,none⟩=some v:=by rw [cell_of_row w g 0 _ _ _ hc];rfl
 have HG:=Lib.hid (VG.get_in B v l w hv (Nat.le_of_lt (Nat.lt_of_le_of_lt hB hlt)))
 have HGO:=Lib.hid (fun m v er w1 (h1:Rd B w1 g l o) (h2:BIn B w1 v m)=>goon_any B g l m o v er w1 h1 hB h2)
 have hb:=getL_bounds l
 have herr:(getL l).2.2≠0→(getL l).1=0∧VG.restL l=[]:=fun he=>by
  refine ⟨?_,by unfold VG.restL;rw [if_neg he]⟩
  rcases hb.2.2.1 with e | e | e
  ·exact absurd e he
  ·rw [e]
  ·rw [e]
 have hn:=hb.1
 unfold numSt
 generalize (getL l).1=n at *
 generalize (getL l).2.2=er at *
 generalize VG.restL l=R at *
 have HBS:=Lib.hid (show B≤w.heap.size by omega)
 clear hv hc hlt hb
 by_cases hmn:n≤m
 ·have hst:(if er=0∧n≤m then (n,R,o) else (0,[],true))=(n,R,o||er != 0):=by
   by_cases h0:er=0
   ·subst h0
    rw [if_pos ⟨rfl,hmn⟩];simp
   ·rw [if_neg (fun h=>h0 h.1),(herr h0).1,(herr h0).2]
    have:(er != 0)=true:=by rw [bne_iff_ne];exact h0
    rw [this];simp
  rw [hst]
  have t1:decide ((n:Int)>(m:Int))=false:=decide_eq_false (by omega)
  have t2:IntKind.u64.wrap (m:Int)=(m:Int):=by rw [IntKind.wrap_u64];omega
  have t3:IntKind.i64.wrap (n:Int)=(n:Int):=by rw [IntKind.wrap_i64];omega
  dsimp only
  clear hst herr
  go_enter Tryz.func133,Tryz.ntmps133
  go_wp2_with fail
  refine HG.out.mono ?_
  rintro e w1 ⟨v1,rfl,hv1,hb1⟩
  have hr1:=HR.out.keep (S:=fun _=>True) (kep_below _ hb1) trivial (fun _ _=>trivial) HBS.out
  have HQ:=Lib.hid (HGO.out R v1 er w1 hr1 hv1)
  have HB1:=Lib.hid hb1
  clear hv1 hb1 hr1 HG HGO
  go_wp2_with fail
  refine HQ.out.mono ?_
  rintro e w2 ⟨rfl,h2,k2⟩
  have H2:=Lib.hid h2
  have K2:=Lib.hid k2
  clear h2 k2 HQ
  go_wp2_with fail
  go_ret
  exact ⟨rfl,H2.out,(kep_below _ HB1.out).trans K2.out⟩
 ·have hst:(if er=0∧n≤m then (n,R,o) else (0,[],true))=(0,[],true):=by rw [if_neg (fun h=>hmn h.2)]
  rw [hst]
  have t1:decide ((n:Int)>(m:Int))=true:=decide_eq_true (by omega)
  have t2:IntKind.u64.wrap (m:Int)=(m:Int):=by rw [IntKind.wrap_u64];omega
  dsimp only
  clear hst herr
  go_enter Tryz.func133,Tryz.ntmps133
  go_wp2_with fail
  refine HG.out.mono ?_
  rintro e w1 ⟨v1,rfl,hv1,hb1⟩
  have hr1:=HR.out.keep (S:=fun _=>True) (kep_below _ hb1) trivial (fun _ _=>trivial) HBS.out
  have HQ:=Lib.hid (HGO.out [] (.slice none 0 0) 100 w1 hr1 (BIn.nil_ _ _))
  have HB1:=Lib.hid hb1
  clear hv1 hb1 hr1 HG HGO
  go_wp2_with fail
  refine HQ.out.mono ?_
  rintro e w2 ⟨rfl,h2,k2⟩
  have h2':Rd B w2 g [] true:=by have:=h2;simpa using this
  have H2:=Lib.hid h2'
  have K2:=Lib.hid k2
  clear h2 h2' k2 HQ
  go_wp2_with fail
  go_ret
  exact ⟨rfl,H2.out,(kep_below _ HB1.out).trans K2.out⟩
end Go.Proofs.YtdfibahafilklaaGreatDoor.EV
namespace Go.Proofs.YtdfibahafilklaaGreatDoor.EV
open Go Go.RowKit MM EM VM GB
open VP
theorem bytesL_ne (n:Nat):bytesL n≠[]:=by
 intro h
 have:=(bytesL_length n).1
 rw [h] at this
 simp at this
theorem intL_ne (z:Int):intL z≠[]:=bytesL_ne _
theorem textL_ne (s:List UInt8):textL s≠[]:=by
 intro h
 have:=(textL_len s).2
 rw [h] at this
 simp at this
theorem intL_len (z:Int):(intL z).length≤10:=(bytesL_length _).2
theorem brow_nil (w:World):BRow w (.slice none 0 0) []:=BIn.nil_ _ w
theorem put0_text (t:List UInt8) (ht:t.length≤4096) (W:World):Calls Tryz.prog 146 #[.slice none 0 0,.string ⟨t.toArray⟩] W (PutLeft W.heap.size (textL t) W):=by
 have h:=puttext_any (.slice none 0 0) [] ⟨t.toArray⟩ W (brow_nil _) (by rw [str_sz];simp;omega)
 rw [List.nil_append,str_list] at h
 exact h
theorem grown_ron {α:Type} {C:Codec α} {w w':World} {v v' u:Value} {xs:List α} (h:ROn C (fun b=>v.ownBlock≠some b) w u xs) (hg:Grown w w' v v'):ROn C (fun b=>v.ownBlock≠some b) w' u xs:=h.keep hg.kep fun _ _ h=>h
theorem fits (m:Nat) (L:List UInt8) (fs:List Fld) (z:Int) (h16:fs.length≤16) (hx:∀ f∈fs,f.1.length≤4096∧f.2.length≤4096) (hl:L.length≤1000000000):∀ k,(L++intL z++bytesL m++bytesF (fs.take k)).length≤1001000000:=fun k=>by
 have h1:=intL_len z
 have h2:=(bytesL_length m).2
 have h3:=bytesF_len (fs.take k)
 have h4:sizeF (fs.take k)≤8192*(fs.take k).length:=by
  have:∀ gs:List Fld,(∀ f∈gs,f.1.length≤4096∧f.2.length≤4096)→sizeF gs≤8192*gs.length:=by
   intro gs
   induction gs with
   | nil=>simp [sizeF]
   | cons f r ih =>
     intro h
     have h1:=h f (by simp)
     have h2:=ih fun g hg=>h g (by simp [hg])
     have e:sizeF (f::r)=f.1.length+f.2.length+sizeF r:=by simp [sizeF]
     rw [e,List.length_cons]
     omega
  exact this _ fun f hf=>hx f (List.mem_of_mem_take hf)
 have h5:(fs.take k).length≤fs.length:=List.length_take_le' _ _
 simp only [List.length_append]
 omega
theorem appe_any (v:Value) (l:List UInt8) (z:Int) (u:Value) (fs:List Fld) (w:World) (hown:OwnB 0 w v l) (hr:ROn fldC (fun b=>v.ownBlock≠some b) w u fs) (h0 : -9223372036854775808≤z) (h1:z≤9223372036854775807) (h16:fs.length≤16) (hx:∀ f∈fs,f.1.length≤4096∧f.2.length≤4096) (hl:l.length≤1000000000) :
  Calls Tryz.prog 102 #[v,.agg #[.int .i64 z,u]] w (AppL (l++bytesE (z,fs)) v w):=by
 obtain ⟨p,cap,rfl,hlc,hcm,_⟩:=hr.shape
 unfold maxLen at hcm
 have hbx:=box_below w z (.slice p fs.length cap)
 have HP:=Lib.hid (putint_any (.slice none 0 0) [] z (evBox w z (.slice p fs.length cap)) h0 h1 (brow_nil _) (by simp))
 have HLN:=Lib.hid (fits fs.length l fs z h16 hx hl)
 have HX:=Lib.hid hx
 have HO:=Lib.hid hown
 have HR:=Lib.hid hr
 have HOL:=Lib.hid (own_lt hown)
 have HBX:=Lib.hid hbx
 have HEND:Hid (l++intL z++bytesL fs.length++bytesF (fs.take fs.length)=l++bytesE (z,fs)):=Lib.hid (by rw [List.take_length];unfold bytesE;simp)
 clear hown hr hx hl hbx
 go_enter Tryz.func102,Tryz.ntmps102
 go_wp2_with fail
 refine HP.out.mono ?_
 rintro e w1 ⟨v1,rfl,ho1,hb1⟩
 rw [List.nil_append] at ho1
 have hbw1:Below w.heap.size w w1:=HBX.out.trans (hb1.mono HBX.out.size)
 have hsz1:w.heap.size<w1.heap.size:=by have:=hb1.size;rw [box_size] at this;omega
 have HOV1:=Lib.hid (HO.out.keep hbw1)
 have HO1:=Lib.hid ho1
 have HC1:=Lib.hid (box_in hb1)
 have HB1:=Lib.hid hbw1
 have HIL:=Lib.hid (intL_len z)
 have hvo:v.ownBlock≠some w.heap.size:=fun e=>absurd (HOL.out _ e) (Nat.lt_irrefl _)
 clear ho1 hb1 hbw1 HP
 go_wp2_with (at_builtin;go_loud (refine wpList_append_grown rfl _ _ rfl v l rfl HOV1.out _ (intL z) rfl HO1.out.brow (intL_ne z) (by have:=HLN.out 0;simp only [List.length_append] at this;omega) ?_;intro v2 w2 ho2 hg2;have d1:=(hg2.kep.cell hsz1 hvo 1).trans HC1.out.2.1;have hsz2:w.heap.size<w2.heap.size:=Nat.lt_of_lt_of_le hsz1 hg2.1.size;have hvo2:v2.ownBlock≠some w.heap.size:=fun e=>(hg2.2 _ e).elim hvo fun h=>absurd hsz1 (Nat.not_lt.2 h);have HO2:=Lib.hid ho2;have HG2:=Lib.hid (Grown.of_below HB1.out hg2 HOL.out);clear ho2 hg2))
 have HQ:=Lib.hid (put_any (.slice none 0 0) [] fs.length w2 (by omega) (brow_nil _) (by simp))
 refine HQ.out.mono ?_
 rintro e w3 ⟨v3,rfl,ho3,hb3⟩
 rw [List.nil_append] at ho3
 have HO3:=Lib.hid ho3
 have HOV3:=Lib.hid (HO2.out.keep hb3)
 have e1:=(hb3.cell (p:=⟨w.heap.size,1,none⟩) hsz2).trans d1
 have HG3:=Lib.hid (Grown.below HG2.out hb3)
 have hsz3:w.heap.size<w3.heap.size:=Nat.lt_of_lt_of_le hsz2 hb3.size
 clear ho3 hb3 HQ d1
 go_wp2_with (at_builtin;go_loud (refine wpList_append_grown rfl _ _ rfl v2 (l++intL z) rfl HOV3.out _ (bytesL fs.length) rfl HO3.out.brow (bytesL_ne _) (by have:=HLN.out 0;simp only [List.length_append] at this;simp only [List.length_append];omega) ?_;intro v4 w4 ho4 hg4;have d1:=(hg4.kep.cell hsz3 hvo2 1).trans e1;have HO4:Hid (OwnB 0 w4 v4 (l++intL z++bytesL fs.length++bytesF (fs.take 0))):=Lib.hid (by rw [show l++intL z++bytesL fs.length++bytesF (fs.take 0)=l++intL z++bytesL fs.length by simp [EM.bytesF]];exact ho4);have HG4:=Lib.hid (HG3.out.trans hg4);clear ho4 hg4))
 go_loopw [0,22] (fun bv iv wr=>∃ k:Nat,k≤fs.length∧iv=.int .i64 k∧Hid (OwnB 0 wr bv (l++intL z++bytesL fs.length++bytesF (fs.take k)))∧Hid (Grown w wr v bv)) (fun _ iv _=>fs.length - (intOf iv).toNat)
 case atStart=>exact ⟨0,by omega,rfl,HO4,HG4⟩
 case round =>
  obtain ⟨k,hk,rfl,HOk,HGk⟩:=hrel
  clear HO4 HG4 HOV3 HO3 HG3 HO2 HG2 HOV1 HO1 d1 e1
  by_cases hlt:k<fs.length
  ·have q1:decide ((k:Int)<(fs.length:Int))=true:=by rw [decide_eq_true_eq];omega
   have q2:decide (k<fs.length)=true:=by rw [decide_eq_true_eq];omega
   have q3:(k:Int)<(fs.length:Int):=by omega
   obtain ⟨b,off,rfl,hbl,hbS,c1,c2⟩:=fld_at (grown_ron HR.out HGk.out) hlt
   have hxk:=HX.out fs[k] (List.getElem_mem hlt)
   have hnx:=bytesF_next hlt
   have hll:=HLN.out (k+1)
   rw [hnx] at hll
   generalize fs[k].1=nm at *
   generalize fs[k].2=tx at *
   have hn2:l++intL z++bytesL fs.length++bytesF (fs.take (k+1))=l++intL z++bytesL fs.length++bytesF (fs.take k)++textL nm++textL tx:=by rw [hnx];simp
   obtain ⟨L,hL⟩:∃ L,l++intL z++bytesL fs.length++bytesF (fs.take k)=L:=⟨_,rfl⟩
   have hlen:(L++textL nm++textL tx).length≤1001000000:=by rw [← hL];rw [← List.append_assoc] at hll;rw [← List.append_assoc] at hll;exact hll
   rw [hL] at hn2
   have ho:=HOk.out
   rw [hL] at ho
   have HOL0:=Lib.hid ho
   have HN2:=Lib.hid hn2
   have HT1:=Lib.hid (fun W=>put0_text nm hxk.1 W)
   have HT2:=Lib.hid (fun W=>put0_text tx hxk.2 W)
   have HLT:=Lib.hid hlt
   have HUL:=Lib.hid (own_lt ho)
   clear hnx hll hL ho hn2 HOk hlt
   go_wp2_with fail
   have hba:Below wr.heap.size wr (wr.alloc (.cells #[.string ⟨nm.toArray⟩,.string ⟨tx.toArray⟩] 84)):=(Below.refl _ _).alloc (Nat.le_refl _) _
   have hnw:=(new_two wr (.string ⟨nm.toArray⟩) (.string ⟨tx.toArray⟩) 84).2
   refine (HT1.out _).mono ?_
   rintro e w5 ⟨v5,rfl,ho5,hb5⟩
   have hb15:Below wr.heap.size wr w5:=hba.trans (hb5.mono hba.size)
   have hszr5:wr.heap.size<w5.heap.size:=by have:=hb5.size;rw [World.size_alloc] at this;omega
   have k1:=(hb5.cell (p:=⟨wr.heap.size,1,none⟩) (by rw [World.size_alloc];exact Nat.lt_succ_self _)).trans hnw
   have HO5:=Lib.hid ho5
   have HV5:=Lib.hid (HOL0.out.keep hb15)
   have HG5:=Lib.hid (Grown.below HGk.out hb15)
   have hvr:u0.ownBlock≠some wr.heap.size:=fun e=>absurd (HUL.out _ e) (Nat.lt_irrefl _)
   clear hba hnw ho5 hb5 hb15 HT1 c1 c2 HGk
   go_wp2_with (at_builtin;go_loud (refine wpList_append_grown rfl _ _ rfl u0 L rfl HV5.out _ (textL nm) rfl HO5.out.brow (textL_ne _) (by simp only [List.length_append] at hlen;omega) ?_;intro v6 w6 ho6 hg6;have k2:=(hg6.kep.cell hszr5 hvr 1).trans k1;have HO6:=Lib.hid ho6;have HG6:=Lib.hid (HG5.out.trans hg6);clear ho6 hg6))
   refine (HT2.out _).mono ?_
   rintro e w7 ⟨v7,rfl,ho7,hb7⟩
   have HO7:=Lib.hid ho7
   have HV7:=Lib.hid (HO6.out.keep hb7)
   have HG7:=Lib.hid (Grown.below HG6.out hb7)
   clear ho7 hb7 HT2 k1 k2 HO6 HG6 HO5 HV5 HG5
   go_wp2_with (at_builtin;go_loud (refine wpList_append_grown rfl _ _ rfl v6 (L++textL nm) rfl HV7.out _ (textL tx) rfl HO7.out.brow (textL_ne _) (by simp only [List.length_append] at hlen;simp only [List.length_append];omega) ?_;intro v8 w8 ho8 hg8;rw [← HN2.out] at ho8;have HO8:=Lib.hid ho8;have HG8:=Lib.hid (HG7.out.trans hg8);clear ho8 hg8))
   have hlt:=HLT.out
   go_roundw
   case rel=>exact ⟨k+1,by omega,by go_num,HO8,HG8⟩
   case measure=>simp [intOf];omega
  ·obtain rfl:k=fs.length:=by omega
   have q1:decide ((fs.length:Int)<(fs.length:Int))=false:=by simp
   have q2:decide (fs.length<fs.length)=false:=by simp
   have ho:=HOk.out
   rw [HEND.out] at ho
   have HO9:=Lib.hid ho
   clear HOk ho hlt
   go_wp2_with fail
   go_ret
   exact ⟨_,rfl,HO9.out,HGk.out⟩
end Go.Proofs.YtdfibahafilklaaGreatDoor.EV
