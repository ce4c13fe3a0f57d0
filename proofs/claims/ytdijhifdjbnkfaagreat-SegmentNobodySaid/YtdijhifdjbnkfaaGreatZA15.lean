/-
  
-/
import Derived.Test.YtdijhifdjbnkfaaGreatZA9
import Derived.Test.YtdijhifdjbnkfaaGreatZA13
import Derived.Test.YtdijhifdjbnkfaaGreatZA3
import Derived.Test.YtdijhifdjbnkfaaGreatZA6
import Derived.Test.YtdijhifdjbnkfaaGreatZA14
import Derived.Test.YtdijhifdjbnkfaaGreatZA5
import Derived.Test.YtdijhifdjbnkfaaGreatZA8
set_option linter.unusedVariables false
namespace Go.Proofs.YtdijhifdjbnkfaaGreat.EV
open Go Go.RowKit Go.Proofs.YtdijhifdjbnkfaaGreat.MM Go.Proofs.YtdijhifdjbnkfaaGreat.EM
open Go.Proofs.YtdijhifdjbnkfaaGreat.TK (nameL isname_any TruthLeft)
set_option maxRecDepth 100000 in
theorem name_any (l:List UInt8) (w:World):Calls Tryz.prog 123 #[.string ⟨l.toArray⟩] w (TruthLeft (nameL l) w):=by
 have h:=Lib.hid (isname_any ⟨l.toArray⟩ w)
 rw [str_list] at h
 go_enter Tryz.func123,Tryz.ntmps123
 go_wp2_with fail
 refine h.out.mono ?_
 rintro e w2 ⟨rfl,hb⟩
 have HB:=Lib.hid hb
 clear h hb
 go_wp2_with fail
 go_ret
 exact ⟨rfl,HB.out⟩
def IntLeft (z:Int) (w:World) (e:Ending) (w':World):Prop:=e=.returned (.int .i64 z)∧Below w.heap.size w w'
set_option maxRecDepth 100000 in
set_option maxHeartbeats 2000000 in
theorem check_any (z:Int) (v:Value) (fs:List Fld) (w:World) (hr:RAny fldC w v fs):Calls Tryz.prog 73 #[.agg #[.int .i64 z,v]] w (IntLeft (checkE (z,fs)) w):=by
 obtain ⟨p,cap,rfl,hlc,hcm,_⟩:=hr.shape
 unfold maxLen at hcm
 by_cases h16:16<fs.length
 ·have t1:decide ((fs.length:Int)>16)=true:=by rw [decide_eq_true_eq];omega
  have e:checkE (z,fs)=3:=by unfold checkE;rw [if_pos h16]
  rw [e]
  clear e hr h16
  have hb:Below w.heap.size w (w.alloc (.cells #[.int .i64 z,.slice p fs.length cap] 57)):=(Below.refl _ _).alloc (Nat.le_refl _) _
  have HB:=Lib.hid hb
  clear hb
  go_enter Tryz.func73,Tryz.ntmps73
  go_wp2_with fail
  go_ret
  exact ⟨rfl,HB.out⟩
 ·have t1:decide ((fs.length:Int)>16)=false:=by rw [decide_eq_false_iff_not];omega
  obtain ⟨RES,hRES⟩:∃ RES,checkE (z,fs)=RES:=⟨_,rfl⟩
  have h0:checkF (fs.drop 0)=RES:=by rw [← hRES];unfold checkE;rw [if_neg h16];rfl
  rw [hRES]
  have hb:Below w.heap.size w (w.alloc (.cells #[.int .i64 z,.slice p fs.length cap] 57)):=(Below.refl _ _).alloc (Nat.le_refl _) _
  have HB:=Lib.hid hb
  have H0:=Lib.hid h0
  have HR:=Lib.hid hr
  clear hb h0 hr hRES h16
  go_enter Tryz.func73,Tryz.ntmps73
  go_wp2_with fail
  go_loopw [12] (fun iv wr=>∃ i:Nat,i≤fs.length∧iv=.int .i64 i∧Hid (checkF (fs.drop i)=RES)∧Hid (Below w.heap.size w wr)) (fun iv _=>fs.length - (intOf iv).toNat)
  case atStart=>exact ⟨0,by omega,rfl,H0,HB⟩
  case round =>
   obtain ⟨i,hi,rfl,HI,HB1⟩:=hrel
   clear H0 HB
   by_cases hlt:i<fs.length
   ·have q1:decide ((i:Int)<(fs.length:Int))=true:=by rw [decide_eq_true_eq];omega
    have q2:decide (i<fs.length)=true:=by rw [decide_eq_true_eq];omega
    obtain ⟨b,off,rfl,hbl,_,c1,c2⟩:=fld_at (HR.out.below HB1.out) hlt
    have hnext:=HI.out
    rw [checkF_next hlt] at hnext
    generalize fs[i].1=n at *
    generalize fs[i].2=x at *
    have HN:=Lib.hid hnext
    have HLT:=Lib.hid hlt
    have hk:=fun W=>name_any n W
    generalize nameL n=nb at *
    have HK:=Lib.hid hk
    have hwr:=HB1.out.size
    clear hnext HI hk hlt
    go_wp2_with fail
    refine (HK.out _).mono ?_
    rintro e w2 ⟨rfl,hb2⟩
    have hb3:Below wr.heap.size wr w2:=((Below.refl _ wr).alloc (Nat.le_refl _) _).trans (hb2.mono (by simp))
    have cx:w2.cell? ⟨wr.heap.size,1,none⟩=some (.string ⟨x.toArray⟩):=(hb2.cell (p:=⟨wr.heap.size,1,none⟩) (by simp)).trans (new_two wr _ _ _).2
    have HB2:=Lib.hid (HB1.out.trans (hb3.mono hwr))
    clear hb2 hb3 HK c1 c2 hwr
    cases nb with
    | false =>
      have hn:=HN.out
      rw [if_pos rfl] at hn
      subst hn
      clear HN
      go_wp2_with fail
      go_ret
      exact ⟨rfl,HB2.out⟩
    | true =>
      by_cases h4:4096<x.length
      ·have q3:decide ((x.length:Int)>4096)=true:=by rw [decide_eq_true_eq];omega
       have hn:=HN.out
       rw [if_neg (by simp),if_pos h4] at hn
       subst hn
       clear HN h4
       go_wp2_with fail
       go_ret
       exact ⟨rfl,HB2.out⟩
      ·have q3:decide ((x.length:Int)>4096)=false:=by rw [decide_eq_false_iff_not];omega
       have hn:=HN.out
       rw [if_neg (by simp),if_neg h4] at hn
       have HN2:=Lib.hid hn
       clear HN h4 hn
       go_wp2_with fail
       have hlt:=HLT.out
       go_roundw
       case rel=>exact ⟨i+1,by omega,by go_num,HN2,HB2⟩
       case measure=>simp [intOf];omega
   ·obtain rfl:i=fs.length:=by omega
    have q1:decide ((fs.length:Int)<(fs.length:Int))=false:=by simp
    have q2:decide (fs.length<fs.length)=false:=by simp
    have hn:=HI.out
    rw [List.drop_length] at hn
    have hn:0=RES:=hn
    subst hn
    clear HI
    go_wp2_with fail
    go_ret
    exact ⟨rfl,HB1.out⟩
def evBox (w:World) (z:Int) (v:Value):World:=w.alloc (.cells #[.int .i64 z,v] 57)
theorem box_below (w:World) (z:Int) (v:Value):Below w.heap.size w (evBox w z v):=(Below.refl _ _).alloc (Nat.le_refl _) _
theorem box_size (w:World) (z:Int) (v:Value):(evBox w z v).heap.size=w.heap.size+1:=by unfold evBox;simp
theorem box_at (w:World) (z:Int) (v:Value):(evBox w z v).cell? ⟨w.heap.size,0,none⟩=some (.int .i64 z)∧(evBox w z v).cell? ⟨w.heap.size,1,none⟩=some v:=new_two w _ _ _
theorem box_in {w wr:World} {z:Int} {v:Value} (h:Below (evBox w z v).heap.size (evBox w z v) wr):wr.cell? ⟨w.heap.size,0,none⟩=some (.int .i64 z)∧wr.cell? ⟨w.heap.size,1,none⟩=some v∧Below w.heap.size w wr :=
 ⟨(h.cell (p:=⟨w.heap.size,0,none⟩) (by rw [box_size];simp)).trans (box_at w z v).1,(h.cell (p:=⟨w.heap.size,1,none⟩) (by rw [box_size];simp)).trans (box_at w z v).2,(box_below w z v).trans (h.mono (by rw [box_size];omega))⟩
theorem wrap_add (a b:Int):wrap64 (wrap64 a+b)=wrap64 (a+b):=by unfold wrap64;omega
theorem wrap_add2 (a b:Int):wrap64 (a+wrap64 b)=wrap64 (a+b):=by unfold wrap64;omega
def sizeW (fs:List Fld):Int:=wrap64 (16+(sizeF fs:Int))
theorem sizeW_next {fs:List Fld} {k:Nat} (hk:k<fs.length):wrap64 (sizeW (fs.take k)+((fs[k].1.length:Int)+(fs[k].2.length:Int)))=sizeW (fs.take (k+1)):=by
 unfold sizeW
 rw [wrap_add,sizeF_next hk]
 congr 1
 omega
theorem sizeW_small {fs:List Fld} (h:sizeF fs≤1000000000000):sizeW fs=(16+sizeF fs:Nat):=by unfold sizeW wrap64;omega
end Go.Proofs.YtdijhifdjbnkfaaGreat.EV
set_option linter.unusedVariables false
namespace Go.Proofs.YtdijhifdjbnkfaaGreat.EV
open Go Go.RowKit Go.Proofs.YtdijhifdjbnkfaaGreat.MM Go.Proofs.YtdijhifdjbnkfaaGreat.EM
end Go.Proofs.YtdijhifdjbnkfaaGreat.EV
set_option linter.unusedVariables false
namespace Go.Proofs.YtdijhifdjbnkfaaGreat.ST
open Go Go.RowKit Go.Proofs.YtdijhifdjbnkfaaGreat.MM Go.Proofs.YtdijhifdjbnkfaaGreat.EM Go.Proofs.YtdijhifdjbnkfaaGreat.SM
open Go.Proofs.YtdijhifdjbnkfaaGreat.EV (docC evC fldC doc_at IntLeft evBox box_below box_size box_in)
end Go.Proofs.YtdijhifdjbnkfaaGreat.ST
set_option linter.unusedVariables false
namespace Go.Proofs.YtdijhifdjbnkfaaGreat.MM
open Go Go.RowKit
def Three (w:World) (g:Nat) (t:TypeId) (a b c:Value):Prop:=w.heap[g]? = some (.cells #[a,b,c] t (0,0))
section
variable {w w' : World} {g : Nat} {t : TypeId} {a b c : Value}
theorem Three.lt (h:Three w g t a b c):g<w.heap.size:=(Array.getElem?_eq_some_iff.1 h).1
theorem Three.c0 (h:Three w g t a b c):w.cell? ⟨g,0,none⟩=some a:=by rw [cell_of_row w g 0 _ _ _ h];rfl
theorem Three.c1 (h:Three w g t a b c):w.cell? ⟨g,1,none⟩=some b:=by rw [cell_of_row w g 1 _ _ _ h];rfl
theorem Three.c2 (h:Three w g t a b c):w.cell? ⟨g,2,none⟩=some c:=by rw [cell_of_row w g 2 _ _ _ h];rfl
theorem Three.fr (h:Three w g t a b c) (i:Nat):w.frozen? ⟨g,i,none⟩=false:=frozen_of_row w g i _ _ h
theorem Three.s0 (h:Three w g t a b c) (x:Value):Three (w.setCell ⟨g,0,none⟩ x) g t x b c:=heap_setCell_same w g 0 _ _ x h
theorem Three.s1 (h:Three w g t a b c) (x:Value):Three (w.setCell ⟨g,1,none⟩ x) g t a x c:=heap_setCell_same w g 1 _ _ x h
theorem Three.s2 (h:Three w g t a b c) (x:Value):Three (w.setCell ⟨g,2,none⟩ x) g t a b x:=heap_setCell_same w g 2 _ _ x h
def set3 (w:World) (g:Nat) (x y z:Value):World:=((w.setCell ⟨g,0,none⟩ x).setCell ⟨g,1,none⟩ y).setCell ⟨g,2,none⟩ z
theorem Three.set (h:Three w g t a b c) (x y z:Value):Three (set3 w g x y z) g t x y z:=((h.s0 x).s1 y).s2 z
theorem Three.keep {S:Nat→Prop} (h:Three w g t a b c) (hk:Kep S w w') (hS:S g):Three w' g t a b c:=(hk.block g h.lt hS).trans h
theorem Three.below {B:Nat} (h:Three w g t a b c) (hb:Below B w w') (hg:g<B):Three w' g t a b c:=(hb.block g hg).trans h
theorem three_new (w:World) (t:TypeId) (a b c:Value):Three (w.alloc (.cells #[a,b,c] t)) w.heap.size t a b c:=heap_alloc_new _ _
theorem Three.cells (h:Three w g t a b c):w.cell? ⟨g,0,none⟩=some a∧w.cell? ⟨g,1,none⟩=some b∧w.cell? ⟨g,2,none⟩=some c:=⟨h.c0,h.c1,h.c2⟩
theorem Three.all (h:Three w g t a b c) (x y:Value) :
  w.frozen? ⟨g,0,none⟩=false∧w.frozen? ⟨g,1,none⟩=false∧w.frozen? ⟨g,2,none⟩=false ∧
  ((w.setCell ⟨g,0,none⟩ x).cell? ⟨g,1,none⟩=some b∧(w.setCell ⟨g,0,none⟩ x).frozen? ⟨g,1,none⟩=false) ∧
  (((w.setCell ⟨g,0,none⟩ x).setCell ⟨g,1,none⟩ y).cell? ⟨g,2,none⟩=some c∧((w.setCell ⟨g,0,none⟩ x).setCell ⟨g,1,none⟩ y).frozen? ⟨g,2,none⟩=false) :=
 ⟨h.fr 0,h.fr 1,h.fr 2,⟨(h.s0 x).c1,(h.s0 x).fr 1⟩,⟨((h.s0 x).s1 y).c2,((h.s0 x).s1 y).fr 2⟩⟩
theorem kep_set3 {g:Nat} (x y z:Value):Kep (fun b=>b≠g) w (set3 w g x y z) :=
 ((kep_set (fun h=>h rfl) x).trans (kep_set (fun h=>h rfl) y)).trans (kep_set (fun h=>h rfl) z)
end
section
variable {P : Program} {fn : Func} {t : TypeId} {ty : TypeDesc}
theorem results_three1 {p:Tmp} (h:fn.results=#[.cell p t]) (hu:P.underlying t=some ty) (hd:(match ty with | .struct _ | .array _ _=>true | _=>false)=true) (hi:(P.info? t).map (·.size)=some 3) (tmps:Array Value) (w:World) (g:Nat) (a b c:Value)
  (hp:tmps.getD p undef=.pointer (some ⟨g,0,none⟩)) (hg:Three w g t a b c):(results fn tmps).run P w=.ok (.agg #[a,b,c]) w:=by
 have hp':tmps[p]?.getD undef=.pointer (some ⟨g,0,none⟩):=by simpa using hp
 have hl:=run_loadVar_row (P:=P) w g t t _ (0,0) ty hg hu hd hi
 simp [results,h,hp',asAddr,hl]
theorem results_three2 {p u:Tmp} (h:fn.results=#[.cell p t,.tmp u]) (hu:P.underlying t=some ty) (hd:(match ty with | .struct _ | .array _ _=>true | _=>false)=true) (hi:(P.info? t).map (·.size)=some 3) (tmps:Array Value) (w:World) (g:Nat) (a b c:Value)
  (hp:tmps.getD p undef=.pointer (some ⟨g,0,none⟩)) (hg:Three w g t a b c):(results fn tmps).run P w=.ok (.tuple #[.agg #[a,b,c],tmps.getD u undef]) w:=by
 have hp':tmps[p]?.getD undef=.pointer (some ⟨g,0,none⟩):=by simpa using hp
 have hl:=run_loadVar_row (P:=P) w g t t _ (0,0) ty hg hu hd hi
 simp [results,h,hp',asAddr,hl]
end
end Go.Proofs.YtdijhifdjbnkfaaGreat.MM
set_option linter.unusedVariables false
namespace Go.Proofs.YtdijhifdjbnkfaaGreat.ST
open Go Go.RowKit Go.Proofs.YtdijhifdjbnkfaaGreat.MM Go.Proofs.YtdijhifdjbnkfaaGreat.EM Go.Proofs.YtdijhifdjbnkfaaGreat.SM
open Go.Proofs.YtdijhifdjbnkfaaGreat.EV (docC evC fldC doc_at IntLeft)
end Go.Proofs.YtdijhifdjbnkfaaGreat.ST
set_option linter.unusedVariables false
namespace Go.Proofs.YtdijhifdjbnkfaaGreat.EV
open Go Go.RowKit Go.Proofs.YtdijhifdjbnkfaaGreat.MM Go.Proofs.YtdijhifdjbnkfaaGreat.EM
set_option maxRecDepth 100000 in
set_option maxHeartbeats 2000000 in
theorem size_any (z:Int) (v:Value) (fs:List Fld) (w:World) (hr:RAny fldC w v fs):Calls Tryz.prog 124 #[.agg #[.int .i64 z,v]] w (IntLeft (sizeW fs) w):=by
 obtain ⟨p,cap,rfl,hlc,hcm,_⟩:=hr.shape
 unfold maxLen at hcm
 have HB:=Lib.hid (box_below w z (.slice p fs.length cap))
 have HR:=Lib.hid hr
 have H0:Hid (sizeW (fs.take 0)=16):=Lib.hid (by simp [sizeW,sizeF,wrap64])
 clear hr
 go_enter Tryz.func124,Tryz.ntmps124
 go_wp2_with fail
 go_loopw [3,9] (fun sv iv wr=>∃ (i:Nat) (s:Int),i≤fs.length∧iv=.int .i64 i∧sv=.int .i64 s∧Hid (sizeW (fs.take i)=s)∧Hid (Below w.heap.size w wr)) (fun _ iv _=>fs.length - (intOf iv).toNat)
 case atStart=>exact ⟨0,16,by omega,rfl,rfl,H0,HB⟩
 case round =>
  obtain ⟨i,s,hi,rfl,rfl,HI,HB1⟩:=hrel
  clear H0 HB
  by_cases hlt:i<fs.length
  ·have q1:decide ((i:Int)<(fs.length:Int))=true:=by rw [decide_eq_true_eq];omega
   have q2:decide (i<fs.length)=true:=by rw [decide_eq_true_eq];omega
   obtain ⟨b,off,rfl,hbl,_,c1,c2⟩:=fld_at (HR.out.below HB1.out) hlt
   have hnext:=sizeW_next hlt
   rw [HI.out,← wrap_add2] at hnext
   generalize fs[i].1=n at *
   generalize fs[i].2=x at *
   have HN:=Lib.hid hnext
   have HLT:=Lib.hid hlt
   have hb3:Below wr.heap.size wr (wr.alloc (.cells #[.string ⟨n.toArray⟩,.string ⟨x.toArray⟩] 123)):=(Below.refl _ wr).alloc (Nat.le_refl _) _
   have HB2:=Lib.hid (HB1.out.trans (hb3.mono HB1.out.size))
   clear hnext HI hlt hb3
   go_wp2_with fail
   have hlt:=HLT.out
   go_roundw
   case rel=>exact ⟨i+1,_,by omega,by go_num,rfl,Lib.hid HN.out.symm,HB2⟩
   case measure=>simp [intOf];omega
  ·obtain rfl:i=fs.length:=by omega
   have q1:decide ((fs.length:Int)<(fs.length:Int))=false:=by simp
   have q2:decide (fs.length<fs.length)=false:=by simp
   have hn:=HI.out
   rw [List.take_length] at hn
   subst hn
   clear HI
   go_wp2_with fail
   go_ret
   exact ⟨rfl,HB1.out⟩
end Go.Proofs.YtdijhifdjbnkfaaGreat.EV
set_option linter.unusedVariables false
namespace Go.Proofs.YtdijhifdjbnkfaaGreat.SG
open Go Go.RowKit Go.Proofs.YtdijhifdjbnkfaaGreat.MM
open Go.Proofs.YtdijhifdjbnkfaaGreat.EV (docC evC fldC doc_at IntLeft sizeW)
open Go.Proofs.YtdijhifdjbnkfaaGreat.EM (sizeF)
open Go.Proofs.YtdijhifdjbnkfaaGreat.SM (Doc)
open Go.Proofs.YtdijhifdjbnkfaaGreat.GM (sumW sumW_next sumW_take)
theorem sizeW_small {fs:List EM.Fld} (h:sizeF fs≤1000000):sizeW fs=((16+sizeF fs:Nat):Int):=by
 unfold sizeW
 rw [IntWalk.wrap64_in _ ⟨by omega,by omega⟩]
 omega
set_option maxRecDepth 100000 in
set_option maxHeartbeats 2000000 in
theorem sizes_any (v:Value) (l:List Doc) (w:World) (hv:RAny docC w v l) (hs:sumW l≤100000):Calls Tryz.prog 74 #[v] w (IntLeft (sumW l:Int) w):=by
 obtain ⟨p,cap,rfl,hlc,hcm,_⟩:=hv.shape
 unfold maxLen at hcm
 obtain ⟨M,hM⟩:∃ M,sumW l=M:=⟨_,rfl⟩
 have HM:Hid (sumW (l.take l.length)=M):=Lib.hid (by rw [List.take_length];exact hM)
 have HTK:=Lib.hid (fun k=>hM▸sumW_take l k)
 have HNX:=Lib.hid (fun (k:Nat) (hk:k<l.length)=>sumW_next hk)
 have HV:=Lib.hid hv
 have H0:Hid (sumW (l.take 0)=0):=Lib.hid (by simp [sumW])
 rw [hM] at hs ⊢
 clear hv hM
 go_enter Tryz.func74,Tryz.ntmps74
 go_wp2_with fail
 go_loopw [3,8] (fun sv iv wr=>∃ (i s:Nat),i≤l.length∧iv=.int .i64 i∧sv=.int .i64 s∧s≤100000∧Hid (sumW (l.take i)=s)∧Hid (Below w.heap.size w wr)) (fun _ iv _=>l.length - (intOf iv).toNat)
 case atStart=>exact ⟨0,0,by omega,rfl,rfl,by omega,H0,Lib.hid (Below.refl _ _)⟩
 case round =>
  obtain ⟨i,s,hi,rfl,rfl,hs0,HI,HB⟩:=hrel
  clear H0
  by_cases hlt:i<l.length
  ·have q1:decide ((i:Int)<(l.length:Int))=true:=by rw [decide_eq_true_eq];omega
   have q2:decide (i<l.length)=true:=by rw [decide_eq_true_eq];omega
   have q3:(i:Int)<(l.length:Int):=by omega
   obtain ⟨b,off,vf,rfl,hbl,_,c1,c2,c3,hf⟩:=doc_at (HV.out.below HB.out) hlt
   have hnx:=HNX.out i hlt
   have htk:=HTK.out (i+1)
   obtain ⟨⟨sq,⟨at_,fs⟩⟩,hd⟩:∃ d,l[i]=d:=⟨_,rfl⟩
   rw [hd] at c1 c2 hf hnx
   dsimp only at c1 c2 hf hnx
   rw [HI.out] at hnx
   have hle:s+sizeF fs≤100000:=by omega
   have hz:=sizeW_small (fs:=fs) (by omega)
   have hz0:sizeW ([]:List EM.Fld)=((16:Nat):Int):=by rw [sizeW_small (by simp [sizeF])];simp [sizeF]
   obtain ⟨F,hF⟩:∃ F,sizeF fs=F:=⟨_,rfl⟩
   rw [hF] at hz hnx hle
   obtain ⟨pf,cf,rfl,_⟩:=hf.shape
   obtain ⟨w1,hw1⟩:∃ w1,wr.alloc (.cells #[.int .i64 sq,.int .i64 at_,.slice pf fs.length cf] 59)=w1:=⟨_,rfl⟩
   have hb1:Below wr.heap.size wr w1:=by rw [← hw1];exact (Below.refl _ _).alloc (Nat.le_refl _) _
   have HB1:=Lib.hid (HB.out.trans (hb1.mono HB.out.size))
   have hC:=EV.size_any at_ (.slice pf fs.length cf) fs w1 (hf.any.below hb1)
   have hC2:=fun W=>EV.size_any 0 (.slice none 0 0) [] W (ROn.nil_ _ _)
   rw [hz] at hC
   simp only [hz0] at hC2
   have HC:=Lib.hid hC
   have HC2:=Lib.hid hC2
   have HW1:=Lib.hid hw1
   have HN:=Lib.hid hnx
   have HLT:=Lib.hid hlt
   clear hb1 hw1 hf HB hC hC2 hz hz0 hF hnx htk hd HI hlt
   go_wp2_with fail
   rw [HW1.out]
   refine HC.out.mono ?_
   rintro e w2 ⟨rfl,hb2⟩
   have HB2:=Lib.hid (HB1.out.trans (hb2.mono HB1.out.size))
   clear hb2 HC HW1 HB1 c1 c2 c3
   go_wp2_with fail
   refine (HC2.out _).mono ?_
   rintro e w3 ⟨rfl,hb3⟩
   have HB3:=Lib.hid (HB2.out.trans (hb3.mono HB2.out.size))
   clear hb3 HC2 HB2
   go_wp2_with fail
   have hlt:=HLT.out
   go_roundw
   case rel=>exact ⟨i+1,s+F,by omega,by go_num,by go_num,by omega,HN,HB3⟩
   case measure=>simp [intOf];omega
  ·obtain rfl:i=l.length:=by omega
   have q1:decide ((l.length:Int)<(l.length:Int))=false:=by simp
   have q2:decide (l.length<l.length)=false:=by simp
   have hn:=HI.out
   rw [HM.out] at hn
   subst hn
   clear HI hlt HM HTK
   go_wp2_with fail
   go_ret
   exact ⟨rfl,HB.out⟩
end Go.Proofs.YtdijhifdjbnkfaaGreat.SG
set_option linter.unusedVariables false
namespace Go.Proofs.YtdijhifdjbnkfaaGreat.SG
open Go Go.RowKit Go.Proofs.YtdijhifdjbnkfaaGreat.MM
open Go.Proofs.YtdijhifdjbnkfaaGreat.EM (lessL less_bytes)
def postC:Codec (Int×List Int):=cPair cInt (cRow cInt)
end Go.Proofs.YtdijhifdjbnkfaaGreat.SG
set_option linter.unusedVariables false
namespace Go.Proofs.YtdijhifdjbnkfaaGreat.DT
open Go Go.RowKit Go.Proofs.YtdijhifdjbnkfaaGreat.MM Go.Proofs.YtdijhifdjbnkfaaGreat.DM
open Go.Proofs.YtdijhifdjbnkfaaGreat.EM (lessL less_bytes)
theorem infoEnt:(Tryz.prog.info? 102).map (·.size)=some 4:=by kernel_rfl
theorem entE:Elem entC Tryz.prog 97 102 40:=⟨Tryz.underlying97,by
 have h:(Tryz.prog.info? 102).map (fun i=>(i.zero,i.size,i.bytes))=some (some (.agg #[.string ⟨#[]⟩,.int .i64 0,.int .i64 0,.int .i64 0]),4,40):=by kernel_rfl
 obtain ⟨i,h1,h2,h3,h4⟩:=info_parts h
 exact ⟨i,_,h1,h2,h3,h4,rfl⟩⟩
def Found (o:Option Ent) (w:World) (e:Ending) (w':World):Prop:=e=.returned (.tuple #[entV (o.getD nilX),.bool o.isSome])∧Below w.heap.size w w'
end Go.Proofs.YtdijhifdjbnkfaaGreat.DT
set_option linter.unusedVariables false
namespace Go.Proofs.YtdijhifdjbnkfaaGreat.TR
open Go Go.RowKit Go.Proofs.YtdijhifdjbnkfaaGreat.MM Go.Proofs.YtdijhifdjbnkfaaGreat.GB
theorem grown_low {B:Nat} {wr w':World} {u u':Value} {L L':List UInt8} (hB:B≤wr.heap.size) (ho:OwnB B wr u L) (hg:Grown wr w' u u') (ho':OwnB 0 w' u' L'):OwnB B w' u' L'∧Below B wr w':=by
 have h1:∀ k,u.ownBlock=some k→B≤k:=fun k hk=>(World.ownsRow.lt ho k hk).1
 refine ⟨OwnB.from ho' fun k hk => ?_,hg.kep.below hB fun k hk e=>by have:=h1 k e;omega⟩
 rcases hg.2 k hk with e | e
 ·exact h1 k e
 ·omega
structure EncSt (w W wr:World) (gb:Option Nat) (vh vb:Value) (H Bd:List UInt8):Prop where
 low:Below w.heap.size w wr
 gsz:W.heap.size≤wr.heap.size
 wsz:w.heap.size≤W.heap.size
 blk:∀ g,gb=some g→g<W.heap.size∧wr.heap[g]? = W.heap[g]?
 oh:OwnB 0 wr vh H
 ob:OwnB 0 wr vb Bd
 fh:∀ k,vh.ownBlock=some k→w.heap.size≤k∧gb≠some k
 fb:∀ k,vb.ownBlock=some k→w.heap.size≤k∧gb≠some k
 ap:∀ k,vh.ownBlock=some k→vb.ownBlock≠some k
theorem EncSt.below {w W wr w':World} {gb:Option Nat} {vh vb:Value} {H Bd:List UInt8} (h:EncSt w W wr gb vh vb H Bd) (hb:Below wr.heap.size wr w'):EncSt w W w' gb vh vb H Bd :=
 ⟨h.low.trans (hb.mono h.low.size),Nat.le_trans h.gsz hb.size,h.wsz,fun g hg=>⟨(h.blk g hg).1,(hb.block g (Nat.lt_of_lt_of_le (h.blk g hg).1 h.gsz)).trans (h.blk g hg).2⟩,OwnB.keep h.oh hb,OwnB.keep h.ob hb,h.fh,h.fb,h.ap⟩
theorem EncSt.row {w wr:World} {vh vb x:Value} {H Bd X:List UInt8} (h:EncSt w w wr none vh vb H Bd) {w5:World} (hb:Below wr.heap.size wr w5) (hx:OwnB wr.heap.size w5 x X):EncSt w w5 w5 x.ownBlock vh vb H Bd :=
 ⟨h.low.trans (hb.mono h.low.size),Nat.le_refl _,Nat.le_trans h.low.size hb.size,fun g hg=>⟨(World.ownsRow.lt hx g hg).2,rfl⟩,OwnB.keep h.oh hb,OwnB.keep h.ob hb,
  fun k hk=>⟨(h.fh k hk).1,fun e=>by have h1:=(World.ownsRow.lt hx k e).1;have h2:=own_lt h.oh k hk;omega⟩,
  fun k hk=>⟨(h.fb k hk).1,fun e=>by have h1:=(World.ownsRow.lt hx k e).1;have h2:=own_lt h.ob k hk;omega⟩,h.ap⟩
end Go.Proofs.YtdijhifdjbnkfaaGreat.TR
set_option linter.unusedVariables false
namespace Go.Proofs.YtdijhifdjbnkfaaGreat.GB
open Go Go.RowKit Go.Proofs.YtdijhifdjbnkfaaGreat.MM
def Beside (B q:Nat) (w W:World) (v:Value) (l:List UInt8):Prop:=OwnB B W v l∧Below B w W∧B≤W.heap.size∧q<W.heap.size∧∀ g,v.ownBlock=some g→g≠q
theorem Beside.grown {B q:Nat} {w W W':World} {v v':Value} {l m:List UInt8} (h:Beside B q w W v l) (ho:OwnB 0 W' v' m) (hg:Grown W W' v v'):Beside B q w W' v' m∧W'.heap[q]? = W.heap[q]? := by
 obtain ⟨h1,h2,h3,h4,h5⟩:=h
 have hs:=hg.1.size
 have hlo:∀ k,v.ownBlock=some k→B≤k:=fun k hk=>(World.ownsRow.lt h1 k hk).1
 refine ⟨⟨OwnB.from ho fun k hk => ?_,h2.trans (hg.kep.below h3 fun k hk e=>by have:=hlo k e;omega),by omega,by omega,fun g hgv => ?_⟩,hg.1.block q h4 fun e=>h5 q e.symm rfl⟩
 ·rcases hg.2 k hk with e | e
  ·exact hlo k e
  ·omega
 ·rcases hg.2 g hgv with e | e
  ·exact h5 g e
  ·omega
theorem Beside.below {B q:Nat} {w W W':World} {v:Value} {l:List UInt8} (h:Beside B q w W v l) (hb:Below W.heap.size W W'):Beside B q w W' v l:=by
 obtain ⟨h1,h2,h3,h4,h5⟩:=h
 have hs:=hb.size
 exact ⟨h1.keep hb,h2.trans (hb.mono h3),by omega,by omega,h5⟩
end Go.Proofs.YtdijhifdjbnkfaaGreat.GB
set_option linter.unusedVariables false
namespace Go.Proofs.YtdijhifdjbnkfaaGreat.ST
open Go Go.RowKit Go.Proofs.YtdijhifdjbnkfaaGreat.MM Go.Proofs.YtdijhifdjbnkfaaGreat.EM Go.Proofs.YtdijhifdjbnkfaaGreat.SM
open Go.Proofs.YtdijhifdjbnkfaaGreat.EV (docC evC fldC doc_at IntLeft)
def errC (b:Bool):Int:=if b then 0 else 120
set_option maxRecDepth 100000 in
set_option maxHeartbeats 4000000 in
theorem ccheck_any (v:Value) (l:List Doc) (w:World) (hv:RAny docC w v l):Calls Tryz.prog 38 #[v] w (IntLeft (errC (isS l)) w):=by
 obtain ⟨p,cap,rfl,hlc,hcm,_⟩:=hv.shape
 unfold maxLen at hcm
 by_cases hl:l.length≤65536
 ·obtain ⟨RES,hRES⟩:∃ RES,isS l=RES:=⟨_,rfl⟩
  have h0:isR 0 (l.drop 0)=RES:=by rw [← hRES];unfold isS;rw [decide_eq_true hl];simp
  have q0:decide ((l.length:Int)>65536)=false:=by rw [decide_eq_false_iff_not];omega
  have q00:decide (65536<l.length)=false:=decide_eq_false (by omega)
  rw [hRES]
  have H0:=Lib.hid h0
  have HV:=Lib.hid hv
  clear h0 hRES hv
  go_enter Tryz.func38,Tryz.ntmps38
  go_wp2_with fail
  go_loopw [3,11] (fun lv iv wr=>∃ (i:Nat) (z:Int),i≤l.length∧iv=.int .i64 i∧lv=.int .i64 z∧Hid (isR z (l.drop i)=RES)∧Hid (Below w.heap.size w wr)) (fun _ iv _=>l.length - (intOf iv).toNat)
  case atStart=>exact ⟨0,0,by omega,rfl,rfl,H0,Lib.hid (Below.refl _ _)⟩
  case round =>
   obtain ⟨i,z,hi,rfl,rfl,HI,HB⟩:=hrel
   clear H0
   by_cases hlt:i<l.length
   ·have q1:decide ((i:Int)<(l.length:Int))=true:=by rw [decide_eq_true_eq];omega
    have q2:decide (i<l.length)=true:=by rw [decide_eq_true_eq];omega
    have q3:(i:Int)<(l.length:Int):=by omega
    obtain ⟨b,off,vf,rfl,hbl,_,c1,c2,c3,hf⟩:=doc_at (HV.out.below HB.out) hlt
    have hnx:=HI.out
    rw [isR_step hlt] at hnx
    obtain ⟨⟨sq,⟨at_,fs⟩⟩,hd⟩:∃ d,l[i]=d:=⟨_,rfl⟩
    rw [hd] at c1 c2 hf hnx
    dsimp only at c1 c2 hf hnx
    obtain ⟨pf,cf,rfl,_⟩:=hf.shape
    unfold okS at hnx
    dsimp only at hnx
    obtain ⟨q,hq⟩:∃ q,wr.heap.size=q:=⟨_,rfl⟩
    obtain ⟨w1,hw1⟩:∃ w1,wr.alloc (.cells #[.int .i64 sq,.int .i64 at_,.slice pf fs.length cf] 59)=w1:=⟨_,rfl⟩
    have hb1:Below wr.heap.size wr w1:=by rw [← hw1];exact (Below.refl _ _).alloc (Nat.le_refl _) _
    have T1:Hid (Three w1 q 59 (.int .i64 sq) (.int .i64 at_) (.slice pf fs.length cf)):=Lib.hid (by rw [← hw1,← hq];exact three_new wr 59 _ _ _)
    have HB1:=Lib.hid (HB.out.trans (hb1.mono HB.out.size))
    have HC:=Lib.hid (EV.check_any at_ (.slice pf fs.length cf) fs w1 (hf.any.below hb1))
    have HW1:=Lib.hid hw1
    clear hb1 hw1 hf HB
    by_cases h1:z<sq
    ·by_cases h2:sq≤1099511627776
     ·have t1:decide (sq≤z)=false:=by rw [decide_eq_false_iff_not];omega
      have t2:decide (sq>1099511627776)=false:=by rw [decide_eq_false_iff_not];omega
      have t3:decide (1099511627776<sq)=false:=by rw [decide_eq_false_iff_not];omega
      rw [decide_eq_true h1,decide_eq_true h2,Bool.true_and,Bool.true_and] at hnx
      have HN:=Lib.hid hnx
      have HLT:=Lib.hid hlt
      clear HI hnx hd h1 h2 hlt
      go_wp2_with fail
      rw [HW1.out]
      refine HC.out.mono ?_
      rintro e w2 ⟨rfl,hb2⟩
      have HB2:=Lib.hid (HB1.out.trans (hb2.mono HB1.out.size))
      obtain ⟨f0,f1,f2⟩:=(T1.out.below hb2 T1.out.lt).cells
      clear hb2 HC c1 c2 c3 T1 HB1
      obtain ⟨c,hc⟩:∃ c,checkE (at_,fs)=c:=⟨_,rfl⟩
      have hn:=HN.out
      rw [hc] at hn ⊢
      by_cases h3:c=0
      ·have t4:(c != 0)=false:=by simp [h3]
       rw [decide_eq_true h3,Bool.true_and] at hn
       have HN2:=Lib.hid hn
       clear HN hn hc h3
       go_wp2_with fail
       have hlt:=HLT.out
       go_roundw
       case rel=>exact ⟨i+1,sq,by omega,by go_num,rfl,HN2,HB2⟩
       case measure=>simp [intOf];omega
      ·have t4:(c != 0)=true:=by simp [h3]
       rw [decide_eq_false h3,Bool.false_and] at hn
       subst hn
       clear HN hc h3
       go_wp2_with fail
       go_ret
       exact ⟨rfl,HB2.out⟩
     ·have t1:decide (sq≤z)=false:=by rw [decide_eq_false_iff_not];omega
      have t2:decide (sq>1099511627776)=true:=by rw [decide_eq_true_eq];omega
      have t3:decide (1099511627776<sq)=true:=by rw [decide_eq_true_eq];omega
      rw [decide_eq_false h2,Bool.and_false,Bool.false_and,Bool.false_and] at hnx
      subst hnx
      have HB9:Hid (Below w.heap.size w (wr.alloc (.cells #[.int .i64 sq,.int .i64 at_,.slice pf fs.length cf] 59))):=Lib.hid (by rw [HW1.out];exact HB1.out)
      clear HI hd h1 h2 HC T1 HB1 HW1
      go_wp2_with fail
      go_ret
      exact ⟨rfl,HB9.out⟩
    ·have t1:decide (sq≤z)=true:=by rw [decide_eq_true_eq];omega
     rw [decide_eq_false h1,Bool.false_and,Bool.false_and,Bool.false_and] at hnx
     subst hnx
     have HB9:Hid (Below w.heap.size w (wr.alloc (.cells #[.int .i64 sq,.int .i64 at_,.slice pf fs.length cf] 59))):=Lib.hid (by rw [HW1.out];exact HB1.out)
     clear HI hd h1 HC T1 HB1 HW1
     go_wp2_with fail
     go_ret
     exact ⟨rfl,HB9.out⟩
   ·obtain rfl:i=l.length:=by omega
    have q1:decide ((l.length:Int)<(l.length:Int))=false:=by simp
    have q2:decide (l.length<l.length)=false:=by simp
    have hn:=HI.out
    rw [isR_end] at hn
    subst hn
    clear HI hlt
    go_wp2_with fail
    go_ret
    exact ⟨rfl,HB.out⟩
 ·have q0:decide ((l.length:Int)>65536)=true:=by rw [decide_eq_true_eq];omega
  have q00:decide (65536<l.length)=true:=decide_eq_true (by omega)
  have e:isS l=false:=by unfold isS;rw [decide_eq_false hl];rfl
  rw [e]
  clear e hv hl
  go_enter Tryz.func38,Tryz.ntmps38
  go_wp2_with fail
  go_ret
  exact ⟨rfl,Below.refl _ _⟩
end Go.Proofs.YtdijhifdjbnkfaaGreat.ST
