import Derived.Test.YtdijhifdjbnkfaaGreatZB2
import Derived.Test.YtdijhifdjbnkfaaGreatZB6
import Derived.Test.YtdijhifdjbnkfaaGreatZB9
import Derived.Test.YtdijhifdjbnkfaaGreatZB5
import Derived.Test.YtdijhifdjbnkfaaGreatZB7
import Derived.Test.YtdijhifdjbnkfaaGreatZB4
set_option linter.unusedVariables false
set_option linter.unusedSimpArgs false
namespace Go.Proofs.YtdijhifdjbnkfaaGreat.MM
open Go Go.RowKit
theorem results_row1 {P:Program} {fn:Func} {t:TypeId} {ty:TypeDesc} {p:Tmp} (h:fn.results=#[.cell p t]) (hu:P.underlying t=some ty) (hd:(match ty with | .struct _ | .array _ _=>true | _=>false)=true) (cs:Array Value) (hi:(P.info? t).map (·.size)=some cs.size) (tmps:Array Value) (w:World) (g:Nat)
  (hp:tmps.getD p undef=.pointer (some ⟨g,0,none⟩)) (hg:w.heap[g]? = some (.cells cs t (0,0))):(results fn tmps).run P w=.ok (.agg cs) w:=by
 have hp':tmps[p]?.getD undef=.pointer (some ⟨g,0,none⟩):=by simpa using hp
 have hl:=run_loadVar_row (P:=P) w g t t cs (0,0) ty hg hu hd hi
 simp [results,h,hp',asAddr,hl]
theorem row_cell {w:World} {g:Nat} {cs:Array Value} {t:TypeId} {fr:Nat×Nat} (h:w.heap[g]? = some (.cells cs t fr)) (i:Nat):w.cell? ⟨g,i,none⟩=cs[i]? := cell_of_row w g i _ _ _ h
end Go.Proofs.YtdijhifdjbnkfaaGreat.MM
namespace Go.Proofs.YtdijhifdjbnkfaaGreat.EV
open Go Go.RowKit Go.Proofs.YtdijhifdjbnkfaaGreat.MM Go.Proofs.YtdijhifdjbnkfaaGreat.EM
open Go.Proofs.YtdijhifdjbnkfaaGreat.TK (nameL isname_any TruthLeft)
set_option maxRecDepth 100000 in
theorem name_any (l:List UInt8) (w:World):Calls Tryz.prog 123 #[.string ⟨l.toArray⟩] w (TruthLeft (nameL l) w):=by
 have h:=Lib.hid (isname_any ⟨l.toArray⟩ w)
 rw [str_list] at h
 go_enter Tryz.func123,Tryz.ntmps123
 go_wp2_with fail
 refine h.out.mono ?_
 rintro e w2 ⟨rfl,hb⟩
 have HB:=Lib.hid hb
 clear h hb
 go_wp2_with fail
 go_ret
 exact ⟨rfl,HB.out⟩
def IntLeft (z:Int) (w:World) (e:Ending) (w':World):Prop:=e=.returned (.int .i64 z)∧Below w.heap.size w w'
set_option maxRecDepth 100000 in
set_option maxHeartbeats 2000000 in
theorem check_any (z:Int) (v:Value) (fs:List Fld) (w:World) (hr:RAny fldC w v fs):Calls Tryz.prog 73 #[.agg #[.int .i64 z,v]] w (IntLeft (checkE (z,fs)) w):=by
 obtain ⟨p,cap,rfl,hlc,hcm,_⟩:=hr.shape
 unfold maxLen at hcm
 by_cases h16:16<fs.length
 ·have t1:decide ((fs.length:Int)>16)=true:=by rw [decide_eq_true_eq];omega
  have e:checkE (z,fs)=3:=by unfold checkE;rw [if_pos h16]
  rw [e]
  clear e hr h16
  have hb:Below w.heap.size w (w.alloc (.cells #[.int .i64 z,.slice p fs.length cap] 57)):=(Below.refl _ _).alloc (Nat.le_refl _) _
  have HB:=Lib.hid hb
  clear hb
  go_enter Tryz.func73,Tryz.ntmps73
  go_wp2_with fail
  go_ret
  exact ⟨rfl,HB.out⟩
 ·have t1:decide ((fs.length:Int)>16)=false:=by rw [decide_eq_false_iff_not];omega
  obtain ⟨RES,hRES⟩:∃ RES,checkE (z,fs)=RES:=⟨_,rfl⟩
  have h0:checkF (fs.drop 0)=RES:=by rw [← hRES];unfold checkE;rw [if_neg h16];rfl
  rw [hRES]
  have hb:Below w.heap.size w (w.alloc (.cells #[.int .i64 z,.slice p fs.length cap] 57)):=(Below.refl _ _).alloc (Nat.le_refl _) _
  have HB:=Lib.hid hb
  have H0:=Lib.hid h0
  have HR:=Lib.hid hr
  clear hb h0 hr hRES h16
  go_enter Tryz.func73,Tryz.ntmps73
  go_wp2_with fail
  go_loopw [12] (fun iv wr=>∃ i:Nat,i≤fs.length∧iv=.int .i64 i∧Hid (checkF (fs.drop i)=RES)∧Hid (Below w.heap.size w wr)) (fun iv _=>fs.length - (intOf iv).toNat)
  case atStart=>exact ⟨0,by omega,rfl,H0,HB⟩
  case round =>
   obtain ⟨i,hi,rfl,HI,HB1⟩:=hrel
   clear H0 HB
   by_cases hlt:i<fs.length
   ·have q1:decide ((i:Int)<(fs.length:Int))=true:=by rw [decide_eq_true_eq];omega
    have q2:decide (i<fs.length)=true:=by rw [decide_eq_true_eq];omega
    obtain ⟨b,off,rfl,hbl,_,c1,c2⟩:=fld_at (HR.out.below HB1.out) hlt
    have hnext:=HI.out
    rw [checkF_next hlt] at hnext
    generalize fs[i].1=n at *
    generalize fs[i].2=x at *
    have HN:=Lib.hid hnext
    have HLT:=Lib.hid hlt
    have hk:=fun W=>name_any n W
    generalize nameL n=nb at *
    have HK:=Lib.hid hk
    have hwr:=HB1.out.size
    clear hnext HI hk hlt
    go_wp2_with fail
    refine (HK.out _).mono ?_
    rintro e w2 ⟨rfl,hb2⟩
    have hb3:Below wr.heap.size wr w2:=((Below.refl _ wr).alloc (Nat.le_refl _) _).trans (hb2.mono (by simp))
    have cx:w2.cell? ⟨wr.heap.size,1,none⟩=some (.string ⟨x.toArray⟩):=(hb2.cell (p:=⟨wr.heap.size,1,none⟩) (by simp)).trans (new_two wr _ _ _).2
    have HB2:=Lib.hid (HB1.out.trans (hb3.mono hwr))
    clear hb2 hb3 HK c1 c2 hwr
    cases nb with
    | false =>
      have hn:=HN.out
      rw [if_pos rfl] at hn
      subst hn
      clear HN
      go_wp2_with fail
      go_ret
      exact ⟨rfl,HB2.out⟩
    | true =>
      by_cases h4:4096<x.length
      ·have q3:decide ((x.length:Int)>4096)=true:=by rw [decide_eq_true_eq];omega
       have hn:=HN.out
       rw [if_neg (by simp),if_pos h4] at hn
       subst hn
       clear HN h4
       go_wp2_with fail
       go_ret
       exact ⟨rfl,HB2.out⟩
      ·have q3:decide ((x.length:Int)>4096)=false:=by rw [decide_eq_false_iff_not];omega
       have hn:=HN.out
       rw [if_neg (by simp),if_neg h4] at hn
       have HN2:=Lib.hid hn
       clear HN h4 hn
       go_wp2_with fail
       have hlt:=HLT.out
       go_roundw
       case rel=>exact ⟨i+1,by omega,by go_num,HN2,HB2⟩
       case measure=>simp [intOf];omega
   ·obtain rfl:i=fs.length:=by omega
    have q1:decide ((fs.length:Int)<(fs.length:Int))=false:=by simp
    have q2:decide (fs.length<fs.length)=false:=by simp
    have hn:=HI.out
    rw [List.drop_length] at hn
    have hn:0=RES:=hn
    subst hn
    clear HI
    go_wp2_with fail
    go_ret
    exact ⟨rfl,HB1.out⟩
def evBox (w:World) (z:Int) (v:Value):World:=w.alloc (.cells #[.int .i64 z,v] 57)
theorem box_below (w:World) (z:Int) (v:Value):Below w.heap.size w (evBox w z v):=(Below.refl _ _).alloc (Nat.le_refl _) _
theorem box_size (w:World) (z:Int) (v:Value):(evBox w z v).heap.size=w.heap.size+1:=by unfold evBox;simp
theorem box_at (w:World) (z:Int) (v:Value):(evBox w z v).cell? ⟨w.heap.size,0,none⟩=some (.int .i64 z)∧(evBox w z v).cell? ⟨w.heap.size,1,none⟩=some v:=new_two w _ _ _
theorem box_in {w wr:World} {z:Int} {v:Value} (h:Below (evBox w z v).heap.size (evBox w z v) wr):wr.cell? ⟨w.heap.size,0,none⟩=some (.int .i64 z)∧wr.cell? ⟨w.heap.size,1,none⟩=some v∧Below w.heap.size w wr :=
 ⟨(h.cell (p:=⟨w.heap.size,0,none⟩) (by rw [box_size];simp)).trans (box_at w z v).1,(h.cell (p:=⟨w.heap.size,1,none⟩) (by rw [box_size];simp)).trans (box_at w z v).2,(box_below w z v).trans (h.mono (by rw [box_size];omega))⟩
theorem wrap_add (a b:Int):wrap64 (wrap64 a+b)=wrap64 (a+b):=by unfold wrap64;omega
theorem wrap_add2 (a b:Int):wrap64 (a+wrap64 b)=wrap64 (a+b):=by unfold wrap64;omega
def sizeW (fs:List Fld):Int:=wrap64 (16+(sizeF fs:Int))
theorem sizeW_next {fs:List Fld} {k:Nat} (hk:k<fs.length):wrap64 (sizeW (fs.take k)+((fs[k].1.length:Int)+(fs[k].2.length:Int)))=sizeW (fs.take (k+1)):=by
 unfold sizeW
 rw [wrap_add,sizeF_next hk]
 congr 1
 omega
theorem sizeW_small {fs:List Fld} (h:sizeF fs≤1000000000000):sizeW fs=(16+sizeF fs:Nat):=by unfold sizeW wrap64;omega
end Go.Proofs.YtdijhifdjbnkfaaGreat.EV
namespace Go.Proofs.YtdijhifdjbnkfaaGreat.EV
open Go Go.RowKit Go.Proofs.YtdijhifdjbnkfaaGreat.MM Go.Proofs.YtdijhifdjbnkfaaGreat.EM
def BoolLeft (b:Bool) (w:World) (e:Ending) (w':World):Prop:=e=.returned (.bool b)∧Below w.heap.size w w'
theorem drop_same {α:Type} [DecidableEq α] {a b:List α} {i:Nat} (ha:i<a.length) (hb:i<b.length):decide (a.drop i=b.drop i)=(decide (a[i]=b[i])&&decide (a.drop (i+1)=b.drop (i+1))):=by
 rw [List.drop_eq_getElem_cons ha,List.drop_eq_getElem_cons hb]
 rw [Bool.eq_iff_iff,decide_eq_true_eq,Bool.and_eq_true,decide_eq_true_eq,decide_eq_true_eq,List.cons.injEq]
theorem eq_fld (X1 X2 Y1 Y2:List UInt8) (W:World):(Op.equalIn 10000 123 (.agg #[.string ⟨X1.toArray⟩,.string ⟨X2.toArray⟩]) (.agg #[.string ⟨Y1.toArray⟩,.string ⟨Y2.toArray⟩])).run Tryz.prog W=.ok (decide (X1=Y1)&&decide (X2=Y2)) W:=by
 have s1:=same_list X1 Y1
 have s2:=same_list X2 Y2
 have ht:Tryz.prog.underlying 123=some (.struct (Tryz.prog.fieldsOf 123)):=by kernel_rfl
 have hp:Tryz.prog.stoodInHeld 123=false:=by kernel_rfl
 have hf:(Tryz.prog.fieldsOf 123).toList.map (fun f=>(f.name == "_", f.type,f.offset))=[(false,9,0),(false,9,1)]:=by kernel_rfl
 rw [show (10000:Nat)=9998+1+1 from rfl,run_equalIn_struct W _ _ _ _ ht hp]
 generalize (Tryz.prog.fieldsOf 123).toList=fs at hf
 obtain ⟨f0,f1,rfl⟩:∃ a b,fs=[a,b]:=by
  have hl:=congrArg List.length hf
  rw [List.length_map] at hl
  match fs,hl with
  | [a,b],_=>exact ⟨a,b,rfl⟩
 simp only [List.map_cons,List.map_nil,List.cons.injEq,Prod.mk.injEq,and_true] at hf
 obtain ⟨⟨n0,t0,o0⟩,⟨n1,t1,o1⟩⟩:=hf
 have n0:f0.name ≠ "_" := by simpa using n0
 have n1:f1.name ≠ "_" := by simpa using n1
 have a9:=Tryz.isAgg9
 have z9:=Tryz.sizeOf9
 have u9:=Tryz.underlying9
 simp only [Op.eqFields,n0,n1,t0,t1,o0,o1,ne_eq,not_false_eq_true,if_true]
 go_simp
 by_cases h1:X1=Y1<;>by_cases h2:X2=Y2<;>simp [s1,s2,h1,h2]
theorem two_boxes (w:World) (z1 z2:Int) (u v:Value):Below w.heap.size w (evBox (evBox w z1 u) z2 v):=(box_below w z1 u).trans ((box_below _ z2 v).mono (by rw [box_size];omega))
theorem boxes_in {w wr:World} {z1 z2:Int} {u v:Value} (h:Below (evBox (evBox w z1 u) z2 v).heap.size (evBox (evBox w z1 u) z2 v) wr) :
  wr.cell? ⟨w.heap.size,0,none⟩=some (.int .i64 z1)∧wr.cell? ⟨w.heap.size,1,none⟩=some u∧wr.cell? ⟨w.heap.size+1,0,none⟩=some (.int .i64 z2)∧wr.cell? ⟨w.heap.size+1,1,none⟩=some v∧Below w.heap.size w wr:=by
 obtain ⟨h1,h2,h3⟩:=box_in h
 rw [box_size] at h1 h2
 have h4:=box_in (w:=w) (z:=z1) (v:=u) (wr:=wr) (by rw [box_size] at h3 ⊢;exact h3)
 exact ⟨h4.1,h4.2.1,h1,h2,h4.2.2⟩
theorem ev_same (z1 z2:Int) (xs ys:List Fld):decide ((z1,xs)=(z2,ys))=((z1 == z2)&&decide (xs=ys)):=by
 rw [Bool.eq_iff_iff]
 simp
set_option maxRecDepth 100000 in
set_option maxHeartbeats 4000000 in
theorem rsame_any (z1 z2:Int) (u v:Value) (xs ys:List Fld) (w:World) (hu:RAny fldC w u xs) (hv:RAny fldC w v ys):Calls Tryz.prog 56 #[.agg #[.int .i64 z1,u],.agg #[.int .i64 z2,v]] w (BoolLeft (decide ((z1,xs)=(z2,ys))) w):=by
 have HB:=Lib.hid (two_boxes w z1 z2 u v)
 rw [ev_same]
 obtain ⟨p1,cap1,rfl,hl1,hm1,_⟩:=hu.shape
 obtain ⟨p2,cap2,rfl,hl2,hm2,_⟩:=hv.shape
 unfold maxLen at hm1 hm2
 by_cases h:z1=z2
 ·have t1:(z1 != z2)=false:=by simp [h]
  have e1:(z1 == z2)=true:=by simp [h]
  rw [e1,Bool.true_and]
  by_cases hn:xs.length=ys.length
  ·have t0:(((xs.length:Int)) != ((ys.length:Int)))=false:=by simp [hn]
   obtain ⟨n,hnn⟩:∃ n,xs.length=n:=⟨_,rfl⟩
   have hnb:ys.length=n:=by omega
   obtain ⟨RES,hRES⟩:∃ RES,decide (xs=ys)=RES:=⟨_,rfl⟩
   have h0:decide (xs.drop 0=ys.drop 0)=RES:=hRES
   rw [hRES]
   have H0:=Lib.hid h0
   have HU:=Lib.hid hu
   have HV:=Lib.hid hv
   have HNA:=Lib.hid hnn
   have HNB:=Lib.hid hnb
   rw [hnn,hnb] at t0
   rw [hnn] at hl1 HB ⊢
   rw [hnb] at hl2 HB ⊢
   have HBB:=Lib.hid (Below.refl (evBox (evBox w z1 (.slice p1 n cap1)) z2 (.slice p2 n cap2)).heap.size (evBox (evBox w z1 (.slice p1 n cap1)) z2 (.slice p2 n cap2)))
   clear h0 hu hv hRES hn hnn hnb h e1
   go_enter Tryz.func56,Tryz.ntmps56
   go_wp2_with fail
   go_loopw [5] (fun iv wr=>∃ i:Nat,i≤n∧iv=.int .i64 i∧Hid (decide (xs.drop i=ys.drop i)=RES)∧Hid (Below (evBox (evBox w z1 (.slice p1 n cap1)) z2 (.slice p2 n cap2)).heap.size (evBox (evBox w z1 (.slice p1 n cap1)) z2 (.slice p2 n cap2)) wr)) (fun iv _=>n - (intOf iv).toNat)
   case atStart=>exact ⟨0,by omega,rfl,H0,HBB⟩
   case round =>
    obtain ⟨i,hi,rfl,HI,HB1⟩:=hrel
    clear H0 HBB
    obtain ⟨_,k1,_,k2,hbw⟩:=boxes_in HB1.out
    by_cases hlt:i<n
    ·have q1:decide ((i:Int)<(n:Int))=true:=by rw [decide_eq_true_eq];omega
     have q2:decide (i<n)=true:=by rw [decide_eq_true_eq];omega
     have q3:(i:Int)<n:=by omega
     have ha:i<xs.length:=by rw [HNA.out];exact hlt
     have hb:i<ys.length:=by rw [HNB.out];exact hlt
     have hu1:=HU.out.below hbw
     have hv1:=HV.out.below hbw
     rw [HNA.out] at hu1
     rw [HNB.out] at hv1
     obtain ⟨b1,o1,rfl,hb1,_,c1,c2⟩:=fld_at hu1 ha
     obtain ⟨b2,o2,rfl,hb2,_,c3,c4⟩:=fld_at hv1 hb
     have hnx:=HI.out
     rw [drop_same ha hb] at hnx
     generalize xs[i]=X at *
     generalize ys[i]=Y at *
     have heq:=eq_fld X.1 X.2 Y.1 Y.2
     have hd:decide (X=Y)=(decide (X.1=Y.1)&&decide (X.2=Y.2)):=by
      rw [Bool.eq_iff_iff,decide_eq_true_eq,Bool.and_eq_true,decide_eq_true_eq,decide_eq_true_eq]
      exact Prod.ext_iff
     rw [hd] at hnx
     obtain ⟨X1,X2⟩:=X
     obtain ⟨Y1,Y2⟩:=Y
     dsimp only at *
     generalize decide (X1=Y1)=d1 at *
     generalize decide (X2=Y2)=d2 at *
     have HN:=Lib.hid hnx
     have HLT:=Lib.hid hlt
     have HBW:=Lib.hid hbw
     clear hnx hd hlt hu1 hv1 ha hb HI hbw
     cases d1<;>cases d2
     case true.true =>
      have hn:=HN.out
      rw [Bool.true_and,Bool.true_and] at hn
      have HN2:=Lib.hid hn
      clear HN hn
      go_wp2_with fail
      go_quiet (fail)
      go_wp2_with fail
      have hlt:=HLT.out
      go_roundw
      case rel=>exact ⟨i+1,by omega,by go_num,HN2,Lib.hid (MM.below_drewN HB1.out _)⟩
      case measure=>simp [intOf];omega
     all_goals
      have hn:=HN.out
      simp only [Bool.false_and,Bool.and_false] at hn
      subst hn
      clear HN
      go_wp2_with fail
      go_quiet (fail)
      go_wp2_with fail
      go_ret
      exact ⟨rfl,MM.below_drewN HBW.out _⟩
    ·obtain rfl:i=n:=by omega
     have q1:decide ((i:Int)<(i:Int))=false:=by simp
     have q2:decide (i<i)=false:=by simp
     have hf:RES=true:=by
      rw [← HI.out,List.drop_of_length_le (by rw [HNA.out];exact Nat.le_refl _),List.drop_of_length_le (by rw [HNB.out];exact Nat.le_refl _)]
      simp
     subst hf
     have HBW:=Lib.hid hbw
     clear HI hbw
     go_wp2_with fail
     go_ret
     exact ⟨rfl,HBW.out⟩
  ·have t0:(((xs.length:Int)) != ((ys.length:Int)))=true:=by simp;omega
   have e:decide (xs=ys)=false:=decide_eq_false fun h=>hn (by rw [h])
   rw [e]
   clear hu hv e hn h e1
   go_enter Tryz.func56,Tryz.ntmps56
   go_wp2_with fail
   go_ret
   exact ⟨rfl,HB.out⟩
 ·have t1:(z1 != z2)=true:=by simp [h]
  have e1:(z1 == z2)=false:=by simp [h]
  rw [e1,Bool.false_and]
  clear h hu hv e1
  go_enter Tryz.func56,Tryz.ntmps56
  go_wp2_with fail
  go_ret
  exact ⟨rfl,HB.out⟩
end Go.Proofs.YtdijhifdjbnkfaaGreat.EV
namespace Go.Proofs.YtdijhifdjbnkfaaGreat.ST
open Go Go.RowKit Go.Proofs.YtdijhifdjbnkfaaGreat.MM Go.Proofs.YtdijhifdjbnkfaaGreat.EM Go.Proofs.YtdijhifdjbnkfaaGreat.SM
open Go.Proofs.YtdijhifdjbnkfaaGreat.EV (docC evC fldC doc_at BoolLeft IntLeft evBox box_below box_size box_in)
end Go.Proofs.YtdijhifdjbnkfaaGreat.ST
namespace Go.Proofs.YtdijhifdjbnkfaaGreat.MM
open Go Go.RowKit
def Three (w:World) (g:Nat) (t:TypeId) (a b c:Value):Prop:=w.heap[g]? = some (.cells #[a,b,c] t (0,0))
section
variable {w w' : World} {g : Nat} {t : TypeId} {a b c : Value}
theorem Three.lt (h:Three w g t a b c):g<w.heap.size:=(Array.getElem?_eq_some_iff.1 h).1
theorem Three.c0 (h:Three w g t a b c):w.cell? ⟨g,0,none⟩=some a:=by rw [cell_of_row w g 0 _ _ _ h];rfl
theorem Three.c1 (h:Three w g t a b c):w.cell? ⟨g,1,none⟩=some b:=by rw [cell_of_row w g 1 _ _ _ h];rfl
theorem Three.c2 (h:Three w g t a b c):w.cell? ⟨g,2,none⟩=some c:=by rw [cell_of_row w g 2 _ _ _ h];rfl
theorem Three.fr (h:Three w g t a b c) (i:Nat):w.frozen? ⟨g,i,none⟩=false:=frozen_of_row w g i _ _ h
theorem Three.s0 (h:Three w g t a b c) (x:Value):Three (w.setCell ⟨g,0,none⟩ x) g t x b c:=heap_setCell_same w g 0 _ _ x h
theorem Three.s1 (h:Three w g t a b c) (x:Value):Three (w.setCell ⟨g,1,none⟩ x) g t a x c:=heap_setCell_same w g 1 _ _ x h
theorem Three.s2 (h:Three w g t a b c) (x:Value):Three (w.setCell ⟨g,2,none⟩ x) g t a b x:=heap_setCell_same w g 2 _ _ x h
def set3 (w:World) (g:Nat) (x y z:Value):World:=((w.setCell ⟨g,0,none⟩ x).setCell ⟨g,1,none⟩ y).setCell ⟨g,2,none⟩ z
theorem Three.set (h:Three w g t a b c) (x y z:Value):Three (set3 w g x y z) g t x y z:=((h.s0 x).s1 y).s2 z
theorem Three.keep {S:Nat→Prop} (h:Three w g t a b c) (hk:Kep S w w') (hS:S g):Three w' g t a b c:=(hk.block g h.lt hS).trans h
theorem Three.below {B:Nat} (h:Three w g t a b c) (hb:Below B w w') (hg:g<B):Three w' g t a b c:=(hb.block g hg).trans h
theorem three_new (w:World) (t:TypeId) (a b c:Value):Three (w.alloc (.cells #[a,b,c] t)) w.heap.size t a b c:=heap_alloc_new _ _
theorem Three.cells (h:Three w g t a b c):w.cell? ⟨g,0,none⟩=some a∧w.cell? ⟨g,1,none⟩=some b∧w.cell? ⟨g,2,none⟩=some c:=⟨h.c0,h.c1,h.c2⟩
theorem Three.all (h:Three w g t a b c) (x y:Value) :
  w.frozen? ⟨g,0,none⟩=false∧w.frozen? ⟨g,1,none⟩=false∧w.frozen? ⟨g,2,none⟩=false ∧
  ((w.setCell ⟨g,0,none⟩ x).cell? ⟨g,1,none⟩=some b∧(w.setCell ⟨g,0,none⟩ x).frozen? ⟨g,1,none⟩=false) ∧
  (((w.setCell ⟨g,0,none⟩ x).setCell ⟨g,1,none⟩ y).cell? ⟨g,2,none⟩=some c∧((w.setCell ⟨g,0,none⟩ x).setCell ⟨g,1,none⟩ y).frozen? ⟨g,2,none⟩=false) :=
 ⟨h.fr 0,h.fr 1,h.fr 2,⟨(h.s0 x).c1,(h.s0 x).fr 1⟩,⟨((h.s0 x).s1 y).c2,((h.s0 x).s1 y).fr 2⟩⟩
theorem kep_set3 {g:Nat} (x y z:Value):Kep (fun b=>b≠g) w (set3 w g x y z) :=
 ((kep_set (fun h=>h rfl) x).trans (kep_set (fun h=>h rfl) y)).trans (kep_set (fun h=>h rfl) z)
end
section
variable {P : Program} {fn : Func} {t : TypeId} {ty : TypeDesc}
theorem results_three1 {p:Tmp} (h:fn.results=#[.cell p t]) (hu:P.underlying t=some ty) (hd:(match ty with | .struct _ | .array _ _=>true | _=>false)=true) (hi:(P.info? t).map (·.size)=some 3) (tmps:Array Value) (w:World) (g:Nat) (a b c:Value)
  (hp:tmps.getD p undef=.pointer (some ⟨g,0,none⟩)) (hg:Three w g t a b c):(results fn tmps).run P w=.ok (.agg #[a,b,c]) w:=by
 have hp':tmps[p]?.getD undef=.pointer (some ⟨g,0,none⟩):=by simpa using hp
 have hl:=run_loadVar_row (P:=P) w g t t _ (0,0) ty hg hu hd hi
 simp [results,h,hp',asAddr,hl]
theorem results_three2 {p u:Tmp} (h:fn.results=#[.cell p t,.tmp u]) (hu:P.underlying t=some ty) (hd:(match ty with | .struct _ | .array _ _=>true | _=>false)=true) (hi:(P.info? t).map (·.size)=some 3) (tmps:Array Value) (w:World) (g:Nat) (a b c:Value)
  (hp:tmps.getD p undef=.pointer (some ⟨g,0,none⟩)) (hg:Three w g t a b c):(results fn tmps).run P w=.ok (.tuple #[.agg #[a,b,c],tmps.getD u undef]) w:=by
 have hp':tmps[p]?.getD undef=.pointer (some ⟨g,0,none⟩):=by simpa using hp
 have hl:=run_loadVar_row (P:=P) w g t t _ (0,0) ty hg hu hd hi
 simp [results,h,hp',asAddr,hl]
end
end Go.Proofs.YtdijhifdjbnkfaaGreat.MM
namespace Go.Proofs.YtdijhifdjbnkfaaGreat.ST
open Go Go.RowKit Go.Proofs.YtdijhifdjbnkfaaGreat.MM Go.Proofs.YtdijhifdjbnkfaaGreat.EM Go.Proofs.YtdijhifdjbnkfaaGreat.SM
open Go.Proofs.YtdijhifdjbnkfaaGreat.EV (docC evC fldC doc_at BoolLeft IntLeft)
end Go.Proofs.YtdijhifdjbnkfaaGreat.ST
namespace Go.Proofs.YtdijhifdjbnkfaaGreat.EV
open Go Go.RowKit Go.Proofs.YtdijhifdjbnkfaaGreat.MM Go.Proofs.YtdijhifdjbnkfaaGreat.EM
set_option maxRecDepth 100000 in
set_option maxHeartbeats 2000000 in
theorem size_any (z:Int) (v:Value) (fs:List Fld) (w:World) (hr:RAny fldC w v fs):Calls Tryz.prog 124 #[.agg #[.int .i64 z,v]] w (IntLeft (sizeW fs) w):=by
 obtain ⟨p,cap,rfl,hlc,hcm,_⟩:=hr.shape
 unfold maxLen at hcm
 have HB:=Lib.hid (box_below w z (.slice p fs.length cap))
 have HR:=Lib.hid hr
 have H0:Hid (sizeW (fs.take 0)=16):=Lib.hid (by simp [sizeW,sizeF,wrap64])
 clear hr
 go_enter Tryz.func124,Tryz.ntmps124
 go_wp2_with fail
 go_loopw [3,9] (fun sv iv wr=>∃ (i:Nat) (s:Int),i≤fs.length∧iv=.int .i64 i∧sv=.int .i64 s∧Hid (sizeW (fs.take i)=s)∧Hid (Below w.heap.size w wr)) (fun _ iv _=>fs.length - (intOf iv).toNat)
 case atStart=>exact ⟨0,16,by omega,rfl,rfl,H0,HB⟩
 case round =>
  obtain ⟨i,s,hi,rfl,rfl,HI,HB1⟩:=hrel
  clear H0 HB
  by_cases hlt:i<fs.length
  ·have q1:decide ((i:Int)<(fs.length:Int))=true:=by rw [decide_eq_true_eq];omega
   have q2:decide (i<fs.length)=true:=by rw [decide_eq_true_eq];omega
   obtain ⟨b,off,rfl,hbl,_,c1,c2⟩:=fld_at (HR.out.below HB1.out) hlt
   have hnext:=sizeW_next hlt
   rw [HI.out,← wrap_add2] at hnext
   generalize fs[i].1=n at *
   generalize fs[i].2=x at *
   have HN:=Lib.hid hnext
   have HLT:=Lib.hid hlt
   have hb3:Below wr.heap.size wr (wr.alloc (.cells #[.string ⟨n.toArray⟩,.string ⟨x.toArray⟩] 123)):=(Below.refl _ wr).alloc (Nat.le_refl _) _
   have HB2:=Lib.hid (HB1.out.trans (hb3.mono HB1.out.size))
   clear hnext HI hlt hb3
   go_wp2_with fail
   have hlt:=HLT.out
   go_roundw
   case rel=>exact ⟨i+1,_,by omega,by go_num,rfl,Lib.hid HN.out.symm,HB2⟩
   case measure=>simp [intOf];omega
  ·obtain rfl:i=fs.length:=by omega
   have q1:decide ((fs.length:Int)<(fs.length:Int))=false:=by simp
   have q2:decide (fs.length<fs.length)=false:=by simp
   have hn:=HI.out
   rw [List.take_length] at hn
   subst hn
   clear HI
   go_wp2_with fail
   go_ret
   exact ⟨rfl,HB1.out⟩
end Go.Proofs.YtdijhifdjbnkfaaGreat.EV
namespace Go.Proofs.YtdijhifdjbnkfaaGreat.SG
open Go Go.RowKit Go.Proofs.YtdijhifdjbnkfaaGreat.MM
open Go.Proofs.YtdijhifdjbnkfaaGreat.EV (docC evC fldC doc_at IntLeft sizeW)
open Go.Proofs.YtdijhifdjbnkfaaGreat.EM (sizeF)
open Go.Proofs.YtdijhifdjbnkfaaGreat.SM (Doc)
open Go.Proofs.YtdijhifdjbnkfaaGreat.GM (sumW sumW_next sumW_take)
theorem sizeW_small {fs:List EM.Fld} (h:sizeF fs≤1000000):sizeW fs=((16+sizeF fs:Nat):Int):=by
 unfold sizeW
 rw [IntWalk.wrap64_in _ ⟨by omega,by omega⟩]
 omega
set_option maxRecDepth 100000 in
set_option maxHeartbeats 2000000 in
theorem sizes_any (v:Value) (l:List Doc) (w:World) (hv:RAny docC w v l) (hs:sumW l≤100000):Calls Tryz.prog 74 #[v] w (IntLeft (sumW l:Int) w):=by
 obtain ⟨p,cap,rfl,hlc,hcm,_⟩:=hv.shape
 unfold maxLen at hcm
 obtain ⟨M,hM⟩:∃ M,sumW l=M:=⟨_,rfl⟩
 have HM:Hid (sumW (l.take l.length)=M):=Lib.hid (by rw [List.take_length];exact hM)
 have HTK:=Lib.hid (fun k=>hM▸sumW_take l k)
 have HNX:=Lib.hid (fun (k:Nat) (hk:k<l.length)=>sumW_next hk)
 have HV:=Lib.hid hv
 have H0:Hid (sumW (l.take 0)=0):=Lib.hid (by simp [sumW])
 rw [hM] at hs ⊢
 clear hv hM
 go_enter Tryz.func74,Tryz.ntmps74
 go_wp2_with fail
 go_loopw [3,8] (fun sv iv wr=>∃ (i s:Nat),i≤l.length∧iv=.int .i64 i∧sv=.int .i64 s∧s≤100000∧Hid (sumW (l.take i)=s)∧Hid (Below w.heap.size w wr)) (fun _ iv _=>l.length - (intOf iv).toNat)
 case atStart=>exact ⟨0,0,by omega,rfl,rfl,by omega,H0,Lib.hid (Below.refl _ _)⟩
 case round =>
  obtain ⟨i,s,hi,rfl,rfl,hs0,HI,HB⟩:=hrel
  clear H0
  by_cases hlt:i<l.length
  ·have q1:decide ((i:Int)<(l.length:Int))=true:=by rw [decide_eq_true_eq];omega
   have q2:decide (i<l.length)=true:=by rw [decide_eq_true_eq];omega
   have q3:(i:Int)<(l.length:Int):=by omega
   obtain ⟨b,off,vf,rfl,hbl,_,c1,c2,c3,hf⟩:=doc_at (HV.out.below HB.out) hlt
   have hnx:=HNX.out i hlt
   have htk:=HTK.out (i+1)
   obtain ⟨⟨sq,⟨at_,fs⟩⟩,hd⟩:∃ d,l[i]=d:=⟨_,rfl⟩
   rw [hd] at c1 c2 hf hnx
   dsimp only at c1 c2 hf hnx
   rw [HI.out] at hnx
   have hle:s+sizeF fs≤100000:=by omega
   have hz:=sizeW_small (fs:=fs) (by omega)
   have hz0:sizeW ([]:List EM.Fld)=((16:Nat):Int):=by rw [sizeW_small (by simp [sizeF])];simp [sizeF]
   obtain ⟨F,hF⟩:∃ F,sizeF fs=F:=⟨_,rfl⟩
   rw [hF] at hz hnx hle
   obtain ⟨pf,cf,rfl,_⟩:=hf.shape
   obtain ⟨w1,hw1⟩:∃ w1,wr.alloc (.cells #[.int .i64 sq,.int .i64 at_,.slice pf fs.length cf] 59)=w1:=⟨_,rfl⟩
   have hb1:Below wr.heap.size wr w1:=by rw [← hw1];exact (Below.refl _ _).alloc (Nat.le_refl _) _
   have HB1:=Lib.hid (HB.out.trans (hb1.mono HB.out.size))
   have hC:=EV.size_any at_ (.slice pf fs.length cf) fs w1 (hf.any.below hb1)
   have hC2:=fun W=>EV.size_any 0 (.slice none 0 0) [] W (ROn.nil_ _ _)
   rw [hz] at hC
   simp only [hz0] at hC2
   have HC:=Lib.hid hC
   have HC2:=Lib.hid hC2
   have HW1:=Lib.hid hw1
   have HN:=Lib.hid hnx
   have HLT:=Lib.hid hlt
   clear hb1 hw1 hf HB hC hC2 hz hz0 hF hnx htk hd HI hlt
   go_wp2_with fail
   rw [HW1.out]
   refine HC.out.mono ?_
   rintro e w2 ⟨rfl,hb2⟩
   have HB2:=Lib.hid (HB1.out.trans (hb2.mono HB1.out.size))
   clear hb2 HC HW1 HB1 c1 c2 c3
   go_wp2_with fail
   refine (HC2.out _).mono ?_
   rintro e w3 ⟨rfl,hb3⟩
   have HB3:=Lib.hid (HB2.out.trans (hb3.mono HB2.out.size))
   clear hb3 HC2 HB2
   go_wp2_with fail
   have hlt:=HLT.out
   go_roundw
   case rel=>exact ⟨i+1,s+F,by omega,by go_num,by go_num,by omega,HN,HB3⟩
   case measure=>simp [intOf];omega
  ·obtain rfl:i=l.length:=by omega
   have q1:decide ((l.length:Int)<(l.length:Int))=false:=by simp
   have q2:decide (l.length<l.length)=false:=by simp
   have hn:=HI.out
   rw [HM.out] at hn
   subst hn
   clear HI hlt HM HTK
   go_wp2_with fail
   go_ret
   exact ⟨rfl,HB.out⟩
end Go.Proofs.YtdijhifdjbnkfaaGreat.SG
namespace Go.Proofs.YtdijhifdjbnkfaaGreat.EV
open Go Go.RowKit Go.Proofs.YtdijhifdjbnkfaaGreat.MM Go.Proofs.YtdijhifdjbnkfaaGreat.EM
theorem intE:Elem cInt Tryz.prog 69 3 8:=⟨Tryz.underlying69,by
 have h:(Tryz.prog.info? 3).map (fun i=>(i.zero,i.size,i.bytes))=some (some (.int .i64 0),1,8):=by kernel_rfl
 obtain ⟨i,h1,h2,h3,h4⟩:=info_parts h
 exact ⟨i,_,h1,h2,h3,h4,rfl⟩⟩
def IntsOf (w:World) (b:Nat):Prop:=∃ cur fr,w.heap[b]? = some (.cells cur 3 fr)
def trmC:Codec Trm:=cPair cStr (cRow cInt)
theorem trm_on {S:Nat→Prop} {w:World} {cs:List Value} {t:Trm}:trmC.on S w cs t↔∃ v,cs=[.string ⟨t.1.toArray⟩,v]∧ROn cInt S w v t.2:=by
 constructor
 ·rintro ⟨x,y,rfl,hx,v,hy,hr⟩
  have hx:x=[.string ⟨t.1.toArray⟩]:=hx
  exact ⟨v,by rw [hx,hy];rfl,hr⟩
 ·rintro ⟨v,rfl,hr⟩
  exact ⟨[_],[v],rfl,rfl,v,rfl,hr⟩
theorem addP_len_le {α:Type}:∀ (l:List (EM.Tr α)) (s:List UInt8) (p:α),(addP l s p).length≤l.length+1
 | [],s,p=>by simp [addP]
 | t::r,s,p=>by
   have ih:=addP_len_le r s p
   rw [addP]
   split
   ·simp only [List.length_cons];omega
   ·split<;>simp
theorem ints_lit (w:World) (zs:List Int) (hl:zs.length≤maxLen):RAny cInt (w.alloc (.cells (zs.map fun z=>Value.int .i64 z).toArray 3)) (.slice (some ⟨w.heap.size,0,none⟩) zs.length zs.length) zs:=by
 have:=ron_lit (C:=cInt) (S:=fun _=>True) (e:=3) w (zs.map fun z=>[.int .i64 z]) zs hl ⟨by simp,fun i hi hi'=>by rw [List.getElem_map];rfl⟩
 rw [flat_singles] at this
 exact this.any
theorem trm_at {S:Nat→Prop} {w:World} {p:Option Addr} {n cap:Nat} {ts:List Trm} (h:ROn trmC S w (.slice p n cap) ts) {k:Nat} (hk:k<ts.length) :
  ∃ b off v,p=some ⟨b,off,none⟩∧b<w.heap.size∧S b∧w.cell? ⟨b,off+k*2,none⟩=some (.string ⟨ts[k].1.toArray⟩)∧w.cell? ⟨b,off+k*2+1,none⟩=some v∧ROn cInt S w v ts[k].2:=by
 obtain ⟨b,off,vs,hp,hlt,hS,hon,hc⟩:=h.at_ hk
 rw [trm_on] at hon
 obtain ⟨v,rfl,hr⟩:=hon
 exact ⟨b,off,v,hp,hlt,hS,hc 0 _ rfl,hc 1 _ rfl,hr⟩
def RNew (B:Nat) (w:World) (v:Value) (T:List Trm):Prop:=ROn trmC (fun b=>B≤b) w v T
theorem RNew.below {B:Nat} {w w':World} {v:Value} {T:List Trm} (h:RNew B w v T) (hb:Below w.heap.size w w'):RNew B w' v T:=ROn.keep h (kep_below _ hb) fun _ _ h=>h
def TermsNew (T:List Trm) (w:World) (e:Ending) (w':World):Prop:=∃ u,e=.returned u∧RNew w.heap.size w' u T∧Below w.heap.size w w'
end Go.Proofs.YtdijhifdjbnkfaaGreat.EV
namespace Go.Proofs.YtdijhifdjbnkfaaGreat.MM
open Go Go.RowKit
def cVal:Codec Value where
 size:=1
 on:=fun _ _ vs u=>vs=[u]∧u.oneCell'=true
 pos:=by decide
 len:=fun h=>by rw [h.1];rfl
 keep:=fun h _ _=>h
 one:=fun h u hu=>by rw [h.1] at hu;simp at hu;rw [hu];exact h.2
abbrev RawP:=List UInt8×Value
def rawP:Codec RawP:=cPair cStr cVal
theorem raw_on {S:Nat→Prop} {w:World} {vs:List Value} {p:RawP}:rawP.on S w vs p↔vs=[.string ⟨p.1.toArray⟩,p.2]∧p.2.oneCell'=true:=by
 constructor
 ·rintro ⟨x,y,h,h1,h2,h3⟩
  have h1:x=[.string ⟨p.1.toArray⟩]:=h1
  exact ⟨by rw [h,h1,h2];rfl,h3⟩
 ·rintro ⟨h,h1⟩
  exact ⟨[.string ⟨p.1.toArray⟩],[p.2],h,rfl,rfl,h1⟩
theorem raw_x {e:TypeId} {B:Nat} {w:World} {v:Value} {ps:List RawP} (h:OwnX rawP e B (fun _=>False) w v ps):OwnC rawP e B w v ps:=by
 obtain ⟨raw,h1,h2⟩:=h
 exact ⟨raw,h1,h2.keep (Kep.refl _ _) fun _ _ h=>h.elim⟩
theorem raw_c {e:TypeId} {B:Nat} {w:World} {v:Value} {ps:List RawP} (h:OwnC rawP e B w v ps):OwnX rawP e B (fun _=>False) w v ps:=by
 obtain ⟨raw,h1,h2⟩:=h
 exact ⟨raw,h1,h2.1,fun i hi hi'=>raw_on.2 (raw_on.1 (h2.2 i hi hi'))⟩
def Free (v:Value) (us:List Value) (b:Nat):Prop:=v.ownBlock≠some b∧∀ u∈us,u.ownBlock≠some b
variable {α : Type} {D : Codec α} {e1 e2 : TypeId} {B : Nat}
structure RowsAt (D:Codec α) (e1 e2:TypeId) (B:Nat) (w:World) (v:Value) (us:List Value) (rows:List (List UInt8×List α)):Prop where
 len:us.length=rows.length
 outer:OwnX rawP e1 B (fun _=>False) w v (List.zip (rows.map (·.1)) us)
 inner:∀ i (h:i<us.length) (h':i<rows.length),OwnX D e2 B (Free v us) w us[i] rows[i].2
 apart:∀ i j (h:i<us.length) (h':j<us.length) g,us[i].ownBlock=some g→us[j].ownBlock=some g→i=j
variable {w : World} {v : Value} {us : List Value} {rows : List (List UInt8 × List α)}
theorem RowsAt.kep {w':World} (h:RowsAt D e1 e2 B w v us rows) (hk:Kep (fun _=>True) w w'):RowsAt D e1 e2 B w' v us rows :=
 ⟨h.len,h.outer.keep hk (fun _ _ _=>trivial) (fun _ _=>trivial),fun i hi hi'=>(h.inner i hi hi').keep hk (fun _ _ _=>trivial) (fun _ _=>trivial),h.apart⟩
theorem RowsAt.below {w':World} (h:RowsAt D e1 e2 B w v us rows) (hb:Below w.heap.size w w'):RowsAt D e1 e2 B w' v us rows:=h.kep (kep_below _ hb)
theorem RowsAt.zlen (h:RowsAt D e1 e2 B w v us rows):(List.zip (rows.map (·.1)) us).length=rows.length:=by rw [List.length_zip,List.length_map,h.len,Nat.min_self]
theorem RowsAt.shape (h:RowsAt D e1 e2 B w v us rows):∃ p cap,v=.slice p rows.length cap∧rows.length≤cap∧cap≤maxLen∧(p=none→cap=0):=by
 have:=h.outer.any.shape
 rw [h.zlen] at this
 exact this
theorem RowsAt.one (h:RowsAt D e1 e2 B w v us rows) {i:Nat} (hi:i<us.length):us[i].oneCell'=true:=(h.inner i hi (by rw [← h.len];exact hi)).any.oneCell
theorem RowsAt.olt (h:RowsAt D e1 e2 B w v us rows) {g:Nat} (hg:v.ownBlock=some g):B≤g∧g<w.heap.size:=⟨(h.outer.cells hg).1,(h.outer.cells hg).2.1⟩
theorem RowsAt.ilt (h:RowsAt D e1 e2 B w v us rows) {i:Nat} (hi:i<us.length) {g:Nat} (hg:us[i].ownBlock=some g):B≤g∧g<w.heap.size :=
 have:=(h.inner i hi (by rw [← h.len];exact hi)).cells hg;⟨this.1,this.2.1⟩
theorem RowsAt.out (h:RowsAt D e1 e2 B w v us rows) (he:e1≠e2) {i:Nat} (hi:i<us.length) {g:Nat} (hg:us[i].ownBlock=some g):v.ownBlock≠some g:=fun hv=>by
 obtain ⟨_,_,c1,f1,h1⟩:=h.outer.cells hv
 obtain ⟨_,_,c2,f2,h2⟩:=(h.inner i hi (by rw [← h.len];exact hi)).cells hg
 rw [h1] at h2
 simp only [Option.some.injEq,Obj.cells.injEq] at h2
 exact he h2.2.1
theorem RowsAt.at_ (h:RowsAt D e1 e2 B w v us rows) {k:Nat} (hk:k<us.length) (hk':k<rows.length):∃ g cap,v=.slice (some ⟨g,0,none⟩) rows.length cap∧g<w.heap.size∧B≤g ∧
  w.cell? ⟨g,k*2,none⟩=some (.string ⟨rows[k].1.toArray⟩)∧w.cell? ⟨g,k*2+1,none⟩=some us[k]∧(∀ j,w.frozen? ⟨g,j,none⟩=false):=by
 have hz:=h.zlen
 have hkz:k<(List.zip (rows.map (·.1)) us).length:=by rw [hz];exact hk'
 have hC:=raw_x h.outer
 obtain ⟨p,cap,hv,hle,_,hp⟩:=h.shape
 have ho:=h.outer
 obtain ⟨raw,ho1,_⟩:=ho
 rcases ho1.2 with ⟨_,h0⟩ | ⟨g,cap',cur,hv',hg,hh,_⟩
 ·rw [hz] at h0;omega
 ·rw [hz] at hv'
  rw [hv'] at hC
  obtain ⟨vs,hvs,hc,hf,_⟩:=hC.elem hkz
  have hv2:=(raw_on.1 hvs).1
  simp only [List.getElem_zip,List.getElem_map] at hv2
  refine ⟨g,cap',hv',(Array.getElem?_eq_some_iff.1 hh).1,hg,?_,?_,hf⟩
  ·have:=hc 0 _ (by rw [hv2];rfl)
   exact this
  ·exact hc 1 _ (by rw [hv2];rfl)
theorem zip_set {β γ:Type}:∀ (xs:List β) (ys:List γ) (k:Nat) (u:γ) (h1:k<xs.length) (h2:xs.length=ys.length),List.zip xs (ys.set k u)=(List.zip xs ys).set k (xs[k],u)
 | x::xs,y::ys,0,u,_,_=>rfl
 | x::xs,y::ys,k+1,u,h1,h2=>by
   rw [List.set_cons_succ,List.zip_cons_cons,List.zip_cons_cons,List.set_cons_succ,zip_set xs ys k u (by simpa using h1) (by simpa using h2)]
   rfl
theorem RowsAt.hit {w':World} (he:e1≠e2) (h:RowsAt D e1 e2 B w v us rows) {k:Nat} (hk:k<us.length) (hk':k<rows.length) {u':Value} {es:List α} (hu:OwnX D e2 B (fun b=>b<w.heap.size∧Free v us b) w' u' es)
  (hkp:Kep (fun b=>us[k].ownBlock≠some b) w w') (hat:∀ g,u'.ownBlock=some g→us[k].ownBlock=some g∨w.heap.size≤g) {g n cap:Nat} (hv:v=.slice (some ⟨g,0,none⟩) n cap) :
  RowsAt D e1 e2 B (w'.setCell ⟨g,k*2+1,none⟩ u') v (us.set k u') (rows.set k (rows[k].1,es)):=by
 have hvb:v.ownBlock=some g:=by rw [hv];rfl
 have hub:u'.ownBlock≠some g:=fun e=>by
  rcases hat g e with h1 | h1
  ·exact h.out he hk h1 hvb
  ·have:=(h.olt hvb).2;omega
 have hset:Kep (fun b=>b≠g) w' (w'.setCell ⟨g,k*2+1,none⟩ u'):=kep_set (fun h=>h rfl) u'
 have hone:=hu.any.oneCell
 have hfree:∀ b,(b<w.heap.size∧Free v us b)→Free v (us.set k u') b:=fun b ⟨hb,hf⟩=>⟨hf.1,fun u hm e=>by
  rcases List.mem_or_eq_of_mem_set hm with hm | rfl
  ·exact hf.2 u hm e
  ·rcases hat b e with h1 | h1
   ·exact hf.2 _ (List.getElem_mem hk) h1
   ·omega⟩
 have hfin:∀ {u:Value} {xs:List α},OwnX D e2 B (fun b=>b<w.heap.size∧Free v us b) w' u xs→u.ownBlock≠some g→OwnX D e2 B (Free v (us.set k u')) (w'.setCell ⟨g,k*2+1,none⟩ u') u xs:=fun h1 hne =>
  OwnX.weak (h1.keep hset (fun b _ hb e=>hb.2.1 (by rw [e];exact hvb)) (fun b hb e=>hne (by rw [← e];exact hb))) fun b _ hb=>hfree b hb
 have houter:OwnX rawP e1 B (fun _=>False) w' v (List.zip (rows.map (·.1)) us):=h.outer.keep hkp (fun _ _ h=>h.elim) fun g' hg'=>fun e=>h.out he hk e hg'
 refine ⟨by rw [List.length_set,List.length_set];exact h.len,?_,fun i hi hi' => ?_,fun i j hi hj b hib hjb => ?_⟩
 ·have hz:k<(List.zip (rows.map (·.1)) us).length:=by rw [h.zlen];exact hk'
  have hC:=raw_x houter
  rw [hv] at hC
  obtain ⟨vs,hvs,_,_,hst⟩:=hC.elem hz
  have hv2:=(raw_on.1 hvs).1
  have hnew:=hst 1 u' (rows[k].1,u') (by show 1<2;omega) (raw_on.2 ⟨by rw [hv2];simp,hone⟩)
  have e1':List.zip ((rows.set k (rows[k].1,es)).map (·.1)) (us.set k u')=(List.zip (rows.map (·.1)) us).set k (rows[k].1,u'):=by
   rw [List.map_set]
   have:(rows.map (·.1)).set k rows[k].1=rows.map (·.1):=by
    apply List.ext_getElem (by simp)
    intro i hi hi'
    rw [List.getElem_set]
    split
    ·rename_i hik;subst hik;simp
    ·rfl
   rw [this,zip_set _ _ _ _ (by simpa using hk') (by rw [List.length_map,h.len])]
   simp
  rw [e1',hv]
  exact raw_c hnew
 ·rw [List.length_set] at hi hi'
  by_cases hik:k=i
  ·subst hik
   simp only [List.getElem_set_self]
   exact hfin hu hub
  ·rw [List.getElem_set_ne hik,List.getElem_set_ne hik]
   exact hfin ((OwnX.weak (h.inner i hi hi') fun b hb hf=>⟨hb,hf⟩).keep hkp (fun b _ hf=>hf.2.2 _ (List.getElem_mem hk)) (fun b hb e=>hik (h.apart k i hk hi b e hb))) (fun e=>h.out he hi e hvb)
 ·rw [List.length_set] at hi hj
  by_cases hki:k=i
  ·by_cases hkj:k=j
   ·omega
   ·subst hki
    rw [List.getElem_set_self] at hib
    rw [List.getElem_set_ne hkj] at hjb
    rcases hat b hib with h1 | h1
    ·exact h.apart k j hk hj b h1 hjb
    ·have:=(h.ilt hj hjb).2;omega
  ·rw [List.getElem_set_ne hki] at hib
   by_cases hkj:k=j
   ·subst hkj
    rw [List.getElem_set_self] at hjb
    rcases hat b hjb with h1 | h1
    ·exact h.apart i k hi hk b hib h1
    ·have:=(h.ilt hi hib).2;omega
   ·rw [List.getElem_set_ne hkj] at hjb
    exact h.apart i j hi hj b hib hjb
theorem RowsAt.any (h:RowsAt D e1 e2 B w v us rows):RAny (cPair cStr (cRow D)) w v rows:=by
 obtain ⟨p,cap,raw,hv,h1,h2,h3,hm,hc⟩:=h.outer.any
 rw [h.zlen] at hv h1
 refine ⟨p,cap,raw,hv,h1,h2,h3,⟨by rw [hm.1,h.zlen],fun i hi hi' => ?_⟩,?_⟩
 ·have hz:i<(List.zip (rows.map (·.1)) us).length:=by rw [← hm.1];exact hi
  have hiu:i<us.length:=by rw [h.len];exact hi'
  have:=raw_on.1 (hm.2 i hi hz)
  simp only [List.getElem_zip,List.getElem_map] at this
  exact ⟨[.string ⟨rows[i].1.toArray⟩],[us[i]],this.1,rfl,us[i],rfl,(h.inner i hiu hi').any⟩
 ·rcases hc with hc | hc
  ·left
   have:=h.zlen
   rw [hc] at this
   exact List.eq_nil_of_length_eq_zero this.symm
  ·exact .inr hc
end Go.Proofs.YtdijhifdjbnkfaaGreat.MM
namespace Go.Proofs.YtdijhifdjbnkfaaGreat.SG
open Go Go.RowKit Go.Proofs.YtdijhifdjbnkfaaGreat.MM
open Go.Proofs.YtdijhifdjbnkfaaGreat.EM (lessL less_bytes)
def postC:Codec (Int×List Int):=cPair cInt (cRow cInt)
end Go.Proofs.YtdijhifdjbnkfaaGreat.SG
namespace Go.Proofs.YtdijhifdjbnkfaaGreat.ST
open Go Go.RowKit Go.Proofs.YtdijhifdjbnkfaaGreat.MM Go.Proofs.YtdijhifdjbnkfaaGreat.EM Go.Proofs.YtdijhifdjbnkfaaGreat.SM
open Go.Proofs.YtdijhifdjbnkfaaGreat.EV (docC evC fldC doc_at BoolLeft IntLeft)
def errC (b:Bool):Int:=if b then 0 else 120
set_option maxRecDepth 100000 in
set_option maxHeartbeats 4000000 in
theorem ccheck_any (v:Value) (l:List Doc) (w:World) (hv:RAny docC w v l):Calls Tryz.prog 38 #[v] w (IntLeft (errC (isS l)) w):=by
 obtain ⟨p,cap,rfl,hlc,hcm,_⟩:=hv.shape
 unfold maxLen at hcm
 by_cases hl:l.length≤65536
 ·obtain ⟨RES,hRES⟩:∃ RES,isS l=RES:=⟨_,rfl⟩
  have h0:isR 0 (l.drop 0)=RES:=by rw [← hRES];unfold isS;rw [decide_eq_true hl];simp
  have q0:decide ((l.length:Int)>65536)=false:=by rw [decide_eq_false_iff_not];omega
  have q00:decide (65536<l.length)=false:=decide_eq_false (by omega)
  rw [hRES]
  have H0:=Lib.hid h0
  have HV:=Lib.hid hv
  clear h0 hRES hv
  go_enter Tryz.func38,Tryz.ntmps38
  go_wp2_with fail
  go_loopw [3,11] (fun lv iv wr=>∃ (i:Nat) (z:Int),i≤l.length∧iv=.int .i64 i∧lv=.int .i64 z∧Hid (isR z (l.drop i)=RES)∧Hid (Below w.heap.size w wr)) (fun _ iv _=>l.length - (intOf iv).toNat)
  case atStart=>exact ⟨0,0,by omega,rfl,rfl,H0,Lib.hid (Below.refl _ _)⟩
  case round =>
   obtain ⟨i,z,hi,rfl,rfl,HI,HB⟩:=hrel
   clear H0
   by_cases hlt:i<l.length
   ·have q1:decide ((i:Int)<(l.length:Int))=true:=by rw [decide_eq_true_eq];omega
    have q2:decide (i<l.length)=true:=by rw [decide_eq_true_eq];omega
    have q3:(i:Int)<(l.length:Int):=by omega
    obtain ⟨b,off,vf,rfl,hbl,_,c1,c2,c3,hf⟩:=doc_at (HV.out.below HB.out) hlt
    have hnx:=HI.out
    rw [isR_step hlt] at hnx
    obtain ⟨⟨sq,⟨at_,fs⟩⟩,hd⟩:∃ d,l[i]=d:=⟨_,rfl⟩
    rw [hd] at c1 c2 hf hnx
    dsimp only at c1 c2 hf hnx
    obtain ⟨pf,cf,rfl,_⟩:=hf.shape
    unfold okS at hnx
    dsimp only at hnx
    obtain ⟨q,hq⟩:∃ q,wr.heap.size=q:=⟨_,rfl⟩
    obtain ⟨w1,hw1⟩:∃ w1,wr.alloc (.cells #[.int .i64 sq,.int .i64 at_,.slice pf fs.length cf] 59)=w1:=⟨_,rfl⟩
    have hb1:Below wr.heap.size wr w1:=by rw [← hw1];exact (Below.refl _ _).alloc (Nat.le_refl _) _
    have T1:Hid (Three w1 q 59 (.int .i64 sq) (.int .i64 at_) (.slice pf fs.length cf)):=Lib.hid (by rw [← hw1,← hq];exact three_new wr 59 _ _ _)
    have HB1:=Lib.hid (HB.out.trans (hb1.mono HB.out.size))
    have HC:=Lib.hid (EV.check_any at_ (.slice pf fs.length cf) fs w1 (hf.any.below hb1))
    have HW1:=Lib.hid hw1
    clear hb1 hw1 hf HB
    by_cases h1:z<sq
    ·by_cases h2:sq≤1099511627776
     ·have t1:decide (sq≤z)=false:=by rw [decide_eq_false_iff_not];omega
      have t2:decide (sq>1099511627776)=false:=by rw [decide_eq_false_iff_not];omega
      have t3:decide (1099511627776<sq)=false:=by rw [decide_eq_false_iff_not];omega
      rw [decide_eq_true h1,decide_eq_true h2,Bool.true_and,Bool.true_and] at hnx
      have HN:=Lib.hid hnx
      have HLT:=Lib.hid hlt
      clear HI hnx hd h1 h2 hlt
      go_wp2_with fail
      rw [HW1.out]
      refine HC.out.mono ?_
      rintro e w2 ⟨rfl,hb2⟩
      have HB2:=Lib.hid (HB1.out.trans (hb2.mono HB1.out.size))
      obtain ⟨f0,f1,f2⟩:=(T1.out.below hb2 T1.out.lt).cells
      clear hb2 HC c1 c2 c3 T1 HB1
      obtain ⟨c,hc⟩:∃ c,checkE (at_,fs)=c:=⟨_,rfl⟩
      have hn:=HN.out
      rw [hc] at hn ⊢
      by_cases h3:c=0
      ·have t4:(c != 0)=false:=by simp [h3]
       rw [decide_eq_true h3,Bool.true_and] at hn
       have HN2:=Lib.hid hn
       clear HN hn hc h3
       go_wp2_with fail
       have hlt:=HLT.out
       go_roundw
       case rel=>exact ⟨i+1,sq,by omega,by go_num,rfl,HN2,HB2⟩
       case measure=>simp [intOf];omega
      ·have t4:(c != 0)=true:=by simp [h3]
       rw [decide_eq_false h3,Bool.false_and] at hn
       subst hn
       clear HN hc h3
       go_wp2_with fail
       go_ret
       exact ⟨rfl,HB2.out⟩
     ·have t1:decide (sq≤z)=false:=by rw [decide_eq_false_iff_not];omega
      have t2:decide (sq>1099511627776)=true:=by rw [decide_eq_true_eq];omega
      have t3:decide (1099511627776<sq)=true:=by rw [decide_eq_true_eq];omega
      rw [decide_eq_false h2,Bool.and_false,Bool.false_and,Bool.false_and] at hnx
      subst hnx
      have HB9:Hid (Below w.heap.size w (wr.alloc (.cells #[.int .i64 sq,.int .i64 at_,.slice pf fs.length cf] 59))):=Lib.hid (by rw [HW1.out];exact HB1.out)
      clear HI hd h1 h2 HC T1 HB1 HW1
      go_wp2_with fail
      go_ret
      exact ⟨rfl,HB9.out⟩
    ·have t1:decide (sq≤z)=true:=by rw [decide_eq_true_eq];omega
     rw [decide_eq_false h1,Bool.false_and,Bool.false_and,Bool.false_and] at hnx
     subst hnx
     have HB9:Hid (Below w.heap.size w (wr.alloc (.cells #[.int .i64 sq,.int .i64 at_,.slice pf fs.length cf] 59))):=Lib.hid (by rw [HW1.out];exact HB1.out)
     clear HI hd h1 HC T1 HB1 HW1
     go_wp2_with fail
     go_ret
     exact ⟨rfl,HB9.out⟩
   ·obtain rfl:i=l.length:=by omega
    have q1:decide ((l.length:Int)<(l.length:Int))=false:=by simp
    have q2:decide (l.length<l.length)=false:=by simp
    have hn:=HI.out
    rw [isR_end] at hn
    subst hn
    clear HI hlt
    go_wp2_with fail
    go_ret
    exact ⟨rfl,HB.out⟩
 ·have q0:decide ((l.length:Int)>65536)=true:=by rw [decide_eq_true_eq];omega
  have q00:decide (65536<l.length)=true:=decide_eq_true (by omega)
  have e:isS l=false:=by unfold isS;rw [decide_eq_false hl];rfl
  rw [e]
  clear e hv hl
  go_enter Tryz.func38,Tryz.ntmps38
  go_wp2_with fail
  go_ret
  exact ⟨rfl,Below.refl _ _⟩
end Go.Proofs.YtdijhifdjbnkfaaGreat.ST
namespace Go.Proofs.YtdijhifdjbnkfaaGreat.SG
open Go Go.RowKit Go.Proofs.YtdijhifdjbnkfaaGreat.MM
open Go.Proofs.YtdijhifdjbnkfaaGreat.EV (docC fldC doc_at)
open Go.Proofs.YtdijhifdjbnkfaaGreat.SM (Doc)
end Go.Proofs.YtdijhifdjbnkfaaGreat.SG
namespace Go.Proofs.YtdijhifdjbnkfaaGreat.SG
open Go Go.RowKit Go.Proofs.YtdijhifdjbnkfaaGreat.MM
open Go.Proofs.YtdijhifdjbnkfaaGreat.EV (docC fldC doc_at)
open Go.Proofs.YtdijhifdjbnkfaaGreat.SM (Doc)
end Go.Proofs.YtdijhifdjbnkfaaGreat.SG
