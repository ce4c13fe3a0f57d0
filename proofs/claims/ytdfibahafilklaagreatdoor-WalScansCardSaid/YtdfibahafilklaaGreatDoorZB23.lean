import Derived.Test.YtdfibahafilklaaGreatDoorZB22
import Derived.Deep.AppendLies
import Derived.Test.YtdfibahafilklaaGreatDoorZB7
set_option maxRecDepth 100000
set_option maxHeartbeats 8000000
set_option linter.unusedVariables false
set_option linter.unusedSimpArgs false
namespace Go.Proofs.YtdfibahafilklaaGreatDoor.MM
open Go Go.RowKit
section
variable {α : Type} {C : Codec α}
theorem ron_lit {e:TypeId} {S:Nat→Prop} (w:World) (raw:List (List Value)) (es:List α) (hl:es.length≤maxLen) (hm:Mean C S w raw es) :
  ROn C (fun b=>S b∨b=w.heap.size) (w.alloc (.cells raw.flatten.toArray e)) (.slice (some ⟨w.heap.size,0,none⟩) es.length es.length) es:=by
 have hb:Below w.heap.size w (w.alloc (.cells raw.flatten.toArray e)):=(Below.refl _ _).alloc (Nat.le_refl _) _
 refine ⟨_,_,raw,rfl,Nat.le_refl _,hl,(fun h=>by cases h),hm.keep (kep_below _ hb) fun b _ h=>.inl h,.inr ⟨w.heap.size,0,rfl,by simp,.inr rfl,fun j u hj => ?_⟩⟩
 have:=lit_cells w raw.flatten e j u hj
 rw [add_at] at this
 exact this
variable (C)
def OwnS (e:TypeId) (S:Nat→Prop) (w:World) (v:Value) (es:List α):Prop:=∃ raw,w.ownsRow 0 e C.size v es.length raw.flatten∧Mean C S w raw es∧∀ g,v.ownBlock=some g→¬ S g
variable {C}
theorem own_row_kep {e:TypeId} {size n B:Nat} {S:Nat→Prop} {w w':World} {v:Value} {xs:List Value} (h:w.ownsRow B e size v n xs) (hk:Kep S w w') (hg:∀ g,v.ownBlock=some g→S g):w'.ownsRow B e size v n xs:=by
 refine ⟨h.1,?_⟩
 rcases h.2 with h0 | ⟨g,cap,cur,hv,hb,hh,rest⟩
 ·exact .inl h0
 ·exact .inr ⟨g,cap,cur,hv,hb,by rw [hk.block g (Array.getElem?_eq_some_iff.1 hh).1 (hg g (by rw [hv];rfl))];exact hh,rest⟩
theorem OwnS.keep {e:TypeId} {S T:Nat→Prop} {w w':World} {v:Value} {es:List α} (h:OwnS C e S w v es) (hk:Kep T w w') (hS:∀ b,b<w.heap.size→S b→T b) (hg:∀ g,v.ownBlock=some g→T g):OwnS C e S w' v es:=by
 obtain ⟨raw,h1,h2,h3⟩:=h
 exact ⟨raw,own_row_kep h1 hk hg,⟨h2.1,fun i hi hi'=>C.keep (C.keep (h2.2 i hi hi') (Kep.refl _ _) (T:=fun b=>S b∧b<w.heap.size) fun b hb hs=>⟨hs,hb⟩) (hk.mono' (T:=fun b=>S b∧b<w.heap.size) fun b hb hs=>hS b hb hs.1) fun b hb hs=>hs.1⟩,h3⟩
theorem OwnS.weak {e:TypeId} {S T:Nat→Prop} {w:World} {v:Value} {es:List α} (h:OwnS C e S w v es) (hT:∀ b,b<w.heap.size→S b→T b) (hg:∀ g,v.ownBlock=some g→¬ T g):OwnS C e T w v es:=by
 obtain ⟨raw,h1,h2,h3⟩:=h
 exact ⟨raw,h1,h2.keep (Kep.refl _ _) hT,hg⟩
theorem OwnS.ron {e:TypeId} {S T:Nat→Prop} {w:World} {v:Value} {es:List α} (h:OwnS C e S w v es) (h1:∀ g,v.ownBlock=some g→T g) (h2:∀ b,b<w.heap.size→S b→T b):ROn C T w v es:=by
 obtain ⟨raw,ho,hm,_⟩:=h
 rcases ho.2 with ⟨rfl,h0⟩ | ⟨g,cap,cur,rfl,hg,hh,hnc,hmx,hs,ht⟩
 ·have:es=[]:=List.eq_nil_of_length_eq_zero h0
  subst this
  exact ROn.nil_ _ _
 ·refine ⟨some ⟨g,0,none⟩,cap,raw,rfl,hnc,hmx,(fun h=>by cases h),hm.keep (Kep.refl _ _) h2,.inr ⟨g,0,rfl,(Array.getElem?_eq_some_iff.1 hh).1,h1 g rfl,fun j u hj => ?_⟩⟩
  have:=Lib.cells_of_row hh (es.length*C.size) j u (by rw [ht];exact hj)
  rw [add_at] at this
  exact this
theorem OwnS.any {e:TypeId} {S:Nat→Prop} {w:World} {v:Value} {es:List α} (h:OwnS C e S w v es):RAny C w v es:=h.ron (fun _ _=>trivial) (fun _ _ _=>trivial)
end
end Go.Proofs.YtdfibahafilklaaGreatDoor.MM
namespace Go.Proofs.YtdfibahafilklaaGreatDoor.EV
open Go Go.RowKit MM EM
def fldC:Codec Fld:=cPair cStr cStr
def evC:Codec Ev:=cPair cInt (cRow fldC)
def batC:Codec Bat:=cPair cInt (cRow evC)
theorem fld_on {S:Nat→Prop} {w:World} {cs:List Value} {f:Fld}:fldC.on S w cs f↔cs=[.string ⟨f.1.toArray⟩,.string ⟨f.2.toArray⟩]:=by
 constructor
 ·rintro ⟨x,y,rfl,hx,hy⟩
  have hx:x=[.string ⟨f.1.toArray⟩]:=hx
  have hy:y=[.string ⟨f.2.toArray⟩]:=hy
  rw [hx,hy];rfl
 ·rintro rfl
  exact ⟨[_],[_],rfl,rfl,rfl⟩
theorem ev_on {S:Nat→Prop} {w:World} {cs:List Value} {e:Ev}:evC.on S w cs e↔∃ v,cs=[.int .i64 e.1,v]∧ROn fldC S w v e.2:=by
 constructor
 ·rintro ⟨x,y,rfl,hx,v,hy,hr⟩
  have hx:x=[.int .i64 e.1]:=hx
  exact ⟨v,by rw [hx,hy];rfl,hr⟩
 ·rintro ⟨v,rfl,hr⟩
  exact ⟨[_],[v],rfl,rfl,v,rfl,hr⟩
theorem bat_on {S:Nat→Prop} {w:World} {cs:List Value} {b:Bat}:batC.on S w cs b↔∃ v,cs=[.int .i64 b.1,v]∧ROn evC S w v b.2:=by
 constructor
 ·rintro ⟨x,y,rfl,hx,v,hy,hr⟩
  have hx:x=[.int .i64 b.1]:=hx
  exact ⟨v,by rw [hx,hy];rfl,hr⟩
 ·rintro ⟨v,rfl,hr⟩
  exact ⟨[_],[v],rfl,rfl,v,rfl,hr⟩
theorem fld_at {S:Nat→Prop} {w:World} {p:Option Addr} {n cap:Nat} {fs:List Fld} (h:ROn fldC S w (.slice p n cap) fs) {k:Nat} (hk:k<fs.length) :
  ∃ b off,p=some ⟨b,off,none⟩∧b<w.heap.size∧S b∧w.cell? ⟨b,off+k*2,none⟩=some (.string ⟨fs[k].1.toArray⟩)∧w.cell? ⟨b,off+k*2+1,none⟩=some (.string ⟨fs[k].2.toArray⟩):=by
 obtain ⟨b,off,vs,hp,hlt,hS,hon,hc⟩:=h.at_ hk
 rw [fld_on] at hon
 subst hon
 exact ⟨b,off,hp,hlt,hS,hc 0 _ rfl,hc 1 _ rfl⟩
theorem ev_at {S:Nat→Prop} {w:World} {p:Option Addr} {n cap:Nat} {es:List Ev} (h:ROn evC S w (.slice p n cap) es) {k:Nat} (hk:k<es.length) :
  ∃ b off v,p=some ⟨b,off,none⟩∧b<w.heap.size∧S b∧w.cell? ⟨b,off+k*2,none⟩=some (.int .i64 es[k].1)∧w.cell? ⟨b,off+k*2+1,none⟩=some v∧ROn fldC S w v es[k].2:=by
 obtain ⟨b,off,vs,hp,hlt,hS,hon,hc⟩:=h.at_ hk
 rw [ev_on] at hon
 obtain ⟨v,rfl,hr⟩:=hon
 exact ⟨b,off,v,hp,hlt,hS,hc 0 _ rfl,hc 1 _ rfl,hr⟩
theorem str_list (l:List UInt8):(⟨l.toArray⟩:ByteArray).data.toList=l:=by simp
theorem str_sz (l:List UInt8):(⟨l.toArray⟩:ByteArray).size=l.length:=by rw [Lib.size_eq]
theorem new_two (w:World) (x y:Value) (t:TypeId):(w.alloc (.cells #[x,y] t)).cell? ⟨w.heap.size,0,none⟩=some x∧(w.alloc (.cells #[x,y] t)).cell? ⟨w.heap.size,1,none⟩=some y:=by
 have h0:=lit_cells w [x,y] t 0 x rfl
 have h1:=lit_cells w [x,y] t 1 y rfl
 rw [add_at] at h0 h1
 exact ⟨h0,h1⟩
end Go.Proofs.YtdfibahafilklaaGreatDoor.EV
namespace Go.Proofs.YtdfibahafilklaaGreatDoor.EV
open Go Go.RowKit MM EM
open TK (nameL isname_any risname_any TruthLeft str_size)
theorem name_any (l:List UInt8) (w:World):Calls Tryz.prog 173 #[.string ⟨l.toArray⟩] w (TruthLeft (nameL l) w):=by
 have h:=Lib.hid (isname_any ⟨l.toArray⟩ w)
 rw [str_list] at h
 go_enter Tryz.func173,Tryz.ntmps173
 go_wp2_with fail
 refine h.out.mono ?_
 rintro e w2 ⟨rfl,hb⟩
 have HB:=Lib.hid hb
 clear h hb
 go_wp2_with fail
 go_ret
 exact ⟨rfl,HB.out⟩
theorem rname_any (l:List UInt8) (w:World):Calls Tryz.prog 172 #[.string ⟨l.toArray⟩] w (TruthLeft (nameL l) w):=by
 by_cases h:l.length≤1000000000000
 ·have:=risname_any ⟨l.toArray⟩ w (by rw [str_sz];exact h)
  rw [str_list] at this
  exact this
 ·have e:nameL l=false:=by unfold TK.nameL;rw [decide_eq_false (show ¬ (1≤l.length∧l.length≤32) by omega)];simp
  rw [e]
  have t1:decide ((l.length:Int)<1)=false:=by rw [decide_eq_false_iff_not];omega
  have t2:decide (l.length<1)=false:=by rw [decide_eq_false_iff_not];omega
  have t3:decide ((l.length:Int)>32)=true:=by rw [decide_eq_true_eq];omega
  have t4:decide (32<l.length)=true:=by rw [decide_eq_true_eq];omega
  have hs:=str_sz l
  clear e h
  go_enter Tryz.func172,Tryz.ntmps172
  go_wp2_with fail
  go_ret
  exact ⟨rfl,Below.refl _ _⟩
def IntLeft (z:Int) (w:World) (e:Ending) (w':World):Prop:=e=.returned (.int .i64 z)∧Below w.heap.size w w'
theorem check_any (z:Int) (v:Value) (fs:List Fld) (w:World) (hr:RAny fldC w v fs):Calls Tryz.prog 140 #[.agg #[.int .i64 z,v]] w (IntLeft (checkE (z,fs)) w):=by
 obtain ⟨p,cap,rfl,hlc,hcm,_⟩:=hr.shape
 unfold maxLen at hcm
 by_cases h16:16<fs.length
 ·have t1:decide ((fs.length:Int)>16)=true:=by rw [decide_eq_true_eq];omega
  have e:checkE (z,fs)=3:=by unfold checkE;rw [if_pos h16]
  rw [e]
  clear e hr h16
  have hb:Below w.heap.size w (w.alloc (.cells #[.int .i64 z,.slice p fs.length cap] 87)):=(Below.refl _ _).alloc (Nat.le_refl _) _
  have HB:=Lib.hid hb
  clear hb
  go_enter Tryz.func140,Tryz.ntmps140
  go_wp2_with fail
  go_ret
  exact ⟨rfl,HB.out⟩
 ·have t1:decide ((fs.length:Int)>16)=false:=by rw [decide_eq_false_iff_not];omega
  obtain ⟨RES,hRES⟩:∃ RES,checkE (z,fs)=RES:=⟨_,rfl⟩
  have h0:checkF (fs.drop 0)=RES:=by rw [← hRES];unfold checkE;rw [if_neg h16];rfl
  rw [hRES]
  have hb:Below w.heap.size w (w.alloc (.cells #[.int .i64 z,.slice p fs.length cap] 87)):=(Below.refl _ _).alloc (Nat.le_refl _) _
  have HB:=Lib.hid hb
  have H0:=Lib.hid h0
  have HR:=Lib.hid hr
  clear hb h0 hr hRES h16
  go_enter Tryz.func140,Tryz.ntmps140
  go_wp2_with fail
  go_loopw [12] (fun iv wr=>∃ i:Nat,i≤fs.length∧iv=.int .i64 i∧Hid (checkF (fs.drop i)=RES)∧Hid (Below w.heap.size w wr)) (fun iv _=>fs.length - (intOf iv).toNat)
  case atStart=>exact ⟨0,by omega,rfl,H0,HB⟩
  case round =>
   obtain ⟨i,hi,rfl,HI,HB1⟩:=hrel
   clear H0 HB
   by_cases hlt:i<fs.length
   ·have q1:decide ((i:Int)<(fs.length:Int))=true:=by rw [decide_eq_true_eq];omega
    have q2:decide (i<fs.length)=true:=by rw [decide_eq_true_eq];omega
    obtain ⟨b,off,rfl,hbl,_,c1,c2⟩:=fld_at (HR.out.below HB1.out) hlt
    have hnext:=HI.out
    rw [checkF_next hlt] at hnext
    generalize fs[i].1=n at *
    generalize fs[i].2=x at *
    have HN:=Lib.hid hnext
    have HLT:=Lib.hid hlt
    have hk:=fun W=>name_any n W
    generalize nameL n=nb at *
    have HK:=Lib.hid hk
    have hwr:=HB1.out.size
    clear hnext HI hk hlt
    go_wp2_with fail
    refine (HK.out _).mono ?_
    rintro e w2 ⟨rfl,hb2⟩
    have hb3:Below wr.heap.size wr w2:=((Below.refl _ wr).alloc (Nat.le_refl _) _).trans (hb2.mono (by simp))
    have cx:w2.cell? ⟨wr.heap.size,1,none⟩=some (.string ⟨x.toArray⟩):=(hb2.cell (p:=⟨wr.heap.size,1,none⟩) (by simp)).trans (new_two wr _ _ _).2
    have HB2:=Lib.hid (HB1.out.trans (hb3.mono hwr))
    clear hb2 hb3 HK c1 c2 hwr
    cases nb with
    | false =>
      have hn:=HN.out
      rw [if_pos rfl] at hn
      subst hn
      clear HN
      go_wp2_with fail
      go_ret
      exact ⟨rfl,HB2.out⟩
    | true =>
      by_cases h4:4096<x.length
      ·have q3:decide ((x.length:Int)>4096)=true:=by rw [decide_eq_true_eq];omega
       have hn:=HN.out
       rw [if_neg (by simp),if_pos h4] at hn
       subst hn
       clear HN h4
       go_wp2_with fail
       go_ret
       exact ⟨rfl,HB2.out⟩
      ·have q3:decide ((x.length:Int)>4096)=false:=by rw [decide_eq_false_iff_not];omega
       have hn:=HN.out
       rw [if_neg (by simp),if_neg h4] at hn
       have HN2:=Lib.hid hn
       clear HN h4 hn
       go_wp2_with fail
       have hlt:=HLT.out
       go_roundw
       case rel=>exact ⟨i+1,by omega,by go_num,HN2,HB2⟩
       case measure=>simp [intOf];omega
   ·obtain rfl:i=fs.length:=by omega
    have q1:decide ((fs.length:Int)<(fs.length:Int))=false:=by simp
    have q2:decide (fs.length<fs.length)=false:=by simp
    have hn:=HI.out
    rw [List.drop_length] at hn
    have hn:0=RES:=hn
    subst hn
    clear HI
    go_wp2_with fail
    go_ret
    exact ⟨rfl,HB1.out⟩
def evBox (w:World) (z:Int) (v:Value):World:=w.alloc (.cells #[.int .i64 z,v] 87)
theorem box_below (w:World) (z:Int) (v:Value):Below w.heap.size w (evBox w z v):=(Below.refl _ _).alloc (Nat.le_refl _) _
theorem box_size (w:World) (z:Int) (v:Value):(evBox w z v).heap.size=w.heap.size+1:=by unfold evBox;simp
theorem box_at (w:World) (z:Int) (v:Value):(evBox w z v).cell? ⟨w.heap.size,0,none⟩=some (.int .i64 z)∧(evBox w z v).cell? ⟨w.heap.size,1,none⟩=some v:=new_two w _ _ _
theorem box_in {w wr:World} {z:Int} {v:Value} (h:Below (evBox w z v).heap.size (evBox w z v) wr):wr.cell? ⟨w.heap.size,0,none⟩=some (.int .i64 z)∧wr.cell? ⟨w.heap.size,1,none⟩=some v∧Below w.heap.size w wr :=
 ⟨(h.cell (p:=⟨w.heap.size,0,none⟩) (by rw [box_size];simp)).trans (box_at w z v).1,(h.cell (p:=⟨w.heap.size,1,none⟩) (by rw [box_size];simp)).trans (box_at w z v).2,(box_below w z v).trans (h.mono (by rw [box_size];omega))⟩
theorem rcheck_any (z:Int) (v:Value) (fs:List Fld) (w:World) (hr:RAny fldC w v fs):Calls Tryz.prog 138 #[.agg #[.int .i64 z,v]] w (IntLeft (checkE (z,fs)) w):=by
 obtain ⟨p,cap,rfl,hlc,hcm,_⟩:=hr.shape
 unfold maxLen at hcm
 by_cases h16:16<fs.length
 ·have t1:decide ((fs.length:Int)>16)=true:=by rw [decide_eq_true_eq];omega
  have e:checkE (z,fs)=3:=by unfold checkE;rw [if_pos h16]
  rw [e]
  clear e hr h16
  have HB:=Lib.hid (box_below w z (.slice p fs.length cap))
  go_enter Tryz.func138,Tryz.ntmps138
  go_wp2_with fail
  go_ret
  exact ⟨rfl,HB.out⟩
 ·have t1:decide ((fs.length:Int)>16)=false:=by rw [decide_eq_false_iff_not];omega
  obtain ⟨RES,hRES⟩:∃ RES,checkE (z,fs)=RES:=⟨_,rfl⟩
  have h0:checkF (fs.drop 0)=RES:=by rw [← hRES];unfold checkE;rw [if_neg h16];rfl
  rw [hRES]
  have HB:=Lib.hid (Below.refl (evBox w z (.slice p fs.length cap)).heap.size (evBox w z (.slice p fs.length cap)))
  have H0:=Lib.hid h0
  have HR:=Lib.hid hr
  clear h0 hr hRES h16
  go_enter Tryz.func138,Tryz.ntmps138
  go_wp2_with fail
  go_loopw [3] (fun iv wr=>∃ i:Nat,i≤fs.length∧iv=.int .i64 i∧Hid (checkF (fs.drop i)=RES)∧Hid (Below (evBox w z (.slice p fs.length cap)).heap.size (evBox w z (.slice p fs.length cap)) wr)) (fun iv _=>fs.length - (intOf iv).toNat)
  case atStart=>exact ⟨0,by omega,rfl,H0,HB⟩
  case round =>
   obtain ⟨i,hi,rfl,HI,HB1⟩:=hrel
   clear H0 HB
   obtain ⟨_,cb,hbw⟩:=box_in HB1.out
   by_cases hlt:i<fs.length
   ·have q1:decide ((i:Int)<(fs.length:Int))=true:=by rw [decide_eq_true_eq];omega
    have q2:decide (i<fs.length)=true:=by rw [decide_eq_true_eq];omega
    obtain ⟨b,off,rfl,hbl,_,c1,c2⟩:=fld_at (HR.out.below hbw) hlt
    have hnext:=HI.out
    rw [checkF_next hlt] at hnext
    generalize fs[i].1=n at *
    generalize fs[i].2=x at *
    have HN:=Lib.hid hnext
    have HLT:=Lib.hid hlt
    have hk:=rname_any n wr
    generalize nameL n=nb at *
    have HK:=Lib.hid hk
    have hwr:=HB1.out.size
    have hbw0:=hbw.size
    rw [box_size] at hwr
    clear hnext HI hk hlt hbw
    go_wp2_with fail
    refine HK.out.mono ?_
    rintro e w2 ⟨rfl,hb2⟩
    have cx:w2.cell? ⟨b,off+i*2+1,none⟩=some (.string ⟨x.toArray⟩):=(hb2.cell (p:=⟨b,off+i*2+1,none⟩) hbl).trans c2
    have cb2:w2.cell? ⟨w.heap.size,1,none⟩=some (.slice (some ⟨b,off,none⟩) fs.length cap):=(hb2.cell (p:=⟨w.heap.size,1,none⟩) (show w.heap.size<wr.heap.size by omega)).trans cb
    have HB2:=Lib.hid (HB1.out.trans (hb2.mono HB1.out.size))
    clear hb2 HK c1 c2 cb hwr hbw0
    cases nb with
    | false =>
      have hn:=HN.out
      rw [if_pos rfl] at hn
      subst hn
      clear HN
      go_wp2_with fail
      go_ret
      exact ⟨rfl,(box_in HB2.out).2.2⟩
    | true =>
      by_cases h4:4096<x.length
      ·have q3:decide ((x.length:Int)>4096)=true:=by rw [decide_eq_true_eq];omega
       have hn:=HN.out
       rw [if_neg (by simp),if_pos h4] at hn
       subst hn
       clear HN h4
       go_wp2_with fail
       go_ret
       exact ⟨rfl,(box_in HB2.out).2.2⟩
      ·have q3:decide ((x.length:Int)>4096)=false:=by rw [decide_eq_false_iff_not];omega
       have hn:=HN.out
       rw [if_neg (by simp),if_neg h4] at hn
       have HN2:=Lib.hid hn
       clear HN h4 hn
       go_wp2_with fail
       have hlt:=HLT.out
       go_roundw
       case rel=>exact ⟨i+1,by omega,by go_num,HN2,HB2⟩
       case measure=>simp [intOf];omega
   ·obtain rfl:i=fs.length:=by omega
    have q1:decide ((fs.length:Int)<(fs.length:Int))=false:=by simp
    have q2:decide (fs.length<fs.length)=false:=by simp
    have hn:=HI.out
    rw [List.drop_length] at hn
    have hn:0=RES:=hn
    subst hn
    have HBW:=Lib.hid hbw
    clear HI hbw
    go_wp2_with fail
    go_ret
    exact ⟨rfl,HBW.out⟩
theorem wrap_add (a b:Int):wrap64 (wrap64 a+b)=wrap64 (a+b):=by unfold wrap64;omega
theorem wrap_add2 (a b:Int):wrap64 (a+wrap64 b)=wrap64 (a+b):=by unfold wrap64;omega
def sizeW (fs:List Fld):Int:=wrap64 (16+(sizeF fs:Int))
theorem sizeW_next {fs:List Fld} {k:Nat} (hk:k<fs.length):wrap64 (sizeW (fs.take k)+((fs[k].1.length:Int)+(fs[k].2.length:Int)))=sizeW (fs.take (k+1)):=by
 unfold sizeW
 rw [wrap_add,sizeF_next hk]
 congr 1
 omega
theorem sizeW_small {fs:List Fld} (h:sizeF fs≤1000000000000):sizeW fs=(16+sizeF fs:Nat):=by unfold sizeW wrap64;omega
end Go.Proofs.YtdfibahafilklaaGreatDoor.EV
namespace Go.Proofs.YtdfibahafilklaaGreatDoor.MM
open Go Go.RowKit
section
variable {α : Type} {C : Codec α}
variable (C)
def OwnX (e:TypeId) (B:Nat) (S:Nat→Prop) (w:World) (v:Value) (es:List α):Prop:=∃ raw,w.ownsRow B e C.size v es.length raw.flatten∧Mean C S w raw es
def SrcX (S:Nat→Prop) (w:World) (v:Value) (ds:List α):Prop :=
 ∃ (p:Option Addr) (cap:Nat) (raw:List (List Value)),v=.slice p ds.length cap∧ds.length≤cap∧(p=none→cap=0)∧Mean C S w raw ds∧(ds=[]∨∃ b off,p=some ⟨b,off,none⟩∧∀ j u,raw.flatten[j]? = some u→w.cell? ⟨b,off+j,none⟩=some u)
variable {C}
theorem ROn.src {S:Nat→Prop} {w:World} {v:Value} {ds:List α} (h:ROn C S w v ds):SrcX C S w v ds:=by
 obtain ⟨p,cap,raw,hv,h1,h2,h3,hm,hc⟩:=h
 refine ⟨p,cap,raw,hv,h1,h3,hm,?_⟩
 rcases hc with hc | ⟨b,off,hp,_,_,hc⟩
 ·exact .inl hc
 ·exact .inr ⟨b,off,hp,hc⟩
theorem src_lit {S:Nat→Prop} {w:World} {vs:List Value} {d:α} (e:TypeId) (h:C.on S w vs d):SrcX C S (w.alloc (.cells vs.toArray e)) (.slice (some ⟨w.heap.size,0,none⟩) 1 1) [d]:=by
 refine ⟨_,1,[vs],rfl,Nat.le_refl _,(fun h=>by cases h),⟨rfl,fun i hi hi' => ?_⟩,.inr ⟨w.heap.size,0,rfl,fun j u hj => ?_⟩⟩
 ·obtain rfl:i=0:=(by simpa using hi)
  exact C.keep h (kep_alloc _ _ _) fun _ _ h=>h
 ·rw [List.flatten_singleton] at hj
  have:=lit_cells w vs e j u hj
  rw [add_at] at this
  exact this
theorem OwnX.nil_ (e:TypeId) (B:Nat) (S:Nat→Prop) (w:World):OwnX C e B S w (.slice none 0 0) []:=⟨[],World.ownsRow_nil _ _ _ _,Mean.nil_ _ _⟩
theorem OwnX.cells {e:TypeId} {B:Nat} {S:Nat→Prop} {w:World} {v:Value} {es:List α} (h:OwnX C e B S w v es) {g:Nat} (hg:v.ownBlock=some g):B≤g∧g<w.heap.size∧∃ cur fr,w.heap[g]? = some (.cells cur e fr):=by
 obtain ⟨raw,h1,_⟩:=h
 exact ⟨(own_cells h1 hg).1,(World.ownsRow.lt h1 g hg).2,(own_cells h1 hg).2⟩
theorem OwnX.keep {e:TypeId} {B:Nat} {S T:Nat→Prop} {w w':World} {v:Value} {es:List α} (h:OwnX C e B S w v es) (hk:Kep T w w') (hS:∀ b,b<w.heap.size→S b→T b) (hg:∀ g,v.ownBlock=some g→T g):OwnX C e B S w' v es:=by
 obtain ⟨raw,h1,h2⟩:=h
 refine ⟨raw,own_row_kep h1 hk hg,h2.1,fun i hi hi' => ?_⟩
 exact C.keep (C.keep (h2.2 i hi hi') (Kep.refl _ _) (T:=fun b=>S b∧b<w.heap.size) fun b hb hs=>⟨hs,hb⟩) (hk.mono' (T:=fun b=>S b∧b<w.heap.size) fun b hb hs=>hS b hb hs.1) fun b hb hs=>hs.1
theorem OwnX.weak {e:TypeId} {B:Nat} {S T:Nat→Prop} {w:World} {v:Value} {es:List α} (h:OwnX C e B S w v es) (hT:∀ b,b<w.heap.size→S b→T b):OwnX C e B T w v es:=by
 obtain ⟨raw,h1,h2⟩:=h
 exact ⟨raw,h1,h2.keep (Kep.refl _ _) hT⟩
theorem OwnX.alloc {e:TypeId} {B:Nat} {S:Nat→Prop} {w:World} {v:Value} {es:List α} (h:OwnX C e B S w v es) (o:Obj):OwnX C e B S (w.alloc o) v es:=h.keep (kep_alloc (fun _=>True) w o) (fun _ _ _=>trivial) (fun _ _=>trivial)
theorem OwnX.ron {e:TypeId} {B:Nat} {S T:Nat→Prop} {w:World} {v:Value} {es:List α} (h:OwnX C e B S w v es) (h1:∀ g,v.ownBlock=some g→T g) (h2:∀ b,b<w.heap.size→S b→T b):ROn C T w v es:=by
 obtain ⟨raw,ho,hm⟩:=h
 rcases ho.2 with ⟨rfl,h0⟩ | ⟨g,cap,cur,rfl,hg,hh,hnc,hmx,hs,ht⟩
 ·have:es=[]:=List.eq_nil_of_length_eq_zero h0
  subst this
  exact ROn.nil_ _ _
 ·refine ⟨some ⟨g,0,none⟩,cap,raw,rfl,hnc,hmx,(fun h=>by cases h),hm.keep (Kep.refl _ _) h2,.inr ⟨g,0,rfl,(Array.getElem?_eq_some_iff.1 hh).1,h1 g rfl,fun j u hj => ?_⟩⟩
  have:=Lib.cells_of_row hh (es.length*C.size) j u (by rw [ht];exact hj)
  rw [add_at] at this
  exact this
theorem OwnX.any {e:TypeId} {B:Nat} {S:Nat→Prop} {w:World} {v:Value} {es:List α} (h:OwnX C e B S w v es):RAny C w v es:=h.ron (fun _ _=>trivial) (fun _ _ _=>trivial)
theorem wpList_append_x {P:Program} {T e:TypeId} {bytes:Nat} (E:Elem C P T e bytes) {S:Nat→Prop} {w:World} {ops:Array Oper} {rest:List Oper} {o:Oper} {a:Act} {Q:Exit→Act→World→Prop} (hgd:o.guard=none) (s x:Operand)
  (ho:o.op=.call { callee:=.builtin .append,args:=#[s,x],argTypes:=#[T,T] }) (B:Nat) (v:Value) (es:List α) (hs:a.eval s=v) (hown:OwnX C e B S w v es) (hS:∀ b,b<w.heap.size→S b→Apt e B w b)
  (src:Value) (ds:List α) (hx:a.eval x=src) (hr:SrcX C S w src ds) (hlen:es.length+ds.length≤maxLen) (hby:(es.length+ds.length)*bytes≤140737488355328) (hbase:B≤w.heap.size)
  (h:∀ v' w',OwnX C e B S w' v' (es++ds)→Below B w w'→Kep (fun k=>v.ownBlock≠some k) w w'→wpList P ops Q rest (a.put o.dst v') w'):wpList P ops Q (o::rest) a w:=by
 obtain ⟨p,cap,raw,rfl,h1,h3,hm,hc⟩:=hr
 obtain ⟨i,z,hi,hz,hsz,hbt,hzs⟩:=E.info
 cases p with
 | none =>
   have h0:=h3 rfl
   subst h0
   have hd:ds=[]:=List.eq_nil_of_length_eq_zero (by omega)
   subst hd
   obtain ⟨raw1,g1,g2⟩:=id hown
   refine wpList_append_own_none hgd s x T ho B e i C.size E.under hi v es.length _ hs g1 hx (h v w ?_ (Below.refl _ _) (Kep.refl _ _))
   rw [List.append_nil]
   exact hown
 | some ad =>
   refine wpList_plain hgd fun _ hK => ?_
   obtain ⟨raw1,g1,g2⟩:=hown
   have hlo:∀ k,v.ownBlock=some k→B≤k:=fun k hk=>(World.ownsRow.lt g1 k hk).1
   have hl:raw.flatten.length=ds.length*C.size:=by rw [flat_len hm.lens,hm.1]
   refine wp_append_own _ s x T ho B e i z C.size bytes E.under hi hz hsz hbt hzs C.pos v es.length _ hs g1 ad ds.length cap raw.flatten hx hl ?_ hm.ones hlen hby hbase (fun v' w' h4 hg _ => ?_)
   ·intro j u hj
    rcases hc with hc | ⟨b,off,he,hc⟩
    ·subst hc
     have:raw=[]:=List.eq_nil_of_length_eq_zero (by rw [hm.1];rfl)
     subst this
     simp at hj
    ·obtain rfl:ad=⟨b,off,none⟩:=Option.some.inj he
     rw [add_at]
     exact hc j u hj
   ·have hb:Below B w w':=(Below.refl B _).grown hg hbase hlo
    have hk:Kep (Apt e B w) w w':=kep_grown hg fun k hk hA=>apt_not_own g1 hA hk
    refine hK _ _ (h v' w' ⟨raw1++raw,?_,?_⟩ hb (kep_grown hg fun k hk hne=>hne hk))
    ·rw [List.length_append,List.flatten_append]
     exact h4
    ·have hm2:=g2.append hm
     refine ⟨hm2.1,fun i hi hi' => ?_⟩
     exact C.keep (C.keep (hm2.2 i hi hi') (Kep.refl _ _) (T:=fun b=>S b∧b<w.heap.size) fun b hb hs=>⟨hs,hb⟩) (hk.mono' (T:=fun b=>S b∧b<w.heap.size) fun b hb hs=>hS b hb hs.1) fun b hb hs=>hs.1
theorem wp_append_x1 {P:Program} {T e:TypeId} {bytes:Nat} (E:Elem C P T e bytes) {S:Nat→Prop} {w:World} {o:Oper} {a:Act} {K:Act→World→Prop} {Q:Exit→Act→World→Prop} (s x:Operand)
  (ho:o.op=.call { callee:=.builtin .append,args:=#[s,x],argTypes:=#[T,T] }) (B:Nat) (v:Value) (es:List α) (w0:World) (vs:List Value) (d:α) (hw:w=w0.alloc (.cells vs.toArray e)) (hs:a.eval s=v) (hown:OwnX C e B S w0 v es) (hS:∀ b,b<w0.heap.size→S b→Apt e B w0 b)
  (hd:C.on S w0 vs d) (hx:a.eval x=.slice (some ⟨w0.heap.size,0,none⟩) 1 1) (hlen:es.length+1≤maxLen) (hby:(es.length+1)*bytes≤140737488355328) (hbase:B≤w0.heap.size)
  (h:∀ v' w',OwnX C e B S w' v' (es++[d])→Below B w0 w'→Kep (fun k=>v.ownBlock≠some k) w w'→(∃ g cap,v'=.slice (some ⟨g,0,none⟩) (es.length+1) cap)→K (a.put o.dst v') w'):o.wp P a w K Q:=by
 subst hw
 have hb0:Below w0.heap.size w0 (w0.alloc (.cells vs.toArray e)):=(Below.refl _ _).alloc (Nat.le_refl _) _
 obtain ⟨i,z,hi,hz,hsz,hbt,hzs⟩:=E.info
 obtain ⟨raw,g1,g2⟩:=hown
 have h1:=own_keep (B:=0) g1 hb0
 have hlo:∀ k,v.ownBlock=some k→B≤k:=fun k hk=>(World.ownsRow.lt h1 k hk).1
 have hl:=C.len hd
 refine wp_append_own _ s x T ho B e i z C.size bytes E.under hi hz hsz hbt hzs C.pos v es.length _ hs h1 ⟨w0.heap.size,0,none⟩ 1 1 vs hx (by rw [hl,Nat.one_mul]) (lit_cells w0 vs e) (C.one hd) hlen hby (by simp;omega) (fun v' w' h3 hg _ => ?_)
 have hb:Below B (w0.alloc (.cells vs.toArray e)) w':=(Below.refl B _).grown hg (by simp;omega) hlo
 have hko:Kep (fun k=>v.ownBlock≠some k) w0 w':=(kep_below _ hb0).trans (kep_grown hg fun k hk hne=>hne hk)
 have hm0:Mean C (fun b=>S b∧b<w0.heap.size) w0 (raw++[vs]) (es++[d]):=(g2.append (Mean.single hd)).keep (Kep.refl _ _) fun b hb hs=>⟨hs,hb⟩
 have hm:Mean C (fun b=>S b∧b<w0.heap.size) w' (raw++[vs]) (es++[d]):=hm0.keep (hko.mono' (T:=fun b=>S b∧b<w0.heap.size) fun b hb hs he=>apt_not_own g1 (hS b hb hs.1) he) fun b hb hs=>hs
 refine h v' w' ⟨raw++[vs],?_,hm.keep (Kep.refl _ _) fun b _ hs=>hs.1⟩ ((hb0.mono hbase).trans hb) (kep_grown hg fun k hk hne=>hne hk) ?_
 ·rw [List.length_append,List.flatten_append,List.flatten_singleton]
  exact h3
 ·rcases h3.2 with ⟨_,h0⟩ | ⟨g,cap,cur,hv,_⟩
  ·omega
  ·exact ⟨g,cap,hv⟩
end
end Go.Proofs.YtdfibahafilklaaGreatDoor.MM
