import Derived.Test.YtdfibahafilklaaGreatDoorZC6
import Derived.Deep.AppendLies
import Derived.Test.YtdfibahafilklaaGreatDoorZC9
set_option maxRecDepth 100000
set_option maxHeartbeats 8000000
set_option linter.unusedVariables false
set_option linter.unusedSimpArgs false
namespace Go.Proofs.YtdfibahafilklaaGreatDoor.MM
open Go Go.RowKit
section
variable {α : Type} {C : Codec α}
theorem ron_lit {e:TypeId} {S:Nat→Prop} (w:World) (raw:List (List Value)) (es:List α) (hl:es.length≤maxLen) (hm:Mean C S w raw es) :
  ROn C (fun b=>S b∨b=w.heap.size) (w.alloc (.cells raw.flatten.toArray e)) (.slice (some ⟨w.heap.size,0,none⟩) es.length es.length) es:=by
 have hb:Below w.heap.size w (w.alloc (.cells raw.flatten.toArray e)):=(Below.refl _ _).alloc (Nat.le_refl _) _
 refine ⟨_,_,raw,rfl,Nat.le_refl _,hl,(fun h=>by cases h),hm.keep (kep_below _ hb) fun b _ h=>.inl h,.inr ⟨w.heap.size,0,rfl,by simp,.inr rfl,fun j u hj => ?_⟩⟩
 have:=lit_cells w raw.flatten e j u hj
 rw [add_at] at this
 exact this
variable (C)
def OwnS (e:TypeId) (S:Nat→Prop) (w:World) (v:Value) (es:List α):Prop:=∃ raw,w.ownsRow 0 e C.size v es.length raw.flatten∧Mean C S w raw es∧∀ g,v.ownBlock=some g→¬ S g
variable {C}
theorem own_row_kep {e:TypeId} {size n B:Nat} {S:Nat→Prop} {w w':World} {v:Value} {xs:List Value} (h:w.ownsRow B e size v n xs) (hk:Kep S w w') (hg:∀ g,v.ownBlock=some g→S g):w'.ownsRow B e size v n xs:=by
 refine ⟨h.1,?_⟩
 rcases h.2 with h0 | ⟨g,cap,cur,hv,hb,hh,rest⟩
 ·exact .inl h0
 ·exact .inr ⟨g,cap,cur,hv,hb,by rw [hk.block g (Array.getElem?_eq_some_iff.1 hh).1 (hg g (by rw [hv];rfl))];exact hh,rest⟩
theorem OwnS.keep {e:TypeId} {S T:Nat→Prop} {w w':World} {v:Value} {es:List α} (h:OwnS C e S w v es) (hk:Kep T w w') (hS:∀ b,b<w.heap.size→S b→T b) (hg:∀ g,v.ownBlock=some g→T g):OwnS C e S w' v es:=by
 obtain ⟨raw,h1,h2,h3⟩:=h
 exact ⟨raw,own_row_kep h1 hk hg,⟨h2.1,fun i hi hi'=>C.keep (C.keep (h2.2 i hi hi') (Kep.refl _ _) (T:=fun b=>S b∧b<w.heap.size) fun b hb hs=>⟨hs,hb⟩) (hk.mono' (T:=fun b=>S b∧b<w.heap.size) fun b hb hs=>hS b hb hs.1) fun b hb hs=>hs.1⟩,h3⟩
theorem OwnS.weak {e:TypeId} {S T:Nat→Prop} {w:World} {v:Value} {es:List α} (h:OwnS C e S w v es) (hT:∀ b,b<w.heap.size→S b→T b) (hg:∀ g,v.ownBlock=some g→¬ T g):OwnS C e T w v es:=by
 obtain ⟨raw,h1,h2,h3⟩:=h
 exact ⟨raw,h1,h2.keep (Kep.refl _ _) hT,hg⟩
theorem OwnS.ron {e:TypeId} {S T:Nat→Prop} {w:World} {v:Value} {es:List α} (h:OwnS C e S w v es) (h1:∀ g,v.ownBlock=some g→T g) (h2:∀ b,b<w.heap.size→S b→T b):ROn C T w v es:=by
 obtain ⟨raw,ho,hm,_⟩:=h
 rcases ho.2 with ⟨rfl,h0⟩ | ⟨g,cap,cur,rfl,hg,hh,hnc,hmx,hs,ht⟩
 ·have:es=[]:=List.eq_nil_of_length_eq_zero h0
  subst this
  exact ROn.nil_ _ _
 ·refine ⟨some ⟨g,0,none⟩,cap,raw,rfl,hnc,hmx,(fun h=>by cases h),hm.keep (Kep.refl _ _) h2,.inr ⟨g,0,rfl,(Array.getElem?_eq_some_iff.1 hh).1,h1 g rfl,fun j u hj => ?_⟩⟩
  have:=Lib.cells_of_row hh (es.length*C.size) j u (by rw [ht];exact hj)
  rw [add_at] at this
  exact this
theorem OwnS.any {e:TypeId} {S:Nat→Prop} {w:World} {v:Value} {es:List α} (h:OwnS C e S w v es):RAny C w v es:=h.ron (fun _ _=>trivial) (fun _ _ _=>trivial)
end
end Go.Proofs.YtdfibahafilklaaGreatDoor.MM
namespace Go.Proofs.YtdfibahafilklaaGreatDoor.EV
open Go Go.RowKit MM EM
def fldC:Codec Fld:=cPair cStr cStr
def evC:Codec Ev:=cPair cInt (cRow fldC)
def batC:Codec Bat:=cPair cInt (cRow evC)
theorem fld_on {S:Nat→Prop} {w:World} {cs:List Value} {f:Fld}:fldC.on S w cs f↔cs=[.string ⟨f.1.toArray⟩,.string ⟨f.2.toArray⟩]:=by
 constructor
 ·rintro ⟨x,y,rfl,hx,hy⟩
  have hx:x=[.string ⟨f.1.toArray⟩]:=hx
  have hy:y=[.string ⟨f.2.toArray⟩]:=hy
  rw [hx,hy];rfl
 ·rintro rfl
  exact ⟨[_],[_],rfl,rfl,rfl⟩
theorem ev_on {S:Nat→Prop} {w:World} {cs:List Value} {e:Ev}:evC.on S w cs e↔∃ v,cs=[.int .i64 e.1,v]∧ROn fldC S w v e.2:=by
 constructor
 ·rintro ⟨x,y,rfl,hx,v,hy,hr⟩
  have hx:x=[.int .i64 e.1]:=hx
  exact ⟨v,by rw [hx,hy];rfl,hr⟩
 ·rintro ⟨v,rfl,hr⟩
  exact ⟨[_],[v],rfl,rfl,v,rfl,hr⟩
theorem bat_on {S:Nat→Prop} {w:World} {cs:List Value} {b:Bat}:batC.on S w cs b↔∃ v,cs=[.int .i64 b.1,v]∧ROn evC S w v b.2:=by
 constructor
 ·rintro ⟨x,y,rfl,hx,v,hy,hr⟩
  have hx:x=[.int .i64 b.1]:=hx
  exact ⟨v,by rw [hx,hy];rfl,hr⟩
 ·rintro ⟨v,rfl,hr⟩
  exact ⟨[_],[v],rfl,rfl,v,rfl,hr⟩
theorem fld_at {S:Nat→Prop} {w:World} {p:Option Addr} {n cap:Nat} {fs:List Fld} (h:ROn fldC S w (.slice p n cap) fs) {k:Nat} (hk:k<fs.length) :
  ∃ b off,p=some ⟨b,off,none⟩∧b<w.heap.size∧S b∧w.cell? ⟨b,off+k*2,none⟩=some (.string ⟨fs[k].1.toArray⟩)∧w.cell? ⟨b,off+k*2+1,none⟩=some (.string ⟨fs[k].2.toArray⟩):=by
 obtain ⟨b,off,vs,hp,hlt,hS,hon,hc⟩:=h.at_ hk
 rw [fld_on] at hon
 subst hon
 exact ⟨b,off,hp,hlt,hS,hc 0 _ rfl,hc 1 _ rfl⟩
theorem ev_at {S:Nat→Prop} {w:World} {p:Option Addr} {n cap:Nat} {es:List Ev} (h:ROn evC S w (.slice p n cap) es) {k:Nat} (hk:k<es.length) :
  ∃ b off v,p=some ⟨b,off,none⟩∧b<w.heap.size∧S b∧w.cell? ⟨b,off+k*2,none⟩=some (.int .i64 es[k].1)∧w.cell? ⟨b,off+k*2+1,none⟩=some v∧ROn fldC S w v es[k].2:=by
 obtain ⟨b,off,vs,hp,hlt,hS,hon,hc⟩:=h.at_ hk
 rw [ev_on] at hon
 obtain ⟨v,rfl,hr⟩:=hon
 exact ⟨b,off,v,hp,hlt,hS,hc 0 _ rfl,hc 1 _ rfl,hr⟩
theorem str_list (l:List UInt8):(⟨l.toArray⟩:ByteArray).data.toList=l:=by simp
theorem str_sz (l:List UInt8):(⟨l.toArray⟩:ByteArray).size=l.length:=by rw [Lib.size_eq]
theorem new_two (w:World) (x y:Value) (t:TypeId):(w.alloc (.cells #[x,y] t)).cell? ⟨w.heap.size,0,none⟩=some x∧(w.alloc (.cells #[x,y] t)).cell? ⟨w.heap.size,1,none⟩=some y:=by
 have h0:=lit_cells w [x,y] t 0 x rfl
 have h1:=lit_cells w [x,y] t 1 y rfl
 rw [add_at] at h0 h1
 exact ⟨h0,h1⟩
end Go.Proofs.YtdfibahafilklaaGreatDoor.EV
namespace Go.Proofs.YtdfibahafilklaaGreatDoor.EV
open Go Go.RowKit MM EM
open TK (nameL isname_any TruthLeft)
theorem name_any (l:List UInt8) (w:World):Calls Tryz.prog 173 #[.string ⟨l.toArray⟩] w (TruthLeft (nameL l) w):=by
 have h:=Lib.hid (isname_any ⟨l.toArray⟩ w)
 rw [str_list] at h
 go_enter Tryz.func173,Tryz.ntmps173
 go_wp2_with fail
 refine h.out.mono ?_
 rintro e w2 ⟨rfl,hb⟩
 have HB:=Lib.hid hb
 clear h hb
 go_wp2_with fail
 go_ret
 exact ⟨rfl,HB.out⟩
def IntLeft (z:Int) (w:World) (e:Ending) (w':World):Prop:=e=.returned (.int .i64 z)∧Below w.heap.size w w'
theorem check_any (z:Int) (v:Value) (fs:List Fld) (w:World) (hr:RAny fldC w v fs):Calls Tryz.prog 140 #[.agg #[.int .i64 z,v]] w (IntLeft (checkE (z,fs)) w):=by
 obtain ⟨p,cap,rfl,hlc,hcm,_⟩:=hr.shape
 unfold maxLen at hcm
 by_cases h16:16<fs.length
 ·have t1:decide ((fs.length:Int)>16)=true:=by rw [decide_eq_true_eq];omega
  have e:checkE (z,fs)=3:=by unfold checkE;rw [if_pos h16]
  rw [e]
  clear e hr h16
  have hb:Below w.heap.size w (w.alloc (.cells #[.int .i64 z,.slice p fs.length cap] 87)):=(Below.refl _ _).alloc (Nat.le_refl _) _
  have HB:=Lib.hid hb
  clear hb
  go_enter Tryz.func140,Tryz.ntmps140
  go_wp2_with fail
  go_ret
  exact ⟨rfl,HB.out⟩
 ·have t1:decide ((fs.length:Int)>16)=false:=by rw [decide_eq_false_iff_not];omega
  obtain ⟨RES,hRES⟩:∃ RES,checkE (z,fs)=RES:=⟨_,rfl⟩
  have h0:checkF (fs.drop 0)=RES:=by rw [← hRES];unfold checkE;rw [if_neg h16];rfl
  rw [hRES]
  have hb:Below w.heap.size w (w.alloc (.cells #[.int .i64 z,.slice p fs.length cap] 87)):=(Below.refl _ _).alloc (Nat.le_refl _) _
  have HB:=Lib.hid hb
  have H0:=Lib.hid h0
  have HR:=Lib.hid hr
  clear hb h0 hr hRES h16
  go_enter Tryz.func140,Tryz.ntmps140
  go_wp2_with fail
  go_loopw [12] (fun iv wr=>∃ i:Nat,i≤fs.length∧iv=.int .i64 i∧Hid (checkF (fs.drop i)=RES)∧Hid (Below w.heap.size w wr)) (fun iv _=>fs.length - (intOf iv).toNat)
  case atStart=>exact ⟨0,by omega,rfl,H0,HB⟩
  case round =>
   obtain ⟨i,hi,rfl,HI,HB1⟩:=hrel
   clear H0 HB
   by_cases hlt:i<fs.length
   ·have q1:decide ((i:Int)<(fs.length:Int))=true:=by rw [decide_eq_true_eq];omega
    have q2:decide (i<fs.length)=true:=by rw [decide_eq_true_eq];omega
    obtain ⟨b,off,rfl,hbl,_,c1,c2⟩:=fld_at (HR.out.below HB1.out) hlt
    have hnext:=HI.out
    rw [checkF_next hlt] at hnext
    generalize fs[i].1=n at *
    generalize fs[i].2=x at *
    have HN:=Lib.hid hnext
    have HLT:=Lib.hid hlt
    have hk:=fun W=>name_any n W
    generalize nameL n=nb at *
    have HK:=Lib.hid hk
    have hwr:=HB1.out.size
    clear hnext HI hk hlt
    go_wp2_with fail
    refine (HK.out _).mono ?_
    rintro e w2 ⟨rfl,hb2⟩
    have hb3:Below wr.heap.size wr w2:=((Below.refl _ wr).alloc (Nat.le_refl _) _).trans (hb2.mono (by simp))
    have cx:w2.cell? ⟨wr.heap.size,1,none⟩=some (.string ⟨x.toArray⟩):=(hb2.cell (p:=⟨wr.heap.size,1,none⟩) (by simp)).trans (new_two wr _ _ _).2
    have HB2:=Lib.hid (HB1.out.trans (hb3.mono hwr))
    clear hb2 hb3 HK c1 c2 hwr
    cases nb with
    | false =>
      have hn:=HN.out
      rw [if_pos rfl] at hn
      subst hn
      clear HN
      go_wp2_with fail
      go_ret
      exact ⟨rfl,HB2.out⟩
    | true =>
      by_cases h4:4096<x.length
      ·have q3:decide ((x.length:Int)>4096)=true:=by rw [decide_eq_true_eq];omega
       have hn:=HN.out
       rw [if_neg (by simp),if_pos h4] at hn
       subst hn
       clear HN h4
       go_wp2_with fail
       go_ret
       exact ⟨rfl,HB2.out⟩
      ·have q3:decide ((x.length:Int)>4096)=false:=by rw [decide_eq_false_iff_not];omega
       have hn:=HN.out
       rw [if_neg (by simp),if_neg h4] at hn
       have HN2:=Lib.hid hn
       clear HN h4 hn
       go_wp2_with fail
       have hlt:=HLT.out
       go_roundw
       case rel=>exact ⟨i+1,by omega,by go_num,HN2,HB2⟩
       case measure=>simp [intOf];omega
   ·obtain rfl:i=fs.length:=by omega
    have q1:decide ((fs.length:Int)<(fs.length:Int))=false:=by simp
    have q2:decide (fs.length<fs.length)=false:=by simp
    have hn:=HI.out
    rw [List.drop_length] at hn
    have hn:0=RES:=hn
    subst hn
    clear HI
    go_wp2_with fail
    go_ret
    exact ⟨rfl,HB1.out⟩
def evBox (w:World) (z:Int) (v:Value):World:=w.alloc (.cells #[.int .i64 z,v] 87)
theorem box_below (w:World) (z:Int) (v:Value):Below w.heap.size w (evBox w z v):=(Below.refl _ _).alloc (Nat.le_refl _) _
theorem box_size (w:World) (z:Int) (v:Value):(evBox w z v).heap.size=w.heap.size+1:=by unfold evBox;simp
theorem box_at (w:World) (z:Int) (v:Value):(evBox w z v).cell? ⟨w.heap.size,0,none⟩=some (.int .i64 z)∧(evBox w z v).cell? ⟨w.heap.size,1,none⟩=some v:=new_two w _ _ _
theorem box_in {w wr:World} {z:Int} {v:Value} (h:Below (evBox w z v).heap.size (evBox w z v) wr):wr.cell? ⟨w.heap.size,0,none⟩=some (.int .i64 z)∧wr.cell? ⟨w.heap.size,1,none⟩=some v∧Below w.heap.size w wr :=
 ⟨(h.cell (p:=⟨w.heap.size,0,none⟩) (by rw [box_size];simp)).trans (box_at w z v).1,(h.cell (p:=⟨w.heap.size,1,none⟩) (by rw [box_size];simp)).trans (box_at w z v).2,(box_below w z v).trans (h.mono (by rw [box_size];omega))⟩
theorem wrap_add (a b:Int):wrap64 (wrap64 a+b)=wrap64 (a+b):=by unfold wrap64;omega
theorem wrap_add2 (a b:Int):wrap64 (a+wrap64 b)=wrap64 (a+b):=by unfold wrap64;omega
def sizeW (fs:List Fld):Int:=wrap64 (16+(sizeF fs:Int))
theorem sizeW_next {fs:List Fld} {k:Nat} (hk:k<fs.length):wrap64 (sizeW (fs.take k)+((fs[k].1.length:Int)+(fs[k].2.length:Int)))=sizeW (fs.take (k+1)):=by
 unfold sizeW
 rw [wrap_add,sizeF_next hk]
 congr 1
 omega
theorem sizeW_small {fs:List Fld} (h:sizeF fs≤1000000000000):sizeW fs=(16+sizeF fs:Nat):=by unfold sizeW wrap64;omega
end Go.Proofs.YtdfibahafilklaaGreatDoor.EV
