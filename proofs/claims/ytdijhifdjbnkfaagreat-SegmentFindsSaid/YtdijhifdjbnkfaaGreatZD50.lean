import Derived.Test.YtdijhifdjbnkfaaGreatZD49
set_option maxRecDepth 100000
set_option maxHeartbeats 8000000
set_option linter.unusedVariables false
set_option linter.unusedSimpArgs false
namespace Go.Proofs.YtdijhifdjbnkfaaGreat.SR
open Go Go.RowKit MM VM SM
open EM (Fld Ev)
open EV (fldC docC docE Zgo IsF NewF)
theorem ZgA {f:Nat} {a:Int} {l:List UInt8} {o:Bool}:Zgv (f+1) a l o =
  let k:=Zo4 1099511627776 l o
  let e:=evS k.2.1 k.2.2
  let r:=Zgv f (a+(1+(k.1:Int))) e.2.1 e.2.2
  ((a+(1+(k.1:Int)),e.1)::r.1,r.2):=rfl
theorem Zmv {B:Nat} {w:World} {b:Nat} (h:IsF w b):Apt 59 B w b:=.inr fun cur fr hc=>by
 obtain ⟨c2,f2,h2⟩:=h
 rw [h2] at hc
 simp only [Option.some.injEq,Obj.cells.injEq] at hc
 exact absurd hc.2.1 (by decide)
theorem Zmw {B:Nat} {S:Nat→Prop} {w:World} {v:Value} {es:List Doc} (h:OwnX docC 59 B S w v es) {b:Nat} (hb:IsF w b):v.ownBlock≠some b:=fun e=>by
 obtain ⟨_,_,c1,f1,h1⟩:=h.cells e
 obtain ⟨c2,f2,h2⟩:=hb
 rw [h2] at h1
 simp only [Option.some.injEq,Obj.cells.injEq] at h1
 exact absurd h1.2.1 (by decide)
def Zax (B:Nat) (w:World) (v:Value) (ds:List Doc):Prop:=∃ S:Nat→Prop,(∀ b,S b→B≤b∧IsF w b)∧OwnX docC 59 B S w v ds
theorem Zax.nil_ (B:Nat) (w:World):Zax B w (.slice none 0 0) []:=⟨fun _=>False,fun _ h=>h.elim,OwnX.nil_ _ _ _ _⟩
theorem Zax.keep {T:Nat→Prop} {B:Nat} {w w':World} {v:Value} {ds:List Doc} (h:Zax B w v ds) (hk:Kep T w w') (hT:∀ b,B≤b→b<w.heap.size→T b):Zax B w' v ds:=by
 obtain ⟨S,h1,h2⟩:=h
 exact ⟨S,fun b hb=>⟨(h1 b hb).1,(h1 b hb).2.keep hk (hT b (h1 b hb).1 (h1 b hb).2.lt)⟩,h2.keep hk (fun b hlt hb=>hT b (h1 b hb).1 hlt) (fun g hg=>hT g (h2.cells hg).1 (h2.cells hg).2.1)⟩
theorem Zax.cells {B:Nat} {w:World} {v:Value} {ds:List Doc} (h:Zax B w v ds) {g:Nat} (hg:v.ownBlock=some g):B≤g∧g<w.heap.size:=by
 obtain ⟨S,h1,h2⟩:=h
 exact ⟨(h2.cells hg).1,(h2.cells hg).2.1⟩
theorem Zax.any {B:Nat} {w:World} {v:Value} {ds:List Doc} (h:Zax B w v ds):RAny docC w v ds:=by
 obtain ⟨S,h1,h2⟩:=h
 exact h2.any
theorem Zax.base {B B':Nat} {w:World} {v:Value} {ds:List Doc} (h:Zax B w v ds) (hB:B'≤B):Zax B' w v ds:=by
 obtain ⟨S,h1,raw,h2,h3⟩:=h
 refine ⟨S,fun b hb=>⟨Nat.le_trans hB (h1 b hb).1,(h1 b hb).2⟩,raw,⟨h2.1,?_⟩,h3⟩
 rcases h2.2 with h0 | ⟨g,cap,cur,hv,hg,rest⟩
 ·exact .inl h0
 ·exact .inr ⟨g,cap,cur,hv,Nat.le_trans hB hg,rest⟩
def Zaf (S:Nat→Prop) (g:Nat) (s:List Doc×List UInt8×Bool) (w:World) (e:Ending) (w':World):Prop :=
 ∃ u,e=.returned u∧Zax w.heap.size w' u s.1∧Rd S w' g s.2.1 s.2.2∧Kep (fun b=>b≠g) w w'
def Zac (S:Nat→Prop) (q:Nat) (v:Value) (w:World):Prop:=∀ b,S b→b<w.heap.size∧b≠q∧v.ownBlock≠some b
theorem ZmI {B:Nat} {S:Nat→Prop} {w:World} {v:Value} {es:List Doc} (h:OwnX docC 59 B S w v es) {b:Nat} (hb:IsU w b):v.ownBlock≠some b:=fun e=>by
 obtain ⟨_,_,c1,f1,h1⟩:=h.cells e
 obtain ⟨c2,f2,h2⟩:=hb
 rw [h2] at h1
 simp only [Option.some.injEq,Obj.cells.injEq] at h1
 exact absurd h1.2.1 (by decide)
theorem Zdq (S:Nat→Prop) (g n sz:Nat) (last a:Int) (l:List UInt8) (o:Bool) (w:World) (h:Rd S w g l o) (hg:¬ S g) (hS:∀ b,S b→b<w.heap.size) (hl:l.length≤1000000000000) (hn:n≤16) (hsz:sz≤1000000000000) (h0:0≤a) (h9:a≤1099511627776) (hl0:0≤last) (hl9:last≤1099511627776) :
  Calls Tryz.prog 158 #[.pointer (some ⟨g,0,none⟩),.agg #[.int .i64 n,.int .i64 last,.int .i64 sz],.int .i64 a] w (Zaf S g (Zc5 ((n:Int),(last,(sz:Int))) a l o) w):=by
 have hmx:Tryz.prog.follows .mixedOrders=true:=by kernel_rfl
 obtain ⟨R,hR⟩:∃ R,w.heap.size=R:=⟨_,rfl⟩
 have hgR:g<R:=by rw [← hR];exact h.lt
 obtain ⟨wa,hwa⟩:∃ wa,w.alloc (.cells #[.int .i64 (n:Int),.int .i64 last,.int .i64 (sz:Int)] 234)=wa:=⟨_,rfl⟩
 have hba:Below w.heap.size w wa:=by rw [← hwa];exact (Below.refl _ _).alloc (Nat.le_refl _) _
 have hsa:wa.heap.size=R+1:=by rw [← hwa,← hR];simp
 have XA:Hid (Zbz wa R 234 (.int .i64 (n:Int)) (.int .i64 last) (.int .i64 (sz:Int))):=Lib.hid (by rw [← hwa,← hR];exact ZxD w 234 _ _ _)
 have HRA:=Lib.hid (h.below hba)
 have HBA:=Lib.hid hba
 have HWA:=Lib.hid hwa
 have HSS:=Lib.hid hS
 obtain ⟨vr,hcr,hvr⟩:=h.below hba
 obtain ⟨pr,cr,rfl,hlc,hcm⟩:=hvr.shape
 have f0:wa.cell? ⟨g,0,none⟩=some (.slice pr l.length cr):=by rw [cell_of_row wa g 0 _ _ _ hcr];rfl
 obtain ⟨x0,x1,x2⟩:=XA.out.cells
 rw [← hwa] at f0 x0 x1 x2
 obtain ⟨NL,hNL⟩:∃ k,l.length=k:=⟨_,rfl⟩
 have HNL:=Lib.hid hNL
 rw [hNL] at f0 hl hlc
 unfold maxLen at hcm
 have HGO:=Lib.hid (fun W o' (h:Rd S W g (l.drop sz) o')=>ZkQ S S g (l.drop sz) [] o' (.slice none 0 0) 120 W h hg (BOn.nil_ _ _))
 by_cases hbig:NL<sz
 ·have q1:decide ((sz:Int)>(NL:Int))=true:=by rw [decide_eq_true_eq];omega
  have q2:decide (NL<sz)=true:=decide_eq_true hbig
  have hst:Zc5 ((n:Int),(last,(sz:Int))) a l o=([],[],true):=by unfold Zc5;rw [if_pos (by dsimp only;omega)]
  rw [hst]
  have HGO1:=Lib.hid (fun W (h:Rd S W g l o)=>ZkQ S S g l [] o (.slice none 0 0) 120 W h hg (BOn.nil_ _ _))
  clear hst hbig hvr hcr h hba hwa
  go_enter Tryz.func158,Tryz.ntmps158
  go_wp2_with fail
  go_quiet (fail)
  go_wp2_with fail
  rw [HWA.out]
  have hbd:Below wa.heap.size wa (wa.drewN nq):=MM.ZcN (Below.refl _ _) nq
  refine (HGO1.out _ (HRA.out.below hbd)).mono ?_
  rintro e w1 ⟨rfl,h1,k1⟩
  have h1':Rd S w1 g [] true:=by have:=h1;simpa using this
  have HQ:Hid (Zaf S g ([],[],true) w (.returned (.slice none 0 0)) w1):=Lib.hid ⟨_,rfl,Zax.nil_ _ _,h1',((ZmT _ HBA.out).trans (ZmT _ hbd)).trans k1⟩
  clear h1 h1' k1 hbd
  go_wp2_with fail
  go_ret
  exact HQ.out
 ·have q1:decide ((sz:Int)>(NL:Int))=false:=by rw [decide_eq_false_iff_not];omega
  have q2:decide (NL<sz)=false:=decide_eq_false hbig
  have q3:(sz:Int)≤(cr:Int):=by omega
  have hnl:¬ ((l.length:Int)<(sz:Int)):=by omega
  have hst:Zc5 ((n:Int),(last,(sz:Int))) a l o=if (Zgv n a (l.take sz) false).2.2.2=true∨(Zgv n a (l.take sz) false).2.2.1≠[]∨(Zgv n a (l.take sz) false).2.1≠last then ((Zgv n a (l.take sz) false).1,[],true) else ((Zgv n a (l.take sz) false).1,l.drop sz,o):=by
   unfold Zc5;dsimp only;rw [if_neg hnl,Int.toNat_natCast,Int.toNat_natCast]
  rw [hst]
  clear hst
  obtain ⟨FIN,hF⟩:∃ f,Zgv n a (l.take sz) false=f:=⟨_,rfl⟩
  rw [hF]
  have HF0:Hid ((([]:List Doc)++(Zgv n a (l.take sz) false).1,(Zgv n a (l.take sz) false).2)=FIN):=Lib.hid (by rw [← hF];rfl)
  obtain ⟨RES,hRES⟩:∃ r,(if FIN.2.2.2=true∨FIN.2.2.1≠[]∨FIN.2.1≠last then (FIN.1,[],true) else (FIN.1,l.drop sz,o))=r:=⟨_,rfl⟩
  rw [hRES]
  have HRES:=Lib.hid hRES
  clear hvr hcr h hba hwa hnl hF hRES
  go_enter Tryz.func158,Tryz.ntmps158
  go_wp2_with fail
  go_quiet (fail)
  go_wp2_with fail
  refine RS.ZcJ (T:=fun _=>True) [(0,true),(1,true),(2,true),(3,true),(4,true),(5,true),(6,true),(7,true),(8,false)] hmx (by kernel_rfl) (fun _ _ d _ _ h=>by cases d<;>exact h) ?_
  simp only [RS.ZpY,List.map_cons,List.map_nil,List.getElem?_toArray,List.getElem?_cons_succ,List.getElem?_cons_zero]
  rw [HWA.out]
  obtain ⟨wd,hwd⟩:∃ wd,(wa.drewN nq).drew=wd:=⟨_,rfl⟩
  have hbd:Below wa.heap.size wa wd:=by rw [← hwd];exact (MM.ZcN (Below.refl _ _) nq).drew
  have hsd:wd.heap.size=R+1:=by rw [← hwd];exact hsa
  have XD:=Lib.hid (XA.out.below hbd XA.out.lt)
  have RD:=Lib.hid (HRA.out.below hbd)
  have KD:Hid (Below w.heap.size w wd):=Lib.hid (HBA.out.trans (hbd.mono HBA.out.size))
  have c0:wd.cell? ⟨g,0,none⟩=some (.slice pr NL cr):=(hbd.cell (p:=⟨g,0,none⟩) (show g<wa.heap.size by omega)).trans (by rw [← HWA.out];exact f0)
  have G:=Lib.hid (fun W (hW:Kep (fun _=>True) wd W)=>(show W.cell? ⟨g,0,none⟩=some (.slice pr NL cr)∧W.cell? ⟨R,2,none⟩=some (.int .i64 (sz:Int)) from ⟨(hW.cell (by omega) trivial 0).trans c0,(XD.out.keep hW trivial).c2⟩))
  rw [hwd]
  clear hwd hbd c0 f0 x0 x1 x2 XA HRA HBA HWA
  repeat (refine RS.take (by rfl) (by intro W hW;obtain ⟨f1,f2⟩:=G.out W hW;go_simp;with_reducible rfl) ?_;simp only [Act.put,List.setIfInBounds_toArray,List.set_cons_zero,List.set_cons_succ])
  refine RS.alone (by rfl) (fun K hK => ?_)
  go_simp
  refine hK.out _ _ (ZmS _ _ _) ?_
  clear hK K
  refine RS.done ?_
  simp only [List.length_cons,List.length_nil,List.drop_succ_cons,List.drop_zero,Nat.zero_add,Nat.reduceAdd]
  obtain ⟨q,hq⟩:∃ q,R+1=q:=⟨_,rfl⟩
  obtain ⟨wq,hwq⟩:∃ W,wd.alloc (.cells #[.slice pr sz cr,.bool false] 230)=W:=⟨_,rfl⟩
  have hbq:Below wd.heap.size wd wq:=by rw [← hwq];exact (Below.refl _ _).alloc (Nat.le_refl _) _
  have hsq:wq.heap.size=q+1:=by rw [← hwq];simp [hsd,hq]
  have XQ:=Lib.hid (XD.out.below hbq XD.out.lt)
  have RQ:=Lib.hid (RD.out.below hbq)
  have KQ:Hid (Below w.heap.size w wq):=Lib.hid (KD.out.trans (hbq.mono (by omega)))
  have RIN:Hid (Rd S wq q (l.take sz) false):=Lib.hid (by
   obtain ⟨v9,hc9,hv9⟩:=RD.out
   have e9:=cell_of_row wd g 0 _ _ _ hc9
   rw [(G.out wd (Kep.refl _ _)).1] at e9
   have e9:(Value.slice pr NL cr)=v9:=by simpa using e9
   refine ⟨.slice pr sz cr,by rw [← hwq,← hq,← hsd];exact heap_alloc_new _ _,?_⟩
   rw [← e9] at hv9
   exact (hv9.take sz (by omega)).below hbq)
  have C0:Hid (wq.cell? ⟨g,0,none⟩=some (.slice pr NL cr)):=Lib.hid ((hbq.cell (p:=⟨g,0,none⟩) (show g<wd.heap.size by omega)).trans (G.out wd (Kep.refl _ _)).1)
  have AP0:Hid (Zac S q (.slice none 0 0) wq):=Lib.hid (fun b hb=>⟨by have:=HSS.out b hb;omega,by have:=HSS.out b hb;omega,fun e=>by cases e⟩)
  have DO0:=Lib.hid (Zax.nil_ (q+1) wq)
  have KR0:Hid (Kep (fun b=>b≠q) wq wq):=Lib.hid (Kep.refl _ _)
  have HLT0:Hid ((l.take sz).length≤1000000000000):=Lib.hid (by rw [List.length_take];omega)
  obtain ⟨y0,y1,y2⟩:=XQ.out.cells
  rw [← hwq] at y0 y1 y2
  have HWQ:=Lib.hid hwq
  obtain ⟨k0,k1,k2,k3,k4,k5⟩:=(Zyf wd 230 (.slice none 0 0) (.bool false)).all (.slice pr sz cr)
  clear hwq hbq XD RD KD G
  go_wp2_with fail
  rw [HWQ.out,hq]
  clear k0 k1 k2 k3 k4 k5 y0 y1 y2
  go_loopw [2,8,29] (fun av dv iv wr=>∃ (i:Nat) (A:Int) (acc:List Doc) (L:List UInt8) (oi:Bool) (S':Nat→Prop),iv=.int .i64 i∧av=.int .i64 A∧i≤n∧Hid (acc.length=i)∧0≤A∧A≤1099511627777*((i:Int)+1)∧Hid (L.length≤1000000000000)∧Hid ((acc++(Zgv (n - i) A L oi).1,(Zgv (n - i) A L oi).2)=FIN)∧Hid (Rd S' wr q L oi)∧Hid (Zac S' q dv wr)∧Hid (Zax (q+1) wr dv acc)∧Hid (Kep (fun b=>b≠q) wq wr)) (fun _ _ iv _=>n - (intOf iv).toNat)
  case atStart=>exact ⟨0,a,[],l.take sz,false,S,rfl,rfl,by omega,Lib.hid rfl,h0,by omega,HLT0,HF0,RIN,AP0,DO0,KR0⟩
  case round =>
   obtain ⟨i,A,acc,L,oi,S',rfl,rfl,hi,hacc,hA0,hA9,HL,HF,HRD,HAP,HDO,HK⟩:=hrel
   clear HF0 RIN AP0 DO0 KR0 HLT0
   have hsw:=HK.out.size
   obtain ⟨pd,cd,rfl,_⟩:=HDO.out.any.shape
   by_cases hlt:i<n
   ·have t1:decide ((i:Int)<(n:Int))=true:=by rw [decide_eq_true_eq];omega
    have t2:decide (i<n)=true:=decide_eq_true hlt
    have hfin:=HF.out
    rw [show n - i=(n - (i+1))+1 by omega,ZgA] at hfin
    dsimp only at hfin
    have hnq:¬ S' q:=fun h=>(HAP.out q h).2.1 rfl
    have C1:=Zpj S' q 1099511627776 L oi wr (by omega) HRD.out hnq
    have hr1:=Zpi 1099511627776 L oi
    have hb1:=Zpd 1099511627776 L oi
    obtain ⟨⟨k,L1,o1⟩,e1⟩:∃ s,Zo4 1099511627776 L oi=s:=⟨_,rfl⟩
    rw [e1] at hfin C1 hr1 hb1
    dsimp only at hfin C1 hr1 hb1
    have hL1:L1.length≤1000000000000:=by have:=HL.out;omega
    have C2:=fun W (h:Rd S' W q L1 o1)=>Zh2 S' q L1 o1 W hL1 h
    have hr2:=Zh0 L1 o1
    obtain ⟨z,fs,L2,o2,e2⟩:∃ z fs L2 o2,evS L1 o1=((z,fs),L2,o2):=⟨_,_,_,_,rfl⟩
    rw [e2] at hfin C2 hr2
    dsimp only at hfin hr2
    obtain ⟨A',hA'⟩:∃ A',A+(1+(k:Int))=A':=⟨_,rfl⟩
    rw [hA'] at hfin
    have hw1:IntKind.i64.wrap (1+(k:Int))=1+(k:Int):=by rw [IntKind.wrap_i64];omega
    have hw2:IntKind.i64.wrap (A+(1+(k:Int)))=A':=by rw [IntKind.wrap_i64];omega
    have hA1:0≤A':=by omega
    have hA2:A'≤1099511627777*(((i+1:Nat):Int)+1):=by omega
    have C1:=Lib.hid C1
    have C2:=Lib.hid C2
    have HFN:Hid ((acc++[(A',((z,fs):Ev))]++(Zgv (n - (i+1)) A' L2 o2).1,(Zgv (n - (i+1)) A' L2 o2).2)=FIN):=Lib.hid (by
     rw [← hfin]
     simp only [List.append_assoc,List.singleton_append])
    have HL2:Hid (L2.length≤1000000000000):=Lib.hid (by omega)
    have HLT:=Lib.hid hlt
    clear e1 e2 hfin HF HRD hr1 hr2 HL hL1 hlt
    go_wp2_with fail
    refine C1.out.mono ?_
    rintro e w2 ⟨rfl,h2,k2⟩
    have hs2:=k2.size
    have HC2:=Lib.hid (C2.out w2 h2)
    have HD2:=Lib.hid (HDO.out.keep k2 (fun b hb _=>by omega))
    have HK2:=Lib.hid (HK.out.trans k2)
    have hown:∀ b,(Value.slice pd acc.length cd).ownBlock=some b→q+1≤b∧b<wr.heap.size:=fun b hb=>HDO.out.cells hb
    have HOWN:=Lib.hid hown
    clear h2 k2 C1 C2 HDO HK hown
    go_wp2_with fail
    refine HC2.out.mono ?_
    rintro e w3 ⟨u,rfl,hu,hr3,k3⟩
    dsimp only at hu hr3 ⊢
    obtain ⟨pe,ce,rfl,_⟩:=hu.shape
    have hs3:=k3.size
    have d3:=HD2.out.keep k3 (fun b hb _=>by omega)
    obtain ⟨w4,hw4⟩:∃ W,w3.alloc (.cells #[.int .i64 A',.int .i64 z,.slice pe fs.length ce] 59)=W:=⟨_,rfl⟩
    have hb4:Below w3.heap.size w3 w4:=by rw [← hw4];exact (Below.refl _ _).alloc (Nat.le_refl _) _
    have hs4:=hb4.size
    obtain ⟨S1,hS1,ho3⟩:=d3
    have ho3:=ho3.weak (T:=fun b=>S1 b∨NewF w2 w3 b) fun b _ hb=>.inl hb
    have HS3:Hid (∀ b,(S1 b∨NewF w2 w3 b)→q+1≤b∧IsF w3 b):=Lib.hid (fun b hb=>hb.elim (hS1 b) fun h=>⟨by have:=h.1;omega,h.2⟩)
    have hsr:=Zwe (C:=docC) (S:=fun b=>S1 b∨NewF w2 w3 b) (w:=w3) (vs:=[.int .i64 A',.int .i64 z,.slice pe fs.length ce]) (d:=(A',((z,fs):Ev))) 59 (Zgo.2 ⟨_,rfl,hu.weak fun b _ h=>.inr h⟩)
    rw [hw4] at hsr
    have HS4:=Lib.hid hsr
    have HO4:=Lib.hid (ho3.keep (ZmT (fun _=>True) hb4) (fun _ _ _=>trivial) (fun _ _=>trivial))
    have HF4:Hid (∀ b,(S1 b∨NewF w2 w3 b)→q+1≤b∧IsF w4 b):=Lib.hid (fun b hb=>⟨(HS3.out b hb).1,(HS3.out b hb).2.keep (ZmT (fun _=>True) hb4) trivial⟩)
    have hr4:=hr3.below hb4
    have HR4:Hid (Rd (fun b=>w2.heap.size≤b∧IsU w4 b) w4 q L2 o2):=Lib.hid (hr4.weak fun b _ hb=>⟨hb.1,hb.2.keep (ZmT (fun _=>True) hb4) trivial⟩)
    have HK4:=Lib.hid ((HK2.out.trans k3).trans (ZmT _ hb4))
    have HW4:=Lib.hid hw4
    clear hw4 hb4 hsr hr3 hr4 k3 ho3 hS1 HS3 HD2 HK2 HC2 hu HAP
    go_wp2_with (at_builtin;go_loud (rw [HW4.out];refine Zzv docE rfl _ _ rfl (q+1) (.slice pd acc.length cd) acc rfl HO4.out (fun b _ hb=>Zmv (HF4.out b hb).2) _ [(A',((z,fs):Ev))] rfl HS4.out (by unfold maxLen;have:=hacc.out;simp;omega) (by have:=hacc.out;simp;omega) (by omega) ?_;intro v7 w7 ho7 hb7 hk7;have hs7:=hk7.size;have hF7:∀ b,(S1 b∨NewF w2 w3 b)→q+1≤b∧IsF w7 b:=fun b hb=>⟨(HF4.out b hb).1,(HF4.out b hb).2.keep hk7 (Zmw HO4.out (HF4.out b hb).2)⟩;have HD7:Hid (Zax (q+1) w7 v7 (acc++[(A',((z,fs):Ev))])):=Lib.hid ⟨_,hF7,ho7⟩;have HR7:=Lib.hid (HR4.out.keep hk7 (fun e=>by have:=HOWN.out _ e;omega) (fun b _ hs e=>by have:=HOWN.out _ e;have:=hs.1;omega));have HA7:Hid (Zac (fun b=>w2.heap.size≤b∧IsU w4 b) q v7 w7):=Lib.hid (fun b hb=>⟨by have:=hb.2.lt;omega,by have:=hb.1;omega,ZmI ho7 (hb.2.keep hk7 (fun e=>by have:=HOWN.out _ e;have:=hb.1;omega))⟩);have HK7:=Lib.hid (HK4.out.andThen hk7 fun j hj _ e=>by have:=HOWN.out _ e;omega);obtain ⟨p7,c7,rfl,_⟩:=ho7.any.shape;clear ho7 hb7 hk7 HO4 HS4 HR4 HK4 HF4 hF7 HOWN))
    rw [show (acc++[(A',((z,fs):Ev))]).length=acc.length+1 by simp] at HA7 HD7
    have hlt:=HLT.out
    go_roundw
    case rel=>exact ⟨i+1,A',acc++[(A',((z,fs):Ev))],L2,o2,_,by go_num,rfl,by omega,Lib.hid (by have:=hacc.out;simp;omega),hA1,hA2,HL2,HFN,HR7,HA7,HD7,HK7⟩
    case measure=>simp [intOf];omega
   ·obtain rfl:i=n:=by omega
    have t1:decide ((i:Int)<(i:Int))=false:=by simp
    have t2:decide (i<i)=false:=by simp
    have hfin:=HF.out
    rw [Nat.sub_self] at hfin
    have hfin:(acc,(A,(L,oi)))=FIN:=by rw [← hfin,Zgv];simp
    subst hfin
    have hres:=HRES.out
    dsimp only at hres
    have HRS:=Lib.hid hres
    clear hres
    have hgq:g≠q:=by omega
    have hRq:R≠q:=by omega
    have hdl:=(RQ.out.keep HK.out hgq (fun b _ hs=>by have:=HSS.out b hs;omega))
    obtain ⟨v9,hc9,hv9⟩:=hdl
    have e9:=cell_of_row wr g 0 _ _ _ hc9
    have cg:wr.cell? ⟨g,0,none⟩=some (.slice pr NL cr):=(HK.out.cell (by omega) hgq 0).trans C0.out
    rw [cg] at e9
    obtain rfl:(Value.slice pr NL cr)=v9:=by simpa using e9
    have XR:=XQ.out.keep HK.out hRq
    have hbx:=hv9.drop sz (by omega)
    obtain ⟨PX,hPX⟩:∃ p,(if cr=sz then pr else Option.map (fun x=>x.add sz) pr)=p:=⟨_,rfl⟩
    obtain ⟨NX,hNX⟩:∃ p,NL - sz=p:=⟨_,rfl⟩
    obtain ⟨CX,hCX⟩:∃ p,cr - sz=p:=⟨_,rfl⟩
    rw [hPX,hNX,hCX] at hbx
    have HPX:=Lib.hid hPX
    have HNX:=Lib.hid hNX
    have HCX:=Lib.hid hCX
    have HC9:=Lib.hid hc9
    have HXR:=Lib.hid XR
    have HBX:=Lib.hid hbx
    clear HF HRES hPX hNX hCX hc9 hv9 XR hbx e9
    go_wp2_with fail
    refine RS.ZcJ (T:=fun _=>True) [(0,true),(1,true),(2,true),(3,true),(4,true),(5,true),(6,true),(7,true),(8,true),(9,true)] hmx (by kernel_rfl) (fun _ _ d _ _ h=>by cases d<;>exact h) ?_
    simp only [RS.ZpY,List.map_cons,List.map_nil,List.getElem?_toArray,List.getElem?_cons_succ,List.getElem?_cons_zero]
    obtain ⟨wd2,hwd2⟩:∃ W,wr.drew=W:=⟨_,rfl⟩
    have hbd:Below wr.heap.size wr wd2:=by rw [← hwd2];exact (Below.refl _ _).drew
    have G:=Lib.hid (fun W (hW:Kep (fun _=>True) wd2 W)=>(show W.cell? ⟨g,0,none⟩=some (.slice pr NL cr)∧W.cell? ⟨R,2,none⟩=some (.int .i64 (sz:Int)) from ⟨(hW.cell (by rw [← hwd2];show g<wr.heap.size;omega) trivial 0).trans ((hbd.cell (p:=⟨g,0,none⟩) (show g<wr.heap.size by omega)).trans cg),((HXR.out.below hbd HXR.out.lt).keep hW trivial).c2⟩))
    have HBD:=Lib.hid hbd
    have hwd2s:wr.heap.size=wd2.heap.size:=by rw [← hwd2];rfl
    rw [hwd2]
    have z1:(sz:Int)≤(NL:Int):=by omega
    have z2:(NL:Int)≤(cr:Int):=by omega
    clear hwd2 hbd cg
    repeat (refine RS.take (by rfl) (by intro W hW;obtain ⟨f1,f2⟩:=G.out W hW;go_simp;with_reducible rfl) ?_;simp only [Act.put,List.setIfInBounds_toArray,List.set_cons_zero,List.set_cons_succ])
    refine RS.done ?_
    simp only [List.length_cons,List.length_nil,List.drop_succ_cons,List.drop_zero,Nat.zero_add,Nat.reduceAdd]
    rw [HPX.out,HNX.out,HCX.out]
    have hbd:=HBD.out
    have hc2:wd2.heap[g]? = some (.cells #[.slice pr NL cr,.bool o] 230 (0,0)):=(hbd.block g (by omega)).trans HC9.out
    obtain ⟨L2,hL2⟩:∃ L2,l.drop sz=L2:=⟨_,rfl⟩
    rw [hL2] at HBX HGO
    have hbx2:BOn S wd2 (.slice PX NX CX) L2:=HBX.out.below hbd
    have hfz:=frozen_of_row wd2 g 0 _ _ hc2
    have ccz:wd2.cell? ⟨g,0,none⟩=some (.slice pr NL cr):=by rw [cell_of_row wd2 g 0 _ _ _ hc2];rfl
    obtain ⟨w9,hw9⟩:∃ W,wd2.setCell ⟨g,0,none⟩ (.slice PX NX CX)=W:=⟨_,rfl⟩
    have hk9:Kep (fun b=>b≠g) wd2 w9:=by rw [← hw9];exact Zm0 _
    have hr9:Rd S w9 g L2 o:=by rw [← hw9];exact ⟨_,heap_setCell_same wd2 g 0 _ _ _ hc2,hbx2.keep (ZmZ hg _) fun _ _ h=>h⟩
    have x9:=(HXR.out.below hbd HXR.out.lt).keep hk9 (by omega)
    obtain ⟨vi,hci,hvi⟩:=HRD.out
    obtain ⟨pi,ci,rfl,_⟩:=hvi.shape
    have hci9:=(hk9.block q (by rw [← hwd2s];exact (Array.getElem?_eq_some_iff.1 hci).1) (fun e=>hgq e.symm)).trans ((hbd.block q (Array.getElem?_eq_some_iff.1 hci).1).trans hci)
    have hd9:Zax (q+1) w9 (.slice pd acc.length cd) acc:=(HDO.out.keep (ZmT (fun _=>True) hbd) (fun _ _ _=>trivial)).keep hk9 (fun b hb _=>by omega)
    have k9:Kep (fun b=>b≠g) w w9:=(((ZmT _ KQ.out).andThen HK.out fun j hj _=>by omega).trans (ZmT _ hbd)).trans hk9
    have i0:w9.cell? ⟨q,0,none⟩=some (.slice pi L.length ci):=by rw [cell_of_row w9 q 0 _ _ _ hci9];rfl
    have i1:w9.cell? ⟨q,1,none⟩=some (.bool oi):=by rw [cell_of_row w9 q 1 _ _ _ hci9];rfl
    have i2:=x9.c1
    obtain ⟨NI,hNI⟩:∃ k,L.length=k:=⟨_,rfl⟩
    rw [hNI] at i0
    have HG9:=Lib.hid (HGO.out w9 o hr9)
    have HBADE:Hid (∀ w10,Rd S w10 g [] (o||((120:Int) != 0))→Kep (fun b=>b≠g) w9 w10→Zaf S g (acc,[],true) w (.returned (.slice pd acc.length cd)) w10):=Lib.hid (fun w10 h10 k10=>⟨_,rfl,(hd9.keep k10 (fun b hb _=>by omega)).base (by omega),by simpa using h10,k9.trans k10⟩)
    have HGOODE:Hid (Zaf S g (acc,L2,o) w (.returned (.slice pd acc.length cd)) w9):=Lib.hid ⟨_,rfl,hd9.base (by omega),hr9,k9⟩
    have HLN:Hid (L≠[]↔0<NI):=Lib.hid (by rw [← hNI,List.length_pos_iff])
    rw [← hw9] at i0 i1 i2
    have HW9:=Lib.hid hw9
    have hres:=HRS.out
    rw [hL2] at hres
    have HRS2:=Lib.hid hres
    clear hres HRS hd9 k9 hr9 x9 hk9 hw9 hbx2 hc2 hci9 hci hvi hNI HBD HC9 HXR HBX hbd HPX HNX HCX HDO HRD HK HAP HL G C0 XQ RQ KQ
    cases oi with
    | true =>
      have hres:=HRS2.out
      rw [if_pos (.inl rfl)] at hres
      subst hres
      clear HRS2 HGOODE HLN
      go_wp2_with fail
      rw [HW9.out]
      refine HG9.out.mono ?_
      rintro e w10 ⟨rfl,h10,k10⟩
      have HQ:=Lib.hid (HBADE.out w10 h10 k10)
      clear h10 k10 HG9 HBADE
      go_wp2_with fail
      go_ret
      exact HQ.out
    | false =>
      by_cases hni:0<NI
      ·have u1:decide ((NI:Int)>0)=true:=by rw [decide_eq_true_eq];omega
       have hres:=HRS2.out
       rw [if_pos (.inr (.inl (HLN.out.2 hni)))] at hres
       subst hres
       clear HRS2 HGOODE HLN
       go_wp2_with fail
       rw [HW9.out]
       refine HG9.out.mono ?_
       rintro e w10 ⟨rfl,h10,k10⟩
       have HQ:=Lib.hid (HBADE.out w10 h10 k10)
       clear h10 k10 HG9 HBADE
       go_wp2_with fail
       go_ret
       exact HQ.out
      ·have u1:decide ((NI:Int)>0)=false:=by rw [decide_eq_false_iff_not];omega
       have u2:decide (0<NI)=false:=by rw [decide_eq_false_iff_not];omega
       by_cases hal:A=last
       ·have u3:(A != last)=false:=by simp [hal]
        have hres:=HRS2.out
        rw [if_neg (fun h=>h.elim (fun h=>by cases h) fun h=>h.elim (fun h=>hni (HLN.out.1 h)) fun h=>h hal)] at hres
        subst hres
        clear HRS2 HBADE HLN hal HG9
        go_wp2_with fail
        rw [HW9.out]
        go_ret
        exact HGOODE.out
       ·have u3:(A != last)=true:=by rw [bne_iff_ne];exact hal
        have hres:=HRS2.out
        rw [if_pos (.inr (.inr hal))] at hres
        subst hres
        clear HRS2 HGOODE HLN hal
        go_wp2_with fail
        rw [HW9.out]
        refine HG9.out.mono ?_
        rintro e w10 ⟨rfl,h10,k10⟩
        have HQ:=Lib.hid (HBADE.out w10 h10 k10)
        clear h10 k10 HG9 HBADE
        go_wp2_with fail
        go_ret
        exact HQ.out
end Go.Proofs.YtdijhifdjbnkfaaGreat.SR
namespace Go.Proofs.YtdijhifdjbnkfaaGreat.SG
open Go Go.RowKit MM
open EM (Fld)
open EV (docC fldC docE fldE Zgn Zi7 Zi8 Zgo IsF)
open SR (Zax Zmv Zmw)
open SM (Doc)
open GM (fewF fewD Zil fewG)
theorem Zio {fs:List Fld} {k:Nat} (hk:k<fs.length):(fs.take (k+1)).map (fun f=>(f.1,f.2.take 300))=(fs.take k).map (fun f=>(f.1,f.2.take 300))++[(fs[k].1,fs[k].2.take 300)]:=by
 rw [List.take_succ_eq_append_getElem hk,List.map_append];rfl
theorem Zin {l:List Doc} {k:Nat} (hk:k<l.length):(l.take (k+1)).map fewD=(l.take k).map fewD++[fewD l[k]]:=by
 rw [List.take_succ_eq_append_getElem hk,List.map_append];rfl
def ZaC (l:List Doc) (w:World) (e:Ending) (w':World):Prop:=∃ u,e=.returned u∧Zax w.heap.size w' u l∧Below w.heap.size w w'
abbrev OwnF (B:Nat) (w:World) (v:Value) (fs:List Fld):Prop:=OwnX fldC 123 B (fun _=>False) w v fs
theorem Zim (v:Value) (l:List Doc) (w:World) (hv:RAny docC w v l):Calls Tryz.prog 37 #[v] w (ZaC (Zil l) w):=by
 obtain ⟨p,cap,rfl,hlc,hcm,_⟩:=hv.shape
 unfold maxLen at hcm
 have HV:=Lib.hid hv.bel
 have HO0:Hid (Zax w.heap.size w (.slice none 0 0) ((l.take 0).map fewD)):=Lib.hid (Zax.nil_ _ _)
 clear hv
 go_enter Tryz.func37,Tryz.ntmps37
 go_wp2_with fail
 go_loopw [3,4] (fun ov iv wr=>∃ i:Nat,i≤l.length∧i≤40∧iv=.int .i64 i∧Hid (Zax w.heap.size wr ov ((l.take i).map fewD))∧Hid (Below w.heap.size w wr)) (fun _ iv _=>40 - (intOf iv).toNat)
 case atStart=>exact ⟨0,by omega,by omega,by go_simp,HO0,Lib.hid (Below.refl _ _)⟩
 case round =>
  obtain ⟨i,hi,hi40,rfl,HO,HB⟩:=hrel
  obtain ⟨wo,hwo⟩:∃ wo,wo=wr:=⟨_,rfl⟩
  subst hwo
  clear HO0
  by_cases hgo:i<l.length∧i<40
  ·obtain ⟨hlt,h4⟩:=hgo
   have t1:decide ((i:Int)<(l.length:Int))=true:=by rw [decide_eq_true_eq];omega
   have t2:decide ((i:Int)<40)=true:=by rw [decide_eq_true_eq];omega
   have t3:(i:Int)<(l.length:Int):=by omega
   obtain ⟨b,off,vf,rfl,hbl,_,c1,c2,c3,hf⟩:=Zgn (HV.out.below HB.out) hlt
   have hnx:=Zin hlt
   obtain ⟨⟨sq,t,fs⟩,hd⟩:∃ d,l[i]=d:=⟨_,rfl⟩
   rw [hd] at c1 c2 hf hnx
   change wo.cell? ⟨b,off+i*3,none⟩=some (.int .i64 sq) at c1
   change wo.cell? ⟨b,off+i*3+1,none⟩=some (.int .i64 t) at c2
   change ROn fldC _ wo vf fs at hf
   obtain ⟨pf,cf,rfl,hfc,_⟩:=hf.shape
   obtain ⟨R,hR⟩:∃ R,wo.heap.size=R:=⟨_,rfl⟩
   have HNX:=Lib.hid hnx
   have HF:=Lib.hid hf
   have HLT:=Lib.hid hlt
   have HR:=Lib.hid hR
   have HC:=Lib.hid (And.intro c1 (And.intro c2 c3))
   have HBL:=Lib.hid hbl
   clear hnx hf hd
   go_wp2_with fail
   obtain ⟨wa,hwa⟩:∃ W,wo.alloc (.cells #[.int .i64 sq,.int .i64 t,.slice none 0 0] 59)=W:=⟨_,rfl⟩
   have hba:Below wo.heap.size wo wa:=by rw [← hwa];exact (Below.refl _ _).alloc (Nat.le_refl _) _
   have hta:Zbz wa R 59 (.int .i64 sq) (.int .i64 t) (.slice none 0 0):=by rw [← hwa,← hR];exact ZxD _ _ _ _ _
   have HTA:=Lib.hid hta
   have HBA:=Lib.hid hba
   rw [hwa]
   clear hwa hba hta c1 c2 c3
   have HF0:Hid (OwnF (R+1) wa (.slice none 0 0) ((fs.take 0).map fun f=>(f.1,f.2.take 300))):=Lib.hid (OwnX.nil_ _ _ _ _)
   go_loopw [6] (fun kv wq=>∃ (k:Nat) (uv:Value),k≤fs.length∧k≤8∧kv=.int .i64 k∧Hid (Zbz wq R 59 (.int .i64 sq) (.int .i64 t) uv)∧Hid (OwnF (R+1) wq uv ((fs.take k).map fun f=>(f.1,f.2.take 300)))∧Hid (Below wo.heap.size wo wq)) (fun kv _=>8 - (intOf kv).toNat)
   case atStart=>exact ⟨0,_,by omega,by omega,by go_simp,HTA,HF0,HBA⟩
   case round =>
    obtain ⟨wq,hwq⟩:∃ wq,wq=wr:=⟨_,rfl⟩
    subst hwq
    obtain ⟨k,uv,hk,hk8,rfl,HT,HU,HBQ⟩:=hrel
    clear HTA HF0 HBA
    have hbl:=HBL.out
    have hw1:=HB.out.size
    have hbr:b<wo.heap.size:=hbl
    have c3:wq.cell? ⟨b,off+i*3+2,none⟩=some (.slice pf fs.length cf):=(HBQ.out.cell (p:=⟨b,off+i*3+2,none⟩) hbr).trans HC.out.2.2
    by_cases hgk:k<fs.length∧k<8
    ·obtain ⟨hkl,hk9⟩:=hgk
     have s1:decide ((k:Int)<(fs.length:Int))=true:=by rw [decide_eq_true_eq];omega
     have s2:decide ((k:Int)<8)=true:=by rw [decide_eq_true_eq];omega
     have s3:(k:Int)<(fs.length:Int):=by omega
     obtain ⟨bf,of,rfl,hbf,_,d1,d2⟩:=Zi7 (HF.out.any.below HBQ.out) hkl
     have hnx:=Zio hkl
     obtain ⟨⟨x,y⟩,hxy⟩:∃ f,fs[k]=f:=⟨_,rfl⟩
     rw [hxy] at d1 d2 hnx
     dsimp only at d1 d2 hnx
     have e1:(min (y.length:Int) 300).toNat=min y.length 300:=by omega
     have i1:(min (y.length:Int) 300)≤(y.length:Int):=by omega
     have i2:(0:Int)≤min (y.length:Int) 300:=by omega
     have HE:Hid ((⟨y.toArray⟩:ByteArray).extract 0 (min (y.length:Int) 300).toNat=⟨(y.take 300).toArray⟩):=Lib.hid (by
      rw [ZxB,List.drop_zero,Nat.sub_zero,e1]
      by_cases h:y.length≤300
      ·rw [Nat.min_eq_left h,List.take_length,List.take_of_length_le h]
      ·rw [Nat.min_eq_right (by omega)])
     have HNX2:=Lib.hid hnx
     clear hnx hxy e1
     obtain ⟨f0,f1,f2⟩:=HT.out.cells
     obtain ⟨pu,cu,huv,_⟩:=HU.out.any.shape
     have hlk:((fs.take k).map fun f=>(f.1,f.2.take 300)).length=k:=by rw [List.length_map,List.length_take];omega
     rw [hlk] at huv
     subst huv
     have HLK:=Lib.hid hlk
     have HL5:Hid (((fs.take (k+1)).map fun f=>(f.1,f.2.take 300)).length=k+1):=Lib.hid (by rw [List.length_map,List.length_take];omega)
     obtain ⟨Y,hY⟩:∃ Y,(⟨y.toArray⟩:ByteArray).extract 0 (min (y.length:Int) 300).toNat=Y:=⟨_,rfl⟩
     have hYE:Y=⟨(y.take 300).toArray⟩:=by rw [← hY];exact HE.out
     obtain ⟨wb,hwb⟩:∃ W,wq.alloc (.cells #[.string ⟨x.toArray⟩,.string Y] 123)=W:=⟨_,rfl⟩
     have hbb:Below wq.heap.size wq wb:=by rw [← hwb];exact (Below.refl _ _).alloc (Nat.le_refl _) _
     obtain ⟨g0,g1⟩:=EV.ZoE wq (.string ⟨x.toArray⟩) (.string Y) 123
     rw [hwb] at g0 g1
     obtain ⟨wc,hwc⟩:∃ W,wb.alloc (.cells #[.string ⟨x.toArray⟩,.string Y] 123)=W:=⟨_,rfl⟩
     have hbc:Below wb.heap.size wb wc:=by rw [← hwc];exact (Below.refl _ _).alloc (Nat.le_refl _) _
     have hbqc:Below wq.heap.size wq wc:=hbb.trans (hbc.mono hbb.size)
     have hRq:R<wq.heap.size:=HT.out.lt
     obtain ⟨f0,f1,f2⟩:=(HT.out.below hbb hRq).cells
     have HTC:=Lib.hid (HT.out.below hbqc hRq)
     have HUC:Hid (OwnF (R+1) wc (.slice pu _ cu) _):=Lib.hid (HU.out.keep (ZmT (fun _=>True) hbqc) (fun _ _ h=>h.elim) (fun _ _=>trivial))
     have HS:Hid (SrcX fldC (fun _=>False) wc (.slice (some ⟨wb.heap.size,0,none⟩) 1 1) [(x,y.take 300)]):=Lib.hid (by
      rw [← hwc]
      exact Zwe 123 (vs:=[.string ⟨x.toArray⟩,.string Y]) (Zi8.2 (by rw [hYE])))
     have HWB:=Lib.hid hwb
     have HWC:=Lib.hid hwc
     have HYY:=Lib.hid hY
     have HBC:=Lib.hid (HBQ.out.trans (hbqc.mono HBQ.out.size))
     have HSC:Hid (R+1≤wc.heap.size):=Lib.hid (by have:=hbqc.size;omega)
     clear hbb hwb hbc hwc hbqc hY hYE hlk
     go_wp2_with (first | (at_builtin;go_loud (refine Zzv fldE rfl _ _ rfl (R+1) (.slice pu k cu) _ rfl HUC.out (fun _ _ h=>h.elim) _ [(x,y.take 300)] rfl HS.out (by rw [HLK.out];unfold maxLen;simp only [List.length_cons,List.length_nil];omega) (by rw [HLK.out];simp only [List.length_cons,List.length_nil];omega) HSC.out ?_;intro v5 w5 ho5 hb5 hk5;rw [← HNX2.out] at ho5;obtain ⟨p5,c5,hv5,_⟩:=ho5.any.shape;rw [HL5.out] at hv5;subst hv5;have a5:=HTC.out.below hb5 (Nat.lt_succ_self R);have f5:=a5.fr 2;have g5:=a5.c2;have HT6:=Lib.hid (a5.s2 (.slice p5 (k+1:Nat) c5));have HO5:=Lib.hid ho5;have HB5:=Lib.hid (HBC.out.trans (hb5.mono (by have:=HR.out;omega)));clear ho5 hb5 hk5 a5 HUC HS HTC HBC)) | (rw [HWC.out]) | (rw [HYY.out,HWB.out]))
     have hk6:Kep (fun b=>b≠R) w5 (w5.setCell ⟨R,2,none⟩ (.slice p5 (k+1:Nat) c5)):=ZmZ (fun h=>h rfl) _
     have HO6:=Lib.hid (HO5.out.keep hk6 (fun _ _ h=>h.elim) (fun g hg e=>by have:=(HO5.out.cells hg).1;omega))
     have HB6:=Lib.hid (HB5.out.trans (hk6.below (by have:=HB5.out.size;omega) fun j hj e=>by have:=HR.out;omega))
     clear HO5 HB5 hk6 f5 g5
     go_roundw
     case rel=>exact ⟨k+1,_,by omega,by omega,by go_num,HT6,HO6,HB6⟩
     case measure=>simp [intOf];omega
    ·have hT:=HT.out
     obtain ⟨f0,f1,f2⟩:=hT.cells
     have hend:(fs.take k).map (fun f=>(f.1,f.2.take 300))=fewF fs:=by
      unfold fewF
      rcases Nat.lt_or_ge k fs.length with h | h
      ·rw [show k=8 by omega]
      ·rw [List.take_of_length_le h,List.take_of_length_le (by omega:fs.length≤8)]
     have hU:=HU.out
     rw [hend] at hU
     obtain ⟨pu,cu,huv,_⟩:=hU.any.shape
     subst huv
     obtain ⟨nf,hnf⟩:∃ n,(fewF fs).length=n:=⟨_,rfl⟩
     rw [hnf] at f2 hU
     have hbq:=HBQ.out
     have hRs:R+1≤wq.heap.size:=hT.lt
     obtain ⟨S0,hS0,hown0⟩:=HO.out.keep (ZmT (fun _=>True) hbq) fun _ _ _=>trivial
     have hw1:=HB.out.size
     obtain ⟨S,hS⟩:∃ S:Nat→Prop,(fun b=>S0 b∨(R+1≤b∧IsF wq b))=S:=⟨_,rfl⟩
     have hSf:∀ b,S b→w.heap.size≤b∧IsF wq b:=fun b hb=>by
      rw [← hS] at hb
      rcases hb with hb | hb
      ·exact hS0 b hb
      ·exact ⟨by have:=HR.out;omega,hb.2⟩
     have hown:OwnX docC 59 w.heap.size S wq u3 ((l.take i).map fewD):=hown0.weak fun b _ hb=>by rw [← hS];exact .inl hb
     have hron:ROn fldC S wq (.slice pu nf cu) (fewF fs):=hU.ron (fun g hg=>by rw [← hS];exact .inr ⟨(hU.cells hg).1,(hU.cells hg).2.2⟩) (fun _ _ h=>h.elim)
     obtain ⟨we,hwe⟩:∃ W,wq.alloc (.cells #[.int .i64 sq,.int .i64 t,.slice pu nf cu] 59)=W:=⟨_,rfl⟩
     have hbe:Below wq.heap.size wq we:=by rw [← hwe];exact (Below.refl _ _).alloc (Nat.le_refl _) _
     have HS:Hid (SrcX docC S we (.slice (some ⟨wq.heap.size,0,none⟩) 1 1) [(sq,(t,fewF fs))]):=Lib.hid (by
      rw [← hwe]
      exact Zwe 59 (vs:=[.int .i64 sq,.int .i64 t,.slice pu nf cu]) (Zgo.2 ⟨_,rfl,hron⟩))
     have HSF:Hid (∀ b,S b→w.heap.size≤b∧IsF we b):=Lib.hid (fun b hb=>⟨(hSf b hb).1,(hSf b hb).2.keep (ZmT (fun _=>True) hbe) trivial⟩)
     have hownE:OwnX docC 59 w.heap.size S we u3 ((l.take i).map fewD):=hown.keep (ZmT (fun _=>True) hbe) (fun _ _ _=>trivial) (fun _ _=>trivial)
     obtain ⟨p3,c3',hv3,_⟩:=hownE.any.shape
     have hl3:((l.take i).map fewD).length=i:=by rw [List.length_map,List.length_take];omega
     rw [hl3] at hv3
     subst hv3
     have HOE:=Lib.hid hownE
     have HWE:=Lib.hid hwe
     have HBE:=Lib.hid (HB.out.trans ((hbq.trans (hbe.mono hbq.size)).mono hw1))
     have HL3:=Lib.hid hl3
     have hlt:=HLT.out
     have HNX:Hid ((l.take (i+1)).map fewD=(l.take i).map fewD++[(sq,(t,fewF fs))]):=HNX
     have HL4:Hid (((l.take (i+1)).map fewD).length=i+1):=Lib.hid (by rw [List.length_map,List.length_take];omega)
     have HSE:Hid (w.heap.size≤we.heap.size):=Lib.hid HBE.out.size
     have hk4:decide ((k:Int)<(fs.length:Int))=true→decide ((k:Int)<8)=false:=fun h=>by rw [decide_eq_true_eq] at h;rw [decide_eq_false_iff_not];omega
     obtain ⟨B,hB⟩:∃ B,decide ((k:Int)<(fs.length:Int))=B:=⟨_,rfl⟩
     rw [hB] at hk4
     clear hT hU hbq hRs hS0 hown0 hS hSf hown hron hwe hbe hownE hl3 HT HU HBQ HO HB HF HC hend hnf
     cases B with
     | true =>
       have s2:=hk4 rfl
       clear hk4
       go_wp2_with (first | (at_builtin;go_loud (refine Zzv docE rfl _ _ rfl w.heap.size (.slice p3 i c3') _ rfl HOE.out (fun b _ hb=>Zmv (HSF.out b hb).2) _ [(sq,(t,fewF fs))] rfl HS.out (by rw [HL3.out];unfold maxLen;simp only [List.length_cons,List.length_nil];omega) (by rw [HL3.out];simp only [List.length_cons,List.length_nil];omega) HSE.out ?_;intro v5 w5 ho5 hb5 hk5;rw [← HNX.out] at ho5;have HD5:Hid (Zax w.heap.size w5 v5 ((l.take (i+1)).map fewD)):=Lib.hid ⟨S,fun b hb=>⟨(HSF.out b hb).1,(HSF.out b hb).2.keep hk5 (Zmw HOE.out (HSF.out b hb).2)⟩,ho5⟩;have HB5:=Lib.hid (HBE.out.trans hb5);clear ho5 hb5 hk5)) | (rw [HWE.out]))
       all_goals (
        go_roundw
        case rel=>exact ⟨i+1,by omega,by omega,by go_num,HD5,HB5⟩
        case measure=>simp [intOf];omega)
     | false =>
       clear hk4
       go_wp2_with (first | (at_builtin;go_loud (refine Zzv docE rfl _ _ rfl w.heap.size (.slice p3 i c3') _ rfl HOE.out (fun b _ hb=>Zmv (HSF.out b hb).2) _ [(sq,(t,fewF fs))] rfl HS.out (by rw [HL3.out];unfold maxLen;simp only [List.length_cons,List.length_nil];omega) (by rw [HL3.out];simp only [List.length_cons,List.length_nil];omega) HSE.out ?_;intro v5 w5 ho5 hb5 hk5;rw [← HNX.out] at ho5;have HD5:Hid (Zax w.heap.size w5 v5 ((l.take (i+1)).map fewD)):=Lib.hid ⟨S,fun b hb=>⟨(HSF.out b hb).1,(HSF.out b hb).2.keep hk5 (Zmw HOE.out (HSF.out b hb).2)⟩,ho5⟩;have HB5:=Lib.hid (HBE.out.trans hb5);clear ho5 hb5 hk5)) | (rw [HWE.out]))
       all_goals (
        go_roundw
        case rel=>exact ⟨i+1,by omega,by omega,by go_num,HD5,HB5⟩
        case measure=>simp [intOf];omega)
  ·have hend:(l.take i).map fewD=Zil l:=by
    unfold Zil
    rcases Nat.lt_or_ge i l.length with h | h
    ·rw [show i=40 by omega]
    ·rw [List.take_of_length_le h,List.take_of_length_le (by omega:l.length≤40)]
   have hi4:decide ((i:Int)<(l.length:Int))=true→decide ((i:Int)<40)=false:=fun h=>by rw [decide_eq_true_eq] at h;rw [decide_eq_false_iff_not];omega
   obtain ⟨B,hB⟩:∃ B,decide ((i:Int)<(l.length:Int))=B:=⟨_,rfl⟩
   rw [hB] at hi4
   have hO:=HO.out
   rw [hend] at hO
   have HO9:=Lib.hid hO
   clear hend HO hO
   cases B with
   | true =>
     have s2:=hi4 rfl
     clear hi4
     go_wp2_with fail
     all_goals (
      go_ret
      exact ⟨_,rfl,HO9.out,HB.out⟩)
   | false =>
     clear hi4
     go_wp2_with fail
     all_goals (
      go_ret
      exact ⟨_,rfl,HO9.out,HB.out⟩)
theorem Zit (v:Value) (l:List Doc) (w:World) (hv:RAny docC w v l):Calls Tryz.prog 8 #[v] w (ZaC (fewG l) w):=by
 obtain ⟨p,cap,rfl,hlc,hcm,_⟩:=hv.shape
 unfold maxLen at hcm
 have e1:(min (l.length:Int) 25).toNat=min l.length 25:=by omega
 have h1:=ROn.take hv (min l.length 25) (by omega)
 have e2:l.take (min l.length 25)=l.take 25:=by
  by_cases h:l.length≤25
  ·rw [Nat.min_eq_left h,List.take_length,List.take_of_length_le h]
  ·rw [Nat.min_eq_right (by omega)]
 rw [e2] at h1
 have HC:=Lib.hid (Zim _ _ w h1)
 have e3:min (l.length:Int) 25=((min l.length 25:Nat):Int):=by omega
 obtain ⟨m,hm⟩:∃ m,min l.length 25=m:=⟨_,rfl⟩
 rw [hm] at HC e3
 have i1:m≤cap:=by omega
 have i2:(m:Int)≤(cap:Int):=by omega
 clear hv h1 e2 hm e1
 go_enter Tryz.func8,Tryz.ntmps8
 go_wp2_with fail
 refine HC.out.mono ?_
 rintro e w1 ⟨u,rfl,hu,hb⟩
 have HQ:=Lib.hid (And.intro hu hb)
 obtain ⟨pu,cu,rfl,_⟩:=hu.any.shape
 clear hu hb HC
 go_wp2_with fail
 go_ret
 exact ⟨_,rfl,HQ.out.1,HQ.out.2⟩
end Go.Proofs.YtdijhifdjbnkfaaGreat.SG
