import Derived.Test.YtdijhifdjbnkfaaGreatZD23
import Derived.Test.YtdijhifdjbnkfaaGreatZD40
set_option maxRecDepth 100000
set_option maxHeartbeats 8000000
set_option linter.unusedVariables false
set_option linter.unusedSimpArgs false
namespace Go.Proofs.YtdijhifdjbnkfaaGreat.ST
open Go Go.RowKit Go.Shelf MM EM SM VM GB TB
open EV (docC evC fldC Zgn ZaW)
open RF (ZbF ZaM Za0 Zss)
attribute [local go_sem] Oper.semAt_some
theorem Zg2 (v:Value) (l:List Doc) (w:World) (hv:RAny docC w v l) (h:isS l=false):Calls Tryz.prog 80 #[v] w fun e w'=>e=.returned (.tuple #[.slice none 0 0,.int .i64 120])∧Below w.heap.size w w':=by
 have HC:=Zem v l w hv
 rw [h] at HC
 have HC:=Lib.hid HC
 obtain ⟨p,cap,rfl,_⟩:=hv.shape
 clear hv h
 go_enter Tryz.func80,Tryz.ntmps80
 go_wp2_with fail
 refine HC.out.mono ?_
 rintro e w1 ⟨rfl,hb⟩
 have HB:=Lib.hid hb
 rw [show errC false=120 from rfl]
 clear hb HC
 go_wp2_with fail
 go_ret2
 exact ⟨rfl,HB.out⟩
def endK (l:List Doc) (k:Nat):Nat:=min (16*k) l.length
def InvE (T:Nat→Prop) (w:World) (Bh Bb Ba:Nat) (l:List Doc) (pre:List Part) (W:World):Prop :=
 ∃ vh vb,E3 T w W W Bh Bb Ba vh vb (.int .i64 (Zm9 l (endK l pre.length))) vh vb (.slice none 0 0) (Zd8 l.length++Zli l 0 pre.length) (Zsj l 0 (endK l pre.length)) []∧(pre=[]→vb=.slice none 0 0)
theorem Zmp (T:Nat→Prop) (w:World) (Bh Bb Ba:Nat) (l:List Doc) (D:Nat) (hD:w.heap.size≤D):OwnFrom D (InvE T w Bh Bb Ba l):=fun pre W W' row ⟨vh,vb,h1,h2⟩ hg hr=>⟨vh,vb,h1.own hD hg hr,h2⟩
theorem Zyw (T:Nat→Prop) (l:List Doc) (D:Nat) (hD:∀ k,T k→k<D) (pre:List Part):OwnFrom D (VowP T l pre):=fun x W W' row h hg hr =>
 ⟨ROn.keep h.1 (ZmW hg fun k hk hT=>by have:=(hr k hk).1;have:=hD k hT;omega) (fun _ _ h=>h),h.2⟩
theorem Zhh {a:Int} {c:List Doc} {J:Nat} (h:J+1=c.length):endA a c=(c[J]'(by omega)).1:=by
 have:=Zhk a (c:=c) (i:=J) (by omega)
 rw [h,List.take_length] at this
 exact this
theorem Zhp {l:List Doc} {k:Nat}:endK l (k+1)=endS l k:=by unfold endK endS;omega
theorem Zg3 (v:Value) (l:List Doc) (w:World) (hv:RAny docC w v l) (hfit:FitS l) (h:isS l=true):Calls Tryz.prog 80 #[v] w (Zap (SM.encS l) 0 w):=by
 obtain ⟨hn,hrs⟩:=ZmH.1 h
 have HC:=Zem v l w hv
 rw [h] at HC
 have HC:=Lib.hid HC
 have HV:=Lib.hid (RAny.bel hv)
 have HP:=Lib.hid (fun W=>VP.Zr2 (.slice none 0 0) [] l.length W (by omega) (BRow.nil_ W) (by simp))
 simp only [List.nil_append] at HP
 obtain ⟨p,cap,rfl,hlc,hcm,_⟩:=hv.shape
 have hwr:IntKind.u64.wrap (l.length:Int)=(l.length:Int):=by rw [IntKind.wrap_u64];omega
 have HIS:=Lib.hid h
 have HRS:=Lib.hid hrs
 have HFIT:=Lib.hid hfit
 clear hv h hrs hfit
 refine (callsIn_wide (n:=5)).1 ?_
 refine callsIn_of_wp_marks Tryz.func80 rfl trivial ?_ rfl
 simp only [Tryz.ntmps80,List.size_toArray,List.length_cons,List.length_nil,Nat.reduceAdd,Nat.reduceSub,Array.replicate_succ,Array.replicate_zero,List.push_toArray,List.append_toArray,List.nil_append,List.cons_append]
 gi_wp2
 refine ⟨trivial,(callsIn_wide.2 HC.out).mono ?_⟩
 rintro e w1 ⟨rfl,hb1⟩
 rw [show errC true=0 from rfl]
 have HB1:=Lib.hid hb1
 clear hb1 HC
 gi_wp2
 refine ⟨trivial,(callsIn_wide.2 (HP.out w1)).mono ?_⟩
 rintro e w2 ⟨v2,rfl,ho2,hb2⟩
 have hs1:=HB1.out.size
 have hs2:=hb2.size
 obtain ⟨p2,c2,rfl,_⟩:=(OwnB.brow ho2).shape
 obtain ⟨Bh,hBh⟩:∃ b,w2.heap.size=b:=⟨_,rfl⟩
 have hb02:Below w.heap.size w w2:=HB1.out.trans (hb2.mono hs1)
 have hlo2:∀ g,(Value.slice p2 (Zd8 l.length).length c2).ownBlock=some g→w.heap.size≤g∧g<Bh:=fun g hg=>by have:=World.ownsRow.lt ho2 g hg;omega
 obtain ⟨NH,hNH⟩:∃ k,(Zd8 l.length).length=k:=⟨_,rfl⟩
 rw [hNH] at hlo2
 have HNH:=Lib.hid hNH
 obtain ⟨w3,hw3⟩:∃ W,w2.alloc (.cells #[.slice p2 NH c2] 23)=W:=⟨_,rfl⟩
 obtain ⟨w4,hw4⟩:∃ W,w3.alloc (.cells #[.slice none 0 0] 23)=W:=⟨_,rfl⟩
 obtain ⟨w5,hw5⟩:∃ W,w4.alloc (.cells #[.int .i64 0] 3)=W:=⟨_,rfl⟩
 have b3:=Boxed.new w2 23 (.slice p2 NH c2)
 have b4:=Boxed.new w3 23 (.slice none 0 0)
 have b5:=Boxed.new w4 3 (.int .i64 0)
 rw [hw3,hBh] at b3
 have hs3:w3.heap.size=Bh+1:=by rw [← hw3,← hBh];simp
 rw [hw4,hs3] at b4
 have hs4:w4.heap.size=Bh+2:=by rw [← hw4];simp [hs3]
 rw [hw5,hs4] at b5
 have hs5:w5.heap.size=Bh+3:=by rw [← hw5];simp [hs4]
 have hb25:Below w2.heap.size w2 w5:=by rw [← hw5,← hw4,← hw3];exact (((Below.refl _ _).alloc (Nat.le_refl _) _).alloc (by simp) _).alloc (by simp;omega) _
 have hk35:Kep (fun _=>True) w3 w5:=by rw [← hw5,← hw4];exact (ZmS _ _ _).trans (ZmS _ _ _)
 have hk45:Kep (fun _=>True) w4 w5:=by rw [← hw5];exact ZmS _ _ _
 have b3:=ZdI b3 hk35 trivial
 have b4:=ZdI b4 hk45 trivial
 have HW3:=Lib.hid hw3
 have HW4:=Lib.hid hw4
 have HW5:=Lib.hid hw5
 have HO2:=Lib.hid ho2
 clear hw3 hw4 hw5 ho2 hNH HP
 gi_wp2
 rw [HNH.out,HW3.out,HW4.out,HW5.out]
 refine ⟨trivial,(ZeJ 4 p l.length cap _).mono ?_⟩
 rintro e w9 ⟨rfl,rfl⟩
 rw [hs5]
 have hc1:((w5.alloc (.cells #[.slice p l.length cap] 22)).alloc (.cells #[.int .i64 16] 3)).cell? ⟨Bh+3,0,none⟩=some (.slice p l.length cap):=by
  rw [((Below.refl (w5.alloc (.cells #[.slice p l.length cap] 22)).heap.size _).alloc (Nat.le_refl _) (.cells #[.int .i64 16] 3)).cell (p:=⟨Bh+3,0,none⟩) (by simp [hs5]),← hs5,cell_of_row _ _ 0 _ _ _ (heap_alloc_new w5 _)]
  rfl
 have hc2:((w5.alloc (.cells #[.slice p l.length cap] 22)).alloc (.cells #[.int .i64 16] 3)).cell? ⟨Bh+3+1,0,none⟩=some (.int .i64 16):=by
  have e:(w5.alloc (.cells #[.slice p l.length cap] 22)).heap.size=Bh+3+1:=by simp [hs5]
  rw [← e,cell_of_row _ _ 0 _ _ _ (heap_alloc_new _ _)]
  rfl
 have hb56:Below w5.heap.size w5 ((w5.alloc (.cells #[.slice p l.length cap] 22)).alloc (.cells #[.int .i64 16] 3)):=((Below.refl _ _).alloc (Nat.le_refl _) _).alloc (by simp) _
 have hs6:((w5.alloc (.cells #[.slice p l.length cap] 22)).alloc (.cells #[.int .i64 16] 3)).heap.size=Bh+5:=by simp [hs5]
 obtain ⟨w6,hw6⟩:∃ W,((w5.alloc (.cells #[.slice p l.length cap] 22)).alloc (.cells #[.int .i64 16] 3))=W:=⟨_,rfl⟩
 rw [hw6] at hc1 hc2 hb56 hs6 ⊢
 have hk56:Kep (fun _=>True) w5 w6:=ZmT _ hb56
 have hb06:Below w.heap.size w w6:=(hb02.trans (hb25.mono (by omega))).trans (hb56.mono (by omega))
 obtain ⟨T,hT⟩:∃ T:Nat→Prop,(fun k=>k<w.heap.size∨k=Bh+3∨k=Bh+3+1)=T:=⟨_,rfl⟩
 have hTi:∀ k,T k↔(k<w.heap.size∨k=Bh+3∨k=Bh+3+1):=fun k=>by rw [← hT]
 have hTD:∀ k,T k→k<w6.heap.size:=fun k hk=>by rw [hTi] at hk;omega
 have ho2':=HO2.out
 rw [HNH.out] at ho2'
 have hown6:OwnB w.heap.size w6 (.slice p2 NH c2) (Zd8 l.length):=OwnB.weaken ((OwnB.keep ho2' hb25).keep hb56) hs1
 have hI0:InvE T w Bh (Bh+1) (Bh+2) l [] w6:=by
  refine ⟨.slice p2 NH c2,.slice none 0 0,?_,fun _=>rfl⟩
  have e0:endK l ([]:List Part).length=0:=by unfold endK;simp
  rw [e0,List.length_nil,Zln,List.append_nil,Zsq]
  exact ⟨ZdI b3 hk56 trivial,ZdI b4 hk56 trivial,ZdI b5 hk56 trivial,OwnB.zero hown6,World.ownsRow_nil _ _ _ _,World.ownsRow_nil _ _ _ _,fun k hk=>⟨(hlo2 k hk).1,fun h=>by have:=(hTi k).1 h;have:=hlo2 k hk;omega⟩,(fun k hk=>by cases hk),(fun k hk=>by simp [Value.ownBlock]),(fun k hk=>by cases hk),hb06,Kep.refl _ _,KeepsOthers.refl _,
   ⟨⟨by omega,by omega,by omega⟩,⟨by omega,by omega,by omega⟩,(fun h=>by have:=(hTi _).1 h;omega),(fun h=>by have:=(hTi _).1 h;omega),(fun h=>by have:=(hTi _).1 h;omega)⟩,hTD⟩
 have hrow6:ROn docC T w6 (.slice p l.length cap) l:=ROn.weak (RBel.below HV.out hb06) fun b _ hb=>(hTi b).2 (.inl hb)
 have HVOW:=Lib.hid (ZeZ 4 (by omega) (Bh+3) (Bh+3+1) T _ l w6 hn ((hTi _).2 (.inr (.inl rfl))) ((hTi _).2 (.inr (.inr rfl))) hTD hc1 hc2 hrow6)
 have HS6:=Lib.hid hs6
 have hDw:w.heap.size≤w6.heap.size:=by omega
 clear hT hTi hw6 hc1 hc2 hb56 hk56 hown6 hrow6 hb06 hb02 hb25 hk35 hk45 b3 b4 b5 hs3 hs4 hs5 hs6 ho2' HO2 HW3 HW4 HW5 hlo2
 gi_wp2
 refine Zss rfl (by omega) (gf:=200) (lb:=#[.pointer (some ⟨Bh+3,0,none⟩),.pointer (some ⟨Bh+3+1,0,none⟩)]) rfl trivial (enters_of Tryz.func200 (by kernel_rfl) rfl)
  HVOW.out (Below.refl _ _) hTD (fun _=>rfl)
  (InvE T w Bh (Bh+1) (Bh+2) l) (fun _ _=>False) (Zmp T w Bh (Bh+1) (Bh+2) l _ hDw) (fun _ _ _ _ h _ _=>h) (fun pre=>Zyw T l _ hTD pre) hI0
  (fun x=>{ tmps:=#[.slice p l.length cap,undef,.slice none 0 0,.int .i64 0,.pointer (some ⟨Bh,0,none⟩),.pointer (some ⟨Bh+1,0,none⟩),.pointer (some ⟨Bh+1+1,0,none⟩),x.1,undef,.slice p l.length cap,.int .i64 0,.bool false,.slice p l.length cap,.int .i64 (l.length:Int),.int .u64 (l.length:Int),.slice p2 NH c2,.slice p l.length cap,.func (.func 200) #[] #[.pointer (some ⟨Bh+3,0,none⟩),.pointer (some ⟨Bh+3+1,0,none⟩)],x.1,undef,undef,undef,undef,undef,undef,undef,undef,undef,undef,undef,undef,undef,undef,undef,undef,undef,undef,undef,undef,undef,undef,undef],defers:=[] }) ?assign ?body ?done ?stop
 case assign =>
  intro y x W K hK
  gi_wp2
  exact hK
 case body =>
  rintro y pre ⟨xv,xc⟩ W ⟨vh,vb,e3,_⟩ ⟨hrow,hxc⟩ hlt
  dsimp only at hrow hxc
  obtain ⟨k,hk⟩:∃ k,pre.length=k:=⟨_,rfl⟩
  rw [hk] at e3 hxc hlt
  have hk16:16*k<l.length:=by unfold Zdt at hlt;omega
  have eK:endK l k=16*k:=by unfold endK;omega
  rw [eK] at e3
  have hM1:16*k<endS l k:=by unfold endS;omega
  have hM2:endS l k≤l.length:=by unfold endS;omega
  have hclen:=ZeV (l:=l) (k:=k) (by omega)
  have hcok:=ZeW HRS.out (k:=k) (by omega)
  have hcb:=ZeQ (l:=l) (k:=k) (by omega)
  have hce:=ZeR (l:=l) (k:=k) (by omega)
  have hcf:=ZeT HFIT.out k
  have hcs:=ZeO l k
  have hlp:=Znb HIS.out (k:=16*k) (by omega)
  have hlp2:=Znb HIS.out hM2
  rw [← hxc] at hclen hcok hcb hce hcf hcs
  obtain ⟨J,hJ⟩:∃ J,J+1=xc.length:=⟨xc.length - 1,by omega⟩
  have hJl:J<xc.length:=by omega
  rw [Zhh hJ] at hce
  have hrl:=Zsn HIS.out (i:=16*k) (k:=endS l k) (by omega) hM2
  have hrl0:=Zsn HIS.out (i:=0) (k:=16*k) (by omega) (by omega)
  have hadd:=Zsk (l:=l) (i:=0) (j:=16*k) (by omega) (k:=endS l k) (by omega)
  have hhl:=Zlk l 0 k
  have hhn:=Zlm l 0 k
  rw [Nat.zero_add] at hhn
  unfold Zk9 at hhn
  have hbn:=(Zea l.length).2
  obtain ⟨BK,hBK⟩:∃ b,Zsj l (16*k) (endS l k)=b:=⟨_,rfl⟩
  obtain ⟨A,hA⟩:∃ a,Zm9 l (16*k)=a:=⟨_,rfl⟩
  obtain ⟨L9,hL9⟩:∃ a,Zm9 l (endS l k)=a:=⟨_,rfl⟩
  obtain ⟨Bd,hBd⟩:∃ b,Zsj l 0 (16*k)=b:=⟨_,rfl⟩
  obtain ⟨HH,hHH⟩:∃ b,Zd8 l.length++Zli l 0 k=b:=⟨_,rfl⟩
  have hHHl:HH.length≤100000000:=by rw [← hHH,List.length_append];unfold Zdt at hlt;omega
  rw [hBK,hBd] at hadd
  rw [hBK,hL9] at hhn
  rw [hBK] at hcb hrl
  rw [hA] at hcok hcb hlp e3
  rw [hL9] at hce hlp2
  rw [hBd] at hrl0 e3
  rw [hHH] at e3
  have hHN:Zd8 l.length++Zli l 0 (k+1)=(HH++Zd8 L9.toNat)++Zd8 BK.length:=by rw [hhn,← List.append_assoc,hHH,List.append_assoc]
  have hBKne:BK≠[]:=fun e=>by rw [e] at hrl;simp at hrl;omega
  have HBY:=Lib.hid (Zeh xv xc A W hrow.any hcok hcf hlp.1 (by omega))
  rw [hcb] at HBY
  obtain ⟨px,cx,rfl,_⟩:=hrow.shape
  obtain ⟨NX,hNX⟩:∃ n,xc.length=n:=⟨_,rfl⟩
  have HROW:=Lib.hid hrow
  rw [hNX] at HROW HBY hJ ⊢
  have HNX:=Lib.hid hNX
  have hJi:IntKind.i64.wrap ((NX:Int) - 1)=(J:Int):=by rw [IntKind.wrap_i64];omega
  have hJn:(NX:Int) - 1=(J:Int):=by omega
  have hJlt:(J:Int)<(NX:Int):=by omega
  have hJw:IntKind.i64.wrap (J:Int)=(J:Int):=by rw [IntKind.wrap_i64];omega
  have HCE:=Lib.hid (And.intro hJl hce)
  have HE3:=Lib.hid e3
  have cA:=e3.ba.cell
  have HEND:Hid (Zd8 l.length++Zli l 0 (pre++[((.slice px NX cx:Value),xc)]).length=(HH++Zd8 L9.toNat)++Zd8 BK.length∧Zsj l 0 (endK l (pre++[((.slice px NX cx:Value),xc)]).length)=Bd++BK∧Zm9 l (endK l (pre++[((.slice px NX cx:Value),xc)]).length)=L9):=Lib.hid (by
   rw [List.length_append,hk,List.length_singleton,hHN,Zhp,hadd,hL9]
   exact ⟨rfl,rfl,rfl⟩)
  have HLEN:Hid (HH.length≤100000000∧BK.length≤10000000000∧Bd.length≤10000000000∧0≤L9∧L9≤1099511627776):=Lib.hid ⟨hHHl,by omega,by omega,hlp2.1,hlp2.2⟩
  have HBKNE:=Lib.hid hBKne
  clear hI0 HVOW e3 hrow hxc hclen hcok hcb hce hcf hcs hlp hlp2 hrl hrl0 hadd hhl hhn hbn hBK hA hL9 hBd hHH hHHl hHN hBKne hNX hJl hk16 eK hM1 hM2 hlt hk
  gi_wp2
  refine ⟨trivial,(CallsIn.inRound y (callsIn_wide.2 HBY.out)).mono ?_⟩
  rintro e w1 ⟨v1,rfl,ho1,hb1⟩
  have e1:=HE3.out.row hb1 ho1
  have hrow1:ROn docC T w1 (.slice px NX cx) xc:=ROn.keep HROW.out e1.kt fun _ _ h=>h
  obtain ⟨bx,ox,vf,hpx,_,_,d1,d2,d3,_⟩:=Zgn hrow1 HCE.out.1
  subst hpx
  rw [HCE.out.2] at d1
  obtain ⟨p1,q1,rfl,_⟩:=(OwnB.brow ho1).shape
  have cA1:=e1.ba.cell
  have fA1:=e1.ba.frozen
  have HE1:=Lib.hid e1
  clear ho1 hb1 e1 hrow1 HBY HE3 HROW cA
  obtain ⟨w2,hw2⟩:∃ x,w1.setCell ⟨Bh+1+1,0,none⟩ (.int .i64 L9)=x:=⟨_,rfl⟩
  have e2:=HE1.out.setA (.int .i64 L9)
  rw [show Bh+2=Bh+1+1 from rfl,hw2] at e2
  obtain ⟨ph,ch,rfl,_⟩:=(OwnB.brow e2.oh).shape
  obtain ⟨nh,hnh⟩:∃ n,HH.length=n:=⟨_,rfl⟩
  have hA2:=Zcp (.slice ph HH.length ch) HH L9 w2 HLEN.out.2.2.2.1 (by have:=HLEN.out.2.2.2.2;omega) e2.oh (by have:=HLEN.out.1;omega)
  rw [hnh] at hA2 e2
  have HA2:=Lib.hid hA2
  have HNH2:=Lib.hid hnh
  have g0:=e2.bh.cell
  have g1:=e2.ba.cell
  rw [← hw2] at g0 g1
  have HE2:=Lib.hid e2
  have HW2:=Lib.hid hw2
  clear hw2 e2 hA2 hnh
  gi_wp2
  rw [HW2.out]
  refine ⟨trivial,(CallsIn.inRound y (callsIn_wide.2 HA2.out)).mono ?_⟩
  rintro e w3 ⟨v3,rfl,ho3,hg3⟩
  have e3:=HE2.out.growH hg3 ho3
  obtain ⟨p3,c3,rfl,_⟩:=(OwnB.brow ho3).shape
  obtain ⟨n3,hn3⟩:∃ n,(HH++Zd8 L9.toNat).length=n:=⟨_,rfl⟩
  rw [hn3] at e3 ⊢
  have hn3b:n3≤200000000:=by rw [← hn3,List.length_append];have:=HLEN.out.1;have:=(Zea L9.toNat).2;omega
  obtain ⟨H3,hH3⟩:∃ h,HH++Zd8 L9.toNat=h:=⟨_,rfl⟩
  rw [hH3] at e3 hn3
  obtain ⟨w4,hw4⟩:∃ x,w3.setCell ⟨Bh,0,none⟩ (.slice p3 n3 c3)=x:=⟨_,rfl⟩
  have e4:=e3.setH (.slice p3 n3 c3)
  rw [hw4] at e4
  have cB3:=e3.bh.cell
  have fB3:=e3.bh.frozen
  have hA4:=Zcp (.slice p3 n3 c3) H3 (BK.length:Int) w4 (by omega) (by have:=HLEN.out.2.1;omega) e4.oh (by omega)
  rw [Int.toNat_natCast] at hA4
  have HA4:=Lib.hid hA4
  have i0:=e4.bh.cell
  rw [← hw4] at i0
  have HE4:=Lib.hid e4
  have HW4:=Lib.hid hw4
  have HN3:=Lib.hid hn3b
  have HEND2:=HEND.out
  rw [hH3] at HEND2
  have HEND2:=Lib.hid HEND2
  clear hw4 e4 e3 hA4 ho3 hg3 hn3 hn3b hH3 HE2 HA2 HE1 HEND
  gi_wp2
  rw [HW4.out]
  refine ⟨trivial,(CallsIn.inRound y (callsIn_wide.2 HA4.out)).mono ?_⟩
  rintro e w5 ⟨v5,rfl,ho5,hg5⟩
  have e5:=HE4.out.growH hg5 ho5
  obtain ⟨p5,c5,rfl,_⟩:=(OwnB.brow ho5).shape
  obtain ⟨H5,hH5⟩:∃ h,H3++Zd8 BK.length=h:=⟨_,rfl⟩
  rw [hH5] at e5 ⊢
  obtain ⟨n5,hn5⟩:∃ n,H5.length=n:=⟨_,rfl⟩
  rw [hn5] at e5 ⊢
  obtain ⟨w6',hw6⟩:∃ x,w5.setCell ⟨Bh,0,none⟩ (.slice p5 n5 c5)=x:=⟨_,rfl⟩
  have e6:=e5.setH (.slice p5 n5 c5)
  rw [hw6] at e6
  have cB5:=e5.bh.cell
  have fB5:=e5.bh.frozen
  obtain ⟨pb,cb,rfl,_⟩:=(OwnB.brow e6.ob).shape
  obtain ⟨nb,hnb⟩:∃ n,Bd.length=n:=⟨_,rfl⟩
  rw [hnb] at e6
  have j0:=e6.bb.cell
  have j1:=e6.bb.frozen
  rw [← hw6] at j0 j1
  have HE6:=Lib.hid e6
  have HW6:=Lib.hid hw6
  have HNB:=Lib.hid hnb
  have HEND3:=HEND2.out
  rw [hH5] at HEND3
  have HEND3:=Lib.hid HEND3
  clear hw6 e6 e5 ho5 hg5 hn5 hH5 hnb HE4 HA4 HW4 HEND2
  gi_wp2_with (gi_at_builtin;rw [HW6.out];refine Zzk rfl _ _ rfl (.slice pb nb cb) Bd rfl HE6.out.ob (.slice p1 BK.length q1) BK rfl (OwnB.brow HE6.out.ox) (.inl HBKNE.out) (by have:=HLEN.out;omega) ?_;intro v7 w7 ho7 hg7;have e7:=HE6.out.growB hg7 ho7;obtain ⟨p7,c7,hv7,_⟩:=(OwnB.brow ho7).shape;obtain ⟨n7,hn7⟩:∃ n,(Bd++BK).length=n:=⟨_,rfl⟩;rw [hn7] at hv7;subst hv7;have HE7:=Lib.hid e7;have cB7:=e7.bb.cell;have fB7:=e7.bb.frozen;clear e7 ho7 hg7 hn7)
  have e8:=HE7.out.setB (.slice p7 n7 c7)
  have HQ:Hid (KeepsFrom w6.heap.size W (w7.setCell ⟨Bh+1,0,none⟩ (.slice p7 n7 c7))∧Kep T W (w7.setCell ⟨Bh+1,0,none⟩ (.slice p7 n7 c7))∧InvE T w Bh (Bh+1) (Bh+2) l (pre++[((.slice (some ⟨bx,ox,none⟩) NX cx:Value),xc)]) (w7.setCell ⟨Bh+1,0,none⟩ (.slice p7 n7 c7))):=Lib.hid (by
   refine ⟨e8.ko.from _,e8.kt,.slice p5 n5 c5,.slice p7 n7 c7,?_,fun h=>by simp at h⟩
   obtain ⟨q1,q2,q3⟩:=HEND3.out
   rw [q1,q2,q3]
   exact e8.fresh)
  exact HQ.out
 case done =>
  rintro D xs W hD hS ⟨vh,vb,e3,hnil⟩ hK
  have hxl:xs.length=Zdt l.length:=by
   have:=congrArg List.length hS
   unfold Ze4 at this
   simpa using this
  have eE:endK l xs.length=l.length:=by rw [hxl];unfold endK Zdt;omega
  rw [eE,hxl] at e3
  have hrl:=Zsn HIS.out (i:=0) (k:=l.length) (by omega) (Nat.le_refl _)
  have hhl:=Zlk l 0 (Zdt l.length)
  have hbn:=(Zea l.length).2
  have henc:SM.encS l=(Zd8 l.length++Zli l 0 (Zdt l.length))++Zsj l 0 l.length:=by unfold SM.encS;rw [List.append_assoc]
  have hvb:Zsj l 0 l.length≠[]∨vb=.slice none 0 0:=by
   by_cases h0:l.length=0
   ·refine .inr (hnil (List.eq_nil_of_length_eq_zero ?_))
    rw [hxl,h0];rfl
   ·refine .inl fun e => ?_
    have h2:=hrl.2
    rw [e,List.length_nil] at h2
    omega
  obtain ⟨HH,hHH⟩:∃ b,Zd8 l.length++Zli l 0 (Zdt l.length)=b:=⟨_,rfl⟩
  have hHHl:HH.length≤100000000:=by rw [← hHH,List.length_append];unfold Zdt at *;omega
  obtain ⟨Bd,hBd⟩:∃ b,Zsj l 0 l.length=b:=⟨_,rfl⟩
  rw [hHH,hBd] at henc e3
  rw [hBd] at hrl hvb
  have hBdl:Bd.length≤10000000000:=by omega
  obtain ⟨ph,ch,rfl,_⟩:=(OwnB.brow e3.oh).shape
  have c0:=e3.bh.cell
  have c1:=e3.bb.cell
  have HE3:=Lib.hid e3
  have HVB:=Lib.hid hvb
  have HEN:=Lib.hid henc
  have HLEN:Hid (HH.length≤100000000∧Bd.length≤10000000000):=Lib.hid ⟨hHHl,hBdl⟩
  clear hI0 HVOW e3 hnil hxl eE hrl hhl hbn henc hvb hHH hHHl hBd hBdl hS
  obtain ⟨nh,hnh⟩:∃ n,HH.length=n:=⟨_,rfl⟩
  rw [hnh] at c0 HE3
  have HNH9:=Lib.hid hnh
  clear hnh
  obtain ⟨vb0,hvb0⟩:∃ v,vb=v:=⟨_,rfl⟩
  obtain ⟨pb,cb,hpb,_⟩:=(OwnB.brow HE3.out.ob).shape
  obtain ⟨nb,hnb⟩:∃ n,Bd.length=n:=⟨_,rfl⟩
  rw [hnb] at hpb
  subst hpb
  have HNB9:=Lib.hid hnb
  clear hnb hvb0
  gi_wp2_with (gi_at_builtin;refine Zzk rfl _ _ rfl (.slice ph nh ch) HH rfl HE3.out.oh (.slice pb nb cb) Bd rfl (OwnB.brow HE3.out.ob) HVB.out (by have:=HLEN.out;omega) ?_;intro v7 w7 ho7 hg7;have e7:=HE3.out.growH hg7 ho7;obtain ⟨p7,c7,hv7,_⟩:=(OwnB.brow ho7).shape;obtain ⟨n7,hn7⟩:∃ n,(HH++Bd).length=n:=⟨_,rfl⟩;rw [hn7] at hv7;subst hv7;have HE7:=Lib.hid e7;have HO7:=Lib.hid ho7;have HKO:=Lib.hid (Zp1 HE3.out.oh hg7);clear e7 ho7 hg7 hn7)
  have hK7:=HKO.out.same D _ hK rfl
  have hgp:=grownBy_putObj' w7 D (.deferred none)
  refine ⟨by simp,.inl ⟨_,_,rfl,run_takeDeferred hK7,?_⟩⟩
  refine ⟨.tuple #[.slice p7 n7 c7,.int .i64 0],?_,.slice p7 n7 c7,rfl,?_,?_⟩
  ·simp [results,Tryz.f80,go_sem]
  ·rw [HEN.out]
   have ho:OwnB w.heap.size w7 (.slice p7 n7 c7) (HH++Bd):=OwnB.from HO7.out fun k hk=>(HE7.out.fh k hk).1
   refine OwnB.kepOwn ho (ZmW hgp (S:=fun b=>b≠D) fun k hk hne=>by cases hk;exact hne rfl) fun k hk e => ?_
   obtain ⟨_,cur,fr,hh⟩:=Zp8 ho hk
   rw [e,hK7] at hh
   cases hh
  ·exact HE7.out.low.grown hgp HE7.out.low.size (fun k e=>by cases e;omega)
 case stop =>
  rintro D pre W hD _ hF hK
  exact hF.elim
theorem Zez (v:Value) (l:List Doc) (w:World) (hv:RAny docC w v l) (hf:FitS l):Calls Tryz.prog 80 #[v] w (Zap (if isS l then SM.encS l else []) (if isS l then 0 else 120) w):=by
 cases h:isS l with
 | true =>
   rw [if_pos rfl,if_pos rfl]
   exact Zg3 v l w hv hf h
 | false =>
   rw [if_neg (by simp),if_neg (by simp)]
   refine (Zg2 v l w hv h).mono ?_
   rintro e w' ⟨rfl,hb⟩
   exact ⟨_,rfl,World.ownsRow_nil _ _ _ _,hb⟩
end Go.Proofs.YtdijhifdjbnkfaaGreat.ST
