import Derived.Test.YtdijhifdjbnkfaaGreatZT22
import Derived.Test.YtdijhifdjbnkfaaGreatZT37
set_option maxRecDepth 100000
set_option maxHeartbeats 0
set_option linter.unusedVariables false
set_option linter.unusedSimpArgs false
namespace Go.Proofs.YtdijhifdjbnkfaaGreat
open Lib (hid)
open Tryz
namespace ST
open RowKit Go.Shelf MM EM SM VM GB TB
open EV (ZA evC Z8 Zad ZcF ZbP)
open RF (Zte Zdn Ztb ZtK)
attribute [local go_sem] Oper.semAt_some
theorem Zo4 (v:Value) (l:List Zo) (w:World) (b:ZN ZA w v l) (h:isS l=false):Calls prog 80 #[v] w fun e w'=>e=.returned (.tuple #[.slice none 0 0,.int .i64 120])/\Below w.heap.size w w':=by
 have a:=Zf7 v l w b;rw [h] at a;have a:=hid a;obtain ⟨p,f,rfl,_⟩:=b.shape;clear b h;go_enter func80,ntmps80;go_wp2_with fail;refine a.out.mono ?_;rintro e w1 ⟨rfl,c⟩;have d:=hid c;rw [show ZCg false=120 from rfl];clear c a;go_wp2_with fail;go_ret2;exact ⟨rfl,d.out⟩
def Zk0 (l:List Zo) (k:Nat):Nat:=min (16*k) l.length
def ZoR (T:Nat->Prop) (w:World) (c d e:Nat) (l:List Zo) (pre:List Part) (W:World):Prop :=
 ∃b a,E3 T w W W c d e b a (.int .i64 (ZaK l (Zk0 l pre.length))) b a (.slice none 0 0) (Zb l.length++Zas l 0 pre.length) (ZO l 0 (Zk0 l pre.length)) []/\(pre=[]->a=.slice none 0 0)
theorem Zms (T:Nat->Prop) (w:World) (c d i:Nat) (l:List Zo) (D:Nat) (h:w.heap.size<=D):OwnFrom D (ZoR T w c d i l):=fun pre W W' row ⟨g,f,e,j⟩ a b=>⟨g,f,e.own h a b,j⟩
theorem Znc (T:Nat->Prop) (l:List Zo) (D:Nat) (d:∀k,T k->k<D) (pre:List Part):OwnFrom D (ZrB T l pre):=fun x W W' row h a b =>
 ⟨ZD.keep h.1 (ZM a fun k e c=>by have:=(b k e).1;have:=d k c;omega) (fun _ _ h=>h),h.2⟩
theorem Zxg {a:Int} {c:List Zo} {J:Nat} (h:J+1=c.length):Za5 a c=(c[J]'(by omega)).1:=by
 have:=ZjT a (c:=c) (i:=J) (by omega);rw [h,XC] at this;exact this
theorem Zxh {l:List Zo} {k:Nat}:Zk0 l (k+1)=Zbt l k:=by unfold Zk0 Zbt;omega
theorem ZeN (v:Value) (l:List Zo) (w:World) (hv:ZN ZA w v l) (aJ:ZaH l) (h:isS l=true):Calls prog 80 #[v] w (Zs7 (SM.encS l) 0 w):=by
 obtain ⟨hn,bG⟩:=Zbx.1 h;have HC:=Zf7 v l w hv;rw [h] at HC;have HC:=hid HC;have HV:=hid (ZN.bel hv);have HP:=hid (fun W=>VP.Zdg (.slice none 0 0) [] l.length W (by omega) (Zq.nil_ W) (by simp));simp only [Xz] at HP;obtain ⟨p,c,rfl,b9,cf,_⟩:=hv.shape;have b0:IntKind.u64.wrap (l.length:Int)=(l.length:Int):=by rw [IntKind.wrap_u64];omega
 have aa:=hid h;have bO:=hid bG;have bk:=hid aJ;clear hv h bG aJ;refine (callsIn_wide (n:=5)).1 ?_;refine callsIn_of_wp_marks func80 rfl trivial ?_ rfl;simp only [ntmps80,Xat,Xh,Xm,Nat.reduceAdd,Nat.reduceSub,XaB,XaC,XaD,XaE,Xz,XJ];gi_wp2
 refine ⟨trivial,(callsIn_wide.2 HC.out).mono ?_⟩;rintro e w1 ⟨rfl,ag⟩;rw [show ZCg true=0 from rfl];have bn:=hid ag;clear ag HC;gi_wp2
 refine ⟨trivial,(callsIn_wide.2 (HP.out w1)).mono ?_⟩;rintro e w2 ⟨v2,rfl,aC,bv⟩;have bB:=bn.out.size;have co:=bv.size;obtain ⟨p2,c2,rfl,_⟩:=(Zd.brow aC).shape;obtain ⟨a,bt⟩:=Xn w2.heap.size;have aQ:Below w.heap.size w w2:=bn.out.trans (bv.mono bB);have R:∀g,(Value.slice p2 (Zb l.length).length c2).ownBlock=some g->w.heap.size<=g/\g<a:=fun g hg=>by have:=World.ownsRow.lt aC g hg;omega
 obtain ⟨NH,aY⟩:=Xn ((Zb l.length).length);rw [aY] at R;have bj:=hid aY;obtain ⟨w3,ab⟩:=Xn (w2.alloc (.cells #[.slice p2 NH c2] 23));obtain ⟨w4,o⟩:=Xn (w3.alloc (.cells #[.slice none 0 0] 23));obtain ⟨z,O⟩:=Xn (w4.alloc (.cells #[.int .i64 0] 3));have b3:=Boxed.new w2 23 (.slice p2 NH c2);have b4:=Boxed.new w3 23 (.slice none 0 0);have b5:=Boxed.new w4 3 (.int .i64 0);rw [ab,bt] at b3;have aV:w3.heap.size=a+1:=by rw [<- ab,<- bt];simp
 rw [o,aV] at b4;have aR:w4.heap.size=a+2:=by rw [<- o];simp [aV]
 rw [O,aR] at b5;have Y:z.heap.size=a+3:=by rw [<- O];simp [aR]
 have aw:Below w2.heap.size w2 z:=by rw [<- O,<- o,<- ab];exact (((Below.refl _ _).alloc (Xc _) _).alloc (by simp) _).alloc (by simp;omega) _
 have aL:Kep (fun _=>True) w3 z:=by rw [<- O,<- o];exact (Zr _ _ _).trans (Zr _ _ _)
 have aO:Kep (fun _=>True) w4 z:=by rw [<- O];exact Zr _ _ _
 have b3:=ZaI b3 aL trivial;have b4:=ZaI b4 aO trivial;have bu:=hid ab;have an:=hid o;have bH:=hid O;have bF:=hid aC;clear ab o O aC aY HP;gi_wp2
 rw [bj.out,bu.out,an.out,bH.out];refine ⟨trivial,(ZrN 4 p l.length c _).mono ?_⟩;rintro e w9 ⟨rfl,rfl⟩;rw [Y]
 have a9:((z.alloc (.cells #[.slice p l.length c] 22)).alloc (.cells #[.int .i64 16] 3)).cell? ⟨a+3,0,none⟩=some (.slice p l.length c):=by
  rw [((Below.refl (z.alloc (.cells #[.slice p l.length c] 22)).heap.size _).alloc (Xc _) (.cells #[.int .i64 16] 3)).cell (p:=⟨a+3,0,none⟩) (by simp [Y]),<- Y,cell_of_row _ _ 0 _ _ _ (heap_alloc_new z _)];rfl
 have a2:((z.alloc (.cells #[.slice p l.length c] 22)).alloc (.cells #[.int .i64 16] 3)).cell? ⟨a+3+1,0,none⟩=some (.int .i64 16):=by
  have e:(z.alloc (.cells #[.slice p l.length c] 22)).heap.size=a+3+1:=by simp [Y]
  rw [<- e,cell_of_row _ _ 0 _ _ _ (heap_alloc_new _ _)];rfl
 have C:Below z.heap.size z ((z.alloc (.cells #[.slice p l.length c] 22)).alloc (.cells #[.int .i64 16] 3)):=((Below.refl _ _).alloc (Xc _) _).alloc (by simp) _;have bc:((z.alloc (.cells #[.slice p l.length c] 22)).alloc (.cells #[.int .i64 16] 3)).heap.size=a+5:=by simp [Y]
 obtain ⟨w6,L⟩:=Xn (((z.alloc (.cells #[.slice p l.length c] 22)).alloc (.cells #[.int .i64 16] 3)));rw [L] at a9 a2 C bc ⊢;have X:Kep (fun _=>True) z w6:=Za _ C;have aj:Below w.heap.size w w6:=(aQ.trans (aw.mono (by omega))).trans (C.mono (by omega));obtain ⟨T,hT⟩:∃T:Nat->Prop,(fun k=>k<w.heap.size\/k=a+3\/k=a+3+1)=T:=⟨_,rfl⟩;have r:∀k,T k↔(k<w.heap.size\/k=a+3\/k=a+3+1):=fun k=>by rw [<- hT]
 have az:∀k,T k->k<w6.heap.size:=fun k q=>by rw [r] at q;omega
 have aq:=bF.out;rw [bj.out] at aq;have ax:Zd w.heap.size w6 (.slice p2 NH c2) (Zb l.length):=Zd.weaken ((Zd.keep aq aw).keep C) bB
 have aS:ZoR T w a (a+1) (a+2) l [] w6:=by
  refine ⟨.slice p2 NH c2,.slice none 0 0,?_,fun _=>rfl⟩;have e0:Zk0 l ([]:List Part).length=0:=by unfold Zk0;simp
  rw [e0,Xm,Zfc,XI,Zcp]
  exact ⟨ZaI b3 X trivial,ZaI b4 X trivial,ZaI b5 X trivial,Zd.zero ax,World.ownsRow_nil _ _ _ _,World.ownsRow_nil _ _ _ _,fun k q=>⟨(R k q).1,fun h=>by have:=(r k).1 h;have:=R k q;omega⟩,(fun k q=>by cases q),(fun k q=>by simp [Value.ownBlock]),(fun k q=>by cases q),aj,Kep.refl _ _,KeepsOthers.refl _,
   ⟨⟨by omega,by omega,by omega⟩,⟨by omega,by omega,by omega⟩,(fun h=>by have:=(r _).1 h;omega),(fun h=>by have:=(r _).1 h;omega),(fun h=>by have:=(r _).1 h;omega)⟩,az⟩
 have av:ZD ZA T w6 (.slice p l.length c) l:=ZD.weak (ZgP.below HV.out aj) fun b _ hb=>(r b).2 (.inl hb);have af:=hid (ZjN 4 (by omega) (a+3) (a+3+1) T _ l w6 hn ((r _).2 (.inr (.inl rfl))) ((r _).2 (.inr (.inr rfl))) az a9 a2 av);have bZ:=hid bc;have bS:w.heap.size<=w6.heap.size:=by omega
 clear hT r L a9 a2 C X ax av aj aQ aw aL aO b3 b4 b5 aV aR Y bc aq bF bu an bH R;gi_wp2
 refine ZtK rfl (by omega) (gf:=200) (lb:=#[.pointer (some ⟨a+3,0,none⟩),.pointer (some ⟨a+3+1,0,none⟩)]) rfl trivial (enters_of func200 (by kernel_rfl) rfl)
  af.out (Below.refl _ _) az (fun _=>rfl)
  (ZoR T w a (a+1) (a+2) l) (fun _ _=>False) (Zms T w a (a+1) (a+2) l _ bS) (fun _ _ _ _ h _ _=>h) (fun pre=>Znc T l _ az pre) aS
  (fun x=>{ tmps:=#[.slice p l.length c,undef,.slice none 0 0,.int .i64 0,.pointer (some ⟨a,0,none⟩),.pointer (some ⟨a+1,0,none⟩),.pointer (some ⟨a+1+1,0,none⟩),x.1,undef,.slice p l.length c,.int .i64 0,.bool false,.slice p l.length c,.int .i64 (l.length:Int),.int .u64 (l.length:Int),.slice p2 NH c2,.slice p l.length c,.func (.func 200) #[] #[.pointer (some ⟨a+3,0,none⟩),.pointer (some ⟨a+3+1,0,none⟩)],x.1,undef,undef,undef,undef,undef,undef,undef,undef,undef,undef,undef,undef,undef,undef,undef,undef,undef,undef,undef,undef,undef,undef,undef],defers:=[] }) ?assign ?body ?done ?stop
 case assign =>
  intro y x W K hK;gi_wp2
  exact hK
 case body =>
  rintro y pre ⟨xv,xc⟩ W ⟨vh,vb,m,_⟩ ⟨G,aB⟩ ay;dsimp only at G aB;obtain ⟨k,q⟩:=Xn pre.length;rw [q] at m aB ay;have bp:16*k<l.length:=by unfold Zv at ay;omega
  have eK:Zk0 l k=16*k:=by unfold Zk0;omega
  rw [eK] at m;have bU:16*k<Zbt l k:=by unfold Zbt;omega
  have a6:Zbt l k<=l.length:=by unfold Zbt;omega
  have am:=Zeu (l:=l) (k:=k) (by omega);have U:=chunk_ok bO.out (k:=k) (by omega);have ao:=Zkx (l:=l) (k:=k) (by omega);have au:=ZnH (l:=l) (k:=k) (by omega);have a8:=Zug bk.out k;have bq:=ZpS l k;have aW:=ZcA aa.out (k:=16*k) (by omega);have V:=ZcA aa.out a6;rw [<- aB] at am U ao au a8 bq;obtain ⟨J,hJ⟩:∃J,J+1=xc.length:=⟨xc.length - 1,by omega⟩;have br:J<xc.length:=by omega
  rw [Zxg hJ] at au;have B:=Zbv aa.out (i:=16*k) (k:=Zbt l k) (by omega) a6;have aM:=Zbv aa.out (i:=0) (k:=16*k) (by omega) (by omega);have ah:=ZiA (l:=l) (i:=0) (j:=16*k) (by omega) (k:=Zbt l k) (by omega);have aX:=ZeT l 0 k;have ai:=Zfb l 0 k;rw [XL] at ai;unfold Zg8 at ai;have aT:=(Zc l.length).2;obtain ⟨BK,aE⟩:=Xn (ZO l (16*k) (Zbt l k));obtain ⟨A,hA⟩:=Xn (ZaK l (16*k));obtain ⟨L9,aG⟩:=Xn (ZaK l (Zbt l k));obtain ⟨Bd,N⟩:=Xn (ZO l 0 (16*k));obtain ⟨H,u⟩:=Xn (Zb l.length++Zas l 0 k);have F:H.length<=100000000:=by rw [<- u,Xd];unfold Zv at ay;omega
  rw [aE,N] at ah;rw [aE,aG] at ai;rw [aE] at ao B;rw [hA] at U ao aW m;rw [aG] at au V;rw [N] at aM m;rw [u] at m;have bC:Zb l.length++Zas l 0 (k+1)=(H++Zb L9.toNat)++Zb BK.length:=by rw [ai,<- Xl,u,Xl]
  have ac:BK≠[]:=fun e=>by rw [e] at B;simp at B;omega
  have aF:=hid (ZpO xv xc A W G.any U a8 aW.1 (by omega));rw [ao] at aF;obtain ⟨px,cx,rfl,_⟩:=G.shape;obtain ⟨NX,a0⟩:=Xn xc.length;have ae:=hid G;rw [a0] at ae aF hJ ⊢;have ci:=hid a0;have cm:IntKind.i64.wrap ((NX:Int) - 1)=(J:Int):=by rw [IntKind.wrap_i64];omega
  have b8:(NX:Int) - 1=(J:Int):=by omega
  have bV:(J:Int)<(NX:Int):=by omega
  have b1:IntKind.i64.wrap (J:Int)=(J:Int):=by rw [IntKind.wrap_i64];omega
  have bz:=hid (And.intro br au);have t:=hid m;have cA:=m.ba.cell
  have aN:Hid (Zb l.length++Zas l 0 (pre++[((.slice px NX cx:Value),xc)]).length=(H++Zb L9.toNat)++Zb BK.length/\ZO l 0 (Zk0 l (pre++[((.slice px NX cx:Value),xc)]).length)=Bd++BK/\ZaK l (Zk0 l (pre++[((.slice px NX cx:Value),xc)]).length)=L9):=hid (by
   rw [Xd,q,Xaf,bC,Zxh,ah,aG];exact ⟨rfl,rfl,rfl⟩)
  have d:Hid (H.length<=100000000/\BK.length<=10000000000/\Bd.length<=10000000000/\0<=L9/\L9<=1099511627776):=hid ⟨F,by omega,by omega,V.1,V.2⟩;have a5:=hid ac;clear aS af m G aB am U ao au a8 bq aW V B aM ah aX ai aT aE hA aG N u F bC ac a0 br bp eK bU a6 ay q;gi_wp2
  refine ⟨trivial,(CallsIn.inRound y (callsIn_wide.2 aF.out)).mono ?_⟩;rintro e w1 ⟨v1,rfl,a3,ag⟩;have e1:=t.out.row ag a3;have ar:ZD ZA T w1 (.slice px NX cx) xc:=ZD.keep ae.out e1.kt fun _ _ h=>h;obtain ⟨bx,ox,vf,bL,_,_,d1,d2,d3,_⟩:=Zad ar bz.out.1;subst bL;rw [bz.out.2] at d1;obtain ⟨p1,q1,rfl,_⟩:=(Zd.brow a3).shape;have b7:=e1.ba.cell;have cn:=e1.ba.frozen;have bg:=hid e1;clear a3 ag e1 ar aF t ae cA;obtain ⟨w2,aD⟩:=Xn (w1.setCell ⟨a+1+1,0,none⟩ (.int .i64 L9));have e2:=bg.out.setA (.int .i64 L9);rw [show a+2=a+1+1 from rfl,aD] at e2;obtain ⟨ph,ch,rfl,_⟩:=(Zd.brow e2.oh).shape;obtain ⟨nh,M⟩:=Xn H.length;have bf:=Za4 (.slice ph H.length ch) H L9 w2 d.out.2.2.2.1 (by have:=d.out.2.2.2.2;omega) e2.oh (by have:=d.out.1;omega);rw [M] at bf e2;have bo:=hid bf;have bX:=hid M;have g0:=e2.bh.cell;have g1:=e2.ba.cell;rw [<- aD] at g0 g1;have bD:=hid e2;have bM:=hid aD;clear aD e2 bf M;gi_wp2
  rw [bM.out];refine ⟨trivial,(CallsIn.inRound y (callsIn_wide.2 bo.out)).mono ?_⟩;rintro e w3 ⟨v3,rfl,be,bJ⟩;have m:=bD.out.growH bJ be;obtain ⟨p3,c3,rfl,_⟩:=(Zd.brow be).shape;obtain ⟨n3,aA⟩:=Xn ((H++Zb L9.toNat).length);rw [aA] at m ⊢;have aP:n3<=200000000:=by rw [<- aA,Xd];have:=d.out.1;have:=(Zc L9.toNat).2;omega
  obtain ⟨H3,aU⟩:=Xn (H++Zb L9.toNat);rw [aU] at m aA;obtain ⟨w4,o⟩:=Xn (w3.setCell ⟨a,0,none⟩ (.slice p3 n3 c3));have e4:=m.setH (.slice p3 n3 c3);rw [o] at e4;have cg:=m.bh.cell;have b6:=m.bh.frozen;have a7:=Za4 (.slice p3 n3 c3) H3 (BK.length:Int) w4 (by omega) (by have:=d.out.2.1;omega) e4.oh (by omega);rw [XT] at a7;have bA:=hid a7;have i0:=e4.bh.cell;rw [<- o] at i0;have bm:=hid e4;have an:=hid o;have cd:=hid aP;have f:=aN.out;rw [aU] at f;have f:=hid f;clear o e4 m a7 be bJ aA aP aU bD bo bg aN;gi_wp2
  rw [an.out];refine ⟨trivial,(CallsIn.inRound y (callsIn_wide.2 bA.out)).mono ?_⟩;rintro e z ⟨v5,rfl,bd,bI⟩;have e5:=bm.out.growH bI bd;obtain ⟨p5,c5,rfl,_⟩:=(Zd.brow bd).shape;obtain ⟨H5,aZ⟩:=Xn (H3++Zb BK.length);rw [aZ] at e5 ⊢;obtain ⟨n5,bs⟩:=Xn H5.length;rw [bs] at e5 ⊢;obtain ⟨cj,L⟩:=Xn (z.setCell ⟨a,0,none⟩ (.slice p5 n5 c5));have e6:=e5.setH (.slice p5 n5 c5);rw [L] at e6;have b2:=e5.bh.cell;have ce:=e5.bh.frozen;obtain ⟨pb,cb,rfl,_⟩:=(Zd.brow e6.ob).shape;obtain ⟨nb,I⟩:=Xn Bd.length;rw [I] at e6;have j0:=e6.bb.cell;have j1:=e6.bb.frozen;rw [<- L] at j0 j1;have a1:=hid e6;have bQ:=hid L;have ck:=hid I;have s:=f.out;rw [aZ] at s;have s:=hid s;clear L e6 e5 bd bI bs aZ I bm bA an f;gi_wp2_with (gi_at_builtin;rw [bQ.out];refine Zdq rfl _ _ rfl (.slice pb nb cb) Bd rfl a1.out.ob (.slice p1 BK.length q1) BK rfl (Zd.brow a1.out.ox) (.inl a5.out) (by have:=d.out;omega) ?_;intro v7 w7 E Z;have e7:=a1.out.growB Z E;obtain ⟨p7,c7,al,_⟩:=(Zd.brow E).shape;obtain ⟨n7,ap⟩:∃n,(Bd++BK).length=n:=⟨_,rfl⟩;rw [ap] at al;subst al;have ad:=hid e7;have cc:=e7.bb.cell;have cp:=e7.bb.frozen;clear e7 E Z ap)
  have e8:=ad.out.setB (.slice p7 n7 c7)
  have HQ:Hid (KeepsFrom w6.heap.size W (w7.setCell ⟨a+1,0,none⟩ (.slice p7 n7 c7))/\Kep T W (w7.setCell ⟨a+1,0,none⟩ (.slice p7 n7 c7))/\ZoR T w a (a+1) (a+2) l (pre++[((.slice (some ⟨bx,ox,none⟩) NX cx:Value),xc)]) (w7.setCell ⟨a+1,0,none⟩ (.slice p7 n7 c7))):=hid (by
   refine ⟨e8.ko.from _,e8.kt,.slice p5 n5 c5,.slice p7 n7 c7,?_,fun h=>by simp at h⟩;obtain ⟨q1,q2,q3⟩:=s.out;rw [q1,q2,q3];exact e8.fresh)
  exact HQ.out
 case done =>
  rintro D xs W hD hS ⟨vh,vb,m,aK⟩ hK
  have aH:xs.length=Zv l.length:=by
   have:=Xp List.length hS;unfold ZH at this;simpa using this
  have eE:Zk0 l xs.length=l.length:=by rw [aH];unfold Zk0 Zv;omega
  rw [eE,aH] at m;have B:=Zbv aa.out (i:=0) (k:=l.length) (by omega) (Xc _);have aX:=ZeT l 0 (Zv l.length);have aT:=(Zc l.length).2;have ak:SM.encS l=(Zb l.length++Zas l 0 (Zv l.length))++ZO l 0 l.length:=by unfold SM.encS;rw [Xl]
  have a4:ZO l 0 l.length≠[]\/vb=.slice none 0 0:=by
   by_cases h0:l.length=0
   ·refine .inr (aK (XO ?_));rw [aH,h0];rfl
   ·refine .inl fun e => ?_;have h2:=B.2;rw [e,Xm] at h2;omega
  obtain ⟨H,u⟩:=Xn (Zb l.length++Zas l 0 (Zv l.length));have F:H.length<=100000000:=by rw [<- u,Xd];unfold Zv at *;omega
  obtain ⟨Bd,N⟩:=Xn (ZO l 0 l.length);rw [u,N] at ak m;rw [N] at B a4;have aI:Bd.length<=10000000000:=by omega
  obtain ⟨ph,ch,rfl,_⟩:=(Zd.brow m.oh).shape;have c0:=m.bh.cell;have c1:=m.bb.cell;have t:=hid m;have bP:=hid a4;have bN:=hid ak;have d:Hid (H.length<=100000000/\Bd.length<=10000000000):=hid ⟨F,aI⟩;clear aS af m aK aH eE B aX aT ak a4 u F N aI hS;obtain ⟨nh,M⟩:=Xn H.length;rw [M] at c0 t;have bY:=hid M;clear M;obtain ⟨ca,bl⟩:=Xn vb;obtain ⟨pb,cb,bE,_⟩:=(Zd.brow t.out.ob).shape;obtain ⟨nb,I⟩:=Xn Bd.length;rw [I] at bE;subst bE;have bW:=hid I;clear I bl;gi_wp2_with (gi_at_builtin;refine Zdq rfl _ _ rfl (.slice ph nh ch) H rfl t.out.oh (.slice pb nb cb) Bd rfl (Zd.brow t.out.ob) bP.out (by have:=d.out;omega) ?_;intro v7 w7 E Z;have e7:=t.out.growH Z E;obtain ⟨p7,c7,al,_⟩:=(Zd.brow E).shape;obtain ⟨n7,ap⟩:∃n,(H++Bd).length=n:=⟨_,rfl⟩;rw [ap] at al;subst al;have ad:=hid e7;have bT:=hid E;have bK:=hid (Ziw t.out.oh Z);clear e7 E Z ap)
  have bi:=bK.out.same D _ hK rfl;have bw:=grownBy_putObj' w7 D (.deferred none);refine ⟨by simp,.inl ⟨_,_,rfl,run_takeDeferred bi,?_⟩⟩;refine ⟨.tuple #[.slice p7 n7 c7,.int .i64 0],?_,.slice p7 n7 c7,rfl,?_,?_⟩
  ·simp [results,Tryz.f80,go_sem]
  ·rw [bN.out];have ho:Zd w.heap.size w7 (.slice p7 n7 c7) (H++Bd):=Zd.from bT.out fun k q=>(ad.out.fh k q).1;refine Zd.kepOwn ho (ZM bw (S:=fun b=>b≠D) fun k q bR=>by cases q;exact bR rfl) fun k q e => ?_;obtain ⟨_,cl,fr,hh⟩:=Zbk ho q;rw [e,bi] at hh;cases hh
  ·exact ad.out.low.grown bw ad.out.low.size (fun k e=>by cases e;omega)
 case stop =>
  rintro D pre W hD _ hF hK;exact hF.elim
theorem ZwQ (v:Value) (l:List Zo) (w:World) (a:ZN ZA w v l) (c:ZaH l):Calls prog 80 #[v] w (Zs7 (if isS l then SM.encS l else []) (if isS l then 0 else 120) w):=by
 cases h:isS l with
 | true =>
   rw [Xe rfl,Xe rfl];exact ZeN v l w a c h
 | false =>
   rw [Xa (by simp),Xa (by simp)];refine (Zo4 v l w a h).mono ?_;rintro e w' ⟨rfl,b⟩;exact ⟨_,rfl,World.ownsRow_nil _ _ _ _,b⟩
