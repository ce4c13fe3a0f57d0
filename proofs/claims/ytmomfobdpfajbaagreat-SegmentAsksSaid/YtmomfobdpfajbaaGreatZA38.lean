import Derived.Test.YtmomfobdpfajbaaGreatZA24
import Derived.Test.YtmomfobdpfajbaaGreatZA37
set_option maxRecDepth 100000
set_option maxHeartbeats 0
set_option linter.unusedVariables false
set_option linter.unusedSimpArgs false
namespace Go.Proofs.YtmomfobdpfajbaaGreat
open Tryz
namespace ST
open RowKit Go.Shelf MM EM SM VM GB TB
open EV (ZD evC Zae Z2 ZbT ZbJ)
open RF (ZtO Zdl ZtK Zuj)
attribute [local go_sem] Oper.semAt_some
theorem Zpf (v:Value) (l:List Zq) (w:World) (b:ZF ZD w v l) (h:isS l=false):Calls prog 80 #[v] w fun e w'=>e=.returned (.tuple #[.slice none 0 0,.int .i64 120])/\Below w.heap.size w w':=by
 have a:=Zf3 v l w b;rw [h] at a;have a:=Y4 a;obtain ⟨p,f,rfl,_⟩:=b.shape;clear b h;go_enter func80,ntmps80;go_wp2_with fail;refine a.z.mono ?_;rintro e w1 ⟨rfl,c⟩;have d:=Y4 c;rw [show ZCx false=120 from rfl];clear c a;go_wp2_with fail;go_ret2;exact ⟨rfl,d.z⟩
def Zk6 (l:List Zq) (k:Nat):Nat:=min (16*k) l.length
def Zo2 (T:Nat->Prop) (w:World) (c e d:Nat) (l:List Zq) (pre:List Part) (W:World):Prop :=
 ∃b a,E3 T w W W c e d b a (.int .i64 (ZaJ l (Zk6 l pre.length))) b a (.slice none 0 0) (Zb l.length++Zas l 0 pre.length) (ZR l 0 (Zk6 l pre.length)) []/\(pre=[]->a=.slice none 0 0)
theorem Zmr (T:Nat->Prop) (w:World) (a i c:Nat) (l:List Zq) (D:Nat) (h:w.heap.size<=D):OwnFrom D (Zo2 T w a i c l):=fun pre W W' row ⟨e,d,f,g⟩ j b=>⟨e,d,f.own h j b,g⟩
theorem Zni (T:Nat->Prop) (l:List Zq) (D:Nat) (d:∀k,T k->k<D) (pre:List Part):OwnFrom D (Zr5 T l pre):=fun x W W' row h e b =>
 ⟨ZB.keep h.1 (ZO e fun k a c=>by have:=(b k a).1;have:=d k c;omega) (fun _ _ h=>h),h.2⟩
theorem ZxK {a:Int} {c:List Zq} {J:Nat} (h:J+1=c.length):Za6 a c=(c[J]'(by omega)).1:=by
 have:=ZjV a (c:=c) (i:=J) (by omega);rw [h,XB] at this;exact this
theorem ZxL {l:List Zq} {k:Nat}:Zk6 l (k+1)=Zbu l k:=by unfold Zk6 Zbu;omega
theorem ZeK (v:Value) (l:List Zq) (w:World) (hv:ZF ZD w v l) (aP:ZaS l) (h:isS l=true):Calls prog 80 #[v] w (ZtF (SM.encS l) 0 w):=by
 obtain ⟨hn,bB⟩:=Zcv.1 h;have HC:=Zf3 v l w hv;rw [h] at HC;have HC:=Y4 HC;have HV:=Y4 (ZF.bel hv);have HP:=Y4 (fun W=>VP.Zdd (.slice none 0 0) [] l.length W (by omega) (Zv.nil_ W) (by simp));simp only [XE] at HP;obtain ⟨p,c,rfl,b0,cd,_⟩:=hv.shape;have cn:IntKind.u64.wrap (l.length:Int)=(l.length:Int):=by rw [IntKind.wrap_u64];omega
 have aq:=Y4 h;have bU:=Y4 bB;have bD:=Y4 aP;clear hv h bB aP;refine (callsIn_wide (n:=5)).1 ?_;refine callsIn_of_wp_marks func80 rfl trivial ?_ rfl;simp only [ntmps80,Xar,Xh,Xv,Nat.reduceAdd,Nat.reduceSub,XaD,XaE,XaF,XaG,XE,XK];gi_wp2
 refine ⟨trivial,(callsIn_wide.2 HC.z).mono ?_⟩;rintro e w1 ⟨rfl,ak⟩;rw [show ZCx true=0 from rfl];have bA:=Y4 ak;clear ak HC;gi_wp2
 refine ⟨trivial,(callsIn_wide.2 (HP.z w1)).mono ?_⟩;rintro e w2 ⟨v2,rfl,aG,bi⟩;have bq:=bA.z.size;have b9:=bi.size;obtain ⟨p2,c2,rfl,_⟩:=(Zd.brow aG).shape;obtain ⟨a,bo⟩:=Xn w2.heap.size;have aK:Below w.heap.size w w2:=bA.z.trans (bi.mono bq);have R:∀g,(Value.slice p2 (Zb l.length).length c2).ownBlock=some g->w.heap.size<=g/\g<a:=fun g hg=>by have:=World.ownsRow.lt aG g hg;omega
 obtain ⟨NH,bd⟩:=Xn ((Zb l.length).length);rw [bd] at R;have bv:=Y4 bd;obtain ⟨w3,ab⟩:=Xn (w2.alloc (.cells #[.slice p2 NH c2] 23));obtain ⟨w4,o⟩:=Xn (w3.alloc (.cells #[.slice none 0 0] 23));obtain ⟨F,I⟩:=Xn (w4.alloc (.cells #[.int .i64 0] 3));have b3:=Boxed.new w2 23 (.slice p2 NH c2);have b4:=Boxed.new w3 23 (.slice none 0 0);have b5:=Boxed.new w4 3 (.int .i64 0);rw [ab,bo] at b3;have aY:w3.heap.size=a+1:=by rw [<- ab,<- bo];simp
 rw [o,aY] at b4;have aR:w4.heap.size=a+2:=by rw [<- o];simp [aY]
 rw [I,aR] at b5;have Y:F.heap.size=a+3:=by rw [<- I];simp [aR]
 have ag:Below w2.heap.size w2 F:=by rw [<- I,<- o,<- ab];exact (((Below.refl _ _).alloc (Xa _) _).alloc (by simp) _).alloc (by simp;omega) _
 have aM:Kep (fun _=>True) w3 F:=by rw [<- I,<- o];exact (Zu _ _ _).trans (Zu _ _ _)
 have aI:Kep (fun _=>True) w4 F:=by rw [<- I];exact Zu _ _ _
 have b3:=ZaG b3 aM trivial;have b4:=ZaG b4 aI trivial;have bz:=Y4 ab;have ad:=Y4 o;have bH:=Y4 I;have bE:=Y4 aG;clear ab o I aG bd HP;gi_wp2
 rw [bv.z,bz.z,ad.z,bH.z];refine ⟨trivial,(Zsh 4 p l.length c _).mono ?_⟩;rintro e w9 ⟨rfl,rfl⟩;rw [Y]
 have bf:((F.alloc (.cells #[.slice p l.length c] 22)).alloc (.cells #[.int .i64 16] 3)).cell? ⟨a+3,0,none⟩=some (.slice p l.length c):=by
  rw [((Below.refl (F.alloc (.cells #[.slice p l.length c] 22)).heap.size _).alloc (Xa _) (.cells #[.int .i64 16] 3)).cell (p:=⟨a+3,0,none⟩) (by simp [Y]),<- Y,cell_of_row _ _ 0 _ _ _ (heap_alloc_new F _)];rfl
 have a6:((F.alloc (.cells #[.slice p l.length c] 22)).alloc (.cells #[.int .i64 16] 3)).cell? ⟨a+3+1,0,none⟩=some (.int .i64 16):=by
  have e:(F.alloc (.cells #[.slice p l.length c] 22)).heap.size=a+3+1:=by simp [Y]
  rw [<- e,cell_of_row _ _ 0 _ _ _ (heap_alloc_new _ _)];rfl
 have u:Below F.heap.size F ((F.alloc (.cells #[.slice p l.length c] 22)).alloc (.cells #[.int .i64 16] 3)):=((Below.refl _ _).alloc (Xa _) _).alloc (by simp) _;have aV:((F.alloc (.cells #[.slice p l.length c] 22)).alloc (.cells #[.int .i64 16] 3)).heap.size=a+5:=by simp [Y]
 obtain ⟨w6,M⟩:=Xn (((F.alloc (.cells #[.slice p l.length c] 22)).alloc (.cells #[.int .i64 16] 3)));rw [M] at bf a6 u aV ⊢;have V:Kep (fun _=>True) F w6:=Za _ u;have af:Below w.heap.size w w6:=(aK.trans (ag.mono (by omega))).trans (u.mono (by omega));obtain ⟨T,hT⟩:∃T:Nat->Prop,(fun k=>k<w.heap.size\/k=a+3\/k=a+3+1)=T:=⟨_,rfl⟩;have s:∀k,T k↔(k<w.heap.size\/k=a+3\/k=a+3+1):=fun k=>by rw [<- hT]
 have aE:∀k,T k->k<w6.heap.size:=fun k t=>by rw [s] at t;omega
 have ae:=bE.z;rw [bv.z] at ae;have ao:Zd w.heap.size w6 (.slice p2 NH c2) (Zb l.length):=Zd.weaken ((Zd.keep ae ag).keep u) bq
 have a8:Zo2 T w a (a+1) (a+2) l [] w6:=by
  refine ⟨.slice p2 NH c2,.slice none 0 0,?_,fun _=>rfl⟩;have e0:Zk6 l ([]:List Part).length=0:=by unfold Zk6;simp
  rw [e0,Xv,Ze9,XH,Zcl]
  exact ⟨ZaG b3 V trivial,ZaG b4 V trivial,ZaG b5 V trivial,Zd.zero ao,World.ownsRow_nil _ _ _ _,World.ownsRow_nil _ _ _ _,fun k t=>⟨(R k t).1,fun h=>by have:=(s k).1 h;have:=R k t;omega⟩,(fun k t=>by cases t),(fun k t=>by simp [Value.ownBlock]),(fun k t=>by cases t),af,Kep.refl _ _,KeepsOthers.refl _,
   ⟨⟨by omega,by omega,by omega⟩,⟨by omega,by omega,by omega⟩,(fun h=>by have:=(s _).1 h;omega),(fun h=>by have:=(s _).1 h;omega),(fun h=>by have:=(s _).1 h;omega)⟩,aE⟩
 have aw:ZB ZD T w6 (.slice p l.length c) l:=ZB.weak (Ze0.below HV.z af) fun b _ hb=>(s b).2 (.inl hb);have ar:=Y4 (ZjP 4 (by omega) (a+3) (a+3+1) T _ l w6 hn ((s _).2 (.inr (.inl rfl))) ((s _).2 (.inr (.inr rfl))) aE bf a6 aw);have ci:=Y4 aV;have bN:w.heap.size<=w6.heap.size:=by omega
 clear hT s M bf a6 u V ao aw af aK ag aM aI b3 b4 b5 aY aR Y aV ae bE bz ad bH R;gi_wp2
 refine Zuj rfl (by omega) (gf:=200) (lb:=#[.pointer (some ⟨a+3,0,none⟩),.pointer (some ⟨a+3+1,0,none⟩)]) rfl trivial (enters_of func200 (by kernel_rfl) rfl)
  ar.z (Below.refl _ _) aE (fun _=>rfl)
  (Zo2 T w a (a+1) (a+2) l) (fun _ _=>False) (Zmr T w a (a+1) (a+2) l _ bN) (fun _ _ _ _ h _ _=>h) (fun pre=>Zni T l _ aE pre) a8
  (fun x=>{ tmps:=#[.slice p l.length c,undef,.slice none 0 0,.int .i64 0,.pointer (some ⟨a,0,none⟩),.pointer (some ⟨a+1,0,none⟩),.pointer (some ⟨a+1+1,0,none⟩),x.1,undef,.slice p l.length c,.int .i64 0,.bool false,.slice p l.length c,.int .i64 (l.length:Int),.int .u64 (l.length:Int),.slice p2 NH c2,.slice p l.length c,.func (.func 200) #[] #[.pointer (some ⟨a+3,0,none⟩),.pointer (some ⟨a+3+1,0,none⟩)],x.1,undef,undef,undef,undef,undef,undef,undef,undef,undef,undef,undef,undef,undef,undef,undef,undef,undef,undef,undef,undef,undef,undef,undef],defers:=[] }) ?assign ?body ?done ?stop
 case assign =>
  intro y x W K hK;gi_wp2
  exact hK
 case body =>
  rintro y pre ⟨xv,xc⟩ W ⟨vh,vb,m,_⟩ ⟨E,aF⟩ aC;dsimp only at E aF;obtain ⟨k,t⟩:=Xn pre.length;rw [t] at m aF aC;have bt:16*k<l.length:=by unfold ZK at aC;omega
  have eK:Zk6 l k=16*k:=by unfold Zk6;omega
  rw [eK] at m;have bL:16*k<Zbu l k:=by unfold Zbu;omega
  have aT:Zbu l k<=l.length:=by unfold Zbu;omega
  have al:=Zes (l:=l) (k:=k) (by omega);have X:=chunk_ok bU.z (k:=k) (by omega);have ac:=ZkD (l:=l) (k:=k) (by omega);have ax:=ZnM (l:=l) (k:=k) (by omega);have be:=ZuT bD.z k;have bg:=Zqc l k;have bc:=Zcw aq.z (k:=16*k) (by omega);have U:=Zcw aq.z aT;rw [<- aF] at al X ac ax be bg;obtain ⟨J,hJ⟩:∃J,J+1=xc.length:=⟨xc.length - 1,by omega⟩;have bF:J<xc.length:=by omega
  rw [ZxK hJ] at ax;have z:=Zbw aq.z (i:=16*k) (k:=Zbu l k) (by omega) aT;have aN:=Zbw aq.z (i:=0) (k:=16*k) (by omega) (by omega);have av:=ZiG (l:=l) (i:=0) (j:=16*k) (by omega) (k:=Zbu l k) (by omega);have a2:=ZeR l 0 k;have aa:=Ze8 l 0 k;rw [XL] at aa;unfold Zg8 at aa;have aZ:=(Zc l.length).2;obtain ⟨BK,aD⟩:=Xn (ZR l (16*k) (Zbu l k));obtain ⟨A,hA⟩:=Xn (ZaJ l (16*k));obtain ⟨L9,aH⟩:=Xn (ZaJ l (Zbu l k));obtain ⟨Bd,L⟩:=Xn (ZR l 0 (16*k));obtain ⟨H,B⟩:=Xn (Zb l.length++Zas l 0 k);have C:H.length<=100000000:=by rw [<- B,Xd];unfold ZK at aC;omega
  rw [aD,L] at av;rw [aD,aH] at aa;rw [aD] at ac z;rw [hA] at X ac bc m;rw [aH] at ax U;rw [L] at aN m;rw [B] at m;have br:Zb l.length++Zas l 0 (k+1)=(H++Zb L9.toNat)++Zb BK.length:=by rw [aa,<- Xk,B,Xk]
  have ah:BK≠[]:=fun e=>by rw [e] at z;simp at z;omega
  have az:=Y4 (Zp8 xv xc A W E.any X be bc.1 (by omega));rw [ac] at az;obtain ⟨px,cx,rfl,_⟩:=E.shape;obtain ⟨NX,a9⟩:=Xn xc.length;have aj:=Y4 E;rw [a9] at aj az hJ ⊢;have cm:=Y4 a9;have cg:IntKind.i64.wrap ((NX:Int) - 1)=(J:Int):=by rw [IntKind.wrap_i64];omega
  have cc:(NX:Int) - 1=(J:Int):=by omega
  have bW:(J:Int)<(NX:Int):=by omega
  have cl:IntKind.i64.wrap (J:Int)=(J:Int):=by rw [IntKind.wrap_i64];omega
  have bu:=Y4 (And.intro bF ax);have q:=Y4 m;have cA:=m.ba.cell
  have aJ:Y5 (Zb l.length++Zas l 0 (pre++[((.slice px NX cx:Value),xc)]).length=(H++Zb L9.toNat)++Zb BK.length/\ZR l 0 (Zk6 l (pre++[((.slice px NX cx:Value),xc)]).length)=Bd++BK/\ZaJ l (Zk6 l (pre++[((.slice px NX cx:Value),xc)]).length)=L9):=Y4 (by
   rw [Xd,t,Xai,br,ZxL,av,aH];exact ⟨rfl,rfl,rfl⟩)
  have d:Y5 (H.length<=100000000/\BK.length<=10000000000/\Bd.length<=10000000000/\0<=L9/\L9<=1099511627776):=Y4 ⟨C,by omega,by omega,U.1,U.2⟩;have a3:=Y4 ah;clear a8 ar m E aF al X ac ax be bg bc U z aN av a2 aa aZ aD hA aH L B C br ah a9 bF bt eK bL aT aC t;gi_wp2
  refine ⟨trivial,(CallsIn.inRound y (callsIn_wide.2 az.z)).mono ?_⟩;rintro e w1 ⟨v1,rfl,a5,ak⟩;have e1:=q.z.row ak a5;have ai:ZB ZD T w1 (.slice px NX cx) xc:=ZB.keep aj.z e1.kt fun _ _ h=>h;obtain ⟨bx,ox,vf,bT,_,_,d1,d2,d3,_⟩:=Z2 ai bu.z.1;subst bT;rw [bu.z.2] at d1;obtain ⟨p1,q1,rfl,_⟩:=(Zd.brow a5).shape;have bZ:=e1.ba.cell;have ca:=e1.ba.frozen;have bj:=Y4 e1;clear a5 ak e1 ai az q aj cA;obtain ⟨w2,ay⟩:=Xn (w1.setCell ⟨a+1+1,0,none⟩ (.int .i64 L9));have e2:=bj.z.setA (.int .i64 L9);rw [show a+2=a+1+1 from rfl,ay] at e2;obtain ⟨ph,ch,rfl,_⟩:=(Zd.brow e2.oh).shape;obtain ⟨nh,O⟩:=Xn H.length;have a1:=Za5 (.slice ph H.length ch) H L9 w2 d.z.2.2.2.1 (by have:=d.z.2.2.2.2;omega) e2.oh (by have:=d.z.1;omega);rw [O] at a1 e2;have bs:=Y4 a1;have bX:=Y4 O;have g0:=e2.bh.cell;have g1:=e2.ba.cell;rw [<- ay] at g0 g1;have bI:=Y4 e2;have bR:=Y4 ay;clear ay e2 a1 O;gi_wp2
  rw [bR.z];refine ⟨trivial,(CallsIn.inRound y (callsIn_wide.2 bs.z)).mono ?_⟩;rintro e w3 ⟨v3,rfl,a4,bJ⟩;have m:=bI.z.growH bJ a4;obtain ⟨p3,c3,rfl,_⟩:=(Zd.brow a4).shape;obtain ⟨n3,aB⟩:=Xn ((H++Zb L9.toNat).length);rw [aB] at m ⊢;have aO:n3<=200000000:=by rw [<- aB,Xd];have:=d.z.1;have:=(Zc L9.toNat).2;omega
  obtain ⟨H3,a0⟩:=Xn (H++Zb L9.toNat);rw [a0] at m aB;obtain ⟨w4,o⟩:=Xn (w3.setCell ⟨a,0,none⟩ (.slice p3 n3 c3));have e4:=m.setH (.slice p3 n3 c3);rw [o] at e4;have cj:=m.bh.cell;have ck:=m.bh.frozen;have aU:=Za5 (.slice p3 n3 c3) H3 (BK.length:Int) w4 (by omega) (by have:=d.z.2.1;omega) e4.oh (by omega);rw [XY] at aU;have bk:=Y4 aU;have i0:=e4.bh.cell;rw [<- o] at i0;have bn:=Y4 e4;have ad:=Y4 o;have b6:=Y4 aO;have f:=aJ.z;rw [a0] at f;have f:=Y4 f;clear o e4 m aU a4 bJ aB aO a0 bI bs bj aJ;gi_wp2
  rw [ad.z];refine ⟨trivial,(CallsIn.inRound y (callsIn_wide.2 bk.z)).mono ?_⟩;rintro e F ⟨v5,rfl,a7,bl⟩;have e5:=bn.z.growH bl a7;obtain ⟨p5,c5,rfl,_⟩:=(Zd.brow a7).shape;obtain ⟨H5,aX⟩:=Xn (H3++Zb BK.length);rw [aX] at e5 ⊢;obtain ⟨n5,bG⟩:=Xn H5.length;rw [bG] at e5 ⊢;obtain ⟨cp,M⟩:=Xn (F.setCell ⟨a,0,none⟩ (.slice p5 n5 c5));have e6:=e5.setH (.slice p5 n5 c5);rw [M] at e6;have b7:=e5.bh.cell;have b2:=e5.bh.frozen;obtain ⟨pb,cb,rfl,_⟩:=(Zd.brow e6.ob).shape;obtain ⟨nb,N⟩:=Xn Bd.length;rw [N] at e6;have j0:=e6.bb.cell;have j1:=e6.bb.frozen;rw [<- M] at j0 j1;have aW:=Y4 e6;have bQ:=Y4 M;have co:=Y4 N;have r:=f.z;rw [aX] at r;have r:=Y4 r;clear M e6 e5 a7 bl bG aX N bn bk ad f;gi_wp2_with (gi_at_builtin;rw [bQ.z];refine Zdq rfl _ _ rfl (.slice pb nb cb) Bd rfl aW.z.ob (.slice p1 BK.length q1) BK rfl (Zd.brow aW.z.ox) (.inl a3.z) (by have:=d.z;omega) ?_;intro v7 w7 G Z;have e7:=aW.z.growB Z G;obtain ⟨p7,c7,an,_⟩:=(Zd.brow G).shape;obtain ⟨n7,am⟩:∃n,(Bd++BK).length=n:=⟨_,rfl⟩;rw [am] at an;subst an;have au:=Y4 e7;have b1:=e7.bb.cell;have b8:=e7.bb.frozen;clear e7 G Z am)
  have e8:=au.z.setB (.slice p7 n7 c7)
  have HQ:Y5 (KeepsFrom w6.heap.size W (w7.setCell ⟨a+1,0,none⟩ (.slice p7 n7 c7))/\Kep T W (w7.setCell ⟨a+1,0,none⟩ (.slice p7 n7 c7))/\Zo2 T w a (a+1) (a+2) l (pre++[((.slice (some ⟨bx,ox,none⟩) NX cx:Value),xc)]) (w7.setCell ⟨a+1,0,none⟩ (.slice p7 n7 c7))):=Y4 (by
   refine ⟨e8.ko.from _,e8.kt,.slice p5 n5 c5,.slice p7 n7 c7,?_,fun h=>by simp at h⟩;obtain ⟨q1,q2,q3⟩:=r.z;rw [q1,q2,q3];exact e8.fresh)
  exact HQ.z
 case done =>
  rintro D xs W hD hS ⟨vh,vb,m,aL⟩ hK
  have aA:xs.length=ZK l.length:=by
   have:=Xr List.length hS;unfold ZG at this;simpa using this
  have eE:Zk6 l xs.length=l.length:=by rw [aA];unfold Zk6 ZK;omega
  rw [eE,aA] at m;have z:=Zbw aq.z (i:=0) (k:=l.length) (by omega) (Xa _);have a2:=ZeR l 0 (ZK l.length);have aZ:=(Zc l.length).2;have ap:SM.encS l=(Zb l.length++Zas l 0 (ZK l.length))++ZR l 0 l.length:=by unfold SM.encS;rw [Xk]
  have aS:ZR l 0 l.length≠[]\/vb=.slice none 0 0:=by
   by_cases h0:l.length=0
   ·refine .inr (aL (XP ?_));rw [aA,h0];rfl
   ·refine .inl fun e => ?_;have h2:=z.2;rw [e,Xv] at h2;omega
  obtain ⟨H,B⟩:=Xn (Zb l.length++Zas l 0 (ZK l.length));have C:H.length<=100000000:=by rw [<- B,Xd];unfold ZK at *;omega
  obtain ⟨Bd,L⟩:=Xn (ZR l 0 l.length);rw [B,L] at ap m;rw [L] at z aS;have aQ:Bd.length<=10000000000:=by omega
  obtain ⟨ph,ch,rfl,_⟩:=(Zd.brow m.oh).shape;have c0:=m.bh.cell;have c1:=m.bb.cell;have q:=Y4 m;have bM:=Y4 aS;have bO:=Y4 ap;have d:Y5 (H.length<=100000000/\Bd.length<=10000000000):=Y4 ⟨C,aQ⟩;clear a8 ar m aL aA eE z a2 aZ ap aS B C L aQ hS;obtain ⟨nh,O⟩:=Xn H.length;rw [O] at c0 q;have bV:=Y4 O;clear O;obtain ⟨ce,bp⟩:=Xn vb;obtain ⟨pb,cb,bm,_⟩:=(Zd.brow q.z.ob).shape;obtain ⟨nb,N⟩:=Xn Bd.length;rw [N] at bm;subst bm;have bY:=Y4 N;clear N bp;gi_wp2_with (gi_at_builtin;refine Zdq rfl _ _ rfl (.slice ph nh ch) H rfl q.z.oh (.slice pb nb cb) Bd rfl (Zd.brow q.z.ob) bM.z (by have:=d.z;omega) ?_;intro v7 w7 G Z;have e7:=q.z.growH Z G;obtain ⟨p7,c7,an,_⟩:=(Zd.brow G).shape;obtain ⟨n7,am⟩:∃n,(H++Bd).length=n:=⟨_,rfl⟩;rw [am] at an;subst an;have au:=Y4 e7;have bS:=Y4 G;have bP:=Y4 (ZiB q.z.oh Z);clear e7 G Z am)
  have bC:=bP.z.same D _ hK rfl;have bw:=grownBy_putObj' w7 D (.deferred none);refine ⟨by simp,.inl ⟨_,_,rfl,run_takeDeferred bC,?_⟩⟩;refine ⟨.tuple #[.slice p7 n7 c7,.int .i64 0],?_,.slice p7 n7 c7,rfl,?_,?_⟩
  ·simp [results,Tryz.f80,go_sem]
  ·rw [bO.z];have ho:Zd w.heap.size w7 (.slice p7 n7 c7) (H++Bd):=Zd.from bS.z fun k t=>(au.z.fh k t).1;refine Zd.kepOwn ho (ZO bw (S:=fun b=>b≠D) fun k t bK=>by cases t;exact bK rfl) fun k t e => ?_;obtain ⟨_,cf,fr,hh⟩:=Zbn ho t;rw [e,bC] at hh;cases hh
  ·exact au.z.low.grown bw au.z.low.size (fun k e=>by cases e;omega)
 case stop =>
  rintro D pre W hD _ hF hK;exact hF.elim
theorem Zxl (v:Value) (l:List Zq) (w:World) (a:ZF ZD w v l) (hf:ZaS l):Calls prog 80 #[v] w (ZtF (if isS l then SM.encS l else []) (if isS l then 0 else 120) w):=by
 cases h:isS l with
 | true =>
   rw [Xe rfl,Xe rfl];exact ZeK v l w a hf h
 | false =>
   rw [Xc (by simp),Xc (by simp)];refine (Zpf v l w a h).mono ?_;rintro e w' ⟨rfl,b⟩;exact ⟨_,rfl,World.ownsRow_nil _ _ _ _,b⟩
