import Derived.Test.YtmomfobdpfajbaaGreatZA24
import Derived.Test.YtmomfobdpfajbaaGreatZA22
set_option maxRecDepth 100000
set_option maxHeartbeats 0
set_option linter.unusedVariables false
set_option linter.unusedSimpArgs false
namespace Go.Proofs.YtmomfobdpfajbaaGreat
open Tryz
namespace DT
open RowKit Go.Shelf MM DM
open RF (ZtN Zdl)
attribute [local go_sem] Oper.semAt_some
abbrev Part:=Value×List ZN
abbrev Zst (x:Part):Array Value:=#[x.1]
def Zr5 (T:Nat->Prop) (l:List ZN) (x:Part) (W:World):Prop:=ZB Zbr T W x.1 x.2/\∃k,x.2=Zw l k
theorem Zpw {α:Type} {C:Codec α} {S:Nat->Prop} {w:World} {p:Option Addr} {n a cap':Nat} {es:List α} (h:ZB C S w (.slice p n a) es) (f:n<=cap') (i:cap'<=maxLen) (e:p≠none):ZB C S w (.slice p n cap') es:=by
 obtain ⟨p',c',b,c,a1,a2,a3,g,d⟩:=h;simp only [Value.slice.injEq] at c;obtain ⟨rfl,rfl,rfl⟩:=c;exact ⟨_,cap',b,rfl,f,i,fun h=>absurd h e,g,d⟩
theorem ZlR (l:List ZN) (k m:Nat) (h:m=min 16 (l.length - 16*k)):(l.drop (16*k)).take m=Zw l k:=by
 unfold Zw;subst h
 by_cases a:16<=l.length - 16*k
 ·rw [Xan a]
 ·rw [Xbi (by omega),XO (by rw [Xp];exact Xa _),XO (by rw [Xp];omega)]
theorem ZlS (n:Nat) (hn:1<=n) (y w r:Nat) (T:Nat->Prop) (v0:Value) (l:List ZN) (J Jx:List Part->World->Prop) (hJ:Zdl J)
  (hY:∀pre x A,J pre A->Zr5 T l x A->pre.length<Zr l->YieldAt Fence.wide (n - 1) prog y (Zst x) A fun e B =>
   (e=.returned (.bool true)/\J (pre++[x]) B/\Kep T A B)\/(e=.returned (.bool false)/\Jx (pre++[x]) B))
  (W:World) (F:W.cell? ⟨w,0,none⟩=some v0) (R:W.cell? ⟨r,0,none⟩=some (.int .i64 16)) (G:T w) (I:T r) (hl:ZB Zbr T W v0 l) (h0:J [] W) (al:l.length<=262144) :
  CallsIn Fence.wide n prog 196 #[.func (.yield y) #[] #[],.pointer (some ⟨w,0,none⟩),.pointer (some ⟨r,0,none⟩)] W fun e B=>(∃v,e=.returned v) /\
   ((∃f,f.map (·.2)=ZG l/\J f B)\/(∃pre,True/\Jx pre B)):=by
 obtain ⟨p0,a,rfl,ap,af,_⟩:=hl.shape;unfold maxLen at af;have an:prog.follows .mixedOrders=true:=by kernel_rfl
 have N:=Y4 (And.intro hl (And.intro F R));have U:Y5 (([]:List Part).map (·.2)=(List.range 0).map (Zw l)):=Y4 rfl;have HY:=Y4 hY;clear hl hY F R;refine callsIn_of_wp func196 rfl trivial ?_ rfl;simp only [ntmps196,Xar,Xh,Xv,Nat.reduceAdd,Nat.reduceSub,XaD,XaE,XaF,XaG,XE,XK];gi_wp2
 gi_loopw [4] (fun iv wr=>∃(k:Nat) (f:List Part),iv=.int .i64 ((16*k:Nat):Int)/\k<=Zr l/\f.length=k/\Y5 (f.map (·.2)=(List.range k).map (Zw l))/\Y5 (ZB Zbr T wr (.slice p0 l.length a) l/\wr.cell? ⟨w,0,none⟩=some (.slice p0 l.length a)/\wr.cell? ⟨r,0,none⟩=some (.int .i64 16))/\J f wr) (fun iv _=>16*Zr l+16 - (intOf iv).toNat)
 case atStart=>exact ⟨0,[],rfl,XX _,rfl,U,N,h0⟩
 case round =>
  obtain ⟨k,f,rfl,hk,ak,Y,HR,C⟩:=hrel;clear U N h0;obtain ⟨V,D,O⟩:=HR.z;have aq:Zr l=(l.length+15) / 16:=rfl;obtain ⟨i,hi⟩:=Xn (16*k);rw [hi]
  by_cases H:i<l.length
  ·have q1:decide ((i:Int)<(l.length:Int))=true:=Xt;have q2:decide (i<l.length)=true:=Xt;have q3:(i:Int)<=(l.length:Int):=by omega
   obtain ⟨m,hm⟩:=Xn (min 16 (l.length - i));have ac:min (16:Int) ((l.length - i:Nat):Int)=(m:Int):=by omega
   have ae:(if l.length - i<16 then ((l.length - i:Nat):Int) else 16)=(m:Int):=by split<;>omega
   obtain ⟨e,he⟩:=Xn (i+m);have ao:(i:Int)+(m:Int)=(e:Int):=by omega
   have ar:IntKind.i64.wrap ((i:Int)+(m:Int))=(e:Int):=by rw [IntKind.wrap_i64];omega
   have q4:(e:Int)<=(a:Int):=by omega
   have q5:(i:Int)<=(e:Int):=by omega
   obtain ⟨b,off,rfl,au,am,_⟩:=ZcU V H;have g:=(ZB.drop V i (by omega)).take m (by omega);rw [Xc (by omega),Xae,ZZ,Zl4] at g;have d:=Zpw (cap':=m) g (Xa _) (by unfold maxLen;omega) (by simp);rw [show (l.drop i).take m=Zw l k by rw [<- hi];exact ZlR l k m (by omega)] at d;rw [show m=e - i by omega] at d;obtain ⟨t,j⟩:=Xn wr.drew;have c:Below wr.heap.size wr t:=by rw [<- j];exact (Below.refl _ _).drew
   have E:wr.grownBy t none:=⟨c.os,c.tape,c.output,c.size,fun k hk _=>c.block k hk⟩;have Z:=hJ f wr t C E;obtain ⟨fn,tmps,assign,body,X,S⟩:=HY.z f (.slice (some ⟨b,off+i*4,none⟩) (e - i) (e - i),Zw l k) t Z ⟨ZB.keep d (Za T c) (fun _ _ h=>h),k,rfl⟩ (by omega);dsimp only [Zst] at X;rw [<- j] at X;have s:=Y4 S;have q:=Y4 j;have u:Y5 (ZB Zbr T t (.slice (some ⟨b,off,none⟩) l.length a) l/\t.cell? ⟨w,0,none⟩=some (.slice (some ⟨b,off,none⟩) l.length a)/\t.cell? ⟨r,0,none⟩=some (.int .i64 16)):=Y4 ⟨ZB.keep V (Za T c) (fun _ _ h=>h),(c.cell (p:=⟨w,0,none⟩) (World.block_lt_of_cell? _ _ D)).trans D,(c.cell (p:=⟨r,0,none⟩) (World.block_lt_of_cell? _ _ O)).trans O⟩;have ab:Y5 ((f++[((.slice (some ⟨b,off+i*4,none⟩) (e - i) (e - i):Value),Zw l k)]).map (·.2)=(List.range (k+1)).map (Zw l)):=Y4 (by rw [XM,Y.z,XaS,XM];rfl);have HI:Y5 (16*k=i):=Y4 hi;have aa:k+1<=Zr l:=by omega
   have ah:Y5 (k<Zr l):=Y4 (by omega);clear g d c E j S V HR Y C hi HY;gi_wp2
   gi_region_with_o (fail)
   all_goals gi_wp2
   all_goals rw [q.z]
   all_goals refine s.z.mono ?_
   all_goals rintro e w3 (⟨rfl,z,o⟩|⟨rfl,z⟩)
   all_goals first
    | (have L:ZB Zbr T w3 (.slice (some ⟨b,off,none⟩) l.length a) l:=ZB.keep u.z.1 o (fun _ _ h=>h)
       have aj:w3.cell? ⟨w,0,none⟩=some (.slice (some ⟨b,off,none⟩) l.length a):=(o.cell (World.block_lt_of_cell? _ _ u.z.2.1) G 0).trans u.z.2.1;have ai:w3.cell? ⟨r,0,none⟩=some (.int .i64 16):=(o.cell (World.block_lt_of_cell? _ _ u.z.2.2) I 0).trans u.z.2.2;have ad:=Y4 (And.intro L (And.intro aj ai));clear L o s X u q ah;gi_wp2
       have hi:=HI.z;go_roundw
       case rel=>exact ⟨k+1,_,by rw [show ((16*(k+1):Nat):Int)=(i:Int)+16 by omega],aa,by rw [Xd,ak];rfl,ab,ad,z⟩
       case measure=>simp [intOf];omega)
    | (clear s X u q
       gi_wp2
       refine bodyPost_ret (results_none rfl _ _ _) rfl ?_;exact ⟨⟨_,rfl⟩,.inr ⟨_,trivial,z⟩⟩)
  ·have q1:decide ((i:Int)<(l.length:Int))=false:=Xf;have q2:decide (i<l.length)=false:=Xf;have M:k=Zr l:=by omega
   have ht:=Y.z;rw [M] at ht;have ag:Y5 (f.map (·.2)=ZG l):=Y4 ht;clear ht Y hi M H;gi_wp2
   go_end0
   exact ⟨⟨_,rfl⟩,.inl ⟨f,ag.z,C⟩⟩
theorem Zsh (n:Nat) (p:Option Addr) (m c:Nat) (W:World) :
  CallsIn Fence.wide n prog 133 #[.slice p m c,.int .i64 16] W fun e B=>e=.returned (.func (.func 196) #[] #[.pointer (some ⟨W.heap.size,0,none⟩),.pointer (some ⟨W.heap.size+1,0,none⟩)])/\B=(W.alloc (.cells #[.slice p m c] 97)).alloc (.cells #[.int .i64 16] 3):=by
 refine callsIn_of_wp func133 rfl trivial ?_ rfl;simp only [ntmps133,Xar,Xh,Xv,Nat.reduceAdd,Nat.reduceSub,XaD,XaE,XaF,XaG,XE,XK];gi_wp2
 go_ret;exact ⟨rfl,rfl⟩
theorem ZjP (n:Nat) (r:1<=n) (e c:Nat) (T:Nat->Prop) (v:Value) (l:List ZN) (w:World) (b:l.length<=262144) (d:T e) (a:T c) (j:∀k,T k->k<w.heap.size) (f:w.cell? ⟨e,0,none⟩=some v) (g:w.cell? ⟨c,0,none⟩=some (.int .i64 16)) (s:ZB Zbr T w v l) :
  ZtN Fence.wide n prog 196 #[.pointer (some ⟨e,0,none⟩),.pointer (some ⟨c,0,none⟩)] Zst T (Zr5 T l) (fun u=>u.map (·.2)=ZG l) (fun _=>True) (Zr l) w :=
 fun y J t W i q _ m o=>ZlS n r y e c T v l J t q m W ((i.cell (p:=⟨e,0,none⟩) (j _ d)).trans f) ((i.cell (p:=⟨c,0,none⟩) (j _ a)).trans g) d a (ZB.keep s (Za T i) (fun _ _ h=>h)) o b
open RowKit Go.Shelf MM DM VM GB
open RF (ZtN Zdl ZtK Zui)
variable {W W':World} {row:Option Nat} {v:Value}
attribute [local go_sem] Oper.semAt_some
theorem ZtP (l:List ZN):l.any Zh3=false↔∀x∈l,okW x:=by
 rw [List.any_eq_false];constructor
 ·intro h x a;have:=h x a;unfold Zh3 at this;simpa using this
 ·intro h x a;unfold Zh3;simpa using h x a
theorem Zpf (v:Value) (l:List ZN) (w:World) (j:ZF Zbr w v l) (h:ZbC l=false):Calls prog 79 #[v] w fun e w'=>e=.returned (.tuple #[.slice none 0 0,.int .i64 110])/\Below w.heap.size w w':=by
 have b:=Y4 (ZdH v l [] w j);have f:=Y4 (fun W (t:Below w.heap.size w W)=>Zxm v l W (ZF.below j t));obtain ⟨p,r,rfl,q,o,_⟩:=j.shape;clear j
 by_cases k:l.length<=262144
 ·have u:decide ((l.length:Int)>262144)=false:=Xf;have s:decide (262144<l.length)=false:=Xf;cases hr:Za2 [] l with
  | false =>
    rw [hr] at b;clear hr k f h;go_enter func79,ntmps79;go_wp2_with fail;refine b.z.mono ?_;rintro e n ⟨rfl,a⟩;have g:=Y4 a;clear a b;go_wp2_with fail;go_ret2;exact ⟨rfl,g.z⟩
  | true =>
    rw [hr] at b
    have i:l.any Zh3=true:=by
     cases i:l.any Zh3 with
     | true=>rfl
     | false =>
       unfold ZbC at h;rw [(ZhF l).2 ⟨(ZtP l).1 i,hr⟩,Xs k] at h;cases h
    rw [i] at f;clear hr k i h;go_enter func79,ntmps79;go_wp2_with fail;refine b.z.mono ?_;rintro e n ⟨rfl,a⟩;have d:=Y4 (f.z n a);have g:=Y4 a;clear a b f;go_wp2_with fail;refine d.z.mono ?_;rintro e w2 ⟨rfl,c⟩;have m:=Y4 (g.z.trans (c.mono g.z.size));clear c d g;go_wp2_with fail;go_ret2;exact ⟨rfl,m.z⟩
 ·have u:decide ((l.length:Int)>262144)=true:=Xt;have s:decide (262144<l.length)=true:=Xt;clear k h b f;go_enter func79,ntmps79;go_wp2_with fail;go_ret2;exact ⟨rfl,Below.refl _ _⟩
theorem ZkP {base e size n:Nat} {c:List Value} (h:W.ownsRow base e size v n c) (l:W.grownBy W' row) (f:∀r,row=some r->∃o:Obj,W.heap[r]? = some o/\o.isCells=false):W'.ownsRow base e size v n c:=by
 refine h.kept l ?_;rcases h.2 with ⟨rfl,_⟩|⟨g,j,d,rfl,_,a,_⟩
 ·exact .inl rfl
 ·refine .inr fun k => ?_;obtain ⟨o,b,i⟩:=f g (by simpa [Value.ownBlock] using k.symm);rw [a] at b;cases b
  cases i
theorem Zp7 {B:Nat} {t:TypeId} (h:Boxed W B t v) (d:W.grownBy W' row) (c:∀r,row=some r->∃o:Obj,W.heap[r]? = some o/\o.isCells=false):Boxed W' B t v :=
 h.kept d (fun e=>by
  obtain ⟨o,a,b⟩:=c B e.symm;rw [show W.heap[B]? = _ from h] at a;cases a
  cases b)
theorem Zni (T:Nat->Prop) (l:List ZN) (D:Nat) (d:∀k,T k->k<D):OwnFrom D (Zr5 T l):=fun x W W' row h e b =>
 ⟨ZB.keep h.1 (ZO e fun k a c=>by have:=(b k a).1;have:=d k c;omega) (fun _ _ h=>h),h.2⟩
def Zo2 (w:World) (a b:Nat) (T:Nat->Prop) (l:List ZN) (H:Xu) (pre:List Part) (W:World):Prop :=
 ∃v,Boxed W b 23 v/\Zd a W v (H++(pre.map (·.2)).flatMap Ze2)/\(∀g,v.ownBlock=some g->¬T g)/\(∀x∈pre,∃k,x.2=Zw l k)/\Below a w W/\a<=b/\∀k,T k->k<W.heap.size
theorem Zmr (w:World) (d j:Nat) (T:Nat->Prop) (l:List ZN) (H:Xu) (D:Nat) (hD:d<=D) (hw:d<=w.heap.size):OwnFrom D (Zo2 w d j T l H):=fun pre W W' row h a b=>by
 obtain ⟨v,p,q,n,m,f,g,i⟩:=h;have o:=f.size;exact ⟨v,Zp7 p a fun r e=>(b r e).2,ZkP q a fun r e=>(b r e).2,n,m,f.grown a (by omega) (fun k c=>by have:=(b k c).1;omega),g,fun k c=>XJ (i k c) a.size⟩
theorem Zxc {l:List ZN} (a:∀x∈l,okW x) (k:Nat):(Ze2 (Zw l k)).length<=2000:=by
 have h1:=ZgT (Zw l k) [] (Zi1 a k);have h2:=ZbO l k;have h3:=(EM.ZdM (ZA [] (Zw l k))).1;unfold Ze2;omega
theorem Zos {l:List ZN} (a:∀x∈l,okW x):∀{pre:List Part},(∀x∈pre,∃k,x.2=Zw l k)->((pre.map (·.2)).flatMap Ze2).length<=2000*pre.length
 | [],_=>by simp
 | x::pre,h=>by
   have ih:=Zos a (pre:=pre) fun y c=>h y (by simp [c]);obtain ⟨k,b⟩:=h x (by simp);have:=Zxc a k;rw [XC,XaP,Xd,Xh,b];omega
theorem ZeK (v:Value) (l:List ZN) (w:World) (hv:ZF Zbr w v l) (h:ZbC l=true):Calls prog 79 #[v] w (ZwR (ZbD l) 0 w):=by
 obtain ⟨hw,hr,hn⟩:=Zg7 h;have HR:=Y4 (ZdH v l [] w hv);have HO:=Y4 (fun W (hW:Below w.heap.size w W)=>Zxm v l W (ZF.below hv hW));rw [hr] at HR;rw [(ZtP l).2 hw] at HO;have HV:=Y4 (ZF.bel hv);have HP:=Y4 (fun W=>VP.Zdd (.slice none 0 0) [] l.length W (by omega) (Zv.nil_ W) (by simp));simp only [XE] at HP;obtain ⟨p,a,rfl,aW,aY,_⟩:=hv.shape;have q1:decide ((l.length:Int)>262144)=false:=Xf;have q2:decide (262144<l.length)=false:=Xf;have a1:IntKind.u64.wrap (l.length:Int)=(l.length:Int):=by rw [IntKind.wrap_u64];omega
 have af:=Y4 (ZgY l);clear hv hr;refine (callsIn_wide (n:=5)).1 ?_;refine callsIn_of_wp_marks func79 rfl trivial ?_ rfl;simp only [ntmps79,Xar,Xh,Xv,Nat.reduceAdd,Nat.reduceSub,XaD,XaE,XaF,XaG,XE,XK];gi_wp2
 refine ⟨trivial,(callsIn_wide.2 HR.z).mono ?_⟩;rintro e w1 ⟨rfl,al⟩;have f:=Y4 (HO.z w1 al);have u:=Y4 al;clear al HR HO;gi_wp2
 refine ⟨trivial,(callsIn_wide.2 f.z).mono ?_⟩;rintro e w2 ⟨rfl,aw⟩;have ap:=Y4 (u.z.trans (aw.mono u.z.size));clear aw f u;gi_wp2
 refine ⟨trivial,(callsIn_wide.2 (HP.z w2)).mono ?_⟩;rintro e w3 ⟨v3,rfl,I,aH⟩;have aj:=ap.z.size;have O:Below w.heap.size w w3:=ap.z.trans (aH.mono aj);obtain ⟨H,hH⟩:=Xn (Zb l.length);rw [hH] at I af;have aX:H.length<=10:=by rw [<- hH];exact (Zc _).2
 have N:=Zaw I;have B:Zd w.heap.size w3 v3 H:=Zd.weaken I aj;obtain ⟨p3,c3,rfl,_⟩:=(Zd.brow I).shape;clear I aH HP ap hH;gi_wp2
 refine ⟨trivial,(Zsh 4 p l.length a _).mono ?_⟩;rintro e w5 ⟨rfl,rfl⟩;obtain ⟨c,aa⟩:=Xn w3.heap.size;have ai:=O.size;have bB:=Boxed.new w3 23 (.slice p3 H.length c3);obtain ⟨z,G⟩:=Xn (w3.alloc (.cells #[.slice p3 H.length c3] 23));have ac:Below w3.heap.size w3 z:=by rw [<- G];exact (Below.refl _ _).alloc (Xa _) _
 have t:z.heap.size=c+1:=by rw [<- G,<- aa];simp
 have ar:((z.alloc (.cells #[.slice p l.length a] 97)).alloc (.cells #[.int .i64 16] 3)).cell? ⟨c+1,0,none⟩=some (.slice p l.length a):=by
  rw [((Below.refl (z.alloc (.cells #[.slice p l.length a] 97)).heap.size _).alloc (Xa _) (.cells #[.int .i64 16] 3)).cell (p:=⟨c+1,0,none⟩) (by simp [t]),<- t,cell_of_row _ _ 0 _ _ _ (heap_alloc_new z _)];rfl
 have am:((z.alloc (.cells #[.slice p l.length a] 97)).alloc (.cells #[.int .i64 16] 3)).cell? ⟨c+1+1,0,none⟩=some (.int .i64 16):=by
  have e:(z.alloc (.cells #[.slice p l.length a] 97)).heap.size=c+1+1:=by simp [t]
  rw [<- e,cell_of_row _ _ 0 _ _ _ (heap_alloc_new _ _)];rfl
 have i:Below z.heap.size z ((z.alloc (.cells #[.slice p l.length a] 97)).alloc (.cells #[.int .i64 16] 3)):=((Below.refl _ _).alloc (Xa _) _).alloc (by simp) _;have an:((z.alloc (.cells #[.slice p l.length a] 97)).alloc (.cells #[.int .i64 16] 3)).heap.size=c+3:=by simp [t]
 rw [G,aa] at bB;have a0:prog.follows .mixedOrders=true:=by kernel_rfl
 rw [G];rw [t];obtain ⟨w5,av⟩:=Xn (((z.alloc (.cells #[.slice p l.length a] 97)).alloc (.cells #[.int .i64 16] 3)));rw [av] at ar am i an ⊢;rw [aa] at N ai ac;have L:Below w.heap.size w w5:=(O.trans (ac.mono (by omega))).trans (i.mono (by omega));have F:Zd w.heap.size w5 (.slice p3 H.length c3) H:=(B.keep (by rw [aa];exact ac)).keep i;have ah:∀g,(Value.slice p3 H.length c3).ownBlock=some g->w.heap.size<=g/\g<c:=fun g U=>⟨(World.ownsRow.lt B g U).1,N g U⟩;obtain ⟨T,hT⟩:∃T:Nat->Prop,(fun k=>k<w.heap.size\/k=c+1\/k=c+1+1)=T:=⟨_,rfl⟩;have m:∀k,T k↔(k<w.heap.size\/k=c+1\/k=c+1+1):=fun k=>by rw [<- hT]
 have ad:∀k,T k->k<w5.heap.size:=fun k hk=>by rw [m] at hk;omega
 have aP:Zo2 w w.heap.size c T l H [] w5:=by
  refine ⟨.slice p3 H.length c3,(i.block c (by omega)).trans bB,?_,?_,by simp,L,ai,ad⟩
  ·simpa using F
  ·intro g U ab;have:=ah g U;rw [m] at ab;omega
 have C:ZB Zbr T w5 (.slice p l.length a) l:=ZB.weak (Ze0.below HV.z L) fun b _ hb=>(m b).2 (.inl hb);have aO:=Y4 m;have au:=Y4 an;have aE:=Y4 (ZjP 4 (by omega) (c+1) (c+1+1) T _ l w5 hn ((m _).2 (.inr (.inl rfl))) ((m _).2 (.inr (.inr rfl))) ad ar am C);have ak:=Y4 ai;clear hT m an av G ac i t bB ar am F ah B N O C L aj;gi_wp2
 refine Zui rfl (by omega) (gf:=196) (lb:=#[.pointer (some ⟨c+1,0,none⟩),.pointer (some ⟨c+1+1,0,none⟩)]) rfl trivial (enters_of func196 (by kernel_rfl) rfl)
  aE.z (Below.refl _ _) ad (fun _=>rfl)
  (Zo2 w w.heap.size c T l H) (fun _ _=>False) (Zmr w w.heap.size c T l H _ (by have:=au.z;omega) (Xa _)) (fun _ _ _ _ h _ _=>h) (Zni T l _ ad) aP
  (fun x=>{ tmps:=#[.slice p l.length a,undef,.slice none 0 0,.int .i64 0,.pointer (some ⟨c,0,none⟩),x.1,.slice p l.length a,.int .i64 (l.length:Int),.bool false,.bool false,.slice p l.length a,.bool true,.bool false,.bool false,.bool false,.slice p l.length a,.bool false,.bool false,.slice p l.length a,.int .i64 (l.length:Int),.int .u64 (l.length:Int),.slice p3 H.length c3,.slice p l.length a,.func (.func 196) #[] #[.pointer (some ⟨c+1,0,none⟩),.pointer (some ⟨c+1+1,0,none⟩)],x.1,undef,undef,undef,undef],defers:=[] }) ?assign ?body ?done ?stop
 case assign =>
  intro y x W K hK;gi_wp2
  exact hK
 case body =>
  rintro y pre ⟨xv,xc⟩ W ⟨v,b1,V,t1,m1,R,aM,X⟩ ⟨s,k,aI⟩ aG;dsimp only at s aI;subst aI;have aS:=Zos hw m1;have az:=ZbO l k;have aN:Zr l<=16384:=by unfold Zr;omega
  obtain ⟨A,hA⟩:=Xn (H++(pre.map (·.2)).flatMap Ze2);have aK:A.length<=1000000000:=by rw [<- hA,Xd];omega
  rw [hA] at V;have ao:=Y4 (Zr6 v xv A (Zw l k) W (Zd.zero V) s.any (Zi1 hw k) (by omega) aK);have cB:=b1.cell;have fB:=b1.frozen;obtain ⟨q,qc,rfl,_⟩:=(Zd.brow V).shape;obtain ⟨qx,aJ,rfl,_⟩:=s.shape;have u:=Y4 b1;have f:=Y4 V;have aF:=Y4 t1;have E:=Y4 R;have aQ:=Y4 m1;have ay:Y5 (H++((pre++[((.slice qx (Zw l k).length aJ:Value),Zw l k)]).map (·.2)).flatMap Ze2=A++Ze2 (Zw l k)):=Y4 (by rw [XM,XaQ,<- hA];simp);have aA:=Y4 X;obtain ⟨Z,hZ⟩:=Xn (A++Ze2 (Zw l k));rw [hZ] at ao ay;clear b1 V t1 m1 R hA aS az aN s X hZ;gi_wp2
  refine ⟨trivial,(CallsIn.inRound y (callsIn_wide.2 ao.z)).mono ?_⟩;rintro e Y ⟨S,rfl,J,d⟩;obtain ⟨q6,aL,rfl,_⟩:=(Zd.brow J).shape;obtain ⟨S,aC⟩:=Xn ((.slice q6 Z.length aL:Value));rw [aC] at J d;have aD:=u.z.not_row (by decide:(23:TypeId)≠5) f.z;have M:Boxed Y c 23 (.slice q A.length qc):=u.z.kept d.1 aD;have f6:=M.frozen;have c6:=M.cell;have ag:=M.not_row (by decide:(23:TypeId)≠5) J
  have ae:KeepsFrom w5.heap.size W (Y.setCell ⟨c,0,none⟩ S)/\Kep T W (Y.setCell ⟨c,0,none⟩ S)/\Zo2 w w.heap.size c T l H (pre++[((.slice qx (Zw l k).length aJ:Value),Zw l k)]) (Y.setCell ⟨c,0,none⟩ S):=by
   have aT:Kep T W Y:=d.kep.mono fun j hj e=>aF.z j e hj;have aU:¬T c:=fun h=>by have:=(aO.z c).1 h;have:=ak.z;omega
   have ax:∀g,(Value.slice q A.length qc).ownBlock=some g->w.heap.size<=g:=fun g U=>(World.ownsRow.lt f.z g U).1;have aR:=E.z.size;refine ⟨?_,aT.trans (Zy aU S),?_⟩
   ·have h1:KeepsOthers W Y:=⟨d.1.size,fun j o hj ho=>by
     have aG:=(Xq.1 hj).1;rw [d.1.block j aG fun e => ?_]
     ·exact hj
     ·obtain ⟨_,aZ,fr,hc⟩:=Zbn f.z e.symm;rw [hj] at hc;cases hc
      cases ho⟩
    exact (h1.trans (KeepsOthers.setCell _ _ _)).from _
   ·have aq:Below w.heap.size w Y:=E.z.trans (d.kep.below aR fun j hj e=>by have:=ax j e;omega);refine ⟨S,M.set S,?_,?_,?_,aq.setCell (p:=⟨c,0,none⟩) ak.z S,ak.z,fun j hj=>XJ (aA.z j hj) (by have:=d.1.size;simpa using this)⟩
    ·rw [ay.z]
     have ho:Zd w.heap.size Y S Z:=Zd.from J fun g U=>by
      rcases d.2 g U with e|e
      ·exact ax g e
      ·omega
     exact World.ownsRow.kept ho (grownBy_setCell' Y c S) (.inr ag.symm)
    ·intro g U ab;rcases d.2 g U with e|e
     ·exact aF.z g e ab
     ·have:=aA.z g ab;omega
    ·intro x hx;rcases Xam.1 hx with hx|hx
     ·exact aQ.z x hx
     ·simp only [XaJ] at hx;subst hx;exact ⟨k,rfl⟩
  subst aC;have HE:=Y4 ae;clear ae aD M ag J d ao cB fB;gi_wp2
  exact HE.z
 case done =>
  rintro D xs W hD hS ⟨v,b1,V,t1,m1,R,aM,X⟩ hK;rw [hS,<- af.z] at V;have cB:=b1.cell;obtain ⟨q,qc,rfl,_⟩:=(Zd.brow V).shape;have f:=Y4 V;have E:=Y4 R;clear V R t1 m1 X;gi_wp2
  refine ⟨by simp,.inl ⟨_,_,rfl,run_takeDeferred hK,?_⟩⟩;have aB:=grownBy_putObj' W D (.deferred none);have aV:∀r,some D=some r->∃o:Obj,W.heap[r]? = some o/\o.isCells=false:=fun r e=>by cases e;exact ⟨_,hK,rfl⟩
  refine ⟨.tuple #[.slice q (ZbD l).length qc,.int .i64 0],?_,.slice q (ZbD l).length qc,rfl,ZkP f.z aB aV,E.z.grown aB (by have:=E.z.size;omega) (fun k e=>by cases e;have:=au.z;omega)⟩;simp [results,Tryz.f79,go_sem]
 case stop =>
  rintro D pre W hD _ hF hK;exact hF.elim
theorem Ze5 (v:Value) (l:List ZN) (w:World) (a:ZF Zbr w v l):Calls prog 79 #[v] w (ZwR (if ZbC l then ZbD l else []) (if ZbC l then 0 else 110) w):=by
 cases h:ZbC l with
 | true =>
   rw [Xe rfl,Xe rfl];exact ZeK v l w a h
 | false =>
   rw [Xc (by simp),Xc (by simp)];refine (Zpf v l w a h).mono ?_;rintro e w' ⟨rfl,b⟩;exact ⟨_,rfl,World.ownsRow_nil _ _ _ _,b⟩
