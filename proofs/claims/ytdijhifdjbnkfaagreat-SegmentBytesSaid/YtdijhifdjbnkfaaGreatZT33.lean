import Derived.Test.YtdijhifdjbnkfaaGreatZT22
import Derived.Test.YtdijhifdjbnkfaaGreatZT18
set_option maxRecDepth 100000
set_option maxHeartbeats 0
set_option linter.unusedVariables false
set_option linter.unusedSimpArgs false
namespace Go.Proofs.YtdijhifdjbnkfaaGreat
open Lib (hid)
open Tryz
namespace DT
open RowKit Go.Shelf MM DM
open RF (Ztd Zdn)
attribute [local go_sem] Oper.semAt_some
abbrev Part:=Value×List ZQ
abbrev ZrZ (x:Part):Array Value:=#[x.1]
def ZrB (T:Nat->Prop) (l:List ZQ) (x:Part) (W:World):Prop:=ZD ZbT T W x.1 x.2/\∃k,x.2=ZB l k
theorem Zpl {α:Type} {C:Codec α} {S:Nat->Prop} {w:World} {p:Option Addr} {n b cap':Nat} {es:List α} (h:ZD C S w (.slice p n b) es) (f:n<=cap') (i:cap'<=maxLen) (g:p≠none):ZD C S w (.slice p n cap') es:=by
 obtain ⟨p',c',a,c,a1,a2,a3,d,e⟩:=h;simp only [Value.slice.injEq] at c;obtain ⟨rfl,rfl,rfl⟩:=c;exact ⟨_,cap',a,rfl,f,i,fun h=>absurd h g,d,e⟩
theorem ZlT (l:List ZQ) (k m:Nat) (h:m=min 16 (l.length - 16*k)):(l.drop (16*k)).take m=ZB l k:=by
 unfold ZB;subst h
 by_cases a:16<=l.length - 16*k
 ·rw [Xao a]
 ·rw [Xa3 (by omega),XM (by rw [Xj];exact Xc _),XM (by rw [Xj];omega)]
theorem ZlU (n:Nat) (hn:1<=n) (y t r:Nat) (T:Nat->Prop) (v0:Value) (l:List ZQ) (J Jx:List Part->World->Prop) (hJ:Zdn J)
  (hY:∀pre x A,J pre A->ZrB T l x A->pre.length<Zu l->YieldAt Fence.wide (n - 1) prog y (ZrZ x) A fun e B =>
   (e=.returned (.bool true)/\J (pre++[x]) B/\Kep T A B)\/(e=.returned (.bool false)/\Jx (pre++[x]) B))
  (W:World) (S:W.cell? ⟨t,0,none⟩=some v0) (I:W.cell? ⟨r,0,none⟩=some (.int .i64 16)) (D:T t) (F:T r) (hl:ZD ZbT T W v0 l) (h0:J [] W) (am:l.length<=262144) :
  CallsIn Fence.wide n prog 196 #[.func (.yield y) #[] #[],.pointer (some ⟨t,0,none⟩),.pointer (some ⟨r,0,none⟩)] W fun e B=>(∃v,e=.returned v) /\
   ((∃f,f.map (·.2)=ZH l/\J f B)\/(∃pre,True/\Jx pre B)):=by
 obtain ⟨p0,a,rfl,au,ad,_⟩:=hl.shape;unfold maxLen at ad;have ao:prog.follows .mixedOrders=true:=by kernel_rfl
 have M:=hid (And.intro hl (And.intro S I));have O:Hid (([]:List Part).map (·.2)=(List.range 0).map (ZB l)):=hid rfl;have HY:=hid hY;clear hl hY S I;refine callsIn_of_wp func196 rfl trivial ?_ rfl;simp only [ntmps196,Xat,Xh,Xm,Nat.reduceAdd,Nat.reduceSub,XaB,XaC,XaD,XaE,Xz,XJ];gi_wp2
 gi_loopw [4] (fun Z wr=>∃(k:Nat) (f:List Part),Z=.int .i64 ((16*k:Nat):Int)/\k<=Zu l/\f.length=k/\Hid (f.map (·.2)=(List.range k).map (ZB l))/\Hid (ZD ZbT T wr (.slice p0 l.length a) l/\wr.cell? ⟨t,0,none⟩=some (.slice p0 l.length a)/\wr.cell? ⟨r,0,none⟩=some (.int .i64 16))/\J f wr) (fun Z _=>16*Zu l+16 - (intOf Z).toNat)
 case atStart=>exact ⟨0,[],rfl,XU _,rfl,O,M,h0⟩
 case round =>
  obtain ⟨k,f,rfl,hk,aj,Y,HR,u⟩:=hrel;clear O M h0;obtain ⟨V,E,R⟩:=HR.out;have ap:Zu l=(l.length+15) / 16:=rfl;obtain ⟨i,hi⟩:=Xn (16*k);rw [hi]
  by_cases H:i<l.length
  ·have q1:decide ((i:Int)<(l.length:Int))=true:=Xt;have q2:decide (i<l.length)=true:=Xt;have q3:(i:Int)<=(l.length:Int):=by omega
   obtain ⟨m,hm⟩:=Xn (min 16 (l.length - i));have af:min (16:Int) ((l.length - i:Nat):Int)=(m:Int):=by omega
   have ag:(if l.length - i<16 then ((l.length - i:Nat):Int) else 16)=(m:Int):=by split<;>omega
   obtain ⟨e,he⟩:=Xn (i+m);have av:(i:Int)+(m:Int)=(e:Int):=by omega
   have ar:IntKind.i64.wrap ((i:Int)+(m:Int))=(e:Int):=by rw [IntKind.wrap_i64];omega
   have q4:(e:Int)<=(a:Int):=by omega
   have q5:(i:Int)<=(e:Int):=by omega
   obtain ⟨b,off,rfl,aq,an,_⟩:=Zdx V H;have g:=(ZD.drop V i (by omega)).take m (by omega);rw [Xa (by omega),Xai,ZY,Zqd] at g;have d:=Zpl (cap':=m) g (Xc _) (by unfold maxLen;omega) (by simp);rw [show (l.drop i).take m=ZB l k by rw [<- hi];exact ZlT l k m (by omega)] at d;rw [show m=e - i by omega] at d;obtain ⟨C,o⟩:=Xn wr.drew;have c:Below wr.heap.size wr C:=by rw [<- o];exact (Below.refl _ _).drew
   have U:wr.grownBy C none:=⟨c.os,c.tape,c.output,c.size,fun k hk _=>c.block k hk⟩;have ac:=hJ f wr C u U;obtain ⟨fn,tmps,assign,body,X,G⟩:=HY.out f (.slice (some ⟨b,off+i*4,none⟩) (e - i) (e - i),ZB l k) C ac ⟨ZD.keep d (Za T c) (fun _ _ h=>h),k,rfl⟩ (by omega);dsimp only [ZrZ] at X;rw [<- o] at X;have z:=hid G;have w:=hid o;have s:Hid (ZD ZbT T C (.slice (some ⟨b,off,none⟩) l.length a) l/\C.cell? ⟨t,0,none⟩=some (.slice (some ⟨b,off,none⟩) l.length a)/\C.cell? ⟨r,0,none⟩=some (.int .i64 16)):=hid ⟨ZD.keep V (Za T c) (fun _ _ h=>h),(c.cell (p:=⟨t,0,none⟩) (World.block_lt_of_cell? _ _ E)).trans E,(c.cell (p:=⟨r,0,none⟩) (World.block_lt_of_cell? _ _ R)).trans R⟩;have ai:Hid ((f++[((.slice (some ⟨b,off+i*4,none⟩) (e - i) (e - i):Value),ZB l k)]).map (·.2)=(List.range (k+1)).map (ZB l)):=hid (by rw [XN,Y.out,XaV,XN];rfl);have HI:Hid (16*k=i):=hid hi;have ah:k+1<=Zu l:=by omega
   have aa:Hid (k<Zu l):=hid (by omega);clear g d c U o G V HR Y u hi HY;gi_wp2
   gi_region_with_o (fail)
   all_goals gi_wp2
   all_goals rw [w.out]
   all_goals refine z.out.mono ?_
   all_goals rintro e w3 (⟨rfl,q,j⟩|⟨rfl,q⟩)
   all_goals first
    | (have N:ZD ZbT T w3 (.slice (some ⟨b,off,none⟩) l.length a) l:=ZD.keep s.out.1 j (fun _ _ h=>h)
       have ab:w3.cell? ⟨t,0,none⟩=some (.slice (some ⟨b,off,none⟩) l.length a):=(j.cell (World.block_lt_of_cell? _ _ s.out.2.1) D 0).trans s.out.2.1;have ak:w3.cell? ⟨r,0,none⟩=some (.int .i64 16):=(j.cell (World.block_lt_of_cell? _ _ s.out.2.2) F 0).trans s.out.2.2;have al:=hid (And.intro N (And.intro ab ak));clear N j z X s w aa;gi_wp2
       have hi:=HI.out;go_roundw
       case rel=>exact ⟨k+1,_,by rw [show ((16*(k+1):Nat):Int)=(i:Int)+16 by omega],ah,by rw [Xd,aj];rfl,ai,al,q⟩
       case measure=>simp [intOf];omega)
    | (clear z X s w
       gi_wp2
       refine bodyPost_ret (results_none rfl _ _ _) rfl ?_;exact ⟨⟨_,rfl⟩,.inr ⟨_,trivial,q⟩⟩)
  ·have q1:decide ((i:Int)<(l.length:Int))=false:=Xf;have q2:decide (i<l.length)=false:=Xf;have L:k=Zu l:=by omega
   have ht:=Y.out;rw [L] at ht;have ae:Hid (f.map (·.2)=ZH l):=hid ht;clear ht Y hi L H;gi_wp2
   go_end0
   exact ⟨⟨_,rfl⟩,.inl ⟨f,ae.out,u⟩⟩
theorem ZrN (n:Nat) (p:Option Addr) (m c:Nat) (W:World) :
  CallsIn Fence.wide n prog 133 #[.slice p m c,.int .i64 16] W fun e B=>e=.returned (.func (.func 196) #[] #[.pointer (some ⟨W.heap.size,0,none⟩),.pointer (some ⟨W.heap.size+1,0,none⟩)])/\B=(W.alloc (.cells #[.slice p m c] 97)).alloc (.cells #[.int .i64 16] 3):=by
 refine callsIn_of_wp func133 rfl trivial ?_ rfl;simp only [ntmps133,Xat,Xh,Xm,Nat.reduceAdd,Nat.reduceSub,XaB,XaC,XaD,XaE,Xz,XJ];gi_wp2
 go_ret;exact ⟨rfl,rfl⟩
theorem ZjN (n:Nat) (q:1<=n) (c b:Nat) (T:Nat->Prop) (v:Value) (l:List ZQ) (w:World) (a:l.length<=262144) (d:T c) (e:T b) (j:∀k,T k->k<w.heap.size) (f:w.cell? ⟨c,0,none⟩=some v) (i:w.cell? ⟨b,0,none⟩=some (.int .i64 16)) (u:ZD ZbT T w v l) :
  Ztd Fence.wide n prog 196 #[.pointer (some ⟨c,0,none⟩),.pointer (some ⟨b,0,none⟩)] ZrZ T (ZrB T l) (fun s=>s.map (·.2)=ZH l) (fun _=>True) (Zu l) w :=
 fun y J r W g t _ m o=>ZlU n q y c b T v l J r t m W ((g.cell (p:=⟨c,0,none⟩) (j _ d)).trans f) ((g.cell (p:=⟨b,0,none⟩) (j _ e)).trans i) d e (ZD.keep u (Za T g) (fun _ _ h=>h)) o a
open RowKit Go.Shelf MM DM VM GB
open RF (Ztd Zdn Ztb ZtJ)
variable {W W':World} {row:Option Nat} {v:Value}
attribute [local go_sem] Oper.semAt_some
theorem Ztf (l:List ZQ):l.any Zh0=false↔∀x∈l,okW x:=by
 rw [List.any_eq_false];constructor
 ·intro h x a;have:=h x a;unfold Zh0 at this;simpa using this
 ·intro h x a;unfold Zh0;simpa using h x a
theorem Zo4 (v:Value) (l:List ZQ) (w:World) (j:ZN ZbT w v l) (h:Zb7 l=false):Calls prog 79 #[v] w fun e w'=>e=.returned (.tuple #[.slice none 0 0,.int .i64 110])/\Below w.heap.size w w':=by
 have b:=hid (ZdH v l [] w j);have c:=hid (fun W (s:Below w.heap.size w W)=>ZwR v l W (ZN.below j s));obtain ⟨p,u,rfl,q,t,_⟩:=j.shape;clear j
 by_cases i:l.length<=262144
 ·have r:decide ((l.length:Int)>262144)=false:=Xf;have o:decide (262144<l.length)=false:=Xf;cases hr:Za6 [] l with
  | false =>
    rw [hr] at b;clear hr i c h;go_enter func79,ntmps79;go_wp2_with fail;refine b.out.mono ?_;rintro e n ⟨rfl,a⟩;have g:=hid a;clear a b;go_wp2_with fail;go_ret2;exact ⟨rfl,g.out⟩
  | true =>
    rw [hr] at b
    have k:l.any Zh0=true:=by
     cases k:l.any Zh0 with
     | true=>rfl
     | false =>
       unfold Zb7 at h;rw [(ZhH l).2 ⟨(Ztf l).1 k,hr⟩,Xw i] at h;cases h
    rw [k] at c;clear hr i k h;go_enter func79,ntmps79;go_wp2_with fail;refine b.out.mono ?_;rintro e n ⟨rfl,a⟩;have f:=hid (c.out n a);have g:=hid a;clear a b c;go_wp2_with fail;refine f.out.mono ?_;rintro e w2 ⟨rfl,d⟩;have m:=hid (g.out.trans (d.mono g.out.size));clear d f g;go_wp2_with fail;go_ret2;exact ⟨rfl,m.out⟩
 ·have r:decide ((l.length:Int)>262144)=true:=Xt;have o:decide (262144<l.length)=true:=Xt;clear i h b c;go_enter func79,ntmps79;go_wp2_with fail;go_ret2;exact ⟨rfl,Below.refl _ _⟩
theorem ZkI {base e size n:Nat} {b:List Value} (h:W.ownsRow base e size v n b) (f:W.grownBy W' row) (i:∀r,row=some r->∃o:Obj,W.heap[r]? = some o/\o.isCells=false):W'.ownsRow base e size v n b:=by
 refine h.kept f ?_;rcases h.2 with ⟨rfl,_⟩|⟨g,l,k,rfl,_,a,_⟩
 ·exact .inl rfl
 ·refine .inr fun j => ?_;obtain ⟨o,c,d⟩:=i g (by simpa [Value.ownBlock] using j.symm);rw [a] at c;cases c
  cases d
theorem ZpN {B:Nat} {t:TypeId} (h:Boxed W B t v) (b:W.grownBy W' row) (d:∀r,row=some r->∃o:Obj,W.heap[r]? = some o/\o.isCells=false):Boxed W' B t v :=
 h.kept b (fun e=>by
  obtain ⟨o,a,c⟩:=d B e.symm;rw [show W.heap[B]? = _ from h] at a;cases a
  cases c)
theorem Znc (T:Nat->Prop) (l:List ZQ) (D:Nat) (d:∀k,T k->k<D):OwnFrom D (ZrB T l):=fun x W W' row h a b =>
 ⟨ZD.keep h.1 (ZM a fun k e c=>by have:=(b k e).1;have:=d k c;omega) (fun _ _ h=>h),h.2⟩
def ZoR (w:World) (a b:Nat) (T:Nat->Prop) (l:List ZQ) (H:Xu) (pre:List Part) (W:World):Prop :=
 ∃v,Boxed W b 23 v/\Zd a W v (H++(pre.map (·.2)).flatMap Ze6)/\(∀g,v.ownBlock=some g->¬T g)/\(∀x∈pre,∃k,x.2=ZB l k)/\Below a w W/\a<=b/\∀k,T k->k<W.heap.size
theorem Zms (w:World) (c g:Nat) (T:Nat->Prop) (l:List ZQ) (H:Xu) (D:Nat) (hD:c<=D) (hw:c<=w.heap.size):OwnFrom D (ZoR w c g T l H):=fun pre W W' row h a b=>by
 obtain ⟨v,q,i,p,n,f,o,m⟩:=h;have j:=f.size;exact ⟨v,ZpN q a fun r e=>(b r e).2,ZkI i a fun r e=>(b r e).2,p,n,f.grown a (by omega) (fun k d=>by have:=(b k d).1;omega),o,fun k d=>XK (m k d) a.size⟩
theorem ZwJ {l:List ZQ} (a:∀x∈l,okW x) (k:Nat):(Ze6 (ZB l k)).length<=2000:=by
 have h1:=ZgV (ZB l k) [] (Zlc a k);have h2:=Zcg l k;have h3:=(EM.ZdL (ZE [] (ZB l k))).1;unfold Ze6;omega
theorem Zok {l:List ZQ} (a:∀x∈l,okW x):∀{pre:List Part},(∀x∈pre,∃k,x.2=ZB l k)->((pre.map (·.2)).flatMap Ze6).length<=2000*pre.length
 | [],_=>by simp
 | x::pre,h=>by
   have ih:=Zok a (pre:=pre) fun y c=>h y (by simp [c]);obtain ⟨k,b⟩:=h x (by simp);have:=ZwJ a k;rw [XF,XaQ,Xd,Xh,b];omega
theorem ZeN (v:Value) (l:List ZQ) (w:World) (hv:ZN ZbT w v l) (h:Zb7 l=true):Calls prog 79 #[v] w (Zwo (ZbJ l) 0 w):=by
 obtain ⟨hw,hr,hn⟩:=Zmk h;have HR:=hid (ZdH v l [] w hv);have HO:=hid (fun W (hW:Below w.heap.size w W)=>ZwR v l W (ZN.below hv hW));rw [hr] at HR;rw [(Ztf l).2 hw] at HO;have HV:=hid (ZN.bel hv);have HP:=hid (fun W=>VP.Zdg (.slice none 0 0) [] l.length W (by omega) (Zq.nil_ W) (by simp));simp only [Xz] at HP;obtain ⟨p,a,rfl,aX,aY,_⟩:=hv.shape;have q1:decide ((l.length:Int)>262144)=false:=Xf;have q2:decide (262144<l.length)=false:=Xf;have aW:IntKind.u64.wrap (l.length:Int)=(l.length:Int):=by rw [IntKind.wrap_u64];omega
 have ae:=hid (Zg0 l);clear hv hr;refine (callsIn_wide (n:=5)).1 ?_;refine callsIn_of_wp_marks func79 rfl trivial ?_ rfl;simp only [ntmps79,Xat,Xh,Xm,Nat.reduceAdd,Nat.reduceSub,XaB,XaC,XaD,XaE,Xz,XJ];gi_wp2
 refine ⟨trivial,(callsIn_wide.2 HR.out).mono ?_⟩;rintro e w1 ⟨rfl,al⟩;have f:=hid (HO.out w1 al);have u:=hid al;clear al HR HO;gi_wp2
 refine ⟨trivial,(callsIn_wide.2 f.out).mono ?_⟩;rintro e w2 ⟨rfl,az⟩;have an:=hid (u.out.trans (az.mono u.out.size));clear az f u;gi_wp2
 refine ⟨trivial,(callsIn_wide.2 (HP.out w2)).mono ?_⟩;rintro e w3 ⟨v3,rfl,R,aG⟩;have ap:=an.out.size;have L:Below w.heap.size w w3:=an.out.trans (aG.mono ap);obtain ⟨H,hH⟩:=Xn (Zb l.length);rw [hH] at R ae;have a0:H.length<=10:=by rw [<- hH];exact (Zc _).2
 have O:=Zaw R;have F:Zd w.heap.size w3 v3 H:=Zd.weaken R ap;obtain ⟨p3,c3,rfl,_⟩:=(Zd.brow R).shape;clear R aG HP an hH;gi_wp2
 refine ⟨trivial,(ZrN 4 p l.length a _).mono ?_⟩;rintro e w5 ⟨rfl,rfl⟩;obtain ⟨c,ac⟩:=Xn w3.heap.size;have aj:=L.size;have bB:=Boxed.new w3 23 (.slice p3 H.length c3);obtain ⟨z,M⟩:=Xn (w3.alloc (.cells #[.slice p3 H.length c3] 23));have ab:Below w3.heap.size w3 z:=by rw [<- M];exact (Below.refl _ _).alloc (Xc _) _
 have t:z.heap.size=c+1:=by rw [<- M,<- ac];simp
 have ao:((z.alloc (.cells #[.slice p l.length a] 97)).alloc (.cells #[.int .i64 16] 3)).cell? ⟨c+1,0,none⟩=some (.slice p l.length a):=by
  rw [((Below.refl (z.alloc (.cells #[.slice p l.length a] 97)).heap.size _).alloc (Xc _) (.cells #[.int .i64 16] 3)).cell (p:=⟨c+1,0,none⟩) (by simp [t]),<- t,cell_of_row _ _ 0 _ _ _ (heap_alloc_new z _)];rfl
 have am:((z.alloc (.cells #[.slice p l.length a] 97)).alloc (.cells #[.int .i64 16] 3)).cell? ⟨c+1+1,0,none⟩=some (.int .i64 16):=by
  have e:(z.alloc (.cells #[.slice p l.length a] 97)).heap.size=c+1+1:=by simp [t]
  rw [<- e,cell_of_row _ _ 0 _ _ _ (heap_alloc_new _ _)];rfl
 have i:Below z.heap.size z ((z.alloc (.cells #[.slice p l.length a] 97)).alloc (.cells #[.int .i64 16] 3)):=((Below.refl _ _).alloc (Xc _) _).alloc (by simp) _;have ai:((z.alloc (.cells #[.slice p l.length a] 97)).alloc (.cells #[.int .i64 16] 3)).heap.size=c+3:=by simp [t]
 rw [M,ac] at bB;have aV:prog.follows .mixedOrders=true:=by kernel_rfl
 rw [M];rw [t];obtain ⟨w5,aH⟩:=Xn (((z.alloc (.cells #[.slice p l.length a] 97)).alloc (.cells #[.int .i64 16] 3)));rw [aH] at ao am i ai ⊢;rw [ac] at O aj ab;have J:Below w.heap.size w w5:=(L.trans (ab.mono (by omega))).trans (i.mono (by omega));have G:Zd w.heap.size w5 (.slice p3 H.length c3) H:=(F.keep (by rw [ac];exact ab)).keep i;have ad:∀g,(Value.slice p3 H.length c3).ownBlock=some g->w.heap.size<=g/\g<c:=fun g S=>⟨(World.ownsRow.lt F g S).1,O g S⟩;obtain ⟨T,hT⟩:∃T:Nat->Prop,(fun k=>k<w.heap.size\/k=c+1\/k=c+1+1)=T:=⟨_,rfl⟩;have m:∀k,T k↔(k<w.heap.size\/k=c+1\/k=c+1+1):=fun k=>by rw [<- hT]
 have X:∀k,T k->k<w5.heap.size:=fun k hk=>by rw [m] at hk;omega
 have aJ:ZoR w w.heap.size c T l H [] w5:=by
  refine ⟨.slice p3 H.length c3,(i.block c (by omega)).trans bB,?_,?_,by simp,J,aj,X⟩
  ·simpa using G
  ·intro g S aa;have:=ad g S;rw [m] at aa;omega
 have E:ZD ZbT T w5 (.slice p l.length a) l:=ZD.weak (ZgP.below HV.out J) fun b _ hb=>(m b).2 (.inl hb);have aP:=hid m;have aC:=hid ai;have ay:=hid (ZjN 4 (by omega) (c+1) (c+1+1) T _ l w5 hn ((m _).2 (.inr (.inl rfl))) ((m _).2 (.inr (.inr rfl))) X ao am E);have ah:=hid aj;clear hT m ai aH M ab i t bB ao am G ad F O L E J ap;gi_wp2
 refine ZtJ rfl (by omega) (gf:=196) (lb:=#[.pointer (some ⟨c+1,0,none⟩),.pointer (some ⟨c+1+1,0,none⟩)]) rfl trivial (enters_of func196 (by kernel_rfl) rfl)
  ay.out (Below.refl _ _) X (fun _=>rfl)
  (ZoR w w.heap.size c T l H) (fun _ _=>False) (Zms w w.heap.size c T l H _ (by have:=aC.out;omega) (Xc _)) (fun _ _ _ _ h _ _=>h) (Znc T l _ X) aJ
  (fun x=>{ tmps:=#[.slice p l.length a,undef,.slice none 0 0,.int .i64 0,.pointer (some ⟨c,0,none⟩),x.1,.slice p l.length a,.int .i64 (l.length:Int),.bool false,.bool false,.slice p l.length a,.bool true,.bool false,.bool false,.bool false,.slice p l.length a,.bool false,.bool false,.slice p l.length a,.int .i64 (l.length:Int),.int .u64 (l.length:Int),.slice p3 H.length c3,.slice p l.length a,.func (.func 196) #[] #[.pointer (some ⟨c+1,0,none⟩),.pointer (some ⟨c+1+1,0,none⟩)],x.1,undef,undef,undef,undef],defers:=[] }) ?assign ?body ?done ?stop
 case assign =>
  intro y x W K hK;gi_wp2
  exact hK
 case body =>
  rintro y pre ⟨xv,xc⟩ W ⟨v,b1,V,t1,m1,N,aT,Y⟩ ⟨s,k,av⟩ ar;dsimp only at s av;subst av;have aR:=Zok hw m1;have aF:=Zcg l k;have aO:Zu l<=16384:=by unfold Zu;omega
  obtain ⟨A,hA⟩:=Xn (H++(pre.map (·.2)).flatMap Ze6);have aM:A.length<=1000000000:=by rw [<- hA,Xd];omega
  rw [hA] at V;have ak:=hid (ZrC v xv A (ZB l k) W (Zd.zero V) s.any (Zlc hw k) (by omega) aM);have cB:=b1.cell;have fB:=b1.frozen;obtain ⟨q,qc,rfl,_⟩:=(Zd.brow V).shape;obtain ⟨qx,ax,rfl,_⟩:=s.shape;have u:=hid b1;have f:=hid V;have aB:=hid t1;have B:=hid N;have aS:=hid m1;have aE:Hid (H++((pre++[((.slice qx (ZB l k).length ax:Value),ZB l k)]).map (·.2)).flatMap Ze6=A++Ze6 (ZB l k)):=hid (by rw [XN,XaR,<- hA];simp);have aI:=hid Y;obtain ⟨Z,hZ⟩:=Xn (A++Ze6 (ZB l k));rw [hZ] at ak aE;clear b1 V t1 m1 N hA aR aF aO s Y hZ;gi_wp2
  refine ⟨trivial,(CallsIn.inRound y (callsIn_wide.2 ak.out)).mono ?_⟩;rintro e w6 ⟨U,rfl,I,d⟩;obtain ⟨q6,aQ,rfl,_⟩:=(Zd.brow I).shape;obtain ⟨U,au⟩:=Xn ((.slice q6 Z.length aQ:Value));rw [au] at I d;have aw:=u.out.not_row (by decide:(23:TypeId)≠5) f.out;have C:Boxed w6 c 23 (.slice q A.length qc):=u.out.kept d.1 aw;have f6:=C.frozen;have c6:=C.cell;have af:=C.not_row (by decide:(23:TypeId)≠5) I
  have ag:KeepsFrom w5.heap.size W (w6.setCell ⟨c,0,none⟩ U)/\Kep T W (w6.setCell ⟨c,0,none⟩ U)/\ZoR w w.heap.size c T l H (pre++[((.slice qx (ZB l k).length ax:Value),ZB l k)]) (w6.setCell ⟨c,0,none⟩ U):=by
   have aK:Kep T W w6:=d.kep.mono fun j hj e=>aB.out j e hj;have aL:¬T c:=fun h=>by have:=(aP.out c).1 h;have:=ah.out;omega
   have aD:∀g,(Value.slice q A.length qc).ownBlock=some g->w.heap.size<=g:=fun g S=>(World.ownsRow.lt f.out g S).1;have aN:=B.out.size;refine ⟨?_,aK.trans (Zx aL U),?_⟩
   ·have h1:KeepsOthers W w6:=⟨d.1.size,fun j o hj ho=>by
     have ar:=(Xo.1 hj).1;rw [d.1.block j ar fun e => ?_]
     ·exact hj
     ·obtain ⟨_,aZ,fr,hc⟩:=Zbk f.out e.symm;rw [hj] at hc;cases hc
      cases ho⟩
    exact (h1.trans (KeepsOthers.setCell _ _ _)).from _
   ·have aq:Below w.heap.size w w6:=B.out.trans (d.kep.below aN fun j hj e=>by have:=aD j e;omega);refine ⟨U,C.set U,?_,?_,?_,aq.setCell (p:=⟨c,0,none⟩) ah.out U,ah.out,fun j hj=>XK (aI.out j hj) (by have:=d.1.size;simpa using this)⟩
    ·rw [aE.out]
     have ho:Zd w.heap.size w6 U Z:=Zd.from I fun g S=>by
      rcases d.2 g S with e|e
      ·exact aD g e
      ·omega
     exact World.ownsRow.kept ho (grownBy_setCell' w6 c U) (.inr af.symm)
    ·intro g S aa;rcases d.2 g S with e|e
     ·exact aB.out g e aa
     ·have:=aI.out g aa;omega
    ·intro x hx;rcases Xak.1 hx with hx|hx
     ·exact aS.out x hx
     ·simp only [XaF] at hx;subst hx;exact ⟨k,rfl⟩
  subst au;have HE:=hid ag;clear ag aw C af I d ak cB fB;gi_wp2
  exact HE.out
 case done =>
  rintro D xs W hD hS ⟨v,b1,V,t1,m1,N,aT,Y⟩ hK;rw [hS,<- ae.out] at V;have cB:=b1.cell;obtain ⟨q,qc,rfl,_⟩:=(Zd.brow V).shape;have f:=hid V;have B:=hid N;clear V N t1 m1 Y;gi_wp2
  refine ⟨by simp,.inl ⟨_,_,rfl,run_takeDeferred hK,?_⟩⟩;have aA:=grownBy_putObj' W D (.deferred none);have aU:∀r,some D=some r->∃o:Obj,W.heap[r]? = some o/\o.isCells=false:=fun r e=>by cases e;exact ⟨_,hK,rfl⟩
  refine ⟨.tuple #[.slice q (ZbJ l).length qc,.int .i64 0],?_,.slice q (ZbJ l).length qc,rfl,ZkI f.out aA aU,B.out.grown aA (by have:=B.out.size;omega) (fun k e=>by cases e;have:=aC.out;omega)⟩;simp [results,Tryz.f79,go_sem]
 case stop =>
  rintro D pre W hD _ hF hK;exact hF.elim
theorem Zem (v:Value) (l:List ZQ) (w:World) (a:ZN ZbT w v l):Calls prog 79 #[v] w (Zwo (if Zb7 l then ZbJ l else []) (if Zb7 l then 0 else 110) w):=by
 cases h:Zb7 l with
 | true =>
   rw [Xe rfl,Xe rfl];exact ZeN v l w a h
 | false =>
   rw [Xa (by simp),Xa (by simp)];refine (Zo4 v l w a h).mono ?_;rintro e w' ⟨rfl,b⟩;exact ⟨_,rfl,World.ownsRow_nil _ _ _ _,b⟩
