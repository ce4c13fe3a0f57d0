import Derived.Test.YtmomfobdpfajbaaGreatZA16
import Derived.Test.YtmomfobdpfajbaaGreatZA17
import Derived.Test.YtmomfobdpfajbaaGreatZA9
set_option maxRecDepth 100000
set_option maxHeartbeats 0
set_option linter.unusedVariables false
set_option linter.unusedSimpArgs false
namespace Go.Proofs.YtmomfobdpfajbaaGreat
open Tryz
namespace SG
open RowKit MM EM GB TR
open GM (Zl Zfd Zfe ZS Zf8 Zb1)
open DT (Zbr Zf7 Zsv)
open PM (isL)
def ZAj (rows:List (EM.Tr Zdm)) (w:World) (e:Ending) (w':World):Prop:=∃u x,e=.returned (.tuple #[u,x])/\Zd w.heap.size w' u (Zl rows)/\ZF Zbr w' x (ZS 0 rows)/\Below w.heap.size w w'
theorem ZAF (S:Nat->Prop) (w:World) (x:DM.ZN):Zds Zbr S (w.alloc (.cells #[.string ⟨x.1.toArray⟩,.int .i64 x.2.1,.int .i64 x.2.2.1,.int .i64 x.2.2.2] 102)) (.slice (some ⟨w.heap.size,0,none⟩) 1 1) [x]:=Zdh 102 (Zf7.2 rfl)
theorem Zit {B C:Nat} {S:Nat->Prop} {w:World} {u x:Value} {L:Xu} {es:List DM.ZN} (h:Zd C w u L) (k:ZC Zbr 102 B S w x es) {g:Nat} (c:x.ownBlock=some g):u.ownBlock≠some g:=fun e=>by
 obtain ⟨_,_,c1,f1,b⟩:=k.cells c;obtain ⟨_,c2,f2,a⟩:=Zbn h e;rw [b] at a;simp only [Xx,Obj.cells.injEq] at a;exact absurd a.2.1 (by decide)
theorem Zzv (tv:Value) (B mb:Nat) (X:Nat->Prop) (F:Xu->Option Value) (rows:List (EM.Tr Zdm)) (w:World) (ht:ZcF w tv (rows.map (·.1))) (hT:Tab B mb X rows F w)
  (q:∀r∈rows,r.2.length<=65536/\PM.ZaU r.2<=600000/\r.1.length<=65/\isL r.2=true/\r.2≠[]) (hl:rows.length<=100000) (hp:(Zl rows).length<=6000000) :
  Calls prog 78 #[tv,.map (some mb)] w (ZAj rows w):=by
 obtain ⟨M,hM⟩:∃M:List Xu,rows.map (·.1)=M:=⟨_,rfl⟩;have ad:M.length=rows.length:=by rw [<- hM,XF]
 have ay:=Y4 (fun (k:Nat) (u:k<rows.length)=>(show ∃h:k<M.length,M[k]=rows[k].1 by subst hM;exact ⟨by simpa using u,by rw [Xax]⟩));rw [hM] at ht;obtain ⟨p,aP,rfl,aw,aG⟩:=TIn.shape ht;rw [ad] at aw ht ⊢;unfold maxLen at aG;have HT:=Y4 hT;have ax:=Y4 (TIn.mono ht (Xa _));have ac:=Y4 q;have Y:=Y4 (fun (k:Nat) (u:k<rows.length)=>RM.Zcy hT.rise (XI u));have aC:=Y4 (fun (k:Nat) (u:k<rows.length)=>Zfd u);have aK:=Y4 (fun (k:Nat) (u:k<rows.length)=>Zf8 u);have ab:=Y4 (fun k=>Xy (Zfe rows k) hp);have N:Y5 (rows.take rows.length=rows):=Y4 (by rw [XB]);have ak:Y5 (Zd w.heap.size w (.slice none 0 0) (Zl (rows.take 0))):=Y4 (World.ownsRow_nil _ _ _ _);have ai:Y5 (ZC Zbr 102 w.heap.size (fun _=>False) w (.slice none 0 0) (ZS 0 (rows.take 0))):=Y4 (ZC.nil_ _ _ _ _);clear hM ad ht hT q hp;go_enter func78,ntmps78;go_wp2_with fail
 go_loopw [4,5,12] (fun uv xv iv wr=>∃k:Nat,k<=rows.length/\iv=.int .i64 k/\Y5 (Zd w.heap.size wr uv (Zl (rows.take k)))/\Y5 (ZC Zbr 102 w.heap.size (fun _=>False) wr xv (ZS 0 (rows.take k)))/\Y5 (Below w.heap.size w wr)) (fun _ _ iv _=>rows.length - (intOf iv).toNat)
 case atStart=>exact ⟨0,by omega,rfl,ak,ai,Y4 (Below.refl _ _)⟩
 case round =>
  obtain ⟨k,u,rfl,HU,HX,J⟩:=hrel;clear ak ai
  by_cases a:k<rows.length
  ·have t1:decide ((k:Int)<(rows.length:Int))=true:=by simp;omega
   have t2:decide (k<rows.length)=true:=Xs a;have t3:(k:Int)<(rows.length:Int):=by omega
   obtain ⟨Z,ae⟩:=ay.z k a;obtain ⟨b,off,rfl,aN,c0⟩:=TIn.at_ (TIn.below ax.z J.z) Z;rw [ae] at c0;obtain ⟨h1,h2,h3,h4,h5⟩:=ac.z _ (XI a);have f:=Y.z k a;have d:=aC.z k a;have c:=aK.z k a;have aj:=ab.z (k+1);have am:=ab.z k;have I:=Zb1 (rows.take k) 0;rw [Xi,Xan (by omega)] at I;obtain ⟨⟨s,ps⟩,hr⟩:∃r,rows[k]=r:=⟨_,rfl⟩;rw [hr] at c0 h1 h2 h3 h4 h5 f d c;dsimp only at c0 h1 h2 h3 h4 h5 f d c;have aq:s.length<=maxLen:=by unfold maxLen;omega
   have n:=HT.z.below J.z;have j:=n.found s;rw [f] at j;obtain ⟨fv,V⟩:=Xn (found F s);have lk:=n.look s aq;have H:=Y4 (fun W (hW:Below wr.heap.size wr W)=>(n.below hW).look s aq);rw [V] at j lk H;obtain ⟨pf,cf,rfl,_⟩:=(Zbj.any j.1).shape;have HC:=Y4 (PW.Ze5 _ ps wr (Zpx (Zbj.any j.1)) (by omega) (by omega));have he:PW.encR ps=(PM.ZY ps,0):=by unfold PW.encR;rw [Xe h4]
   rw [he] at HC
   have z:PM.ZY ps≠[]:=fun e=>by
    have h:=(VM.Zc ps.length).1;have h':=Xr List.length e;unfold PM.ZY at h';simp only [Xd,Xv] at h';omega
   obtain ⟨E,hE⟩:=Xn (PM.ZY ps);rw [hE] at HC d c z;rw [d,Xd] at aj;obtain ⟨L,T⟩:=Xn (Zl (rows.take k));obtain ⟨E0,S⟩:=Xn (ZS 0 (rows.take k));have t:=HU.z;have o:=HX.z;rw [T] at t d c aj am;rw [S] at o c I;obtain ⟨pu,cu,rfl,_⟩:=(Zd.brow t).shape;obtain ⟨px,cx,ag,_⟩:=o.any.shape;rw [I] at ag;subst ag;have av:=Y4 t;have O:=Y4 o;have aa:=Y4 d;have R:=Y4 c;have aM:=Y4 z;have az:Y5 (w.heap.size<=wr.heap.size):=Y4 J.z.size;have aI:=Y4 a;clear t o n j V f d c z hE T S he hr Z ae h2 h3 h4 h5 HU HX a;go_wp2_with fail;refine HC.z.mono ?_;rintro e A ⟨v2,rfl,l,i⟩;have l:Zd wr.heap.size A v2 E:=l;obtain ⟨p2,c2,rfl,_⟩:=(Zd.brow l).shape;have aO:=H.z A i;have m:Below A.heap.size A (A.alloc (.cells #[.string ⟨s.toArray⟩,.int .i64 (L.length:Int),.int .i64 (E.length:Int),.int .i64 (ps.length:Int)] 102)):=(Below.refl _ _).alloc (Xa _) _;have aJ:=az.z;have v:=Y4 ((O.z.keep (Za (fun _=>True) i) (fun _ _ _=>trivial) (fun _ _=>trivial)).alloc (.cells #[.string ⟨s.toArray⟩,.int .i64 (L.length:Int),.int .i64 (E.length:Int),.int .i64 (ps.length:Int)] 102));have ao:=Y4 ((av.z.keep i).keep m);have ar:=Y4 (l.keep m);have ap:=Y4 ((J.z.trans (i.mono aJ)).trans (m.mono (by have:=i.size;omega)));have au:=Y4 (ZAF (fun _=>False) A (s,((L.length:Int),((E.length:Int),(ps.length:Int)))));have aA:Y5 (w.heap.size<=(A.alloc (.cells #[.string ⟨s.toArray⟩,.int .i64 (L.length:Int),.int .i64 (E.length:Int),.int .i64 (ps.length:Int)] 102)).heap.size):=Y4 ap.z.size;clear l i m HC H O av lk J;go_wp2_with (first|(at_builtin;go_loud (refine Zo Zsv rfl _ _ rfl w.heap.size _ E0 rfl v.z (fun b _ hb=>hb.elim) _ [(s,((L.length:Int),((E.length:Int),(ps.length:Int))))] rfl au.z (by unfold maxLen;simp only [Xai];omega) (by simp only [Xai];omega) aA.z ?_;intro v4 w4 G an C;rw [<- R.z] at G;have ah:=Y4 G;have x:=Y4 (Zd.kepOwn ao.z C fun g hg e=>Zit ao.z v.z e hg);have aL:=Y4 (Zd.brow (Zd.kepOwn ar.z C fun g hg e=>Zit ar.z v.z e hg));have U:=Y4 (ap.z.trans an);clear G an C))|(at_builtin;go_loud (refine Zn rfl _ _ rfl _ L rfl (Zd.zero x.z) _ E rfl aL.z aM.z (by omega) ?_;intro v5 w5 af y;obtain ⟨D,al⟩:=Zb2 U.z.size x.z y af;rw [<- aa.z] at D;have aB:=Y4 D;have aF:=Y4 (ah.z.keep y.kep (fun _ _ h=>h.elim) fun g hg e=>Zit x.z ah.z hg e);have aE:=Y4 (U.z.trans al);clear af y D al)))
   have a:=aI.z;go_roundw
   case rel=>exact ⟨k+1,by omega,by go_num,aB,aF,aE⟩
   case measure=>simp [intOf];omega
  ·obtain rfl:k=rows.length:=by omega
   have t1:decide ((rows.length:Int)<(rows.length:Int))=false:=by simp
   have t:=HU.z;have o:=HX.z;rw [N.z] at t o;have aD:=Y4 t;have aH:=Y4 o.any;clear HU HX t o a;go_wp2_with fail;go_ret2;exact ⟨_,_,rfl,aD.z,aH.z,J.z⟩
open RowKit MM
variable {S:Nat->Prop} {o:Oper} {zv u v' u':Value} {s:Xu} {g k b:Nat}
theorem ZDj:Elem Zki prog 41 100 40:=⟨underlying41,by
 have h:(prog.info? 100).map (fun i=>(i.zero,i.size,i.bytes))=some (some (.agg #[.string ⟨#[]⟩,.slice none 0 0]),2,40):=by kernel_rfl
 obtain ⟨i,a,e,d,c⟩:=info_parts h;exact ⟨i,_,a,e,d,c,rfl⟩⟩
theorem ZpO {α:Type} {C:Codec α} {P:Program} {T e:TypeId} {c:Nat} (E:Elem C P T e c) {w:World} {a:Act} {K:Act->World->Prop} {Q:Exit->Act->World->Prop} (s x:Operand)
  (Z:o.op=.call { callee:=.builtin .append,args:=#[s,x],argTypes:=#[T,T] }) (B:Nat) (v:Value) (es:List α) (hs:a.eval s=v) (f:ZC C e B S w v es) (hS:∀b,b<w.heap.size->S b->Apt e B w b)
  (src:Value) (q:List α) (hx:a.eval x=src) (hr:Zds C S w src q) (t:es.length+q.length<=maxLen) (hby:(es.length+q.length)*c<=140737488355328) (d:B<=w.heap.size)
  (h:∀v' w',ZC C e B S w' v' (es++q)->Below B w w'->Kep (fun k=>v.ownBlock≠some k) w w'->K (a.put o.dst v') w'):o.wp P a w K Q:=by
 obtain ⟨p,U,m,rfl,h1,h3,G,D⟩:=hr;obtain ⟨i,z,hi,hz,I,J,V⟩:=E.info;cases p with
 | none =>
   have h0:=h3 rfl;subst h0;have hd:q=[]:=XP (by omega);subst hd;obtain ⟨n,A,X⟩:=id f;have H:=run_append_owned_none (P:=P) (w:=w) B T o.type e i C.size E.under hi v es.length _ A;have l:=h v w (by rw [XH];exact f) (Below.refl _ _) (Kep.refl _ _);have M:a.eval x=.slice none 0 0:=hx;unfold Oper.wp;simp [execOp,Z,resolve,invoke,builtin,hs,M,H,Result.andThen];exact l
 | some ad =>
   obtain ⟨n,A,X⟩:=f;have L:∀k,v.ownBlock=some k->B<=k:=fun k l=>(World.ownsRow.lt A k l).1;have hl:m.flatten.length=q.length*C.size:=by rw [ZeM G.lens,G.1]
   refine wp_append_own _ s x T Z B e i z C.size c E.under hi hz I J V C.pos v es.length _ hs A ad q.length U m.flatten hx hl ?_ G.ones t hby d (fun v' w' h4 O _ => ?_)
   ·intro j u Y;rcases D with D|⟨b,off,he,D⟩
    ·subst D;have:m=[]:=XP (by rw [G.1];rfl);subst this;simp at Y
    ·obtain rfl:ad=⟨b,off,none⟩:=XW he;rw [ZZ];exact D j u Y
   ·have r:Below B w w':=(Below.refl B _).grown O d L;have l:Kep (Apt e B w) w w':=ZO O fun k l hA=>ZcZ A hA l;refine h v' w' ⟨n++m,?_,?_⟩ r (ZO O fun k l N=>N l)
    ·rw [Xd,XaN];exact h4
    ·have y:=X.append G;refine ⟨y.1,fun i hi R => ?_⟩;exact C.keep (C.keep (y.2 i hi R) (Kep.refl _ _) (T:=fun b=>S b/\b<w.heap.size) fun b r hs=>⟨hs,r⟩) (l.mono' (T:=fun b=>S b/\b<w.heap.size) fun b r hs=>hS b r hs.1) fun b r hs=>hs.1
abbrev ZCk (B:Nat) (w:World) (v:Value) (a:List ZgO):Prop:=ZC Zki 100 B (fun _=>False) w v a
abbrev ZCl (w:World) (v:Value) (a:List ZgO):Prop:=Zds Zki (fun _=>False) w v a
theorem Zup {w:World} {v:Value} {e:List ZgO} (h:ZB Zki S w v e):ZCl w v e:=by
 obtain ⟨p,a,d,n,m,l,f,j⟩:=h.src;exact ⟨p,a,d,n,m,l,⟨f.1,fun i hi c=>Zgq.2 (Zgq.1 (f.2 i hi c))⟩,j⟩
structure Mk (n0:Nat) (F:Nat->Prop) (wd W:World) (pa:Option (Value×List ZgO)) (em:Bool) (pp:Option (Value×Zdm)) (pr:Option (Value×ZgO)):Prop where
 lo:n0<=wd.heap.size
 bel:Below n0 wd W
 f:∀b,F b->b<n0
 a:∀v zs,pa=some (v,zs)->ZCk n0 W v zs
 e:em=true->∀v zs,pa=some (v,zs)->∀g,v.ownBlock=some g->W.heap[g]? = some (.cells #[] 100 (0,0))
 p:∀u q,pp=some (u,q)->ZC Zdp 125 n0 F W u [q]
 r:∀x q,pr=some (x,q)->∃g,x=.slice (some ⟨g,0,none⟩) 1 1/\W.heap[g]? = some (.cells #[.string ⟨q.1.toArray⟩,q.2] 100 (0,0))/\q.2.oneCell'=true
variable {n0 : Nat} {F : Nat -> Prop} {wd W : World} {pa : Option (Value × List ZgO)} {em : Bool} {pp : Option (Value × Zdm)} {pr : Option (Value × ZgO)}
theorem Mk.start (F:Nat->Prop) (wd:World) (a:∀b,F b->b<wd.heap.size):Mk wd.heap.size F wd wd none true none none :=
 ⟨Xa _,Below.refl _ _,a,fun _ _ h=>(by cases h),fun _ _ _ h=>(by cases h),fun _ _ h=>(by cases h),fun _ _ h=>(by cases h)⟩
theorem Mk.size (h:Mk n0 F wd W pa em pp pr):n0<=W.heap.size:=Xy h.lo h.bel.size
theorem Mk.alloc (h:Mk n0 F wd W pa em pp pr) (o:Obj):Mk n0 F wd (W.alloc o) pa em pp pr:=by
 have j:=Zu (fun _=>True) W o;refine ⟨h.lo,h.bel.alloc h.size _,h.f,fun v c i=>(h.a v c i).alloc o,fun m v c i g y => ?_,fun u q d=>(h.p u q d).alloc o,fun x q d => ?_⟩
 ·have:=h.e m v c i g y;exact (j.block g (Xq.1 this).1 trivial).trans this
 ·obtain ⟨g,t,l,n⟩:=h.r x q d;exact ⟨g,t,(j.block g (Xq.1 l).1 trivial).trans l,n⟩
theorem Mk.stE (h:Mk n0 F wd W none em pp pr):Mk n0 F wd (W.alloc (.cells #[] 100)) (some (.slice (some ⟨W.heap.size,0,none⟩) 0 0,[])) true pp pr:=by
 have a:=h.alloc (.cells #[] 100);refine ⟨a.lo,a.bel,a.f,fun v d c => ?_,fun _ v d c g e => ?_,a.p,a.r⟩
 ·cases c
  exact ZC.lit0 _ _ _ h.size
 ·cases c
  cases e
  exact heap_alloc_new _ _
theorem Mk.stP (h:Mk n0 F wd W pa em none pr) (z:Int) {d:List Int} (j:ZB Zbk F wd zv d):Mk n0 F wd (W.alloc (.cells #[.int .i64 z,zv] 125)) pa em (some (.slice (some ⟨W.heap.size,0,none⟩) 1 1,(z,d))) pr:=by
 have c:=h.alloc (.cells #[.int .i64 z,zv] 125);have i:ZB Zbk F (W.alloc (.cells #[.int .i64 z,zv] 125)) zv d:=ZB.keep (ZB.keep j (Ziz h.bel |>.mono fun b l=>h.f b l) fun _ _ h=>h) (Zu _ _ _) fun _ _ h=>h;refine ⟨c.lo,c.bel,c.f,c.a,c.e,fun u q m => ?_,c.r⟩;cases m
 refine ⟨[[.int .i64 z,zv]],?_,Zbq.single (Zll.2 ⟨_,rfl,i⟩)⟩;have:=World.ownsRow_lit (e:=125) (base:=n0) (size:=2) W #[.int .i64 z,zv] 1 h.size (by unfold maxLen;omega) rfl;exact this
theorem Mk.stR {q:Zdm} (h:Mk n0 F wd W pa em (some (u,q)) none) (s:Xu):Mk n0 F wd (W.alloc (.cells #[.string ⟨s.toArray⟩,u] 100)) pa em (some (u,q)) (some (.slice (some ⟨W.heap.size,0,none⟩) 1 1,(s,u))):=by
 have c:=h.alloc (.cells #[.string ⟨s.toArray⟩,u] 100);refine ⟨c.lo,c.bel,c.f,c.a,c.e,c.p,fun x r d => ?_⟩;cases d
 exact ⟨_,rfl,heap_alloc_new _ _,(h.p u q rfl).any.oneCell⟩
theorem Mk.doE {N K:Act->World->Prop} {a:Act} (h:Mk n0 F wd W none em pp pr) (f:RT.Way (∀c w',Kep (fun b=>b<n0) W w'->N c w'->K c w'))
  (e:∀d,Mk n0 F wd d (some (.slice (some ⟨W.heap.size,0,none⟩) 0 0,[])) true pp pr->N a d):K a (W.alloc (.cells #[] 100)):=f.z _ _ (Zu _ _ _) (e _ h.stE)
theorem Mk.doP {N K:Act->World->Prop} {a:Act} (h:Mk n0 F wd W pa em none pr) {z:Int} {c:List Int} (f:ZB Zbk F wd zv c) (i:RT.Way (∀d w',Kep (fun b=>b<n0) W w'->N d w'->K d w'))
  (j:∀e,Mk n0 F wd e pa em (some (.slice (some ⟨W.heap.size,0,none⟩) 1 1,(z,c))) pr->N a e):K a (W.alloc (.cells #[.int .i64 z,zv] 125)):=i.z _ _ (Zu _ _ _) (j _ (h.stP z f))
theorem Mk.doR {N K:Act->World->Prop} {a:Act} {q:Zdm} (h:Mk n0 F wd W pa em (some (u,q)) none) (f:RT.Way (∀c w',Kep (fun b=>b<n0) W w'->N c w'->K c w'))
  (e:∀d,Mk n0 F wd d pa em (some (u,q)) (some (.slice (some ⟨W.heap.size,0,none⟩) 1 1,(s,u)))->N a d):K a (W.alloc (.cells #[.string ⟨s.toArray⟩,u] 100)):=f.z _ _ (Zu _ _ _) (e _ (h.stR s))
theorem Zy6 {B C:Nat} {w:World} {v:Value} {ps:List Zdm} {c:List ZgO} (h:ZC Zdp 125 B S w u ps) (k:ZCk C w v c) (f:u.ownBlock=some g):v.ownBlock≠some g:=fun e=>by
 obtain ⟨_,_,c1,f1,d⟩:=h.cells f;obtain ⟨_,_,c2,f2,a⟩:=k.cells e;rw [d] at a;simp only [Xx,Obj.cells.injEq] at a;exact absurd a.2.1 (by decide)
theorem Mk.app {v:Value} {d:List ZgO} (h:Mk n0 F wd W (some (v,d)) em pp pr) {a:Act} {K:Act->World->Prop} {Q:Exit->Act->World->Prop} (s x:Operand)
  (H:o.op=.call { callee:=.builtin .append,args:=#[s,x],argTypes:=#[41,41] }) (hs:a.eval s=v) {src:Value} {z:List ZgO} (I:a.eval x=src) (n:ZCl W src z) (hl:d.length+z.length<=1000000000000)
  (N:∀v' l,Mk n0 F wd l (some (v',d++z)) false pp (cond em pr none)->Kep (fun b=>b<n0) W l->K (a.put o.dst v') l):o.wp prog a W K Q:=by
 have c:=h.a v d rfl;refine ZpO ZDj s x H n0 v d hs c (fun b _ t=>t.elim) src z I n (by unfold maxLen;omega) (by omega) h.size fun v' l A j m => ?_;refine N v' l ⟨h.lo,h.bel.trans j,h.f,fun u ys O=>(by cases O;exact A),fun G=>(by cases G),fun u q i => ?_,fun y q i => ?_⟩ (Ziz j)
 ·have D:=h.p u q i;exact D.keep (m.mono fun b t=>t) (fun b t E e=>by have:=h.f b E;have:=(c.cells e).1;omega) fun g L=>Zy6 D c L
 ·cases em with
  | false=>cases i
  | true =>
    have i:pr=some (y,q):=i;obtain ⟨g,J,C,M⟩:=h.r y q i;refine ⟨g,J,(m.block g (Xq.1 C).1 fun e => ?_).trans C,M⟩;have:=h.e rfl v d rfl g e;rw [C] at this;simp at this
theorem Mk.src {x:Value} {q:ZgO} (h:Mk n0 F wd W pa em pp (some (x,q))):ZCl W x [q]:=by
 obtain ⟨g,rfl,e,d⟩:=h.r x q rfl;refine ⟨_,1,[[.string ⟨q.1.toArray⟩,q.2]],rfl,Xa _,(fun h=>by cases h),⟨rfl,fun i hi c => ?_⟩,.inr ⟨g,0,rfl,fun j u a => ?_⟩⟩
 ·obtain rfl:i=0:=(by simpa using hi);exact Zgq.2 ⟨rfl,d⟩
 ·rw [Xbp] at a;rw [XL,cell_of_row W g j _ _ _ e];simpa using a
variable {B : Nat} {w w' : World} {v : Value} {us : List Value} {rows : List ZgP}
abbrev RAt (B:Nat) (w:World) (v:Value) (us:List Value) (rows:List ZgP):Prop:=RowsAt Zdp 100 125 B w v us rows
theorem Zf0 {a w c:World} (h:Below a.heap.size a w) (k:Below w.heap.size w c):Below a.heap.size a c:=h.trans (k.mono h.size)
theorem RAt.row (h:RAt B w v us rows):ZF Zpz w v rows:=RowsAt.any h
theorem RAt.low {α:Type} {C:Codec α} {a:List α} (h:RAt B w v us rows) (d:ZB C (fun b=>ZdR v us b) w zv a):ZB C (fun b=>b<w.heap.size/\ZdR v us b) w zv a:=ZB.weak d fun b c hf=>⟨c,hf⟩
theorem RAt.start (h:RAt B w v us rows):Mk w.heap.size (fun b=>b<w.heap.size/\ZdR v us b) w w none true none none:=Mk.start _ w fun _ h=>h.1
theorem RAt.old (h:RAt B w v us rows):Ze0 Zki w.heap.size w v (List.zip (rows.map (·.1)) us):=ZF.bel h.outer.any
theorem RAt.made {q:Zdm} {em:Bool} {pr:Option (Value×ZgO)} (h:RAt B w v us rows) (e:k<=rows.length) (d:B<=w.heap.size)
  (c:Mk w.heap.size (fun b=>b<w.heap.size/\ZdR v us b) w w' (some (v',(List.zip (rows.map (·.1)) us).take k++[(s,u)]++(List.zip (rows.map (·.1)) us).drop k)) em (some (u,q)) pr) :
  RAt B w' v' (us.take k++u::us.drop k) (rows.take k++(s,[q])::rows.drop k) :=
 RowsAt.ins h e d (c.a _ _ rfl) (c.p _ _ rfl) c.bel
theorem Zx2 {n0:Nat} (hb:b<n0) (h:ZdR v us b) (d:∀g,v'.ownBlock=some g->n0<=g) (c:∀g,u.ownBlock=some g->n0<=g):ZdR v' (us.take k++u::us.drop k) b :=
 ⟨fun e=>by have:=d b e;omega,fun x a e=>by
  rcases Xam.1 a with a|a
  ·exact h.2 x (Xaq a) e
  ·rcases XT.1 a with rfl|a
   ·have:=c b e;omega
   ·exact h.2 x (XaX a) e⟩
theorem RAt.owns (h:RAt B w v us rows) (f:k<us.length) (e:k<rows.length):Zbj Zdp 125 (fun b=>ZdR v us b) w us[k] rows[k].2:=by
 obtain ⟨d,i,m⟩:=h.inner k f e;refine ⟨d,⟨i.1,?_⟩,m,fun g j hf=>hf.2 _ (XI f) j⟩;rcases i.2 with l|⟨g,c,a,n,j,rest⟩
 ·exact .inl l
 ·exact .inr ⟨g,c,a,n,XX _,rest⟩
theorem RAt.hits (h:RAt B w v us rows) (hB:B<=w.heap.size) (m:k<us.length) (l:k<rows.length) {es:List Zdm} (y:Zbj Zdp 125 (fun b=>ZdR v us b/\b<w.heap.size) w' u' es)
  (f:Kep (fun b=>us[k].ownBlock≠some b) w w') (c:∀g,u'.ownBlock=some g->us[k].ownBlock=some g\/w.heap.size<=g) {g n i:Nat} (x:v=.slice (some ⟨g,0,none⟩) n i) :
  RAt B (w'.setCell ⟨g,k*2+1,none⟩ u') v (us.set k u') (rows.set k (rows[k].1,es)):=by
 refine RowsAt.hit (by decide) h m l ?_ f c x;obtain ⟨j,q,z,h3⟩:=y;refine ⟨j,⟨q.1,?_⟩,z.keep (Kep.refl _ _) fun b _ r=>⟨r.2,r.1⟩⟩;rcases q.2 with t|⟨p,cap',d,a,hg,rest⟩
 ·exact .inl t
 ·refine .inr ⟨p,cap',d,a,?_,rest⟩;rcases c p (by rw [a];rfl) with e|e
  ·exact (h.ilt m e).1
  ·omega
theorem ZBr {d:List ZgO} {n c:Nat} (h:ZCk B w (.slice (some ⟨g,0,none⟩) n c) d) (j:Nat):w.frozen? ⟨g,j,none⟩=false:=by
 obtain ⟨f,i,_⟩:=h;rcases i.2 with ⟨e,_⟩|⟨g',cap',a,m,_,l,_⟩
 ·cases e
 ·cases m
  exact frozen_of_row w g j a _ l
theorem Zx3 (f:k<us.length) {n0:Nat} (hb:b<n0) (h:ZdR v us b) (c:∀g,u'.ownBlock=some g->us[k].ownBlock=some g\/n0<=g):ZdR v (us.set k u') b :=
 ⟨h.1,fun u a e=>by
  rcases List.mem_or_eq_of_mem_set a with a|rfl
  ·exact h.2 u a e
  ·rcases c b e with d|d
   ·exact h.2 _ (XI f) d
   ·omega⟩
