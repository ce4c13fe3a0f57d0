import Derived.Test.YtdijhifdjbnkfaaGreatZT21
import Derived.Test.YtdijhifdjbnkfaaGreatZT31
import Derived.Test.YtdijhifdjbnkfaaGreatZT9
set_option maxRecDepth 100000
set_option maxHeartbeats 0
set_option linter.unusedVariables false
set_option linter.unusedSimpArgs false
namespace Go.Proofs.YtdijhifdjbnkfaaGreat
open Lib (hid)
open Tryz
namespace SG
open RowKit MM EM GB TR
open GM (Zn Zfg Zfh Z9 Zga Zb2)
open DT (ZbT Zio Zuv)
open PM (isL)
def Zz1 (rows:List (EM.Tr ZdS)) (w:World) (e:Ending) (w':World):Prop:=∃u x,e=.returned (.tuple #[u,x])/\Zd w.heap.size w' u (Zn rows)/\ZN ZbT w' x (Z9 0 rows)/\Below w.heap.size w w'
theorem ZAl (S:Nat->Prop) (w:World) (x:DM.ZQ):Zdk ZbT S (w.alloc (.cells #[.string ⟨x.1.toArray⟩,.int .i64 x.2.1,.int .i64 x.2.2.1,.int .i64 x.2.2.2] 102)) (.slice (some ⟨w.heap.size,0,none⟩) 1 1) [x]:=Zby 102 (Zio.2 rfl)
theorem Zip {B C:Nat} {S:Nat->Prop} {w:World} {u x:Value} {L:Xu} {es:List DM.ZQ} (h:Zd C w u L) (k:Zz ZbT 102 B S w x es) {g:Nat} (b:x.ownBlock=some g):u.ownBlock≠some g:=fun e=>by
 obtain ⟨_,_,c1,f1,c⟩:=k.cells b;obtain ⟨_,c2,f2,a⟩:=Zbk h e;rw [c] at a;simp only [Xv,Obj.cells.injEq] at a;exact absurd a.2.1 (by decide)
theorem Zy5 (tv:Value) (B mb:Nat) (X:Nat->Prop) (F:Xu->Option Value) (rows:List (EM.Tr ZdS)) (w:World) (ht:Ze4 w tv (rows.map (·.1))) (hT:Tab B mb X rows F w)
  (o:∀r∈rows,r.2.length<=65536/\PM.ZaU r.2<=600000/\r.1.length<=65/\isL r.2=true/\r.2≠[]) (hl:rows.length<=100000) (hp:(Zn rows).length<=6000000) :
  Calls prog 78 #[tv,.map (some mb)] w (Zz1 rows w):=by
 obtain ⟨M,hM⟩:∃M:List Xu,rows.map (·.1)=M:=⟨_,rfl⟩;have ao:M.length=rows.length:=by rw [<- hM,XE]
 have aE:=hid (fun (k:Nat) (t:k<rows.length)=>(show ∃h:k<M.length,M[k]=rows[k].1 by subst hM;exact ⟨by simpa using t,by rw [XaA]⟩));rw [hM] at ht;obtain ⟨p,aQ,rfl,aB,aG⟩:=TIn.shape ht;rw [ao] at aB ht ⊢;unfold maxLen at aG;have HT:=hid hT;have aK:=hid (TIn.mono ht (Xc _));have V:=hid o;have aw:=hid (fun (k:Nat) (t:k<rows.length)=>RM.ZdG hT.rise (XH t));have aN:=hid (fun (k:Nat) (t:k<rows.length)=>Zfg t);have aC:=hid (fun (k:Nat) (t:k<rows.length)=>Zga t);have R:=hid (fun k=>Xx (Zfh rows k) hp);have aq:Hid (rows.take rows.length=rows):=hid (by rw [XC]);have ac:Hid (Zd w.heap.size w (.slice none 0 0) (Zn (rows.take 0))):=hid (World.ownsRow_nil _ _ _ _);have av:Hid (Zz ZbT 102 w.heap.size (fun _=>False) w (.slice none 0 0) (Z9 0 (rows.take 0))):=hid (Zz.nil_ _ _ _ _);clear hM ao ht hT o hp;go_enter func78,ntmps78;go_wp2_with fail
 go_loopw [4,5,12] (fun uv xv iv wr=>∃k:Nat,k<=rows.length/\iv=.int .i64 k/\Hid (Zd w.heap.size wr uv (Zn (rows.take k)))/\Hid (Zz ZbT 102 w.heap.size (fun _=>False) wr xv (Z9 0 (rows.take k)))/\Hid (Below w.heap.size w wr)) (fun _ _ iv _=>rows.length - (intOf iv).toNat)
 case atStart=>exact ⟨0,by omega,rfl,ac,av,hid (Below.refl _ _)⟩
 case round =>
  obtain ⟨k,t,rfl,HU,HX,L⟩:=hrel;clear ac av
  by_cases a:k<rows.length
  ·have t1:decide ((k:Int)<(rows.length:Int))=true:=by simp;omega
   have t2:decide (k<rows.length)=true:=Xw a;have t3:(k:Int)<(rows.length:Int):=by omega
   obtain ⟨U,N⟩:=aE.out k a;obtain ⟨b,off,rfl,aO,c0⟩:=TIn.at_ (TIn.below aK.out L.out) U;rw [N] at c0;obtain ⟨h1,h2,h3,h4,h5⟩:=V.out _ (XH a);have f:=aw.out k a;have d:=aN.out k a;have c:=aC.out k a;have ae:=R.out (k+1);have ah:=R.out k;have C:=Zb2 (rows.take k) 0;rw [Xi,Xao (by omega)] at C;obtain ⟨⟨s,ps⟩,hr⟩:∃r,rows[k]=r:=⟨_,rfl⟩;rw [hr] at c0 h1 h2 h3 h4 h5 f d c;dsimp only at c0 h1 h2 h3 h4 h5 f d c;have af:s.length<=maxLen:=by unfold maxLen;omega
   have n:=HT.out.below L.out;have j:=n.found s;rw [f] at j;obtain ⟨fv,ak⟩:=Xn (found F s);have lk:=n.look s af;have H:=hid (fun W (hW:Below wr.heap.size wr W)=>(n.below hW).look s af);rw [ak] at j lk H;obtain ⟨pf,cf,rfl,_⟩:=(Zbf.any j.1).shape;have HC:=hid (PW.Zem _ ps wr (ZtP (Zbf.any j.1)) (by omega) (by omega));have he:PW.encR ps=(PM.ZV ps,0):=by unfold PW.encR;rw [Xe h4]
   rw [he] at HC
   have G:PM.ZV ps≠[]:=fun e=>by
    have h:=(VM.Zc ps.length).1;have h':=Xp List.length e;unfold PM.ZV at h';simp only [Xd,Xm] at h';omega
   obtain ⟨E,hE⟩:=Xn (PM.ZV ps);rw [hE] at HC d c G;rw [d,Xd] at ae;obtain ⟨J,an⟩:=Xn (Zn (rows.take k));obtain ⟨E0,au⟩:=Xn (Z9 0 (rows.take k));have q:=HU.out;have u:=HX.out;rw [an] at q d c ae ah;rw [au] at u c C;obtain ⟨pu,cu,rfl,_⟩:=(Zd.brow q).shape;obtain ⟨px,cx,aj,_⟩:=u.any.shape;rw [C] at aj;subst aj;have ag:=hid q;have T:=hid u;have ap:=hid d;have ai:=hid c;have aL:=hid G;have aJ:Hid (w.heap.size<=wr.heap.size):=hid L.out.size;have az:=hid a;clear q u n j ak f d c G hE an au he hr U N h2 h3 h4 h5 HU HX a;go_wp2_with fail;refine HC.out.mono ?_;rintro e y ⟨v2,rfl,l,i⟩;have l:Zd wr.heap.size y v2 E:=l;obtain ⟨p2,c2,rfl,_⟩:=(Zd.brow l).shape;have aP:=H.out y i;have m:Below y.heap.size y (y.alloc (.cells #[.string ⟨s.toArray⟩,.int .i64 (J.length:Int),.int .i64 (E.length:Int),.int .i64 (ps.length:Int)] 102)):=(Below.refl _ _).alloc (Xc _) _;have aM:=aJ.out;have z:=hid ((T.out.keep (Za (fun _=>True) i) (fun _ _ _=>trivial) (fun _ _=>trivial)).alloc (.cells #[.string ⟨s.toArray⟩,.int .i64 (J.length:Int),.int .i64 (E.length:Int),.int .i64 (ps.length:Int)] 102));have Z:=hid ((ag.out.keep i).keep m);have am:=hid (l.keep m);have aa:=hid ((L.out.trans (i.mono aM)).trans (m.mono (by have:=i.size;omega)));have al:=hid (ZAl (fun _=>False) y (s,((J.length:Int),((E.length:Int),(ps.length:Int)))));have ax:Hid (w.heap.size<=(y.alloc (.cells #[.string ⟨s.toArray⟩,.int .i64 (J.length:Int),.int .i64 (E.length:Int),.int .i64 (ps.length:Int)] 102)).heap.size):=hid aa.out.size;clear l i m HC H T ag lk L;go_wp2_with (first|(at_builtin;go_loud (refine Zf Zuv rfl _ _ rfl w.heap.size _ E0 rfl z.out (fun b _ hb=>hb.elim) _ [(s,((J.length:Int),((E.length:Int),(ps.length:Int))))] rfl al.out (by unfold maxLen;simp only [Xaf];omega) (by simp only [Xaf];omega) ax.out ?_;intro v4 w4 x ad D;rw [<- ai.out] at x;have ab:=hid x;have v:=hid (Zd.kepOwn Z.out D fun g Y e=>Zip Z.out z.out e Y);have aH:=hid (Zd.brow (Zd.kepOwn am.out D fun g Y e=>Zip am.out z.out e Y));have S:=hid (aa.out.trans ad);clear x ad D))|(at_builtin;go_loud (refine Zl rfl _ _ rfl _ J rfl (Zd.zero v.out) _ E rfl aH.out aL.out (by omega) ?_;intro v5 w5 ar I;obtain ⟨A,O⟩:=Zb3 S.out.size v.out I ar;rw [<- ap.out] at A;have aI:=hid A;have aA:=hid (ab.out.keep I.kep (fun _ _ h=>h.elim) fun g Y e=>Zip v.out ab.out Y e);have aF:=hid (S.out.trans O);clear ar I A O)))
   have a:=az.out;go_roundw
   case rel=>exact ⟨k+1,by omega,by go_num,aI,aA,aF⟩
   case measure=>simp [intOf];omega
  ·obtain rfl:k=rows.length:=by omega
   have t1:decide ((rows.length:Int)<(rows.length:Int))=false:=by simp
   have q:=HU.out;have u:=HX.out;rw [aq.out] at q u;have ay:=hid q;have aD:=hid u.any;clear HU HX q u a;go_wp2_with fail;go_ret2;exact ⟨_,_,rfl,ay.out,aD.out,L.out⟩
open RowKit MM
variable {S:Nat->Prop} {o:Oper} {zv u v' u':Value} {s:Xu} {g k b:Nat}
theorem ZC5:Elem Zkc prog 41 100 40:=⟨underlying41,by
 have h:(prog.info? 100).map (fun i=>(i.zero,i.size,i.bytes))=some (some (.agg #[.string ⟨#[]⟩,.slice none 0 0]),2,40):=by kernel_rfl
 obtain ⟨i,c,d,a,e⟩:=info_parts h;exact ⟨i,_,c,d,a,e,rfl⟩⟩
theorem Zpv {α:Type} {C:Codec α} {P:Program} {T e:TypeId} {c:Nat} (E:Elem C P T e c) {w:World} {a:Act} {K:Act->World->Prop} {Q:Exit->Act->World->Prop} (s x:Operand)
  (ho:o.op=.call { callee:=.builtin .append,args:=#[s,x],argTypes:=#[T,T] }) (B:Nat) (v:Value) (es:List α) (hs:a.eval s=v) (d:Zz C e B S w v es) (hS:∀b,b<w.heap.size->S b->Apt e B w b)
  (src:Value) (q:List α) (hx:a.eval x=src) (hr:Zdk C S w src q) (y:es.length+q.length<=maxLen) (hby:(es.length+q.length)*c<=140737488355328) (f:B<=w.heap.size)
  (h:∀v' w',Zz C e B S w' v' (es++q)->Below B w w'->Kep (fun k=>v.ownBlock≠some k) w w'->K (a.put o.dst v') w'):o.wp P a w K Q:=by
 obtain ⟨p,V,l,rfl,h1,h3,G,t⟩:=hr;obtain ⟨i,z,hi,hz,L,I,R⟩:=E.info;cases p with
 | none =>
   have h0:=h3 rfl;subst h0;have hd:q=[]:=XO (by omega);subst hd;obtain ⟨n,D,X⟩:=id d;have A:=run_append_owned_none (P:=P) (w:=w) B T o.type e i C.size E.under hi v es.length _ D;have m:=h v w (by rw [XI];exact d) (Below.refl _ _) (Kep.refl _ _);have U:a.eval x=.slice none 0 0:=hx;unfold Oper.wp;simp [execOp,ho,resolve,invoke,builtin,hs,U,A,Result.andThen];exact m
 | some Z =>
   obtain ⟨n,D,X⟩:=d;have M:∀k,v.ownBlock=some k->B<=k:=fun k m=>(World.ownsRow.lt D k m).1;have hl:l.flatten.length=q.length*C.size:=by rw [ZeQ G.lens,G.1]
   refine wp_append_own _ s x T ho B e i z C.size c E.under hi hz L I R C.pos v es.length _ hs D Z q.length V l.flatten hx hl ?_ G.ones y hby f (fun v' w' h4 J _ => ?_)
   ·intro j u Y;rcases t with t|⟨b,off,he,t⟩
    ·subst t;have:l=[]:=XO (by rw [G.1];rfl);subst this;simp at Y
    ·obtain rfl:Z=⟨b,off,none⟩:=XP he;rw [ZY];exact t j u Y
   ·have r:Below B w w':=(Below.refl B _).grown J f M;have m:Kep (Apt e B w) w w':=ZM J fun k m hA=>Zc1 D hA m;refine h v' w' ⟨n++l,?_,?_⟩ r (ZM J fun k m O=>O m)
    ·rw [Xd,XaO];exact h4
    ·have H:=X.append G;refine ⟨H.1,fun i hi N => ?_⟩;exact C.keep (C.keep (H.2 i hi N) (Kep.refl _ _) (T:=fun b=>S b/\b<w.heap.size) fun b r hs=>⟨hs,r⟩) (m.mono' (T:=fun b=>S b/\b<w.heap.size) fun b r hs=>hS b r hs.1) fun b r hs=>hs.1
abbrev ZB2 (B:Nat) (w:World) (v:Value) (a:List ZgS):Prop:=Zz Zkc 100 B (fun _=>False) w v a
abbrev ZB3 (w:World) (v:Value) (a:List ZgS):Prop:=Zdk Zkc (fun _=>False) w v a
theorem ZtQ {w:World} {v:Value} {f:List ZgS} (h:ZD Zkc S w v f):ZB3 w v f:=by
 obtain ⟨p,d,a,l,n,m,e,j⟩:=h.src;exact ⟨p,d,a,l,n,m,⟨e.1,fun i hi c=>Zgv.2 (Zgv.1 (e.2 i hi c))⟩,j⟩
structure Mk (n0:Nat) (F:Nat->Prop) (wd W:World) (pa:Option (Value×List ZgS)) (em:Bool) (pp:Option (Value×ZdS)) (pr:Option (Value×ZgS)):Prop where
 lo:n0<=wd.heap.size
 bel:Below n0 wd W
 f:∀b,F b->b<n0
 a:∀v zs,pa=some (v,zs)->ZB2 n0 W v zs
 e:em=true->∀v zs,pa=some (v,zs)->∀g,v.ownBlock=some g->W.heap[g]? = some (.cells #[] 100 (0,0))
 p:∀u q,pp=some (u,q)->Zz Zd2 125 n0 F W u [q]
 r:∀x q,pr=some (x,q)->∃g,x=.slice (some ⟨g,0,none⟩) 1 1/\W.heap[g]? = some (.cells #[.string ⟨q.1.toArray⟩,q.2] 100 (0,0))/\q.2.oneCell'=true
variable {n0 : Nat} {F : Nat -> Prop} {wd W : World} {pa : Option (Value × List ZgS)} {em : Bool} {pp : Option (Value × ZdS)} {pr : Option (Value × ZgS)}
theorem Mk.start (F:Nat->Prop) (wd:World) (a:∀b,F b->b<wd.heap.size):Mk wd.heap.size F wd wd none true none none :=
 ⟨Xc _,Below.refl _ _,a,fun _ _ h=>(by cases h),fun _ _ _ h=>(by cases h),fun _ _ h=>(by cases h),fun _ _ h=>(by cases h)⟩
theorem Mk.size (h:Mk n0 F wd W pa em pp pr):n0<=W.heap.size:=Xx h.lo h.bel.size
theorem Mk.alloc (h:Mk n0 F wd W pa em pp pr) (o:Obj):Mk n0 F wd (W.alloc o) pa em pp pr:=by
 have j:=Zr (fun _=>True) W o;refine ⟨h.lo,h.bel.alloc h.size _,h.f,fun v d i=>(h.a v d i).alloc o,fun m v d i g n => ?_,fun u q c=>(h.p u q c).alloc o,fun x q c => ?_⟩
 ·have:=h.e m v d i g n;exact (j.block g (Xo.1 this).1 trivial).trans this
 ·obtain ⟨g,t,l,y⟩:=h.r x q c;exact ⟨g,t,(j.block g (Xo.1 l).1 trivial).trans l,y⟩
theorem Mk.stE (h:Mk n0 F wd W none em pp pr):Mk n0 F wd (W.alloc (.cells #[] 100)) (some (.slice (some ⟨W.heap.size,0,none⟩) 0 0,[])) true pp pr:=by
 have a:=h.alloc (.cells #[] 100);refine ⟨a.lo,a.bel,a.f,fun v e c => ?_,fun _ v e c g d => ?_,a.p,a.r⟩
 ·cases c
  exact Zz.lit0 _ _ _ h.size
 ·cases c
  cases d
  exact heap_alloc_new _ _
theorem Mk.stP (h:Mk n0 F wd W pa em none pr) (z:Int) {d:List Int} (m:ZD Zbw F wd zv d):Mk n0 F wd (W.alloc (.cells #[.int .i64 z,zv] 125)) pa em (some (.slice (some ⟨W.heap.size,0,none⟩) 1 1,(z,d))) pr:=by
 have c:=h.alloc (.cells #[.int .i64 z,zv] 125);have i:ZD Zbw F (W.alloc (.cells #[.int .i64 z,zv] 125)) zv d:=ZD.keep (ZD.keep m (Ziu h.bel |>.mono fun b l=>h.f b l) fun _ _ h=>h) (Zr _ _ _) fun _ _ h=>h;refine ⟨c.lo,c.bel,c.f,c.a,c.e,fun u q j => ?_,c.r⟩;cases j
 refine ⟨[[.int .i64 z,zv]],?_,Zbs.single (Zlj.2 ⟨_,rfl,i⟩)⟩;have:=World.ownsRow_lit (e:=125) (base:=n0) (size:=2) W #[.int .i64 z,zv] 1 h.size (by unfold maxLen;omega) rfl;exact this
theorem Mk.stR {q:ZdS} (h:Mk n0 F wd W pa em (some (u,q)) none) (s:Xu):Mk n0 F wd (W.alloc (.cells #[.string ⟨s.toArray⟩,u] 100)) pa em (some (u,q)) (some (.slice (some ⟨W.heap.size,0,none⟩) 1 1,(s,u))):=by
 have c:=h.alloc (.cells #[.string ⟨s.toArray⟩,u] 100);refine ⟨c.lo,c.bel,c.f,c.a,c.e,c.p,fun x r d => ?_⟩;cases d
 exact ⟨_,rfl,heap_alloc_new _ _,(h.p u q rfl).any.oneCell⟩
theorem Mk.doE {N K:Act->World->Prop} {a:Act} (h:Mk n0 F wd W none em pp pr) (e:RT.Way (∀d w',Kep (fun b=>b<n0) W w'->N d w'->K d w'))
  (f:∀c,Mk n0 F wd c (some (.slice (some ⟨W.heap.size,0,none⟩) 0 0,[])) true pp pr->N a c):K a (W.alloc (.cells #[] 100)):=e.out _ _ (Zr _ _ _) (f _ h.stE)
theorem Mk.doP {N K:Act->World->Prop} {a:Act} (h:Mk n0 F wd W pa em none pr) {z:Int} {e:List Int} (i:ZD Zbw F wd zv e) (j:RT.Way (∀d w',Kep (fun b=>b<n0) W w'->N d w'->K d w'))
  (f:∀c,Mk n0 F wd c pa em (some (.slice (some ⟨W.heap.size,0,none⟩) 1 1,(z,e))) pr->N a c):K a (W.alloc (.cells #[.int .i64 z,zv] 125)):=j.out _ _ (Zr _ _ _) (f _ (h.stP z i))
theorem Mk.doR {N K:Act->World->Prop} {a:Act} {q:ZdS} (h:Mk n0 F wd W pa em (some (u,q)) none) (e:RT.Way (∀d w',Kep (fun b=>b<n0) W w'->N d w'->K d w'))
  (f:∀c,Mk n0 F wd c pa em (some (u,q)) (some (.slice (some ⟨W.heap.size,0,none⟩) 1 1,(s,u)))->N a c):K a (W.alloc (.cells #[.string ⟨s.toArray⟩,u] 100)):=e.out _ _ (Zr _ _ _) (f _ (h.stR s))
theorem ZyE {B C:Nat} {w:World} {v:Value} {ps:List ZdS} {d:List ZgS} (h:Zz Zd2 125 B S w u ps) (k:ZB2 C w v d) (c:u.ownBlock=some g):v.ownBlock≠some g:=fun e=>by
 obtain ⟨_,_,c1,f1,f⟩:=h.cells c;obtain ⟨_,_,c2,f2,a⟩:=k.cells e;rw [f] at a;simp only [Xv,Obj.cells.injEq] at a;exact absurd a.2.1 (by decide)
theorem Mk.app {v:Value} {i:List ZgS} (h:Mk n0 F wd W (some (v,i)) em pp pr) {a:Act} {K:Act->World->Prop} {Q:Exit->Act->World->Prop} (s x:Operand)
  (I:o.op=.call { callee:=.builtin .append,args:=#[s,x],argTypes:=#[41,41] }) (hs:a.eval s=v) {src:Value} {z:List ZgS} (L:a.eval x=src) (l:ZB3 W src z) (hl:i.length+z.length<=1000000000000)
  (N:∀v' j,Mk n0 F wd j (some (v',i++z)) false pp (cond em pr none)->Kep (fun b=>b<n0) W j->K (a.put o.dst v') j):o.wp prog a W K Q:=by
 have c:=h.a v i rfl;refine Zpv ZC5 s x I n0 v i hs c (fun b _ t=>t.elim) src z L l (by unfold maxLen;omega) (by omega) h.size fun v' j C n m => ?_;refine N v' j ⟨h.lo,h.bel.trans n,h.f,fun u ys M=>(by cases M;exact C),fun J=>(by cases J),fun u q d => ?_,fun y q d => ?_⟩ (Ziu n)
 ·have D:=h.p u q d;exact D.keep (m.mono fun b t=>t) (fun b t E e=>by have:=h.f b E;have:=(c.cells e).1;omega) fun g G=>ZyE D c G
 ·cases em with
  | false=>cases d
  | true =>
    have d:pr=some (y,q):=d;obtain ⟨g,O,A,H⟩:=h.r y q d;refine ⟨g,O,(m.block g (Xo.1 A).1 fun e => ?_).trans A,H⟩;have:=h.e rfl v i rfl g e;rw [A] at this;simp at this
theorem Mk.src {x:Value} {q:ZgS} (h:Mk n0 F wd W pa em pp (some (x,q))):ZB3 W x [q]:=by
 obtain ⟨g,rfl,e,d⟩:=h.r x q rfl;refine ⟨_,1,[[.string ⟨q.1.toArray⟩,q.2]],rfl,Xc _,(fun h=>by cases h),⟨rfl,fun i hi c => ?_⟩,.inr ⟨g,0,rfl,fun j u a => ?_⟩⟩
 ·obtain rfl:i=0:=(by simpa using hi);exact Zgv.2 ⟨rfl,d⟩
 ·rw [Xbo] at a;rw [XL,cell_of_row W g j _ _ _ e];simpa using a
variable {B : Nat} {w w' : World} {v : Value} {us : List Value} {rows : List Znf}
abbrev RAt (B:Nat) (w:World) (v:Value) (us:List Value) (rows:List Znf):Prop:=RowsAt Zd2 100 125 B w v us rows
theorem Zf4 {a w c:World} (h:Below a.heap.size a w) (k:Below w.heap.size w c):Below a.heap.size a c:=h.trans (k.mono h.size)
theorem RAt.row (h:RAt B w v us rows):ZN Zy2 w v rows:=RowsAt.any h
theorem RAt.low {α:Type} {C:Codec α} {a:List α} (h:RAt B w v us rows) (c:ZD C (fun b=>ZdR v us b) w zv a):ZD C (fun b=>b<w.heap.size/\ZdR v us b) w zv a:=ZD.weak c fun b d e=>⟨d,e⟩
theorem RAt.start (h:RAt B w v us rows):Mk w.heap.size (fun b=>b<w.heap.size/\ZdR v us b) w w none true none none:=Mk.start _ w fun _ h=>h.1
theorem RAt.old (h:RAt B w v us rows):ZgP Zkc w.heap.size w v (List.zip (rows.map (·.1)) us):=ZN.bel h.outer.any
theorem RAt.made {q:ZdS} {em:Bool} {pr:Option (Value×ZgS)} (h:RAt B w v us rows) (e:k<=rows.length) (d:B<=w.heap.size)
  (c:Mk w.heap.size (fun b=>b<w.heap.size/\ZdR v us b) w w' (some (v',(List.zip (rows.map (·.1)) us).take k++[(s,u)]++(List.zip (rows.map (·.1)) us).drop k)) em (some (u,q)) pr) :
  RAt B w' v' (us.take k++u::us.drop k) (rows.take k++(s,[q])::rows.drop k) :=
 RowsAt.ins h e d (c.a _ _ rfl) (c.p _ _ rfl) c.bel
theorem Zxy {n0:Nat} (hb:b<n0) (h:ZdR v us b) (c:∀g,v'.ownBlock=some g->n0<=g) (d:∀g,u.ownBlock=some g->n0<=g):ZdR v' (us.take k++u::us.drop k) b :=
 ⟨fun e=>by have:=c b e;omega,fun x a e=>by
  rcases Xak.1 a with a|a
  ·exact h.2 x (Xaq a) e
  ·rcases XS.1 a with rfl|a
   ·have:=d b e;omega
   ·exact h.2 x (XaX a) e⟩
theorem RAt.owns (h:RAt B w v us rows) (i:k<us.length) (d:k<rows.length):Zbf Zd2 125 (fun b=>ZdR v us b) w us[k] rows[k].2:=by
 obtain ⟨c,j,m⟩:=h.inner k i d;refine ⟨c,⟨j.1,?_⟩,m,fun g f p=>p.2 _ (XH i) f⟩;rcases j.2 with l|⟨g,e,a,n,f,rest⟩
 ·exact .inl l
 ·exact .inr ⟨g,e,a,n,XU _,rest⟩
theorem RAt.hits (h:RAt B w v us rows) (hB:B<=w.heap.size) (m:k<us.length) (f:k<rows.length) {es:List ZdS} (y:Zbf Zd2 125 (fun b=>ZdR v us b/\b<w.heap.size) w' u' es)
  (j:Kep (fun b=>us[k].ownBlock≠some b) w w') (a:∀g,u'.ownBlock=some g->us[k].ownBlock=some g\/w.heap.size<=g) {g n l:Nat} (x:v=.slice (some ⟨g,0,none⟩) n l) :
  RAt B (w'.setCell ⟨g,k*2+1,none⟩ u') v (us.set k u') (rows.set k (rows[k].1,es)):=by
 refine RowsAt.hit (by decide) h m f ?_ j a x;obtain ⟨i,p,z,h3⟩:=y;refine ⟨i,⟨p.1,?_⟩,z.keep (Kep.refl _ _) fun b _ r=>⟨r.2,r.1⟩⟩;rcases p.2 with t|⟨q,cap',d,c,hg,rest⟩
 ·exact .inl t
 ·refine .inr ⟨q,cap',d,c,?_,rest⟩;rcases a q (by rw [c];rfl) with e|e
  ·exact (h.ilt m e).1
  ·omega
theorem ZA4 {i:List ZgS} {n c:Nat} (h:ZB2 B w (.slice (some ⟨g,0,none⟩) n c) i) (j:Nat):w.frozen? ⟨g,j,none⟩=false:=by
 obtain ⟨e,m,_⟩:=h;rcases m.2 with ⟨f,_⟩|⟨g',cap',a,l,_,d,_⟩
 ·cases f
 ·cases l
  exact frozen_of_row w g j a _ d
theorem Zxz (f:k<us.length) {n0:Nat} (hb:b<n0) (h:ZdR v us b) (c:∀g,u'.ownBlock=some g->us[k].ownBlock=some g\/n0<=g):ZdR v (us.set k u') b :=
 ⟨h.1,fun u a e=>by
  rcases List.mem_or_eq_of_mem_set a with a|rfl
  ·exact h.2 u a e
  ·rcases c b e with d|d
   ·exact h.2 _ (XH f) d
   ·omega⟩
