import Derived.Test.YtdijhifdjbnkfaaGreatZT22
import Derived.Test.YtdijhifdjbnkfaaGreatZT11
import Derived.Test.YtdijhifdjbnkfaaGreatZT27
set_option maxRecDepth 100000
set_option maxHeartbeats 0
set_option linter.unusedVariables false
set_option linter.unusedSimpArgs false
namespace Go.Proofs.YtdijhifdjbnkfaaGreat
open Lib (hid)
open Tryz
namespace RF
open RowKit
variable {a:Act} {w:World} {L:Nat} {ops:Array Oper}
variable {F : Fence} {n : Nat} {P : Program}
theorem ZtL {α:Type} {g:Operand} {ps:Array Tmp} {assign body:Code} {Q:Exit->Act->World->Prop}
  (aq:F.round=none) (h1:1<=n) {gf:Nat} {lb:Array Value} (hg:a.eval g=.func (.func gf) #[] lb) (hF:F.fn gf) (eg:∀args w,(callFunc gf args).run P w=.ok (.enter gf args) w)
  {k:α->Array Value} {n₀:Nat} {R:α->World->Prop} {S Sp:List α->Prop} {N:Nat} {w0:World} (ad:Zz3 F (n - 1) P gf lb k n₀ R S Sp N w0) (ag:Below w0.heap.size w0 w) (ay:n₀<=w.heap.size)
  (ax:∀x,(k x).size=ps.size) (I Ix:List α->World->Prop) (Y:OwnFrom w.heap.size I) (J:OwnFrom w.heap.size Ix) (hR:OwnFrom w.heap.size R) (h0:I [] w) (Ax:α->Act->World->Prop) (ai:∀z,OwnFrom w.heap.size (fun x W=>Ax x z W))
  (u:∀(l:Nat) (pre:List α) (x:α) (W:World) (K:Act->World->Prop),I pre W->R x W->(∀z X,KeepsFrom w.heap.size W X->Below n₀ W X->I pre X->R x X->Ax x z X->K z X) ->
   assign.wpIn (F.inRound l) (n - 1 - 1) P (Exit.then K (fun _ _ _=>False)) { tmps:=(ps.zip (k x)).foldl (fun t (p,v)=>t.setIfInBounds p v) a.tmps,defers:=[] } W)
  (T:∀(l:Nat) (pre:List α) (x:α) (z:Act) (W:World),w.heap.size<=W.heap.size->I pre W->R x W->Ax x z W->pre.length<N->body.wpIn (F.inRound l) (n - 1 - 1) P (Left w.heap.size n₀ I Ix (pre++[x]) W) z W)
  (M:∀(D:Nat) (xs:List α) (W:World),w.heap.size<=D->S xs->I xs W->W.heap[D]? = some (.deferred (some []))->Q .normal { a with defers:={ target:=.collected D,args:=#[] }::a.defers } W)
  (O:∀(D:Nat) (pre:List α) (W:World),w.heap.size<=D->Sp pre->Ix pre W->W.heap[D]? = some (.deferred (some []))->Code.ret.wpIn F n P Q { a with defers:={ target:=.collected D,args:=#[] }::a.defers } W) :
  (Code.rangeFunc g ps assign body).wpIn F n P Q a w:=by
 refine wpIn_rangeFunc fun fn av => ?_;rw [aq];obtain ⟨b,d⟩:∃b:LoopState->Option Code->Loop,∀st y,b st y={ state:=st,pending:=y,fn:=fn,tmps:=a.tmps,params:=ps,assign:=assign,body:=body,defers:=w.heap.size }:=⟨_,fun _ _=>rfl⟩;obtain ⟨V,C⟩:=Xn ((w.alloc (.deferred (some []))).alloc (.loop (b .ready none)))
 have ah:Books b w.heap.size .ready none V:=by
  subst C;refine ⟨?_,(Below.heap_alloc _ _ _ (by simp)).trans (World.alloc_heap_new w _)⟩;have:=World.alloc_heap_new (w.alloc (.deferred (some []))) (.loop (b .ready none))
  rwa [World.size_alloc] at this
 have ao:I [] V:=by subst C;exact Y.alloc _ (Y.alloc _ h0)
 have ap:Below w0.heap.size w0 V:=by subst C;exact ag.trans ((((Below.refl _ w).alloc (Xc _) _).alloc (by simp) _).mono ag.size)
 have o:∀{I':List α->World->Prop},OwnFrom w.heap.size I'->∀{st y},Zdn (fun pre W=>I' pre W/\Books b w.heap.size st y W):=fun h' _ _ s A B hs ab=>⟨h' s A B none hs.1 ab (fun r e=>by cases e),hs.2.grown ab⟩
 have G:∀{st:LoopState} {y:Option Code} (i:Option Code) (W:World),Books b w.heap.size st y W ->
   (Instr.endRound (w.heap.size+1) i).run P W=.ok (.bool i.isNone) (W.putObj (w.heap.size+1) (.loop (b (if i.isNone then .ready else .done) i))):=fun i W h=>by
  have:=run_endRound (P:=P) i h.loop;rw [d] at this ⊢;exact this
 have m:∀{st:LoopState} {y:Option Code} (W:World),st≠.busy->Books b w.heap.size st y W->(Instr.endLoop (w.heap.size+1)).run P W=.ok y (W.putObj (w.heap.size+1) (.loop (b .exhausted y))):=fun W ar h=>by
  have:=run_endLoop (P:=P) h.loop (by rw [d];exact ar);rw [d] at this ⊢;exact this
 refine ⟨w.heap.size+1,[{ target:=.collected w.heap.size,args:=#[] }],V,{ target:=.fn (.func gf) lb,args:=#[.func (.yield (w.heap.size+1)) #[] #[]] },V,gf,
  #[.func (.yield (w.heap.size+1)) #[] #[]]++lb,V,?_,?_,?_,?_,fun _=>h1,?_⟩
 ·rw [<- C,d];exact run_enterLoop_outer _ _ _ _ _
 ·simp only [resolve,hg];simp [go_sem]
 ·intro f' ac;simp [Target.leads] at ac;subst ac;exact hF
 ·simp [invoke,go_sem,eg]
 refine (ad (w.heap.size+1) (fun pre W=>I pre W/\Books b w.heap.size .ready none W) (fun pre W=>Ix pre W/\Books b w.heap.size .done (some .ret) W) V ap (o Y) (o J) ?_ ⟨ao,ah⟩).mono ?_
 ·rintro pre x A0 ⟨aj,E⟩ an aa;have hy:=run_yield (P:=P) (args:=k x) E.loop (by rw [d];exact ax x);rw [d] at hy;refine ⟨fn,_,assign,body,hy,roundIn_of_wpIn av (u _ pre x A0 _ aj an ?_)⟩;intro z A al af hi hx am;have c:=E.keeps al;have j:=run_beginRound (P:=P) c.loop (by rw [d]);have U:({ b .ready none with state:=.busy }:Loop)=b .busy none:=by rw [d,d]
  rw [U] at j;refine ⟨_,j,?_⟩;have q:Books b w.heap.size .busy none (A.putObj (w.heap.size+1) (.loop (b .busy none))):=c.turn;have ae:w.heap.size<=(A.putObj (w.heap.size+1) (.loop (b .busy none))).heap.size:=by have:=q.lt;omega
  refine wpIn_mono (T _ pre x z _ ae (Y.putObj _ hi (by omega) c.loop rfl) (hR.putObj _ hx (by omega) c.loop rfl) ((ai z).putObj (s:=x) _ am (by omega) c.loop rfl) aa) ?_;have au:Below n₀ A0 (A.putObj (w.heap.size+1) (.loop (b .busy none))):=af.trans (ZlJ _ _ (by omega) c.lt);rintro e a3 B Z;cases e with
  | normal =>
    obtain ⟨hk,ak,H⟩:=Z;have f:=q.keeps hk;exact ⟨_,_,G none B f,.inl ⟨rfl,⟨Y.putObj _ H (by omega) f.loop rfl,f.turn⟩,(au.trans ak).trans (ZlJ _ _ (by omega) f.lt)⟩⟩
  | ret =>
    obtain ⟨hk,H⟩:=Z;have f:=q.keeps hk;exact ⟨_,_,G (some .ret) B f,.inr ⟨rfl,J.putObj _ H (by omega) f.loop rfl,f.turn⟩⟩
  | exit id=>exact Z.elim
  | goto t=>exact Z.elim
  | panic ch=>exact Z.elim
  | outgrown=>exact Z.elim
 ·rintro e B ⟨⟨v,rfl⟩,(⟨xs,hS,hi,c⟩|⟨pre,aw,hi,c⟩)⟩
  ·exact ⟨none,_,m B (by simp) c,M _ xs _ (Xc _) hS (Y.putObj _ hi (by omega) c.loop rfl) (c.turn (st':=.exhausted)).calls⟩
  ·exact ⟨some .ret,_,m B (by simp) c,O _ pre _ (Xc _) aw (J.putObj _ hi (by omega) c.loop rfl) (c.turn (st':=.exhausted)).calls⟩
theorem ZzS {n:Nat} {o:Oper} {K:Act->World->Prop} {Q:Exit->Act->World->Prop} (b:∀c,o.op≠.defer c) (h:o.wp P a w K Q):o.wpIn (Fence.wide.inRound L) n P a w K Q:=by
 unfold Oper.wpIn;refine ⟨fun _ _=>trivial,?_⟩;rw [Fence.inRound_round,Oper.semAt_some _ _ _ b];unfold Oper.wp at h;generalize (execOp a.eval o).run P w=r at *;cases r with
 | ok x w' =>
   cases x with
   | value v=>exact h
   | skip=>exact h
   | defer d=>exact h
   | enter f args=>exact ⟨(fun e=>by cases e),CallsIn.inRound L (callsIn_wide.2 h)⟩
   | row row args =>
     refine ⟨(fun e=>by cases e),?_⟩;intro c g _;obtain ⟨v,w',i,s⟩:=h c g;exact ⟨v,w',i,stepsIn_wide.2 s⟩
   | round l f tmps assign body=>exact False.elim h
   | _=>exact h
 | halt x w'=>cases x<;>exact h
theorem ZhG {n:Nat} {Q:Exit->Act->World->Prop} {md:Region.Mode} (f:∀(i:Nat) (o:Oper) c,ops[i]? = some o->o.op≠.defer c) (e:¬LetsOut Q):∀(b:Nat) (d:Array Bool) (a:Act) (w:World),wpAny P md ops Q b d a w->wpAnyIn (Fence.wide.inRound L) n P md ops Q b d a w
 | 0,_,_,_,h=>h
 | b+1,d,a,w,h=>by
   refine ⟨h.1,fun i hi => ?_⟩;have:=h.2 i hi;unfold wpOp at this;unfold wpOpIn;cases ho:ops[i]? with
   | none=>rw [ho] at this;exact ZhG f e b _ _ _ this
   | some o =>
     rw [ho] at this;dsimp only at this ⊢
     split at this
     ·rename_i g;rw [Xe g];rcases this with this|⟨_,j⟩
      ·exact Oper.wpIn_mono (fun a w=>ZhG f e b _ a w) (ZzS (fun c=>f i o c ho) this)
      ·exact absurd j e
     ·rename_i g;rw [Xa g];exact ⟨fun _ _=>trivial,ZhG f e b _ _ _ this⟩
def Zpa (ops:Array Oper):Bool:=ops.all fun o=>match o.op with | .defer _=>false|_=>true
theorem Zpb (h:Zpa ops=true):∀(i:Nat) (o:Oper) c,ops[i]? = some o->o.op≠.defer c:=fun i o c hi d=>by
 unfold Zpa at h;rw [Array.all_eq_true] at h;obtain ⟨b,rfl⟩:=Xo.1 hi;have:=h i b;rw [d] at this;cases this
theorem ZB6 {T:Nat->Prop} {Q:Exit->Act->World->Prop} (l:RT.Plan Nat) {id:Nat} (f:P.follows .mixedOrders=true) (hs:Region.noSelect ops=true) (b:l.len=ops.size) (i:Zpa ops=true) (e:¬LetsOut Q)
  (j:RT.Z7 .any ops l (Array.replicate ops.size false)=true) (g:∀c a d v w,Q (.panic c) (Act.put a d v) w->Q (.panic c) a w)
  (h:RT.walk T P ops Q (RT.Zy ops l) a w.drew):(Code.region id ops true).wpIn (Fence.wide.inRound L) n P Q a w:=by
 refine wpIn_region_any f (ZhG (Zpb i) e _ _ _ _ ?_);rw [<- b];have:=RT.Zal (md:=.any) hs g l (Array.replicate ops.size false) a w.drew j h;rw [<- b] at this;exact wpAny_of_held _ _ _ _ this
end RF
namespace EV
open RowKit Go.Shelf MM EM
open TK (Z6 Zam ZdX ZbH Zif KIn Zcd Zm9)
open RF (Zz3 Zdn)
variable {k:Nat}
attribute [local go_sem] Oper.semAt_some
abbrev Item:=Int×Xu×Value×List Xu
abbrev encI (x:Item):Array Value:=#[.int .i64 x.1,.agg #[.string ⟨x.2.1.toArray⟩,x.2.2.1]]
def Vow (x:Item) (W:World):Prop:=(∃g,x.2.2.1=.slice (some ⟨g,0,none⟩) x.2.2.2.length x.2.2.2.length/\Zcd W g)/\Zif W x.2.2.1 (ZdX x.2.2.2)/\x.2.1.length<=4096/\x.2.2.2.length<=4096/\(∀s∈x.2.2.2,s.length<=4096)/\0<=x.1/\x.1<=100000
inductive Tr (fs:List Fld):List Item->Nat->Prop
 | start:Tr fs [] 0
 | next {xs:List Item} {k:Nat} (v:Value) (hk:k<fs.length):Tr fs xs k->Tr fs (xs++[(ZaR (fs.take k),fs[k].1,v,Z6 fs[k].2)]) (k+1)
theorem Tr.len {fs:List Fld} {a:List Item} (h:Tr fs a k):a.length=k/\k<=fs.length:=by
 induction h with
 | start=>simp
 | next v hk h ih=>rw [Xd,Xaf];omega
def ZcW (a:List Item):List (Xu×Int):=a.flatMap fun x=>Zae x.2.1 x.2.2.2 x.1
theorem ZkK (a:List Item) (x:Item):ZcW (a++[x])=ZcW a++Zae x.2.1 x.2.2.2 x.1:=by simp [ZcW]
theorem Tr.told {fs:List Fld} {a:List Item} (h:Tr fs a k):ZcW a=ZL 0 (fs.take k):=by
 induction h with
 | start=>simp [ZcW,ZL]
 | next v hk h ih=>rw [ZkK,ih,ZkJ hk]
theorem Ztg {fs:List Fld} (b:∀f∈fs,f.2.length<=4096):∀k,k<=fs.length->0<=ZaR (fs.take k)/\ZaR (fs.take k)<=4160*k
 | 0,_=>by simp [ZaR]
 | k+1,h=>by
   have ih:=Ztg b k (by omega);have a:k<fs.length:=by omega
   rw [Zf3 a];have:=Zam fs[k].2;have:=b fs[k] (XH a);omega
theorem ZzR (l:Xu):∀s∈Z6 l,s.length<=4096:=fun s hs=>by have:=(TK.ZhY l s hs).2;omega
theorem ZAI (n:Nat) (hn:1<=n) (l Bn n₀:Nat) (z:Int) (v0:Value) (fs:List Fld) (am:fs.length<=16) (L:∀f∈fs,f.1.length<=4096) (hx:∀f∈fs,f.2.length<=4096) (J Jx:List Item->World->Prop) (hJ:Zdn J)
  (hY:∀pre x A,J pre A->Vow x A->pre.length<16->YieldAt Fence.wide (n - 1) prog l (encI x) A fun e B =>
   (e=.returned (.bool true)/\J (pre++[x]) B/\Below n₀ A B)\/(e=.returned (.bool false)/\Jx (pre++[x]) B))
  (W:World) (au:W.cell? ⟨Bn,1,none⟩=some v0) (hb:ZgP Z8 n₀ W v0 fs) (ab:n₀<=W.heap.size) (h0:J [] W) :
  CallsIn Fence.wide n prog 224 #[.func (.yield l) #[] #[],.pointer (some ⟨Bn,0,none⟩)] W fun e B=>(∃v,e=.returned v) /\
   ((∃j,Tr fs j fs.length/\J j B)\/(∃pre,(∃k,Tr fs pre k)/\Jx pre B)):=by
 obtain ⟨p0,M,rfl,ar,ac,_⟩:=hb.shape;unfold maxLen at ac;have D:=hid hb;have I:Hid (Tr fs [] 0):=hid .start;have HY:=hid hY;have HX:=hid hx;have HM:=hid L;have HZ:Hid (ZaR (fs.take 0)=0):=hid (by simp [ZaR]);clear hb hY hx L;refine callsIn_of_wp func224 rfl trivial ?_ rfl;simp only [ntmps224,Xat,Xh,Xm,Nat.reduceAdd,Nat.reduceSub,XaB,XaC,XaD,XaE,Xz,XJ];gi_wp2
 gi_loopw [3,10] (fun bv iv wr=>∃(j:List Item) (k:Nat) (u:Int),k<=fs.length/\bv=.int .i64 u/\iv=.int .i64 k/\Hid (Tr fs j k)/\Hid (ZaR (fs.take k)=u)/\Hid (ZgP Z8 n₀ wr (.slice p0 fs.length M) fs)/\J j wr/\n₀<=wr.heap.size) (fun _ iv _=>fs.length - (intOf iv).toNat)
 case atStart=>exact ⟨[],0,0,by omega,rfl,rfl,I,HZ,D,h0,ab⟩
 case round =>
  obtain ⟨j,k,u,hk,rfl,rfl,S,t,Y,y,U⟩:=hrel;clear I D h0 HZ
  by_cases c:k<fs.length
  ·have q1:decide ((k:Int)<(fs.length:Int))=true:=Xt;have q2:decide (k<fs.length)=true:=Xt;obtain ⟨b,off,rfl,an,ao,c1,c2⟩:=ZeR Y.out c;have ap:=HX.out fs[k] (XH c);have af:=HM.out fs[k] (XH c);have d:=fun v=>Tr.next v c S.out;have i:=Ztg HX.out k hk;rw [t.out] at i d;have g:=Zf3 c;rw [t.out] at g;have R:=ZzR fs[k].2;have aw:=Zam fs[k].2;have h:=fun W=>Zm9 ⟨fs[k].2.toArray⟩ W (by rw [Zbh];omega);simp only [Zd7] at h;have ak:=S.out.len;generalize fs[k].1=nm at *;generalize fs[k].2=tx at *;generalize Z6 tx=m at *;have N:=hid h;have HN:=hid d;have ag:=hid g;have H:=hid R;have T:=hid c;clear h d g R c S t;gi_wp2
   refine ⟨trivial,(callsIn_wide.2 (N.out _)).mono ?_⟩;rintro e C ⟨gt,rfl,w,ai,_,r⟩;have a:Below wr.heap.size wr C:=((Below.refl _ wr).alloc (Xc _) _).trans (r.mono (by simp));have cn:C.cell? ⟨wr.heap.size,0,none⟩=some (.string ⟨nm.toArray⟩):=(r.cell (p:=⟨wr.heap.size,0,none⟩) (by simp)).trans (ZhR wr _ _ _).1;have ae:m.length<=4096:=by omega
   have aj:0<=u:=i.1;have Z:u<=100000:=by omega
   have G:j.length<16:=by omega
   have F:wr.grownBy C none:=⟨a.os,a.tape,a.output,a.size,fun k hk _=>a.block k hk⟩;have aa:=hJ j wr C y F;have al:n₀<=C.heap.size:=by have:=a.size;omega
   have O:=Y.out.below (a.mono U);rw [ZbH] at w ⊢;obtain ⟨fn,tmps,assign,body,hy,s⟩:=HY.out j (u,nm,.slice (some ⟨gt,0,none⟩) m.length m.length,m) C aa ⟨⟨gt,rfl,ai⟩,w,af,ae,H.out,aj,Z⟩ G;dsimp only [encI] at hy;have V:=hid O;have q:=hid (HN.out (.slice (some ⟨gt,0,none⟩) m.length m.length));have av:(0:Int)<=(m.length:Int):=Int.natCast_nonneg _;have aq:(m.length:Int)<=4096:=by omega
   clear N HN w r a F y O Y H c1 c2;gi_wp2
   refine s.mono ?_;rintro e w3 (⟨rfl,o,a⟩|⟨rfl,o⟩)
   ·have ah:=hid (V.out.below a);have E:n₀<=w3.heap.size:=by have:=a.size;omega
    have ad:Hid (ZaR (fs.take (k+1))=u+(64+(m.length:Int))):=hid (by rw [ag.out];omega);clear s hy V;gi_wp2
    have c:=T.out;go_roundw
    case rel=>exact ⟨_,k+1,_,by omega,rfl,by go_num,q,ad,ah,o,E⟩
    case measure=>simp [intOf];omega
   ·have X:=hid q.out;clear s hy V q;gi_wp2
    refine bodyPost_ret (results_none rfl _ _ _) rfl ?_;exact ⟨⟨_,rfl⟩,.inr ⟨_,⟨_,X.out⟩,o⟩⟩
  ·obtain rfl:k=fs.length:=by omega
   have q1:decide ((fs.length:Int)<(fs.length:Int))=false:=by simp
   have q2:decide (fs.length<fs.length)=false:=by simp
   gi_wp2
   go_end0
   exact ⟨⟨_,rfl⟩,.inl ⟨j,S.out,y⟩⟩
theorem ZuC (n:Nat) (z:Int) (p:Option Addr) (m c:Nat) (W:World) :
  CallsIn Fence.wide n prog 182 #[.agg #[.int .i64 z,.slice p m c]] W fun e B=>e=.returned (.func (.func 224) #[] #[.pointer (some ⟨W.heap.size,0,none⟩)])/\B=W.alloc (.cells #[.int .i64 z,.slice p m c] 57):=by
 refine callsIn_of_wp func182 rfl trivial ?_ rfl;simp only [ntmps182,Xat,Xh,Xm,Nat.reduceAdd,Nat.reduceSub,XaB,XaC,XaD,XaE,Xz,XJ];gi_wp2
 go_ret;exact ⟨rfl,rfl⟩
theorem Zr5 (n:Nat) (m:1<=n) (a n₀:Nat) (v:Value) (fs:List Fld) (b:fs.length<=16) (e:∀f∈fs,f.1.length<=4096) (r:∀f∈fs,f.2.length<=4096) (w:World) (g:a<w.heap.size) (d:n₀<=w.heap.size) (h:w.cell? ⟨a,1,none⟩=some v) (q:ZgP Z8 n₀ w v fs) :
  Zz3 Fence.wide n prog 224 #[.pointer (some ⟨a,0,none⟩)] encI n₀ Vow (fun s=>Tr fs s fs.length) (fun pre=>∃k,Tr fs pre k) 16 w :=
 fun l J o W c t _ i j=>ZAI n m l a n₀ 0 v fs b e r J o t i W ((c.cell (p:=⟨a,1,none⟩) g).trans h) (q.below (c.mono d)) (by have:=c.size;omega) j
