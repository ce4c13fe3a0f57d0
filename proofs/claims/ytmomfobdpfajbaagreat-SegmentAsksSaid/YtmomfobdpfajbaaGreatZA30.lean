import Derived.Test.YtmomfobdpfajbaaGreatZA24
import Derived.Test.YtmomfobdpfajbaaGreatZA14
import Derived.Test.YtmomfobdpfajbaaGreatZA29
set_option maxRecDepth 100000
set_option maxHeartbeats 0
set_option linter.unusedVariables false
set_option linter.unusedSimpArgs false
namespace Go.Proofs.YtmomfobdpfajbaaGreat
open Tryz
namespace RF
open RowKit
variable {a:Act} {w:World} {L:Nat} {ops:Array Oper}
variable {F : Fence} {n : Nat} {P : Program}
theorem Zuk {α:Type} {g:Operand} {ps:Array Tmp} {assign body:Code} {Q:Exit->Act->World->Prop}
  (am:F.round=none) (h1:1<=n) {gf:Nat} {lb:Array Value} (hg:a.eval g=.func (.func gf) #[] lb) (hF:F.fn gf) (eg:∀args w,(callFunc gf args).run P w=.ok (.enter gf args) w)
  {k:α->Array Value} {n₀:Nat} {R:α->World->Prop} {S Sp:List α->Prop} {N:Nat} {w0:World} (ab:ZAl F (n - 1) P gf lb k n₀ R S Sp N w0) (af:Below w0.heap.size w0 w) (ay:n₀<=w.heap.size)
  (aj:∀x,(k x).size=ps.size) (I Ix:List α->World->Prop) (Z:OwnFrom w.heap.size I) (J:OwnFrom w.heap.size Ix) (hR:OwnFrom w.heap.size R) (h0:I [] w) (Ax:α->Act->World->Prop) (al:∀y,OwnFrom w.heap.size (fun x W=>Ax x y W))
  (o:∀(l:Nat) (pre:List α) (x:α) (W:World) (K:Act->World->Prop),I pre W->R x W->(∀y X,KeepsFrom w.heap.size W X->Below n₀ W X->I pre X->R x X->Ax x y X->K y X) ->
   assign.wpIn (F.inRound l) (n - 1 - 1) P (Exit.then K (fun _ _ _=>False)) { tmps:=(ps.zip (k x)).foldl (fun t (p,v)=>t.setIfInBounds p v) a.tmps,defers:=[] } W)
  (U:∀(l:Nat) (pre:List α) (x:α) (y:Act) (W:World),w.heap.size<=W.heap.size->I pre W->R x W->Ax x y W->pre.length<N->body.wpIn (F.inRound l) (n - 1 - 1) P (Left w.heap.size n₀ I Ix (pre++[x]) W) y W)
  (O:∀(D:Nat) (xs:List α) (W:World),w.heap.size<=D->S xs->I xs W->W.heap[D]? = some (.deferred (some []))->Q .normal { a with defers:={ target:=.collected D,args:=#[] }::a.defers } W)
  (M:∀(D:Nat) (pre:List α) (W:World),w.heap.size<=D->Sp pre->Ix pre W->W.heap[D]? = some (.deferred (some []))->Code.ret.wpIn F n P Q { a with defers:={ target:=.collected D,args:=#[] }::a.defers } W) :
  (Code.rangeFunc g ps assign body).wpIn F n P Q a w:=by
 refine wpIn_rangeFunc fun fn ar => ?_;rw [am];obtain ⟨b,c⟩:∃b:LoopState->Option Code->Loop,∀st z,b st z={ state:=st,pending:=z,fn:=fn,tmps:=a.tmps,params:=ps,assign:=assign,body:=body,defers:=w.heap.size }:=⟨_,fun _ _=>rfl⟩;obtain ⟨H,C⟩:=Xn ((w.alloc (.deferred (some []))).alloc (.loop (b .ready none)))
 have ae:Books b w.heap.size .ready none H:=by
  subst C;refine ⟨?_,(Below.heap_alloc _ _ _ (by simp)).trans (World.alloc_heap_new w _)⟩;have:=World.alloc_heap_new (w.alloc (.deferred (some []))) (.loop (b .ready none))
  rwa [World.size_alloc] at this
 have av:I [] H:=by subst C;exact Z.alloc _ (Z.alloc _ h0)
 have au:Below w0.heap.size w0 H:=by subst C;exact af.trans ((((Below.refl _ w).alloc (Xa _) _).alloc (by simp) _).mono af.size)
 have m:∀{I':List α->World->Prop},OwnFrom w.heap.size I'->∀{st z},Zdl (fun pre W=>I' pre W/\Books b w.heap.size st z W):=fun h' _ _ s A B hs ah=>⟨h' s A B none hs.1 ah (fun r e=>by cases e),hs.2.grown ah⟩
 have G:∀{st:LoopState} {z:Option Code} (i:Option Code) (W:World),Books b w.heap.size st z W ->
   (Instr.endRound (w.heap.size+1) i).run P W=.ok (.bool i.isNone) (W.putObj (w.heap.size+1) (.loop (b (if i.isNone then .ready else .done) i))):=fun i W h=>by
  have:=run_endRound (P:=P) i h.loop;rw [c] at this ⊢;exact this
 have u:∀{st:LoopState} {z:Option Code} (W:World),st≠.busy->Books b w.heap.size st z W->(Instr.endLoop (w.heap.size+1)).run P W=.ok z (W.putObj (w.heap.size+1) (.loop (b .exhausted z))):=fun W ap h=>by
  have:=run_endLoop (P:=P) h.loop (by rw [c];exact ap);rw [c] at this ⊢;exact this
 refine ⟨w.heap.size+1,[{ target:=.collected w.heap.size,args:=#[] }],H,{ target:=.fn (.func gf) lb,args:=#[.func (.yield (w.heap.size+1)) #[] #[]] },H,gf,
  #[.func (.yield (w.heap.size+1)) #[] #[]]++lb,H,?_,?_,?_,?_,fun _=>h1,?_⟩
 ·rw [<- C,c];exact run_enterLoop_outer _ _ _ _ _
 ·simp only [resolve,hg];simp [go_sem]
 ·intro f' ag;simp [Target.leads] at ag;subst ag;exact hF
 ·simp [invoke,go_sem,eg]
 refine (ab (w.heap.size+1) (fun pre W=>I pre W/\Books b w.heap.size .ready none W) (fun pre W=>Ix pre W/\Books b w.heap.size .done (some .ret) W) H au (m Z) (m J) ?_ ⟨av,ae⟩).mono ?_
 ·rintro pre x A0 ⟨aq,E⟩ an aa;have hy:=run_yield (P:=P) (args:=k x) E.loop (by rw [c];exact aj x);rw [c] at hy;refine ⟨fn,_,assign,body,hy,roundIn_of_wpIn ar (o _ pre x A0 _ aq an ?_)⟩;intro y A ao ac hi hx aw;have d:=E.keeps ao;have j:=run_beginRound (P:=P) d.loop (by rw [c]);have T:({ b .ready none with state:=.busy }:Loop)=b .busy none:=by rw [c,c]
  rw [T] at j;refine ⟨_,j,?_⟩;have q:Books b w.heap.size .busy none (A.putObj (w.heap.size+1) (.loop (b .busy none))):=d.turn;have ad:w.heap.size<=(A.putObj (w.heap.size+1) (.loop (b .busy none))).heap.size:=by have:=q.lt;omega
  refine wpIn_mono (U _ pre x y _ ad (Z.putObj _ hi (by omega) d.loop rfl) (hR.putObj _ hx (by omega) d.loop rfl) ((al y).putObj (s:=x) _ aw (by omega) d.loop rfl) aa) ?_;have ak:Below n₀ A0 (A.putObj (w.heap.size+1) (.loop (b .busy none))):=ac.trans (ZlH _ _ (by omega) d.lt);rintro e a3 B Y;cases e with
  | normal =>
    obtain ⟨hk,ax,V⟩:=Y;have f:=q.keeps hk;exact ⟨_,_,G none B f,.inl ⟨rfl,⟨Z.putObj _ V (by omega) f.loop rfl,f.turn⟩,(ak.trans ax).trans (ZlH _ _ (by omega) f.lt)⟩⟩
  | ret =>
    obtain ⟨hk,V⟩:=Y;have f:=q.keeps hk;exact ⟨_,_,G (some .ret) B f,.inr ⟨rfl,J.putObj _ V (by omega) f.loop rfl,f.turn⟩⟩
  | exit id=>exact Y.elim
  | goto t=>exact Y.elim
  | panic ch=>exact Y.elim
  | outgrown=>exact Y.elim
 ·rintro e B ⟨⟨v,rfl⟩,(⟨xs,hS,hi,d⟩|⟨pre,ai,hi,d⟩)⟩
  ·exact ⟨none,_,u B (by simp) d,O _ xs _ (Xa _) hS (Z.putObj _ hi (by omega) d.loop rfl) (d.turn (st':=.exhausted)).calls⟩
  ·exact ⟨some .ret,_,u B (by simp) d,M _ pre _ (Xa _) ai (J.putObj _ hi (by omega) d.loop rfl) (d.turn (st':=.exhausted)).calls⟩
theorem ZAe {n:Nat} {o:Oper} {K:Act->World->Prop} {Q:Exit->Act->World->Prop} (b:∀c,o.op≠.defer c) (h:o.wp P a w K Q):o.wpIn (Fence.wide.inRound L) n P a w K Q:=by
 unfold Oper.wpIn;refine ⟨fun _ _=>trivial,?_⟩;rw [Fence.inRound_round,Oper.semAt_some _ _ _ b];unfold Oper.wp at h;generalize (execOp a.eval o).run P w=r at *;cases r with
 | ok x w' =>
   cases x with
   | value v=>exact h
   | skip=>exact h
   | defer d=>exact h
   | enter f args=>exact ⟨(fun e=>by cases e),CallsIn.inRound L (callsIn_wide.2 h)⟩
   | row row args =>
     refine ⟨(fun e=>by cases e),?_⟩;intro c i _;obtain ⟨v,w',g,s⟩:=h c i;exact ⟨v,w',g,stepsIn_wide.2 s⟩
   | round l f tmps assign body=>exact False.elim h
   | _=>exact h
 | halt x w'=>cases x<;>exact h
theorem ZhE {n:Nat} {Q:Exit->Act->World->Prop} {md:Region.Mode} (e:∀(i:Nat) (o:Oper) c,ops[i]? = some o->o.op≠.defer c) (f:¬LetsOut Q):∀(b:Nat) (d:Array Bool) (a:Act) (w:World),wpAny P md ops Q b d a w->wpAnyIn (Fence.wide.inRound L) n P md ops Q b d a w
 | 0,_,_,_,h=>h
 | b+1,d,a,w,h=>by
   refine ⟨h.1,fun i hi => ?_⟩;have:=h.2 i hi;unfold wpOp at this;unfold wpOpIn;cases ho:ops[i]? with
   | none=>rw [ho] at this;exact ZhE e f b _ _ _ this
   | some o =>
     rw [ho] at this;dsimp only at this ⊢
     split at this
     ·rename_i g;rw [Xe g];rcases this with this|⟨_,j⟩
      ·exact Oper.wpIn_mono (fun a w=>ZhE e f b _ a w) (ZAe (fun c=>e i o c ho) this)
      ·exact absurd j f
     ·rename_i g;rw [Xc g];exact ⟨fun _ _=>trivial,ZhE e f b _ _ _ this⟩
def Zpl (ops:Array Oper):Bool:=ops.all fun o=>match o.op with | .defer _=>false|_=>true
theorem Zpm (h:Zpl ops=true):∀(i:Nat) (o:Oper) c,ops[i]? = some o->o.op≠.defer c:=fun i o c hi d=>by
 unfold Zpl at h;rw [Array.all_eq_true] at h;obtain ⟨b,rfl⟩:=Xq.1 hi;have:=h i b;rw [d] at this;cases this
theorem ZCo {T:Nat->Prop} {Q:Exit->Act->World->Prop} (l:RT.Plan Nat) {id:Nat} (i:P.follows .mixedOrders=true) (hs:Region.noSelect ops=true) (b:l.len=ops.size) (e:Zpl ops=true) (j:¬LetsOut Q)
  (f:RT.Z9 .any ops l (Array.replicate ops.size false)=true) (g:∀c a d v w,Q (.panic c) (Act.put a d v) w->Q (.panic c) a w)
  (h:RT.walk T P ops Q (RT.Zt ops l) a w.drew):(Code.region id ops true).wpIn (Fence.wide.inRound L) n P Q a w:=by
 refine wpIn_region_any i (ZhE (Zpm e) j _ _ _ _ ?_);rw [<- b];have:=RT.Zao (md:=.any) hs g l (Array.replicate ops.size false) a w.drew f h;rw [<- b] at this;exact wpAny_of_held _ _ _ _ this
end RF
namespace EV
open RowKit Go.Shelf MM EM
open TK (Z4 Zag ZdV ZbA Zik KIn Zcb Zng)
open RF (ZAl Zdl)
variable {k:Nat}
attribute [local go_sem] Oper.semAt_some
abbrev Item:=Int×Xu×Value×List Xu
abbrev encI (x:Item):Array Value:=#[.int .i64 x.1,.agg #[.string ⟨x.2.1.toArray⟩,x.2.2.1]]
def Vow (x:Item) (W:World):Prop:=(∃g,x.2.2.1=.slice (some ⟨g,0,none⟩) x.2.2.2.length x.2.2.2.length/\Zcb W g)/\Zik W x.2.2.1 (ZdV x.2.2.2)/\x.2.1.length<=4096/\x.2.2.2.length<=4096/\(∀s∈x.2.2.2,s.length<=4096)/\0<=x.1/\x.1<=100000
inductive Tr (fs:List Fld):List Item->Nat->Prop
 | start:Tr fs [] 0
 | next {xs:List Item} {k:Nat} (v:Value) (hk:k<fs.length):Tr fs xs k->Tr fs (xs++[(ZaO (fs.take k),fs[k].1,v,Z4 fs[k].2)]) (k+1)
theorem Tr.len {fs:List Fld} {a:List Item} (h:Tr fs a k):a.length=k/\k<=fs.length:=by
 induction h with
 | start=>simp
 | next v hk h ih=>rw [Xd,Xai];omega
def ZcV (a:List Item):List (Xu×Int):=a.flatMap fun x=>Zac x.2.1 x.2.2.2 x.1
theorem ZkR (a:List Item) (x:Item):ZcV (a++[x])=ZcV a++Zac x.2.1 x.2.2.2 x.1:=by simp [ZcV]
theorem Tr.told {fs:List Fld} {a:List Item} (h:Tr fs a k):ZcV a=ZM 0 (fs.take k):=by
 induction h with
 | start=>simp [ZcV,ZM]
 | next v hk h ih=>rw [ZkR,ih,ZkQ hk]
theorem ZtQ {fs:List Fld} (a:∀f∈fs,f.2.length<=4096):∀k,k<=fs.length->0<=ZaO (fs.take k)/\ZaO (fs.take k)<=4160*k
 | 0,_=>by simp [ZaO]
 | k+1,h=>by
   have ih:=ZtQ a k (by omega);have b:k<fs.length:=by omega
   rw [ZfZ b];have:=Zag fs[k].2;have:=a fs[k] (XI b);omega
theorem ZAd (l:Xu):∀s∈Z4 l,s.length<=4096:=fun s hs=>by have:=(TK.ZhZ l s hs).2;omega
theorem ZA5 (n:Nat) (hn:1<=n) (l Bn n₀:Nat) (z:Int) (v0:Value) (fs:List Fld) (au:fs.length<=16) (G:∀f∈fs,f.1.length<=4096) (hx:∀f∈fs,f.2.length<=4096) (J Jx:List Item->World->Prop) (hJ:Zdl J)
  (hY:∀pre x A,J pre A->Vow x A->pre.length<16->YieldAt Fence.wide (n - 1) prog l (encI x) A fun e B =>
   (e=.returned (.bool true)/\J (pre++[x]) B/\Below n₀ A B)\/(e=.returned (.bool false)/\Jx (pre++[x]) B))
  (W:World) (an:W.cell? ⟨Bn,1,none⟩=some v0) (T:Ze0 Zae n₀ W v0 fs) (ah:n₀<=W.heap.size) (h0:J [] W) :
  CallsIn Fence.wide n prog 224 #[.func (.yield l) #[] #[],.pointer (some ⟨Bn,0,none⟩)] W fun e B=>(∃v,e=.returned v) /\
   ((∃j,Tr fs j fs.length/\J j B)\/(∃pre,(∃k,Tr fs pre k)/\Jx pre B)):=by
 obtain ⟨p0,F,rfl,ao,ab,_⟩:=T.shape;unfold maxLen at ab;have H:=Y4 T;have M:Y5 (Tr fs [] 0):=Y4 .start;have HY:=Y4 hY;have HX:=Y4 hx;have HM:=Y4 G;have HZ:Y5 (ZaO (fs.take 0)=0):=Y4 (by simp [ZaO]);clear T hY hx G;refine callsIn_of_wp func224 rfl trivial ?_ rfl;simp only [ntmps224,Xar,Xh,Xv,Nat.reduceAdd,Nat.reduceSub,XaD,XaE,XaF,XaG,XE,XK];gi_wp2
 gi_loopw [3,10] (fun bv iv wr=>∃(j:List Item) (k:Nat) (q:Int),k<=fs.length/\bv=.int .i64 q/\iv=.int .i64 k/\Y5 (Tr fs j k)/\Y5 (ZaO (fs.take k)=q)/\Y5 (Ze0 Zae n₀ wr (.slice p0 fs.length F) fs)/\J j wr/\n₀<=wr.heap.size) (fun _ iv _=>fs.length - (intOf iv).toNat)
 case atStart=>exact ⟨[],0,0,by omega,rfl,rfl,M,HZ,H,h0,ah⟩
 case round =>
  obtain ⟨j,k,q,hk,rfl,rfl,S,r,HR,u,Y⟩:=hrel;clear M H h0 HZ
  by_cases c:k<fs.length
  ·have q1:decide ((k:Int)<(fs.length:Int))=true:=Xt;have q2:decide (k<fs.length)=true:=Xt;obtain ⟨b,off,rfl,aq,ap,c1,c2⟩:=ZeN HR.z c;have aw:=HX.z fs[k] (XI c);have ag:=HM.z fs[k] (XI c);have d:=fun v=>Tr.next v c S.z;have i:=ZtQ HX.z k hk;rw [r.z] at i d;have g:=ZfZ c;rw [r.z] at g;have I:=ZAd fs[k].2;have av:=Zag fs[k].2;have h:=fun W=>Zng ⟨fs[k].2.toArray⟩ W (by rw [ZaX];omega);simp only [ZcO] at h;have al:=S.z.len;generalize fs[k].1=nm at *;generalize fs[k].2=tx at *;generalize Z4 tx=m at *;have L:=Y4 h;have HN:=Y4 d;have aj:=Y4 g;have R:=Y4 I;have ad:=Y4 c;clear h d g I c S r;gi_wp2
   refine ⟨trivial,(callsIn_wide.2 (L.z _)).mono ?_⟩;rintro e C ⟨V,rfl,y,aa,_,o⟩;have a:Below wr.heap.size wr C:=((Below.refl _ wr).alloc (Xa _) _).trans (o.mono (by simp));have cn:C.cell? ⟨wr.heap.size,0,none⟩=some (.string ⟨nm.toArray⟩):=(o.cell (p:=⟨wr.heap.size,0,none⟩) (by simp)).trans (ZhP wr _ _ _).1;have Z:m.length<=4096:=by omega
   have X:0<=q:=i.1;have ac:q<=100000:=by omega
   have E:j.length<16:=by omega
   have O:wr.grownBy C none:=⟨a.os,a.tape,a.output,a.size,fun k hk _=>a.block k hk⟩;have U:=hJ j wr C u O;have ak:n₀<=C.heap.size:=by have:=a.size;omega
   have N:=HR.z.below (a.mono Y);rw [ZbA] at y ⊢;obtain ⟨fn,tmps,assign,body,hy,s⟩:=HY.z j (q,nm,.slice (some ⟨V,0,none⟩) m.length m.length,m) C U ⟨⟨V,rfl,aa⟩,y,ag,Z,R.z,X,ac⟩ E;dsimp only [encI] at hy;have HQ:=Y4 N;have t:=Y4 (HN.z (.slice (some ⟨V,0,none⟩) m.length m.length));have am:(0:Int)<=(m.length:Int):=Int.natCast_nonneg _;have ar:(m.length:Int)<=4096:=by omega
   clear L HN y o a O u N HR R c1 c2;gi_wp2
   refine s.mono ?_;rintro e w3 (⟨rfl,w,a⟩|⟨rfl,w⟩)
   ·have af:=Y4 (HQ.z.below a);have D:n₀<=w3.heap.size:=by have:=a.size;omega
    have ae:Y5 (ZaO (fs.take (k+1))=q+(64+(m.length:Int))):=Y4 (by rw [aj.z];omega);clear s hy HQ;gi_wp2
    have c:=ad.z;go_roundw
    case rel=>exact ⟨_,k+1,_,by omega,rfl,by go_num,t,ae,af,w,D⟩
    case measure=>simp [intOf];omega
   ·have ai:=Y4 t.z;clear s hy HQ t;gi_wp2
    refine bodyPost_ret (results_none rfl _ _ _) rfl ?_;exact ⟨⟨_,rfl⟩,.inr ⟨_,⟨_,ai.z⟩,w⟩⟩
  ·obtain rfl:k=fs.length:=by omega
   have q1:decide ((fs.length:Int)<(fs.length:Int))=false:=by simp
   have q2:decide (fs.length<fs.length)=false:=by simp
   gi_wp2
   go_end0
   exact ⟨⟨_,rfl⟩,.inl ⟨j,S.z,u⟩⟩
theorem Zvd (n:Nat) (z:Int) (p:Option Addr) (m c:Nat) (W:World) :
  CallsIn Fence.wide n prog 182 #[.agg #[.int .i64 z,.slice p m c]] W fun e B=>e=.returned (.func (.func 224) #[] #[.pointer (some ⟨W.heap.size,0,none⟩)])/\B=W.alloc (.cells #[.int .i64 z,.slice p m c] 57):=by
 refine callsIn_of_wp func182 rfl trivial ?_ rfl;simp only [ntmps182,Xar,Xh,Xv,Nat.reduceAdd,Nat.reduceSub,XaD,XaE,XaF,XaG,XE,XK];gi_wp2
 go_ret;exact ⟨rfl,rfl⟩
theorem ZsA (n:Nat) (o:1<=n) (a n₀:Nat) (v:Value) (fs:List Fld) (b:fs.length<=16) (e:∀f∈fs,f.1.length<=4096) (q:∀f∈fs,f.2.length<=4096) (w:World) (g:a<w.heap.size) (c:n₀<=w.heap.size) (h:w.cell? ⟨a,1,none⟩=some v) (t:Ze0 Zae n₀ w v fs) :
  ZAl Fence.wide n prog 224 #[.pointer (some ⟨a,0,none⟩)] encI n₀ Vow (fun s=>Tr fs s fs.length) (fun pre=>∃k,Tr fs pre k) 16 w :=
 fun l J r W d m _ i j=>ZA5 n o l a n₀ 0 v fs b e q J r m i W ((d.cell (p:=⟨a,1,none⟩) g).trans h) (t.below (d.mono c)) (by have:=d.size;omega) j
