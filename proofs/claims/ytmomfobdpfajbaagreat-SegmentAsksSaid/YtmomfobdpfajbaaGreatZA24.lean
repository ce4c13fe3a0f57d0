import Derived.RangeFuncNested
import Derived.RangeFuncBound
import Derived.Shelf.RegionOpen
import Derived.OwnWalkIn
import Derived.LoopNIn
import Derived.LoopIn
import Derived.Test.YtmomfobdpfajbaaGreatZA6
set_option maxRecDepth 100000
set_option maxHeartbeats 0
set_option linter.unusedVariables false
set_option linter.unusedSimpArgs false
namespace Go.Proofs.YtmomfobdpfajbaaGreat
open Tryz
namespace RF
open RowKit
variable {D:Nat} {A B:World}
def Zdl {β:Type} (J:β->World->Prop):Prop:=∀s A B,J s A->A.grownBy B none->J s B
def ZAl {α:Type} (F:Fence) (n:Nat) (P:Program) (f:Nat) (lb:Array Value) (a:α->Array Value) (n₀:Nat) (R:α->World->Prop) (S d:List α->Prop) (N:Nat) (w:World):Prop :=
 ∀(l:Nat) (J b:List α->World->Prop) (W:World),Below w.heap.size w W->Zdl J->Zdl b ->
   (∀pre x A,J pre A->R x A->pre.length<N->YieldAt F (n - 1) P l (a x) A fun e B =>
    (e=.returned (.bool true)/\J (pre++[x]) B/\Below n₀ A B)\/(e=.returned (.bool false)/\b (pre++[x]) B)) ->
   J [] W ->
   CallsIn F n P f (#[.func (.yield l) #[] #[]]++lb) W fun e B=>(∃v,e=.returned v)/\((∃c,S c/\J c B)\/(∃pre,d pre/\b pre B))
def Left {α:Type} (D n₀:Nat) (I b:List α->World->Prop) (a:List α) (A:World):Exit->Act->World->Prop
 | .normal,_,B=>KeepsFrom D A B/\Below n₀ A B/\I a B
 | .ret,_,B=>KeepsFrom D A B/\b a B
 | _,_,_=>False
structure Books (rec:LoopState->Option Code->Loop) (D:Nat) (st:LoopState) (pe:Option Code) (W:World):Prop where
 loop:W.heap[D+1]? = some (.loop (rec st pe))
 calls:W.heap[D]? = some (.deferred (some []))
theorem Books.lt {a:LoopState->Option Code->Loop} {st:LoopState} {b:Option Code} {W:World} (h:Books a D st b W):D+1<W.heap.size:=(Xq.1 h.loop).1
theorem Books.grown {a:LoopState->Option Code->Loop} {st:LoopState} {b:Option Code} (h:Books a D st b A) (c:A.grownBy B none):Books a D st b B :=
 ⟨(c.block _ h.lt (by simp)).trans h.loop,(c.block _ (by have:=h.lt;omega) (by simp)).trans h.calls⟩
theorem Books.keeps {a:LoopState->Option Code->Loop} {st:LoopState} {c:Option Code} (h:Books a D st c A) (b:KeepsFrom D A B):Books a D st c B :=
 ⟨b.same _ _ (by omega) h.loop rfl,b.same _ _ (Xa _) h.calls rfl⟩
theorem Books.turn {a:LoopState->Option Code->Loop} {st st':LoopState} {c b:Option Code} (h:Books a D st c A):Books a D st' b (A.putObj (D+1) (.loop (a st' b))) :=
 ⟨World.putObj_heap_same h.lt,(World.putObj_heap_other (by omega)).trans h.calls⟩
theorem ZlH {n₀ l:Nat} (W:World) (o:Obj) (h:n₀<=l) (hl:l<W.heap.size):Below n₀ W (W.putObj l o) :=
 (Below.refl n₀ W).grown (grownBy_putObj' W l o) (by omega) (fun k e=>by cases e;exact h)
variable {F : Fence} {n : Nat} {P : Program}
end RF
namespace RF
open RowKit MM
theorem Zjf {T:Nat->Prop} {l:Nat} (W:World) (o:Obj) (h:¬T l) (hl:l<W.heap.size):Kep T W (W.putObj l o):=ZO (grownBy_putObj' W l o) fun k a hs=>by cases a;exact h hs
def ZtN {α:Type} (F:Fence) (n:Nat) (P:Program) (f:Nat) (lb:Array Value) (a:α->Array Value) (T:Nat->Prop) (R:α->World->Prop) (S d:List α->Prop) (N:Nat) (w:World):Prop :=
 ∀(l:Nat) (J b:List α->World->Prop) (W:World),Below w.heap.size w W->Zdl J->Zdl b ->
   (∀pre x A,J pre A->R x A->pre.length<N->YieldAt F (n - 1) P l (a x) A fun e B =>
    (e=.returned (.bool true)/\J (pre++[x]) B/\Kep T A B)\/(e=.returned (.bool false)/\b (pre++[x]) B)) ->
   J [] W ->
   CallsIn F n P f (#[.func (.yield l) #[] #[]]++lb) W fun e B=>(∃v,e=.returned v)/\((∃c,S c/\J c B)\/(∃pre,d pre/\b pre B))
def ZtK {α:Type} (D:Nat) (T:Nat->Prop) (I b:List α->World->Prop) (a:List α) (A:World):Exit->Act->World->Prop
 | .normal,_,B=>KeepsFrom D A B/\Kep T A B/\I a B
 | .ret,_,B=>KeepsFrom D A B/\b a B
 | _,_,_=>False
variable {F : Fence} {n : Nat} {P : Program}
theorem Zui {α:Type} {g:Operand} {ps:Array Tmp} {assign body:Code} {Q:Exit->Act->World->Prop} {a:Act} {w:World}
  (ah:F.round=none) (h1:1<=n) {gf:Nat} {lb:Array Value} (hg:a.eval g=.func (.func gf) #[] lb) (hF:F.fn gf) (eg:∀args w,(callFunc gf args).run P w=.ok (.enter gf args) w)
  {m:α->Array Value} {T:Nat->Prop} {R:α->World->Prop} {S Sp:List α->Prop} {N:Nat} {w0:World} (Z:ZtN F (n - 1) P gf lb m T R S Sp N w0) (ab:Below w0.heap.size w0 w) (hT:∀k,T k->k<w.heap.size)
  (af:∀x,(m x).size=ps.size) (I Ix:List α->World->Prop) (X:OwnFrom w.heap.size I) (H:OwnFrom w.heap.size Ix) (hR:OwnFrom w.heap.size R) (h0:I [] w) (a₁:α->Act)
  (q:∀(l:Nat) (x:α) (W:World) (K:Act->World->Prop),K (a₁ x) W ->
   assign.wpIn (F.inRound l) (n - 1 - 1) P (Exit.then K (fun _ _ _=>False)) { tmps:=(ps.zip (m x)).foldl (fun t (p,v)=>t.setIfInBounds p v) a.tmps,defers:=[] } W)
  (O:∀(l:Nat) (pre:List α) (x:α) (W:World),I pre W->R x W->pre.length<N->body.wpIn (F.inRound l) (n - 1 - 1) P (ZtK w.heap.size T I Ix (pre++[x]) W) (a₁ x) W)
  (L:∀(D:Nat) (xs:List α) (W:World),w.heap.size<=D->S xs->I xs W->W.heap[D]? = some (.deferred (some []))->Q .normal { a with defers:={ target:=.collected D,args:=#[] }::a.defers } W)
  (J:∀(D:Nat) (pre:List α) (W:World),w.heap.size<=D->Sp pre->Ix pre W->W.heap[D]? = some (.deferred (some []))->Code.ret.wpIn F n P Q { a with defers:={ target:=.collected D,args:=#[] }::a.defers } W) :
  (Code.rangeFunc g ps assign body).wpIn F n P Q a w:=by
 refine wpIn_rangeFunc fun fn aj => ?_;rw [ah];obtain ⟨b,c⟩:∃b:LoopState->Option Code->Loop,∀st y,b st y={ state:=st,pending:=y,fn:=fn,tmps:=a.tmps,params:=ps,assign:=assign,body:=body,defers:=w.heap.size }:=⟨_,fun _ _=>rfl⟩;obtain ⟨G,z⟩:=Xn ((w.alloc (.deferred (some []))).alloc (.loop (b .ready none)))
 have aa:Books b w.heap.size .ready none G:=by
  subst z;refine ⟨?_,(Below.heap_alloc _ _ _ (by simp)).trans (World.alloc_heap_new w _)⟩;have:=World.alloc_heap_new (w.alloc (.deferred (some []))) (.loop (b .ready none))
  rwa [World.size_alloc] at this
 have al:I [] G:=by subst z;exact X.alloc _ (X.alloc _ h0)
 have ak:Below w0.heap.size w0 G:=by subst z;exact ab.trans ((((Below.refl _ w).alloc (Xa _) _).alloc (by simp) _).mono ab.size)
 have o:∀{I':List α->World->Prop},OwnFrom w.heap.size I'->∀{st y},Zdl (fun pre W=>I' pre W/\Books b w.heap.size st y W):=fun h' _ _ s A B hs ad=>⟨h' s A B none hs.1 ad (fun r e=>by cases e),hs.2.grown ad⟩
 have E:∀{st:LoopState} {y:Option Code} (i:Option Code) (W:World),Books b w.heap.size st y W ->
   (Instr.endRound (w.heap.size+1) i).run P W=.ok (.bool i.isNone) (W.putObj (w.heap.size+1) (.loop (b (if i.isNone then .ready else .done) i))):=fun i W h=>by
  have:=run_endRound (P:=P) i h.loop;rw [c] at this ⊢;exact this
 have u:∀{st:LoopState} {y:Option Code} (W:World),st≠.busy->Books b w.heap.size st y W->(Instr.endLoop (w.heap.size+1)).run P W=.ok y (W.putObj (w.heap.size+1) (.loop (b .exhausted y))):=fun W ai h=>by
  have:=run_endLoop (P:=P) h.loop (by rw [c];exact ai);rw [c] at this ⊢;exact this
 refine ⟨w.heap.size+1,[{ target:=.collected w.heap.size,args:=#[] }],G,{ target:=.fn (.func gf) lb,args:=#[.func (.yield (w.heap.size+1)) #[] #[]] },G,gf,
  #[.func (.yield (w.heap.size+1)) #[] #[]]++lb,G,?_,?_,?_,?_,fun _=>h1,?_⟩
 ·rw [<- z,c];exact run_enterLoop_outer _ _ _ _ _
 ·simp only [resolve,hg];simp [go_sem]
 ·intro f' ac;simp [Target.leads] at ac;subst ac;exact hF
 ·simp [invoke,go_sem,eg]
 refine (Z (w.heap.size+1) (fun pre W=>I pre W/\Books b w.heap.size .ready none W) (fun pre W=>Ix pre W/\Books b w.heap.size .done (some .ret) W) G ak (o X) (o H) ?_ ⟨al,aa⟩).mono ?_
 ·rintro pre x A ⟨hi,d⟩ hx Y;have hy:=run_yield (P:=P) (args:=m x) d.loop (by rw [c];exact af x);rw [c] at hy;have j:=run_beginRound (P:=P) d.loop (by rw [c]);have M:({ b .ready none with state:=.busy }:Loop)=b .busy none:=by rw [c,c]
  rw [M] at j;refine ⟨fn,_,assign,body,hy,roundIn_of_wpIn aj (q _ x A _ ⟨_,j,?_⟩)⟩;have C:Books b w.heap.size .busy none (A.putObj (w.heap.size+1) (.loop (b .busy none))):=d.turn;refine wpIn_mono (O _ pre x _ (X.putObj _ hi (by omega) d.loop rfl) (hR.putObj _ hx (by omega) d.loop rfl) Y) ?_;have ag:Kep T A (A.putObj (w.heap.size+1) (.loop (b .busy none))):=Zjf _ _ (fun h=>by have:=hT _ h;omega) d.lt;rintro e a3 B V;cases e with
  | normal =>
    obtain ⟨hk,am,U⟩:=V;have f:=C.keeps hk;exact ⟨_,_,E none B f,.inl ⟨rfl,⟨X.putObj _ U (by omega) f.loop rfl,f.turn⟩,(ag.trans am).trans (Zjf _ _ (fun h=>by have:=hT _ h;omega) f.lt)⟩⟩
  | ret =>
    obtain ⟨hk,U⟩:=V;have f:=C.keeps hk;exact ⟨_,_,E (some .ret) B f,.inr ⟨rfl,H.putObj _ U (by omega) f.loop rfl,f.turn⟩⟩
  | exit id=>exact V.elim
  | goto t=>exact V.elim
  | panic ch=>exact V.elim
  | outgrown=>exact V.elim
 ·rintro e B ⟨⟨v,rfl⟩,(⟨xs,hS,hi,d⟩|⟨pre,ae,hi,d⟩)⟩
  ·exact ⟨none,_,u B (by simp) d,L _ xs _ (Xa _) hS (X.putObj _ hi (by omega) d.loop rfl) (d.turn (st':=.exhausted)).calls⟩
  ·exact ⟨some .ret,_,u B (by simp) d,J _ pre _ (Xa _) ae (H.putObj _ hi (by omega) d.loop rfl) (d.turn (st':=.exhausted)).calls⟩
end RF
namespace RF
open RowKit MM
def ZtO {α:Type} (F:Fence) (n:Nat) (P:Program) (f:Nat) (lb:Array Value) (a:α->Array Value) (T:Nat->Prop) (R:List α->α->World->Prop) (S d:List α->Prop) (N:Nat) (w:World):Prop :=
 ∀(l:Nat) (J b:List α->World->Prop) (W:World),Below w.heap.size w W->Zdl J->Zdl b ->
   (∀pre x A,J pre A->R pre x A->pre.length<N->YieldAt F (n - 1) P l (a x) A fun e B =>
    (e=.returned (.bool true)/\J (pre++[x]) B/\Kep T A B)\/(e=.returned (.bool false)/\b (pre++[x]) B)) ->
   J [] W ->
   CallsIn F n P f (#[.func (.yield l) #[] #[]]++lb) W fun e B=>(∃v,e=.returned v)/\((∃c,S c/\J c B)\/(∃pre,d pre/\b pre B))
variable {F : Fence} {n : Nat} {P : Program}
theorem Zuj {α:Type} {g:Operand} {ps:Array Tmp} {assign body:Code} {Q:Exit->Act->World->Prop} {a:Act} {w:World}
  (ah:F.round=none) (h1:1<=n) {gf:Nat} {lb:Array Value} (hg:a.eval g=.func (.func gf) #[] lb) (hF:F.fn gf) (eg:∀args w,(callFunc gf args).run P w=.ok (.enter gf args) w)
  {m:α->Array Value} {T:Nat->Prop} {R:List α->α->World->Prop} {S Sp:List α->Prop} {N:Nat} {w0:World} (Z:ZtO F (n - 1) P gf lb m T R S Sp N w0) (ab:Below w0.heap.size w0 w) (hT:∀k,T k->k<w.heap.size)
  (af:∀x,(m x).size=ps.size) (I Ix:List α->World->Prop) (X:OwnFrom w.heap.size I) (H:OwnFrom w.heap.size Ix) (hR:∀pre,OwnFrom w.heap.size (R pre)) (h0:I [] w) (a₁:α->Act)
  (q:∀(l:Nat) (x:α) (W:World) (K:Act->World->Prop),K (a₁ x) W ->
   assign.wpIn (F.inRound l) (n - 1 - 1) P (Exit.then K (fun _ _ _=>False)) { tmps:=(ps.zip (m x)).foldl (fun t (p,v)=>t.setIfInBounds p v) a.tmps,defers:=[] } W)
  (O:∀(l:Nat) (pre:List α) (x:α) (W:World),I pre W->R pre x W->pre.length<N->body.wpIn (F.inRound l) (n - 1 - 1) P (ZtK w.heap.size T I Ix (pre++[x]) W) (a₁ x) W)
  (L:∀(D:Nat) (xs:List α) (W:World),w.heap.size<=D->S xs->I xs W->W.heap[D]? = some (.deferred (some []))->Q .normal { a with defers:={ target:=.collected D,args:=#[] }::a.defers } W)
  (J:∀(D:Nat) (pre:List α) (W:World),w.heap.size<=D->Sp pre->Ix pre W->W.heap[D]? = some (.deferred (some []))->Code.ret.wpIn F n P Q { a with defers:={ target:=.collected D,args:=#[] }::a.defers } W) :
  (Code.rangeFunc g ps assign body).wpIn F n P Q a w:=by
 refine wpIn_rangeFunc fun fn aj => ?_;rw [ah];obtain ⟨b,c⟩:∃b:LoopState->Option Code->Loop,∀st y,b st y={ state:=st,pending:=y,fn:=fn,tmps:=a.tmps,params:=ps,assign:=assign,body:=body,defers:=w.heap.size }:=⟨_,fun _ _=>rfl⟩;obtain ⟨G,z⟩:=Xn ((w.alloc (.deferred (some []))).alloc (.loop (b .ready none)))
 have aa:Books b w.heap.size .ready none G:=by
  subst z;refine ⟨?_,(Below.heap_alloc _ _ _ (by simp)).trans (World.alloc_heap_new w _)⟩;have:=World.alloc_heap_new (w.alloc (.deferred (some []))) (.loop (b .ready none))
  rwa [World.size_alloc] at this
 have al:I [] G:=by subst z;exact X.alloc _ (X.alloc _ h0)
 have ak:Below w0.heap.size w0 G:=by subst z;exact ab.trans ((((Below.refl _ w).alloc (Xa _) _).alloc (by simp) _).mono ab.size)
 have o:∀{I':List α->World->Prop},OwnFrom w.heap.size I'->∀{st y},Zdl (fun pre W=>I' pre W/\Books b w.heap.size st y W):=fun h' _ _ s A B hs ad=>⟨h' s A B none hs.1 ad (fun r e=>by cases e),hs.2.grown ad⟩
 have E:∀{st:LoopState} {y:Option Code} (i:Option Code) (W:World),Books b w.heap.size st y W ->
   (Instr.endRound (w.heap.size+1) i).run P W=.ok (.bool i.isNone) (W.putObj (w.heap.size+1) (.loop (b (if i.isNone then .ready else .done) i))):=fun i W h=>by
  have:=run_endRound (P:=P) i h.loop;rw [c] at this ⊢;exact this
 have u:∀{st:LoopState} {y:Option Code} (W:World),st≠.busy->Books b w.heap.size st y W->(Instr.endLoop (w.heap.size+1)).run P W=.ok y (W.putObj (w.heap.size+1) (.loop (b .exhausted y))):=fun W ai h=>by
  have:=run_endLoop (P:=P) h.loop (by rw [c];exact ai);rw [c] at this ⊢;exact this
 refine ⟨w.heap.size+1,[{ target:=.collected w.heap.size,args:=#[] }],G,{ target:=.fn (.func gf) lb,args:=#[.func (.yield (w.heap.size+1)) #[] #[]] },G,gf,
  #[.func (.yield (w.heap.size+1)) #[] #[]]++lb,G,?_,?_,?_,?_,fun _=>h1,?_⟩
 ·rw [<- z,c];exact run_enterLoop_outer _ _ _ _ _
 ·simp only [resolve,hg];simp [go_sem]
 ·intro f' ac;simp [Target.leads] at ac;subst ac;exact hF
 ·simp [invoke,go_sem,eg]
 refine (Z (w.heap.size+1) (fun pre W=>I pre W/\Books b w.heap.size .ready none W) (fun pre W=>Ix pre W/\Books b w.heap.size .done (some .ret) W) G ak (o X) (o H) ?_ ⟨al,aa⟩).mono ?_
 ·rintro pre x A ⟨hi,d⟩ hx Y;have hy:=run_yield (P:=P) (args:=m x) d.loop (by rw [c];exact af x);rw [c] at hy;have j:=run_beginRound (P:=P) d.loop (by rw [c]);have M:({ b .ready none with state:=.busy }:Loop)=b .busy none:=by rw [c,c]
  rw [M] at j;refine ⟨fn,_,assign,body,hy,roundIn_of_wpIn aj (q _ x A _ ⟨_,j,?_⟩)⟩;have C:Books b w.heap.size .busy none (A.putObj (w.heap.size+1) (.loop (b .busy none))):=d.turn;refine wpIn_mono (O _ pre x _ (X.putObj _ hi (by omega) d.loop rfl) ((hR pre).putObj _ hx (by omega) d.loop rfl) Y) ?_;have ag:Kep T A (A.putObj (w.heap.size+1) (.loop (b .busy none))):=Zjf _ _ (fun h=>by have:=hT _ h;omega) d.lt;rintro e a3 B V;cases e with
  | normal =>
    obtain ⟨hk,am,U⟩:=V;have f:=C.keeps hk;exact ⟨_,_,E none B f,.inl ⟨rfl,⟨X.putObj _ U (by omega) f.loop rfl,f.turn⟩,(ag.trans am).trans (Zjf _ _ (fun h=>by have:=hT _ h;omega) f.lt)⟩⟩
  | ret =>
    obtain ⟨hk,U⟩:=V;have f:=C.keeps hk;exact ⟨_,_,E (some .ret) B f,.inr ⟨rfl,H.putObj _ U (by omega) f.loop rfl,f.turn⟩⟩
  | exit id=>exact V.elim
  | goto t=>exact V.elim
  | panic ch=>exact V.elim
  | outgrown=>exact V.elim
 ·rintro e B ⟨⟨v,rfl⟩,(⟨xs,hS,hi,d⟩|⟨pre,ae,hi,d⟩)⟩
  ·exact ⟨none,_,u B (by simp) d,L _ xs _ (Xa _) hS (X.putObj _ hi (by omega) d.loop rfl) (d.turn (st':=.exhausted)).calls⟩
  ·exact ⟨some .ret,_,u B (by simp) d,J _ pre _ (Xa _) ae (H.putObj _ hi (by omega) d.loop rfl) (d.turn (st':=.exhausted)).calls⟩
end RF
namespace ST
open RowKit Go.Shelf MM SM
open EV (ZD Z2)
open RF (ZtO Zdl)
attribute [local go_sem] Oper.semAt_some
def ZG (l:List Zq):List (List Zq):=(List.range (ZK l.length)).map (ZaF l)
theorem Zxz:ZD.size=3:=rfl
abbrev Part:=Value×List Zq
abbrev Zst (x:Part):Array Value:=#[x.1]
def Zr5 (T:Nat->Prop) (l:List Zq) (pre:List Part) (x:Part) (W:World):Prop:=ZB ZD T W x.1 x.2/\x.2=ZaF l pre.length
theorem Zpw {α:Type} {C:Codec α} {S:Nat->Prop} {w:World} {p:Option Addr} {n a cap':Nat} {es:List α} (h:ZB C S w (.slice p n a) es) (f:n<=cap') (i:cap'<=maxLen) (e:p≠none):ZB C S w (.slice p n cap') es:=by
 obtain ⟨p',c',b,c,a1,a2,a3,g,d⟩:=h;simp only [Value.slice.injEq] at c;obtain ⟨rfl,rfl,rfl⟩:=c;exact ⟨_,cap',b,rfl,f,i,fun h=>absurd h e,g,d⟩
theorem ZlR (l:List Zq) (k m:Nat) (h:m=min 16 (l.length - 16*k)):(l.drop (16*k)).take m=ZaF l k:=by
 unfold ZaF;subst h
 by_cases a:16<=l.length - 16*k
 ·rw [Xan a]
 ·rw [Xbi (by omega),XO (by rw [Xp];exact Xa _),XO (by rw [Xp];omega)]
theorem ZlS (n:Nat) (hn:1<=n) (y w r:Nat) (T:Nat->Prop) (v0:Value) (l:List Zq) (J Jx:List Part->World->Prop) (hJ:Zdl J)
  (hY:∀pre x A,J pre A->Zr5 T l pre x A->pre.length<ZK l.length->YieldAt Fence.wide (n - 1) prog y (Zst x) A fun e B =>
   (e=.returned (.bool true)/\J (pre++[x]) B/\Kep T A B)\/(e=.returned (.bool false)/\Jx (pre++[x]) B))
  (W:World) (F:W.cell? ⟨w,0,none⟩=some v0) (R:W.cell? ⟨r,0,none⟩=some (.int .i64 16)) (G:T w) (I:T r) (hl:ZB ZD T W v0 l) (h0:J [] W) (am:l.length<=65536) :
  CallsIn Fence.wide n prog 200 #[.func (.yield y) #[] #[],.pointer (some ⟨w,0,none⟩),.pointer (some ⟨r,0,none⟩)] W fun e B=>(∃v,e=.returned v) /\
   ((∃f,f.map (·.2)=ZG l/\J f B)\/(∃pre,True/\Jx pre B)):=by
 obtain ⟨p0,a,rfl,aq,ai,_⟩:=hl.shape;unfold maxLen at ai;have ao:prog.follows .mixedOrders=true:=by kernel_rfl
 have N:=Y4 (And.intro hl (And.intro F R));have U:Y5 (([]:List Part).map (·.2)=(List.range 0).map (ZaF l)):=Y4 rfl;have HY:=Y4 hY;clear hl hY F R;refine callsIn_of_wp func200 rfl trivial ?_ rfl;simp only [ntmps200,Xar,Xh,Xv,Nat.reduceAdd,Nat.reduceSub,XaD,XaE,XaF,XaG,XE,XK];gi_wp2
 gi_loopw [4] (fun iv wr=>∃(k:Nat) (f:List Part),iv=.int .i64 ((16*k:Nat):Int)/\k<=ZK l.length/\f.length=k/\Y5 (f.map (·.2)=(List.range k).map (ZaF l))/\Y5 (ZB ZD T wr (.slice p0 l.length a) l/\wr.cell? ⟨w,0,none⟩=some (.slice p0 l.length a)/\wr.cell? ⟨r,0,none⟩=some (.int .i64 16))/\J f wr) (fun iv _=>16*ZK l.length+16 - (intOf iv).toNat)
 case atStart=>exact ⟨0,[],rfl,XX _,rfl,U,N,h0⟩
 case round =>
  obtain ⟨k,f,rfl,hk,V,Z,HR,C⟩:=hrel;clear U N h0;obtain ⟨X,D,O⟩:=HR.z;have ar:ZK l.length=(l.length+15) / 16:=rfl;obtain ⟨i,hi⟩:=Xn (16*k);rw [hi]
  by_cases H:i<l.length
  ·have q1:decide ((i:Int)<(l.length:Int))=true:=Xt;have q2:decide (i<l.length)=true:=Xt;have q3:(i:Int)<=(l.length:Int):=by omega
   obtain ⟨m,hm⟩:=Xn (min 16 (l.length - i));have af:min (16:Int) ((l.length - i:Nat):Int)=(m:Int):=by omega
   have ah:(if l.length - i<16 then ((l.length - i:Nat):Int) else 16)=(m:Int):=by split<;>omega
   have ab:(if ((l.length - i:Nat):Int)<16 then ((l.length - i:Nat):Int) else 16)=(m:Int):=by split<;>omega
   obtain ⟨e,he⟩:=Xn (i+m);have ap:(i:Int)+(m:Int)=(e:Int):=by omega
   have au:IntKind.i64.wrap ((i:Int)+(m:Int))=(e:Int):=by rw [IntKind.wrap_i64];omega
   have q4:(e:Int)<=(a:Int):=by omega
   have q5:(i:Int)<=(e:Int):=by omega
   obtain ⟨b,off,vf,rfl,av,an,_⟩:=Z2 X H;have g:=(ZB.drop X i (by omega)).take m (by omega);rw [Xc (by omega),Xae,ZZ,Zxz] at g;have d:=Zpw (cap':=m) g (Xa _) (by unfold maxLen;omega) (by simp);rw [show (l.drop i).take m=ZaF l k by rw [<- hi];exact ZlR l k m (by omega)] at d;rw [show m=e - i by omega] at d;obtain ⟨t,j⟩:=Xn wr.drew;have c:Below wr.heap.size wr t:=by rw [<- j];exact (Below.refl _ _).drew
   have E:wr.grownBy t none:=⟨c.os,c.tape,c.output,c.size,fun k hk _=>c.block k hk⟩;have ac:=hJ f wr t C E;obtain ⟨fn,tmps,assign,body,Y,S⟩:=HY.z f (.slice (some ⟨b,off+i*3,none⟩) (e - i) (e - i),ZaF l k) t ac ⟨ZB.keep d (Za T c) (fun _ _ h=>h),by rw [V]⟩ (by omega);dsimp only [Zst] at Y;rw [<- j] at Y;have s:=Y4 S;have q:=Y4 j;have u:Y5 (ZB ZD T t (.slice (some ⟨b,off,none⟩) l.length a) l/\t.cell? ⟨w,0,none⟩=some (.slice (some ⟨b,off,none⟩) l.length a)/\t.cell? ⟨r,0,none⟩=some (.int .i64 16)):=Y4 ⟨ZB.keep X (Za T c) (fun _ _ h=>h),(c.cell (p:=⟨w,0,none⟩) (World.block_lt_of_cell? _ _ D)).trans D,(c.cell (p:=⟨r,0,none⟩) (World.block_lt_of_cell? _ _ O)).trans O⟩;have ae:Y5 ((f++[((.slice (some ⟨b,off+i*3,none⟩) (e - i) (e - i):Value),ZaF l k)]).map (·.2)=(List.range (k+1)).map (ZaF l)):=Y4 (by rw [XM,Z.z,XaS,XM];rfl);have HI:Y5 (16*k=i):=Y4 hi;have ad:k+1<=ZK l.length:=by omega
   have ak:Y5 (k<ZK l.length):=Y4 (by omega);clear g d c E j S X HR Z C hi HY;gi_wp2
   gi_region_with_o (fail)
   all_goals gi_wp2
   all_goals rw [q.z]
   all_goals refine s.z.mono ?_
   all_goals rintro e w3 (⟨rfl,z,o⟩|⟨rfl,z⟩)
   all_goals first
    | (have L:ZB ZD T w3 (.slice (some ⟨b,off,none⟩) l.length a) l:=ZB.keep u.z.1 o (fun _ _ h=>h)
       have al:w3.cell? ⟨w,0,none⟩=some (.slice (some ⟨b,off,none⟩) l.length a):=(o.cell (World.block_lt_of_cell? _ _ u.z.2.1) G 0).trans u.z.2.1;have aa:w3.cell? ⟨r,0,none⟩=some (.int .i64 16):=(o.cell (World.block_lt_of_cell? _ _ u.z.2.2) I 0).trans u.z.2.2;have ag:=Y4 (And.intro L (And.intro al aa));clear L o s Y u q ak;gi_wp2
       have hi:=HI.z;go_roundw
       case rel=>exact ⟨k+1,_,by rw [show ((16*(k+1):Nat):Int)=(i:Int)+16 by omega],ad,by rw [Xd,V];rfl,ae,ag,z⟩
       case measure=>simp [intOf];omega)
    | (clear s Y u q
       gi_wp2
       refine bodyPost_ret (results_none rfl _ _ _) rfl ?_;exact ⟨⟨_,rfl⟩,.inr ⟨_,trivial,z⟩⟩)
  ·have q1:decide ((i:Int)<(l.length:Int))=false:=Xf;have q2:decide (i<l.length)=false:=Xf;have M:k=ZK l.length:=by omega
   have ht:=Z.z;rw [M] at ht;have aj:Y5 (f.map (·.2)=ZG l):=Y4 ht;clear ht Z hi M H;gi_wp2
   go_end0
   exact ⟨⟨_,rfl⟩,.inl ⟨f,aj.z,C⟩⟩
theorem Zsh (n:Nat) (p:Option Addr) (m c:Nat) (W:World) :
  CallsIn Fence.wide n prog 135 #[.slice p m c,.int .i64 16] W fun e B=>e=.returned (.func (.func 200) #[] #[.pointer (some ⟨W.heap.size,0,none⟩),.pointer (some ⟨W.heap.size+1,0,none⟩)])/\B=(W.alloc (.cells #[.slice p m c] 22)).alloc (.cells #[.int .i64 16] 3):=by
 refine callsIn_of_wp func135 rfl trivial ?_ rfl;simp only [ntmps135,Xar,Xh,Xv,Nat.reduceAdd,Nat.reduceSub,XaD,XaE,XaF,XaG,XE,XK];gi_wp2
 go_ret;exact ⟨rfl,rfl⟩
theorem ZjP (n:Nat) (r:1<=n) (e c:Nat) (T:Nat->Prop) (v:Value) (l:List Zq) (w:World) (b:l.length<=65536) (d:T e) (a:T c) (j:∀k,T k->k<w.heap.size) (f:w.cell? ⟨e,0,none⟩=some v) (g:w.cell? ⟨c,0,none⟩=some (.int .i64 16)) (s:ZB ZD T w v l) :
  ZtO Fence.wide n prog 200 #[.pointer (some ⟨e,0,none⟩),.pointer (some ⟨c,0,none⟩)] Zst T (Zr5 T l) (fun u=>u.map (·.2)=ZG l) (fun _=>True) (ZK l.length) w :=
 fun y J t W i q _ m o=>ZlS n r y e c T v l J t q m W ((i.cell (p:=⟨e,0,none⟩) (j _ d)).trans f) ((i.cell (p:=⟨c,0,none⟩) (j _ a)).trans g) d a (ZB.keep s (Za T i) (fun _ _ h=>h)) o b
end ST
namespace TB
open RowKit MM GB
variable {B:Nat} {t:TypeId} {v x:Value} {l:Xu}
structure E3 (T:Nat->Prop) (w W0 W:World) (Bh Bb Ba:Nat) (xh xb xa vh vb vx:Value) (H Bd X:Xu):Prop where
 bh:Boxed W Bh 23 xh
 bb:Boxed W Bb 23 xb
 ba:Boxed W Ba 3 xa
 oh:Zd 0 W vh H
 ob:Zd 0 W vb Bd
 ox:Zd 0 W vx X
 fh:∀k,vh.ownBlock=some k->w.heap.size<=k/\¬T k
 fb:∀k,vb.ownBlock=some k->w.heap.size<=k/\¬T k
 hb:∀k,vh.ownBlock=some k->vb.ownBlock≠some k
 xx:∀k,vx.ownBlock=some k->vh.ownBlock≠some k/\vb.ownBlock≠some k
 low:Below w.heap.size w W
 kt:Kep T W0 W
 ko:KeepsOthers W0 W
 lB:(w.heap.size<=Bh/\w.heap.size<=Bb/\w.heap.size<=Ba)/\(Bh≠Bb/\Bh≠Ba/\Bb≠Ba)/\¬T Bh/\¬T Bb/\¬T Ba
 tW:∀k,T k->k<W0.heap.size
variable {T : Nat -> Prop} {w W0 W W' : World} {Bh Bb Ba : Nat} {xh xb xa vh vb vx vh' vb' : Value} {H Bd X H' Bd' : Xu}
theorem ZaG {S:Nat->Prop} (h:Boxed W B t v) (b:Kep S W W') (a:S B):Boxed W' B t v:=(b.block B h.lt a).trans h
theorem ZcS (h:Boxed W B t x) (a:t≠5) (b:Zd 0 W v l):v.ownBlock≠some B:=fun e=>h.not_row a b e.symm
theorem ne1:(23:TypeId)≠5:=by decide
theorem ne2:(3:TypeId)≠5:=by decide
theorem E3.below (h:E3 T w W0 W Bh Bb Ba xh xb xa vh vb vx H Bd X) (a:Below W.heap.size W W'):E3 T w W0 W' Bh Bb Ba xh xb xa vh vb vx H Bd X:=by
 have c:=Za (fun _=>True) a
 exact ⟨ZaG h.bh c trivial,ZaG h.bb c trivial,ZaG h.ba c trivial,h.oh.keep a,h.ob.keep a,h.ox.keep a,h.fh,h.fb,h.hb,h.xx,h.low.trans (a.mono h.low.size),h.kt.trans (Za _ a),
  h.ko.trans ⟨a.size,fun k o b _=>(a.block k (Xq.1 b).1).trans b⟩,h.lB,h.tW⟩
theorem ZiB {v':Value} (c:Zd 0 W v l) (f:Grown W W' v v'):KeepsOthers W W':=KeepsOthers.of_grownBy f.1 fun j o d a=>by
 obtain ⟨_,b,fr,e⟩:=Zbn c d;rw [e] at a;cases a
 rfl
theorem E3.growH (h:E3 T w W0 W Bh Bb Ba xh xb xa vh vb vx H Bd X) (c:Grown W W' vh vh') (i:Zd 0 W' vh' H'):E3 T w W0 W' Bh Bb Ba xh xb xa vh' vb vx H' Bd X:=by
 have hs:=c.1.size;have g:=h.low.size;have b:=c.kep;refine ⟨ZaG h.bh b (ZcS h.bh ne1 h.oh),ZaG h.bb b (ZcS h.bb ne1 h.oh),ZaG h.ba b (ZcS h.ba ne2 h.oh),i,Zd.kepOwn h.ob b (fun k a e=>h.hb k e a),Zd.kepOwn h.ox b (fun k a e=>(h.xx k a).1 e),fun k a => ?_,h.fb,fun k a e => ?_,fun k a=>⟨fun e => ?_,(h.xx k a).2⟩,h.low.trans (b.below g fun k a e=>by have:=(h.fh k e).1;omega),h.kt.andThen b (fun k _ f e=>(h.fh k e).2 f),h.ko.trans (ZiB h.oh c),h.lB,h.tW⟩
 ·rcases c.2 k a with e|e
  ·exact h.fh k e
  ·exact ⟨by omega,fun f=>by have:=h.tW k f;have:=h.kt.size;omega⟩
 ·rcases c.2 k a with d|d
  ·exact h.hb k d e
  ·have:=Zaw h.ob k e;omega
 ·rcases c.2 k e with d|d
  ·exact (h.xx k a).1 d
  ·have:=Zaw h.ox k a;omega
theorem E3.growB (h:E3 T w W0 W Bh Bb Ba xh xb xa vh vb vx H Bd X) (c:Grown W W' vb vb') (i:Zd 0 W' vb' Bd'):E3 T w W0 W' Bh Bb Ba xh xb xa vh vb' vx H Bd' X:=by
 have hs:=c.1.size;have g:=h.low.size;have b:=c.kep;refine ⟨ZaG h.bh b (ZcS h.bh ne1 h.ob),ZaG h.bb b (ZcS h.bb ne1 h.ob),ZaG h.ba b (ZcS h.ba ne2 h.ob),Zd.kepOwn h.oh b (fun k a e=>h.hb k a e),i,Zd.kepOwn h.ox b (fun k a e=>(h.xx k a).2 e),h.fh,fun k a => ?_,fun k a e => ?_,fun k a=>⟨(h.xx k a).1,fun e => ?_⟩,h.low.trans (b.below g fun k a e=>by have:=(h.fb k e).1;omega),h.kt.andThen b (fun k _ f e=>(h.fb k e).2 f),h.ko.trans (ZiB h.ob c),h.lB,h.tW⟩
 ·rcases c.2 k a with e|e
  ·exact h.fb k e
  ·exact ⟨by omega,fun f=>by have:=h.tW k f;have:=h.kt.size;omega⟩
 ·rcases c.2 k e with d|d
  ·exact h.hb k a d
  ·have:=Zaw h.oh k a;omega
 ·rcases c.2 k e with d|d
  ·exact (h.xx k a).2 d
  ·have:=Zaw h.ox k a;omega
theorem E3.setH (h:E3 T w W0 W Bh Bb Ba xh xb xa vh vb vx H Bd X) (x:Value):E3 T w W0 (W.setCell ⟨Bh,0,none⟩ x) Bh Bb Ba x xb xa vh vb vx H Bd X:=by
 obtain ⟨⟨l1,l2,l3⟩,⟨d,f,n3⟩,g,t2,t3⟩:=h.lB;have c:Kep (fun b=>b≠Bh) W (W.setCell ⟨Bh,0,none⟩ x):=Zy (fun h=>h rfl) x;exact ⟨h.bh.set x,ZaG h.bb c (Ne.symm d),ZaG h.ba c (Ne.symm f),Zd.kepOwn h.oh c (fun k a e=>ZcS h.bh ne1 h.oh (e▸a)),Zd.kepOwn h.ob c (fun k a e=>ZcS h.bh ne1 h.ob (e▸a)),Zd.kepOwn h.ox c (fun k a e=>ZcS h.bh ne1 h.ox (e▸a)),h.fh,h.fb,h.hb,h.xx,h.low.trans (c.below h.low.size fun k a=>by omega),h.kt.trans (Zy g x),h.ko.trans (KeepsOthers.setCell _ _ _),h.lB,h.tW⟩
theorem E3.setB (h:E3 T w W0 W Bh Bb Ba xh xb xa vh vb vx H Bd X) (x:Value):E3 T w W0 (W.setCell ⟨Bb,0,none⟩ x) Bh Bb Ba xh x xa vh vb vx H Bd X:=by
 obtain ⟨⟨l1,l2,l3⟩,⟨d,n2,g⟩,t1,f,t3⟩:=h.lB;have c:Kep (fun b=>b≠Bb) W (W.setCell ⟨Bb,0,none⟩ x):=Zy (fun h=>h rfl) x;exact ⟨ZaG h.bh c d,h.bb.set x,ZaG h.ba c (Ne.symm g),Zd.kepOwn h.oh c (fun k a e=>ZcS h.bb ne1 h.oh (e▸a)),Zd.kepOwn h.ob c (fun k a e=>ZcS h.bb ne1 h.ob (e▸a)),Zd.kepOwn h.ox c (fun k a e=>ZcS h.bb ne1 h.ox (e▸a)),h.fh,h.fb,h.hb,h.xx,h.low.trans (c.below h.low.size fun k a=>by omega),h.kt.trans (Zy f x),h.ko.trans (KeepsOthers.setCell _ _ _),h.lB,h.tW⟩
theorem E3.setA (h:E3 T w W0 W Bh Bb Ba xh xb xa vh vb vx H Bd X) (x:Value):E3 T w W0 (W.setCell ⟨Ba,0,none⟩ x) Bh Bb Ba xh xb x vh vb vx H Bd X:=by
 obtain ⟨⟨l1,l2,l3⟩,⟨n1,f,d⟩,t1,t2,t3⟩:=h.lB;have c:Kep (fun b=>b≠Ba) W (W.setCell ⟨Ba,0,none⟩ x):=Zy (fun h=>h rfl) x;exact ⟨ZaG h.bh c f,ZaG h.bb c d,h.ba.set x,Zd.kepOwn h.oh c (fun k a e=>ZcS h.ba ne2 h.oh (e▸a)),Zd.kepOwn h.ob c (fun k a e=>ZcS h.ba ne2 h.ob (e▸a)),Zd.kepOwn h.ox c (fun k a e=>ZcS h.ba ne2 h.ox (e▸a)),h.fh,h.fb,h.hb,h.xx,h.low.trans (c.below h.low.size fun k a=>by omega),h.kt.trans (Zy t3 x),h.ko.trans (KeepsOthers.setCell _ _ _),h.lB,h.tW⟩
theorem E3.row {Y:Xu} (h:E3 T w W0 W Bh Bb Ba xh xb xa vh vb vx H Bd X) (d:Below W.heap.size W W') (b:Zd W.heap.size W' x Y):E3 T w W0 W' Bh Bb Ba xh xb xa vh vb x H Bd Y:=by
 have a:=h.below d;exact ⟨a.bh,a.bb,a.ba,a.oh,a.ob,Zd.zero b,a.fh,a.fb,a.hb,fun k c=>⟨fun e=>by have:=Zaw h.oh k e;have:=(World.ownsRow.lt b k c).1;omega,fun e=>by have:=Zaw h.ob k e;have:=(World.ownsRow.lt b k c).1;omega⟩,a.low,a.kt,a.ko,a.lB,a.tW⟩
theorem E3.fresh (h:E3 T w W0 W Bh Bb Ba xh xb xa vh vb vx H Bd X):E3 T w W W Bh Bb Ba xh xb xa vh vb (.slice none 0 0) H Bd [] :=
 ⟨h.bh,h.bb,h.ba,h.oh,h.ob,World.ownsRow_nil _ _ _ _,h.fh,h.fb,h.hb,(fun k a=>by cases a),h.low,Kep.refl _ _,KeepsOthers.refl _,h.lB,fun k a=>XJ (h.tW k a) h.kt.size⟩
theorem E3.own {D:Nat} {row:Option Nat} (h:E3 T w W W Bh Bb Ba xh xb xa vh vb (.slice none 0 0) H Bd []) (hD:w.heap.size<=D) (m:W.grownBy W' row) (j:∀r,row=some r->D<=r/\∃o:Obj,W.heap[r]? = some o/\o.isCells=false) :
  E3 T w W' W' Bh Bb Ba xh xb xa vh vb (.slice none 0 0) H Bd []:=by
 have d:Kep (fun b=>row≠some b) W W':=ZO m fun k d i=>i d
 have f:∀b a t fr,W.heap[b]? = some (.cells a t fr)->row≠some b:=fun b a t fr f e=>by
  obtain ⟨_,o,g,n⟩:=j b e;rw [f] at g;cases g
  cases n
 have g:∀{v:Value} {l:Xu},Zd 0 W v l->Zd 0 W' v l:=fun h=>Zd.kepOwn h d fun k c=>by
  obtain ⟨_,a,fr,p⟩:=Zbn h c;exact f k a _ fr p
 exact ⟨ZaG h.bh d (f _ _ _ _ h.bh),ZaG h.bb d (f _ _ _ _ h.bb),ZaG h.ba d (f _ _ _ _ h.ba),g h.oh,g h.ob,World.ownsRow_nil _ _ _ _,h.fh,h.fb,h.hb,h.xx,h.low.trans (d.below h.low.size fun k c e=>by have:=(j k e).1;omega),Kep.refl _ _,KeepsOthers.refl _,h.lB,fun k c=>XJ (h.tW k c) m.size⟩
end TB
namespace RF
open RowKit MM
variable {D:Nat} {A B:World} {T:Nat->Prop} {e:TypeId}
def Zh4 (D:Nat) (c:TypeId) (A:World) (b:Nat):Prop:=¬(D<=b/\∃a fr,A.heap[b]? = some (.cells a c fr))
def Zdr {β:Type} (D:Nat) (a:TypeId) (J:β->World->Prop):Prop:=∀s A B,J s A->Kep (Zh4 D a A) A B->J s B
theorem Books.free {a:LoopState->Option Code->Loop} {d:Nat} {f:TypeId} {st:LoopState} {c:Option Code} (h:Books a d st c A) (b:Kep (Zh4 D f A) A B):Books a d st c B :=
 ⟨(b.block _ h.lt (fun ⟨_,_,_,e⟩=>by rw [h.loop] at e;cases e)).trans h.loop,(b.block _ (by have:=h.lt;omega) (fun ⟨_,_,_,e⟩=>by rw [h.calls] at e;cases e)).trans h.calls⟩
def Ze1 (T:Nat->Prop) (D:Nat) (e:TypeId) (W:World) (b:Nat):Prop:=T b\/(D<=b/\∃a t fr,W.heap[b]? = some (.cells a t fr)/\t≠e)
theorem Ze1.step {i:Nat} (c:Ze1 T D e A i) (h:Kep (Ze1 T D e A) A B) (hi:i<A.heap.size):Ze1 T D e B i:=by
 have d:=h.block i hi c;rcases c with b|⟨b,a,t,fr,g,f⟩
 ·exact .inl b
 ·exact .inr ⟨b,a,t,fr,d.trans g,f⟩
theorem Ze1.trans {C:World} (h:Kep (Ze1 T D e A) A B) (k:Kep (Ze1 T D e B) B C):Kep (Ze1 T D e A) A C:=h.andThen k fun i hi a=>a.step h hi
theorem ZrK {l:Nat} (W:World) (o:Obj) (h:¬T l) (hl:l<W.heap.size) (c:∀a t fr,W.heap[l]? ≠ some (.cells a t fr)):Kep (Ze1 T D e W) W (W.putObj l o) :=
 ZO (grownBy_putObj' W l o) fun k b hs=>by cases b;exact hs.elim h fun ⟨_,a,t,fr,d,_⟩=>c a t fr d
def ZnB {α:Type} (F:Fence) (n:Nat) (P:Program) (f:Nat) (lb:Array Value) (a:α->Array Value) (T:Nat->Prop) (D:Nat) (g d:TypeId) (R:α->World->Prop) (S h:List α->Prop) (N:Nat) (w:World):Prop :=
 ∀(l:Nat) (J b:List α->World->Prop) (W:World),Below w.heap.size w W->D<=W.heap.size->Zdr D d J->Zdr D d b ->
   (∀pre x A,J pre A->R x A->pre.length<N->YieldAt F (n - 1) P l (a x) A fun e B =>
    (e=.returned (.bool true)/\J (pre++[x]) B/\Kep (Ze1 T D g A) A B)\/(e=.returned (.bool false)/\b (pre++[x]) B)) ->
   J [] W ->
   CallsIn F n P f (#[.func (.yield l) #[] #[]]++lb) W fun e B=>(∃v,e=.returned v)/\((∃c,S c/\J c B)\/(∃pre,h pre/\b pre B))
def ZwY {α:Type} (D:Nat) (T:Nat->Prop) (c:TypeId) (I b:List α->World->Prop) (a:List α) (A:World):Exit->Act->World->Prop
 | .normal,_,B=>KeepsFrom D A B/\Kep (Ze1 T D c A) A B/\I a B
 | .ret,_,B=>KeepsFrom D A B/\b a B
 | _,_,_=>False
variable {F : Fence} {n : Nat} {P : Program}
theorem Zpv {α:Type} {g:Operand} {ps:Array Tmp} {assign body:Code} {Q:Exit->Act->World->Prop} {a:Act} {w:World}
  (ah:F.round=none) (h1:1<=n) {gf:Nat} {lb:Array Value} (hg:a.eval g=.func (.func gf) #[] lb) (hF:F.fn gf) (eg:∀args w,(callFunc gf args).run P w=.ok (.enter gf args) w)
  {m:α->Array Value} {T:Nat->Prop} {et er:TypeId} {R:α->World->Prop} {S Sp:List α->Prop} {N:Nat} {w0:World} (Y:ZnB F (n - 1) P gf lb m T w.heap.size et er R S Sp N w0) (ab:Below w0.heap.size w0 w) (hT:∀k,T k->k<w.heap.size)
  (ae:∀x,(m x).size=ps.size) (I Ix:List α->World->Prop) (hI:OwnFrom w.heap.size I) (aa:OwnFrom w.heap.size Ix) (ag:Zdr w.heap.size er I) (X:Zdr w.heap.size er Ix) (hR:OwnFrom w.heap.size R) (h0:I [] w) (a₁:α->Act)
  (q:∀(l:Nat) (x:α) (W:World) (K:Act->World->Prop),K (a₁ x) W ->
   assign.wpIn (F.inRound l) (n - 1 - 1) P (Exit.then K (fun _ _ _=>False)) { tmps:=(ps.zip (m x)).foldl (fun t (p,v)=>t.setIfInBounds p v) a.tmps,defers:=[] } W)
  (L:∀(l:Nat) (pre:List α) (x:α) (W:World),I pre W->R x W->pre.length<N->body.wpIn (F.inRound l) (n - 1 - 1) P (ZwY w.heap.size T et I Ix (pre++[x]) W) (a₁ x) W)
  (H:∀(D:Nat) (xs:List α) (W:World),w.heap.size<=D->S xs->I xs W->W.heap[D]? = some (.deferred (some []))->Q .normal { a with defers:={ target:=.collected D,args:=#[] }::a.defers } W)
  (G:∀(D:Nat) (pre:List α) (W:World),w.heap.size<=D->Sp pre->Ix pre W->W.heap[D]? = some (.deferred (some []))->Code.ret.wpIn F n P Q { a with defers:={ target:=.collected D,args:=#[] }::a.defers } W) :
  (Code.rangeFunc g ps assign body).wpIn F n P Q a w:=by
 refine wpIn_rangeFunc fun fn aj => ?_;rw [ah];obtain ⟨b,d⟩:∃b:LoopState->Option Code->Loop,∀st y,b st y={ state:=st,pending:=y,fn:=fn,tmps:=a.tmps,params:=ps,assign:=assign,body:=body,defers:=w.heap.size }:=⟨_,fun _ _=>rfl⟩;obtain ⟨E,r⟩:=Xn ((w.alloc (.deferred (some []))).alloc (.loop (b .ready none)))
 have Z:Books b w.heap.size .ready none E:=by
  subst r;refine ⟨?_,(Below.heap_alloc _ _ _ (by simp)).trans (World.alloc_heap_new w _)⟩;have:=World.alloc_heap_new (w.alloc (.deferred (some []))) (.loop (b .ready none))
  rwa [World.size_alloc] at this
 have al:I [] E:=by subst r;exact hI.alloc _ (hI.alloc _ h0)
 have ak:Below w0.heap.size w0 E:=by subst r;exact ab.trans ((((Below.refl _ w).alloc (Xa _) _).alloc (by simp) _).mono ab.size)
 have o:∀{I':List α->World->Prop},Zdr w.heap.size er I'->∀{st y},Zdr w.heap.size er (fun pre W=>I' pre W/\Books b w.heap.size st y W):=fun h' _ _ s A B hs O=>⟨h' s A B hs.1 O,hs.2.free O⟩
 have C:∀{st:LoopState} {y:Option Code} (i:Option Code) (W:World),Books b w.heap.size st y W ->
   (Instr.endRound (w.heap.size+1) i).run P W=.ok (.bool i.isNone) (W.putObj (w.heap.size+1) (.loop (b (if i.isNone then .ready else .done) i))):=fun i W h=>by
  have:=run_endRound (P:=P) i h.loop;rw [d] at this ⊢;exact this
 have u:∀{st:LoopState} {y:Option Code} (W:World),st≠.busy->Books b w.heap.size st y W->(Instr.endLoop (w.heap.size+1)).run P W=.ok y (W.putObj (w.heap.size+1) (.loop (b .exhausted y))):=fun W ai h=>by
  have:=run_endLoop (P:=P) h.loop (by rw [d];exact ai);rw [d] at this ⊢;exact this
 refine ⟨w.heap.size+1,[{ target:=.collected w.heap.size,args:=#[] }],E,{ target:=.fn (.func gf) lb,args:=#[.func (.yield (w.heap.size+1)) #[] #[]] },E,gf,
  #[.func (.yield (w.heap.size+1)) #[] #[]]++lb,E,?_,?_,?_,?_,fun _=>h1,?_⟩
 ·rw [<- r,d];exact run_enterLoop_outer _ _ _ _ _
 ·simp only [resolve,hg];simp [go_sem]
 ·intro f' ac;simp [Target.leads] at ac;subst ac;exact hF
 ·simp [invoke,go_sem,eg]
 refine (Y (w.heap.size+1) (fun pre W=>I pre W/\Books b w.heap.size .ready none W) (fun pre W=>Ix pre W/\Books b w.heap.size .done (some .ret) W) E ak (by subst r;simp;omega) (o ag) (o X) ?_ ⟨al,Z⟩).mono ?_
 ·rintro pre x A ⟨hi,c⟩ hx V;have hy:=run_yield (P:=P) (args:=m x) c.loop (by rw [d];exact ae x);rw [d] at hy;have j:=run_beginRound (P:=P) c.loop (by rw [d]);have J:({ b .ready none with state:=.busy }:Loop)=b .busy none:=by rw [d,d]
  rw [J] at j;refine ⟨fn,_,assign,body,hy,roundIn_of_wpIn aj (q _ x A _ ⟨_,j,?_⟩)⟩;have z:Books b w.heap.size .busy none (A.putObj (w.heap.size+1) (.loop (b .busy none))):=c.turn;refine wpIn_mono (L _ pre x _ (hI.putObj _ hi (by omega) c.loop rfl) (hR.putObj _ hx (by omega) c.loop rfl) V) ?_;have af:Kep (Ze1 T w.heap.size et A) A (A.putObj (w.heap.size+1) (.loop (b .busy none))):=ZrK _ _ (fun h=>by have:=hT _ h;omega) c.lt (fun _ _ _ h=>by rw [c.loop] at h;cases h);rintro e a3 B U;cases e with
  | normal =>
    obtain ⟨O,am,M⟩:=U;have f:=z.keeps O;exact ⟨_,_,C none B f,.inl ⟨rfl,⟨hI.putObj _ M (by omega) f.loop rfl,f.turn⟩,Ze1.trans (Ze1.trans af am) (ZrK _ _ (fun h=>by have:=hT _ h;omega) f.lt (fun _ _ _ h=>by rw [f.loop] at h;cases h))⟩⟩
  | ret =>
    obtain ⟨O,M⟩:=U;have f:=z.keeps O;exact ⟨_,_,C (some .ret) B f,.inr ⟨rfl,aa.putObj _ M (by omega) f.loop rfl,f.turn⟩⟩
  | exit id=>exact U.elim
  | goto t=>exact U.elim
  | panic ch=>exact U.elim
  | outgrown=>exact U.elim
 ·rintro e B ⟨⟨v,rfl⟩,(⟨xs,hS,hi,c⟩|⟨pre,ad,hi,c⟩)⟩
  ·exact ⟨none,_,u B (by simp) c,H _ xs _ (Xa _) hS (hI.putObj _ hi (by omega) c.loop rfl) (c.turn (st':=.exhausted)).calls⟩
  ·exact ⟨some .ret,_,u B (by simp) c,G _ pre _ (Xa _) ad (aa.putObj _ hi (by omega) c.loop rfl) (c.turn (st':=.exhausted)).calls⟩
