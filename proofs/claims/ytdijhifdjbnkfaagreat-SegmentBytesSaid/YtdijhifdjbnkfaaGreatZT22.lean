import Derived.RangeFuncNested
import Derived.RangeFuncBound
import Derived.Shelf.RegionOpen
import Derived.OwnWalkIn
import Derived.LoopNIn
import Derived.LoopIn
import Derived.Test.YtdijhifdjbnkfaaGreatZT5
set_option maxRecDepth 100000
set_option maxHeartbeats 0
set_option linter.unusedVariables false
set_option linter.unusedSimpArgs false
namespace Go.Proofs.YtdijhifdjbnkfaaGreat
open Lib (hid)
open Tryz
namespace RF
open RowKit
variable {D:Nat} {A B:World}
def Zdn {β:Type} (J:β->World->Prop):Prop:=∀s A B,J s A->A.grownBy B none->J s B
def Zz3 {α:Type} (F:Fence) (n:Nat) (P:Program) (f:Nat) (lb:Array Value) (a:α->Array Value) (n₀:Nat) (R:α->World->Prop) (S d:List α->Prop) (N:Nat) (w:World):Prop :=
 ∀(l:Nat) (J b:List α->World->Prop) (W:World),Below w.heap.size w W->Zdn J->Zdn b ->
   (∀pre x A,J pre A->R x A->pre.length<N->YieldAt F (n - 1) P l (a x) A fun e B =>
    (e=.returned (.bool true)/\J (pre++[x]) B/\Below n₀ A B)\/(e=.returned (.bool false)/\b (pre++[x]) B)) ->
   J [] W ->
   CallsIn F n P f (#[.func (.yield l) #[] #[]]++lb) W fun e B=>(∃v,e=.returned v)/\((∃c,S c/\J c B)\/(∃pre,d pre/\b pre B))
def Left {α:Type} (D n₀:Nat) (I b:List α->World->Prop) (a:List α) (A:World):Exit->Act->World->Prop
 | .normal,_,B=>KeepsFrom D A B/\Below n₀ A B/\I a B
 | .ret,_,B=>KeepsFrom D A B/\b a B
 | _,_,_=>False
structure Books (rec:LoopState->Option Code->Loop) (D:Nat) (st:LoopState) (pe:Option Code) (W:World):Prop where
 loop:W.heap[D+1]? = some (.loop (rec st pe))
 calls:W.heap[D]? = some (.deferred (some []))
theorem Books.lt {a:LoopState->Option Code->Loop} {st:LoopState} {b:Option Code} {W:World} (h:Books a D st b W):D+1<W.heap.size:=(Xo.1 h.loop).1
theorem Books.grown {a:LoopState->Option Code->Loop} {st:LoopState} {b:Option Code} (h:Books a D st b A) (c:A.grownBy B none):Books a D st b B :=
 ⟨(c.block _ h.lt (by simp)).trans h.loop,(c.block _ (by have:=h.lt;omega) (by simp)).trans h.calls⟩
theorem Books.keeps {a:LoopState->Option Code->Loop} {st:LoopState} {b:Option Code} (h:Books a D st b A) (c:KeepsFrom D A B):Books a D st b B :=
 ⟨c.same _ _ (by omega) h.loop rfl,c.same _ _ (Xc _) h.calls rfl⟩
theorem Books.turn {a:LoopState->Option Code->Loop} {st st':LoopState} {c b:Option Code} (h:Books a D st c A):Books a D st' b (A.putObj (D+1) (.loop (a st' b))) :=
 ⟨World.putObj_heap_same h.lt,(World.putObj_heap_other (by omega)).trans h.calls⟩
theorem ZlJ {n₀ l:Nat} (W:World) (o:Obj) (h:n₀<=l) (hl:l<W.heap.size):Below n₀ W (W.putObj l o) :=
 (Below.refl n₀ W).grown (grownBy_putObj' W l o) (by omega) (fun k e=>by cases e;exact h)
variable {F : Fence} {n : Nat} {P : Program}
open RowKit MM
theorem Zi9 {T:Nat->Prop} {l:Nat} (W:World) (o:Obj) (h:¬T l) (hl:l<W.heap.size):Kep T W (W.putObj l o):=ZM (grownBy_putObj' W l o) fun k a hs=>by cases a;exact h hs
def Ztd {α:Type} (F:Fence) (n:Nat) (P:Program) (f:Nat) (lb:Array Value) (a:α->Array Value) (T:Nat->Prop) (R:α->World->Prop) (S d:List α->Prop) (N:Nat) (w:World):Prop :=
 ∀(l:Nat) (J b:List α->World->Prop) (W:World),Below w.heap.size w W->Zdn J->Zdn b ->
   (∀pre x A,J pre A->R x A->pre.length<N->YieldAt F (n - 1) P l (a x) A fun e B =>
    (e=.returned (.bool true)/\J (pre++[x]) B/\Kep T A B)\/(e=.returned (.bool false)/\b (pre++[x]) B)) ->
   J [] W ->
   CallsIn F n P f (#[.func (.yield l) #[] #[]]++lb) W fun e B=>(∃v,e=.returned v)/\((∃c,S c/\J c B)\/(∃pre,d pre/\b pre B))
def Ztb {α:Type} (D:Nat) (T:Nat->Prop) (I b:List α->World->Prop) (a:List α) (A:World):Exit->Act->World->Prop
 | .normal,_,B=>KeepsFrom D A B/\Kep T A B/\I a B
 | .ret,_,B=>KeepsFrom D A B/\b a B
 | _,_,_=>False
variable {F : Fence} {n : Nat} {P : Program}
theorem ZtJ {α:Type} {g:Operand} {ps:Array Tmp} {assign body:Code} {Q:Exit->Act->World->Prop} {a:Act} {w:World}
  (ah:F.round=none) (h1:1<=n) {gf:Nat} {lb:Array Value} (hg:a.eval g=.func (.func gf) #[] lb) (hF:F.fn gf) (eg:∀args w,(callFunc gf args).run P w=.ok (.enter gf args) w)
  {m:α->Array Value} {T:Nat->Prop} {R:α->World->Prop} {S Sp:List α->Prop} {N:Nat} {w0:World} (ab:Ztd F (n - 1) P gf lb m T R S Sp N w0) (ac:Below w0.heap.size w0 w) (hT:∀k,T k->k<w.heap.size)
  (am:∀x,(m x).size=ps.size) (I Ix:List α->World->Prop) (V:OwnFrom w.heap.size I) (H:OwnFrom w.heap.size Ix) (hR:OwnFrom w.heap.size R) (h0:I [] w) (a₁:α->Act)
  (u:∀(l:Nat) (x:α) (W:World) (K:Act->World->Prop),K (a₁ x) W ->
   assign.wpIn (F.inRound l) (n - 1 - 1) P (Exit.then K (fun _ _ _=>False)) { tmps:=(ps.zip (m x)).foldl (fun t (p,v)=>t.setIfInBounds p v) a.tmps,defers:=[] } W)
  (M:∀(l:Nat) (pre:List α) (x:α) (W:World),I pre W->R x W->pre.length<N->body.wpIn (F.inRound l) (n - 1 - 1) P (Ztb w.heap.size T I Ix (pre++[x]) W) (a₁ x) W)
  (J:∀(D:Nat) (xs:List α) (W:World),w.heap.size<=D->S xs->I xs W->W.heap[D]? = some (.deferred (some []))->Q .normal { a with defers:={ target:=.collected D,args:=#[] }::a.defers } W)
  (L:∀(D:Nat) (pre:List α) (W:World),w.heap.size<=D->Sp pre->Ix pre W->W.heap[D]? = some (.deferred (some []))->Code.ret.wpIn F n P Q { a with defers:={ target:=.collected D,args:=#[] }::a.defers } W) :
  (Code.rangeFunc g ps assign body).wpIn F n P Q a w:=by
 refine wpIn_rangeFunc fun fn ak => ?_;rw [ah];obtain ⟨b,d⟩:∃b:LoopState->Option Code->Loop,∀st y,b st y={ state:=st,pending:=y,fn:=fn,tmps:=a.tmps,params:=ps,assign:=assign,body:=body,defers:=w.heap.size }:=⟨_,fun _ _=>rfl⟩;obtain ⟨U,z⟩:=Xn ((w.alloc (.deferred (some []))).alloc (.loop (b .ready none)))
 have ad:Books b w.heap.size .ready none U:=by
  subst z;refine ⟨?_,(Below.heap_alloc _ _ _ (by simp)).trans (World.alloc_heap_new w _)⟩;have:=World.alloc_heap_new (w.alloc (.deferred (some []))) (.loop (b .ready none))
  rwa [World.size_alloc] at this
 have af:I [] U:=by subst z;exact V.alloc _ (V.alloc _ h0)
 have ag:Below w0.heap.size w0 U:=by subst z;exact ac.trans ((((Below.refl _ w).alloc (Xc _) _).alloc (by simp) _).mono ac.size)
 have q:∀{I':List α->World->Prop},OwnFrom w.heap.size I'->∀{st y},Zdn (fun pre W=>I' pre W/\Books b w.heap.size st y W):=fun h' _ _ s A B hs Z=>⟨h' s A B none hs.1 Z (fun r e=>by cases e),hs.2.grown Z⟩
 have E:∀{st:LoopState} {y:Option Code} (i:Option Code) (W:World),Books b w.heap.size st y W ->
   (Instr.endRound (w.heap.size+1) i).run P W=.ok (.bool i.isNone) (W.putObj (w.heap.size+1) (.loop (b (if i.isNone then .ready else .done) i))):=fun i W h=>by
  have:=run_endRound (P:=P) i h.loop;rw [d] at this ⊢;exact this
 have o:∀{st:LoopState} {y:Option Code} (W:World),st≠.busy->Books b w.heap.size st y W->(Instr.endLoop (w.heap.size+1)).run P W=.ok y (W.putObj (w.heap.size+1) (.loop (b .exhausted y))):=fun W ai h=>by
  have:=run_endLoop (P:=P) h.loop (by rw [d];exact ai);rw [d] at this ⊢;exact this
 refine ⟨w.heap.size+1,[{ target:=.collected w.heap.size,args:=#[] }],U,{ target:=.fn (.func gf) lb,args:=#[.func (.yield (w.heap.size+1)) #[] #[]] },U,gf,
  #[.func (.yield (w.heap.size+1)) #[] #[]]++lb,U,?_,?_,?_,?_,fun _=>h1,?_⟩
 ·rw [<- z,d];exact run_enterLoop_outer _ _ _ _ _
 ·simp only [resolve,hg];simp [go_sem]
 ·intro f' aa;simp [Target.leads] at aa;subst aa;exact hF
 ·simp [invoke,go_sem,eg]
 refine (ab (w.heap.size+1) (fun pre W=>I pre W/\Books b w.heap.size .ready none W) (fun pre W=>Ix pre W/\Books b w.heap.size .done (some .ret) W) U ag (q V) (q H) ?_ ⟨af,ad⟩).mono ?_
 ·rintro pre x A ⟨hi,c⟩ hx Y;have hy:=run_yield (P:=P) (args:=m x) c.loop (by rw [d];exact am x);rw [d] at hy;have j:=run_beginRound (P:=P) c.loop (by rw [d]);have O:({ b .ready none with state:=.busy }:Loop)=b .busy none:=by rw [d,d]
  rw [O] at j;refine ⟨fn,_,assign,body,hy,roundIn_of_wpIn ak (u _ x A _ ⟨_,j,?_⟩)⟩;have C:Books b w.heap.size .busy none (A.putObj (w.heap.size+1) (.loop (b .busy none))):=c.turn;refine wpIn_mono (M _ pre x _ (V.putObj _ hi (by omega) c.loop rfl) (hR.putObj _ hx (by omega) c.loop rfl) Y) ?_;have aj:Kep T A (A.putObj (w.heap.size+1) (.loop (b .busy none))):=Zi9 _ _ (fun h=>by have:=hT _ h;omega) c.lt;rintro e a3 B X;cases e with
  | normal =>
    obtain ⟨hk,ae,G⟩:=X;have f:=C.keeps hk;exact ⟨_,_,E none B f,.inl ⟨rfl,⟨V.putObj _ G (by omega) f.loop rfl,f.turn⟩,(aj.trans ae).trans (Zi9 _ _ (fun h=>by have:=hT _ h;omega) f.lt)⟩⟩
  | ret =>
    obtain ⟨hk,G⟩:=X;have f:=C.keeps hk;exact ⟨_,_,E (some .ret) B f,.inr ⟨rfl,H.putObj _ G (by omega) f.loop rfl,f.turn⟩⟩
  | exit id=>exact X.elim
  | goto t=>exact X.elim
  | panic ch=>exact X.elim
  | outgrown=>exact X.elim
 ·rintro e B ⟨⟨v,rfl⟩,(⟨xs,hS,hi,c⟩|⟨pre,al,hi,c⟩)⟩
  ·exact ⟨none,_,o B (by simp) c,J _ xs _ (Xc _) hS (V.putObj _ hi (by omega) c.loop rfl) (c.turn (st':=.exhausted)).calls⟩
  ·exact ⟨some .ret,_,o B (by simp) c,L _ pre _ (Xc _) al (H.putObj _ hi (by omega) c.loop rfl) (c.turn (st':=.exhausted)).calls⟩
def Zte {α:Type} (F:Fence) (n:Nat) (P:Program) (f:Nat) (lb:Array Value) (a:α->Array Value) (T:Nat->Prop) (R:List α->α->World->Prop) (S d:List α->Prop) (N:Nat) (w:World):Prop :=
 ∀(l:Nat) (J b:List α->World->Prop) (W:World),Below w.heap.size w W->Zdn J->Zdn b ->
   (∀pre x A,J pre A->R pre x A->pre.length<N->YieldAt F (n - 1) P l (a x) A fun e B =>
    (e=.returned (.bool true)/\J (pre++[x]) B/\Kep T A B)\/(e=.returned (.bool false)/\b (pre++[x]) B)) ->
   J [] W ->
   CallsIn F n P f (#[.func (.yield l) #[] #[]]++lb) W fun e B=>(∃v,e=.returned v)/\((∃c,S c/\J c B)\/(∃pre,d pre/\b pre B))
variable {F : Fence} {n : Nat} {P : Program}
theorem ZtK {α:Type} {g:Operand} {ps:Array Tmp} {assign body:Code} {Q:Exit->Act->World->Prop} {a:Act} {w:World}
  (ah:F.round=none) (h1:1<=n) {gf:Nat} {lb:Array Value} (hg:a.eval g=.func (.func gf) #[] lb) (hF:F.fn gf) (eg:∀args w,(callFunc gf args).run P w=.ok (.enter gf args) w)
  {m:α->Array Value} {T:Nat->Prop} {R:List α->α->World->Prop} {S Sp:List α->Prop} {N:Nat} {w0:World} (ab:Zte F (n - 1) P gf lb m T R S Sp N w0) (ac:Below w0.heap.size w0 w) (hT:∀k,T k->k<w.heap.size)
  (am:∀x,(m x).size=ps.size) (I Ix:List α->World->Prop) (V:OwnFrom w.heap.size I) (H:OwnFrom w.heap.size Ix) (hR:∀pre,OwnFrom w.heap.size (R pre)) (h0:I [] w) (a₁:α->Act)
  (u:∀(l:Nat) (x:α) (W:World) (K:Act->World->Prop),K (a₁ x) W ->
   assign.wpIn (F.inRound l) (n - 1 - 1) P (Exit.then K (fun _ _ _=>False)) { tmps:=(ps.zip (m x)).foldl (fun t (p,v)=>t.setIfInBounds p v) a.tmps,defers:=[] } W)
  (M:∀(l:Nat) (pre:List α) (x:α) (W:World),I pre W->R pre x W->pre.length<N->body.wpIn (F.inRound l) (n - 1 - 1) P (Ztb w.heap.size T I Ix (pre++[x]) W) (a₁ x) W)
  (J:∀(D:Nat) (xs:List α) (W:World),w.heap.size<=D->S xs->I xs W->W.heap[D]? = some (.deferred (some []))->Q .normal { a with defers:={ target:=.collected D,args:=#[] }::a.defers } W)
  (L:∀(D:Nat) (pre:List α) (W:World),w.heap.size<=D->Sp pre->Ix pre W->W.heap[D]? = some (.deferred (some []))->Code.ret.wpIn F n P Q { a with defers:={ target:=.collected D,args:=#[] }::a.defers } W) :
  (Code.rangeFunc g ps assign body).wpIn F n P Q a w:=by
 refine wpIn_rangeFunc fun fn ak => ?_;rw [ah];obtain ⟨b,d⟩:∃b:LoopState->Option Code->Loop,∀st y,b st y={ state:=st,pending:=y,fn:=fn,tmps:=a.tmps,params:=ps,assign:=assign,body:=body,defers:=w.heap.size }:=⟨_,fun _ _=>rfl⟩;obtain ⟨U,z⟩:=Xn ((w.alloc (.deferred (some []))).alloc (.loop (b .ready none)))
 have ad:Books b w.heap.size .ready none U:=by
  subst z;refine ⟨?_,(Below.heap_alloc _ _ _ (by simp)).trans (World.alloc_heap_new w _)⟩;have:=World.alloc_heap_new (w.alloc (.deferred (some []))) (.loop (b .ready none))
  rwa [World.size_alloc] at this
 have af:I [] U:=by subst z;exact V.alloc _ (V.alloc _ h0)
 have ag:Below w0.heap.size w0 U:=by subst z;exact ac.trans ((((Below.refl _ w).alloc (Xc _) _).alloc (by simp) _).mono ac.size)
 have q:∀{I':List α->World->Prop},OwnFrom w.heap.size I'->∀{st y},Zdn (fun pre W=>I' pre W/\Books b w.heap.size st y W):=fun h' _ _ s A B hs Z=>⟨h' s A B none hs.1 Z (fun r e=>by cases e),hs.2.grown Z⟩
 have E:∀{st:LoopState} {y:Option Code} (i:Option Code) (W:World),Books b w.heap.size st y W ->
   (Instr.endRound (w.heap.size+1) i).run P W=.ok (.bool i.isNone) (W.putObj (w.heap.size+1) (.loop (b (if i.isNone then .ready else .done) i))):=fun i W h=>by
  have:=run_endRound (P:=P) i h.loop;rw [d] at this ⊢;exact this
 have o:∀{st:LoopState} {y:Option Code} (W:World),st≠.busy->Books b w.heap.size st y W->(Instr.endLoop (w.heap.size+1)).run P W=.ok y (W.putObj (w.heap.size+1) (.loop (b .exhausted y))):=fun W ai h=>by
  have:=run_endLoop (P:=P) h.loop (by rw [d];exact ai);rw [d] at this ⊢;exact this
 refine ⟨w.heap.size+1,[{ target:=.collected w.heap.size,args:=#[] }],U,{ target:=.fn (.func gf) lb,args:=#[.func (.yield (w.heap.size+1)) #[] #[]] },U,gf,
  #[.func (.yield (w.heap.size+1)) #[] #[]]++lb,U,?_,?_,?_,?_,fun _=>h1,?_⟩
 ·rw [<- z,d];exact run_enterLoop_outer _ _ _ _ _
 ·simp only [resolve,hg];simp [go_sem]
 ·intro f' aa;simp [Target.leads] at aa;subst aa;exact hF
 ·simp [invoke,go_sem,eg]
 refine (ab (w.heap.size+1) (fun pre W=>I pre W/\Books b w.heap.size .ready none W) (fun pre W=>Ix pre W/\Books b w.heap.size .done (some .ret) W) U ag (q V) (q H) ?_ ⟨af,ad⟩).mono ?_
 ·rintro pre x A ⟨hi,c⟩ hx Y;have hy:=run_yield (P:=P) (args:=m x) c.loop (by rw [d];exact am x);rw [d] at hy;have j:=run_beginRound (P:=P) c.loop (by rw [d]);have O:({ b .ready none with state:=.busy }:Loop)=b .busy none:=by rw [d,d]
  rw [O] at j;refine ⟨fn,_,assign,body,hy,roundIn_of_wpIn ak (u _ x A _ ⟨_,j,?_⟩)⟩;have C:Books b w.heap.size .busy none (A.putObj (w.heap.size+1) (.loop (b .busy none))):=c.turn;refine wpIn_mono (M _ pre x _ (V.putObj _ hi (by omega) c.loop rfl) ((hR pre).putObj _ hx (by omega) c.loop rfl) Y) ?_;have aj:Kep T A (A.putObj (w.heap.size+1) (.loop (b .busy none))):=Zi9 _ _ (fun h=>by have:=hT _ h;omega) c.lt;rintro e a3 B X;cases e with
  | normal =>
    obtain ⟨hk,ae,G⟩:=X;have f:=C.keeps hk;exact ⟨_,_,E none B f,.inl ⟨rfl,⟨V.putObj _ G (by omega) f.loop rfl,f.turn⟩,(aj.trans ae).trans (Zi9 _ _ (fun h=>by have:=hT _ h;omega) f.lt)⟩⟩
  | ret =>
    obtain ⟨hk,G⟩:=X;have f:=C.keeps hk;exact ⟨_,_,E (some .ret) B f,.inr ⟨rfl,H.putObj _ G (by omega) f.loop rfl,f.turn⟩⟩
  | exit id=>exact X.elim
  | goto t=>exact X.elim
  | panic ch=>exact X.elim
  | outgrown=>exact X.elim
 ·rintro e B ⟨⟨v,rfl⟩,(⟨xs,hS,hi,c⟩|⟨pre,al,hi,c⟩)⟩
  ·exact ⟨none,_,o B (by simp) c,J _ xs _ (Xc _) hS (V.putObj _ hi (by omega) c.loop rfl) (c.turn (st':=.exhausted)).calls⟩
  ·exact ⟨some .ret,_,o B (by simp) c,L _ pre _ (Xc _) al (H.putObj _ hi (by omega) c.loop rfl) (c.turn (st':=.exhausted)).calls⟩
end RF
namespace ST
open RowKit Go.Shelf MM SM
open EV (ZA Zad)
open RF (Zte Zdn)
attribute [local go_sem] Oper.semAt_some
def ZH (l:List Zo):List (List Zo):=(List.range (Zv l.length)).map (ZaG l)
theorem Zw6:ZA.size=3:=rfl
abbrev Part:=Value×List Zo
abbrev ZrZ (x:Part):Array Value:=#[x.1]
def ZrB (T:Nat->Prop) (l:List Zo) (pre:List Part) (x:Part) (W:World):Prop:=ZD ZA T W x.1 x.2/\x.2=ZaG l pre.length
theorem Zpl {α:Type} {C:Codec α} {S:Nat->Prop} {w:World} {p:Option Addr} {n b cap':Nat} {es:List α} (h:ZD C S w (.slice p n b) es) (f:n<=cap') (i:cap'<=maxLen) (g:p≠none):ZD C S w (.slice p n cap') es:=by
 obtain ⟨p',c',a,c,a1,a2,a3,d,e⟩:=h;simp only [Value.slice.injEq] at c;obtain ⟨rfl,rfl,rfl⟩:=c;exact ⟨_,cap',a,rfl,f,i,fun h=>absurd h g,d,e⟩
theorem ZlT (l:List Zo) (k m:Nat) (h:m=min 16 (l.length - 16*k)):(l.drop (16*k)).take m=ZaG l k:=by
 unfold ZaG;subst h
 by_cases a:16<=l.length - 16*k
 ·rw [Xao a]
 ·rw [Xa3 (by omega),XM (by rw [Xj];exact Xc _),XM (by rw [Xj];omega)]
theorem ZlU (n:Nat) (hn:1<=n) (y t r:Nat) (T:Nat->Prop) (v0:Value) (l:List Zo) (J Jx:List Part->World->Prop) (hJ:Zdn J)
  (hY:∀pre x A,J pre A->ZrB T l pre x A->pre.length<Zv l.length->YieldAt Fence.wide (n - 1) prog y (ZrZ x) A fun e B =>
   (e=.returned (.bool true)/\J (pre++[x]) B/\Kep T A B)\/(e=.returned (.bool false)/\Jx (pre++[x]) B))
  (W:World) (U:W.cell? ⟨t,0,none⟩=some v0) (I:W.cell? ⟨r,0,none⟩=some (.int .i64 16)) (D:T t) (F:T r) (hl:ZD ZA T W v0 l) (h0:J [] W) (am:l.length<=65536) :
  CallsIn Fence.wide n prog 200 #[.func (.yield y) #[] #[],.pointer (some ⟨t,0,none⟩),.pointer (some ⟨r,0,none⟩)] W fun e B=>(∃v,e=.returned v) /\
   ((∃f,f.map (·.2)=ZH l/\J f B)\/(∃pre,True/\Jx pre B)):=by
 obtain ⟨p0,a,rfl,au,ad,_⟩:=hl.shape;unfold maxLen at ad;have ao:prog.follows .mixedOrders=true:=by kernel_rfl
 have M:=hid (And.intro hl (And.intro U I));have O:Hid (([]:List Part).map (·.2)=(List.range 0).map (ZaG l)):=hid rfl;have HY:=hid hY;clear hl hY U I;refine callsIn_of_wp func200 rfl trivial ?_ rfl;simp only [ntmps200,Xat,Xh,Xm,Nat.reduceAdd,Nat.reduceSub,XaB,XaC,XaD,XaE,Xz,XJ];gi_wp2
 gi_loopw [4] (fun iv wr=>∃(k:Nat) (f:List Part),iv=.int .i64 ((16*k:Nat):Int)/\k<=Zv l.length/\f.length=k/\Hid (f.map (·.2)=(List.range k).map (ZaG l))/\Hid (ZD ZA T wr (.slice p0 l.length a) l/\wr.cell? ⟨t,0,none⟩=some (.slice p0 l.length a)/\wr.cell? ⟨r,0,none⟩=some (.int .i64 16))/\J f wr) (fun iv _=>16*Zv l.length+16 - (intOf iv).toNat)
 case atStart=>exact ⟨0,[],rfl,XU _,rfl,O,M,h0⟩
 case round =>
  obtain ⟨k,f,rfl,hk,R,Z,HR,u⟩:=hrel;clear O M h0;obtain ⟨X,E,S⟩:=HR.out;have ap:Zv l.length=(l.length+15) / 16:=rfl;obtain ⟨i,hi⟩:=Xn (16*k);rw [hi]
  by_cases H:i<l.length
  ·have q1:decide ((i:Int)<(l.length:Int))=true:=Xt;have q2:decide (i<l.length)=true:=Xt;have q3:(i:Int)<=(l.length:Int):=by omega
   obtain ⟨m,hm⟩:=Xn (min 16 (l.length - i));have ag:min (16:Int) ((l.length - i:Nat):Int)=(m:Int):=by omega
   have ah:(if l.length - i<16 then ((l.length - i:Nat):Int) else 16)=(m:Int):=by split<;>omega
   have af:(if ((l.length - i:Nat):Int)<16 then ((l.length - i:Nat):Int) else 16)=(m:Int):=by split<;>omega
   obtain ⟨e,he⟩:=Xn (i+m);have av:(i:Int)+(m:Int)=(e:Int):=by omega
   have ar:IntKind.i64.wrap ((i:Int)+(m:Int))=(e:Int):=by rw [IntKind.wrap_i64];omega
   have q4:(e:Int)<=(a:Int):=by omega
   have q5:(i:Int)<=(e:Int):=by omega
   obtain ⟨b,off,vf,rfl,aq,an,_⟩:=Zad X H;have g:=(ZD.drop X i (by omega)).take m (by omega);rw [Xa (by omega),Xai,ZY,Zw6] at g;have d:=Zpl (cap':=m) g (Xc _) (by unfold maxLen;omega) (by simp);rw [show (l.drop i).take m=ZaG l k by rw [<- hi];exact ZlT l k m (by omega)] at d;rw [show m=e - i by omega] at d;obtain ⟨C,o⟩:=Xn wr.drew;have c:Below wr.heap.size wr C:=by rw [<- o];exact (Below.refl _ _).drew
   have V:wr.grownBy C none:=⟨c.os,c.tape,c.output,c.size,fun k hk _=>c.block k hk⟩;have ac:=hJ f wr C u V;obtain ⟨fn,tmps,assign,body,Y,G⟩:=HY.out f (.slice (some ⟨b,off+i*3,none⟩) (e - i) (e - i),ZaG l k) C ac ⟨ZD.keep d (Za T c) (fun _ _ h=>h),by rw [R]⟩ (by omega);dsimp only [ZrZ] at Y;rw [<- o] at Y;have z:=hid G;have w:=hid o;have s:Hid (ZD ZA T C (.slice (some ⟨b,off,none⟩) l.length a) l/\C.cell? ⟨t,0,none⟩=some (.slice (some ⟨b,off,none⟩) l.length a)/\C.cell? ⟨r,0,none⟩=some (.int .i64 16)):=hid ⟨ZD.keep X (Za T c) (fun _ _ h=>h),(c.cell (p:=⟨t,0,none⟩) (World.block_lt_of_cell? _ _ E)).trans E,(c.cell (p:=⟨r,0,none⟩) (World.block_lt_of_cell? _ _ S)).trans S⟩;have aj:Hid ((f++[((.slice (some ⟨b,off+i*3,none⟩) (e - i) (e - i):Value),ZaG l k)]).map (·.2)=(List.range (k+1)).map (ZaG l)):=hid (by rw [XN,Z.out,XaV,XN];rfl);have HI:Hid (16*k=i):=hid hi;have ai:k+1<=Zv l.length:=by omega
   have aa:Hid (k<Zv l.length):=hid (by omega);clear g d c V o G X HR Z u hi HY;gi_wp2
   gi_region_with_o (fail)
   all_goals gi_wp2
   all_goals rw [w.out]
   all_goals refine z.out.mono ?_
   all_goals rintro e w3 (⟨rfl,q,j⟩|⟨rfl,q⟩)
   all_goals first
    | (have N:ZD ZA T w3 (.slice (some ⟨b,off,none⟩) l.length a) l:=ZD.keep s.out.1 j (fun _ _ h=>h)
       have ab:w3.cell? ⟨t,0,none⟩=some (.slice (some ⟨b,off,none⟩) l.length a):=(j.cell (World.block_lt_of_cell? _ _ s.out.2.1) D 0).trans s.out.2.1;have ak:w3.cell? ⟨r,0,none⟩=some (.int .i64 16):=(j.cell (World.block_lt_of_cell? _ _ s.out.2.2) F 0).trans s.out.2.2;have al:=hid (And.intro N (And.intro ab ak));clear N j z Y s w aa;gi_wp2
       have hi:=HI.out;go_roundw
       case rel=>exact ⟨k+1,_,by rw [show ((16*(k+1):Nat):Int)=(i:Int)+16 by omega],ai,by rw [Xd,R];rfl,aj,al,q⟩
       case measure=>simp [intOf];omega)
    | (clear z Y s w
       gi_wp2
       refine bodyPost_ret (results_none rfl _ _ _) rfl ?_;exact ⟨⟨_,rfl⟩,.inr ⟨_,trivial,q⟩⟩)
  ·have q1:decide ((i:Int)<(l.length:Int))=false:=Xf;have q2:decide (i<l.length)=false:=Xf;have L:k=Zv l.length:=by omega
   have ht:=Z.out;rw [L] at ht;have ae:Hid (f.map (·.2)=ZH l):=hid ht;clear ht Z hi L H;gi_wp2
   go_end0
   exact ⟨⟨_,rfl⟩,.inl ⟨f,ae.out,u⟩⟩
theorem ZrN (n:Nat) (p:Option Addr) (m c:Nat) (W:World) :
  CallsIn Fence.wide n prog 135 #[.slice p m c,.int .i64 16] W fun e B=>e=.returned (.func (.func 200) #[] #[.pointer (some ⟨W.heap.size,0,none⟩),.pointer (some ⟨W.heap.size+1,0,none⟩)])/\B=(W.alloc (.cells #[.slice p m c] 22)).alloc (.cells #[.int .i64 16] 3):=by
 refine callsIn_of_wp func135 rfl trivial ?_ rfl;simp only [ntmps135,Xat,Xh,Xm,Nat.reduceAdd,Nat.reduceSub,XaB,XaC,XaD,XaE,Xz,XJ];gi_wp2
 go_ret;exact ⟨rfl,rfl⟩
theorem ZjN (n:Nat) (q:1<=n) (c b:Nat) (T:Nat->Prop) (v:Value) (l:List Zo) (w:World) (a:l.length<=65536) (d:T c) (e:T b) (j:∀k,T k->k<w.heap.size) (f:w.cell? ⟨c,0,none⟩=some v) (i:w.cell? ⟨b,0,none⟩=some (.int .i64 16)) (u:ZD ZA T w v l) :
  Zte Fence.wide n prog 200 #[.pointer (some ⟨c,0,none⟩),.pointer (some ⟨b,0,none⟩)] ZrZ T (ZrB T l) (fun s=>s.map (·.2)=ZH l) (fun _=>True) (Zv l.length) w :=
 fun y J r W g t _ m o=>ZlU n q y c b T v l J r t m W ((g.cell (p:=⟨c,0,none⟩) (j _ d)).trans f) ((g.cell (p:=⟨b,0,none⟩) (j _ e)).trans i) d e (ZD.keep u (Za T g) (fun _ _ h=>h)) o a
end ST
namespace TB
open RowKit MM GB
variable {B:Nat} {t:TypeId} {v x:Value} {l:Xu}
structure E3 (T:Nat->Prop) (w W0 W:World) (Bh Bb Ba:Nat) (xh xb xa vh vb vx:Value) (H Bd X:Xu):Prop where
 bh:Boxed W Bh 23 xh
 bb:Boxed W Bb 23 xb
 ba:Boxed W Ba 3 xa
 oh:Zd 0 W vh H
 ob:Zd 0 W vb Bd
 ox:Zd 0 W vx X
 fh:∀k,vh.ownBlock=some k->w.heap.size<=k/\¬T k
 fb:∀k,vb.ownBlock=some k->w.heap.size<=k/\¬T k
 hb:∀k,vh.ownBlock=some k->vb.ownBlock≠some k
 xx:∀k,vx.ownBlock=some k->vh.ownBlock≠some k/\vb.ownBlock≠some k
 low:Below w.heap.size w W
 kt:Kep T W0 W
 ko:KeepsOthers W0 W
 lB:(w.heap.size<=Bh/\w.heap.size<=Bb/\w.heap.size<=Ba)/\(Bh≠Bb/\Bh≠Ba/\Bb≠Ba)/\¬T Bh/\¬T Bb/\¬T Ba
 tW:∀k,T k->k<W0.heap.size
variable {T : Nat -> Prop} {w W0 W W' : World} {Bh Bb Ba : Nat} {xh xb xa vh vb vx vh' vb' : Value} {H Bd X H' Bd' : Xu}
theorem ZaI {S:Nat->Prop} (h:Boxed W B t v) (b:Kep S W W') (a:S B):Boxed W' B t v:=(b.block B h.lt a).trans h
theorem ZcS (h:Boxed W B t x) (a:t≠5) (b:Zd 0 W v l):v.ownBlock≠some B:=fun e=>h.not_row a b e.symm
theorem ne1:(23:TypeId)≠5:=by decide
theorem ne2:(3:TypeId)≠5:=by decide
theorem E3.below (h:E3 T w W0 W Bh Bb Ba xh xb xa vh vb vx H Bd X) (a:Below W.heap.size W W'):E3 T w W0 W' Bh Bb Ba xh xb xa vh vb vx H Bd X:=by
 have c:=Za (fun _=>True) a
 exact ⟨ZaI h.bh c trivial,ZaI h.bb c trivial,ZaI h.ba c trivial,h.oh.keep a,h.ob.keep a,h.ox.keep a,h.fh,h.fb,h.hb,h.xx,h.low.trans (a.mono h.low.size),h.kt.trans (Za _ a),
  h.ko.trans ⟨a.size,fun k o b _=>(a.block k (Xo.1 b).1).trans b⟩,h.lB,h.tW⟩
theorem Ziw {v':Value} (f:Zd 0 W v l) (c:Grown W W' v v'):KeepsOthers W W':=KeepsOthers.of_grownBy c.1 fun j o e a=>by
 obtain ⟨_,d,fr,b⟩:=Zbk f e;rw [b] at a;cases a
 rfl
theorem E3.growH (h:E3 T w W0 W Bh Bb Ba xh xb xa vh vb vx H Bd X) (c:Grown W W' vh vh') (i:Zd 0 W' vh' H'):E3 T w W0 W' Bh Bb Ba xh xb xa vh' vb vx H' Bd X:=by
 have hs:=c.1.size;have g:=h.low.size;have b:=c.kep;refine ⟨ZaI h.bh b (ZcS h.bh ne1 h.oh),ZaI h.bb b (ZcS h.bb ne1 h.oh),ZaI h.ba b (ZcS h.ba ne2 h.oh),i,Zd.kepOwn h.ob b (fun k a e=>h.hb k e a),Zd.kepOwn h.ox b (fun k a e=>(h.xx k a).1 e),fun k a => ?_,h.fb,fun k a e => ?_,fun k a=>⟨fun e => ?_,(h.xx k a).2⟩,h.low.trans (b.below g fun k a e=>by have:=(h.fh k e).1;omega),h.kt.andThen b (fun k _ f e=>(h.fh k e).2 f),h.ko.trans (Ziw h.oh c),h.lB,h.tW⟩
 ·rcases c.2 k a with e|e
  ·exact h.fh k e
  ·exact ⟨by omega,fun f=>by have:=h.tW k f;have:=h.kt.size;omega⟩
 ·rcases c.2 k a with d|d
  ·exact h.hb k d e
  ·have:=Zaw h.ob k e;omega
 ·rcases c.2 k e with d|d
  ·exact (h.xx k a).1 d
  ·have:=Zaw h.ox k a;omega
theorem E3.growB (h:E3 T w W0 W Bh Bb Ba xh xb xa vh vb vx H Bd X) (c:Grown W W' vb vb') (i:Zd 0 W' vb' Bd'):E3 T w W0 W' Bh Bb Ba xh xb xa vh vb' vx H Bd' X:=by
 have hs:=c.1.size;have g:=h.low.size;have b:=c.kep;refine ⟨ZaI h.bh b (ZcS h.bh ne1 h.ob),ZaI h.bb b (ZcS h.bb ne1 h.ob),ZaI h.ba b (ZcS h.ba ne2 h.ob),Zd.kepOwn h.oh b (fun k a e=>h.hb k a e),i,Zd.kepOwn h.ox b (fun k a e=>(h.xx k a).2 e),h.fh,fun k a => ?_,fun k a e => ?_,fun k a=>⟨(h.xx k a).1,fun e => ?_⟩,h.low.trans (b.below g fun k a e=>by have:=(h.fb k e).1;omega),h.kt.andThen b (fun k _ f e=>(h.fb k e).2 f),h.ko.trans (Ziw h.ob c),h.lB,h.tW⟩
 ·rcases c.2 k a with e|e
  ·exact h.fb k e
  ·exact ⟨by omega,fun f=>by have:=h.tW k f;have:=h.kt.size;omega⟩
 ·rcases c.2 k e with d|d
  ·exact h.hb k a d
  ·have:=Zaw h.oh k a;omega
 ·rcases c.2 k e with d|d
  ·exact (h.xx k a).2 d
  ·have:=Zaw h.ox k a;omega
theorem E3.setH (h:E3 T w W0 W Bh Bb Ba xh xb xa vh vb vx H Bd X) (x:Value):E3 T w W0 (W.setCell ⟨Bh,0,none⟩ x) Bh Bb Ba x xb xa vh vb vx H Bd X:=by
 obtain ⟨⟨l1,l2,l3⟩,⟨d,g,n3⟩,f,t2,t3⟩:=h.lB;have c:Kep (fun b=>b≠Bh) W (W.setCell ⟨Bh,0,none⟩ x):=Zx (fun h=>h rfl) x;exact ⟨h.bh.set x,ZaI h.bb c (Ne.symm d),ZaI h.ba c (Ne.symm g),Zd.kepOwn h.oh c (fun k a e=>ZcS h.bh ne1 h.oh (e▸a)),Zd.kepOwn h.ob c (fun k a e=>ZcS h.bh ne1 h.ob (e▸a)),Zd.kepOwn h.ox c (fun k a e=>ZcS h.bh ne1 h.ox (e▸a)),h.fh,h.fb,h.hb,h.xx,h.low.trans (c.below h.low.size fun k a=>by omega),h.kt.trans (Zx f x),h.ko.trans (KeepsOthers.setCell _ _ _),h.lB,h.tW⟩
theorem E3.setB (h:E3 T w W0 W Bh Bb Ba xh xb xa vh vb vx H Bd X) (x:Value):E3 T w W0 (W.setCell ⟨Bb,0,none⟩ x) Bh Bb Ba xh x xa vh vb vx H Bd X:=by
 obtain ⟨⟨l1,l2,l3⟩,⟨d,n2,g⟩,t1,f,t3⟩:=h.lB;have c:Kep (fun b=>b≠Bb) W (W.setCell ⟨Bb,0,none⟩ x):=Zx (fun h=>h rfl) x;exact ⟨ZaI h.bh c d,h.bb.set x,ZaI h.ba c (Ne.symm g),Zd.kepOwn h.oh c (fun k a e=>ZcS h.bb ne1 h.oh (e▸a)),Zd.kepOwn h.ob c (fun k a e=>ZcS h.bb ne1 h.ob (e▸a)),Zd.kepOwn h.ox c (fun k a e=>ZcS h.bb ne1 h.ox (e▸a)),h.fh,h.fb,h.hb,h.xx,h.low.trans (c.below h.low.size fun k a=>by omega),h.kt.trans (Zx f x),h.ko.trans (KeepsOthers.setCell _ _ _),h.lB,h.tW⟩
theorem E3.setA (h:E3 T w W0 W Bh Bb Ba xh xb xa vh vb vx H Bd X) (x:Value):E3 T w W0 (W.setCell ⟨Ba,0,none⟩ x) Bh Bb Ba xh xb x vh vb vx H Bd X:=by
 obtain ⟨⟨l1,l2,l3⟩,⟨n1,d,f⟩,t1,t2,t3⟩:=h.lB;have c:Kep (fun b=>b≠Ba) W (W.setCell ⟨Ba,0,none⟩ x):=Zx (fun h=>h rfl) x;exact ⟨ZaI h.bh c d,ZaI h.bb c f,h.ba.set x,Zd.kepOwn h.oh c (fun k a e=>ZcS h.ba ne2 h.oh (e▸a)),Zd.kepOwn h.ob c (fun k a e=>ZcS h.ba ne2 h.ob (e▸a)),Zd.kepOwn h.ox c (fun k a e=>ZcS h.ba ne2 h.ox (e▸a)),h.fh,h.fb,h.hb,h.xx,h.low.trans (c.below h.low.size fun k a=>by omega),h.kt.trans (Zx t3 x),h.ko.trans (KeepsOthers.setCell _ _ _),h.lB,h.tW⟩
theorem E3.row {Y:Xu} (h:E3 T w W0 W Bh Bb Ba xh xb xa vh vb vx H Bd X) (d:Below W.heap.size W W') (b:Zd W.heap.size W' x Y):E3 T w W0 W' Bh Bb Ba xh xb xa vh vb x H Bd Y:=by
 have a:=h.below d;exact ⟨a.bh,a.bb,a.ba,a.oh,a.ob,Zd.zero b,a.fh,a.fb,a.hb,fun k c=>⟨fun e=>by have:=Zaw h.oh k e;have:=(World.ownsRow.lt b k c).1;omega,fun e=>by have:=Zaw h.ob k e;have:=(World.ownsRow.lt b k c).1;omega⟩,a.low,a.kt,a.ko,a.lB,a.tW⟩
theorem E3.fresh (h:E3 T w W0 W Bh Bb Ba xh xb xa vh vb vx H Bd X):E3 T w W W Bh Bb Ba xh xb xa vh vb (.slice none 0 0) H Bd [] :=
 ⟨h.bh,h.bb,h.ba,h.oh,h.ob,World.ownsRow_nil _ _ _ _,h.fh,h.fb,h.hb,(fun k a=>by cases a),h.low,Kep.refl _ _,KeepsOthers.refl _,h.lB,fun k a=>XK (h.tW k a) h.kt.size⟩
theorem E3.own {D:Nat} {row:Option Nat} (h:E3 T w W W Bh Bb Ba xh xb xa vh vb (.slice none 0 0) H Bd []) (hD:w.heap.size<=D) (j:W.grownBy W' row) (m:∀r,row=some r->D<=r/\∃o:Obj,W.heap[r]? = some o/\o.isCells=false) :
  E3 T w W' W' Bh Bb Ba xh xb xa vh vb (.slice none 0 0) H Bd []:=by
 have d:Kep (fun b=>row≠some b) W W':=ZM j fun k d i=>i d
 have f:∀b c t fr,W.heap[b]? = some (.cells c t fr)->row≠some b:=fun b c t fr f e=>by
  obtain ⟨_,o,g,p⟩:=m b e;rw [f] at g;cases g
  cases p
 have g:∀{v:Value} {l:Xu},Zd 0 W v l->Zd 0 W' v l:=fun h=>Zd.kepOwn h d fun k a=>by
  obtain ⟨_,c,fr,n⟩:=Zbk h a;exact f k c _ fr n
 exact ⟨ZaI h.bh d (f _ _ _ _ h.bh),ZaI h.bb d (f _ _ _ _ h.bb),ZaI h.ba d (f _ _ _ _ h.ba),g h.oh,g h.ob,World.ownsRow_nil _ _ _ _,h.fh,h.fb,h.hb,h.xx,h.low.trans (d.below h.low.size fun k a e=>by have:=(m k e).1;omega),Kep.refl _ _,KeepsOthers.refl _,h.lB,fun k a=>XK (h.tW k a) j.size⟩
end TB
namespace RF
open RowKit MM
variable {D:Nat} {A B:World} {T:Nat->Prop} {e:TypeId}
def Zh1 (D:Nat) (c:TypeId) (A:World) (b:Nat):Prop:=¬(D<=b/\∃a fr,A.heap[b]? = some (.cells a c fr))
def Zdr {β:Type} (D:Nat) (a:TypeId) (J:β->World->Prop):Prop:=∀s A B,J s A->Kep (Zh1 D a A) A B->J s B
theorem Books.free {a:LoopState->Option Code->Loop} {b:Nat} {f:TypeId} {st:LoopState} {c:Option Code} (h:Books a b st c A) (d:Kep (Zh1 D f A) A B):Books a b st c B :=
 ⟨(d.block _ h.lt (fun ⟨_,_,_,e⟩=>by rw [h.loop] at e;cases e)).trans h.loop,(d.block _ (by have:=h.lt;omega) (fun ⟨_,_,_,e⟩=>by rw [h.calls] at e;cases e)).trans h.calls⟩
def Ze5 (T:Nat->Prop) (D:Nat) (e:TypeId) (W:World) (b:Nat):Prop:=T b\/(D<=b/\∃a t fr,W.heap[b]? = some (.cells a t fr)/\t≠e)
theorem Ze5.step {i:Nat} (c:Ze5 T D e A i) (h:Kep (Ze5 T D e A) A B) (hi:i<A.heap.size):Ze5 T D e B i:=by
 have d:=h.block i hi c;rcases c with b|⟨b,a,t,fr,g,f⟩
 ·exact .inl b
 ·exact .inr ⟨b,a,t,fr,d.trans g,f⟩
theorem Ze5.trans {C:World} (h:Kep (Ze5 T D e A) A B) (k:Kep (Ze5 T D e B) B C):Kep (Ze5 T D e A) A C:=h.andThen k fun i hi a=>a.step h hi
theorem Zrh {l:Nat} (W:World) (o:Obj) (h:¬T l) (hl:l<W.heap.size) (c:∀a t fr,W.heap[l]? ≠ some (.cells a t fr)):Kep (Ze5 T D e W) W (W.putObj l o) :=
 ZM (grownBy_putObj' W l o) fun k d hs=>by cases d;exact hs.elim h fun ⟨_,a,t,fr,b,_⟩=>c a t fr b
def Znw {α:Type} (F:Fence) (n:Nat) (P:Program) (f:Nat) (lb:Array Value) (a:α->Array Value) (T:Nat->Prop) (D:Nat) (g c:TypeId) (R:α->World->Prop) (S h:List α->Prop) (N:Nat) (w:World):Prop :=
 ∀(l:Nat) (J b:List α->World->Prop) (W:World),Below w.heap.size w W->D<=W.heap.size->Zdr D c J->Zdr D c b ->
   (∀pre x A,J pre A->R x A->pre.length<N->YieldAt F (n - 1) P l (a x) A fun e B =>
    (e=.returned (.bool true)/\J (pre++[x]) B/\Kep (Ze5 T D g A) A B)\/(e=.returned (.bool false)/\b (pre++[x]) B)) ->
   J [] W ->
   CallsIn F n P f (#[.func (.yield l) #[] #[]]++lb) W fun e B=>(∃v,e=.returned v)/\((∃d,S d/\J d B)\/(∃pre,h pre/\b pre B))
def Zwv {α:Type} (D:Nat) (T:Nat->Prop) (c:TypeId) (I b:List α->World->Prop) (a:List α) (A:World):Exit->Act->World->Prop
 | .normal,_,B=>KeepsFrom D A B/\Kep (Ze5 T D c A) A B/\I a B
 | .ret,_,B=>KeepsFrom D A B/\b a B
 | _,_,_=>False
variable {F : Fence} {n : Nat} {P : Program}
theorem Zpj {α:Type} {g:Operand} {ps:Array Tmp} {assign body:Code} {Q:Exit->Act->World->Prop} {a:Act} {w:World}
  (ah:F.round=none) (h1:1<=n) {gf:Nat} {lb:Array Value} (hg:a.eval g=.func (.func gf) #[] lb) (hF:F.fn gf) (eg:∀args w,(callFunc gf args).run P w=.ok (.enter gf args) w)
  {m:α->Array Value} {T:Nat->Prop} {et er:TypeId} {R:α->World->Prop} {S Sp:List α->Prop} {N:Nat} {w0:World} (aa:Znw F (n - 1) P gf lb m T w.heap.size et er R S Sp N w0) (ab:Below w0.heap.size w0 w) (hT:∀k,T k->k<w.heap.size)
  (am:∀x,(m x).size=ps.size) (I Ix:List α->World->Prop) (hI:OwnFrom w.heap.size I) (Y:OwnFrom w.heap.size Ix) (ad:Zdr w.heap.size er I) (V:Zdr w.heap.size er Ix) (hR:OwnFrom w.heap.size R) (h0:I [] w) (a₁:α->Act)
  (r:∀(l:Nat) (x:α) (W:World) (K:Act->World->Prop),K (a₁ x) W ->
   assign.wpIn (F.inRound l) (n - 1 - 1) P (Exit.then K (fun _ _ _=>False)) { tmps:=(ps.zip (m x)).foldl (fun t (p,v)=>t.setIfInBounds p v) a.tmps,defers:=[] } W)
  (J:∀(l:Nat) (pre:List α) (x:α) (W:World),I pre W->R x W->pre.length<N->body.wpIn (F.inRound l) (n - 1 - 1) P (Zwv w.heap.size T et I Ix (pre++[x]) W) (a₁ x) W)
  (G:∀(D:Nat) (xs:List α) (W:World),w.heap.size<=D->S xs->I xs W->W.heap[D]? = some (.deferred (some []))->Q .normal { a with defers:={ target:=.collected D,args:=#[] }::a.defers } W)
  (H:∀(D:Nat) (pre:List α) (W:World),w.heap.size<=D->Sp pre->Ix pre W->W.heap[D]? = some (.deferred (some []))->Code.ret.wpIn F n P Q { a with defers:={ target:=.collected D,args:=#[] }::a.defers } W) :
  (Code.rangeFunc g ps assign body).wpIn F n P Q a w:=by
 refine wpIn_rangeFunc fun fn ak => ?_;rw [ah];obtain ⟨b,f⟩:∃b:LoopState->Option Code->Loop,∀st y,b st y={ state:=st,pending:=y,fn:=fn,tmps:=a.tmps,params:=ps,assign:=assign,body:=body,defers:=w.heap.size }:=⟨_,fun _ _=>rfl⟩;obtain ⟨M,u⟩:=Xn ((w.alloc (.deferred (some []))).alloc (.loop (b .ready none)))
 have ac:Books b w.heap.size .ready none M:=by
  subst u;refine ⟨?_,(Below.heap_alloc _ _ _ (by simp)).trans (World.alloc_heap_new w _)⟩;have:=World.alloc_heap_new (w.alloc (.deferred (some []))) (.loop (b .ready none))
  rwa [World.size_alloc] at this
 have af:I [] M:=by subst u;exact hI.alloc _ (hI.alloc _ h0)
 have ag:Below w0.heap.size w0 M:=by subst u;exact ab.trans ((((Below.refl _ w).alloc (Xc _) _).alloc (by simp) _).mono ab.size)
 have q:∀{I':List α->World->Prop},Zdr w.heap.size er I'->∀{st y},Zdr w.heap.size er (fun pre W=>I' pre W/\Books b w.heap.size st y W):=fun h' _ _ s A B hs O=>⟨h' s A B hs.1 O,hs.2.free O⟩
 have C:∀{st:LoopState} {y:Option Code} (i:Option Code) (W:World),Books b w.heap.size st y W ->
   (Instr.endRound (w.heap.size+1) i).run P W=.ok (.bool i.isNone) (W.putObj (w.heap.size+1) (.loop (b (if i.isNone then .ready else .done) i))):=fun i W h=>by
  have:=run_endRound (P:=P) i h.loop;rw [f] at this ⊢;exact this
 have o:∀{st:LoopState} {y:Option Code} (W:World),st≠.busy->Books b w.heap.size st y W->(Instr.endLoop (w.heap.size+1)).run P W=.ok y (W.putObj (w.heap.size+1) (.loop (b .exhausted y))):=fun W ai h=>by
  have:=run_endLoop (P:=P) h.loop (by rw [f];exact ai);rw [f] at this ⊢;exact this
 refine ⟨w.heap.size+1,[{ target:=.collected w.heap.size,args:=#[] }],M,{ target:=.fn (.func gf) lb,args:=#[.func (.yield (w.heap.size+1)) #[] #[]] },M,gf,
  #[.func (.yield (w.heap.size+1)) #[] #[]]++lb,M,?_,?_,?_,?_,fun _=>h1,?_⟩
 ·rw [<- u,f];exact run_enterLoop_outer _ _ _ _ _
 ·simp only [resolve,hg];simp [go_sem]
 ·intro f' Z;simp [Target.leads] at Z;subst Z;exact hF
 ·simp [invoke,go_sem,eg]
 refine (aa (w.heap.size+1) (fun pre W=>I pre W/\Books b w.heap.size .ready none W) (fun pre W=>Ix pre W/\Books b w.heap.size .done (some .ret) W) M ag (by subst u;simp;omega) (q ad) (q V) ?_ ⟨af,ac⟩).mono ?_
 ·rintro pre x A ⟨hi,c⟩ hx X;have hy:=run_yield (P:=P) (args:=m x) c.loop (by rw [f];exact am x);rw [f] at hy;have j:=run_beginRound (P:=P) c.loop (by rw [f]);have L:({ b .ready none with state:=.busy }:Loop)=b .busy none:=by rw [f,f]
  rw [L] at j;refine ⟨fn,_,assign,body,hy,roundIn_of_wpIn ak (r _ x A _ ⟨_,j,?_⟩)⟩;have z:Books b w.heap.size .busy none (A.putObj (w.heap.size+1) (.loop (b .busy none))):=c.turn;refine wpIn_mono (J _ pre x _ (hI.putObj _ hi (by omega) c.loop rfl) (hR.putObj _ hx (by omega) c.loop rfl) X) ?_;have aj:Kep (Ze5 T w.heap.size et A) A (A.putObj (w.heap.size+1) (.loop (b .busy none))):=Zrh _ _ (fun h=>by have:=hT _ h;omega) c.lt (fun _ _ _ h=>by rw [c.loop] at h;cases h);rintro e a3 B U;cases e with
  | normal =>
    obtain ⟨O,ae,E⟩:=U;have d:=z.keeps O;exact ⟨_,_,C none B d,.inl ⟨rfl,⟨hI.putObj _ E (by omega) d.loop rfl,d.turn⟩,Ze5.trans (Ze5.trans aj ae) (Zrh _ _ (fun h=>by have:=hT _ h;omega) d.lt (fun _ _ _ h=>by rw [d.loop] at h;cases h))⟩⟩
  | ret =>
    obtain ⟨O,E⟩:=U;have d:=z.keeps O;exact ⟨_,_,C (some .ret) B d,.inr ⟨rfl,Y.putObj _ E (by omega) d.loop rfl,d.turn⟩⟩
  | exit id=>exact U.elim
  | goto t=>exact U.elim
  | panic ch=>exact U.elim
  | outgrown=>exact U.elim
 ·rintro e B ⟨⟨v,rfl⟩,(⟨xs,hS,hi,c⟩|⟨pre,al,hi,c⟩)⟩
  ·exact ⟨none,_,o B (by simp) c,G _ xs _ (Xc _) hS (hI.putObj _ hi (by omega) c.loop rfl) (c.turn (st':=.exhausted)).calls⟩
  ·exact ⟨some .ret,_,o B (by simp) c,H _ pre _ (Xc _) al (Y.putObj _ hi (by omega) c.loop rfl) (c.turn (st':=.exhausted)).calls⟩
