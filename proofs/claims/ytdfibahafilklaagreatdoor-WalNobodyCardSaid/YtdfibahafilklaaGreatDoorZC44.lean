import Derived.RangeFuncBox
import Derived.RangeFuncCalls
import Derived.Test.YtdfibahafilklaaGreatDoorZC22
set_option maxRecDepth 100000
set_option maxHeartbeats 8000000
set_option linter.unusedVariables false
set_option linter.unusedSimpArgs false
namespace Go.Proofs.YtdfibahafilklaaGreatDoor.RF
open Go Go.RowKit
structure Books (rec:LoopState→Option Code→Loop) (D:Nat) (st:LoopState) (pe:Option Code) (W:World):Prop where
 loop:W.heap[D+1]? = some (.loop (rec st pe))
 calls:W.heap[D]? = some (.deferred (some []))
theorem Books.lt {rec:LoopState→Option Code→Loop} {D:Nat} {st:LoopState} {pe:Option Code} {W:World} (h:Books rec D st pe W):D+1<W.heap.size:=(Array.getElem?_eq_some_iff.1 h.loop).1
theorem Books.grown {rec:LoopState→Option Code→Loop} {D:Nat} {st:LoopState} {pe:Option Code} {A B:World} (h:Books rec D st pe A) (hg:A.grownBy B none):Books rec D st pe B :=
 ⟨(hg.block _ h.lt (by simp)).trans h.loop,(hg.block _ (by have:=h.lt;omega) (by simp)).trans h.calls⟩
theorem Books.keeps {rec:LoopState→Option Code→Loop} {D:Nat} {st:LoopState} {pe:Option Code} {A B:World} (h:Books rec D st pe A) (hk:KeepsFrom D A B):Books rec D st pe B :=
 ⟨hk.same _ _ (by omega) h.loop rfl,hk.same _ _ (Nat.le_refl _) h.calls rfl⟩
theorem Books.turn {rec:LoopState→Option Code→Loop} {D:Nat} {st st':LoopState} {pe pe':Option Code} {A:World} (h:Books rec D st pe A):Books rec D st' pe' (A.putObj (D+1) (.loop (rec st' pe'))) :=
 ⟨World.putObj_heap_same h.lt,(World.putObj_heap_other (by omega)).trans h.calls⟩
variable {F : Fence} {n : Nat} {P : Program}
end Go.Proofs.YtdfibahafilklaaGreatDoor.RF
namespace Go.Proofs.YtdfibahafilklaaGreatDoor.RF
open Go Go.RowKit MM
def FreeT (D:Nat) (er:TypeId) (A:World) (b:Nat):Prop:=¬ (D≤b∧∃ cur fr,A.heap[b]? = some (.cells cur er fr))
def GrowsT {β:Type} (D:Nat) (er:TypeId) (J:β→World→Prop):Prop:=∀ s A B,J s A→Kep (FreeT D er A) A B→J s B
theorem Books.free {rec:LoopState→Option Code→Loop} {D0 D:Nat} {er:TypeId} {st:LoopState} {pe:Option Code} {A B:World} (h:Books rec D0 st pe A) (hk:Kep (FreeT D er A) A B):Books rec D0 st pe B :=
 ⟨(hk.block _ h.lt (fun ⟨_,_,_,e⟩=>by rw [h.loop] at e;cases e)).trans h.loop,(hk.block _ (by have:=h.lt;omega) (fun ⟨_,_,_,e⟩=>by rw [h.calls] at e;cases e)).trans h.calls⟩
def TagT (T:Nat→Prop) (D:Nat) (e:TypeId) (W:World) (b:Nat):Prop:=T b∨(D≤b∧∃ cur t fr,W.heap[b]? = some (.cells cur t fr)∧t≠e)
theorem TagT.step {T:Nat→Prop} {D:Nat} {e:TypeId} {A B:World} {i:Nat} (ht:TagT T D e A i) (h:Kep (TagT T D e A) A B) (hi:i<A.heap.size):TagT T D e B i:=by
 have hk:=h.block i hi ht
 rcases ht with h1 | ⟨h1,cur,t,fr,h2,h3⟩
 ·exact .inl h1
 ·exact .inr ⟨h1,cur,t,fr,hk.trans h2,h3⟩
theorem TagT.trans {T:Nat→Prop} {D:Nat} {e:TypeId} {A B C:World} (h:Kep (TagT T D e A) A B) (k:Kep (TagT T D e B) B C):Kep (TagT T D e A) A C:=h.andThen k fun i hi ht=>ht.step h hi
theorem tag_turn {T:Nat→Prop} {D:Nat} {e:TypeId} {l:Nat} (W:World) (o:Obj) (h:¬ T l) (hl:l<W.heap.size) (hn:∀ cur t fr,W.heap[l]? ≠ some (.cells cur t fr)):Kep (TagT T D e W) W (W.putObj l o) :=
 kep_grown (grownBy_putObj' W l o) fun k hk hs=>by cases hk;exact hs.elim h fun ⟨_,cur,t,fr,h2,_⟩=>hn cur t fr h2
def VowsT {α:Type} (F:Fence) (n:Nat) (P:Program) (f:Nat) (lb:Array Value) (encs:α→Array Value) (T:Nat→Prop) (D:Nat) (et er:TypeId) (R:α→World→Prop) (S Sp:List α→Prop) (N:Nat) (w:World):Prop :=
 ∀ (l:Nat) (J Jx:List α→World→Prop) (W:World),Below w.heap.size w W→D≤W.heap.size→GrowsT D er J→GrowsT D er Jx →
   (∀ pre x A,J pre A→R x A→pre.length<N→YieldAt F (n - 1) P l (encs x) A fun e B =>
    (e=.returned (.bool true)∧J (pre++[x]) B∧Kep (TagT T D et A) A B)∨(e=.returned (.bool false)∧Jx (pre++[x]) B)) →
   J [] W →
   CallsIn F n P f (#[.func (.yield l) #[] #[]]++lb) W fun e B=>(∃ v,e=.returned v)∧((∃ xs,S xs∧J xs B)∨(∃ pre,Sp pre∧Jx pre B))
def LeftT {α:Type} (D:Nat) (T:Nat→Prop) (et:TypeId) (I Ix:List α→World→Prop) (xs:List α) (A:World):Exit→Act→World→Prop
 | .normal,_,B=>KeepsFrom D A B∧Kep (TagT T D et A) A B∧I xs B
 | .ret,_,B=>KeepsFrom D A B∧Ix xs B
 | _,_,_=>False
variable {F : Fence} {n : Nat} {P : Program}
theorem rangeT_ {α:Type} {g:Operand} {ps:Array Tmp} {assign body:Code} {Q:Exit→Act→World→Prop} {a:Act} {w:World}
  (hro:F.round=none) (h1:1≤n) {gf:Nat} {lb:Array Value} (hg:a.eval g=.func (.func gf) #[] lb) (hF:F.fn gf) (eg:∀ args w,(callFunc gf args).run P w=.ok (.enter gf args) w)
  {encs:α→Array Value} {T:Nat→Prop} {et er:TypeId} {R:α→World→Prop} {S Sp:List α→Prop} {N:Nat} {w0:World} (hseq:VowsT F (n - 1) P gf lb encs T w.heap.size et er R S Sp N w0) (hb0:Below w0.heap.size w0 w) (hT:∀ k,T k→k<w.heap.size)
  (hps:∀ x,(encs x).size=ps.size) (I Ix:List α→World→Prop) (hI:OwnFrom w.heap.size I) (hIx:OwnFrom w.heap.size Ix) (hI2:GrowsT w.heap.size er I) (hIx2:GrowsT w.heap.size er Ix) (hR:OwnFrom w.heap.size R) (h0:I [] w) (a₁:α→Act)
  (hassign:∀ (l:Nat) (x:α) (W:World) (K:Act→World→Prop),K (a₁ x) W →
   assign.wpIn (F.inRound l) (n - 1 - 1) P (Exit.then K (fun _ _ _=>False)) { tmps:=(ps.zip (encs x)).foldl (fun t (p,v)=>t.setIfInBounds p v) a.tmps,defers:=[] } W)
  (hbody:∀ (l:Nat) (pre:List α) (x:α) (W:World),I pre W→R x W→pre.length<N→body.wpIn (F.inRound l) (n - 1 - 1) P (LeftT w.heap.size T et I Ix (pre++[x]) W) (a₁ x) W)
  (hdone:∀ (D:Nat) (xs:List α) (W:World),w.heap.size≤D→S xs→I xs W→W.heap[D]? = some (.deferred (some []))→Q .normal { a with defers:={ target:=.collected D,args:=#[] }::a.defers } W)
  (hstop:∀ (D:Nat) (pre:List α) (W:World),w.heap.size≤D→Sp pre→Ix pre W→W.heap[D]? = some (.deferred (some []))→Code.ret.wpIn F n P Q { a with defers:={ target:=.collected D,args:=#[] }::a.defers } W) :
  (Code.rangeFunc g ps assign body).wpIn F n P Q a w:=by
 refine wpIn_rangeFunc fun fn hfn => ?_
 rw [hro]
 obtain ⟨rec,hrec⟩:∃ rec:LoopState→Option Code→Loop,∀ st pe,rec st pe={ state:=st,pending:=pe,fn:=fn,tmps:=a.tmps,params:=ps,assign:=assign,body:=body,defers:=w.heap.size }:=⟨_,fun _ _=>rfl⟩
 obtain ⟨W1,hW1⟩:∃ W1,(w.alloc (.deferred (some []))).alloc (.loop (rec .ready none))=W1:=⟨_,rfl⟩
 have hbk1:Books rec w.heap.size .ready none W1:=by
  subst hW1
  refine ⟨?_,(Below.heap_alloc _ _ _ (by simp)).trans (World.alloc_heap_new w _)⟩
  have:=World.alloc_heap_new (w.alloc (.deferred (some []))) (.loop (rec .ready none))
  rwa [World.size_alloc] at this
 have hI1:I [] W1:=by subst hW1;exact hI.alloc _ (hI.alloc _ h0)
 have hb1:Below w0.heap.size w0 W1:=by subst hW1;exact hb0.trans ((((Below.refl _ w).alloc (Nat.le_refl _) _).alloc (by simp) _).mono hb0.size)
 have hgrow:∀ {I':List α→World→Prop},GrowsT w.heap.size er I'→∀ {st pe},GrowsT w.heap.size er (fun pre W=>I' pre W∧Books rec w.heap.size st pe W):=fun h' _ _ s A B hs hk=>⟨h' s A B hs.1 hk,hs.2.free hk⟩
 have hend:∀ {st:LoopState} {pe:Option Code} (jump:Option Code) (W:World),Books rec w.heap.size st pe W →
   (Instr.endRound (w.heap.size+1) jump).run P W=.ok (.bool jump.isNone) (W.putObj (w.heap.size+1) (.loop (rec (if jump.isNone then .ready else .done) jump))):=fun jump W h=>by
  have:=run_endRound (P:=P) jump h.loop
  rw [hrec] at this ⊢
  exact this
 have hover:∀ {st:LoopState} {pe:Option Code} (W:World),st≠.busy→Books rec w.heap.size st pe W→(Instr.endLoop (w.heap.size+1)).run P W=.ok pe (W.putObj (w.heap.size+1) (.loop (rec .exhausted pe))):=fun W hst h=>by
  have:=run_endLoop (P:=P) h.loop (by rw [hrec];exact hst)
  rw [hrec] at this ⊢
  exact this
 refine ⟨w.heap.size+1,[{ target:=.collected w.heap.size,args:=#[] }],W1,{ target:=.fn (.func gf) lb,args:=#[.func (.yield (w.heap.size+1)) #[] #[]] },W1,gf,
  #[.func (.yield (w.heap.size+1)) #[] #[]]++lb,W1,?_,?_,?_,?_,fun _=>h1,?_⟩
 ·rw [← hW1,hrec]
  exact run_enterLoop_outer _ _ _ _ _
 ·simp only [resolve,hg]
  simp [go_sem]
 ·intro f' hf'
  simp [Target.leads] at hf'
  subst hf'
  exact hF
 ·simp [invoke,go_sem,eg]
 refine (hseq (w.heap.size+1) (fun pre W=>I pre W∧Books rec w.heap.size .ready none W) (fun pre W=>Ix pre W∧Books rec w.heap.size .done (some .ret) W) W1 hb1 (by subst hW1;simp;omega) (hgrow hI2) (hgrow hIx2) ?_ ⟨hI1,hbk1⟩).mono ?_
 ·rintro pre x A ⟨hi,hbk⟩ hx hlen
  have hy:=run_yield (P:=P) (args:=encs x) hbk.loop (by rw [hrec];exact hps x)
  rw [hrec] at hy
  have hbegin:=run_beginRound (P:=P) hbk.loop (by rw [hrec])
  have hbusy:({ rec .ready none with state:=.busy }:Loop)=rec .busy none:=by rw [hrec,hrec]
  rw [hbusy] at hbegin
  refine ⟨fn,_,assign,body,hy,roundIn_of_wpIn hfn (hassign _ x A _ ⟨_,hbegin,?_⟩)⟩
  have hbk2:Books rec w.heap.size .busy none (A.putObj (w.heap.size+1) (.loop (rec .busy none))):=hbk.turn
  refine wpIn_mono (hbody _ pre x _ (hI.putObj _ hi (by omega) hbk.loop rfl) (hR.putObj _ hx (by omega) hbk.loop rfl) hlen) ?_
  have hb2:Kep (TagT T w.heap.size et A) A (A.putObj (w.heap.size+1) (.loop (rec .busy none))):=tag_turn _ _ (fun h=>by have:=hT _ h;omega) hbk.lt (fun _ _ _ h=>by rw [hbk.loop] at h;cases h)
  rintro e a3 B hp
  cases e with
  | normal =>
    obtain ⟨hk,hbl,hi3⟩:=hp
    have hbk3:=hbk2.keeps hk
    exact ⟨_,_,hend none B hbk3,.inl ⟨rfl,⟨hI.putObj _ hi3 (by omega) hbk3.loop rfl,hbk3.turn⟩,TagT.trans (TagT.trans hb2 hbl) (tag_turn _ _ (fun h=>by have:=hT _ h;omega) hbk3.lt (fun _ _ _ h=>by rw [hbk3.loop] at h;cases h))⟩⟩
  | ret =>
    obtain ⟨hk,hi3⟩:=hp
    have hbk3:=hbk2.keeps hk
    exact ⟨_,_,hend (some .ret) B hbk3,.inr ⟨rfl,hIx.putObj _ hi3 (by omega) hbk3.loop rfl,hbk3.turn⟩⟩
  | exit id=>exact hp.elim
  | goto t=>exact hp.elim
  | panic ch=>exact hp.elim
  | outgrown=>exact hp.elim
 ·rintro e B ⟨⟨v,rfl⟩,(⟨xs,hS,hi,hbk⟩ | ⟨pre,hSp,hi,hbk⟩)⟩
  ·exact ⟨none,_,hover B (by simp) hbk,hdone _ xs _ (Nat.le_refl _) hS (hI.putObj _ hi (by omega) hbk.loop rfl) (hbk.turn (st':=.exhausted)).calls⟩
  ·exact ⟨some .ret,_,hover B (by simp) hbk,hstop _ pre _ (Nat.le_refl _) hSp (hIx.putObj _ hi (by omega) hbk.loop rfl) (hbk.turn (st':=.exhausted)).calls⟩
end Go.Proofs.YtdfibahafilklaaGreatDoor.RF
namespace Go.Proofs.YtdfibahafilklaaGreatDoor.RF
open Go Go.RowKit MM
def Steady {β:Type} (D:Nat) (er:TypeId) (I:β→World→Prop):Prop :=
 ∀ s A B (T:Nat→Prop),I s A→Kep T A B→(∀ b,b<D→T b)→(∀ b cur t fr,A.heap[b]? = some (.cells cur t fr)→t≠er→T b)→I s B
theorem kep_row' {D:Nat} {W W':World} {row:Option Nat} (hg:W.grownBy W' row) (hr:∀ r,row=some r→D≤r∧∃ o:Obj,W.heap[r]? = some o∧o.isCells=false) :
  Kep (fun b=>row≠some b) W W'∧(∀ b,b<D→row≠some b)∧(∀ b cur t fr,W.heap[b]? = some (.cells cur t fr)→row≠some b):=by
 refine ⟨kep_grown hg fun k hk hne=>hne hk,fun b hb e=>by have:=(hr b e).1;omega,fun b cur t fr hc e => ?_⟩
 obtain ⟨_,o,ho,hn⟩:=hr b e
 rw [hc] at ho
 cases ho
 cases hn
theorem Steady.own {β:Type} {D:Nat} {er:TypeId} {I:β→World→Prop} (h:Steady D er I):OwnFrom D I:=fun s W W' row hi hg hr=>by
 obtain ⟨k1,k2,k3⟩:=kep_row' hg hr
 exact h s W W' _ hi k1 k2 fun b cur t fr hc _=>k3 b cur t fr hc
theorem Steady.grows {β:Type} {D:Nat} {er:TypeId} {I:β→World→Prop} (h:Steady D er I):GrowsT D er I:=fun s A B hi hk =>
 h s A B _ hi hk (fun b hb ⟨h1,_⟩=>by omega) fun b cur t fr hc ht ⟨_,cur',fr',h'⟩=>by
   rw [hc] at h'
   simp only [Option.some.injEq,Obj.cells.injEq] at h'
   exact ht h'.2.1
theorem boxed_kep {T:Nat→Prop} {W W':World} {B:Nat} {t:TypeId} {v:Value} (h:Boxed W B t v) (hk:Kep T W W') (hB:T B):Boxed W' B t v:=(hk.block B h.lt hB).trans h
theorem boxed_below {C:Nat} {W W':World} {B:Nat} {t:TypeId} {v:Value} (h:Boxed W B t v) (hb:Below C W W') (hB:B<C):Boxed W' B t v:=(hb.block B hB).trans h
theorem grows_below {β:Type} {D:Nat} {er:TypeId} {I:β→World→Prop} (h:GrowsT D er I) {s:β} {A B:World} (hi:I s A) (hb:Below A.heap.size A B):I s B:=h s A B hi (kep_below _ hb)
theorem wide_normal {n:Nat} {P:Program} {c:Code} {Q:Exit→Act→World→Prop} {a:Act} {w:World} (h:c.wp P (fun e a w=>e=.normal∧Q .normal a w) a w):c.wpIn Fence.wide n P Q a w :=
 wpIn_mono (wpIn_wide.2 h) fun e a w ⟨he,hq⟩=>by subst he;exact hq
end Go.Proofs.YtdfibahafilklaaGreatDoor.RF
namespace Go.Proofs.YtdfibahafilklaaGreatDoor.RF
open Go Go.RowKit
variable {F : Fence} {n : Nat} {P : Program}
theorem wp_round {L n:Nat} {o:Oper} {a:Act} {w:World} {K:Act→World→Prop} {Q:Exit→Act→World→Prop} (hd:∀ c,o.op≠.defer c) (h:o.wp P a w K Q):o.wpIn (Fence.wide.inRound L) n P a w K Q:=by
 unfold Oper.wpIn
 refine ⟨fun _ _=>trivial,?_⟩
 rw [Fence.inRound_round,Oper.semAt_some _ _ _ hd]
 unfold Oper.wp at h
 generalize (execOp a.eval o).run P w=r at *
 cases r with
 | ok x w' =>
   cases x with
   | value v=>exact h
   | skip=>exact h
   | defer d=>exact h
   | enter f args=>exact ⟨(fun e=>by cases e),CallsIn.inRound L (callsIn_wide.2 h)⟩
   | row row args =>
     refine ⟨(fun e=>by cases e),?_⟩
     intro c cs _
     obtain ⟨v,w',hr,s⟩:=h c cs
     exact ⟨v,w',hr,stepsIn_wide.2 s⟩
   | round l f tmps assign body=>exact False.elim h
   | _=>exact h
 | halt x w'=>cases x<;>exact h
theorem any_round {L n:Nat} {ops:Array Oper} {Q:Exit→Act→World→Prop} {md:Region.Mode} (hd:∀ (i:Nat) (o:Oper) c,ops[i]? = some o→o.op≠.defer c) (hQ:¬ LetsOut Q):∀ (fuel:Nat) (listed:Array Bool) (a:Act) (w:World),wpAny P md ops Q fuel listed a w→wpAnyIn (Fence.wide.inRound L) n P md ops Q fuel listed a w
 | 0,_,_,_,h=>h
 | fuel+1,listed,a,w,h=>by
   refine ⟨h.1,fun i hi => ?_⟩
   have:=h.2 i hi
   unfold wpOp at this
   unfold wpOpIn
   cases ho:ops[i]? with
   | none=>rw [ho] at this;exact any_round hd hQ fuel _ _ _ this
   | some o =>
     rw [ho] at this
     dsimp only at this ⊢
     split at this
     ·rename_i hw
      rw [if_pos hw]
      rcases this with this | ⟨_,hL⟩
      ·exact Oper.wpIn_mono (fun a w=>any_round hd hQ fuel _ a w) (wp_round (fun c=>hd i o c ho) this)
      ·exact absurd hL hQ
     ·rename_i hw
      rw [if_neg hw]
      exact ⟨fun _ _=>trivial,any_round hd hQ fuel _ _ _ this⟩
def noDefer (ops:Array Oper):Bool:=ops.all fun o=>match o.op with | .defer _=>false | _=>true
theorem noDefer_spec {ops:Array Oper} (h:noDefer ops=true):∀ (i:Nat) (o:Oper) c,ops[i]? = some o→o.op≠.defer c:=fun i o c hi hc=>by
 unfold noDefer at h
 rw [Array.all_eq_true] at h
 obtain ⟨hlt,rfl⟩:=Array.getElem?_eq_some_iff.1 hi
 have:=h i hlt
 rw [hc] at this
 cases this
theorem beginR {T:Nat→Prop} {L:Nat} {ops:Array Oper} {Q:Exit→Act→World→Prop} (l:RT.Plan Nat) {id:Nat} {a:Act} {w:World} (hm:P.follows .mixedOrders=true) (hs:Region.noSelect ops=true) (hl:l.len=ops.size) (hd:noDefer ops=true) (hL:¬ LetsOut Q)
  (hp:RT.planned .any ops l (Array.replicate ops.size false)=true) (hQ:∀ c a d v w,Q (.panic c) (Act.put a d v) w→Q (.panic c) a w)
  (h:RT.walk T P ops Q (RT.ordered ops l) a w.drew):(Code.region id ops true).wpIn (Fence.wide.inRound L) n P Q a w:=by
 refine wpIn_region_any hm (any_round (noDefer_spec hd) hL _ _ _ _ ?_)
 rw [← hl]
 have:=RT.held_of_walk (md:=.any) hs hQ l (Array.replicate ops.size false) a w.drew hp h
 rw [← hl] at this
 exact wpAny_of_held _ _ _ _ this
end Go.Proofs.YtdfibahafilklaaGreatDoor.RF
