import Derived.RangeFuncNested
import Derived.RangeFuncBound
import Derived.Shelf.RegionOpen
import Derived.OwnWalkIn
import Derived.LoopNIn
import Derived.LoopIn
import Derived.Test.YtdijhifdjbnkfaaGreatZD9
set_option maxRecDepth 100000
set_option maxHeartbeats 8000000
set_option linter.unusedVariables false
set_option linter.unusedSimpArgs false
namespace Go.Proofs.YtdijhifdjbnkfaaGreat.RF
open Go Go.RowKit
def ZaM {β:Type} (J:β→World→Prop):Prop:=∀ s A B,J s A→A.grownBy B none→J s B
def Vows {α:Type} (F:Fence) (n:Nat) (P:Program) (f:Nat) (lb:Array Value) (encs:α→Array Value) (n₀:Nat) (R:α→World→Prop) (S Sp:List α→Prop) (N:Nat) (w:World):Prop :=
 ∀ (l:Nat) (J Jx:List α→World→Prop) (W:World),Below w.heap.size w W→ZaM J→ZaM Jx →
   (∀ pre x A,J pre A→R x A→pre.length<N→YieldAt F (n - 1) P l (encs x) A fun e B =>
    (e=.returned (.bool true)∧J (pre++[x]) B∧Below n₀ A B)∨(e=.returned (.bool false)∧Jx (pre++[x]) B)) →
   J [] W →
   CallsIn F n P f (#[.func (.yield l) #[] #[]]++lb) W fun e B=>(∃ v,e=.returned v)∧((∃ xs,S xs∧J xs B)∨(∃ pre,Sp pre∧Jx pre B))
def Left {α:Type} (D n₀:Nat) (I Ix:List α→World→Prop) (xs:List α) (A:World):Exit→Act→World→Prop
 | .normal,_,B=>KeepsFrom D A B∧Below n₀ A B∧I xs B
 | .ret,_,B=>KeepsFrom D A B∧Ix xs B
 | _,_,_=>False
structure Books (rec:LoopState→Option Code→Loop) (D:Nat) (st:LoopState) (pe:Option Code) (W:World):Prop where
 loop:W.heap[D+1]? = some (.loop (rec st pe))
 calls:W.heap[D]? = some (.deferred (some []))
theorem Books.lt {rec:LoopState→Option Code→Loop} {D:Nat} {st:LoopState} {pe:Option Code} {W:World} (h:Books rec D st pe W):D+1<W.heap.size:=(Array.getElem?_eq_some_iff.1 h.loop).1
theorem Books.grown {rec:LoopState→Option Code→Loop} {D:Nat} {st:LoopState} {pe:Option Code} {A B:World} (h:Books rec D st pe A) (hg:A.grownBy B none):Books rec D st pe B :=
 ⟨(hg.block _ h.lt (by simp)).trans h.loop,(hg.block _ (by have:=h.lt;omega) (by simp)).trans h.calls⟩
theorem Books.keeps {rec:LoopState→Option Code→Loop} {D:Nat} {st:LoopState} {pe:Option Code} {A B:World} (h:Books rec D st pe A) (hk:KeepsFrom D A B):Books rec D st pe B :=
 ⟨hk.same _ _ (by omega) h.loop rfl,hk.same _ _ (Nat.le_refl _) h.calls rfl⟩
theorem Books.turn {rec:LoopState→Option Code→Loop} {D:Nat} {st st':LoopState} {pe pe':Option Code} {A:World} (h:Books rec D st pe A):Books rec D st' pe' (A.putObj (D+1) (.loop (rec st' pe'))) :=
 ⟨World.putObj_heap_same h.lt,(World.putObj_heap_other (by omega)).trans h.calls⟩
theorem ZcQ {n₀ l:Nat} (W:World) (o:Obj) (h:n₀≤l) (hl:l<W.heap.size):Below n₀ W (W.putObj l o) :=
 (Below.refl n₀ W).grown (grownBy_putObj' W l o) (by omega) (fun k e=>by cases e;exact h)
variable {F : Fence} {n : Nat} {P : Program}
end Go.Proofs.YtdijhifdjbnkfaaGreat.RF
namespace Go.Proofs.YtdijhifdjbnkfaaGreat.RF
open Go Go.RowKit MM
theorem Zm3 {T:Nat→Prop} {l:Nat} (W:World) (o:Obj) (h:¬ T l) (hl:l<W.heap.size):Kep T W (W.putObj l o):=ZmW (grownBy_putObj' W l o) fun k hk hs=>by cases hk;exact h hs
def ZbE {α:Type} (F:Fence) (n:Nat) (P:Program) (f:Nat) (lb:Array Value) (encs:α→Array Value) (T:Nat→Prop) (R:α→World→Prop) (S Sp:List α→Prop) (N:Nat) (w:World):Prop :=
 ∀ (l:Nat) (J Jx:List α→World→Prop) (W:World),Below w.heap.size w W→ZaM J→ZaM Jx →
   (∀ pre x A,J pre A→R x A→pre.length<N→YieldAt F (n - 1) P l (encs x) A fun e B =>
    (e=.returned (.bool true)∧J (pre++[x]) B∧Kep T A B)∨(e=.returned (.bool false)∧Jx (pre++[x]) B)) →
   J [] W →
   CallsIn F n P f (#[.func (.yield l) #[] #[]]++lb) W fun e B=>(∃ v,e=.returned v)∧((∃ xs,S xs∧J xs B)∨(∃ pre,Sp pre∧Jx pre B))
def Za0 {α:Type} (D:Nat) (T:Nat→Prop) (I Ix:List α→World→Prop) (xs:List α) (A:World):Exit→Act→World→Prop
 | .normal,_,B=>KeepsFrom D A B∧Kep T A B∧I xs B
 | .ret,_,B=>KeepsFrom D A B∧Ix xs B
 | _,_,_=>False
variable {F : Fence} {n : Nat} {P : Program}
theorem Zsr {α:Type} {g:Operand} {ps:Array Tmp} {assign body:Code} {Q:Exit→Act→World→Prop} {a:Act} {w:World}
  (hro:F.round=none) (h1:1≤n) {gf:Nat} {lb:Array Value} (hg:a.eval g=.func (.func gf) #[] lb) (hF:F.fn gf) (eg:∀ args w,(callFunc gf args).run P w=.ok (.enter gf args) w)
  {encs:α→Array Value} {T:Nat→Prop} {R:α→World→Prop} {S Sp:List α→Prop} {N:Nat} {w0:World} (hseq:ZbE F (n - 1) P gf lb encs T R S Sp N w0) (hb0:Below w0.heap.size w0 w) (hT:∀ k,T k→k<w.heap.size)
  (hps:∀ x,(encs x).size=ps.size) (I Ix:List α→World→Prop) (hI:OwnFrom w.heap.size I) (hIx:OwnFrom w.heap.size Ix) (hR:OwnFrom w.heap.size R) (h0:I [] w) (a₁:α→Act)
  (hassign:∀ (l:Nat) (x:α) (W:World) (K:Act→World→Prop),K (a₁ x) W →
   assign.wpIn (F.inRound l) (n - 1 - 1) P (Exit.then K (fun _ _ _=>False)) { tmps:=(ps.zip (encs x)).foldl (fun t (p,v)=>t.setIfInBounds p v) a.tmps,defers:=[] } W)
  (hbody:∀ (l:Nat) (pre:List α) (x:α) (W:World),I pre W→R x W→pre.length<N→body.wpIn (F.inRound l) (n - 1 - 1) P (Za0 w.heap.size T I Ix (pre++[x]) W) (a₁ x) W)
  (hdone:∀ (D:Nat) (xs:List α) (W:World),w.heap.size≤D→S xs→I xs W→W.heap[D]? = some (.deferred (some []))→Q .normal { a with defers:={ target:=.collected D,args:=#[] }::a.defers } W)
  (hstop:∀ (D:Nat) (pre:List α) (W:World),w.heap.size≤D→Sp pre→Ix pre W→W.heap[D]? = some (.deferred (some []))→Code.ret.wpIn F n P Q { a with defers:={ target:=.collected D,args:=#[] }::a.defers } W) :
  (Code.rangeFunc g ps assign body).wpIn F n P Q a w:=by
 refine wpIn_rangeFunc fun fn hfn => ?_
 rw [hro]
 obtain ⟨rec,hrec⟩:∃ rec:LoopState→Option Code→Loop,∀ st pe,rec st pe={ state:=st,pending:=pe,fn:=fn,tmps:=a.tmps,params:=ps,assign:=assign,body:=body,defers:=w.heap.size }:=⟨_,fun _ _=>rfl⟩
 obtain ⟨W1,hW1⟩:∃ W1,(w.alloc (.deferred (some []))).alloc (.loop (rec .ready none))=W1:=⟨_,rfl⟩
 have hbk1:Books rec w.heap.size .ready none W1:=by
  subst hW1
  refine ⟨?_,(Below.heap_alloc _ _ _ (by simp)).trans (World.alloc_heap_new w _)⟩
  have:=World.alloc_heap_new (w.alloc (.deferred (some []))) (.loop (rec .ready none))
  rwa [World.size_alloc] at this
 have hI1:I [] W1:=by subst hW1;exact hI.alloc _ (hI.alloc _ h0)
 have hb1:Below w0.heap.size w0 W1:=by subst hW1;exact hb0.trans ((((Below.refl _ w).alloc (Nat.le_refl _) _).alloc (by simp) _).mono hb0.size)
 have hgrow:∀ {I':List α→World→Prop},OwnFrom w.heap.size I'→∀ {st pe},ZaM (fun pre W=>I' pre W∧Books rec w.heap.size st pe W):=fun h' _ _ s A B hs hg'=>⟨h' s A B none hs.1 hg' (fun r e=>by cases e),hs.2.grown hg'⟩
 have hend:∀ {st:LoopState} {pe:Option Code} (jump:Option Code) (W:World),Books rec w.heap.size st pe W →
   (Instr.endRound (w.heap.size+1) jump).run P W=.ok (.bool jump.isNone) (W.putObj (w.heap.size+1) (.loop (rec (if jump.isNone then .ready else .done) jump))):=fun jump W h=>by
  have:=run_endRound (P:=P) jump h.loop
  rw [hrec] at this ⊢
  exact this
 have hover:∀ {st:LoopState} {pe:Option Code} (W:World),st≠.busy→Books rec w.heap.size st pe W→(Instr.endLoop (w.heap.size+1)).run P W=.ok pe (W.putObj (w.heap.size+1) (.loop (rec .exhausted pe))):=fun W hst h=>by
  have:=run_endLoop (P:=P) h.loop (by rw [hrec];exact hst)
  rw [hrec] at this ⊢
  exact this
 refine ⟨w.heap.size+1,[{ target:=.collected w.heap.size,args:=#[] }],W1,{ target:=.fn (.func gf) lb,args:=#[.func (.yield (w.heap.size+1)) #[] #[]] },W1,gf,
  #[.func (.yield (w.heap.size+1)) #[] #[]]++lb,W1,?_,?_,?_,?_,fun _=>h1,?_⟩
 ·rw [← hW1,hrec]
  exact run_enterLoop_outer _ _ _ _ _
 ·simp only [resolve,hg]
  simp [go_sem]
 ·intro f' hf'
  simp [Target.leads] at hf'
  subst hf'
  exact hF
 ·simp [invoke,go_sem,eg]
 refine (hseq (w.heap.size+1) (fun pre W=>I pre W∧Books rec w.heap.size .ready none W) (fun pre W=>Ix pre W∧Books rec w.heap.size .done (some .ret) W) W1 hb1 (hgrow hI) (hgrow hIx) ?_ ⟨hI1,hbk1⟩).mono ?_
 ·rintro pre x A ⟨hi,hbk⟩ hx hlen
  have hy:=run_yield (P:=P) (args:=encs x) hbk.loop (by rw [hrec];exact hps x)
  rw [hrec] at hy
  have hbegin:=run_beginRound (P:=P) hbk.loop (by rw [hrec])
  have hbusy:({ rec .ready none with state:=.busy }:Loop)=rec .busy none:=by rw [hrec,hrec]
  rw [hbusy] at hbegin
  refine ⟨fn,_,assign,body,hy,roundIn_of_wpIn hfn (hassign _ x A _ ⟨_,hbegin,?_⟩)⟩
  have hbk2:Books rec w.heap.size .busy none (A.putObj (w.heap.size+1) (.loop (rec .busy none))):=hbk.turn
  refine wpIn_mono (hbody _ pre x _ (hI.putObj _ hi (by omega) hbk.loop rfl) (hR.putObj _ hx (by omega) hbk.loop rfl) hlen) ?_
  have hb2:Kep T A (A.putObj (w.heap.size+1) (.loop (rec .busy none))):=Zm3 _ _ (fun h=>by have:=hT _ h;omega) hbk.lt
  rintro e a3 B hp
  cases e with
  | normal =>
    obtain ⟨hk,hbl,hi3⟩:=hp
    have hbk3:=hbk2.keeps hk
    exact ⟨_,_,hend none B hbk3,.inl ⟨rfl,⟨hI.putObj _ hi3 (by omega) hbk3.loop rfl,hbk3.turn⟩,(hb2.trans hbl).trans (Zm3 _ _ (fun h=>by have:=hT _ h;omega) hbk3.lt)⟩⟩
  | ret =>
    obtain ⟨hk,hi3⟩:=hp
    have hbk3:=hbk2.keeps hk
    exact ⟨_,_,hend (some .ret) B hbk3,.inr ⟨rfl,hIx.putObj _ hi3 (by omega) hbk3.loop rfl,hbk3.turn⟩⟩
  | exit id=>exact hp.elim
  | goto t=>exact hp.elim
  | panic ch=>exact hp.elim
  | outgrown=>exact hp.elim
 ·rintro e B ⟨⟨v,rfl⟩,(⟨xs,hS,hi,hbk⟩ | ⟨pre,hSp,hi,hbk⟩)⟩
  ·exact ⟨none,_,hover B (by simp) hbk,hdone _ xs _ (Nat.le_refl _) hS (hI.putObj _ hi (by omega) hbk.loop rfl) (hbk.turn (st':=.exhausted)).calls⟩
  ·exact ⟨some .ret,_,hover B (by simp) hbk,hstop _ pre _ (Nat.le_refl _) hSp (hIx.putObj _ hi (by omega) hbk.loop rfl) (hbk.turn (st':=.exhausted)).calls⟩
end Go.Proofs.YtdijhifdjbnkfaaGreat.RF
namespace Go.Proofs.YtdijhifdjbnkfaaGreat.RF
open Go Go.RowKit MM
def ZbF {α:Type} (F:Fence) (n:Nat) (P:Program) (f:Nat) (lb:Array Value) (encs:α→Array Value) (T:Nat→Prop) (R:List α→α→World→Prop) (S Sp:List α→Prop) (N:Nat) (w:World):Prop :=
 ∀ (l:Nat) (J Jx:List α→World→Prop) (W:World),Below w.heap.size w W→ZaM J→ZaM Jx →
   (∀ pre x A,J pre A→R pre x A→pre.length<N→YieldAt F (n - 1) P l (encs x) A fun e B =>
    (e=.returned (.bool true)∧J (pre++[x]) B∧Kep T A B)∨(e=.returned (.bool false)∧Jx (pre++[x]) B)) →
   J [] W →
   CallsIn F n P f (#[.func (.yield l) #[] #[]]++lb) W fun e B=>(∃ v,e=.returned v)∧((∃ xs,S xs∧J xs B)∨(∃ pre,Sp pre∧Jx pre B))
variable {F : Fence} {n : Nat} {P : Program}
theorem Zss {α:Type} {g:Operand} {ps:Array Tmp} {assign body:Code} {Q:Exit→Act→World→Prop} {a:Act} {w:World}
  (hro:F.round=none) (h1:1≤n) {gf:Nat} {lb:Array Value} (hg:a.eval g=.func (.func gf) #[] lb) (hF:F.fn gf) (eg:∀ args w,(callFunc gf args).run P w=.ok (.enter gf args) w)
  {encs:α→Array Value} {T:Nat→Prop} {R:List α→α→World→Prop} {S Sp:List α→Prop} {N:Nat} {w0:World} (hseq:ZbF F (n - 1) P gf lb encs T R S Sp N w0) (hb0:Below w0.heap.size w0 w) (hT:∀ k,T k→k<w.heap.size)
  (hps:∀ x,(encs x).size=ps.size) (I Ix:List α→World→Prop) (hI:OwnFrom w.heap.size I) (hIx:OwnFrom w.heap.size Ix) (hR:∀ pre,OwnFrom w.heap.size (R pre)) (h0:I [] w) (a₁:α→Act)
  (hassign:∀ (l:Nat) (x:α) (W:World) (K:Act→World→Prop),K (a₁ x) W →
   assign.wpIn (F.inRound l) (n - 1 - 1) P (Exit.then K (fun _ _ _=>False)) { tmps:=(ps.zip (encs x)).foldl (fun t (p,v)=>t.setIfInBounds p v) a.tmps,defers:=[] } W)
  (hbody:∀ (l:Nat) (pre:List α) (x:α) (W:World),I pre W→R pre x W→pre.length<N→body.wpIn (F.inRound l) (n - 1 - 1) P (Za0 w.heap.size T I Ix (pre++[x]) W) (a₁ x) W)
  (hdone:∀ (D:Nat) (xs:List α) (W:World),w.heap.size≤D→S xs→I xs W→W.heap[D]? = some (.deferred (some []))→Q .normal { a with defers:={ target:=.collected D,args:=#[] }::a.defers } W)
  (hstop:∀ (D:Nat) (pre:List α) (W:World),w.heap.size≤D→Sp pre→Ix pre W→W.heap[D]? = some (.deferred (some []))→Code.ret.wpIn F n P Q { a with defers:={ target:=.collected D,args:=#[] }::a.defers } W) :
  (Code.rangeFunc g ps assign body).wpIn F n P Q a w:=by
 refine wpIn_rangeFunc fun fn hfn => ?_
 rw [hro]
 obtain ⟨rec,hrec⟩:∃ rec:LoopState→Option Code→Loop,∀ st pe,rec st pe={ state:=st,pending:=pe,fn:=fn,tmps:=a.tmps,params:=ps,assign:=assign,body:=body,defers:=w.heap.size }:=⟨_,fun _ _=>rfl⟩
 obtain ⟨W1,hW1⟩:∃ W1,(w.alloc (.deferred (some []))).alloc (.loop (rec .ready none))=W1:=⟨_,rfl⟩
 have hbk1:Books rec w.heap.size .ready none W1:=by
  subst hW1
  refine ⟨?_,(Below.heap_alloc _ _ _ (by simp)).trans (World.alloc_heap_new w _)⟩
  have:=World.alloc_heap_new (w.alloc (.deferred (some []))) (.loop (rec .ready none))
  rwa [World.size_alloc] at this
 have hI1:I [] W1:=by subst hW1;exact hI.alloc _ (hI.alloc _ h0)
 have hb1:Below w0.heap.size w0 W1:=by subst hW1;exact hb0.trans ((((Below.refl _ w).alloc (Nat.le_refl _) _).alloc (by simp) _).mono hb0.size)
 have hgrow:∀ {I':List α→World→Prop},OwnFrom w.heap.size I'→∀ {st pe},ZaM (fun pre W=>I' pre W∧Books rec w.heap.size st pe W):=fun h' _ _ s A B hs hg'=>⟨h' s A B none hs.1 hg' (fun r e=>by cases e),hs.2.grown hg'⟩
 have hend:∀ {st:LoopState} {pe:Option Code} (jump:Option Code) (W:World),Books rec w.heap.size st pe W →
   (Instr.endRound (w.heap.size+1) jump).run P W=.ok (.bool jump.isNone) (W.putObj (w.heap.size+1) (.loop (rec (if jump.isNone then .ready else .done) jump))):=fun jump W h=>by
  have:=run_endRound (P:=P) jump h.loop
  rw [hrec] at this ⊢
  exact this
 have hover:∀ {st:LoopState} {pe:Option Code} (W:World),st≠.busy→Books rec w.heap.size st pe W→(Instr.endLoop (w.heap.size+1)).run P W=.ok pe (W.putObj (w.heap.size+1) (.loop (rec .exhausted pe))):=fun W hst h=>by
  have:=run_endLoop (P:=P) h.loop (by rw [hrec];exact hst)
  rw [hrec] at this ⊢
  exact this
 refine ⟨w.heap.size+1,[{ target:=.collected w.heap.size,args:=#[] }],W1,{ target:=.fn (.func gf) lb,args:=#[.func (.yield (w.heap.size+1)) #[] #[]] },W1,gf,
  #[.func (.yield (w.heap.size+1)) #[] #[]]++lb,W1,?_,?_,?_,?_,fun _=>h1,?_⟩
 ·rw [← hW1,hrec]
  exact run_enterLoop_outer _ _ _ _ _
 ·simp only [resolve,hg]
  simp [go_sem]
 ·intro f' hf'
  simp [Target.leads] at hf'
  subst hf'
  exact hF
 ·simp [invoke,go_sem,eg]
 refine (hseq (w.heap.size+1) (fun pre W=>I pre W∧Books rec w.heap.size .ready none W) (fun pre W=>Ix pre W∧Books rec w.heap.size .done (some .ret) W) W1 hb1 (hgrow hI) (hgrow hIx) ?_ ⟨hI1,hbk1⟩).mono ?_
 ·rintro pre x A ⟨hi,hbk⟩ hx hlen
  have hy:=run_yield (P:=P) (args:=encs x) hbk.loop (by rw [hrec];exact hps x)
  rw [hrec] at hy
  have hbegin:=run_beginRound (P:=P) hbk.loop (by rw [hrec])
  have hbusy:({ rec .ready none with state:=.busy }:Loop)=rec .busy none:=by rw [hrec,hrec]
  rw [hbusy] at hbegin
  refine ⟨fn,_,assign,body,hy,roundIn_of_wpIn hfn (hassign _ x A _ ⟨_,hbegin,?_⟩)⟩
  have hbk2:Books rec w.heap.size .busy none (A.putObj (w.heap.size+1) (.loop (rec .busy none))):=hbk.turn
  refine wpIn_mono (hbody _ pre x _ (hI.putObj _ hi (by omega) hbk.loop rfl) ((hR pre).putObj _ hx (by omega) hbk.loop rfl) hlen) ?_
  have hb2:Kep T A (A.putObj (w.heap.size+1) (.loop (rec .busy none))):=Zm3 _ _ (fun h=>by have:=hT _ h;omega) hbk.lt
  rintro e a3 B hp
  cases e with
  | normal =>
    obtain ⟨hk,hbl,hi3⟩:=hp
    have hbk3:=hbk2.keeps hk
    exact ⟨_,_,hend none B hbk3,.inl ⟨rfl,⟨hI.putObj _ hi3 (by omega) hbk3.loop rfl,hbk3.turn⟩,(hb2.trans hbl).trans (Zm3 _ _ (fun h=>by have:=hT _ h;omega) hbk3.lt)⟩⟩
  | ret =>
    obtain ⟨hk,hi3⟩:=hp
    have hbk3:=hbk2.keeps hk
    exact ⟨_,_,hend (some .ret) B hbk3,.inr ⟨rfl,hIx.putObj _ hi3 (by omega) hbk3.loop rfl,hbk3.turn⟩⟩
  | exit id=>exact hp.elim
  | goto t=>exact hp.elim
  | panic ch=>exact hp.elim
  | outgrown=>exact hp.elim
 ·rintro e B ⟨⟨v,rfl⟩,(⟨xs,hS,hi,hbk⟩ | ⟨pre,hSp,hi,hbk⟩)⟩
  ·exact ⟨none,_,hover B (by simp) hbk,hdone _ xs _ (Nat.le_refl _) hS (hI.putObj _ hi (by omega) hbk.loop rfl) (hbk.turn (st':=.exhausted)).calls⟩
  ·exact ⟨some .ret,_,hover B (by simp) hbk,hstop _ pre _ (Nat.le_refl _) hSp (hIx.putObj _ hi (by omega) hbk.loop rfl) (hbk.turn (st':=.exhausted)).calls⟩
end Go.Proofs.YtdijhifdjbnkfaaGreat.RF
namespace Go.Proofs.YtdijhifdjbnkfaaGreat.ST
open Go Go.RowKit Go.Shelf MM SM
open EV (docC Zgn)
open RF (ZbF ZaM)
attribute [local go_sem] Oper.semAt_some
def Ze4 (l:List Doc):List (List Doc):=(List.range (Zdt l.length)).map (ZeN l)
theorem Zgp:docC.size=3:=rfl
abbrev Part:=Value×List Doc
abbrev encP (x:Part):Array Value:=#[x.1]
def VowP (T:Nat→Prop) (l:List Doc) (pre:List Part) (x:Part) (W:World):Prop:=ROn docC T W x.1 x.2∧x.2=ZeN l pre.length
theorem ZtW {α:Type} {C:Codec α} {S:Nat→Prop} {w:World} {p:Option Addr} {n cap cap':Nat} {es:List α} (h:ROn C S w (.slice p n cap) es) (h1:n≤cap') (h2:cap'≤maxLen) (h3:p≠none):ROn C S w (.slice p n cap') es:=by
 obtain ⟨p',c',raw,hv,a1,a2,a3,hm,hc⟩:=h
 simp only [Value.slice.injEq] at hv
 obtain ⟨rfl,rfl,rfl⟩:=hv
 exact ⟨_,cap',raw,rfl,h1,h2,fun h=>absurd h h3,hm,hc⟩
theorem ZeS (l:List Doc) (k m:Nat) (h:m=min 16 (l.length - 16*k)):(l.drop (16*k)).take m=ZeN l k:=by
 unfold ZeN
 subst h
 by_cases h2:16≤l.length - 16*k
 ·rw [Nat.min_eq_left h2]
 ·rw [Nat.min_eq_right (by omega),List.take_of_length_le (by rw [List.length_drop];exact Nat.le_refl _),List.take_of_length_le (by rw [List.length_drop];omega)]
theorem ZeU (n:Nat) (hn:1≤n) (y bs bn:Nat) (T:Nat→Prop) (v0:Value) (l:List Doc) (J Jx:List Part→World→Prop) (hJ:ZaM J)
  (hY:∀ pre x A,J pre A→VowP T l pre x A→pre.length<Zdt l.length→YieldAt Fence.wide (n - 1) Tryz.prog y (encP x) A fun e B =>
   (e=.returned (.bool true)∧J (pre++[x]) B∧Kep T A B)∨(e=.returned (.bool false)∧Jx (pre++[x]) B))
  (W:World) (hbs:W.cell? ⟨bs,0,none⟩=some v0) (hbn:W.cell? ⟨bn,0,none⟩=some (.int .i64 16)) (hbs1:T bs) (hbn1:T bn) (hl:ROn docC T W v0 l) (h0:J [] W) (hlen:l.length≤65536) :
  CallsIn Fence.wide n Tryz.prog 200 #[.func (.yield y) #[] #[],.pointer (some ⟨bs,0,none⟩),.pointer (some ⟨bn,0,none⟩)] W fun e B=>(∃ v,e=.returned v) ∧
   ((∃ xs,xs.map (·.2)=Ze4 l∧J xs B)∨(∃ pre,True∧Jx pre B)):=by
 obtain ⟨p0,cap0,rfl,hlc,hcm,_⟩:=hl.shape
 unfold maxLen at hcm
 have hmx:Tryz.prog.follows .mixedOrders=true:=by kernel_rfl
 have HB0:=Lib.hid (And.intro hl (And.intro hbs hbn))
 have HT0:Hid (([]:List Part).map (·.2)=(List.range 0).map (ZeN l)):=Lib.hid rfl
 have HY:=Lib.hid hY
 clear hl hY hbs hbn
 refine callsIn_of_wp Tryz.func200 rfl trivial ?_ rfl
 simp only [Tryz.ntmps200,List.size_toArray,List.length_cons,List.length_nil,Nat.reduceAdd,Nat.reduceSub,Array.replicate_succ,Array.replicate_zero,List.push_toArray,List.append_toArray,List.nil_append,List.cons_append]
 gi_wp2
 gi_loopw [4] (fun iv wr=>∃ (k:Nat) (xs:List Part),iv=.int .i64 ((16*k:Nat):Int)∧k≤Zdt l.length∧xs.length=k∧Hid (xs.map (·.2)=(List.range k).map (ZeN l))∧Hid (ROn docC T wr (.slice p0 l.length cap0) l∧wr.cell? ⟨bs,0,none⟩=some (.slice p0 l.length cap0)∧wr.cell? ⟨bn,0,none⟩=some (.int .i64 16))∧J xs wr) (fun iv _=>16*Zdt l.length+16 - (intOf iv).toNat)
 case atStart=>exact ⟨0,[],rfl,Nat.zero_le _,rfl,HT0,HB0,h0⟩
 case round =>
  obtain ⟨k,xs,rfl,hk,hxl,HT,HR,hJs⟩:=hrel
  clear HT0 HB0 h0
  obtain ⟨hr,hcs,hcn⟩:=HR.out
  have hNd:Zdt l.length=(l.length+15) / 16:=rfl
  obtain ⟨i,hi⟩:∃ i,16*k=i:=⟨_,rfl⟩
  rw [hi]
  by_cases hlt:i<l.length
  ·have q1:decide ((i:Int)<(l.length:Int))=true:=by rw [decide_eq_true_eq];omega
   have q2:decide (i<l.length)=true:=by rw [decide_eq_true_eq];omega
   have q3:(i:Int)≤(l.length:Int):=by omega
   obtain ⟨m,hm⟩:∃ m,min 16 (l.length - i)=m:=⟨_,rfl⟩
   have hmin1:min (16:Int) ((l.length - i:Nat):Int)=(m:Int):=by omega
   have hmin2:(if l.length - i<16 then ((l.length - i:Nat):Int) else 16)=(m:Int):=by split<;>omega
   have hmin3:(if ((l.length - i:Nat):Int)<16 then ((l.length - i:Nat):Int) else 16)=(m:Int):=by split<;>omega
   obtain ⟨e,he⟩:∃ e,i+m=e:=⟨_,rfl⟩
   have hie:(i:Int)+(m:Int)=(e:Int):=by omega
   have hiw:IntKind.i64.wrap ((i:Int)+(m:Int))=(e:Int):=by rw [IntKind.wrap_i64];omega
   have q4:(e:Int)≤(cap0:Int):=by omega
   have q5:(i:Int)≤(e:Int):=by omega
   obtain ⟨b,off,vf,rfl,hbl,hbn₀,_⟩:=Zgn hr hlt
   have hrow:=(ROn.drop hr i (by omega)).take m (by omega)
   rw [if_neg (by omega),Option.map_some,Zb5,Zgp] at hrow
   have hrow2:=ZtW (cap':=m) hrow (Nat.le_refl _) (by unfold maxLen;omega) (by simp)
   rw [show (l.drop i).take m=ZeN l k by rw [← hi];exact ZeS l k m (by omega)] at hrow2
   rw [show m=e - i by omega] at hrow2
   obtain ⟨wd,hwd⟩:∃ wd,wr.drew=wd:=⟨_,rfl⟩
   have hbd:Below wr.heap.size wr wd:=by rw [← hwd];exact (Below.refl _ _).drew
   have hgd:wr.grownBy wd none:=⟨hbd.os,hbd.tape,hbd.output,hbd.size,fun k hk _=>hbd.block k hk⟩
   have hJd:=hJ xs wr wd hJs hgd
   obtain ⟨fn,tmps,assign,body,hy,hRd⟩:=HY.out xs (.slice (some ⟨b,off+i*3,none⟩) (e - i) (e - i),ZeN l k) wd hJd ⟨ROn.keep hrow2 (ZmT T hbd) (fun _ _ h=>h),by rw [hxl]⟩ (by omega)
   dsimp only [encP] at hy
   rw [← hwd] at hy
   have HRd:=Lib.hid hRd
   have HWD:=Lib.hid hwd
   have HQ:Hid (ROn docC T wd (.slice (some ⟨b,off,none⟩) l.length cap0) l∧wd.cell? ⟨bs,0,none⟩=some (.slice (some ⟨b,off,none⟩) l.length cap0)∧wd.cell? ⟨bn,0,none⟩=some (.int .i64 16)):=Lib.hid ⟨ROn.keep hr (ZmT T hbd) (fun _ _ h=>h),(hbd.cell (p:=⟨bs,0,none⟩) (World.block_lt_of_cell? _ _ hcs)).trans hcs,(hbd.cell (p:=⟨bn,0,none⟩) (World.block_lt_of_cell? _ _ hcn)).trans hcn⟩
   have HXN:Hid ((xs++[((.slice (some ⟨b,off+i*3,none⟩) (e - i) (e - i):Value),ZeN l k)]).map (·.2)=(List.range (k+1)).map (ZeN l)):=Lib.hid (by rw [List.map_append,HT.out,List.range_succ,List.map_append];rfl)
   have HI:Hid (16*k=i):=Lib.hid hi
   have hkl:k+1≤Zdt l.length:=by omega
   have HLK:Hid (k<Zdt l.length):=Lib.hid (by omega)
   clear hrow hrow2 hbd hgd hwd hRd hr HR HT hJs hi HY
   gi_wp2
   gi_region_with_o (fail)
   all_goals gi_wp2
   all_goals rw [HWD.out]
   all_goals refine HRd.out.mono ?_
   all_goals rintro e w3 (⟨rfl,hJ3,hb3⟩ | ⟨rfl,hJ3⟩)
   all_goals first
    | (have hr3:ROn docC T w3 (.slice (some ⟨b,off,none⟩) l.length cap0) l:=ROn.keep HQ.out.1 hb3 (fun _ _ h=>h)
       have cs3:w3.cell? ⟨bs,0,none⟩=some (.slice (some ⟨b,off,none⟩) l.length cap0):=(hb3.cell (World.block_lt_of_cell? _ _ HQ.out.2.1) hbs1 0).trans HQ.out.2.1
       have cn3:w3.cell? ⟨bn,0,none⟩=some (.int .i64 16):=(hb3.cell (World.block_lt_of_cell? _ _ HQ.out.2.2) hbn1 0).trans HQ.out.2.2
       have HR3:=Lib.hid (And.intro hr3 (And.intro cs3 cn3))
       clear hr3 hb3 HRd hy HQ HWD HLK
       gi_wp2
       have hi:=HI.out
       go_roundw
       case rel=>exact ⟨k+1,_,by rw [show ((16*(k+1):Nat):Int)=(i:Int)+16 by omega],hkl,by rw [List.length_append,hxl];rfl,HXN,HR3,hJ3⟩
       case measure=>simp [intOf];omega)
    | (clear HRd hy HQ HWD
       gi_wp2
       refine bodyPost_ret (results_none rfl _ _ _) rfl ?_
       exact ⟨⟨_,rfl⟩,.inr ⟨_,trivial,hJ3⟩⟩)
  ·have q1:decide ((i:Int)<(l.length:Int))=false:=by rw [decide_eq_false_iff_not];omega
   have q2:decide (i<l.length)=false:=by rw [decide_eq_false_iff_not];omega
   have hkN:k=Zdt l.length:=by omega
   have ht:=HT.out
   rw [hkN] at ht
   have HT9:Hid (xs.map (·.2)=Ze4 l):=Lib.hid ht
   clear ht HT hi hkN hlt
   gi_wp2
   go_end0
   exact ⟨⟨_,rfl⟩,.inl ⟨xs,HT9.out,hJs⟩⟩
theorem ZeJ (n:Nat) (p:Option Addr) (m c:Nat) (W:World) :
  CallsIn Fence.wide n Tryz.prog 135 #[.slice p m c,.int .i64 16] W fun e B=>e=.returned (.func (.func 200) #[] #[.pointer (some ⟨W.heap.size,0,none⟩),.pointer (some ⟨W.heap.size+1,0,none⟩)])∧B=(W.alloc (.cells #[.slice p m c] 22)).alloc (.cells #[.int .i64 16] 3):=by
 refine callsIn_of_wp Tryz.func135 rfl trivial ?_ rfl
 simp only [Tryz.ntmps135,List.size_toArray,List.length_cons,List.length_nil,Nat.reduceAdd,Nat.reduceSub,Array.replicate_succ,Array.replicate_zero,List.push_toArray,List.append_toArray,List.nil_append,List.cons_append]
 gi_wp2
 go_ret
 exact ⟨rfl,rfl⟩
theorem ZeZ (n:Nat) (hn:1≤n) (bs bn:Nat) (T:Nat→Prop) (v:Value) (l:List Doc) (w:World) (hlen:l.length≤65536) (hbs:T bs) (hbn:T bn) (hT:∀ k,T k→k<w.heap.size) (hcs:w.cell? ⟨bs,0,none⟩=some v) (hcn:w.cell? ⟨bn,0,none⟩=some (.int .i64 16)) (hl:ROn docC T w v l) :
  ZbF Fence.wide n Tryz.prog 200 #[.pointer (some ⟨bs,0,none⟩),.pointer (some ⟨bn,0,none⟩)] encP T (VowP T l) (fun xs=>xs.map (·.2)=Ze4 l) (fun _=>True) (Zdt l.length) w :=
 fun y J Jx W hW hJ _ hY h0=>ZeU n hn y bs bn T v l J Jx hJ hY W ((hW.cell (p:=⟨bs,0,none⟩) (hT _ hbs)).trans hcs) ((hW.cell (p:=⟨bn,0,none⟩) (hT _ hbn)).trans hcn) hbs hbn (ROn.keep hl (ZmT T hW) (fun _ _ h=>h)) h0 hlen
end Go.Proofs.YtdijhifdjbnkfaaGreat.ST
namespace Go.Proofs.YtdijhifdjbnkfaaGreat.TB
open Go Go.RowKit MM GB
structure E3 (T:Nat→Prop) (w W0 W:World) (Bh Bb Ba:Nat) (xh xb xa vh vb vx:Value) (H Bd X:List UInt8):Prop where
 bh:Boxed W Bh 23 xh
 bb:Boxed W Bb 23 xb
 ba:Boxed W Ba 3 xa
 oh:OwnB 0 W vh H
 ob:OwnB 0 W vb Bd
 ox:OwnB 0 W vx X
 fh:∀ k,vh.ownBlock=some k→w.heap.size≤k∧¬ T k
 fb:∀ k,vb.ownBlock=some k→w.heap.size≤k∧¬ T k
 hb:∀ k,vh.ownBlock=some k→vb.ownBlock≠some k
 xx:∀ k,vx.ownBlock=some k→vh.ownBlock≠some k∧vb.ownBlock≠some k
 low:Below w.heap.size w W
 kt:Kep T W0 W
 ko:KeepsOthers W0 W
 lB:(w.heap.size≤Bh∧w.heap.size≤Bb∧w.heap.size≤Ba)∧(Bh≠Bb∧Bh≠Ba∧Bb≠Ba)∧¬ T Bh∧¬ T Bb∧¬ T Ba
 tW:∀ k,T k→k<W0.heap.size
variable {T : Nat → Prop} {w W0 W W' : World} {Bh Bb Ba : Nat} {xh xb xa vh vb vx vh' vb' : Value} {H Bd X H' Bd' : List UInt8}
theorem ZdI {S:Nat→Prop} {B:Nat} {t:TypeId} {v:Value} (h:Boxed W B t v) (hk:Kep S W W') (hB:S B):Boxed W' B t v:=(hk.block B h.lt hB).trans h
theorem ZdJ {B:Nat} {t:TypeId} {x v:Value} {l:List UInt8} (h:Boxed W B t x) (ht:t≠5) (ho:OwnB 0 W v l):v.ownBlock≠some B:=fun e=>h.not_row ht ho e.symm
theorem ne1:(23:TypeId)≠5:=by decide
theorem ne2:(3:TypeId)≠5:=by decide
theorem E3.below (h:E3 T w W0 W Bh Bb Ba xh xb xa vh vb vx H Bd X) (hb:Below W.heap.size W W'):E3 T w W0 W' Bh Bb Ba xh xb xa vh vb vx H Bd X:=by
 have hk:=ZmT (fun _=>True) hb
 exact ⟨ZdI h.bh hk trivial,ZdI h.bb hk trivial,ZdI h.ba hk trivial,h.oh.keep hb,h.ob.keep hb,h.ox.keep hb,h.fh,h.fb,h.hb,h.xx,h.low.trans (hb.mono h.low.size),h.kt.trans (ZmT _ hb),
  h.ko.trans ⟨hb.size,fun k o hk' _=>(hb.block k (Array.getElem?_eq_some_iff.1 hk').1).trans hk'⟩,h.lB,h.tW⟩
theorem Zp1 {v v':Value} {l:List UInt8} (ho:OwnB 0 W v l) (hg:ZaL W W' v v'):KeepsOthers W W':=KeepsOthers.of_grownBy hg.1 fun j o hj hc=>by
 obtain ⟨_,cur,fr,hh⟩:=Zp8 ho hj
 rw [hh] at hc
 cases hc
 rfl
theorem E3.growH (h:E3 T w W0 W Bh Bb Ba xh xb xa vh vb vx H Bd X) (hg:ZaL W W' vh vh') (ho:OwnB 0 W' vh' H'):E3 T w W0 W' Bh Bb Ba xh xb xa vh' vb vx H' Bd X:=by
 have hs:=hg.1.size
 have hsw:=h.low.size
 have hk:=hg.kep
 refine ⟨ZdI h.bh hk (ZdJ h.bh ne1 h.oh),ZdI h.bb hk (ZdJ h.bb ne1 h.oh),ZdI h.ba hk (ZdJ h.ba ne2 h.oh),ho,OwnB.kepOwn h.ob hk (fun k hk' e=>h.hb k e hk'),OwnB.kepOwn h.ox hk (fun k hk' e=>(h.xx k hk').1 e),fun k hk' => ?_,h.fb,fun k hk' e => ?_,fun k hk'=>⟨fun e => ?_,(h.xx k hk').2⟩,h.low.trans (hk.below hsw fun k hk' e=>by have:=(h.fh k e).1;omega),h.kt.andThen hk (fun k _ hT e=>(h.fh k e).2 hT),h.ko.trans (Zp1 h.oh hg),h.lB,h.tW⟩
 ·rcases hg.2 k hk' with e | e
  ·exact h.fh k e
  ·exact ⟨by omega,fun hT=>by have:=h.tW k hT;have:=h.kt.size;omega⟩
 ·rcases hg.2 k hk' with e2 | e2
  ·exact h.hb k e2 e
  ·have:=Zqh h.ob k e;omega
 ·rcases hg.2 k e with e2 | e2
  ·exact (h.xx k hk').1 e2
  ·have:=Zqh h.ox k hk';omega
theorem E3.growB (h:E3 T w W0 W Bh Bb Ba xh xb xa vh vb vx H Bd X) (hg:ZaL W W' vb vb') (ho:OwnB 0 W' vb' Bd'):E3 T w W0 W' Bh Bb Ba xh xb xa vh vb' vx H Bd' X:=by
 have hs:=hg.1.size
 have hsw:=h.low.size
 have hk:=hg.kep
 refine ⟨ZdI h.bh hk (ZdJ h.bh ne1 h.ob),ZdI h.bb hk (ZdJ h.bb ne1 h.ob),ZdI h.ba hk (ZdJ h.ba ne2 h.ob),OwnB.kepOwn h.oh hk (fun k hk' e=>h.hb k hk' e),ho,OwnB.kepOwn h.ox hk (fun k hk' e=>(h.xx k hk').2 e),h.fh,fun k hk' => ?_,fun k hk' e => ?_,fun k hk'=>⟨(h.xx k hk').1,fun e => ?_⟩,h.low.trans (hk.below hsw fun k hk' e=>by have:=(h.fb k e).1;omega),h.kt.andThen hk (fun k _ hT e=>(h.fb k e).2 hT),h.ko.trans (Zp1 h.ob hg),h.lB,h.tW⟩
 ·rcases hg.2 k hk' with e | e
  ·exact h.fb k e
  ·exact ⟨by omega,fun hT=>by have:=h.tW k hT;have:=h.kt.size;omega⟩
 ·rcases hg.2 k e with e2 | e2
  ·exact h.hb k hk' e2
  ·have:=Zqh h.oh k hk';omega
 ·rcases hg.2 k e with e2 | e2
  ·exact (h.xx k hk').2 e2
  ·have:=Zqh h.ox k hk';omega
theorem E3.setH (h:E3 T w W0 W Bh Bb Ba xh xb xa vh vb vx H Bd X) (x:Value):E3 T w W0 (W.setCell ⟨Bh,0,none⟩ x) Bh Bb Ba x xb xa vh vb vx H Bd X:=by
 obtain ⟨⟨l1,l2,l3⟩,⟨n1,n2,n3⟩,t1,t2,t3⟩:=h.lB
 have hk:Kep (fun b=>b≠Bh) W (W.setCell ⟨Bh,0,none⟩ x):=ZmZ (fun h=>h rfl) x
 exact ⟨h.bh.set x,ZdI h.bb hk (Ne.symm n1),ZdI h.ba hk (Ne.symm n2),OwnB.kepOwn h.oh hk (fun k hk' e=>ZdJ h.bh ne1 h.oh (e▸hk')),OwnB.kepOwn h.ob hk (fun k hk' e=>ZdJ h.bh ne1 h.ob (e▸hk')),OwnB.kepOwn h.ox hk (fun k hk' e=>ZdJ h.bh ne1 h.ox (e▸hk')),h.fh,h.fb,h.hb,h.xx,h.low.trans (hk.below h.low.size fun k hk'=>by omega),h.kt.trans (ZmZ t1 x),h.ko.trans (KeepsOthers.setCell _ _ _),h.lB,h.tW⟩
theorem E3.setB (h:E3 T w W0 W Bh Bb Ba xh xb xa vh vb vx H Bd X) (x:Value):E3 T w W0 (W.setCell ⟨Bb,0,none⟩ x) Bh Bb Ba xh x xa vh vb vx H Bd X:=by
 obtain ⟨⟨l1,l2,l3⟩,⟨n1,n2,n3⟩,t1,t2,t3⟩:=h.lB
 have hk:Kep (fun b=>b≠Bb) W (W.setCell ⟨Bb,0,none⟩ x):=ZmZ (fun h=>h rfl) x
 exact ⟨ZdI h.bh hk n1,h.bb.set x,ZdI h.ba hk (Ne.symm n3),OwnB.kepOwn h.oh hk (fun k hk' e=>ZdJ h.bb ne1 h.oh (e▸hk')),OwnB.kepOwn h.ob hk (fun k hk' e=>ZdJ h.bb ne1 h.ob (e▸hk')),OwnB.kepOwn h.ox hk (fun k hk' e=>ZdJ h.bb ne1 h.ox (e▸hk')),h.fh,h.fb,h.hb,h.xx,h.low.trans (hk.below h.low.size fun k hk'=>by omega),h.kt.trans (ZmZ t2 x),h.ko.trans (KeepsOthers.setCell _ _ _),h.lB,h.tW⟩
theorem E3.setA (h:E3 T w W0 W Bh Bb Ba xh xb xa vh vb vx H Bd X) (x:Value):E3 T w W0 (W.setCell ⟨Ba,0,none⟩ x) Bh Bb Ba xh xb x vh vb vx H Bd X:=by
 obtain ⟨⟨l1,l2,l3⟩,⟨n1,n2,n3⟩,t1,t2,t3⟩:=h.lB
 have hk:Kep (fun b=>b≠Ba) W (W.setCell ⟨Ba,0,none⟩ x):=ZmZ (fun h=>h rfl) x
 exact ⟨ZdI h.bh hk n2,ZdI h.bb hk n3,h.ba.set x,OwnB.kepOwn h.oh hk (fun k hk' e=>ZdJ h.ba ne2 h.oh (e▸hk')),OwnB.kepOwn h.ob hk (fun k hk' e=>ZdJ h.ba ne2 h.ob (e▸hk')),OwnB.kepOwn h.ox hk (fun k hk' e=>ZdJ h.ba ne2 h.ox (e▸hk')),h.fh,h.fb,h.hb,h.xx,h.low.trans (hk.below h.low.size fun k hk'=>by omega),h.kt.trans (ZmZ t3 x),h.ko.trans (KeepsOthers.setCell _ _ _),h.lB,h.tW⟩
theorem E3.row {x:Value} {Y:List UInt8} (h:E3 T w W0 W Bh Bb Ba xh xb xa vh vb vx H Bd X) (hb:Below W.heap.size W W') (hx:OwnB W.heap.size W' x Y):E3 T w W0 W' Bh Bb Ba xh xb xa vh vb x H Bd Y:=by
 have h':=h.below hb
 exact ⟨h'.bh,h'.bb,h'.ba,h'.oh,h'.ob,OwnB.zero hx,h'.fh,h'.fb,h'.hb,fun k hk=>⟨fun e=>by have:=Zqh h.oh k e;have:=(World.ownsRow.lt hx k hk).1;omega,fun e=>by have:=Zqh h.ob k e;have:=(World.ownsRow.lt hx k hk).1;omega⟩,h'.low,h'.kt,h'.ko,h'.lB,h'.tW⟩
theorem E3.fresh (h:E3 T w W0 W Bh Bb Ba xh xb xa vh vb vx H Bd X):E3 T w W W Bh Bb Ba xh xb xa vh vb (.slice none 0 0) H Bd [] :=
 ⟨h.bh,h.bb,h.ba,h.oh,h.ob,World.ownsRow_nil _ _ _ _,h.fh,h.fb,h.hb,(fun k hk=>by cases hk),h.low,Kep.refl _ _,KeepsOthers.refl _,h.lB,fun k hk=>Nat.lt_of_lt_of_le (h.tW k hk) h.kt.size⟩
theorem E3.own {D:Nat} {row:Option Nat} (h:E3 T w W W Bh Bb Ba xh xb xa vh vb (.slice none 0 0) H Bd []) (hD:w.heap.size≤D) (hg:W.grownBy W' row) (hr:∀ r,row=some r→D≤r∧∃ o:Obj,W.heap[r]? = some o∧o.isCells=false) :
  E3 T w W' W' Bh Bb Ba xh xb xa vh vb (.slice none 0 0) H Bd []:=by
 have hk:Kep (fun b=>row≠some b) W W':=ZmW hg fun k hk hne=>hne hk
 have hc:∀ b cur t fr,W.heap[b]? = some (.cells cur t fr)→row≠some b:=fun b cur t fr hc e=>by
  obtain ⟨_,o,ho,hn⟩:=hr b e
  rw [hc] at ho
  cases ho
  cases hn
 have ho:∀ {v:Value} {l:List UInt8},OwnB 0 W v l→OwnB 0 W' v l:=fun h=>OwnB.kepOwn h hk fun k hk'=>by
  obtain ⟨_,cur,fr,hh⟩:=Zp8 h hk'
  exact hc k cur _ fr hh
 exact ⟨ZdI h.bh hk (hc _ _ _ _ h.bh),ZdI h.bb hk (hc _ _ _ _ h.bb),ZdI h.ba hk (hc _ _ _ _ h.ba),ho h.oh,ho h.ob,World.ownsRow_nil _ _ _ _,h.fh,h.fb,h.hb,h.xx,h.low.trans (hk.below h.low.size fun k hk' e=>by have:=(hr k e).1;omega),Kep.refl _ _,KeepsOthers.refl _,h.lB,fun k hk'=>Nat.lt_of_lt_of_le (h.tW k hk') hg.size⟩
end Go.Proofs.YtdijhifdjbnkfaaGreat.TB
