import Derived.Test.YtidhgicajlaafaaGreatZC14
import Derived.RangeFuncBox
import Derived.RangeFuncCalls
import Derived.Test.YtidhgicajlaafaaGreatZC21
import Derived.OrdersIn
set_option maxRecDepth 100000
set_option maxHeartbeats 8000000
set_option linter.unusedVariables false
set_option linter.unusedSimpArgs false
namespace Go.Proofs.YtidhgicajlaafaaGreat.MX
open Go MM
open EM (Ev Trm termsE Rising posOf placesT)
open PM (Post)
open RM (rowsE rowsE_rising rowsE_posts postsT postsT_mem posOf_mem posOf_some)
def sortI (l:List Int):List Int:=l.mergeSort fun x y=>decide (x≤y)
theorem sortI_perm (l:List Int):(sortI l).Perm l:=List.mergeSort_perm _ _
theorem sortI_len (l:List Int):(sortI l).length=l.length:=(sortI_perm l).length_eq
theorem sortI_sorted (l:List Int):(sortI l).Pairwise (·≤·):=by
 have tr:∀ a b c:Int,decide (a≤b)=true→decide (b≤c)=true→decide (a≤c)=true:=fun a b c h1 h2=>by simp only [decide_eq_true_eq] at *;omega
 have to:∀ a b:Int,(decide (a≤b)||decide (b≤a))=true:=fun a b=>by simp only [Bool.or_eq_true,decide_eq_true_eq];omega
 exact (List.pairwise_mergeSort tr to l).imp fun {a b} h=>of_decide_eq_true h
theorem beg_ofE {es:List Ev} {rs:List RowP} {s:List UInt8} {k:Nat} (hk:k<es.length) (hrs:rs.Perm (rowsE es)):sortI (totM rs s (k:Int))=ofE es[k] s false:=beg_sorted hk hrs (sortI_perm _) (sortI_sorted _)
theorem tot_small {es:List Ev} {rs rest:List RowP} (h:(rs++rest).Perm (rowsE es)) (s:List UInt8) (d:Int):(totM rs s d).length≤1048576:=by
 have h1:(totM rs s d).length≤(totM (rowsE es) s d).length:=by
  rw [← (totM_perm h s d).length_eq]
  unfold totM
  rw [List.filter_append,List.flatMap_append,List.length_append]
  omega
 by_cases hn:totM (rowsE es) s d=[]
 ·rw [hn,List.length_nil] at h1;omega
 ·obtain ⟨k,hk,rfl,_⟩:=tot_none (List.Perm.refl _) hn
  have h2:=beg_ofE (s:=s) hk (List.Perm.refl (rowsE es))
  have h3:=PM.riseL_len (ofE_rise es[k] s false)
  rw [← h2,sortI_len] at h3
  omega
def restR (R:List RowP) (left:List UInt8→Bool):List RowP:=R.filter fun r=>left r.1
theorem rest_same {R:List RowP} {left left':List UInt8→Bool} (h:∀ r∈R,left r.1=left' r.1):restR R left=restR R left':=List.filter_congr fun r hr=>h r hr
theorem rest_step:∀ {R:List RowP} {left:List UInt8→Bool} {r:RowP},Rising R→r∈R→left r.1=true→(restR R left).Perm (r::restR R fun k=>left k && !decide (k=r.1))
 | [],_,_,_,h,_=>by cases h
 | x::R,left,r,hR,h,hl=>by
   have hp:=List.pairwise_cons.1 hR
   by_cases e:x.1=r.1
   ·have hx:r=x:=by
     rcases List.mem_cons.1 h with h1 | h1
     ·exact h1
     ·have h2:=hp.1 r h1
      rw [e,EM.lessL_irr] at h2
      cases h2
    subst hx
    have h3:restR R left=restR R fun k=>left k && !decide (k=r.1):=rest_same fun y hy=>by
     have h4:y.1≠r.1:=fun e=>by
      have h2:=hp.1 y hy
      rw [e,EM.lessL_irr] at h2
      cases h2
     simp [h4]
    unfold restR at h3 ⊢
    rw [List.filter_cons_of_pos (by simpa using hl),List.filter_cons_of_neg (by simp),h3]
   ·have h1:r∈R:=(List.mem_cons.1 h).resolve_left fun q=>e (by rw [q])
    have ih:=rest_step hp.2 h1 hl
    unfold restR at ih ⊢
    by_cases hx:left x.1=true
    ·rw [List.filter_cons_of_pos (by simpa using hx),List.filter_cons_of_pos (by simp [hx,e])]
     exact (ih.cons x).trans (List.Perm.swap r x _)
    ·rw [List.filter_cons_of_neg (by simpa using hx),List.filter_cons_of_neg (by simp [hx])]
     exact ih
theorem rest_next {R rs:List RowP} {left:List UInt8→Bool} {r:RowP} (hR:Rising R) (h:(rs++restR R left).Perm R) (hr:r∈R) (hl:left r.1=true):((rs++[r])++restR R fun k=>left k && !decide (k=r.1)).Perm R:=by
 rw [List.append_assoc]
 exact ((List.Perm.refl rs).append (rest_step hR hr hl).symm).trans h
theorem rest_start {R:List RowP} {left:List UInt8→Bool} (h:∀ r∈R,left r.1=true):(([]:List RowP)++restR R left).Perm R:=by
 rw [List.nil_append]
 unfold restR
 rw [List.filter_eq_self.2 fun r hr=>h r hr]
theorem rest_end {R rs:List RowP} {left:List UInt8→Bool} (h:(rs++restR R left).Perm R) (hl:∀ n,left n=false):rs.Perm R:=by
 unfold restR at h
 rw [List.filter_eq_nil_iff.2 fun r _=>by simp [hl],List.append_nil] at h
 exact h
theorem beg_end {es:List Ev} {rs:List RowP} {s:List UInt8} {ks:List Int} (hrs:rs.Perm (rowsE es)) (hks:ks.Pairwise (·<·)) (hm:∀ d,d∈ks↔totM rs s d≠[]):ks.map (fun d=>(d,sortI (totM rs s d)))=postsM es s false:=by
 refine beg_posts (f:=fun d=>sortI (totM rs s d)) hks (fun d => ?_) fun k hk _=>beg_ofE hk hrs
 rw [hm]
 constructor
 ·exact tot_none hrs
 ·rintro ⟨k,hk,rfl,hne⟩ e
  rw [← beg_ofE hk hrs,e] at hne
  exact hne (by simp [sortI])
theorem row_post {es:List Ev} {r:RowP} (hr:r∈rowsE es) {p:Post} (hp:p∈r.2):∃ k:Nat,k<es.length∧p.1=(k:Int)∧p.2≠[]:=by
 rw [row_posts hr] at hp
 obtain ⟨k,hk,rfl,hne⟩:=postsT_mem.1 hp
 rw [List.length_map] at hk
 exact ⟨k,hk,by show (0:Int)+(k:Int)=_;omega,hne⟩
theorem posAt_part (x:List UInt8) (l:List Post) (j:Nat) (d:Int):(posAt (x,l.take j) d).length≤(posAt (x,l) d).length:=by
 unfold posAt
 have h:l=l.take j++l.drop j:=(List.take_append_drop j l).symm
 show ((l.take j).filter _ |>.flatMap _).length≤(l.filter _ |>.flatMap _).length
 conv=>rhs;rw [h]
 rw [List.filter_append,List.flatMap_append,List.length_append]
 omega
theorem tot_part {es:List Ev} {rs rest:List RowP} {r:RowP} (h:((rs++[r])++rest).Perm (rowsE es)) {s:List UInt8} (hs:selM s false r.1=true) (j:Nat) (d:Int):(totM rs s d++posAt (r.1,r.2.take j) d).length≤1048576:=by
 have h1:=tot_small h s d
 rw [totM_next,if_pos hs] at h1
 have h2:=posAt_part r.1 r.2 j d
 rw [List.length_append] at h1 ⊢
 have h3:(posAt r d).length=(posAt (r.1,r.2) d).length:=rfl
 omega
end Go.Proofs.YtidhgicajlaafaaGreat.MX
namespace Go.Proofs.YtidhgicajlaafaaGreat.RF
open Go Go.RowKit
def Grows {β:Type} (J:β→World→Prop):Prop:=∀ s A B,J s A→A.grownBy B none→J s B
def Vows {α:Type} (F:Fence) (n:Nat) (P:Program) (f:Nat) (lb:Array Value) (encs:α→Array Value) (n₀:Nat) (R:α→World→Prop) (S Sp:List α→Prop) (N:Nat) (w:World):Prop :=
 ∀ (l:Nat) (J Jx:List α→World→Prop) (W:World),Below w.heap.size w W→Grows J→Grows Jx →
   (∀ pre x A,J pre A→R x A→pre.length<N→YieldAt F (n - 1) P l (encs x) A fun e B =>
    (e=.returned (.bool true)∧J (pre++[x]) B∧Below n₀ A B)∨(e=.returned (.bool false)∧Jx (pre++[x]) B)) →
   J [] W →
   CallsIn F n P f (#[.func (.yield l) #[] #[]]++lb) W fun e B=>(∃ v,e=.returned v)∧((∃ xs,S xs∧J xs B)∨(∃ pre,Sp pre∧Jx pre B))
def Left {α:Type} (D n₀:Nat) (I Ix:List α→World→Prop) (xs:List α) (A:World):Exit→Act→World→Prop
 | .normal,_,B=>KeepsFrom D A B∧Below n₀ A B∧I xs B
 | .ret,_,B=>KeepsFrom D A B∧Ix xs B
 | _,_,_=>False
structure Books (rec:LoopState→Option Code→Loop) (D:Nat) (st:LoopState) (pe:Option Code) (W:World):Prop where
 loop:W.heap[D+1]? = some (.loop (rec st pe))
 calls:W.heap[D]? = some (.deferred (some []))
theorem Books.lt {rec:LoopState→Option Code→Loop} {D:Nat} {st:LoopState} {pe:Option Code} {W:World} (h:Books rec D st pe W):D+1<W.heap.size:=(Array.getElem?_eq_some_iff.1 h.loop).1
theorem Books.grown {rec:LoopState→Option Code→Loop} {D:Nat} {st:LoopState} {pe:Option Code} {A B:World} (h:Books rec D st pe A) (hg:A.grownBy B none):Books rec D st pe B :=
 ⟨(hg.block _ h.lt (by simp)).trans h.loop,(hg.block _ (by have:=h.lt;omega) (by simp)).trans h.calls⟩
theorem Books.keeps {rec:LoopState→Option Code→Loop} {D:Nat} {st:LoopState} {pe:Option Code} {A B:World} (h:Books rec D st pe A) (hk:KeepsFrom D A B):Books rec D st pe B :=
 ⟨hk.same _ _ (by omega) h.loop rfl,hk.same _ _ (Nat.le_refl _) h.calls rfl⟩
theorem Books.turn {rec:LoopState→Option Code→Loop} {D:Nat} {st st':LoopState} {pe pe':Option Code} {A:World} (h:Books rec D st pe A):Books rec D st' pe' (A.putObj (D+1) (.loop (rec st' pe'))) :=
 ⟨World.putObj_heap_same h.lt,(World.putObj_heap_other (by omega)).trans h.calls⟩
theorem below_turn {n₀ l:Nat} (W:World) (o:Obj) (h:n₀≤l) (hl:l<W.heap.size):Below n₀ W (W.putObj l o) :=
 (Below.refl n₀ W).grown (grownBy_putObj' W l o) (by omega) (fun k e=>by cases e;exact h)
variable {F : Fence} {n : Nat} {P : Program}
end Go.Proofs.YtidhgicajlaafaaGreat.RF
namespace Go.Proofs.YtidhgicajlaafaaGreat.RF
open Go Go.RowKit
variable {F : Fence} {n : Nat} {P : Program}
theorem rangeW_ {α:Type} {g:Operand} {ps:Array Tmp} {assign body:Code} {Q:Exit→Act→World→Prop} {a:Act} {w:World}
  (hro:F.round=none) (h1:1≤n) {gf:Nat} {lb:Array Value} (hg:a.eval g=.func (.func gf) #[] lb) (hF:F.fn gf) (eg:∀ args w,(callFunc gf args).run P w=.ok (.enter gf args) w)
  {encs:α→Array Value} {n₀:Nat} {R:α→World→Prop} {S Sp:List α→Prop} {N:Nat} {w0:World} (hseq:Vows F (n - 1) P gf lb encs n₀ R S Sp N w0) (hb0:Below w0.heap.size w0 w) (hn₀:n₀≤w.heap.size)
  (hps:∀ x,(encs x).size=ps.size) (I Ix:List α→World→Prop) (hI:OwnFrom w.heap.size I) (hIx:OwnFrom w.heap.size Ix) (hR:OwnFrom w.heap.size R) (h0:I [] w) (Ax:α→Act→World→Prop) (hAx:∀ a',OwnFrom w.heap.size (fun x W=>Ax x a' W))
  (hassign:∀ (l:Nat) (pre:List α) (x:α) (W:World) (K:Act→World→Prop),I pre W→R x W→(∀ a' W',KeepsFrom w.heap.size W W'→Below n₀ W W'→I pre W'→R x W'→Ax x a' W'→K a' W') →
   assign.wpIn (F.inRound l) (n - 1 - 1) P (Exit.then K (fun _ _ _=>False)) { tmps:=(ps.zip (encs x)).foldl (fun t (p,v)=>t.setIfInBounds p v) a.tmps,defers:=[] } W)
  (hbody:∀ (l:Nat) (pre:List α) (x:α) (a':Act) (W:World),w.heap.size≤W.heap.size→I pre W→R x W→Ax x a' W→pre.length<N→body.wpIn (F.inRound l) (n - 1 - 1) P (Left w.heap.size n₀ I Ix (pre++[x]) W) a' W)
  (hdone:∀ (D:Nat) (xs:List α) (W:World),w.heap.size≤D→S xs→I xs W→W.heap[D]? = some (.deferred (some []))→Q .normal { a with defers:={ target:=.collected D,args:=#[] }::a.defers } W)
  (hstop:∀ (D:Nat) (pre:List α) (W:World),w.heap.size≤D→Sp pre→Ix pre W→W.heap[D]? = some (.deferred (some []))→Code.ret.wpIn F n P Q { a with defers:={ target:=.collected D,args:=#[] }::a.defers } W) :
  (Code.rangeFunc g ps assign body).wpIn F n P Q a w:=by
 refine wpIn_rangeFunc fun fn hfn => ?_
 rw [hro]
 obtain ⟨rec,hrec⟩:∃ rec:LoopState→Option Code→Loop,∀ st pe,rec st pe={ state:=st,pending:=pe,fn:=fn,tmps:=a.tmps,params:=ps,assign:=assign,body:=body,defers:=w.heap.size }:=⟨_,fun _ _=>rfl⟩
 obtain ⟨W1,hW1⟩:∃ W1,(w.alloc (.deferred (some []))).alloc (.loop (rec .ready none))=W1:=⟨_,rfl⟩
 have hbk1:Books rec w.heap.size .ready none W1:=by
  subst hW1
  refine ⟨?_,(Below.heap_alloc _ _ _ (by simp)).trans (World.alloc_heap_new w _)⟩
  have:=World.alloc_heap_new (w.alloc (.deferred (some []))) (.loop (rec .ready none))
  rwa [World.size_alloc] at this
 have hI1:I [] W1:=by subst hW1;exact hI.alloc _ (hI.alloc _ h0)
 have hb1:Below w0.heap.size w0 W1:=by subst hW1;exact hb0.trans ((((Below.refl _ w).alloc (Nat.le_refl _) _).alloc (by simp) _).mono hb0.size)
 have hgrow:∀ {I':List α→World→Prop},OwnFrom w.heap.size I'→∀ {st pe},Grows (fun pre W=>I' pre W∧Books rec w.heap.size st pe W):=fun h' _ _ s A B hs hg'=>⟨h' s A B none hs.1 hg' (fun r e=>by cases e),hs.2.grown hg'⟩
 have hend:∀ {st:LoopState} {pe:Option Code} (jump:Option Code) (W:World),Books rec w.heap.size st pe W →
   (Instr.endRound (w.heap.size+1) jump).run P W=.ok (.bool jump.isNone) (W.putObj (w.heap.size+1) (.loop (rec (if jump.isNone then .ready else .done) jump))):=fun jump W h=>by
  have:=run_endRound (P:=P) jump h.loop
  rw [hrec] at this ⊢
  exact this
 have hover:∀ {st:LoopState} {pe:Option Code} (W:World),st≠.busy→Books rec w.heap.size st pe W→(Instr.endLoop (w.heap.size+1)).run P W=.ok pe (W.putObj (w.heap.size+1) (.loop (rec .exhausted pe))):=fun W hst h=>by
  have:=run_endLoop (P:=P) h.loop (by rw [hrec];exact hst)
  rw [hrec] at this ⊢
  exact this
 refine ⟨w.heap.size+1,[{ target:=.collected w.heap.size,args:=#[] }],W1,{ target:=.fn (.func gf) lb,args:=#[.func (.yield (w.heap.size+1)) #[] #[]] },W1,gf,
  #[.func (.yield (w.heap.size+1)) #[] #[]]++lb,W1,?_,?_,?_,?_,fun _=>h1,?_⟩
 ·rw [← hW1,hrec]
  exact run_enterLoop_outer _ _ _ _ _
 ·simp only [resolve,hg]
  simp [go_sem]
 ·intro f' hf'
  simp [Target.leads] at hf'
  subst hf'
  exact hF
 ·simp [invoke,go_sem,eg]
 refine (hseq (w.heap.size+1) (fun pre W=>I pre W∧Books rec w.heap.size .ready none W) (fun pre W=>Ix pre W∧Books rec w.heap.size .done (some .ret) W) W1 hb1 (hgrow hI) (hgrow hIx) ?_ ⟨hI1,hbk1⟩).mono ?_
 ·rintro pre x A0 ⟨hi0,hbk0⟩ hx0 hlen
  have hy:=run_yield (P:=P) (args:=encs x) hbk0.loop (by rw [hrec];exact hps x)
  rw [hrec] at hy
  refine ⟨fn,_,assign,body,hy,roundIn_of_wpIn hfn (hassign _ pre x A0 _ hi0 hx0 ?_)⟩
  intro a' A hk0 hbl0 hi hx hax
  have hbk:=hbk0.keeps hk0
  have hbegin:=run_beginRound (P:=P) hbk.loop (by rw [hrec])
  have hbusy:({ rec .ready none with state:=.busy }:Loop)=rec .busy none:=by rw [hrec,hrec]
  rw [hbusy] at hbegin
  refine ⟨_,hbegin,?_⟩
  have hbk2:Books rec w.heap.size .busy none (A.putObj (w.heap.size+1) (.loop (rec .busy none))):=hbk.turn
  have hsz2:w.heap.size≤(A.putObj (w.heap.size+1) (.loop (rec .busy none))).heap.size:=by have:=hbk2.lt;omega
  refine wpIn_mono (hbody _ pre x a' _ hsz2 (hI.putObj _ hi (by omega) hbk.loop rfl) (hR.putObj _ hx (by omega) hbk.loop rfl) ((hAx a').putObj (s:=x) _ hax (by omega) hbk.loop rfl) hlen) ?_
  have hb2:Below n₀ A0 (A.putObj (w.heap.size+1) (.loop (rec .busy none))):=hbl0.trans (below_turn _ _ (by omega) hbk.lt)
  rintro e a3 B hp
  cases e with
  | normal =>
    obtain ⟨hk,hbl,hi3⟩:=hp
    have hbk3:=hbk2.keeps hk
    exact ⟨_,_,hend none B hbk3,.inl ⟨rfl,⟨hI.putObj _ hi3 (by omega) hbk3.loop rfl,hbk3.turn⟩,(hb2.trans hbl).trans (below_turn _ _ (by omega) hbk3.lt)⟩⟩
  | ret =>
    obtain ⟨hk,hi3⟩:=hp
    have hbk3:=hbk2.keeps hk
    exact ⟨_,_,hend (some .ret) B hbk3,.inr ⟨rfl,hIx.putObj _ hi3 (by omega) hbk3.loop rfl,hbk3.turn⟩⟩
  | exit id=>exact hp.elim
  | goto t=>exact hp.elim
  | panic ch=>exact hp.elim
  | outgrown=>exact hp.elim
 ·rintro e B ⟨⟨v,rfl⟩,(⟨xs,hS,hi,hbk⟩ | ⟨pre,hSp,hi,hbk⟩)⟩
  ·exact ⟨none,_,hover B (by simp) hbk,hdone _ xs _ (Nat.le_refl _) hS (hI.putObj _ hi (by omega) hbk.loop rfl) (hbk.turn (st':=.exhausted)).calls⟩
  ·exact ⟨some .ret,_,hover B (by simp) hbk,hstop _ pre _ (Nat.le_refl _) hSp (hIx.putObj _ hi (by omega) hbk.loop rfl) (hbk.turn (st':=.exhausted)).calls⟩
theorem wp_round {L n:Nat} {o:Oper} {a:Act} {w:World} {K:Act→World→Prop} {Q:Exit→Act→World→Prop} (hd:∀ c,o.op≠.defer c) (h:o.wp P a w K Q):o.wpIn (Fence.wide.inRound L) n P a w K Q:=by
 unfold Oper.wpIn
 refine ⟨fun _ _=>trivial,?_⟩
 rw [Fence.inRound_round,Oper.semAt_some _ _ _ hd]
 unfold Oper.wp at h
 generalize (execOp a.eval o).run P w=r at *
 cases r with
 | ok x w' =>
   cases x with
   | value v=>exact h
   | skip=>exact h
   | defer d=>exact h
   | enter f args=>exact ⟨(fun e=>by cases e),CallsIn.inRound L (callsIn_wide.2 h)⟩
   | row row args =>
     refine ⟨(fun e=>by cases e),?_⟩
     intro c cs _
     obtain ⟨v,w',hr,s⟩:=h c cs
     exact ⟨v,w',hr,stepsIn_wide.2 s⟩
   | round l f tmps assign body=>exact False.elim h
   | _=>exact h
 | halt x w'=>cases x<;>exact h
theorem any_round {L n:Nat} {ops:Array Oper} {Q:Exit→Act→World→Prop} {md:Region.Mode} (hd:∀ (i:Nat) (o:Oper) c,ops[i]? = some o→o.op≠.defer c) (hQ:¬ LetsOut Q):∀ (fuel:Nat) (listed:Array Bool) (a:Act) (w:World),wpAny P md ops Q fuel listed a w→wpAnyIn (Fence.wide.inRound L) n P md ops Q fuel listed a w
 | 0,_,_,_,h=>h
 | fuel+1,listed,a,w,h=>by
   refine ⟨h.1,fun i hi => ?_⟩
   have:=h.2 i hi
   unfold wpOp at this
   unfold wpOpIn
   cases ho:ops[i]? with
   | none=>rw [ho] at this;exact any_round hd hQ fuel _ _ _ this
   | some o =>
     rw [ho] at this
     dsimp only at this ⊢
     split at this
     ·rename_i hw
      rw [if_pos hw]
      rcases this with this | ⟨_,hL⟩
      ·exact Oper.wpIn_mono (fun a w=>any_round hd hQ fuel _ a w) (wp_round (fun c=>hd i o c ho) this)
      ·exact absurd hL hQ
     ·rename_i hw
      rw [if_neg hw]
      exact ⟨fun _ _=>trivial,any_round hd hQ fuel _ _ _ this⟩
def noDefer (ops:Array Oper):Bool:=ops.all fun o=>match o.op with | .defer _=>false | _=>true
theorem noDefer_spec {ops:Array Oper} (h:noDefer ops=true):∀ (i:Nat) (o:Oper) c,ops[i]? = some o→o.op≠.defer c:=fun i o c hi hc=>by
 unfold noDefer at h
 rw [Array.all_eq_true] at h
 obtain ⟨hlt,rfl⟩:=Array.getElem?_eq_some_iff.1 hi
 have:=h i hlt
 rw [hc] at this
 cases this
theorem beginR {T:Nat→Prop} {L:Nat} {ops:Array Oper} {Q:Exit→Act→World→Prop} (l:RT.Plan Nat) {id:Nat} {a:Act} {w:World} (hm:P.follows .mixedOrders=true) (hs:Region.noSelect ops=true) (hl:l.len=ops.size) (hd:noDefer ops=true) (hL:¬ LetsOut Q)
  (hp:RT.planned .any ops l (Array.replicate ops.size false)=true) (hQ:∀ c a d v w,Q (.panic c) (Act.put a d v) w→Q (.panic c) a w)
  (h:RT.walk T P ops Q (RT.ordered ops l) a w.drew):(Code.region id ops true).wpIn (Fence.wide.inRound L) n P Q a w:=by
 refine wpIn_region_any hm (any_round (noDefer_spec hd) hL _ _ _ _ ?_)
 rw [← hl]
 have:=RT.held_of_walk (md:=.any) hs hQ l (Array.replicate ops.size false) a w.drew hp h
 rw [← hl] at this
 exact wpAny_of_held _ _ _ _ this
end Go.Proofs.YtidhgicajlaafaaGreat.RF
