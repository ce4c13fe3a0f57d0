import Derived.Test.YtidhgicajlaafaaGreatZD19
import Derived.RangeFuncNested
import Derived.RangeFuncBound
import Derived.Test.YtidhgicajlaafaaGreatZD11
import Derived.Test.YtidhgicajlaafaaGreatZD27
set_option maxRecDepth 100000
set_option maxHeartbeats 8000000
set_option linter.unusedVariables false
set_option linter.unusedSimpArgs false
namespace Go.Proofs.YtidhgicajlaafaaGreat.RF
open Go Go.RowKit
def Grows {β:Type} (J:β→World→Prop):Prop:=∀ s A B,J s A→A.grownBy B none→J s B
def Vows {α:Type} (F:Fence) (n:Nat) (P:Program) (f:Nat) (lb:Array Value) (encs:α→Array Value) (n₀:Nat) (R:α→World→Prop) (S Sp:List α→Prop) (N:Nat) (w:World):Prop :=
 ∀ (l:Nat) (J Jx:List α→World→Prop) (W:World),Below w.heap.size w W→Grows J→Grows Jx →
   (∀ pre x A,J pre A→R x A→pre.length<N→YieldAt F (n - 1) P l (encs x) A fun e B =>
    (e=.returned (.bool true)∧J (pre++[x]) B∧Below n₀ A B)∨(e=.returned (.bool false)∧Jx (pre++[x]) B)) →
   J [] W →
   CallsIn F n P f (#[.func (.yield l) #[] #[]]++lb) W fun e B=>(∃ v,e=.returned v)∧((∃ xs,S xs∧J xs B)∨(∃ pre,Sp pre∧Jx pre B))
def Left {α:Type} (D n₀:Nat) (I Ix:List α→World→Prop) (xs:List α) (A:World):Exit→Act→World→Prop
 | .normal,_,B=>KeepsFrom D A B∧Below n₀ A B∧I xs B
 | .ret,_,B=>KeepsFrom D A B∧Ix xs B
 | _,_,_=>False
structure Books (rec:LoopState→Option Code→Loop) (D:Nat) (st:LoopState) (pe:Option Code) (W:World):Prop where
 loop:W.heap[D+1]? = some (.loop (rec st pe))
 calls:W.heap[D]? = some (.deferred (some []))
theorem Books.lt {rec:LoopState→Option Code→Loop} {D:Nat} {st:LoopState} {pe:Option Code} {W:World} (h:Books rec D st pe W):D+1<W.heap.size:=(Array.getElem?_eq_some_iff.1 h.loop).1
theorem Books.grown {rec:LoopState→Option Code→Loop} {D:Nat} {st:LoopState} {pe:Option Code} {A B:World} (h:Books rec D st pe A) (hg:A.grownBy B none):Books rec D st pe B :=
 ⟨(hg.block _ h.lt (by simp)).trans h.loop,(hg.block _ (by have:=h.lt;omega) (by simp)).trans h.calls⟩
theorem Books.keeps {rec:LoopState→Option Code→Loop} {D:Nat} {st:LoopState} {pe:Option Code} {A B:World} (h:Books rec D st pe A) (hk:KeepsFrom D A B):Books rec D st pe B :=
 ⟨hk.same _ _ (by omega) h.loop rfl,hk.same _ _ (Nat.le_refl _) h.calls rfl⟩
theorem Books.turn {rec:LoopState→Option Code→Loop} {D:Nat} {st st':LoopState} {pe pe':Option Code} {A:World} (h:Books rec D st pe A):Books rec D st' pe' (A.putObj (D+1) (.loop (rec st' pe'))) :=
 ⟨World.putObj_heap_same h.lt,(World.putObj_heap_other (by omega)).trans h.calls⟩
theorem below_turn {n₀ l:Nat} (W:World) (o:Obj) (h:n₀≤l) (hl:l<W.heap.size):Below n₀ W (W.putObj l o) :=
 (Below.refl n₀ W).grown (grownBy_putObj' W l o) (by omega) (fun k e=>by cases e;exact h)
variable {F : Fence} {n : Nat} {P : Program}
end Go.Proofs.YtidhgicajlaafaaGreat.RF
namespace Go.Proofs.YtidhgicajlaafaaGreat.RF
open Go Go.RowKit
variable {F : Fence} {n : Nat} {P : Program}
theorem rangeW_ {α:Type} {g:Operand} {ps:Array Tmp} {assign body:Code} {Q:Exit→Act→World→Prop} {a:Act} {w:World}
  (hro:F.round=none) (h1:1≤n) {gf:Nat} {lb:Array Value} (hg:a.eval g=.func (.func gf) #[] lb) (hF:F.fn gf) (eg:∀ args w,(callFunc gf args).run P w=.ok (.enter gf args) w)
  {encs:α→Array Value} {n₀:Nat} {R:α→World→Prop} {S Sp:List α→Prop} {N:Nat} {w0:World} (hseq:Vows F (n - 1) P gf lb encs n₀ R S Sp N w0) (hb0:Below w0.heap.size w0 w) (hn₀:n₀≤w.heap.size)
  (hps:∀ x,(encs x).size=ps.size) (I Ix:List α→World→Prop) (hI:OwnFrom w.heap.size I) (hIx:OwnFrom w.heap.size Ix) (hR:OwnFrom w.heap.size R) (h0:I [] w) (Ax:α→Act→World→Prop) (hAx:∀ a',OwnFrom w.heap.size (fun x W=>Ax x a' W))
  (hassign:∀ (l:Nat) (pre:List α) (x:α) (W:World) (K:Act→World→Prop),I pre W→R x W→(∀ a' W',KeepsFrom w.heap.size W W'→Below n₀ W W'→I pre W'→R x W'→Ax x a' W'→K a' W') →
   assign.wpIn (F.inRound l) (n - 1 - 1) P (Exit.then K (fun _ _ _=>False)) { tmps:=(ps.zip (encs x)).foldl (fun t (p,v)=>t.setIfInBounds p v) a.tmps,defers:=[] } W)
  (hbody:∀ (l:Nat) (pre:List α) (x:α) (a':Act) (W:World),w.heap.size≤W.heap.size→I pre W→R x W→Ax x a' W→pre.length<N→body.wpIn (F.inRound l) (n - 1 - 1) P (Left w.heap.size n₀ I Ix (pre++[x]) W) a' W)
  (hdone:∀ (D:Nat) (xs:List α) (W:World),w.heap.size≤D→S xs→I xs W→W.heap[D]? = some (.deferred (some []))→Q .normal { a with defers:={ target:=.collected D,args:=#[] }::a.defers } W)
  (hstop:∀ (D:Nat) (pre:List α) (W:World),w.heap.size≤D→Sp pre→Ix pre W→W.heap[D]? = some (.deferred (some []))→Code.ret.wpIn F n P Q { a with defers:={ target:=.collected D,args:=#[] }::a.defers } W) :
  (Code.rangeFunc g ps assign body).wpIn F n P Q a w:=by
 refine wpIn_rangeFunc fun fn hfn => ?_
 rw [hro]
 obtain ⟨rec,hrec⟩:∃ rec:LoopState→Option Code→Loop,∀ st pe,rec st pe={ state:=st,pending:=pe,fn:=fn,tmps:=a.tmps,params:=ps,assign:=assign,body:=body,defers:=w.heap.size }:=⟨_,fun _ _=>rfl⟩
 obtain ⟨W1,hW1⟩:∃ W1,(w.alloc (.deferred (some []))).alloc (.loop (rec .ready none))=W1:=⟨_,rfl⟩
 have hbk1:Books rec w.heap.size .ready none W1:=by
  subst hW1
  refine ⟨?_,(Below.heap_alloc _ _ _ (by simp)).trans (World.alloc_heap_new w _)⟩
  have:=World.alloc_heap_new (w.alloc (.deferred (some []))) (.loop (rec .ready none))
  rwa [World.size_alloc] at this
 have hI1:I [] W1:=by subst hW1;exact hI.alloc _ (hI.alloc _ h0)
 have hb1:Below w0.heap.size w0 W1:=by subst hW1;exact hb0.trans ((((Below.refl _ w).alloc (Nat.le_refl _) _).alloc (by simp) _).mono hb0.size)
 have hgrow:∀ {I':List α→World→Prop},OwnFrom w.heap.size I'→∀ {st pe},Grows (fun pre W=>I' pre W∧Books rec w.heap.size st pe W):=fun h' _ _ s A B hs hg'=>⟨h' s A B none hs.1 hg' (fun r e=>by cases e),hs.2.grown hg'⟩
 have hend:∀ {st:LoopState} {pe:Option Code} (jump:Option Code) (W:World),Books rec w.heap.size st pe W →
   (Instr.endRound (w.heap.size+1) jump).run P W=.ok (.bool jump.isNone) (W.putObj (w.heap.size+1) (.loop (rec (if jump.isNone then .ready else .done) jump))):=fun jump W h=>by
  have:=run_endRound (P:=P) jump h.loop
  rw [hrec] at this ⊢
  exact this
 have hover:∀ {st:LoopState} {pe:Option Code} (W:World),st≠.busy→Books rec w.heap.size st pe W→(Instr.endLoop (w.heap.size+1)).run P W=.ok pe (W.putObj (w.heap.size+1) (.loop (rec .exhausted pe))):=fun W hst h=>by
  have:=run_endLoop (P:=P) h.loop (by rw [hrec];exact hst)
  rw [hrec] at this ⊢
  exact this
 refine ⟨w.heap.size+1,[{ target:=.collected w.heap.size,args:=#[] }],W1,{ target:=.fn (.func gf) lb,args:=#[.func (.yield (w.heap.size+1)) #[] #[]] },W1,gf,
  #[.func (.yield (w.heap.size+1)) #[] #[]]++lb,W1,?_,?_,?_,?_,fun _=>h1,?_⟩
 ·rw [← hW1,hrec]
  exact run_enterLoop_outer _ _ _ _ _
 ·simp only [resolve,hg]
  simp [go_sem]
 ·intro f' hf'
  simp [Target.leads] at hf'
  subst hf'
  exact hF
 ·simp [invoke,go_sem,eg]
 refine (hseq (w.heap.size+1) (fun pre W=>I pre W∧Books rec w.heap.size .ready none W) (fun pre W=>Ix pre W∧Books rec w.heap.size .done (some .ret) W) W1 hb1 (hgrow hI) (hgrow hIx) ?_ ⟨hI1,hbk1⟩).mono ?_
 ·rintro pre x A0 ⟨hi0,hbk0⟩ hx0 hlen
  have hy:=run_yield (P:=P) (args:=encs x) hbk0.loop (by rw [hrec];exact hps x)
  rw [hrec] at hy
  refine ⟨fn,_,assign,body,hy,roundIn_of_wpIn hfn (hassign _ pre x A0 _ hi0 hx0 ?_)⟩
  intro a' A hk0 hbl0 hi hx hax
  have hbk:=hbk0.keeps hk0
  have hbegin:=run_beginRound (P:=P) hbk.loop (by rw [hrec])
  have hbusy:({ rec .ready none with state:=.busy }:Loop)=rec .busy none:=by rw [hrec,hrec]
  rw [hbusy] at hbegin
  refine ⟨_,hbegin,?_⟩
  have hbk2:Books rec w.heap.size .busy none (A.putObj (w.heap.size+1) (.loop (rec .busy none))):=hbk.turn
  have hsz2:w.heap.size≤(A.putObj (w.heap.size+1) (.loop (rec .busy none))).heap.size:=by have:=hbk2.lt;omega
  refine wpIn_mono (hbody _ pre x a' _ hsz2 (hI.putObj _ hi (by omega) hbk.loop rfl) (hR.putObj _ hx (by omega) hbk.loop rfl) ((hAx a').putObj (s:=x) _ hax (by omega) hbk.loop rfl) hlen) ?_
  have hb2:Below n₀ A0 (A.putObj (w.heap.size+1) (.loop (rec .busy none))):=hbl0.trans (below_turn _ _ (by omega) hbk.lt)
  rintro e a3 B hp
  cases e with
  | normal =>
    obtain ⟨hk,hbl,hi3⟩:=hp
    have hbk3:=hbk2.keeps hk
    exact ⟨_,_,hend none B hbk3,.inl ⟨rfl,⟨hI.putObj _ hi3 (by omega) hbk3.loop rfl,hbk3.turn⟩,(hb2.trans hbl).trans (below_turn _ _ (by omega) hbk3.lt)⟩⟩
  | ret =>
    obtain ⟨hk,hi3⟩:=hp
    have hbk3:=hbk2.keeps hk
    exact ⟨_,_,hend (some .ret) B hbk3,.inr ⟨rfl,hIx.putObj _ hi3 (by omega) hbk3.loop rfl,hbk3.turn⟩⟩
  | exit id=>exact hp.elim
  | goto t=>exact hp.elim
  | panic ch=>exact hp.elim
  | outgrown=>exact hp.elim
 ·rintro e B ⟨⟨v,rfl⟩,(⟨xs,hS,hi,hbk⟩ | ⟨pre,hSp,hi,hbk⟩)⟩
  ·exact ⟨none,_,hover B (by simp) hbk,hdone _ xs _ (Nat.le_refl _) hS (hI.putObj _ hi (by omega) hbk.loop rfl) (hbk.turn (st':=.exhausted)).calls⟩
  ·exact ⟨some .ret,_,hover B (by simp) hbk,hstop _ pre _ (Nat.le_refl _) hSp (hIx.putObj _ hi (by omega) hbk.loop rfl) (hbk.turn (st':=.exhausted)).calls⟩
theorem wp_round {L n:Nat} {o:Oper} {a:Act} {w:World} {K:Act→World→Prop} {Q:Exit→Act→World→Prop} (hd:∀ c,o.op≠.defer c) (h:o.wp P a w K Q):o.wpIn (Fence.wide.inRound L) n P a w K Q:=by
 unfold Oper.wpIn
 refine ⟨fun _ _=>trivial,?_⟩
 rw [Fence.inRound_round,Oper.semAt_some _ _ _ hd]
 unfold Oper.wp at h
 generalize (execOp a.eval o).run P w=r at *
 cases r with
 | ok x w' =>
   cases x with
   | value v=>exact h
   | skip=>exact h
   | defer d=>exact h
   | enter f args=>exact ⟨(fun e=>by cases e),CallsIn.inRound L (callsIn_wide.2 h)⟩
   | row row args =>
     refine ⟨(fun e=>by cases e),?_⟩
     intro c cs _
     obtain ⟨v,w',hr,s⟩:=h c cs
     exact ⟨v,w',hr,stepsIn_wide.2 s⟩
   | round l f tmps assign body=>exact False.elim h
   | _=>exact h
 | halt x w'=>cases x<;>exact h
theorem any_round {L n:Nat} {ops:Array Oper} {Q:Exit→Act→World→Prop} {md:Region.Mode} (hd:∀ (i:Nat) (o:Oper) c,ops[i]? = some o→o.op≠.defer c) (hQ:¬ LetsOut Q):∀ (fuel:Nat) (listed:Array Bool) (a:Act) (w:World),wpAny P md ops Q fuel listed a w→wpAnyIn (Fence.wide.inRound L) n P md ops Q fuel listed a w
 | 0,_,_,_,h=>h
 | fuel+1,listed,a,w,h=>by
   refine ⟨h.1,fun i hi => ?_⟩
   have:=h.2 i hi
   unfold wpOp at this
   unfold wpOpIn
   cases ho:ops[i]? with
   | none=>rw [ho] at this;exact any_round hd hQ fuel _ _ _ this
   | some o =>
     rw [ho] at this
     dsimp only at this ⊢
     split at this
     ·rename_i hw
      rw [if_pos hw]
      rcases this with this | ⟨_,hL⟩
      ·exact Oper.wpIn_mono (fun a w=>any_round hd hQ fuel _ a w) (wp_round (fun c=>hd i o c ho) this)
      ·exact absurd hL hQ
     ·rename_i hw
      rw [if_neg hw]
      exact ⟨fun _ _=>trivial,any_round hd hQ fuel _ _ _ this⟩
def noDefer (ops:Array Oper):Bool:=ops.all fun o=>match o.op with | .defer _=>false | _=>true
theorem noDefer_spec {ops:Array Oper} (h:noDefer ops=true):∀ (i:Nat) (o:Oper) c,ops[i]? = some o→o.op≠.defer c:=fun i o c hi hc=>by
 unfold noDefer at h
 rw [Array.all_eq_true] at h
 obtain ⟨hlt,rfl⟩:=Array.getElem?_eq_some_iff.1 hi
 have:=h i hlt
 rw [hc] at this
 cases this
theorem beginR {T:Nat→Prop} {L:Nat} {ops:Array Oper} {Q:Exit→Act→World→Prop} (l:RT.Plan Nat) {id:Nat} {a:Act} {w:World} (hm:P.follows .mixedOrders=true) (hs:Region.noSelect ops=true) (hl:l.len=ops.size) (hd:noDefer ops=true) (hL:¬ LetsOut Q)
  (hp:RT.planned .any ops l (Array.replicate ops.size false)=true) (hQ:∀ c a d v w,Q (.panic c) (Act.put a d v) w→Q (.panic c) a w)
  (h:RT.walk T P ops Q (RT.ordered ops l) a w.drew):(Code.region id ops true).wpIn (Fence.wide.inRound L) n P Q a w:=by
 refine wpIn_region_any hm (any_round (noDefer_spec hd) hL _ _ _ _ ?_)
 rw [← hl]
 have:=RT.held_of_walk (md:=.any) hs hQ l (Array.replicate ops.size false) a w.drew hp h
 rw [← hl] at this
 exact wpAny_of_held _ _ _ _ this
end Go.Proofs.YtidhgicajlaafaaGreat.RF
namespace Go.Proofs.YtidhgicajlaafaaGreat.EV
open Go Go.RowKit Go.Shelf MM EM
open TK (wordsB wordsB_count numT numT_len KRow KIn Tagged tokens_tag)
open RF (Vows Grows)
attribute [local go_sem] Oper.semAt_some
abbrev Item:=Int×List UInt8×Value×List (List UInt8)
abbrev encI (x:Item):Array Value:=#[.int .i64 x.1,.agg #[.string ⟨x.2.1.toArray⟩,x.2.2.1]]
def Vow (x:Item) (W:World):Prop:=(∃ g,x.2.2.1=.slice (some ⟨g,0,none⟩) x.2.2.2.length x.2.2.2.length∧Tagged W g)∧KRow W x.2.2.1 (numT x.2.2.2)∧x.2.1.length≤4096∧x.2.2.2.length≤4096∧(∀ s∈x.2.2.2,s.length≤4096)∧0≤x.1∧x.1≤100000
inductive Tr (fs:List Fld):List Item→Nat→Prop
 | start:Tr fs [] 0
 | next {xs:List Item} {k:Nat} (v:Value) (hk:k<fs.length):Tr fs xs k→Tr fs (xs++[(baseF (fs.take k),fs[k].1,v,wordsB fs[k].2)]) (k+1)
theorem Tr.len {fs:List Fld} {xs:List Item} {k:Nat} (h:Tr fs xs k):xs.length=k∧k≤fs.length:=by
 induction h with
 | start=>simp
 | next v hk h ih=>rw [List.length_append,List.length_singleton];omega
def pairsI (xs:List Item):List (List UInt8×Int):=xs.flatMap fun x=>pairsW x.2.1 x.2.2.2 x.1
theorem pairsI_snoc (xs:List Item) (x:Item):pairsI (xs++[x])=pairsI xs++pairsW x.2.1 x.2.2.2 x.1:=by simp [pairsI]
theorem Tr.told {fs:List Fld} {xs:List Item} {k:Nat} (h:Tr fs xs k):pairsI xs=pairsF 0 (fs.take k):=by
 induction h with
 | start=>simp [pairsI,pairsF]
 | next v hk h ih=>rw [pairsI_snoc,ih,pairsF_next hk]
theorem base_le {fs:List Fld} (hx:∀ f∈fs,f.2.length≤4096):∀ k,k≤fs.length→0≤baseF (fs.take k)∧baseF (fs.take k)≤4160*k
 | 0,_=>by simp [baseF]
 | k+1,h=>by
   have ih:=base_le hx k (by omega)
   have hk:k<fs.length:=by omega
   rw [baseF_next hk]
   have:=wordsB_count fs[k].2
   have:=hx fs[k] (List.getElem_mem hk)
   omega
theorem word_len (l:List UInt8):∀ s∈wordsB l,s.length≤4096:=fun s hs=>by have:=(TK.word_self l s hs).2;omega
theorem iter_in (n:Nat) (hn:1≤n) (l Bn n₀:Nat) (z:Int) (v0:Value) (fs:List Fld) (h16:fs.length≤16) (hnm:∀ f∈fs,f.1.length≤4096) (hx:∀ f∈fs,f.2.length≤4096) (J Jx:List Item→World→Prop) (hJ:Grows J)
  (hY:∀ pre x A,J pre A→Vow x A→pre.length<16→YieldAt Fence.wide (n - 1) Tryz.prog l (encI x) A fun e B =>
   (e=.returned (.bool true)∧J (pre++[x]) B∧Below n₀ A B)∨(e=.returned (.bool false)∧Jx (pre++[x]) B))
  (W:World) (hBn:W.cell? ⟨Bn,1,none⟩=some v0) (hb:RBel fldC n₀ W v0 fs) (hn₀:n₀≤W.heap.size) (h0:J [] W) :
  CallsIn Fence.wide n Tryz.prog 106 #[.func (.yield l) #[] #[],.pointer (some ⟨Bn,0,none⟩)] W fun e B=>(∃ v,e=.returned v) ∧
   ((∃ xs,Tr fs xs fs.length∧J xs B)∨(∃ pre,(∃ k,Tr fs pre k)∧Jx pre B)):=by
 obtain ⟨p0,cap0,rfl,hlc,hcm,_⟩:=hb.shape
 unfold maxLen at hcm
 have HB0:=Lib.hid hb
 have HT0:Hid (Tr fs [] 0):=Lib.hid .start
 have HY:=Lib.hid hY
 have HX:=Lib.hid hx
 have HM:=Lib.hid hnm
 have HZ:Hid (baseF (fs.take 0)=0):=Lib.hid (by simp [baseF])
 clear hb hY hx hnm
 refine callsIn_of_wp Tryz.func106 rfl trivial ?_ rfl
 simp only [Tryz.ntmps106,List.size_toArray,List.length_cons,List.length_nil,Nat.reduceAdd,Nat.reduceSub,Array.replicate_succ,Array.replicate_zero,List.push_toArray,List.append_toArray,List.nil_append,List.cons_append]
 gi_wp2
 gi_loopw [3,10] (fun bv iv wr=>∃ (xs:List Item) (k:Nat) (bs:Int),k≤fs.length∧bv=.int .i64 bs∧iv=.int .i64 k∧Hid (Tr fs xs k)∧Hid (baseF (fs.take k)=bs)∧Hid (RBel fldC n₀ wr (.slice p0 fs.length cap0) fs)∧J xs wr∧n₀≤wr.heap.size) (fun _ iv _=>fs.length - (intOf iv).toNat)
 case atStart=>exact ⟨[],0,0,by omega,rfl,rfl,HT0,HZ,HB0,h0,hn₀⟩
 case round =>
  obtain ⟨xs,k,bs,hk,rfl,rfl,HT,HBS,HR,hJs,hsz⟩:=hrel
  clear HT0 HB0 h0 HZ
  by_cases hlt:k<fs.length
  ·have q1:decide ((k:Int)<(fs.length:Int))=true:=by rw [decide_eq_true_eq];omega
   have q2:decide (k<fs.length)=true:=by rw [decide_eq_true_eq];omega
   obtain ⟨b,off,rfl,hbl,hbn,c1,c2⟩:=fld_at HR.out hlt
   have hxk:=HX.out fs[k] (List.getElem_mem hlt)
   have hmk:=HM.out fs[k] (List.getElem_mem hlt)
   have hnext:=fun v=>Tr.next v hlt HT.out
   have hbase:=base_le HX.out k hk
   rw [HBS.out] at hbase hnext
   have hbn1:=baseF_next hlt
   rw [HBS.out] at hbn1
   have hwl:=word_len fs[k].2
   have hwc:=wordsB_count fs[k].2
   have htok:=fun W=>tokens_tag ⟨fs[k].2.toArray⟩ W (by rw [str_sz];omega)
   simp only [str_list] at htok
   have hlen:=HT.out.len
   generalize fs[k].1=nm at *
   generalize fs[k].2=tx at *
   generalize wordsB tx=ws at *
   have HTK:=Lib.hid htok
   have HN:=Lib.hid hnext
   have HBN:=Lib.hid hbn1
   have HWL:=Lib.hid hwl
   have HLT:=Lib.hid hlt
   clear htok hnext hbn1 hwl hlt HT HBS
   gi_wp2
   refine ⟨trivial,(callsIn_wide.2 (HTK.out _)).mono ?_⟩
   rintro e w2 ⟨gt,rfl,hkr,htg,_,hb2⟩
   have hb3:Below wr.heap.size wr w2:=((Below.refl _ wr).alloc (Nat.le_refl _) _).trans (hb2.mono (by simp))
   have cn:w2.cell? ⟨wr.heap.size,0,none⟩=some (.string ⟨nm.toArray⟩):=(hb2.cell (p:=⟨wr.heap.size,0,none⟩) (by simp)).trans (new_two wr _ _ _).1
   have hw4:ws.length≤4096:=by omega
   have hb0:0≤bs:=hbase.1
   have hb1:bs≤100000:=by omega
   have hl16:xs.length<16:=by omega
   have hg2:wr.grownBy w2 none:=⟨hb3.os,hb3.tape,hb3.output,hb3.size,fun k hk _=>hb3.block k hk⟩
   have hJ2:=hJ xs wr w2 hJs hg2
   have hsz2:n₀≤w2.heap.size:=by have:=hb3.size;omega
   have hR2:=HR.out.below (hb3.mono hsz)
   rw [numT_len] at hkr ⊢
   obtain ⟨fn,tmps,assign,body,hy,hRd⟩:=HY.out xs (bs,nm,.slice (some ⟨gt,0,none⟩) ws.length ws.length,ws) w2 hJ2 ⟨⟨gt,rfl,htg⟩,hkr,hmk,hw4,HWL.out,hb0,hb1⟩ hl16
   dsimp only [encI] at hy
   have HQ:=Lib.hid hR2
   have HT3:=Lib.hid (HN.out (.slice (some ⟨gt,0,none⟩) ws.length ws.length))
   have hw5:(0:Int)≤(ws.length:Int):=Int.natCast_nonneg _
   have hw6:(ws.length:Int)≤4096:=by omega
   clear HTK HN hkr hb2 hb3 hg2 hJs hR2 HR HWL c1 c2
   gi_wp2
   refine hRd.mono ?_
   rintro e w3 (⟨rfl,hJ3,hb3⟩ | ⟨rfl,hJ3⟩)
   ·have HQ3:=Lib.hid (HQ.out.below hb3)
    have hsz3:n₀≤w3.heap.size:=by have:=hb3.size;omega
    have HB2:Hid (baseF (fs.take (k+1))=bs+(64+(ws.length:Int))):=Lib.hid (by rw [HBN.out];omega)
    clear hRd hy HQ
    gi_wp2
    have hlt:=HLT.out
    go_roundw
    case rel=>exact ⟨_,k+1,_,by omega,rfl,by go_num,HT3,HB2,HQ3,hJ3,hsz3⟩
    case measure=>simp [intOf];omega
   ·have HT4:=Lib.hid HT3.out
    clear hRd hy HQ HT3
    gi_wp2
    refine bodyPost_ret (results_none rfl _ _ _) rfl ?_
    exact ⟨⟨_,rfl⟩,.inr ⟨_,⟨_,HT4.out⟩,hJ3⟩⟩
  ·obtain rfl:k=fs.length:=by omega
   have q1:decide ((fs.length:Int)<(fs.length:Int))=false:=by simp
   have q2:decide (fs.length<fs.length)=false:=by simp
   gi_wp2
   go_end0
   exact ⟨⟨_,rfl⟩,.inl ⟨xs,HT.out,hJs⟩⟩
theorem fields_in (n:Nat) (z:Int) (p:Option Addr) (m c:Nat) (W:World) :
  CallsIn Fence.wide n Tryz.prog 84 #[.agg #[.int .i64 z,.slice p m c]] W fun e B=>e=.returned (.func (.func 106) #[] #[.pointer (some ⟨W.heap.size,0,none⟩)])∧B=W.alloc (.cells #[.int .i64 z,.slice p m c] 51):=by
 refine callsIn_of_wp Tryz.func84 rfl trivial ?_ rfl
 simp only [Tryz.ntmps84,List.size_toArray,List.length_cons,List.length_nil,Nat.reduceAdd,Nat.reduceSub,Array.replicate_succ,Array.replicate_zero,List.push_toArray,List.append_toArray,List.nil_append,List.cons_append]
 gi_wp2
 go_ret
 exact ⟨rfl,rfl⟩
theorem fields_vow (n:Nat) (hn:1≤n) (Bn n₀:Nat) (v:Value) (fs:List Fld) (h16:fs.length≤16) (hnm:∀ f∈fs,f.1.length≤4096) (hx:∀ f∈fs,f.2.length≤4096) (w:World) (hBn:Bn<w.heap.size) (hn₀:n₀≤w.heap.size) (hc:w.cell? ⟨Bn,1,none⟩=some v) (hb:RBel fldC n₀ w v fs) :
  Vows Fence.wide n Tryz.prog 106 #[.pointer (some ⟨Bn,0,none⟩)] encI n₀ Vow (fun xs=>Tr fs xs fs.length) (fun pre=>∃ k,Tr fs pre k) 16 w :=
 fun l J Jx W hW hJ _ hY h0=>iter_in n hn l Bn n₀ 0 v fs h16 hnm hx J Jx hJ hY W ((hW.cell (p:=⟨Bn,1,none⟩) hBn).trans hc) (hb.below (hW.mono hn₀)) (by have:=hW.size;omega) h0
end Go.Proofs.YtidhgicajlaafaaGreat.EV
namespace Go.Proofs.YtidhgicajlaafaaGreat.MM
open Go Go.RowKit
def Three (w:World) (g:Nat) (t:TypeId) (a b c:Value):Prop:=w.heap[g]? = some (.cells #[a,b,c] t (0,0))
section
variable {w w' : World} {g : Nat} {t : TypeId} {a b c : Value}
theorem Three.lt (h:Three w g t a b c):g<w.heap.size:=(Array.getElem?_eq_some_iff.1 h).1
theorem Three.c0 (h:Three w g t a b c):w.cell? ⟨g,0,none⟩=some a:=by rw [cell_of_row w g 0 _ _ _ h];rfl
theorem Three.c1 (h:Three w g t a b c):w.cell? ⟨g,1,none⟩=some b:=by rw [cell_of_row w g 1 _ _ _ h];rfl
theorem Three.c2 (h:Three w g t a b c):w.cell? ⟨g,2,none⟩=some c:=by rw [cell_of_row w g 2 _ _ _ h];rfl
theorem Three.fr (h:Three w g t a b c) (i:Nat):w.frozen? ⟨g,i,none⟩=false:=frozen_of_row w g i _ _ h
theorem Three.s0 (h:Three w g t a b c) (x:Value):Three (w.setCell ⟨g,0,none⟩ x) g t x b c:=heap_setCell_same w g 0 _ _ x h
theorem Three.s1 (h:Three w g t a b c) (x:Value):Three (w.setCell ⟨g,1,none⟩ x) g t a x c:=heap_setCell_same w g 1 _ _ x h
theorem Three.s2 (h:Three w g t a b c) (x:Value):Three (w.setCell ⟨g,2,none⟩ x) g t a b x:=heap_setCell_same w g 2 _ _ x h
def set3 (w:World) (g:Nat) (x y z:Value):World:=((w.setCell ⟨g,0,none⟩ x).setCell ⟨g,1,none⟩ y).setCell ⟨g,2,none⟩ z
theorem Three.set (h:Three w g t a b c) (x y z:Value):Three (set3 w g x y z) g t x y z:=((h.s0 x).s1 y).s2 z
theorem Three.keep {S:Nat→Prop} (h:Three w g t a b c) (hk:Kep S w w') (hS:S g):Three w' g t a b c:=(hk.block g h.lt hS).trans h
theorem Three.below {B:Nat} (h:Three w g t a b c) (hb:Below B w w') (hg:g<B):Three w' g t a b c:=(hb.block g hg).trans h
theorem three_new (w:World) (t:TypeId) (a b c:Value):Three (w.alloc (.cells #[a,b,c] t)) w.heap.size t a b c:=heap_alloc_new _ _
theorem Three.cells (h:Three w g t a b c):w.cell? ⟨g,0,none⟩=some a∧w.cell? ⟨g,1,none⟩=some b∧w.cell? ⟨g,2,none⟩=some c:=⟨h.c0,h.c1,h.c2⟩
theorem Three.all (h:Three w g t a b c) (x y:Value) :
  w.frozen? ⟨g,0,none⟩=false∧w.frozen? ⟨g,1,none⟩=false∧w.frozen? ⟨g,2,none⟩=false ∧
  ((w.setCell ⟨g,0,none⟩ x).cell? ⟨g,1,none⟩=some b∧(w.setCell ⟨g,0,none⟩ x).frozen? ⟨g,1,none⟩=false) ∧
  (((w.setCell ⟨g,0,none⟩ x).setCell ⟨g,1,none⟩ y).cell? ⟨g,2,none⟩=some c∧((w.setCell ⟨g,0,none⟩ x).setCell ⟨g,1,none⟩ y).frozen? ⟨g,2,none⟩=false) :=
 ⟨h.fr 0,h.fr 1,h.fr 2,⟨(h.s0 x).c1,(h.s0 x).fr 1⟩,⟨((h.s0 x).s1 y).c2,((h.s0 x).s1 y).fr 2⟩⟩
theorem kep_set3 {g:Nat} (x y z:Value):Kep (fun b=>b≠g) w (set3 w g x y z) :=
 ((kep_set (fun h=>h rfl) x).trans (kep_set (fun h=>h rfl) y)).trans (kep_set (fun h=>h rfl) z)
end
section
variable {P : Program} {fn : Func} {t : TypeId} {ty : TypeDesc}
theorem results_three1 {p:Tmp} (h:fn.results=#[.cell p t]) (hu:P.underlying t=some ty) (hd:(match ty with | .struct _ | .array _ _=>true | _=>false)=true) (hi:(P.info? t).map (·.size)=some 3) (tmps:Array Value) (w:World) (g:Nat) (a b c:Value)
  (hp:tmps.getD p undef=.pointer (some ⟨g,0,none⟩)) (hg:Three w g t a b c):(results fn tmps).run P w=.ok (.agg #[a,b,c]) w:=by
 have hp':tmps[p]?.getD undef=.pointer (some ⟨g,0,none⟩):=by simpa using hp
 have hl:=run_loadVar_row (P:=P) w g t t _ (0,0) ty hg hu hd hi
 simp [results,h,hp',asAddr,hl]
theorem results_three2 {p u:Tmp} (h:fn.results=#[.cell p t,.tmp u]) (hu:P.underlying t=some ty) (hd:(match ty with | .struct _ | .array _ _=>true | _=>false)=true) (hi:(P.info? t).map (·.size)=some 3) (tmps:Array Value) (w:World) (g:Nat) (a b c:Value)
  (hp:tmps.getD p undef=.pointer (some ⟨g,0,none⟩)) (hg:Three w g t a b c):(results fn tmps).run P w=.ok (.tuple #[.agg #[a,b,c],tmps.getD u undef]) w:=by
 have hp':tmps[p]?.getD undef=.pointer (some ⟨g,0,none⟩):=by simpa using hp
 have hl:=run_loadVar_row (P:=P) w g t t _ (0,0) ty hg hu hd hi
 simp [results,h,hp',asAddr,hl]
end
end Go.Proofs.YtidhgicajlaafaaGreat.MM
