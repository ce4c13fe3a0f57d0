import Derived.Test.YtdijhifdjbnkfaaGreatZD23
import Derived.Test.YtdijhifdjbnkfaaGreatZD50
set_option maxRecDepth 100000
set_option maxHeartbeats 8000000
set_option linter.unusedVariables false
set_option linter.unusedSimpArgs false
namespace Go.Proofs.YtdijhifdjbnkfaaGreat.RF
open Go Go.RowKit MM
def ZaH (D:Nat) (er:TypeId) (A:World) (b:Nat):Prop:=¬ (D≤b∧∃ cur fr,A.heap[b]? = some (.cells cur er fr))
def ZaN {β:Type} (D:Nat) (er:TypeId) (J:β→World→Prop):Prop:=∀ s A B,J s A→Kep (ZaH D er A) A B→J s B
theorem Books.free {rec:LoopState→Option Code→Loop} {D0 D:Nat} {er:TypeId} {st:LoopState} {pe:Option Code} {A B:World} (h:Books rec D0 st pe A) (hk:Kep (ZaH D er A) A B):Books rec D0 st pe B :=
 ⟨(hk.block _ h.lt (fun ⟨_,_,_,e⟩=>by rw [h.loop] at e;cases e)).trans h.loop,(hk.block _ (by have:=h.lt;omega) (fun ⟨_,_,_,e⟩=>by rw [h.calls] at e;cases e)).trans h.calls⟩
def TagT (T:Nat→Prop) (D:Nat) (e:TypeId) (W:World) (b:Nat):Prop:=T b∨(D≤b∧∃ cur t fr,W.heap[b]? = some (.cells cur t fr)∧t≠e)
theorem TagT.step {T:Nat→Prop} {D:Nat} {e:TypeId} {A B:World} {i:Nat} (ht:TagT T D e A i) (h:Kep (TagT T D e A) A B) (hi:i<A.heap.size):TagT T D e B i:=by
 have hk:=h.block i hi ht
 rcases ht with h1 | ⟨h1,cur,t,fr,h2,h3⟩
 ·exact .inl h1
 ·exact .inr ⟨h1,cur,t,fr,hk.trans h2,h3⟩
theorem TagT.trans {T:Nat→Prop} {D:Nat} {e:TypeId} {A B C:World} (h:Kep (TagT T D e A) A B) (k:Kep (TagT T D e B) B C):Kep (TagT T D e A) A C:=h.andThen k fun i hi ht=>ht.step h hi
theorem ZwZ {T:Nat→Prop} {D:Nat} {e:TypeId} {l:Nat} (W:World) (o:Obj) (h:¬ T l) (hl:l<W.heap.size) (hn:∀ cur t fr,W.heap[l]? ≠ some (.cells cur t fr)):Kep (TagT T D e W) W (W.putObj l o) :=
 ZmW (grownBy_putObj' W l o) fun k hk hs=>by cases hk;exact hs.elim h fun ⟨_,cur,t,fr,h2,_⟩=>hn cur t fr h2
def ZbG {α:Type} (F:Fence) (n:Nat) (P:Program) (f:Nat) (lb:Array Value) (encs:α→Array Value) (T:Nat→Prop) (D:Nat) (et er:TypeId) (R:α→World→Prop) (S Sp:List α→Prop) (N:Nat) (w:World):Prop :=
 ∀ (l:Nat) (J Jx:List α→World→Prop) (W:World),Below w.heap.size w W→D≤W.heap.size→ZaN D er J→ZaN D er Jx →
   (∀ pre x A,J pre A→R x A→pre.length<N→YieldAt F (n - 1) P l (encs x) A fun e B =>
    (e=.returned (.bool true)∧J (pre++[x]) B∧Kep (TagT T D et A) A B)∨(e=.returned (.bool false)∧Jx (pre++[x]) B)) →
   J [] W →
   CallsIn F n P f (#[.func (.yield l) #[] #[]]++lb) W fun e B=>(∃ v,e=.returned v)∧((∃ xs,S xs∧J xs B)∨(∃ pre,Sp pre∧Jx pre B))
def Za1 {α:Type} (D:Nat) (T:Nat→Prop) (et:TypeId) (I Ix:List α→World→Prop) (xs:List α) (A:World):Exit→Act→World→Prop
 | .normal,_,B=>KeepsFrom D A B∧Kep (TagT T D et A) A B∧I xs B
 | .ret,_,B=>KeepsFrom D A B∧Ix xs B
 | _,_,_=>False
variable {F : Fence} {n : Nat} {P : Program}
theorem Zst {α:Type} {g:Operand} {ps:Array Tmp} {assign body:Code} {Q:Exit→Act→World→Prop} {a:Act} {w:World}
  (hro:F.round=none) (h1:1≤n) {gf:Nat} {lb:Array Value} (hg:a.eval g=.func (.func gf) #[] lb) (hF:F.fn gf) (eg:∀ args w,(callFunc gf args).run P w=.ok (.enter gf args) w)
  {encs:α→Array Value} {T:Nat→Prop} {et er:TypeId} {R:α→World→Prop} {S Sp:List α→Prop} {N:Nat} {w0:World} (hseq:ZbG F (n - 1) P gf lb encs T w.heap.size et er R S Sp N w0) (hb0:Below w0.heap.size w0 w) (hT:∀ k,T k→k<w.heap.size)
  (hps:∀ x,(encs x).size=ps.size) (I Ix:List α→World→Prop) (hI:OwnFrom w.heap.size I) (hIx:OwnFrom w.heap.size Ix) (hI2:ZaN w.heap.size er I) (hIx2:ZaN w.heap.size er Ix) (hR:OwnFrom w.heap.size R) (h0:I [] w) (a₁:α→Act)
  (hassign:∀ (l:Nat) (x:α) (W:World) (K:Act→World→Prop),K (a₁ x) W →
   assign.wpIn (F.inRound l) (n - 1 - 1) P (Exit.then K (fun _ _ _=>False)) { tmps:=(ps.zip (encs x)).foldl (fun t (p,v)=>t.setIfInBounds p v) a.tmps,defers:=[] } W)
  (hbody:∀ (l:Nat) (pre:List α) (x:α) (W:World),I pre W→R x W→pre.length<N→body.wpIn (F.inRound l) (n - 1 - 1) P (Za1 w.heap.size T et I Ix (pre++[x]) W) (a₁ x) W)
  (hdone:∀ (D:Nat) (xs:List α) (W:World),w.heap.size≤D→S xs→I xs W→W.heap[D]? = some (.deferred (some []))→Q .normal { a with defers:={ target:=.collected D,args:=#[] }::a.defers } W)
  (hstop:∀ (D:Nat) (pre:List α) (W:World),w.heap.size≤D→Sp pre→Ix pre W→W.heap[D]? = some (.deferred (some []))→Code.ret.wpIn F n P Q { a with defers:={ target:=.collected D,args:=#[] }::a.defers } W) :
  (Code.rangeFunc g ps assign body).wpIn F n P Q a w:=by
 refine wpIn_rangeFunc fun fn hfn => ?_
 rw [hro]
 obtain ⟨rec,hrec⟩:∃ rec:LoopState→Option Code→Loop,∀ st pe,rec st pe={ state:=st,pending:=pe,fn:=fn,tmps:=a.tmps,params:=ps,assign:=assign,body:=body,defers:=w.heap.size }:=⟨_,fun _ _=>rfl⟩
 obtain ⟨W1,hW1⟩:∃ W1,(w.alloc (.deferred (some []))).alloc (.loop (rec .ready none))=W1:=⟨_,rfl⟩
 have hbk1:Books rec w.heap.size .ready none W1:=by
  subst hW1
  refine ⟨?_,(Below.heap_alloc _ _ _ (by simp)).trans (World.alloc_heap_new w _)⟩
  have:=World.alloc_heap_new (w.alloc (.deferred (some []))) (.loop (rec .ready none))
  rwa [World.size_alloc] at this
 have hI1:I [] W1:=by subst hW1;exact hI.alloc _ (hI.alloc _ h0)
 have hb1:Below w0.heap.size w0 W1:=by subst hW1;exact hb0.trans ((((Below.refl _ w).alloc (Nat.le_refl _) _).alloc (by simp) _).mono hb0.size)
 have hgrow:∀ {I':List α→World→Prop},ZaN w.heap.size er I'→∀ {st pe},ZaN w.heap.size er (fun pre W=>I' pre W∧Books rec w.heap.size st pe W):=fun h' _ _ s A B hs hk=>⟨h' s A B hs.1 hk,hs.2.free hk⟩
 have hend:∀ {st:LoopState} {pe:Option Code} (jump:Option Code) (W:World),Books rec w.heap.size st pe W →
   (Instr.endRound (w.heap.size+1) jump).run P W=.ok (.bool jump.isNone) (W.putObj (w.heap.size+1) (.loop (rec (if jump.isNone then .ready else .done) jump))):=fun jump W h=>by
  have:=run_endRound (P:=P) jump h.loop
  rw [hrec] at this ⊢
  exact this
 have hover:∀ {st:LoopState} {pe:Option Code} (W:World),st≠.busy→Books rec w.heap.size st pe W→(Instr.endLoop (w.heap.size+1)).run P W=.ok pe (W.putObj (w.heap.size+1) (.loop (rec .exhausted pe))):=fun W hst h=>by
  have:=run_endLoop (P:=P) h.loop (by rw [hrec];exact hst)
  rw [hrec] at this ⊢
  exact this
 refine ⟨w.heap.size+1,[{ target:=.collected w.heap.size,args:=#[] }],W1,{ target:=.fn (.func gf) lb,args:=#[.func (.yield (w.heap.size+1)) #[] #[]] },W1,gf,
  #[.func (.yield (w.heap.size+1)) #[] #[]]++lb,W1,?_,?_,?_,?_,fun _=>h1,?_⟩
 ·rw [← hW1,hrec]
  exact run_enterLoop_outer _ _ _ _ _
 ·simp only [resolve,hg]
  simp [go_sem]
 ·intro f' hf'
  simp [Target.leads] at hf'
  subst hf'
  exact hF
 ·simp [invoke,go_sem,eg]
 refine (hseq (w.heap.size+1) (fun pre W=>I pre W∧Books rec w.heap.size .ready none W) (fun pre W=>Ix pre W∧Books rec w.heap.size .done (some .ret) W) W1 hb1 (by subst hW1;simp;omega) (hgrow hI2) (hgrow hIx2) ?_ ⟨hI1,hbk1⟩).mono ?_
 ·rintro pre x A ⟨hi,hbk⟩ hx hlen
  have hy:=run_yield (P:=P) (args:=encs x) hbk.loop (by rw [hrec];exact hps x)
  rw [hrec] at hy
  have hbegin:=run_beginRound (P:=P) hbk.loop (by rw [hrec])
  have hbusy:({ rec .ready none with state:=.busy }:Loop)=rec .busy none:=by rw [hrec,hrec]
  rw [hbusy] at hbegin
  refine ⟨fn,_,assign,body,hy,roundIn_of_wpIn hfn (hassign _ x A _ ⟨_,hbegin,?_⟩)⟩
  have hbk2:Books rec w.heap.size .busy none (A.putObj (w.heap.size+1) (.loop (rec .busy none))):=hbk.turn
  refine wpIn_mono (hbody _ pre x _ (hI.putObj _ hi (by omega) hbk.loop rfl) (hR.putObj _ hx (by omega) hbk.loop rfl) hlen) ?_
  have hb2:Kep (TagT T w.heap.size et A) A (A.putObj (w.heap.size+1) (.loop (rec .busy none))):=ZwZ _ _ (fun h=>by have:=hT _ h;omega) hbk.lt (fun _ _ _ h=>by rw [hbk.loop] at h;cases h)
  rintro e a3 B hp
  cases e with
  | normal =>
    obtain ⟨hk,hbl,hi3⟩:=hp
    have hbk3:=hbk2.keeps hk
    exact ⟨_,_,hend none B hbk3,.inl ⟨rfl,⟨hI.putObj _ hi3 (by omega) hbk3.loop rfl,hbk3.turn⟩,TagT.trans (TagT.trans hb2 hbl) (ZwZ _ _ (fun h=>by have:=hT _ h;omega) hbk3.lt (fun _ _ _ h=>by rw [hbk3.loop] at h;cases h))⟩⟩
  | ret =>
    obtain ⟨hk,hi3⟩:=hp
    have hbk3:=hbk2.keeps hk
    exact ⟨_,_,hend (some .ret) B hbk3,.inr ⟨rfl,hIx.putObj _ hi3 (by omega) hbk3.loop rfl,hbk3.turn⟩⟩
  | exit id=>exact hp.elim
  | goto t=>exact hp.elim
  | panic ch=>exact hp.elim
  | outgrown=>exact hp.elim
 ·rintro e B ⟨⟨v,rfl⟩,(⟨xs,hS,hi,hbk⟩ | ⟨pre,hSp,hi,hbk⟩)⟩
  ·exact ⟨none,_,hover B (by simp) hbk,hdone _ xs _ (Nat.le_refl _) hS (hI.putObj _ hi (by omega) hbk.loop rfl) (hbk.turn (st':=.exhausted)).calls⟩
  ·exact ⟨some .ret,_,hover B (by simp) hbk,hstop _ pre _ (Nat.le_refl _) hSp (hIx.putObj _ hi (by omega) hbk.loop rfl) (hbk.turn (st':=.exhausted)).calls⟩
end Go.Proofs.YtdijhifdjbnkfaaGreat.RF
namespace Go.Proofs.YtdijhifdjbnkfaaGreat.SR
open Go Go.RowKit Go.Shelf MM VM SM
open EV (fldC docC docE Zgo IsF NewF)
open RF (ZbG ZaN ZaH TagT)
attribute [local go_sem] Oper.semAt_some
abbrev Part:=Value×(List Doc×Int)
abbrev encQ (x:Part):Array Value:=#[x.1,.int .i64 x.2.2]
def FldS (D:Nat) (W:World) (b:Nat):Prop:=D≤b∧IsF W b
def VowQ (D:Nat) (x:Part) (W:World):Prop:=x.2.1.length≤16∧(x.2.2=0→x.2.1≠[])∧SrcX docC (FldS D W) W x.1 x.2.1
def ZxR (b:List UInt8):List (List Doc×Int):=(Zcb b).1.map (fun c=>(c,(0:Int)))++if (Zcb b).2.2=true∨(Zcb b).2.1≠[] then [([],120)] else []
theorem Zwg {D:Nat} {w:World} {v:Value} {ds:List Doc} (h:Zax D w v ds):SrcX docC (FldS D w) w v ds:=by
 obtain ⟨S,h1,raw,ho,hm⟩:=h
 rcases ho.2 with ⟨rfl,h0⟩ | ⟨g,cap,cur,rfl,hg,hh,hnc,hmx,hs,ht⟩
 ·have:ds=[]:=List.eq_nil_of_length_eq_zero h0
  subst this
  exact (ROn.nil_ _ _).src
 ·refine ⟨some ⟨g,0,none⟩,cap,raw,rfl,hnc,(fun h=>by cases h),hm.keep (Kep.refl _ _) (fun b _ hb=>h1 b hb),.inr ⟨g,0,rfl,fun j u hj => ?_⟩⟩
  have:=Lib.cells_of_row hh (ds.length*docC.size) j u (by rw [ht];exact hj)
  rw [Zb5] at this
  exact this
theorem Zc8 (h:Head) (a:Int) (l:List UInt8) (o:Bool) (hn:0≤h.1) (h16:h.1≤16):(Zc5 h a l o).2.2=false→(Zc5 h a l o).1.length≤16:=by
 intro hb
 unfold Zc5 at hb ⊢
 by_cases h1:(l.length:Int)<h.2.2
 ·rw [if_pos h1] at hb;cases hb
 ·rw [if_neg h1] at hb ⊢
  dsimp only at hb ⊢
  by_cases h2:(Zgv h.1.toNat a (l.take h.2.2.toNat) false).2.2.2=true∨(Zgv h.1.toNat a (l.take h.2.2.toNat) false).2.2.1≠[]∨(Zgv h.1.toNat a (l.take h.2.2.toNat) false).2.1≠h.2.1
  ·rw [if_pos h2] at hb;cases hb
  ·rw [if_neg h2]
   dsimp only
   have e1:(Zgv h.1.toNat a (l.take h.2.2.toNat) false).2.2.2=false:=by
    cases hc:(Zgv h.1.toNat a (l.take h.2.2.toNat) false).2.2.2 with
    | false=>rfl
    | true=>exact absurd (.inl hc) h2
   have:=(Zgy _ _ _ _ e1).2.1
   omega
theorem Zly:∀ (f n:Nat) (l:List UInt8) (o:Bool),(Zlu f n l o).1.length≤f
 | 0,_,_,_=>by simp [Zlu]
 | f+1,n,l,o=>by
   rw [Zlu]
   by_cases hn:n=0
   ·rw [if_pos hn];simp
   ·rw [if_neg hn]
    have:=Zly f (n - 16) (Zo4 (Zo4 1099511627776 l o).2.1.length (Zo4 1099511627776 l o).2.1 (Zo4 1099511627776 l o).2.2).2.1 (Zo4 (Zo4 1099511627776 l o).2.1.length (Zo4 1099511627776 l o).2.1 (Zo4 1099511627776 l o).2.2).2.2
    dsimp only
    rw [List.length_cons]
    omega
theorem ZlB:∀ (f n:Nat) (l:List UInt8) (o:Bool),(Zlu f n l o).2.1.length≤l.length
 | 0,_,_,_=>by simp [Zlu]
 | f+1,n,l,o=>by
   rw [Zlu]
   by_cases hn:n=0
   ·rw [if_pos hn];exact Nat.le_refl _
   ·rw [if_neg hn]
    have e1:=Zpi 1099511627776 l o
    have e2:=Zpi (Zo4 1099511627776 l o).2.1.length (Zo4 1099511627776 l o).2.1 (Zo4 1099511627776 l o).2.2
    have:=ZlB f (n - 16) (Zo4 (Zo4 1099511627776 l o).2.1.length (Zo4 1099511627776 l o).2.1 (Zo4 1099511627776 l o).2.2).2.1 (Zo4 (Zo4 1099511627776 l o).2.1.length (Zo4 1099511627776 l o).2.1 (Zo4 1099511627776 l o).2.2).2.2
    dsimp only
    omega
theorem Zda (h:Head) (a:Int) (l:List UInt8) (o:Bool):(Zc5 h a l o).2.1.length≤l.length:=by
 unfold Zc5
 split
 ·simp
 ·dsimp only
  split
  ·simp
  ·rw [List.length_drop];omega
theorem Zuf (hs:List Head) (a:Int) (l:List UInt8) (o:Bool) {k:Nat} (hk:k<hs.length):Zt9 (hs.drop k) a l o =
  if (Zc5 hs[k] a l o).2.2=true then ([],(Zc5 hs[k] a l o).2.1,true) else
  ((Zc5 hs[k] a l o).1::(Zt9 (hs.drop (k+1)) hs[k].2.1 (Zc5 hs[k] a l o).2.1 (Zc5 hs[k] a l o).2.2).1,(Zt9 (hs.drop (k+1)) hs[k].2.1 (Zc5 hs[k] a l o).2.1 (Zc5 hs[k] a l o).2.2).2):=by
 rw [List.drop_eq_getElem_cons hk,Zt9]
theorem Zug (hs:List Head) (a:Int) (l:List UInt8) (o:Bool):Zt9 (hs.drop hs.length) a l o=([],l,o):=by rw [List.drop_length,Zt9]
theorem Rd.cells {S:Nat→Prop} {w:World} {g:Nat} {l:List UInt8} {o:Bool} (h:Rd S w g l o):∃ p c,w.cell? ⟨g,0,none⟩=some (.slice p l.length c)∧w.cell? ⟨g,1,none⟩=some (.bool o)∧∃ cur fr,w.heap[g]? = some (.cells cur 230 fr):=by
 obtain ⟨v,hc,hv⟩:=h
 obtain ⟨p,c,rfl,_⟩:=hv.shape
 exact ⟨p,c,by rw [cell_of_row w g 0 _ _ _ hc];rfl,by rw [cell_of_row w g 1 _ _ _ hc];rfl,_,_,hc⟩
theorem ZjP {D q:Nat} {A B:World} (h:Kep (fun b=>b≠q) A B) (hD:D≤q) (hq:∃ cur fr,A.heap[q]? = some (.cells cur 230 fr)):Kep (ZaH D 230 A) A B :=
 h.mono fun b hb e=>hb ⟨by omega,by rw [e];exact hq⟩
theorem ZjN {D:Nat} {A B:World} (h:Below A.heap.size A B):Kep (ZaH D 230 A) A B:=ZmT _ h
end Go.Proofs.YtdijhifdjbnkfaaGreat.SR
namespace Go.Proofs.YtdijhifdjbnkfaaGreat.SR
open Go Go.RowKit Go.Shelf MM VM SM
open EV (fldC docC docE Zgo IsF NewF)
open RF (ZbG ZaN ZaH TagT)
attribute [local go_sem] Oper.semAt_some
theorem ZxT {b:List UInt8} {hs:List Head} {l2:List UInt8} {o2:Bool} {FIN:List (List Doc)×List UInt8×Bool} (h1:Zlu 4096 (Zo4 65536 b false).1 (Zo4 65536 b false).2.1 (Zo4 65536 b false).2.2=(hs,l2,o2)) (h2:Zt9 hs 0 l2 o2=FIN) :
  ZxR b=FIN.1.map (fun c=>(c,(0:Int)))++if FIN.2.2=true∨FIN.2.1≠[] then [([],120)] else []:=by
 have e:Zcb b=FIN:=by
  unfold Zcb
  dsimp only
  rw [h1]
  exact h2
 subst e
 rfl
def Fine (xs:List Part):Prop:=xs.map (·.2)=(xs.map (·.2.1)).map fun c=>(c,(0:Int))
theorem Fine.snoc {xs:List Part} (h:Fine xs) (u:Value) (ds:List Doc):Fine (xs++[(u,(ds,0))]):=by
 unfold Fine at h ⊢
 simp only [List.map_append,h]
 rfl
theorem ZxW {b:List UInt8} {P:List Part} {r:List (List Doc)} {E:List (List Doc×Int)} (h:ZxR b=(P.map (·.2.1)++r).map (fun c=>(c,(0:Int)))++E) (hf:Fine P):P.map (·.2)=(ZxR b).take P.length:=by
 unfold Fine at hf
 rw [h,List.map_append,List.append_assoc,hf,List.take_left' (by simp)]
theorem Zdv (n:Nat) (hn:1≤n) (y bb D:Nat) (T:Nat→Prop) (v0:Value) (b:List UInt8) (J Jx:List Part→World→Prop) (hJ:ZaN D 230 J)
  (hY:∀ pre x A,J pre A→VowQ D x A→pre.length<4097→YieldAt Fence.wide (n - 1) Tryz.prog y (encQ x) A fun e B =>
   (e=.returned (.bool true)∧J (pre++[x]) B∧Kep (TagT T D 59 A) A B)∨(e=.returned (.bool false)∧Jx (pre++[x]) B))
  (W:World) (hD:D≤W.heap.size) (hT:∀ k,T k→k<D) (hbb:W.cell? ⟨bb,0,none⟩=some v0) (hb:BOn T W v0 b) (h0:J [] W) (hlen:b.length≤10000000000) :
  CallsIn Fence.wide n Tryz.prog 156 #[.func (.yield y) #[] #[],.pointer (some ⟨bb,0,none⟩)] W fun e B=>(∃ v,e=.returned v) ∧
   ((∃ xs,xs.map (·.2)=ZxR b∧J xs B)∨(∃ pre,(∃ k,pre.map (·.2)=(ZxR b).take k)∧Jx pre B)):=by
 obtain ⟨p0,cap0,rfl,hlc,hcm⟩:=hb.shape
 obtain ⟨q,hq⟩:∃ q,W.heap.size=q:=⟨_,rfl⟩
 have hDq:D≤q:=by omega
 have hTq:¬ T q:=fun h=>by have:=hT q h;omega
 obtain ⟨w1,hw1⟩:∃ w,W.alloc (.cells #[.slice p0 b.length cap0,.bool false] 230)=w:=⟨_,rfl⟩
 have hb1:Below W.heap.size W w1:=by rw [← hw1];exact (Below.refl _ _).alloc (Nat.le_refl _) _
 have hs1:w1.heap.size=q+1:=by rw [← hw1,← hq];simp
 have hrd1:Rd T w1 q b false:=⟨_,by rw [← hw1,← hq];exact heap_alloc_new _ _,hb.below hb1⟩
 have hJ1:=hJ [] W w1 h0 (ZjN hb1)
 have hH:=Zlv T q b false w1 hrd1 hTq (fun k hk=>by have:=hT k hk;omega) (by omega)
 have hmay:=ZlC 4096 (Zo4 65536 b false).1 (Zo4 65536 b false).2.1 (Zo4 65536 b false).2.2
 have hcnt:=Zly 4096 (Zo4 65536 b false).1 (Zo4 65536 b false).2.1 (Zo4 65536 b false).2.2
 have hlft:=ZlB 4096 (Zo4 65536 b false).1 (Zo4 65536 b false).2.1 (Zo4 65536 b false).2.2
 have hlf0:=Zpi 65536 b false
 obtain ⟨hs,l2,o2,hhs⟩:∃ hs l2 o2,Zlu 4096 (Zo4 65536 b false).1 (Zo4 65536 b false).2.1 (Zo4 65536 b false).2.2=(hs,l2,o2):=⟨_,_,_,rfl⟩
 rw [hhs] at hH hmay hcnt hlft
 dsimp only at hmay hcnt hlft
 obtain ⟨FIN,hF⟩:∃ f,Zt9 hs 0 l2 o2=f:=⟨_,rfl⟩
 have HTOLD:=Lib.hid (ZxT hhs hF)
 have HF0:Hid (((([]:List Part).map (·.2.1))++(Zt9 (hs.drop 0) 0 l2 o2).1,(Zt9 (hs.drop 0) 0 l2 o2).2)=FIN):=Lib.hid (by rw [← hF];rfl)
 have HH:=Lib.hid hH
 have HMAY:=Lib.hid (fun x hx=>hmay x hx)
 have HY:=Lib.hid hY
 have HJ:=Lib.hid hJ
 have HR1:=Lib.hid hrd1
 have HJ1:=Lib.hid hJ1
 have HW1:=Lib.hid hw1
 have HT:=Lib.hid hT
 have hl2:l2.length≤10000000000:=by omega
 have hl1:(Zo4 65536 b false).2.1.length≤10000000000:=by omega
 obtain ⟨M1,hM1⟩:∃ k,(Zo4 65536 b false).2.1.length=k:=⟨_,rfl⟩
 rw [hM1] at HMAY hl1
 clear hH hmay hY hJ hrd1 hJ1 hw1 hF hhs hb hT hb1 hlft hlf0 hM1 h0
 refine callsIn_of_wp Tryz.func156 rfl trivial ?_ rfl
 simp only [Tryz.ntmps156,List.size_toArray,List.length_cons,List.length_nil,Nat.reduceAdd,Nat.reduceSub,Array.replicate_succ,Array.replicate_zero,List.push_toArray,List.append_toArray,List.nil_append,List.cons_append]
 gi_wp2
 rw [HW1.out]
 refine ⟨trivial,(callsIn_wide.2 HH.out).mono ?_⟩
 rintro e w2 ⟨u,rfl,ho,hr,hk⟩
 dsimp only at ho hr
 rw [hs1] at ho
 obtain ⟨ph,ch,rfl,hhc,hhm,_⟩:=ho.any.shape
 have HJ2:=HJ.out [] w1 w2 HJ1.out (ZjP hk hDq HR1.out.cells.choose_spec.choose_spec.2.2)
 have HO2:=Lib.hid ho
 have HR2:=Lib.hid hr
 clear ho hr hk HJ1 HR1 HH HW1
 gi_wp2
 gi_loopw [4,12] (fun av iv wr=>∃ (k:Nat) (xs:List Part) (A:Int) (L:List UInt8) (o:Bool),iv=.int .i64 k∧av=.int .i64 A∧k≤hs.length∧Hid (xs.length=k)∧0≤A∧A≤1099511627776∧Hid (L.length≤10000000000)∧Hid (Fine xs)∧Hid ((xs.map (·.2.1)++(Zt9 (hs.drop k) A L o).1,(Zt9 (hs.drop k) A L o).2)=FIN)∧Hid (Rd T wr q L o)∧Hid (OwnX Zla 234 (q+1) (fun _=>False) wr (.slice ph hs.length ch) hs)∧Hid (J xs wr)) (fun _ iv _=>hs.length - (intOf iv).toNat)
 case atStart=>exact ⟨0,[],0,l2,o2,rfl,rfl,by omega,Lib.hid rfl,by omega,by omega,Lib.hid hl2,Lib.hid rfl,HF0,HR2,HO2,Lib.hid HJ2⟩
 case round =>
  obtain ⟨k,xs,A,L,o,rfl,rfl,hk,HXL,hA0,hA9,HL,HFI,HF,HR,HO,HJX⟩:=hrel
  clear HF0 HR2 HO2 HJ2
  have hqr:=HR.out.lt
  obtain ⟨pq,cq,y0,y1,hrt⟩:=HR.out.cells
  have HRT:=Lib.hid hrt
  by_cases hlt:k<hs.length
  ·have t1:decide ((k:Int)<(hs.length:Int))=true:=by rw [decide_eq_true_eq];omega
   have t2:decide (k<hs.length)=true:=decide_eq_true hlt
   have t3:(k:Int)<(hs.length:Int):=by omega
   obtain ⟨bh,oh,rfl,hbl,_,c0,c1,c2⟩:=Zlg HO.out.any hlt
   have hfin:=HF.out
   rw [Zuf hs A L o hlt] at hfin
   have hm:=HMAY.out hs[k] (List.getElem_mem hlt)
   generalize hs[k]=hd at *
   obtain ⟨hn,last,sz⟩:=hd
   dsimp only at *
   obtain ⟨m1,m2,⟨m3,m4⟩,m5,m6⟩:=hm
   obtain ⟨nn,rfl⟩:=Int.eq_ofNat_of_zero_le (show 0≤hn by omega)
   obtain ⟨zz,rfl⟩:=Int.eq_ofNat_of_zero_le m2
   obtain ⟨qh,hqh⟩:∃ x,wr.heap.size=x:=⟨_,rfl⟩
   obtain ⟨w3,hw3⟩:∃ x,wr.alloc (.cells #[.int .i64 (nn:Int),.int .i64 last,.int .i64 (zz:Int)] 234)=x:=⟨_,rfl⟩
   have hb3:Below wr.heap.size wr w3:=by rw [← hw3];exact (Below.refl _ _).alloc (Nat.le_refl _) _
   have X3:Hid (Zbz w3 qh 234 (.int .i64 (nn:Int)) (.int .i64 last) (.int .i64 (zz:Int))):=Lib.hid (by rw [← hw3,← hqh];exact ZxD wr 234 _ _ _)
   have hR3:=HR.out.below hb3
   have hs3:=hb3.size
   have hB:=Zdq T q nn zz last A L o w3 hR3 (fun h=>by have:=HT.out q h;omega) (fun k hk=>by have:=HT.out k hk;omega) (by have:=HL.out;omega) (by omega) (by omega) hA0 hA9 m3 m4
   have hdl:=Zc8 ((nn:Int),(last,(zz:Int))) A L o (by omega) m5
   have hde:=fun h=>Zc7 (h:=((nn:Int),(last,(zz:Int)))) (a:=A) (l:=L) (o:=o) m2 (by omega) h m4
   have hbl2:=Zda ((nn:Int),(last,(zz:Int))) A L o
   obtain ⟨ds,L',o',hbk⟩:∃ ds L' o',Zc5 ((nn:Int),(last,(zz:Int))) A L o=(ds,L',o'):=⟨_,_,_,rfl⟩
   rw [hbk] at hB hfin hdl hbl2 hde
   dsimp only at hfin hdl hbl2
   have HB:=Lib.hid hB
   have HFN:=Lib.hid hfin
   have HDL:=Lib.hid hdl
   have HDE:Hid (o'=false→ds≠[]):=Lib.hid (fun h e=>by have:=(hde h).2.1;dsimp only at this;rw [e] at this;simp at this;omega)
   clear hde
   have HL':Hid (L'.length≤10000000000):=Lib.hid (by have:=HL.out;omega)
   have HO3:=Lib.hid (HO.out.keep (ZmT (fun _=>True) hb3) (fun _ _ h=>h.elim) (fun _ _=>trivial))
   have HJ3:=Lib.hid (HJ.out xs wr w3 HJX.out (ZjN hb3))
   have HRT3:Hid (∃ cur fr,w3.heap[q]? = some (.cells cur 230 fr)):=Lib.hid hR3.cells.choose_spec.choose_spec.2.2
   have HW3:=Lib.hid hw3
   have HLT:=Lib.hid hlt
   obtain ⟨x0,x1,x2⟩:=X3.out.cells
   rw [← hw3] at x0 x1 x2
   clear hw3 hb3 hR3 hB hfin hdl hbk hbl2 HF HL HR HO HJX HRT hrt y0 y1 hlt m6
   gi_wp2
   rw [HW3.out]
   refine ⟨trivial,(callsIn_wide.2 HB.out).mono ?_⟩
   rintro e w4 ⟨u,rfl,hd4,hr4,hk4⟩
   dsimp only at hd4 hr4
   have hs4:=hk4.size
   obtain ⟨pq,cq,y0,y1,hrt⟩:=hr4.cells
   have x4:=X3.out.keep hk4 (fun e=>by omega)
   obtain ⟨e0,e1,e2⟩:=x4.cells
   have HX4:=Lib.hid x4
   have hJ4:=HJ.out xs w3 w4 HJ3.out (ZjP hk4 hDq HRT3.out)
   have HJ4:=Lib.hid hJ4
   have HR4:=Lib.hid hr4
   have HO4:=Lib.hid (HO3.out.keep hk4 (fun _ _ h=>h.elim) (fun g hg e=>by have:=(HO3.out.cells hg).1;omega))
   have HD4:=Lib.hid hd4
   have hxl:xs.length<4097:=by have:=HXL.out;have:=HLT.out;omega
   clear hk4 hr4 hd4 hrt X3 HJ3 HO3 HB HW3 HRT3 x0 x1 x2 c0 c1 c2 x4
   cases o' with
   | true =>
     have hf:=HFN.out
     rw [if_pos rfl] at hf
     dsimp only at hf
     rw [List.append_nil] at hf
     subst hf
     have htold:=HTOLD.out
     dsimp only at htold
     rw [if_pos (.inl rfl),← HFI.out] at htold
     obtain ⟨fn,tmps,assign,body,hy,hRd⟩:=HY.out xs (.slice none 0 0,([],120)) w4 HJ4.out ⟨by simp,(fun h=>by cases h),(ROn.nil_ _ _).src⟩ hxl
     dsimp only [encQ] at hy
     have HRd:=Lib.hid hRd
     have HQ1:Hid ((xs++[((.slice none 0 0:Value),(([]:List Doc),(120:Int)))]).map (·.2)=ZxR b):=Lib.hid (by rw [htold,List.map_append];rfl)
     clear htold hRd HFN HX4 HR4 HO4 HD4
     gi_wp2
     refine HRd.out.mono ?_
     rintro e w5 (⟨rfl,hJ5,hb5⟩ | ⟨rfl,hJ5⟩)
     ·have HJ5:=Lib.hid hJ5
      clear hJ5 hb5 HRd hy
      gi_wp2
      go_end0
      exact ⟨⟨_,rfl⟩,.inl ⟨_,HQ1.out,HJ5.out⟩⟩
     ·have HJ5:=Lib.hid hJ5
      clear hJ5 HRd hy
      gi_wp2
      go_end0
      exact ⟨⟨_,rfl⟩,.inr ⟨_,⟨(ZxR b).length,by rw [HQ1.out,List.take_length]⟩,HJ5.out⟩⟩
   | false =>
     have hf:=HFN.out
     rw [if_neg (by simp)] at hf
     dsimp only at hf
     obtain ⟨pu,cu,rfl,_⟩:=HD4.out.any.shape
     have HF5:Hid (((xs++[((.slice pu ds.length cu:Value),(ds,(0:Int)))]).map (·.2.1)++(Zt9 (hs.drop (k+1)) last L' false).1,(Zt9 (hs.drop (k+1)) last L' false).2)=FIN):=Lib.hid (by rw [← hf];simp)
     have HFI5:=Lib.hid (HFI.out.snoc (.slice pu ds.length cu) ds)
     have HPRE:Hid (∃ k,(xs++[((.slice pu ds.length cu:Value),(ds,(0:Int)))]).map (·.2)=(ZxR b).take k):=Lib.hid ⟨_,ZxW (by rw [HTOLD.out,← HF5.out]) HFI5.out⟩
     obtain ⟨fn,tmps,assign,body,hy,hRd⟩:=HY.out xs (.slice pu ds.length cu,(ds,0)) w4 HJ4.out ⟨HDL.out rfl,(fun _=>HDE.out rfl),Zwg (HD4.out.base (by omega))⟩ hxl
     dsimp only [encQ] at hy
     have HRd:=Lib.hid hRd
     clear hf hRd HFN HDL HFI
     gi_wp2
     refine HRd.out.mono ?_
     rintro e w5 (⟨rfl,hJ5,hb5⟩ | ⟨rfl,hJ5⟩)
     ·have HJ5:=Lib.hid hJ5
      have HR5:=Lib.hid (HR4.out.keep hb5 (by obtain ⟨_,_,_,_,cur,fr,hc⟩:=HR4.out.cells;exact .inr ⟨hDq,cur,_,fr,hc,by decide⟩) (fun b _ hT=>.inl hT))
      have X5:=HX4.out.keep hb5 (.inr ⟨by omega,_,_,_,HX4.out,by decide⟩)
      have HO5:=Lib.hid (HO4.out.keep hb5 (fun _ _ h=>h.elim) (fun g hg=>by obtain ⟨h1,h2,cur,fr,hc⟩:=HO4.out.cells hg;exact .inr ⟨by omega,cur,_,fr,hc,by decide⟩))
      obtain ⟨g0,g1,g2⟩:=X5.cells
      clear hJ5 hb5 HRd hy HPRE HX4 HR4 HO4 HD4 X5 HJ4 e0 e1 e2 y0 y1
      gi_wp2
      have hlt:=HLT.out
      go_roundw
      case rel=>exact ⟨k+1,xs++[((.slice pu ds.length cu:Value),(ds,(0:Int)))],last,L',false,by go_num,rfl,by omega,Lib.hid (by have:=HXL.out;simp;omega),m3,m4,HL',HFI5,HF5,HR5,HO5,HJ5⟩
      case measure=>simp [intOf];omega
     ·have HJ5:=Lib.hid hJ5
      clear hJ5 HRd hy HX4 HR4 HO4 HD4 HJ4 HF5 HFI5
      gi_wp2
      refine bodyPost_ret (results_none rfl _ _ _) rfl ?_
      exact ⟨⟨_,rfl⟩,.inr ⟨_,HPRE.out,HJ5.out⟩⟩
  ·obtain rfl:k=hs.length:=by omega
   have t1:decide ((hs.length:Int)<(hs.length:Int))=false:=by simp
   have t2:decide (hs.length<hs.length)=false:=by simp
   have hf:=HF.out
   rw [Zug] at hf
   dsimp only at hf
   rw [List.append_nil] at hf
   subst hf
   have hxl:xs.length<4097:=by have:=HXL.out;omega
   obtain ⟨NL,hNL⟩:∃ x,L.length=x:=⟨_,rfl⟩
   rw [hNL] at y0
   have HLN:Hid (L≠[]↔0<NL):=Lib.hid (by rw [← hNL,List.length_pos_iff])
   clear hlt HF HL hNL HO HR HRT hrt
   cases o with
   | true =>
     have htold:=HTOLD.out
     dsimp only at htold
     rw [if_pos (.inl rfl),← HFI.out] at htold
     obtain ⟨fn,tmps,assign,body,hy,hRd⟩:=HY.out xs (.slice none 0 0,([],120)) wr HJX.out ⟨by simp,(fun h=>by cases h),(ROn.nil_ _ _).src⟩ hxl
     dsimp only [encQ] at hy
     have HRd:=Lib.hid hRd
     have HQ1:Hid ((xs++[((.slice none 0 0:Value),(([]:List Doc),(120:Int)))]).map (·.2)=ZxR b):=Lib.hid (by rw [htold,List.map_append];rfl)
     clear htold hRd HLN
     gi_wp2
     refine HRd.out.mono ?_
     rintro e w5 (⟨rfl,hJ5,hb5⟩ | ⟨rfl,hJ5⟩)
     ·have HJ5:=Lib.hid hJ5
      clear hJ5 hb5 HRd hy
      gi_wp2
      go_end0
      exact ⟨⟨_,rfl⟩,.inl ⟨_,HQ1.out,HJ5.out⟩⟩
     ·have HJ5:=Lib.hid hJ5
      clear hJ5 HRd hy
      gi_wp2
      go_end0
      exact ⟨⟨_,rfl⟩,.inr ⟨_,⟨(ZxR b).length,by rw [HQ1.out,List.take_length]⟩,HJ5.out⟩⟩
   | false =>
     by_cases hni:0<NL
     ·have u1:decide ((NL:Int)>0)=true:=by rw [decide_eq_true_eq];omega
      have u2:decide (0<NL)=true:=decide_eq_true hni
      have htold:=HTOLD.out
      dsimp only at htold
      rw [if_pos (.inr (HLN.out.2 hni)),← HFI.out] at htold
      obtain ⟨fn,tmps,assign,body,hy,hRd⟩:=HY.out xs (.slice none 0 0,([],120)) wr HJX.out ⟨by simp,(fun h=>by cases h),(ROn.nil_ _ _).src⟩ hxl
      dsimp only [encQ] at hy
      have HRd:=Lib.hid hRd
      have HQ1:Hid ((xs++[((.slice none 0 0:Value),(([]:List Doc),(120:Int)))]).map (·.2)=ZxR b):=Lib.hid (by rw [htold,List.map_append];rfl)
      clear htold hRd HLN hni
      gi_wp2
      refine HRd.out.mono ?_
      rintro e w5 (⟨rfl,hJ5,hb5⟩ | ⟨rfl,hJ5⟩)
      ·have HJ5:=Lib.hid hJ5
       clear hJ5 hb5 HRd hy
       gi_wp2
       go_end0
       exact ⟨⟨_,rfl⟩,.inl ⟨_,HQ1.out,HJ5.out⟩⟩
      ·have HJ5:=Lib.hid hJ5
       clear hJ5 HRd hy
       gi_wp2
       go_end0
       exact ⟨⟨_,rfl⟩,.inr ⟨_,⟨(ZxR b).length,by rw [HQ1.out,List.take_length]⟩,HJ5.out⟩⟩
     ·have u1:decide ((NL:Int)>0)=false:=by rw [decide_eq_false_iff_not];omega
      have u2:decide (0<NL)=false:=decide_eq_false hni
      have htold:=HTOLD.out
      dsimp only at htold
      rw [if_neg (fun h=>h.elim (fun h=>by cases h) fun h=>hni (HLN.out.1 h)),← HFI.out,List.append_nil] at htold
      have HQ1:=Lib.hid htold
      clear htold hni HLN
      gi_wp2
      go_end0
      exact ⟨⟨_,rfl⟩,.inl ⟨xs,HQ1.out.symm,HJX.out⟩⟩
end Go.Proofs.YtdijhifdjbnkfaaGreat.SR
namespace Go.Proofs.YtdijhifdjbnkfaaGreat.SR
open Go Go.RowKit Go.Shelf MM VM SM
open EV (fldC docC docE Zgo IsF NewF)
open RF (ZbG ZaN ZaH TagT Za1 Zst)
attribute [local go_sem] Oper.semAt_some
theorem Zc9 (n:Nat) (p:Option Addr) (m c:Nat) (W:World) :
  CallsIn Fence.wide n Tryz.prog 101 #[.slice p m c] W fun e B=>e=.returned (.func (.func 156) #[] #[.pointer (some ⟨W.heap.size,0,none⟩)])∧B=W.alloc (.cells #[.slice p m c] 23):=by
 refine callsIn_of_wp Tryz.func101 rfl trivial ?_ rfl
 simp only [Tryz.ntmps101,List.size_toArray,List.length_cons,List.length_nil,Nat.reduceAdd,Nat.reduceSub,Array.replicate_succ,Array.replicate_zero,List.push_toArray,List.append_toArray,List.nil_append,List.cons_append]
 gi_wp2
 go_ret
 exact ⟨rfl,rfl⟩
theorem Zdw (n:Nat) (hn:1≤n) (bb D:Nat) (T:Nat→Prop) (v:Value) (b:List UInt8) (w:World) (hlen:b.length≤10000000000) (hT:∀ k,T k→k<D) (hc:w.cell? ⟨bb,0,none⟩=some v) (hbw:bb<w.heap.size) (hb:BOn T w v b) :
  ZbG Fence.wide n Tryz.prog 156 #[.pointer (some ⟨bb,0,none⟩)] encQ T D 59 230 (VowQ D) (fun xs=>xs.map (·.2)=ZxR b) (fun pre=>∃ k,pre.map (·.2)=(ZxR b).take k) 4097 w :=
 fun y J Jx W hW hD hJ _ hY h0=>Zdv n hn y bb D T v b J Jx hJ hY W hD hT ((hW.cell (p:=⟨bb,0,none⟩) hbw).trans hc) (hb.below hW) h0 hlen
def allD (pre:List Part):List Doc:=(pre.map (·.2.1)).flatten
theorem Zb8 (pre:List Part) (x:Part):allD (pre++[x])=allD pre++x.2.1:=by unfold allD;simp
def InvD (w:World) (D:Nat) (pre:List Part) (W:World):Prop :=
 ∃ v,Boxed W (w.heap.size+2) 22 v∧OwnX docC 59 D (FldS D W) W v (allD pre)∧(∀ x∈pre,x.2.2=0)∧Boxed W w.heap.size 22 (.slice none 0 0)∧Boxed W (w.heap.size+1) 26 (.int .i64 0)∧Below w.heap.size w W∧(allD pre).length≤16*pre.length∧D≤W.heap.size
def InvX (w:World) (pre:List Part) (W:World):Prop :=
 ∃ x∈pre,x.2.2≠0∧Boxed W w.heap.size 22 (.slice none 0 0)∧Boxed W (w.heap.size+1) 26 (.int .i64 x.2.2)∧Below w.heap.size w W
theorem Zqt {D:Nat} {T:Nat→Prop} {W W':World} {v:Value} {es:List Doc} (h:OwnX docC 59 D (FldS D W) W v es) (hk:Kep T W W') (h1:∀ b,FldS D W b→T b) (h2:∀ g,v.ownBlock=some g→T g):OwnX docC 59 D (FldS D W') W' v es :=
 (h.keep hk (fun b _ hb=>h1 b hb) h2).weak fun b _ hb=>⟨hb.1,hb.2.keep hk (h1 b hb)⟩
theorem ZdM {T:Nat→Prop} {W W':World} {B:Nat} {t:TypeId} {v:Value} (h:Boxed W B t v) (hk:Kep T W W') (hB:T B):Boxed W' B t v:=(hk.block B h.lt hB).trans h
theorem Zmn {w:World} {D:Nat} {T:Nat→Prop} {pre:List Part} {W W':World} (h:InvD w D pre W) (hD:w.heap.size+3≤D) (hk:Kep T W W') (h1:∀ b,b<D→T b) (h2:∀ b cur t fr,W.heap[b]? = some (.cells cur t fr)→t≠230→T b):InvD w D pre W':=by
 obtain ⟨v,b1,o1,a1,b2,b3,bl,ln,hd⟩:=h
 have hs:=bl.size
 refine ⟨v,ZdM b1 hk (h1 _ (by omega)),Zqt o1 hk (fun b hb => ?_) (fun g hg => ?_),a1,ZdM b2 hk (h1 _ (by omega)),ZdM b3 hk (h1 _ (by omega)),bl.trans (hk.below hs fun k hk'=>h1 k (by omega)),ln,Nat.le_trans hd hk.size⟩
 ·obtain ⟨_,cur,fr,hc⟩:=hb
  exact h2 b cur _ fr hc (by decide)
 ·obtain ⟨_,_,cur,fr,hc⟩:=o1.cells hg
  exact h2 g cur _ fr hc (by decide)
theorem Zmr {w:World} {D:Nat} {T:Nat→Prop} {pre:List Part} {W W':World} (h:InvX w pre W) (hD:w.heap.size+3≤D) (hk:Kep T W W') (h1:∀ b,b<D→T b):InvX w pre W':=by
 obtain ⟨x,hx,hne,b2,b3,bl⟩:=h
 have hs:=bl.size
 exact ⟨x,hx,hne,ZdM b2 hk (h1 _ (by omega)),ZdM b3 hk (h1 _ (by omega)),bl.trans (hk.below hs fun k hk'=>h1 k (by omega))⟩
theorem ZmY {D:Nat} {W W':World} {row:Option Nat} (hg:W.grownBy W' row) (hr:∀ r,row=some r→D≤r∧∃ o:Obj,W.heap[r]? = some o∧o.isCells=false) :
  Kep (fun b=>row≠some b) W W'∧(∀ b,b<D→row≠some b)∧(∀ b cur t fr,W.heap[b]? = some (.cells cur t fr)→row≠some b):=by
 refine ⟨ZmW hg fun k hk hne=>hne hk,fun b hb e=>by have:=(hr b e).1;omega,fun b cur t fr hc e => ?_⟩
 obtain ⟨_,o,ho,hn⟩:=hr b e
 rw [hc] at ho
 cases ho
 cases hn
theorem Zmo (w:World) (D:Nat) (hD:w.heap.size+3≤D):OwnFrom D (InvD w D):=fun pre W W' row h hg hr=>by
 obtain ⟨k1,k2,k3⟩:=ZmY hg hr
 exact Zmn h hD k1 k2 fun b cur t fr hc _=>k3 b cur t fr hc
theorem Zms (w:World) (D:Nat) (hD:w.heap.size+3≤D):OwnFrom D (InvX w):=fun pre W W' row h hg hr=>by
 obtain ⟨k1,k2,k3⟩:=ZmY hg hr
 exact Zmr h hD k1 k2
theorem ZjO {D:Nat} {W:World} {b:Nat} (h:b<D):ZaH D 230 W b:=fun ⟨h1,_⟩=>by omega
theorem ZjQ {D:Nat} {W:World} {b:Nat} {cur:Array Value} {t:TypeId} {fr:Nat×Nat} (h:W.heap[b]? = some (.cells cur t fr)) (ht:t≠230):ZaH D 230 W b:=fun ⟨_,cur',fr',h'⟩=>by
 rw [h] at h'
 simp only [Option.some.injEq,Obj.cells.injEq] at h'
 exact ht h'.2.1
theorem Zmm (w:World) (D:Nat) (hD:w.heap.size+3≤D):ZaN D 230 (InvD w D):=fun pre A B h hk=>Zmn h hD hk (fun b hb=>ZjO hb) fun b cur t fr hc ht=>ZjQ hc ht
theorem Zmq (w:World) (D:Nat) (hD:w.heap.size+3≤D):ZaN D 230 (InvX w):=fun pre A B h hk=>Zmr h hD hk (fun b hb=>ZjO hb)
theorem Zwd {D:Nat} {T:Nat→Prop} {W W':World} {v:Value} {ds:List Doc} (h:SrcX docC (FldS D W) W v ds) (hk:Kep T W W') (hT:∀ b cur t fr,W.heap[b]? = some (.cells cur t fr)→T b):SrcX docC (FldS D W') W' v ds:=by
 have hF:∀ b,FldS D W b→T b:=fun b hb=>by obtain ⟨_,cur,fr,hc⟩:=hb;exact hT b cur _ fr hc
 obtain ⟨p,cap,raw,rfl,h1,h3,hm,hc⟩:=h
 refine ⟨p,cap,raw,rfl,h1,h3,(hm.keep (hk.mono fun b hb=>hF b hb) (fun b _ hb=>hb)).keep (Kep.refl _ _) (fun b _ hb=>⟨hb.1,hb.2.keep hk (hF b hb)⟩),?_⟩
 rcases hc with hc | ⟨b,off,rfl,hc⟩
 ·exact .inl hc
 ·refine .inr ⟨b,off,rfl,fun j u hj => ?_⟩
  have hcj:=hc j u hj
  have hlt:b<W.heap.size:=World.block_lt_of_cell? _ _ hcj
  have hTb:T b:=by
   cases hh:W.heap[b]? with
   | none=>simp [World.cell?,hh] at hcj
   | some o =>
     cases o with
     | cells cur t fr=>exact hT b cur t fr hh
     | _=>simp [World.cell?,hh] at hcj
  rw [hk.cell hlt hTb]
  exact hcj
theorem Zyx (D D':Nat):OwnFrom D' (VowQ D):=fun x W W' row h hg hr=>by
 obtain ⟨k1,k2,k3⟩:=ZmY hg hr
 exact ⟨h.1,h.2.1,Zwd h.2.2 k1 k3⟩
theorem ZxV {b:List UInt8} {x:List Doc×Int} (h:x∈ZxR b) (hx:x.2≠0):x.2=120∧decC b=none:=by
 unfold ZxR at h
 rcases List.mem_append.1 h with h | h
 ·obtain ⟨c,_,rfl⟩:=List.mem_map.1 h
  exact absurd rfl hx
 ·by_cases hc:(Zcb b).2.2=true∨(Zcb b).2.1≠[]
  ·rw [if_pos hc,List.mem_singleton] at h
   subst h
   unfold decC
   exact ⟨rfl,if_pos hc⟩
  ·rw [if_neg hc] at h
   simp at h
theorem ZxU {b:List UInt8} {xs:List Part} (h:xs.map (·.2)=ZxR b) (hx:∀ x∈xs,x.2.2=0):decC b=some (allD xs):=by
 by_cases hc:(Zcb b).2.2=true∨(Zcb b).2.1≠[]
 ·have hm:(([]:List Doc),(120:Int))∈ZxR b:=by
   unfold ZxR
   rw [if_pos hc]
   exact List.mem_append_right _ (by simp)
  rw [← h] at hm
  obtain ⟨x,h1,h2⟩:=List.mem_map.1 hm
  have:=hx x h1
  rw [h2] at this
  cases this
 ·unfold decC
  rw [if_neg hc]
  unfold ZxR at h
  rw [if_neg hc,List.append_nil] at h
  unfold allD
  have e:xs.map (·.2.1)=(xs.map (·.2)).map (·.1):=by rw [List.map_map];rfl
  rw [e,h,List.map_map]
  have:(fun c:List Doc=>c)=(fun x:List Doc×Int=>x.1) ∘ (fun c=>(c,(0:Int))):=rfl
  rw [← this,List.map_id']
theorem Zp0 {D:Nat} {W w1:World} {v:Value} {es:List Doc} (h:OwnX docC 59 D (FldS D W) W v es) (hg:W.grownBy w1 v.ownBlock):KeepsOthers W w1 :=
 KeepsOthers.of_grownBy hg fun j o hj ho=>by
  obtain ⟨_,_,cur,fr,hc⟩:=h.cells hj
  rw [hc] at ho
  cases ho
  rfl
end Go.Proofs.YtdijhifdjbnkfaaGreat.SR
namespace Go.Proofs.YtdijhifdjbnkfaaGreat.SR
open Go Go.RowKit Go.Shelf MM VM SM
open EV (fldC docC docE Zgo IsF NewF)
open RF (ZbG ZaN ZaH TagT Za1 Zst)
attribute [local go_sem] Oper.semAt_some
def errO (o:Option (List Doc)):Int:=if o.isSome then 0 else 120
def DecA (o:Option (List Doc)) (w:World) (e:Ending) (w':World):Prop :=
 ∃ u,e=.returned (.tuple #[u,.int .i64 (errO o)])∧Zax w.heap.size w' u (o.getD [])∧Below w.heap.size w w'
theorem Zp9 {B D:Nat} {w:World} {v:Value} {ds:List Doc} (h:OwnX docC 59 D (FldS D w) w v ds) (hB:B≤D):Zax B w v ds:=Zax.base ⟨FldS D w,fun b hb=>hb,h⟩ hB
theorem Zgc (v:Value) (b:List UInt8) (w:World) (h:BRow w v b) (hl:b.length≤10000000000):Calls Tryz.prog 49 #[v] w (DecA (decS b) w):=by
 rw [← Zf1 (by omega)]
 obtain ⟨p,cap,rfl,hlc,hcm⟩:=BIn.shape h
 obtain ⟨R,hR⟩:∃ R,w.heap.size=R:=⟨_,rfl⟩
 have HB:=Lib.hid (BOn.of_in h (Nat.le_refl _))
 clear h
 refine (callsIn_wide (n:=5)).1 ?_
 refine callsIn_of_wp_marks Tryz.func49 rfl trivial ?_ rfl
 simp only [Tryz.ntmps49,List.size_toArray,List.length_cons,List.length_nil,Nat.reduceAdd,Nat.reduceSub,Array.replicate_succ,Array.replicate_zero,List.push_toArray,List.append_toArray,List.nil_append,List.cons_append]
 gi_wp2
 refine ⟨trivial,(Zc9 4 p b.length cap _).mono ?_⟩
 rintro e w5 ⟨rfl,rfl⟩
 have b0:=Boxed.new w 22 (.slice none 0 0)
 have b1:=Boxed.new (w.alloc (.cells #[.slice none 0 0] 22)) 26 (.int .i64 0)
 have b2:=Boxed.new ((w.alloc (.cells #[.slice none 0 0] 22)).alloc (.cells #[.int .i64 0] 26)) 22 (.slice none 0 0)
 have b3:=Boxed.new (((w.alloc (.cells #[.slice none 0 0] 22)).alloc (.cells #[.int .i64 0] 26)).alloc (.cells #[.slice none 0 0] 22)) 23 (.slice p b.length cap)
 simp only [World.size_alloc] at b1 b2 b3
 have hB0:Below w.heap.size w ((((w.alloc (.cells #[.slice none 0 0] 22)).alloc (.cells #[.int .i64 0] 26)).alloc (.cells #[.slice none 0 0] 22)).alloc (.cells #[.slice p b.length cap] 23)) :=
  ((((Below.refl _ w).alloc (Nat.le_refl _) _).alloc (by simp) _).alloc (by simp;omega) _).alloc (by simp;omega) _
 have hsz0:((((w.alloc (.cells #[.slice none 0 0] 22)).alloc (.cells #[.int .i64 0] 26)).alloc (.cells #[.slice none 0 0] 22)).alloc (.cells #[.slice p b.length cap] 23)).heap.size=R+4:=by simp [hR]
 have c0:=((b0.alloc (.cells #[.int .i64 0] 26)).alloc (.cells #[.slice none 0 0] 22)).alloc (.cells #[.slice p b.length cap] 23)
 have c1:=(b1.alloc (.cells #[.slice none 0 0] 22)).alloc (.cells #[.slice p b.length cap] 23)
 have c2:=b2.alloc (.cells #[.slice p b.length cap] 23)
 clear b0 b1 b2
 generalize ((((w.alloc (.cells #[.slice none 0 0] 22)).alloc (.cells #[.int .i64 0] 26)).alloc (.cells #[.slice none 0 0] 22)).alloc (.cells #[.slice p b.length cap] 23))=w0 at *
 simp only [hR] at c0 c1 c2 b3 ⊢
 have hI0:InvD w w0.heap.size [] w0:=⟨.slice none 0 0,by rw [hR];exact c2,OwnX.nil_ _ _ _ _,by simp,by rw [hR];exact c0,by rw [hR];exact c1,hB0,by simp [allD],Nat.le_refl _⟩
 obtain ⟨T,hT⟩:∃ T:Nat→Prop,(fun k=>k<R∨k=R+3)=T:=⟨_,rfl⟩
 have hTi:∀ k,T k↔(k<R∨k=R+3):=fun k=>by rw [← hT]
 have hTD:∀ k,T k→k<w0.heap.size:=fun k hk=>by rw [hTi] at hk;omega
 have hbon:BOn T w0 (.slice p b.length cap) b:=((HB.out.keep (T:=fun k=>k<R) (ZmX (hR▸hB0)) (fun k _ hk=>by show k<R;omega)).weak fun k _ hk=>(hTi k).2 (.inl hk))
 have HVOW:=Lib.hid (Zdw 4 (by omega) (R+3) w0.heap.size T _ b w0 hl hTD b3.cell (by omega) hbon)
 have HTI:=Lib.hid hTi
 have hD3:w.heap.size+3≤w0.heap.size:=by omega
 clear hT hTi c0 c1 c2 b3 hB0 HB hbon
 gi_wp2
 refine Zst rfl (by omega) (gf:=156) (lb:=#[.pointer (some ⟨R+1+1+1,0,none⟩)]) rfl trivial (enters_of Tryz.func156 (by kernel_rfl) rfl)
  HVOW.out (Below.refl _ _) hTD (fun _=>rfl)
  (InvD w w0.heap.size) (InvX w) (Zmo w _ hD3) (Zms w _ hD3) (Zmm w _ hD3) (Zmq w _ hD3) (Zyx _ _) hI0
  (fun x=>{ tmps:=#[.slice p b.length cap,undef,.pointer (some ⟨R,0,none⟩),.pointer (some ⟨R+1,0,none⟩),.pointer (some ⟨R+1+1,0,none⟩),x.1,.int .i64 x.2.2,.slice p b.length cap,
   .func (.func 156) #[] #[.pointer (some ⟨R+1+1+1,0,none⟩)],x.1,.int .i64 x.2.2,undef,undef,undef,undef,undef,undef,undef],defers:=[] }) ?assign ?body ?done ?stop
 case assign =>
  intro y x W K hK
  gi_wp2
  exact hK
 case body =>
  rintro y pre ⟨xv,ds,er⟩ W ⟨v,bL,o1,a1,bR,bE,bl,ln,hd⟩ ⟨v1,v2,v3⟩ hlt
  dsimp only at v1 v2 v3 ⊢
  have hs1:=bl.size
  have cL:W.cell? ⟨R+1+1,0,none⟩=some v:=by rw [← hR];exact bL.cell
  have fL:W.frozen? ⟨R+1+1,0,none⟩=false:=by rw [← hR];exact bL.frozen
  have cR:W.cell? ⟨R,0,none⟩=some (.slice none 0 0):=by rw [← hR];exact bR.cell
  have fR:W.frozen? ⟨R,0,none⟩=false:=by rw [← hR];exact bR.frozen
  have cE:W.cell? ⟨R+1,0,none⟩=some (.int .i64 0):=by rw [← hR];exact bE.cell
  have fE:W.frozen? ⟨R+1,0,none⟩=false:=by rw [← hR];exact bE.frozen
  by_cases he:er=0
  ·subst he
   obtain ⟨pl,cl,rfl,_⟩:=o1.any.shape
   obtain ⟨px,cx,rfl⟩:∃ p c,xv=.slice p ds.length c:=by obtain ⟨p,c,raw,h,_⟩:=v3;exact ⟨p,c,h⟩
   obtain ⟨NA,hNA⟩:∃ k,(allD pre).length=k:=⟨_,rfl⟩
   have HO1:=Lib.hid o1
   rw [hNA] at HO1 cL
   have HNA:=Lib.hid hNA
   have HV3:=Lib.hid v3
   have HNE:=Lib.hid (v2 rfl)
   have HLN:Hid (NA+ds.length≤16*(pre.length+1)∧pre.length<4097):=Lib.hid ⟨by omega,hlt⟩
   have HBS:=Lib.hid (And.intro bL (And.intro bR (And.intro bE bl)))
   have HA1:=Lib.hid a1
   have HLD:=Lib.hid hd
   rw [hNA] at HBS
   clear o1 v1 v2 v3 a1 ln hNA cR fR cE fE hI0 HVOW
   gi_wp2_with (gi_at_builtin;refine Zzl docE rfl _ _ rfl w0.heap.size (.slice pl NA cl) (allD pre) rfl HO1.out (fun b _ hb=>Zmv hb.2) (.slice px ds.length cx) ds rfl HV3.out HNE.out (by rw [HNA.out];have:=HLN.out;unfold maxLen;omega) (by rw [HNA.out];have:=HLN.out;omega) HLD.out ?_;intro v' w1 ho' hb' hg';have hnr:=HBS.out.1.not_row (by decide:(22:TypeId)≠59) (HO1.out.choose_spec.1);have bL1:=HBS.out.1.kept hg' hnr;have cL1:w1.cell? ⟨R+1+1,0,none⟩=some (.slice pl NA cl):=(by rw [← hR];exact bL1.cell);have fL1:w1.frozen? ⟨R+1+1,0,none⟩=false:=(by rw [← hR];exact bL1.frozen);have HO2:=Lib.hid ho';have HB2:=Lib.hid hb';have HG2:=Lib.hid hg';have HL1:=Lib.hid bL1;obtain ⟨p7,c7,rfl,_⟩:=ho'.any.shape;clear ho' hb' hg' hnr bL1)
   obtain ⟨NV,hNV⟩:∃ k,(allD pre).length+ds.length=k:=⟨_,rfl⟩
   rw [List.length_append,hNV] at HO2
   rw [hNV]
   have hend:KeepsFrom w0.heap.size W (w1.setCell ⟨R+1+1,0,none⟩ (.slice p7 NV c7))∧Kep (TagT T w0.heap.size 59 W) W (w1.setCell ⟨R+1+1,0,none⟩ (.slice p7 NV c7))∧InvD w w0.heap.size (pre++[((.slice px ds.length cx:Value),(ds,(0:Int)))]) (w1.setCell ⟨R+1+1,0,none⟩ (.slice p7 NV c7)):=by
    subst hR
    have hnT:¬ TagT T w0.heap.size 59 W (w.heap.size+1+1):=fun h=>h.elim (fun h=>by have:=(HTI.out _).1 h;omega) (fun h=>by have:=h.1;omega)
    have k1:Kep (TagT T w0.heap.size 59 W) W w1:=ZmW HG2.out fun k hk hT=>by
     obtain ⟨h1,h2,cur,fr,hc⟩:=HO1.out.cells hk
     rcases hT with h | ⟨_,cur',t,fr',hc',hne⟩
     ·have:=hTD k h;omega
     ·rw [hc] at hc'
      simp only [Option.some.injEq,Obj.cells.injEq] at hc'
      exact hne hc'.2.1.symm
    have ko:Kep (fun b=>(Value.slice pl NA cl).ownBlock≠some b) W w1:=ZmW HG2.out fun k hk hne=>hne hk
    have hlo:∀ b,(Value.slice pl NA cl).ownBlock=some b→w0.heap.size≤b:=fun b hb=>(HO1.out.cells hb).1
    obtain ⟨bL,bR,bE,bl⟩:=HBS.out
    have o2:OwnX docC 59 w0.heap.size (FldS w0.heap.size w1) w1 (.slice p7 NV c7) (allD pre++ds):=HO2.out.weak fun b _ hb=>⟨hb.1,hb.2.keep ko (Zmw HO1.out hb.2)⟩
    have ks:Kep (fun b=>b≠w.heap.size+1+1) w1 (w1.setCell ⟨w.heap.size+1+1,0,none⟩ (.slice p7 NV c7)):=Zm0 _
    refine ⟨((Zp0 HO1.out HG2.out).trans (KeepsOthers.setCell _ _ _)).from _,k1.trans (ZmZ hnT _),.slice p7 NV c7,HL1.out.set _,?_,?_,?_,?_,?_,?_,?_⟩
    ·rw [Zb8]
     exact Zqt o2 ks (fun b hb=>by have:=hb.1;omega) (fun g hg=>by have:=(o2.cells hg).1;omega)
    ·intro x hx
     rcases List.mem_append.1 hx with hx | hx
     ·exact HA1.out x hx
     ·rw [List.mem_singleton] at hx;rw [hx]
    ·exact ZdM (ZdM bR ko (fun e=>by have:=hlo _ e;omega)) ks (by omega)
    ·exact ZdM (ZdM bE ko (fun e=>by have:=hlo _ e;omega)) ks (by omega)
    ·exact (bl.trans (ko.below hs1 fun k hk e=>by have:=hlo _ e;omega)).trans (ks.below (by have:=HG2.out.size;omega) fun k hk=>by omega)
    ·rw [Zb8,List.length_append,HNA.out,List.length_append]
     exact HLN.out.1
    ·have:=HG2.out.size
     have:=ks.size
     have:=HLD.out
     omega
   exact hend
  ·have t1:(er != 0)=true:=by rw [bne_iff_ne];exact he
   have hend:KeepsFrom w0.heap.size W ((W.setCell ⟨R,0,none⟩ (.slice none 0 0)).setCell ⟨R+1,0,none⟩ (.int .i64 er))∧InvX w (pre++[(xv,(ds,er))]) ((W.setCell ⟨R,0,none⟩ (.slice none 0 0)).setCell ⟨R+1,0,none⟩ (.int .i64 er)):=by
    subst hR
    have k1:Kep (fun b=>b≠w.heap.size) W (W.setCell ⟨w.heap.size,0,none⟩ (.slice none 0 0)):=Zm0 _
    have k2:Kep (fun b=>b≠w.heap.size+1) (W.setCell ⟨w.heap.size,0,none⟩ (.slice none 0 0)) ((W.setCell ⟨w.heap.size,0,none⟩ (.slice none 0 0)).setCell ⟨w.heap.size+1,0,none⟩ (.int .i64 er)):=Zm0 _
    refine ⟨((KeepsOthers.setCell _ _ _).trans (KeepsOthers.setCell _ _ _)).from _,(xv,(ds,er)),List.mem_append_right _ (by simp),he,ZdM (bR.set _) k2 (by omega),(ZdM bE k1 (by omega)).set _,(bl.trans (k1.below hs1 fun k hk=>by omega)).trans (k2.below (by have:=k1.size;omega) fun k hk=>by omega)⟩
   have HE:=Lib.hid hend
   have cE1:(W.setCell ⟨R,0,none⟩ (.slice none 0 0)).cell? ⟨R+1,0,none⟩=some (.int .i64 0):=((Zm0 (g:=R) (i:=0) (w:=W) (.slice none 0 0)).cell (by have:=bE.lt;omega) (by omega) 0).trans cE
   have fE1:(W.setCell ⟨R,0,none⟩ (.slice none 0 0)).frozen? ⟨R+1,0,none⟩=false:=by
    have:=(ZdM bE (Zm0 (g:=R) (i:=0) (w:=W) (.slice none 0 0)) (by omega)).frozen
    rw [hR] at this
    exact this
   clear hend o1 v1 v2 v3 a1 ln hI0 HVOW bL bR bE bl
   gi_wp2
   exact HE.out
 case done =>
  rintro Dk xs W hD hS ⟨v,bL,o1,a1,bR,bE,bl,ln,hd⟩ hK
  have hdec:=ZxU hS a1
  obtain ⟨pl,cl,rfl,_⟩:=o1.any.shape
  obtain ⟨NA,hNA⟩:∃ k,(allD xs).length=k:=⟨_,rfl⟩
  have hs1:=bl.size
  rw [hNA] at bL o1
  have cL:W.cell? ⟨R+1+1,0,none⟩=some (.slice pl NA cl):=by rw [← hR];exact bL.cell
  have cR:W.cell? ⟨R,0,none⟩=some (.slice none 0 0):=by rw [← hR];exact bR.cell
  have fR:W.frozen? ⟨R,0,none⟩=false:=by rw [← hR];exact bR.frozen
  have k1:Kep (fun b=>b≠R) W (W.setCell ⟨R,0,none⟩ (.slice pl NA cl)):=Zm0 _
  obtain ⟨W1,hW1⟩:∃ x,W.setCell ⟨R,0,none⟩ (.slice pl NA cl)=x:=⟨_,rfl⟩
  have bE1:Boxed W1 (w.heap.size+1) 26 (.int .i64 0):=by rw [← hW1];exact ZdM bE k1 (by omega)
  have bR1:Boxed W1 w.heap.size 22 (.slice pl NA cl):=by rw [← hW1,← hR];exact bR.set _
  have ko1:KeepsOthers W W1:=by rw [← hW1];exact KeepsOthers.setCell _ _ _
  rw [hW1] at k1
  obtain ⟨W3,hW3⟩:∃ x,W1.setCell ⟨R+1,0,none⟩ (.int .i64 0)=x:=⟨_,rfl⟩
  have k2:Kep (fun b=>b≠R+1) W1 W3:=by rw [← hW3];exact Zm0 _
  have bE3:Boxed W3 (w.heap.size+1) 26 (.int .i64 0):=by rw [← hW3,← hR];exact bE1.set _
  have bR3:Boxed W3 w.heap.size 22 (.slice pl NA cl):=ZdM bR1 k2 (by omega)
  have ko3:KeepsOthers W W3:=ko1.trans (by rw [← hW3];exact KeepsOthers.setCell _ _ _)
  have hK3:=ko3.same Dk _ hK rfl
  have o3:=Zqt (Zqt o1 k1 (fun b hb=>by have:=hb.1;omega) (fun g hg=>by have:=(o1.cells hg).1;omega)) k2 (fun b hb=>by have:=hb.1;omega) (fun g hg=>by have:=(o1.cells hg).1;omega)
  have bl3:Below w.heap.size w W3:=(bl.trans (k1.below hs1 fun k hk=>by omega)).trans (k2.below (by have:=k1.size;omega) fun k hk=>by omega)
  have k3:Kep (fun b=>b≠Dk) W3 (W3.putObj Dk (.deferred none)):=ZmW (grownBy_putObj' W3 Dk (.deferred none)) fun k hk hne=>by cases hk;exact hne rfl
  have hap:∀ b cur t fr,W3.heap[b]? = some (.cells cur t fr)→b≠Dk:=fun b cur t fr hc e=>by rw [e,hK3] at hc;cases hc
  have o4:=Zqt o3 k3 (fun b hb=>by obtain ⟨_,cur,fr,hc⟩:=hb;exact hap b cur _ fr hc) (fun g hg=>by obtain ⟨_,_,cur,fr,hc⟩:=o3.cells hg;exact hap g cur _ fr hc)
  have bR4:=(ZdM bR3 k3 (hap _ _ _ _ bR3)).cell
  have bE4:=(ZdM bE3 k3 (hap _ _ _ _ bE3)).cell
  have bl4:=bl3.trans (k3.below (by have:=k1.size;have:=k2.size;omega) fun k hk=>by omega)
  have cE1:W1.cell? ⟨R+1,0,none⟩=some (.int .i64 0):=by rw [← hR];exact bE1.cell
  have fE1:W1.frozen? ⟨R+1,0,none⟩=false:=by rw [← hR];exact bE1.frozen
  rw [← hW1] at cE1 fE1
  have HQ:Hid (DecA (decC b) w (.returned (.tuple #[.slice pl NA cl,.int .i64 0])) (W3.putObj Dk (.deferred none))):=Lib.hid (by rw [hdec];exact ⟨_,rfl,Zp9 o4 (by omega),bl4⟩)
  have HW1:=Lib.hid hW1
  have HW3:=Lib.hid hW3
  have HK3:=Lib.hid hK3
  rw [hR] at bR4 bE4
  have HR4:=Lib.hid bR4
  have HE4:=Lib.hid bE4
  clear hap k1 k2 k3 bE1 bR1 ko1 bE3 bR3 ko3 o3 o4 bl3 bl4 hdec hS bL bR bE bl o1 a1 ln hW1 hW3 hK3 bR4 bE4 hI0 HVOW hK
  gi_wp2
  rw [HW1.out,HW3.out]
  refine ⟨by simp,.inl ⟨_,_,rfl,run_takeDeferred HK3.out,?_⟩⟩
  refine ⟨.tuple #[.slice pl NA cl,.int .i64 0],?_,HQ.out⟩
  have cR4:=HR4.out
  have cE4:=HE4.out
  simp [results,Tryz.f49,go_sem,cR4,cE4]
 case stop =>
  rintro Dk pre W hD ⟨k,hk⟩ ⟨x,hx,hne,bR,bE,bl⟩ hK
  have hm:x.2∈ZxR b:=by
   have:x.2∈pre.map (·.2):=List.mem_map.2 ⟨x,hx,rfl⟩
   rw [hk] at this
   exact List.mem_of_mem_take this
  obtain ⟨h120,hdec⟩:=ZxV hm hne
  rw [hdec]
  have hs1:=bl.size
  rw [h120] at bE
  have k3:Kep (fun b=>b≠Dk) W (W.putObj Dk (.deferred none)):=ZmW (grownBy_putObj' W Dk (.deferred none)) fun k hk hne=>by cases hk;exact hne rfl
  have bR4:=(ZdM bR k3 (by omega)).cell
  have bE4:=(ZdM bE k3 (by omega)).cell
  have bl4:=bl.trans (k3.below hs1 fun k hk=>by omega)
  have HQ:Hid (DecA none w (.returned (.tuple #[.slice none 0 0,.int .i64 120])) (W.putObj Dk (.deferred none))):=Lib.hid ⟨_,rfl,Zax.nil_ _ _,bl4⟩
  rw [hR] at bR4 bE4
  have HR4:=Lib.hid bR4
  have HE4:=Lib.hid bE4
  clear k3 bl4 bR4 bE4 hdec hm hk hx hne h120 bR bE bl hI0 HVOW
  gi_wp2
  refine ⟨by simp,.inl ⟨_,_,rfl,run_takeDeferred hK,?_⟩⟩
  refine ⟨.tuple #[.slice none 0 0,.int .i64 120],?_,HQ.out⟩
  have cR4:=HR4.out
  have cE4:=HE4.out
  simp [results,Tryz.f49,go_sem,cR4,cE4]
end Go.Proofs.YtdijhifdjbnkfaaGreat.SR
namespace Go.Proofs.YtdijhifdjbnkfaaGreat.SR
open Go Go.RowKit MM VM SM
open EM (Fld Ev)
open EV (fldC fldE docC docE Zgo Zgn IsF NewF ZoG)
end Go.Proofs.YtdijhifdjbnkfaaGreat.SR
namespace Go.Proofs.YtdijhifdjbnkfaaGreat.SG
open Go Go.RowKit MM
open EM (Fld Ev)
open EV (fldC docC Zgn NewF ZoG)
open SM (Doc ZoQ)
end Go.Proofs.YtdijhifdjbnkfaaGreat.SG
namespace Go.Proofs.YtdijhifdjbnkfaaGreat.SG
open Go Go.RowKit MM
open EV (fldC docC docE Zgn Zgo NewF)
open SM (Doc ZoQ)
open SR (FldS Zmv Zmw Zqt)
theorem ZfQ (v:Value) (l:List Doc) (w:World) (hv:RAny docC w v l):Calls Tryz.prog 66 #[v] w fun e w'=>e=.returned (.int .i64 (l.length:Int))∧w=w':=by
 obtain ⟨p,cap,rfl,hlc,hcm,_⟩:=hv.shape
 clear hv
 go_enter Tryz.func66,Tryz.ntmps66
 go_wp2_with fail
 go_ret
 exact ⟨rfl,rfl⟩
end Go.Proofs.YtdijhifdjbnkfaaGreat.SG
