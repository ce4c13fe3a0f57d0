import Derived.Test.YtdfbkhpkffpckaaZB5
set_option maxRecDepth 100000
set_option maxHeartbeats 8000000
set_option linter.unusedVariables false
set_option linter.unusedSimpArgs false
namespace Go.Proofs.Ytdfbkhpkffpckaa.MM
open Go Go.RowKit
section
variable {α : Type} {C : Codec α}
variable (C)
def OwnX (e:TypeId) (B:Nat) (S:Nat→Prop) (w:World) (v:Value) (es:List α):Prop:=∃ raw,w.ownsRow B e C.size v es.length raw.flatten∧Mean C S w raw es
def SrcX (S:Nat→Prop) (w:World) (v:Value) (ds:List α):Prop :=
 ∃ (p:Option Addr) (cap:Nat) (raw:List (List Value)),v=.slice p ds.length cap∧ds.length≤cap∧(p=none→cap=0)∧Mean C S w raw ds∧(ds=[]∨∃ b off,p=some ⟨b,off,none⟩∧∀ j u,raw.flatten[j]? = some u→w.cell? ⟨b,off+j,none⟩=some u)
variable {C}
theorem ROn.src {S:Nat→Prop} {w:World} {v:Value} {ds:List α} (h:ROn C S w v ds):SrcX C S w v ds:=by
 obtain ⟨p,cap,raw,hv,h1,h2,h3,hm,hc⟩:=h
 refine ⟨p,cap,raw,hv,h1,h3,hm,?_⟩
 rcases hc with hc | ⟨b,off,hp,_,_,hc⟩
 ·exact .inl hc
 ·exact .inr ⟨b,off,hp,hc⟩
theorem src_lit {S:Nat→Prop} {w:World} {vs:List Value} {d:α} (e:TypeId) (h:C.on S w vs d):SrcX C S (w.alloc (.cells vs.toArray e)) (.slice (some ⟨w.heap.size,0,none⟩) 1 1) [d]:=by
 refine ⟨_,1,[vs],rfl,Nat.le_refl _,(fun h=>by cases h),⟨rfl,fun i hi hi' => ?_⟩,.inr ⟨w.heap.size,0,rfl,fun j u hj => ?_⟩⟩
 ·obtain rfl:i=0:=(by simpa using hi)
  exact C.keep h (kep_alloc _ _ _) fun _ _ h=>h
 ·rw [List.flatten_singleton] at hj
  have:=lit_cells w vs e j u hj
  rw [add_at] at this
  exact this
theorem OwnX.nil_ (e:TypeId) (B:Nat) (S:Nat→Prop) (w:World):OwnX C e B S w (.slice none 0 0) []:=⟨[],World.ownsRow_nil _ _ _ _,Mean.nil_ _ _⟩
theorem OwnX.lit0 (e:TypeId) {B:Nat} (S:Nat→Prop) (w:World) (hB:B≤w.heap.size):OwnX C e B S (w.alloc (.cells #[] e)) (.slice (some ⟨w.heap.size,0,none⟩) 0 0) []:=by
 refine ⟨[],?_,Mean.nil_ _ _⟩
 have:=World.ownsRow_lit (e:=e) (base:=B) (size:=C.size) w #[] 0 hB (Nat.zero_le _) (by simp)
 simpa using this
theorem OwnX.cells {e:TypeId} {B:Nat} {S:Nat→Prop} {w:World} {v:Value} {es:List α} (h:OwnX C e B S w v es) {g:Nat} (hg:v.ownBlock=some g):B≤g∧g<w.heap.size∧∃ cur fr,w.heap[g]? = some (.cells cur e fr):=by
 obtain ⟨raw,h1,_⟩:=h
 exact ⟨(own_cells h1 hg).1,(World.ownsRow.lt h1 g hg).2,(own_cells h1 hg).2⟩
theorem OwnX.keep {e:TypeId} {B:Nat} {S T:Nat→Prop} {w w':World} {v:Value} {es:List α} (h:OwnX C e B S w v es) (hk:Kep T w w') (hS:∀ b,b<w.heap.size→S b→T b) (hg:∀ g,v.ownBlock=some g→T g):OwnX C e B S w' v es:=by
 obtain ⟨raw,h1,h2⟩:=h
 refine ⟨raw,own_row_kep h1 hk hg,h2.1,fun i hi hi' => ?_⟩
 exact C.keep (C.keep (h2.2 i hi hi') (Kep.refl _ _) (T:=fun b=>S b∧b<w.heap.size) fun b hb hs=>⟨hs,hb⟩) (hk.mono' (T:=fun b=>S b∧b<w.heap.size) fun b hb hs=>hS b hb hs.1) fun b hb hs=>hs.1
theorem OwnX.weak {e:TypeId} {B:Nat} {S T:Nat→Prop} {w:World} {v:Value} {es:List α} (h:OwnX C e B S w v es) (hT:∀ b,b<w.heap.size→S b→T b):OwnX C e B T w v es:=by
 obtain ⟨raw,h1,h2⟩:=h
 exact ⟨raw,h1,h2.keep (Kep.refl _ _) hT⟩
theorem OwnX.alloc {e:TypeId} {B:Nat} {S:Nat→Prop} {w:World} {v:Value} {es:List α} (h:OwnX C e B S w v es) (o:Obj):OwnX C e B S (w.alloc o) v es:=h.keep (kep_alloc (fun _=>True) w o) (fun _ _ _=>trivial) (fun _ _=>trivial)
theorem OwnX.ron {e:TypeId} {B:Nat} {S T:Nat→Prop} {w:World} {v:Value} {es:List α} (h:OwnX C e B S w v es) (h1:∀ g,v.ownBlock=some g→T g) (h2:∀ b,b<w.heap.size→S b→T b):ROn C T w v es:=by
 obtain ⟨raw,ho,hm⟩:=h
 rcases ho.2 with ⟨rfl,h0⟩ | ⟨g,cap,cur,rfl,hg,hh,hnc,hmx,hs,ht⟩
 ·have:es=[]:=List.eq_nil_of_length_eq_zero h0
  subst this
  exact ROn.nil_ _ _
 ·refine ⟨some ⟨g,0,none⟩,cap,raw,rfl,hnc,hmx,(fun h=>by cases h),hm.keep (Kep.refl _ _) h2,.inr ⟨g,0,rfl,(Array.getElem?_eq_some_iff.1 hh).1,h1 g rfl,fun j u hj => ?_⟩⟩
  have:=Lib.cells_of_row hh (es.length*C.size) j u (by rw [ht];exact hj)
  rw [add_at] at this
  exact this
theorem OwnX.any {e:TypeId} {B:Nat} {S:Nat→Prop} {w:World} {v:Value} {es:List α} (h:OwnX C e B S w v es):RAny C w v es:=h.ron (fun _ _=>trivial) (fun _ _ _=>trivial)
theorem wpList_append_x {P:Program} {T e:TypeId} {bytes:Nat} (E:Elem C P T e bytes) {S:Nat→Prop} {w:World} {ops:Array Oper} {rest:List Oper} {o:Oper} {a:Act} {Q:Exit→Act→World→Prop} (hgd:o.guard=none) (s x:Operand)
  (ho:o.op=.call { callee:=.builtin .append,args:=#[s,x],argTypes:=#[T,T] }) (B:Nat) (v:Value) (es:List α) (hs:a.eval s=v) (hown:OwnX C e B S w v es) (hS:∀ b,b<w.heap.size→S b→Apt e B w b)
  (src:Value) (ds:List α) (hx:a.eval x=src) (hr:SrcX C S w src ds) (hlen:es.length+ds.length≤maxLen) (hby:(es.length+ds.length)*bytes≤140737488355328) (hbase:B≤w.heap.size)
  (h:∀ v' w',OwnX C e B S w' v' (es++ds)→Below B w w'→Kep (fun k=>v.ownBlock≠some k) w w'→wpList P ops Q rest (a.put o.dst v') w'):wpList P ops Q (o::rest) a w:=by
 obtain ⟨p,cap,raw,rfl,h1,h3,hm,hc⟩:=hr
 obtain ⟨i,z,hi,hz,hsz,hbt,hzs⟩:=E.info
 cases p with
 | none =>
   have h0:=h3 rfl
   subst h0
   have hd:ds=[]:=List.eq_nil_of_length_eq_zero (by omega)
   subst hd
   obtain ⟨raw1,g1,g2⟩:=id hown
   refine wpList_append_own_none hgd s x T ho B e i C.size E.under hi v es.length _ hs g1 hx (h v w ?_ (Below.refl _ _) (Kep.refl _ _))
   rw [List.append_nil]
   exact hown
 | some ad =>
   refine wpList_plain hgd fun _ hK => ?_
   obtain ⟨raw1,g1,g2⟩:=hown
   have hlo:∀ k,v.ownBlock=some k→B≤k:=fun k hk=>(World.ownsRow.lt g1 k hk).1
   have hl:raw.flatten.length=ds.length*C.size:=by rw [flat_len hm.lens,hm.1]
   refine wp_append_own _ s x T ho B e i z C.size bytes E.under hi hz hsz hbt hzs C.pos v es.length _ hs g1 ad ds.length cap raw.flatten hx hl ?_ hm.ones hlen hby hbase (fun v' w' h4 hg _ => ?_)
   ·intro j u hj
    rcases hc with hc | ⟨b,off,he,hc⟩
    ·subst hc
     have:raw=[]:=List.eq_nil_of_length_eq_zero (by rw [hm.1];rfl)
     subst this
     simp at hj
    ·obtain rfl:ad=⟨b,off,none⟩:=Option.some.inj he
     rw [add_at]
     exact hc j u hj
   ·have hb:Below B w w':=(Below.refl B _).grown hg hbase hlo
    have hk:Kep (Apt e B w) w w':=kep_grown hg fun k hk hA=>apt_not_own g1 hA hk
    refine hK _ _ (h v' w' ⟨raw1++raw,?_,?_⟩ hb (kep_grown hg fun k hk hne=>hne hk))
    ·rw [List.length_append,List.flatten_append]
     exact h4
    ·have hm2:=g2.append hm
     refine ⟨hm2.1,fun i hi hi' => ?_⟩
     exact C.keep (C.keep (hm2.2 i hi hi') (Kep.refl _ _) (T:=fun b=>S b∧b<w.heap.size) fun b hb hs=>⟨hs,hb⟩) (hk.mono' (T:=fun b=>S b∧b<w.heap.size) fun b hb hs=>hS b hb hs.1) fun b hb hs=>hs.1
theorem wp_append_x1 {P:Program} {T e:TypeId} {bytes:Nat} (E:Elem C P T e bytes) {S:Nat→Prop} {w:World} {o:Oper} {a:Act} {K:Act→World→Prop} {Q:Exit→Act→World→Prop} (s x:Operand)
  (ho:o.op=.call { callee:=.builtin .append,args:=#[s,x],argTypes:=#[T,T] }) (B:Nat) (v:Value) (es:List α) (w0:World) (vs:List Value) (d:α) (hw:w=w0.alloc (.cells vs.toArray e)) (hs:a.eval s=v) (hown:OwnX C e B S w0 v es) (hS:∀ b,b<w0.heap.size→S b→Apt e B w0 b)
  (hd:C.on S w0 vs d) (hx:a.eval x=.slice (some ⟨w0.heap.size,0,none⟩) 1 1) (hlen:es.length+1≤maxLen) (hby:(es.length+1)*bytes≤140737488355328) (hbase:B≤w0.heap.size)
  (h:∀ v' w',OwnX C e B S w' v' (es++[d])→Below B w0 w'→Kep (fun k=>v.ownBlock≠some k) w w'→(∃ g cap,v'=.slice (some ⟨g,0,none⟩) (es.length+1) cap)→K (a.put o.dst v') w'):o.wp P a w K Q:=by
 subst hw
 have hb0:Below w0.heap.size w0 (w0.alloc (.cells vs.toArray e)):=(Below.refl _ _).alloc (Nat.le_refl _) _
 obtain ⟨i,z,hi,hz,hsz,hbt,hzs⟩:=E.info
 obtain ⟨raw,g1,g2⟩:=hown
 have h1:=own_keep (B:=0) g1 hb0
 have hlo:∀ k,v.ownBlock=some k→B≤k:=fun k hk=>(World.ownsRow.lt h1 k hk).1
 have hl:=C.len hd
 refine wp_append_own _ s x T ho B e i z C.size bytes E.under hi hz hsz hbt hzs C.pos v es.length _ hs h1 ⟨w0.heap.size,0,none⟩ 1 1 vs hx (by rw [hl,Nat.one_mul]) (lit_cells w0 vs e) (C.one hd) hlen hby (by simp;omega) (fun v' w' h3 hg _ => ?_)
 have hb:Below B (w0.alloc (.cells vs.toArray e)) w':=(Below.refl B _).grown hg (by simp;omega) hlo
 have hko:Kep (fun k=>v.ownBlock≠some k) w0 w':=(kep_below _ hb0).trans (kep_grown hg fun k hk hne=>hne hk)
 have hm0:Mean C (fun b=>S b∧b<w0.heap.size) w0 (raw++[vs]) (es++[d]):=(g2.append (Mean.single hd)).keep (Kep.refl _ _) fun b hb hs=>⟨hs,hb⟩
 have hm:Mean C (fun b=>S b∧b<w0.heap.size) w' (raw++[vs]) (es++[d]):=hm0.keep (hko.mono' (T:=fun b=>S b∧b<w0.heap.size) fun b hb hs he=>apt_not_own g1 (hS b hb hs.1) he) fun b hb hs=>hs
 refine h v' w' ⟨raw++[vs],?_,hm.keep (Kep.refl _ _) fun b _ hs=>hs.1⟩ ((hb0.mono hbase).trans hb) (kep_grown hg fun k hk hne=>hne hk) ?_
 ·rw [List.length_append,List.flatten_append,List.flatten_singleton]
  exact h3
 ·rcases h3.2 with ⟨_,h0⟩ | ⟨g,cap,cur,hv,_⟩
  ·omega
  ·exact ⟨g,cap,hv⟩
end
end Go.Proofs.Ytdfbkhpkffpckaa.MM
