import Derived.Test.YtidhgicajlaafaaGreatZD2
import Derived.Deep.AppendLies
set_option maxRecDepth 100000
set_option maxHeartbeats 8000000
set_option linter.unusedVariables false
set_option linter.unusedSimpArgs false
namespace Go.Proofs.YtidhgicajlaafaaGreat.MM
open Go Go.RowKit
section
variable {α : Type} {C : Codec α}
theorem ron_lit {e:TypeId} {S:Nat→Prop} (w:World) (raw:List (List Value)) (es:List α) (hl:es.length≤maxLen) (hm:Mean C S w raw es) :
  ROn C (fun b=>S b∨b=w.heap.size) (w.alloc (.cells raw.flatten.toArray e)) (.slice (some ⟨w.heap.size,0,none⟩) es.length es.length) es:=by
 have hb:Below w.heap.size w (w.alloc (.cells raw.flatten.toArray e)):=(Below.refl _ _).alloc (Nat.le_refl _) _
 refine ⟨_,_,raw,rfl,Nat.le_refl _,hl,(fun h=>by cases h),hm.keep (kep_below _ hb) fun b _ h=>.inl h,.inr ⟨w.heap.size,0,rfl,by simp,.inr rfl,fun j u hj => ?_⟩⟩
 have:=lit_cells w raw.flatten e j u hj
 rw [add_at] at this
 exact this
theorem flat_set:∀ {raw:List (List Value)} {n:Nat},(∀ r∈raw,r.length=n)→∀ (k:Nat) (hk:k<raw.length) (j:Nat) (u:Value),j<n→raw.flatten.set (k*n+j) u=(raw.set k (raw[k].set j u)).flatten
 | r::raw,n,h,0,_,j,u,hj=>by
   have hr:=h r (by simp)
   rw [Nat.zero_mul,Nat.zero_add,List.flatten_cons,List.set_append_left _ _ (by omega)]
   simp
 | r::raw,n,h,k+1,hk,j,u,hj=>by
   have hr:=h r (by simp)
   have e:(k+1)*n+j=r.length+(k*n+j):=by rw [Nat.succ_mul,hr];omega
   rw [List.flatten_cons,e,List.set_append_right _ _ (by omega),Nat.add_sub_cancel_left,flat_set (fun x hx=>h x (by simp [hx])) k (by simpa using hk) j u hj]
   simp
theorem OwnC.elem {e:TypeId} {B g n cap:Nat} {w:World} {es:List α} (h:OwnC C e B w (.slice (some ⟨g,0,none⟩) n cap) es) {k:Nat} (hk:k<es.length) :
  ∃ vs,C.on (Apt e B w) w vs es[k]∧(∀ j u,vs[j]? = some u→w.cell? ⟨g,k*C.size+j,none⟩=some u)∧(∀ j,w.frozen? ⟨g,j,none⟩=false) ∧
    ∀ j u d,j<C.size→C.on (Apt e B w) w (vs.set j u) d→OwnC C e B (w.setCell ⟨g,k*C.size+j,none⟩ u) (.slice (some ⟨g,0,none⟩) n cap) (es.set k d):=by
 obtain ⟨raw,h1,h2⟩:=h
 have hn:n=es.length:=by
  rcases h1.2 with ⟨hv,_⟩ | ⟨g',cap',cur,hv,_⟩
  ·cases hv
  ·simp only [Value.slice.injEq] at hv
   exact hv.2.1
 subst hn
 have hk':k<raw.length:=by rw [h2.1];exact hk
 refine ⟨raw[k],h2.2 k hk' hk,fun j u hj => ?_,fun j=>World.ownsRow.frozenAt h1 j,fun j u d hj hd => ?_⟩
 ·have hf:=flat_get h2.lens k hk' j u hj
  have hlt:=(List.getElem?_eq_some_iff.1 hf).1
  rw [World.ownsRow.cellAt h1 _ (by rw [flat_len h2.lens,h2.1] at hlt;exact hlt)]
  exact hf
 ·have hs:=(World.ownsRow.stored h1 (k*C.size+j) u).1
  rw [flat_set h2.lens k hk' j u hj] at hs
  have hng:¬ Apt e B w g:=fun ha=>apt_not_own h1 ha rfl
  have hkp:Kep (Apt e B w) w (w.setCell ⟨g,k*C.size+j,none⟩ u):=kep_set hng u
  refine ⟨raw.set k (raw[k].set j u),by rw [List.length_set];exact hs,by rw [List.length_set,List.length_set,h2.1],fun i hi hi' => ?_⟩
  rw [List.length_set] at hi hi'
  have hA:∀ b,b<w.heap.size→Apt e B w b→Apt e B (w.setCell ⟨g,k*C.size+j,none⟩ u) b:=fun b hlt ha=>apt_keep ha (hkp.block b hlt ha)
  by_cases hik:i=k
  ·subst hik
   rw [List.getElem_set_self,List.getElem_set_self]
   exact C.keep hd hkp hA
  ·rw [List.getElem_set_ne (fun e=>hik e.symm),List.getElem_set_ne (fun e=>hik e.symm)]
   exact C.keep (h2.2 i hi hi') hkp hA
variable (C)
def OwnS (e:TypeId) (S:Nat→Prop) (w:World) (v:Value) (es:List α):Prop:=∃ raw,w.ownsRow 0 e C.size v es.length raw.flatten∧Mean C S w raw es∧∀ g,v.ownBlock=some g→¬ S g
variable {C}
theorem OwnS.nil_ (e:TypeId) (S:Nat→Prop) (w:World):OwnS C e S w (.slice none 0 0) []:=⟨[],World.ownsRow_nil _ _ _ _,Mean.nil_ _ _,fun g h=>by cases h⟩
theorem own_row_kep {e:TypeId} {size n B:Nat} {S:Nat→Prop} {w w':World} {v:Value} {xs:List Value} (h:w.ownsRow B e size v n xs) (hk:Kep S w w') (hg:∀ g,v.ownBlock=some g→S g):w'.ownsRow B e size v n xs:=by
 refine ⟨h.1,?_⟩
 rcases h.2 with h0 | ⟨g,cap,cur,hv,hb,hh,rest⟩
 ·exact .inl h0
 ·exact .inr ⟨g,cap,cur,hv,hb,by rw [hk.block g (Array.getElem?_eq_some_iff.1 hh).1 (hg g (by rw [hv];rfl))];exact hh,rest⟩
theorem OwnS.keep {e:TypeId} {S T:Nat→Prop} {w w':World} {v:Value} {es:List α} (h:OwnS C e S w v es) (hk:Kep T w w') (hS:∀ b,b<w.heap.size→S b→T b) (hg:∀ g,v.ownBlock=some g→T g):OwnS C e S w' v es:=by
 obtain ⟨raw,h1,h2,h3⟩:=h
 exact ⟨raw,own_row_kep h1 hk hg,⟨h2.1,fun i hi hi'=>C.keep (C.keep (h2.2 i hi hi') (Kep.refl _ _) (T:=fun b=>S b∧b<w.heap.size) fun b hb hs=>⟨hs,hb⟩) (hk.mono' (T:=fun b=>S b∧b<w.heap.size) fun b hb hs=>hS b hb hs.1) fun b hb hs=>hs.1⟩,h3⟩
theorem OwnS.weak {e:TypeId} {S T:Nat→Prop} {w:World} {v:Value} {es:List α} (h:OwnS C e S w v es) (hT:∀ b,b<w.heap.size→S b→T b) (hg:∀ g,v.ownBlock=some g→¬ T g):OwnS C e T w v es:=by
 obtain ⟨raw,h1,h2,h3⟩:=h
 exact ⟨raw,h1,h2.keep (Kep.refl _ _) hT,hg⟩
theorem OwnS.ron {e:TypeId} {S T:Nat→Prop} {w:World} {v:Value} {es:List α} (h:OwnS C e S w v es) (h1:∀ g,v.ownBlock=some g→T g) (h2:∀ b,b<w.heap.size→S b→T b):ROn C T w v es:=by
 obtain ⟨raw,ho,hm,_⟩:=h
 rcases ho.2 with ⟨rfl,h0⟩ | ⟨g,cap,cur,rfl,hg,hh,hnc,hmx,hs,ht⟩
 ·have:es=[]:=List.eq_nil_of_length_eq_zero h0
  subst this
  exact ROn.nil_ _ _
 ·refine ⟨some ⟨g,0,none⟩,cap,raw,rfl,hnc,hmx,(fun h=>by cases h),hm.keep (Kep.refl _ _) h2,.inr ⟨g,0,rfl,(Array.getElem?_eq_some_iff.1 hh).1,h1 g rfl,fun j u hj => ?_⟩⟩
  have:=Lib.cells_of_row hh (es.length*C.size) j u (by rw [ht];exact hj)
  rw [add_at] at this
  exact this
theorem OwnS.any {e:TypeId} {S:Nat→Prop} {w:World} {v:Value} {es:List α} (h:OwnS C e S w v es):RAny C w v es:=h.ron (fun _ _=>trivial) (fun _ _ _=>trivial)
theorem OwnS.lt {e:TypeId} {S:Nat→Prop} {w:World} {v:Value} {es:List α} (h:OwnS C e S w v es):∀ g,v.ownBlock=some g→g<w.heap.size∧¬ S g:=fun g hg=>by obtain ⟨raw,h1,_,h3⟩:=h;exact ⟨(World.ownsRow.lt h1 g hg).2,h3 g hg⟩
theorem wp_append_s {P:Program} {T e:TypeId} {bytes:Nat} (E:Elem C P T e bytes) {S:Nat→Prop} {w:World} {o:Oper} {a:Act} {K:Act→World→Prop} {Q:Exit→Act→World→Prop} (s x:Operand)
  (ho:o.op=.call { callee:=.builtin .append,args:=#[s,x],argTypes:=#[T,T] }) (v:Value) (es:List α) (w0:World) (vs:List Value) (d:α) (hw:w=w0.alloc (.cells vs.toArray e)) (hs:a.eval s=v) (hown:OwnS C e S w0 v es)
  (hd:C.on S w0 vs d) (hx:a.eval x=.slice (some ⟨w0.heap.size,0,none⟩) 1 1) (hlen:es.length+1≤maxLen) (hby:(es.length+1)*bytes≤140737488355328)
  (h:∀ v' w',OwnS C e (fun b=>S b∧b<w0.heap.size) w' v' (es++[d])→Kep (fun k=>v.ownBlock≠some k) w0 w'→(∀ g,v'.ownBlock=some g→v.ownBlock=some g∨w0.heap.size≤g)→Kep (fun k=>v.ownBlock≠some k) w w'→K (a.put o.dst v') w'):o.wp P a w K Q:=by
 subst hw
 have hb0:Below w0.heap.size w0 (w0.alloc (.cells vs.toArray e)):=(Below.refl _ _).alloc (Nat.le_refl _) _
 obtain ⟨i,z,hi,hz,hsz,hbt,hzs⟩:=E.info
 obtain ⟨raw,h1,h2,h3⟩:=hown
 have hlt:∀ k,v.ownBlock=some k→k<w0.heap.size:=fun k hk=>(World.ownsRow.lt h1 k hk).2
 have hl:=C.len hd
 have hm0:Mean C (fun b=>S b∧b<w0.heap.size) w0 (raw++[vs]) (es++[d]):=(h2.append (Mean.single hd)).keep (Kep.refl _ _) fun b hb hs=>⟨hs,hb⟩
 have h1a:=World.ownsRow.alloc h1 (.cells vs.toArray e)
 refine wp_append_lies _ s x T ho 0 e i z C.size bytes E.under hi hz hsz hbt hzs C.pos v es.length _ hs h1a ⟨w0.heap.size,0,none⟩ 1 1 vs hx (by rw [hl,Nat.one_mul]) (lit_cells w0 vs e) (C.one hd) (by omega) hlen hby (Nat.zero_le _) _ rfl (fun g cap w' h4 hg hwhere _ => ?_)
 have hk:Kep (fun k=>v.ownBlock≠some k) w0 w':=(kep_below _ hb0).trans (kep_grown hg fun k hk hne=>hne hk)
 have hnew:∀ g',(Value.slice (some ⟨g,0,none⟩) (es.length+1) cap).ownBlock=some g'→v.ownBlock=some g'∨w0.heap.size≤g':=fun g' hgb=>by
  have:g=g':=Option.some.inj hgb
  subst this
  rcases hwhere with h5 | h5
  ·exact .inl h5
  ·right;rw [h5];simp
 refine h _ w' ⟨raw++[vs],?_,hm0.keep (hk.mono' fun b hb hs he=>h3 b he hs.1) fun b hb hs=>hs,?_⟩ hk hnew (kep_grown hg fun k hk hne=>hne hk)
 ·rw [List.length_append,List.flatten_append,List.flatten_singleton]
  exact h4
 ·intro g hgb hs
  rcases hnew g hgb with he | he
  ·exact h3 g he hs.1
  ·omega
end
end Go.Proofs.YtidhgicajlaafaaGreat.MM
namespace Go.Proofs.YtidhgicajlaafaaGreat.MM
open Go Go.RowKit
section
variable {α : Type} {C : Codec α}
variable (C)
def OwnX (e:TypeId) (B:Nat) (S:Nat→Prop) (w:World) (v:Value) (es:List α):Prop:=∃ raw,w.ownsRow B e C.size v es.length raw.flatten∧Mean C S w raw es
def SrcX (S:Nat→Prop) (w:World) (v:Value) (ds:List α):Prop :=
 ∃ (p:Option Addr) (cap:Nat) (raw:List (List Value)),v=.slice p ds.length cap∧ds.length≤cap∧(p=none→cap=0)∧Mean C S w raw ds∧(ds=[]∨∃ b off,p=some ⟨b,off,none⟩∧∀ j u,raw.flatten[j]? = some u→w.cell? ⟨b,off+j,none⟩=some u)
variable {C}
theorem ROn.src {S:Nat→Prop} {w:World} {v:Value} {ds:List α} (h:ROn C S w v ds):SrcX C S w v ds:=by
 obtain ⟨p,cap,raw,hv,h1,h2,h3,hm,hc⟩:=h
 refine ⟨p,cap,raw,hv,h1,h3,hm,?_⟩
 rcases hc with hc | ⟨b,off,hp,_,_,hc⟩
 ·exact .inl hc
 ·exact .inr ⟨b,off,hp,hc⟩
theorem src_lit {S:Nat→Prop} {w:World} {vs:List Value} {d:α} (e:TypeId) (h:C.on S w vs d):SrcX C S (w.alloc (.cells vs.toArray e)) (.slice (some ⟨w.heap.size,0,none⟩) 1 1) [d]:=by
 refine ⟨_,1,[vs],rfl,Nat.le_refl _,(fun h=>by cases h),⟨rfl,fun i hi hi' => ?_⟩,.inr ⟨w.heap.size,0,rfl,fun j u hj => ?_⟩⟩
 ·obtain rfl:i=0:=(by simpa using hi)
  exact C.keep h (kep_alloc _ _ _) fun _ _ h=>h
 ·rw [List.flatten_singleton] at hj
  have:=lit_cells w vs e j u hj
  rw [add_at] at this
  exact this
theorem OwnX.nil_ (e:TypeId) (B:Nat) (S:Nat→Prop) (w:World):OwnX C e B S w (.slice none 0 0) []:=⟨[],World.ownsRow_nil _ _ _ _,Mean.nil_ _ _⟩
theorem OwnX.lit0 (e:TypeId) {B:Nat} (S:Nat→Prop) (w:World) (hB:B≤w.heap.size):OwnX C e B S (w.alloc (.cells #[] e)) (.slice (some ⟨w.heap.size,0,none⟩) 0 0) []:=by
 refine ⟨[],?_,Mean.nil_ _ _⟩
 have:=World.ownsRow_lit (e:=e) (base:=B) (size:=C.size) w #[] 0 hB (Nat.zero_le _) (by simp)
 simpa using this
theorem OwnX.cells {e:TypeId} {B:Nat} {S:Nat→Prop} {w:World} {v:Value} {es:List α} (h:OwnX C e B S w v es) {g:Nat} (hg:v.ownBlock=some g):B≤g∧g<w.heap.size∧∃ cur fr,w.heap[g]? = some (.cells cur e fr):=by
 obtain ⟨raw,h1,_⟩:=h
 exact ⟨(own_cells h1 hg).1,(World.ownsRow.lt h1 g hg).2,(own_cells h1 hg).2⟩
theorem OwnX.keep {e:TypeId} {B:Nat} {S T:Nat→Prop} {w w':World} {v:Value} {es:List α} (h:OwnX C e B S w v es) (hk:Kep T w w') (hS:∀ b,b<w.heap.size→S b→T b) (hg:∀ g,v.ownBlock=some g→T g):OwnX C e B S w' v es:=by
 obtain ⟨raw,h1,h2⟩:=h
 refine ⟨raw,own_row_kep h1 hk hg,h2.1,fun i hi hi' => ?_⟩
 exact C.keep (C.keep (h2.2 i hi hi') (Kep.refl _ _) (T:=fun b=>S b∧b<w.heap.size) fun b hb hs=>⟨hs,hb⟩) (hk.mono' (T:=fun b=>S b∧b<w.heap.size) fun b hb hs=>hS b hb hs.1) fun b hb hs=>hs.1
theorem OwnX.weak {e:TypeId} {B:Nat} {S T:Nat→Prop} {w:World} {v:Value} {es:List α} (h:OwnX C e B S w v es) (hT:∀ b,b<w.heap.size→S b→T b):OwnX C e B T w v es:=by
 obtain ⟨raw,h1,h2⟩:=h
 exact ⟨raw,h1,h2.keep (Kep.refl _ _) hT⟩
theorem OwnX.alloc {e:TypeId} {B:Nat} {S:Nat→Prop} {w:World} {v:Value} {es:List α} (h:OwnX C e B S w v es) (o:Obj):OwnX C e B S (w.alloc o) v es:=h.keep (kep_alloc (fun _=>True) w o) (fun _ _ _=>trivial) (fun _ _=>trivial)
theorem OwnX.ron {e:TypeId} {B:Nat} {S T:Nat→Prop} {w:World} {v:Value} {es:List α} (h:OwnX C e B S w v es) (h1:∀ g,v.ownBlock=some g→T g) (h2:∀ b,b<w.heap.size→S b→T b):ROn C T w v es:=by
 obtain ⟨raw,ho,hm⟩:=h
 rcases ho.2 with ⟨rfl,h0⟩ | ⟨g,cap,cur,rfl,hg,hh,hnc,hmx,hs,ht⟩
 ·have:es=[]:=List.eq_nil_of_length_eq_zero h0
  subst this
  exact ROn.nil_ _ _
 ·refine ⟨some ⟨g,0,none⟩,cap,raw,rfl,hnc,hmx,(fun h=>by cases h),hm.keep (Kep.refl _ _) h2,.inr ⟨g,0,rfl,(Array.getElem?_eq_some_iff.1 hh).1,h1 g rfl,fun j u hj => ?_⟩⟩
  have:=Lib.cells_of_row hh (es.length*C.size) j u (by rw [ht];exact hj)
  rw [add_at] at this
  exact this
theorem OwnX.any {e:TypeId} {B:Nat} {S:Nat→Prop} {w:World} {v:Value} {es:List α} (h:OwnX C e B S w v es):RAny C w v es:=h.ron (fun _ _=>trivial) (fun _ _ _=>trivial)
theorem wpList_append_x {P:Program} {T e:TypeId} {bytes:Nat} (E:Elem C P T e bytes) {S:Nat→Prop} {w:World} {ops:Array Oper} {rest:List Oper} {o:Oper} {a:Act} {Q:Exit→Act→World→Prop} (hgd:o.guard=none) (s x:Operand)
  (ho:o.op=.call { callee:=.builtin .append,args:=#[s,x],argTypes:=#[T,T] }) (B:Nat) (v:Value) (es:List α) (hs:a.eval s=v) (hown:OwnX C e B S w v es) (hS:∀ b,b<w.heap.size→S b→Apt e B w b)
  (src:Value) (ds:List α) (hx:a.eval x=src) (hr:SrcX C S w src ds) (hlen:es.length+ds.length≤maxLen) (hby:(es.length+ds.length)*bytes≤140737488355328) (hbase:B≤w.heap.size)
  (h:∀ v' w',OwnX C e B S w' v' (es++ds)→Below B w w'→Kep (fun k=>v.ownBlock≠some k) w w'→wpList P ops Q rest (a.put o.dst v') w'):wpList P ops Q (o::rest) a w:=by
 obtain ⟨p,cap,raw,rfl,h1,h3,hm,hc⟩:=hr
 obtain ⟨i,z,hi,hz,hsz,hbt,hzs⟩:=E.info
 cases p with
 | none =>
   have h0:=h3 rfl
   subst h0
   have hd:ds=[]:=List.eq_nil_of_length_eq_zero (by omega)
   subst hd
   obtain ⟨raw1,g1,g2⟩:=id hown
   refine wpList_append_own_none hgd s x T ho B e i C.size E.under hi v es.length _ hs g1 hx (h v w ?_ (Below.refl _ _) (Kep.refl _ _))
   rw [List.append_nil]
   exact hown
 | some ad =>
   refine wpList_plain hgd fun _ hK => ?_
   obtain ⟨raw1,g1,g2⟩:=hown
   have hlo:∀ k,v.ownBlock=some k→B≤k:=fun k hk=>(World.ownsRow.lt g1 k hk).1
   have hl:raw.flatten.length=ds.length*C.size:=by rw [flat_len hm.lens,hm.1]
   refine wp_append_own _ s x T ho B e i z C.size bytes E.under hi hz hsz hbt hzs C.pos v es.length _ hs g1 ad ds.length cap raw.flatten hx hl ?_ hm.ones hlen hby hbase (fun v' w' h4 hg _ => ?_)
   ·intro j u hj
    rcases hc with hc | ⟨b,off,he,hc⟩
    ·subst hc
     have:raw=[]:=List.eq_nil_of_length_eq_zero (by rw [hm.1];rfl)
     subst this
     simp at hj
    ·obtain rfl:ad=⟨b,off,none⟩:=Option.some.inj he
     rw [add_at]
     exact hc j u hj
   ·have hb:Below B w w':=(Below.refl B _).grown hg hbase hlo
    have hk:Kep (Apt e B w) w w':=kep_grown hg fun k hk hA=>apt_not_own g1 hA hk
    refine hK _ _ (h v' w' ⟨raw1++raw,?_,?_⟩ hb (kep_grown hg fun k hk hne=>hne hk))
    ·rw [List.length_append,List.flatten_append]
     exact h4
    ·have hm2:=g2.append hm
     refine ⟨hm2.1,fun i hi hi' => ?_⟩
     exact C.keep (C.keep (hm2.2 i hi hi') (Kep.refl _ _) (T:=fun b=>S b∧b<w.heap.size) fun b hb hs=>⟨hs,hb⟩) (hk.mono' (T:=fun b=>S b∧b<w.heap.size) fun b hb hs=>hS b hb hs.1) fun b hb hs=>hs.1
theorem wp_append_x1 {P:Program} {T e:TypeId} {bytes:Nat} (E:Elem C P T e bytes) {S:Nat→Prop} {w:World} {o:Oper} {a:Act} {K:Act→World→Prop} {Q:Exit→Act→World→Prop} (s x:Operand)
  (ho:o.op=.call { callee:=.builtin .append,args:=#[s,x],argTypes:=#[T,T] }) (B:Nat) (v:Value) (es:List α) (w0:World) (vs:List Value) (d:α) (hw:w=w0.alloc (.cells vs.toArray e)) (hs:a.eval s=v) (hown:OwnX C e B S w0 v es) (hS:∀ b,b<w0.heap.size→S b→Apt e B w0 b)
  (hd:C.on S w0 vs d) (hx:a.eval x=.slice (some ⟨w0.heap.size,0,none⟩) 1 1) (hlen:es.length+1≤maxLen) (hby:(es.length+1)*bytes≤140737488355328) (hbase:B≤w0.heap.size)
  (h:∀ v' w',OwnX C e B S w' v' (es++[d])→Below B w0 w'→Kep (fun k=>v.ownBlock≠some k) w w'→(∃ g cap,v'=.slice (some ⟨g,0,none⟩) (es.length+1) cap)→K (a.put o.dst v') w'):o.wp P a w K Q:=by
 subst hw
 have hb0:Below w0.heap.size w0 (w0.alloc (.cells vs.toArray e)):=(Below.refl _ _).alloc (Nat.le_refl _) _
 obtain ⟨i,z,hi,hz,hsz,hbt,hzs⟩:=E.info
 obtain ⟨raw,g1,g2⟩:=hown
 have h1:=own_keep (B:=0) g1 hb0
 have hlo:∀ k,v.ownBlock=some k→B≤k:=fun k hk=>(World.ownsRow.lt h1 k hk).1
 have hl:=C.len hd
 refine wp_append_own _ s x T ho B e i z C.size bytes E.under hi hz hsz hbt hzs C.pos v es.length _ hs h1 ⟨w0.heap.size,0,none⟩ 1 1 vs hx (by rw [hl,Nat.one_mul]) (lit_cells w0 vs e) (C.one hd) hlen hby (by simp;omega) (fun v' w' h3 hg _ => ?_)
 have hb:Below B (w0.alloc (.cells vs.toArray e)) w':=(Below.refl B _).grown hg (by simp;omega) hlo
 have hko:Kep (fun k=>v.ownBlock≠some k) w0 w':=(kep_below _ hb0).trans (kep_grown hg fun k hk hne=>hne hk)
 have hm0:Mean C (fun b=>S b∧b<w0.heap.size) w0 (raw++[vs]) (es++[d]):=(g2.append (Mean.single hd)).keep (Kep.refl _ _) fun b hb hs=>⟨hs,hb⟩
 have hm:Mean C (fun b=>S b∧b<w0.heap.size) w' (raw++[vs]) (es++[d]):=hm0.keep (hko.mono' (T:=fun b=>S b∧b<w0.heap.size) fun b hb hs he=>apt_not_own g1 (hS b hb hs.1) he) fun b hb hs=>hs
 refine h v' w' ⟨raw++[vs],?_,hm.keep (Kep.refl _ _) fun b _ hs=>hs.1⟩ ((hb0.mono hbase).trans hb) (kep_grown hg fun k hk hne=>hne hk) ?_
 ·rw [List.length_append,List.flatten_append,List.flatten_singleton]
  exact h3
 ·rcases h3.2 with ⟨_,h0⟩ | ⟨g,cap,cur,hv,_⟩
  ·omega
  ·exact ⟨g,cap,hv⟩
end
end Go.Proofs.YtidhgicajlaafaaGreat.MM
