import Derived.Test.YtdijhifdjbnkfaaGreatZB3
import Derived.Test.YtdijhifdjbnkfaaGreatZB4
import Derived.Laws.AppendOwnNone
import Derived.Laws.MakeOwn
import Derived.Test.YtdijhifdjbnkfaaGreatZB5
import Derived.Test.YtdijhifdjbnkfaaGreatZB2
import Derived.Deep.QuietTactic
import Derived.BigQuiet
set_option linter.unusedVariables false
set_option linter.unusedSimpArgs false
namespace Go.Proofs.YtdijhifdjbnkfaaGreat.EV
open Go Go.RowKit Go.Proofs.YtdijhifdjbnkfaaGreat.MM Go.Proofs.YtdijhifdjbnkfaaGreat.EM
def fldC:Codec Fld:=cPair cStr cStr
def evC:Codec Ev:=cPair cInt (cRow fldC)
theorem fld_on {S:Nat→Prop} {w:World} {cs:List Value} {f:Fld}:fldC.on S w cs f↔cs=[.string ⟨f.1.toArray⟩,.string ⟨f.2.toArray⟩]:=by
 constructor
 ·rintro ⟨x,y,rfl,hx,hy⟩
  have hx:x=[.string ⟨f.1.toArray⟩]:=hx
  have hy:y=[.string ⟨f.2.toArray⟩]:=hy
  rw [hx,hy];rfl
 ·rintro rfl
  exact ⟨[_],[_],rfl,rfl,rfl⟩
theorem ev_on {S:Nat→Prop} {w:World} {cs:List Value} {e:Ev}:evC.on S w cs e↔∃ v,cs=[.int .i64 e.1,v]∧ROn fldC S w v e.2:=by
 constructor
 ·rintro ⟨x,y,rfl,hx,v,hy,hr⟩
  have hx:x=[.int .i64 e.1]:=hx
  exact ⟨v,by rw [hx,hy];rfl,hr⟩
 ·rintro ⟨v,rfl,hr⟩
  exact ⟨[_],[v],rfl,rfl,v,rfl,hr⟩
theorem fld_at {S:Nat→Prop} {w:World} {p:Option Addr} {n cap:Nat} {fs:List Fld} (h:ROn fldC S w (.slice p n cap) fs) {k:Nat} (hk:k<fs.length) :
  ∃ b off,p=some ⟨b,off,none⟩∧b<w.heap.size∧S b∧w.cell? ⟨b,off+k*2,none⟩=some (.string ⟨fs[k].1.toArray⟩)∧w.cell? ⟨b,off+k*2+1,none⟩=some (.string ⟨fs[k].2.toArray⟩):=by
 obtain ⟨b,off,vs,hp,hlt,hS,hon,hc⟩:=h.at_ hk
 rw [fld_on] at hon
 subst hon
 exact ⟨b,off,hp,hlt,hS,hc 0 _ rfl,hc 1 _ rfl⟩
theorem str_list (l:List UInt8):(⟨l.toArray⟩:ByteArray).data.toList=l:=by simp
theorem str_sz (l:List UInt8):(⟨l.toArray⟩:ByteArray).size=l.length:=by rw [Lib.size_eq]
theorem new_two (w:World) (x y:Value) (t:TypeId):(w.alloc (.cells #[x,y] t)).cell? ⟨w.heap.size,0,none⟩=some x∧(w.alloc (.cells #[x,y] t)).cell? ⟨w.heap.size,1,none⟩=some y:=by
 have h0:=lit_cells w [x,y] t 0 x rfl
 have h1:=lit_cells w [x,y] t 1 y rfl
 rw [add_at] at h0 h1
 exact ⟨h0,h1⟩
end Go.Proofs.YtdijhifdjbnkfaaGreat.EV
namespace Go.Proofs.YtdijhifdjbnkfaaGreat.MM
open Go Go.RowKit
section
variable {α : Type} {C : Codec α}
variable (C)
def OwnX (e:TypeId) (B:Nat) (S:Nat→Prop) (w:World) (v:Value) (es:List α):Prop:=∃ raw,w.ownsRow B e C.size v es.length raw.flatten∧Mean C S w raw es
def SrcX (S:Nat→Prop) (w:World) (v:Value) (ds:List α):Prop :=
 ∃ (p:Option Addr) (cap:Nat) (raw:List (List Value)),v=.slice p ds.length cap∧ds.length≤cap∧(p=none→cap=0)∧Mean C S w raw ds∧(ds=[]∨∃ b off,p=some ⟨b,off,none⟩∧∀ j u,raw.flatten[j]? = some u→w.cell? ⟨b,off+j,none⟩=some u)
variable {C}
theorem ROn.src {S:Nat→Prop} {w:World} {v:Value} {ds:List α} (h:ROn C S w v ds):SrcX C S w v ds:=by
 obtain ⟨p,cap,raw,hv,h1,h2,h3,hm,hc⟩:=h
 refine ⟨p,cap,raw,hv,h1,h3,hm,?_⟩
 rcases hc with hc | ⟨b,off,hp,_,_,hc⟩
 ·exact .inl hc
 ·exact .inr ⟨b,off,hp,hc⟩
theorem src_lit {S:Nat→Prop} {w:World} {vs:List Value} {d:α} (e:TypeId) (h:C.on S w vs d):SrcX C S (w.alloc (.cells vs.toArray e)) (.slice (some ⟨w.heap.size,0,none⟩) 1 1) [d]:=by
 refine ⟨_,1,[vs],rfl,Nat.le_refl _,(fun h=>by cases h),⟨rfl,fun i hi hi' => ?_⟩,.inr ⟨w.heap.size,0,rfl,fun j u hj => ?_⟩⟩
 ·obtain rfl:i=0:=(by simpa using hi)
  exact C.keep h (kep_alloc _ _ _) fun _ _ h=>h
 ·rw [List.flatten_singleton] at hj
  have:=lit_cells w vs e j u hj
  rw [add_at] at this
  exact this
theorem OwnX.nil_ (e:TypeId) (B:Nat) (S:Nat→Prop) (w:World):OwnX C e B S w (.slice none 0 0) []:=⟨[],World.ownsRow_nil _ _ _ _,Mean.nil_ _ _⟩
theorem OwnX.lit0 (e:TypeId) {B:Nat} (S:Nat→Prop) (w:World) (hB:B≤w.heap.size):OwnX C e B S (w.alloc (.cells #[] e)) (.slice (some ⟨w.heap.size,0,none⟩) 0 0) []:=by
 refine ⟨[],?_,Mean.nil_ _ _⟩
 have:=World.ownsRow_lit (e:=e) (base:=B) (size:=C.size) w #[] 0 hB (Nat.zero_le _) (by simp)
 simpa using this
theorem OwnX.cells {e:TypeId} {B:Nat} {S:Nat→Prop} {w:World} {v:Value} {es:List α} (h:OwnX C e B S w v es) {g:Nat} (hg:v.ownBlock=some g):B≤g∧g<w.heap.size∧∃ cur fr,w.heap[g]? = some (.cells cur e fr):=by
 obtain ⟨raw,h1,_⟩:=h
 exact ⟨(own_cells h1 hg).1,(World.ownsRow.lt h1 g hg).2,(own_cells h1 hg).2⟩
theorem OwnX.keep {e:TypeId} {B:Nat} {S T:Nat→Prop} {w w':World} {v:Value} {es:List α} (h:OwnX C e B S w v es) (hk:Kep T w w') (hS:∀ b,b<w.heap.size→S b→T b) (hg:∀ g,v.ownBlock=some g→T g):OwnX C e B S w' v es:=by
 obtain ⟨raw,h1,h2⟩:=h
 refine ⟨raw,own_row_kep h1 hk hg,h2.1,fun i hi hi' => ?_⟩
 exact C.keep (C.keep (h2.2 i hi hi') (Kep.refl _ _) (T:=fun b=>S b∧b<w.heap.size) fun b hb hs=>⟨hs,hb⟩) (hk.mono' (T:=fun b=>S b∧b<w.heap.size) fun b hb hs=>hS b hb hs.1) fun b hb hs=>hs.1
theorem OwnX.weak {e:TypeId} {B:Nat} {S T:Nat→Prop} {w:World} {v:Value} {es:List α} (h:OwnX C e B S w v es) (hT:∀ b,b<w.heap.size→S b→T b):OwnX C e B T w v es:=by
 obtain ⟨raw,h1,h2⟩:=h
 exact ⟨raw,h1,h2.keep (Kep.refl _ _) hT⟩
theorem OwnX.alloc {e:TypeId} {B:Nat} {S:Nat→Prop} {w:World} {v:Value} {es:List α} (h:OwnX C e B S w v es) (o:Obj):OwnX C e B S (w.alloc o) v es:=h.keep (kep_alloc (fun _=>True) w o) (fun _ _ _=>trivial) (fun _ _=>trivial)
theorem OwnX.ron {e:TypeId} {B:Nat} {S T:Nat→Prop} {w:World} {v:Value} {es:List α} (h:OwnX C e B S w v es) (h1:∀ g,v.ownBlock=some g→T g) (h2:∀ b,b<w.heap.size→S b→T b):ROn C T w v es:=by
 obtain ⟨raw,ho,hm⟩:=h
 rcases ho.2 with ⟨rfl,h0⟩ | ⟨g,cap,cur,rfl,hg,hh,hnc,hmx,hs,ht⟩
 ·have:es=[]:=List.eq_nil_of_length_eq_zero h0
  subst this
  exact ROn.nil_ _ _
 ·refine ⟨some ⟨g,0,none⟩,cap,raw,rfl,hnc,hmx,(fun h=>by cases h),hm.keep (Kep.refl _ _) h2,.inr ⟨g,0,rfl,(Array.getElem?_eq_some_iff.1 hh).1,h1 g rfl,fun j u hj => ?_⟩⟩
  have:=Lib.cells_of_row hh (es.length*C.size) j u (by rw [ht];exact hj)
  rw [add_at] at this
  exact this
theorem OwnX.any {e:TypeId} {B:Nat} {S:Nat→Prop} {w:World} {v:Value} {es:List α} (h:OwnX C e B S w v es):RAny C w v es:=h.ron (fun _ _=>trivial) (fun _ _ _=>trivial)
theorem wpList_append_x {P:Program} {T e:TypeId} {bytes:Nat} (E:Elem C P T e bytes) {S:Nat→Prop} {w:World} {ops:Array Oper} {rest:List Oper} {o:Oper} {a:Act} {Q:Exit→Act→World→Prop} (hgd:o.guard=none) (s x:Operand)
  (ho:o.op=.call { callee:=.builtin .append,args:=#[s,x],argTypes:=#[T,T] }) (B:Nat) (v:Value) (es:List α) (hs:a.eval s=v) (hown:OwnX C e B S w v es) (hS:∀ b,b<w.heap.size→S b→Apt e B w b)
  (src:Value) (ds:List α) (hx:a.eval x=src) (hr:SrcX C S w src ds) (hlen:es.length+ds.length≤maxLen) (hby:(es.length+ds.length)*bytes≤140737488355328) (hbase:B≤w.heap.size)
  (h:∀ v' w',OwnX C e B S w' v' (es++ds)→Below B w w'→Kep (fun k=>v.ownBlock≠some k) w w'→wpList P ops Q rest (a.put o.dst v') w'):wpList P ops Q (o::rest) a w:=by
 obtain ⟨p,cap,raw,rfl,h1,h3,hm,hc⟩:=hr
 obtain ⟨i,z,hi,hz,hsz,hbt,hzs⟩:=E.info
 cases p with
 | none =>
   have h0:=h3 rfl
   subst h0
   have hd:ds=[]:=List.eq_nil_of_length_eq_zero (by omega)
   subst hd
   obtain ⟨raw1,g1,g2⟩:=id hown
   refine wpList_append_own_none hgd s x T ho B e i C.size E.under hi v es.length _ hs g1 hx (h v w ?_ (Below.refl _ _) (Kep.refl _ _))
   rw [List.append_nil]
   exact hown
 | some ad =>
   refine wpList_plain hgd fun _ hK => ?_
   obtain ⟨raw1,g1,g2⟩:=hown
   have hlo:∀ k,v.ownBlock=some k→B≤k:=fun k hk=>(World.ownsRow.lt g1 k hk).1
   have hl:raw.flatten.length=ds.length*C.size:=by rw [flat_len hm.lens,hm.1]
   refine wp_append_own _ s x T ho B e i z C.size bytes E.under hi hz hsz hbt hzs C.pos v es.length _ hs g1 ad ds.length cap raw.flatten hx hl ?_ hm.ones hlen hby hbase (fun v' w' h4 hg _ => ?_)
   ·intro j u hj
    rcases hc with hc | ⟨b,off,he,hc⟩
    ·subst hc
     have:raw=[]:=List.eq_nil_of_length_eq_zero (by rw [hm.1];rfl)
     subst this
     simp at hj
    ·obtain rfl:ad=⟨b,off,none⟩:=Option.some.inj he
     rw [add_at]
     exact hc j u hj
   ·have hb:Below B w w':=(Below.refl B _).grown hg hbase hlo
    have hk:Kep (Apt e B w) w w':=kep_grown hg fun k hk hA=>apt_not_own g1 hA hk
    refine hK _ _ (h v' w' ⟨raw1++raw,?_,?_⟩ hb (kep_grown hg fun k hk hne=>hne hk))
    ·rw [List.length_append,List.flatten_append]
     exact h4
    ·have hm2:=g2.append hm
     refine ⟨hm2.1,fun i hi hi' => ?_⟩
     exact C.keep (C.keep (hm2.2 i hi hi') (Kep.refl _ _) (T:=fun b=>S b∧b<w.heap.size) fun b hb hs=>⟨hs,hb⟩) (hk.mono' (T:=fun b=>S b∧b<w.heap.size) fun b hb hs=>hS b hb hs.1) fun b hb hs=>hs.1
theorem wp_append_x1 {P:Program} {T e:TypeId} {bytes:Nat} (E:Elem C P T e bytes) {S:Nat→Prop} {w:World} {o:Oper} {a:Act} {K:Act→World→Prop} {Q:Exit→Act→World→Prop} (s x:Operand)
  (ho:o.op=.call { callee:=.builtin .append,args:=#[s,x],argTypes:=#[T,T] }) (B:Nat) (v:Value) (es:List α) (w0:World) (vs:List Value) (d:α) (hw:w=w0.alloc (.cells vs.toArray e)) (hs:a.eval s=v) (hown:OwnX C e B S w0 v es) (hS:∀ b,b<w0.heap.size→S b→Apt e B w0 b)
  (hd:C.on S w0 vs d) (hx:a.eval x=.slice (some ⟨w0.heap.size,0,none⟩) 1 1) (hlen:es.length+1≤maxLen) (hby:(es.length+1)*bytes≤140737488355328) (hbase:B≤w0.heap.size)
  (h:∀ v' w',OwnX C e B S w' v' (es++[d])→Below B w0 w'→Kep (fun k=>v.ownBlock≠some k) w w'→(∃ g cap,v'=.slice (some ⟨g,0,none⟩) (es.length+1) cap)→K (a.put o.dst v') w'):o.wp P a w K Q:=by
 subst hw
 have hb0:Below w0.heap.size w0 (w0.alloc (.cells vs.toArray e)):=(Below.refl _ _).alloc (Nat.le_refl _) _
 obtain ⟨i,z,hi,hz,hsz,hbt,hzs⟩:=E.info
 obtain ⟨raw,g1,g2⟩:=hown
 have h1:=own_keep (B:=0) g1 hb0
 have hlo:∀ k,v.ownBlock=some k→B≤k:=fun k hk=>(World.ownsRow.lt h1 k hk).1
 have hl:=C.len hd
 refine wp_append_own _ s x T ho B e i z C.size bytes E.under hi hz hsz hbt hzs C.pos v es.length _ hs h1 ⟨w0.heap.size,0,none⟩ 1 1 vs hx (by rw [hl,Nat.one_mul]) (lit_cells w0 vs e) (C.one hd) hlen hby (by simp;omega) (fun v' w' h3 hg _ => ?_)
 have hb:Below B (w0.alloc (.cells vs.toArray e)) w':=(Below.refl B _).grown hg (by simp;omega) hlo
 have hko:Kep (fun k=>v.ownBlock≠some k) w0 w':=(kep_below _ hb0).trans (kep_grown hg fun k hk hne=>hne hk)
 have hm0:Mean C (fun b=>S b∧b<w0.heap.size) w0 (raw++[vs]) (es++[d]):=(g2.append (Mean.single hd)).keep (Kep.refl _ _) fun b hb hs=>⟨hs,hb⟩
 have hm:Mean C (fun b=>S b∧b<w0.heap.size) w' (raw++[vs]) (es++[d]):=hm0.keep (hko.mono' (T:=fun b=>S b∧b<w0.heap.size) fun b hb hs he=>apt_not_own g1 (hS b hb hs.1) he) fun b hb hs=>hs
 refine h v' w' ⟨raw++[vs],?_,hm.keep (Kep.refl _ _) fun b _ hs=>hs.1⟩ ((hb0.mono hbase).trans hb) (kep_grown hg fun k hk hne=>hne hk) ?_
 ·rw [List.length_append,List.flatten_append,List.flatten_singleton]
  exact h3
 ·rcases h3.2 with ⟨_,h0⟩ | ⟨g,cap,cur,hv,_⟩
  ·omega
  ·exact ⟨g,cap,hv⟩
end
end Go.Proofs.YtdijhifdjbnkfaaGreat.MM
namespace Go.Proofs.YtdijhifdjbnkfaaGreat.EV
open Go Go.RowKit Go.Proofs.YtdijhifdjbnkfaaGreat.MM Go.Proofs.YtdijhifdjbnkfaaGreat.EM
abbrev Doc:=Int×Ev
def docC:Codec Doc:=cPair cInt evC
theorem doc_on {S:Nat→Prop} {w:World} {cs:List Value} {d:Doc}:docC.on S w cs d↔∃ v,cs=[.int .i64 d.1,.int .i64 d.2.1,v]∧ROn fldC S w v d.2.2:=by
 constructor
 ·rintro ⟨x,y,rfl,hx,hy⟩
  have hx:x=[.int .i64 d.1]:=hx
  obtain ⟨v,hv,hr⟩:=ev_on.1 hy
  exact ⟨v,by rw [hx,hv];rfl,hr⟩
 ·rintro ⟨v,rfl,hr⟩
  exact ⟨[_],[_,_],rfl,rfl,ev_on.2 ⟨v,rfl,hr⟩⟩
theorem fldE:Elem fldC Tryz.prog 55 123 32:=⟨Tryz.underlying55,by
 have h:(Tryz.prog.info? 123).map (fun i=>(i.zero,i.size,i.bytes))=some (some (.agg #[.string ⟨#[]⟩,.string ⟨#[]⟩]),2,32):=by kernel_rfl
 obtain ⟨i,h1,h2,h3,h4⟩:=info_parts h
 exact ⟨i,_,h1,h2,h3,h4,rfl⟩⟩
theorem fld_src {S S':Nat→Prop} {w:World} {v:Value} {fs:List Fld} (h:ROn fldC S w v fs):SrcX fldC S' w v fs:=by
 obtain ⟨p,cap,raw,hv,h1,h3,hm,hc⟩:=ROn.src h
 exact ⟨p,cap,raw,hv,h1,h3,⟨hm.1,fun i hi hi'=>fld_on.2 (fld_on.1 (hm.2 i hi hi'))⟩,hc⟩
theorem docE:Elem docC Tryz.prog 22 59 40:=⟨Tryz.underlying22,by
 have h:(Tryz.prog.info? 59).map (fun i=>(i.zero,i.size,i.bytes))=some (some (.agg #[.int .i64 0,.int .i64 0,.slice none 0 0]),3,40):=by kernel_rfl
 obtain ⟨i,h1,h2,h3,h4⟩:=info_parts h
 exact ⟨i,_,h1,h2,h3,h4,rfl⟩⟩
theorem doc_at {S:Nat→Prop} {w:World} {p:Option Addr} {n cap:Nat} {ds:List Doc} (h:ROn docC S w (.slice p n cap) ds) {k:Nat} (hk:k<ds.length) :
  ∃ b off v,p=some ⟨b,off,none⟩∧b<w.heap.size∧S b∧w.cell? ⟨b,off+k*3,none⟩=some (.int .i64 ds[k].1)∧w.cell? ⟨b,off+k*3+1,none⟩=some (.int .i64 ds[k].2.1)∧w.cell? ⟨b,off+k*3+2,none⟩=some v∧ROn fldC S w v ds[k].2.2:=by
 obtain ⟨b,off,vs,hp,hlt,hS,hon,hc⟩:=h.at_ hk
 rw [doc_on] at hon
 obtain ⟨v,rfl,hr⟩:=hon
 exact ⟨b,off,v,hp,hlt,hS,hc 0 _ rfl,hc 1 _ rfl,hc 2 _ rfl,hr⟩
end Go.Proofs.YtdijhifdjbnkfaaGreat.EV
namespace Go.Proofs.YtdijhifdjbnkfaaGreat.DT
open Go Go.RowKit Go.Proofs.YtdijhifdjbnkfaaGreat.MM Go.Proofs.YtdijhifdjbnkfaaGreat.DM
open Go.Proofs.YtdijhifdjbnkfaaGreat.EM (lessL)
def entC:Codec Ent:=cPair cStr (cPair cInt (cPair cInt cInt))
theorem ent_size:entC.size=4:=rfl
def entV (x:Ent):Value:=.agg #[.string ⟨x.1.toArray⟩,.int .i64 x.2.1,.int .i64 x.2.2.1,.int .i64 x.2.2.2]
theorem ent_on {S:Nat→Prop} {w:World} {cs:List Value} {x:Ent}:entC.on S w cs x↔cs=[.string ⟨x.1.toArray⟩,.int .i64 x.2.1,.int .i64 x.2.2.1,.int .i64 x.2.2.2]:=by
 constructor
 ·rintro ⟨a,b,rfl,ha,c,d,rfl,hc,e,f,rfl,he,hf⟩
  have ha:a=[.string ⟨x.1.toArray⟩]:=ha
  have hc:c=[.int .i64 x.2.1]:=hc
  have he:e=[.int .i64 x.2.2.1]:=he
  have hf:f=[.int .i64 x.2.2.2]:=hf
  rw [ha,hc,he,hf];rfl
 ·rintro rfl
  exact ⟨[_],[_,_,_],rfl,rfl,[_],[_,_],rfl,rfl,[_],[_],rfl,rfl,rfl⟩
theorem ent_at {S:Nat→Prop} {w:World} {p:Option Addr} {n cap:Nat} {l:List Ent} (h:ROn entC S w (.slice p n cap) l) {k:Nat} (hk:k<l.length) :
  ∃ b off,p=some ⟨b,off,none⟩∧b<w.heap.size∧S b∧w.cell? ⟨b,off+k*4,none⟩=some (.string ⟨l[k].1.toArray⟩)∧w.cell? ⟨b,off+k*4+1,none⟩=some (.int .i64 l[k].2.1) ∧
    w.cell? ⟨b,off+k*4+2,none⟩=some (.int .i64 l[k].2.2.1)∧w.cell? ⟨b,off+k*4+3,none⟩=some (.int .i64 l[k].2.2.2):=by
 obtain ⟨b,off,vs,hp,hlt,hS,hon,hc⟩:=h.at_ hk
 rw [ent_on] at hon
 subst hon
 exact ⟨b,off,hp,hlt,hS,hc 0 _ rfl,hc 1 _ rfl,hc 2 _ rfl,hc 3 _ rfl⟩
theorem str_list (l:List UInt8):(⟨l.toArray⟩:ByteArray).data.toList=l:=by simp
theorem str_sz (l:List UInt8):(⟨l.toArray⟩:ByteArray).size=l.length:=by rw [Lib.size_eq]
def nilX:Ent:=([],0,0,0)
def findD (l:List Ent) (t:List UInt8):Option Ent:=l.find? fun x=>decide (x.1=t)
def floorD (l:List Ent) (t:List UInt8):Nat:=(l.filter fun x=>lessL x.1 t).length
theorem floorD_le (l:List Ent) (t:List UInt8):floorD l t≤l.length:=List.length_filter_le _ _
end Go.Proofs.YtdijhifdjbnkfaaGreat.DT
namespace Go.Proofs.YtdijhifdjbnkfaaGreat.MM
open Go Go.RowKit
theorem text_index {s:ByteArray} {l:List UInt8} (hl:s.data.toList=l) {i:Nat} {c:UInt8} (hi:l[i]? = some c) (W:World):(Instr.index 9 (.string s) (.int .i64 (i:Int))).run Tryz.prog W=.ok (.int .u8 (c.toNat:Int)) W:=by
 obtain ⟨hlt,he⟩:=List.getElem?_eq_some_iff.1 hi
 have hsz:s.size=l.length:=by rw [Lib.size_eq,hl]
 rw [run_index_string W 9 s .i64 i Tryz.underlying9,dif_pos ⟨by omega,by omega⟩]
 subst hl
 have e:(s[(i:Int).toNat]'(by omega))=c:=by
  rw [← he]
  simp only [Int.toNat_natCast]
  rfl
 rw [e]
theorem text_size {s:ByteArray} {l:List UInt8} (hl:s.data.toList=l):s.size=l.length:=by rw [Lib.size_eq,hl]
theorem drewN_more {w wr:World} (h:∃ m,wr=w.drewN m) (n:Nat):∃ m,wr.drewN n=w.drewN m:=by
 obtain ⟨m,rfl⟩:=h
 exact ⟨m+n,World.drewN_drewN _ _ _⟩
theorem text_part (l:List UInt8) (a b:Nat):(⟨l.toArray⟩:ByteArray).extract a b=⟨((l.drop a).take (b - a)).toArray⟩:=by
 apply ByteArray.ext
 rw [ByteArray.data_extract]
 apply Array.toList_inj.1
 simp [List.extract_eq_take_drop]
end Go.Proofs.YtdijhifdjbnkfaaGreat.MM
namespace Go.Proofs.YtdijhifdjbnkfaaGreat.DT
open Go Go.RowKit Go.Proofs.YtdijhifdjbnkfaaGreat.MM Go.Proofs.YtdijhifdjbnkfaaGreat.DM
open Go.Proofs.YtdijhifdjbnkfaaGreat.EM (lessL less_bytes)
theorem alike_more {a b:List UInt8} {k:Nat} {x:UInt8} (h:∀ i,i<k→a[i]? = b[i]?) (hx:a[k]? = some x) (hy:b[k]? = some x):∀ i,i<k+1→a[i]? = b[i]? := fun i hi=>by
 by_cases e:i=k
 ·rw [e,hx,hy]
 ·exact h i (by omega)
end Go.Proofs.YtdijhifdjbnkfaaGreat.DT
namespace Go.Proofs.YtdijhifdjbnkfaaGreat.DT
open Go Go.RowKit Go.Proofs.YtdijhifdjbnkfaaGreat.MM Go.Proofs.YtdijhifdjbnkfaaGreat.DM
open Go.Proofs.YtdijhifdjbnkfaaGreat.EM (lessL less_bytes)
end Go.Proofs.YtdijhifdjbnkfaaGreat.DT
namespace Go.Proofs.YtdijhifdjbnkfaaGreat.DT
open Go Go.RowKit Go.Proofs.YtdijhifdjbnkfaaGreat.MM Go.Proofs.YtdijhifdjbnkfaaGreat.DM
set_option maxRecDepth 100000 in
set_option maxHeartbeats 2000000 in
theorem shared_any (a b:List UInt8) (w:World) (ha:a.length≤1000000000000) (hb:b.length≤1000000000000):Calls Tryz.prog 197 #[.string ⟨a.toArray⟩,.string ⟨b.toArray⟩] w fun e w'=>e=.returned (.int .i64 (sharedL a b:Int))∧∃ m,w'=w.drewN m:=by
 obtain ⟨s,hs⟩:∃ s:ByteArray,(⟨a.toArray⟩:ByteArray)=s:=⟨_,rfl⟩
 obtain ⟨t,ht⟩:∃ s:ByteArray,(⟨b.toArray⟩:ByteArray)=s:=⟨_,rfl⟩
 have hls:s.data.toList=a:=by rw [← hs]
 have hlt:t.data.toList=b:=by rw [← ht]
 rw [hs,ht]
 have HEND:=Lib.hid (fun k=>@sharedL_at a b k)
 obtain ⟨RES,hRES⟩:∃ RES,sharedL a b=RES:=⟨_,rfl⟩
 rw [hRES] at HEND ⊢
 have HS:=Lib.hid hls
 have HT:=Lib.hid hlt
 have HS1:=Lib.hid (text_size hls)
 have HT1:=Lib.hid (text_size hlt)
 clear hs ht hls hlt hRES
 go_enter Tryz.func197,Tryz.ntmps197
 go_wp2_with fail
 go_loopw [5] (fun iv wr=>∃ i:Nat,i≤a.length∧i≤b.length∧iv=.int .i64 i∧Hid (∀ j,j<i→a[j]? = b[j]?)∧Hid (∃ m,wr=w.drewN m)) (fun iv _=>a.length - (intOf iv).toNat)
 case atStart=>exact ⟨0,by omega,by omega,rfl,Lib.hid (fun j h=>by omega),Lib.hid ⟨0,rfl⟩⟩
 case round =>
  obtain ⟨i,hia,hib,rfl,HI,HB⟩:=hrel
  have e1:=HS1.out
  have e2:=HT1.out
  obtain ⟨M,hM⟩:∃ M,min s.size t.size=M:=⟨_,rfl⟩
  have m1:min (s.size:Int) (t.size:Int)=(M:Int):=by omega
  have m2:(if t.size<s.size then (t.size:Int) else (s.size:Int))=(M:Int):=by split<;>omega
  by_cases h0:i<M
  ·have h1:i<a.length:=by omega
   have h2:i<b.length:=by omega
   have q1:decide ((i:Int)<(M:Int))=true:=by rw [decide_eq_true_eq];omega
   have q2:decide (i<M)=true:=by rw [decide_eq_true_eq];omega
   have q5:i<s.size:=by omega
   have q6:i<t.size:=by omega
   obtain ⟨x8,hx8⟩:∃ c,a[i]? = some c:=⟨a[i],List.getElem?_eq_getElem h1⟩
   obtain ⟨y8,hy8⟩:∃ c,b[i]? = some c:=⟨b[i],List.getElem?_eq_getElem h2⟩
   have hix:=text_index HS.out hx8
   have hiy:=text_index HT.out hy8
   by_cases hxy:x8=y8
   ·subst hxy
    have HN:=Lib.hid (alike_more HI.out hx8 hy8)
    have HH:=Lib.hid (And.intro h1 h2)
    generalize x8.toNat=x at *
    clear HI e1 e2 h1 h2 hx8 hy8 hM h0
    go_wp2_with fail
    go_quiet (fail)
    go_wp2_with fail
    have hh:=HH.out
    go_roundw
    case rel=>exact ⟨i+1,by omega,by omega,by go_num,HN,Lib.hid (drewN_more HB.out _)⟩
    case measure=>simp [intOf];omega
   ·have he:=HEND.out i hia hib HI.out (fun _ _ e=>hxy (by rw [hx8,hy8] at e;exact Option.some.inj e))
    have q7:((x8.toNat:Int) == (y8.toNat:Int))=false:=by rw [beq_eq_false_iff_ne];exact fun e=>hxy (UInt8.toNat_inj.1 (by omega))
    subst he
    generalize x8.toNat=x at *
    generalize y8.toNat=y at *
    clear HI e1 e2 h1 h2 hxy hx8 hy8 hM h0
    go_wp2_with fail
    go_quiet (fail)
    go_wp2_with fail
    go_ret
    exact ⟨rfl,drewN_more HB.out _⟩
  ·have q1:decide ((i:Int)<(M:Int))=false:=by rw [decide_eq_false_iff_not];omega
   have q2:decide (i<M)=false:=by rw [decide_eq_false_iff_not];omega
   have he:=HEND.out i hia hib HI.out (fun h h'=>absurd h0 (by omega))
   subst he
   clear HI e1 e2 h0 hM
   go_wp2_with fail
   go_quiet (fail)
   go_wp2_with fail
   go_ret
   exact ⟨rfl,drewN_more HB.out _⟩
end Go.Proofs.YtdijhifdjbnkfaaGreat.DT
namespace Go.Proofs.YtdijhifdjbnkfaaGreat.SM
open Go Go.Proofs.YtdijhifdjbnkfaaGreat.VM
open Go.Proofs.YtdijhifdjbnkfaaGreat.EM (Fld Ev checkE FitE bytesE bytesE_len getE getE_put getE_back ok_lens sizeF sizeF_of_ok checkE_ok)
def blkS:Int→List Doc→List UInt8
 | _,[]=>[]
 | a,d::r=>(bytesL (d.1 - a - 1).toNat++bytesE d.2)++blkS d.1 r
def endA:Int→List Doc→Int
 | a,[]=>a
 | _,d::r=>endA d.1 r
theorem endA_snoc:∀ (a:Int) (c:List Doc) (d:Doc),endA a (c++[d])=d.1
 | _,[],_=>rfl
 | _,x::r,d=>endA_snoc x.1 r d
theorem blkS_snoc:∀ (a:Int) (c:List Doc) (d:Doc),blkS a (c++[d])=blkS a c++(bytesL (d.1 - endA a c - 1).toNat++bytesE d.2)
 | a,[],d=>by simp [blkS,endA]
 | a,x::r,d=>by
   rw [List.cons_append,blkS,blkS_snoc x.1 r d,blkS,endA,List.append_assoc (bytesL (x.1 - a - 1).toNat++bytesE x.2)]
theorem blkS_next (a:Int) {c:List Doc} {i:Nat} (h:i<c.length):blkS a (c.take (i+1))=blkS a (c.take i)++(bytesL (c[i].1 - endA a (c.take i) - 1).toNat++bytesE c[i].2):=by
 rw [List.take_succ_eq_append_getElem h,blkS_snoc]
theorem endA_next (a:Int) {c:List Doc} {i:Nat} (h:i<c.length):endA a (c.take (i+1))=c[i].1:=by
 rw [List.take_succ_eq_append_getElem h,endA_snoc]
theorem isR_app:∀ (a:Int) (c d:List Doc),isR a (c++d)=(isR a c&&isR (endA a c) d)
 | _,[],_=>by simp [isR,endA]
 | a,x::r,d=>by rw [List.cons_append,isR,isR_app x.1 r d,isR,endA,Bool.and_assoc]
theorem isR_take {a:Int} {c:List Doc} (h:isR a c=true) (i:Nat):isR a (c.take i)=true:=by
 have:=isR_app a (c.take i) (c.drop i)
 rw [List.take_append_drop,h] at this
 exact (Bool.and_eq_true _ _▸this.symm).1
theorem isR_drop {a:Int} {c:List Doc} (h:isR a c=true) (i:Nat):isR (endA a (c.take i)) (c.drop i)=true:=by
 have:=isR_app a (c.take i) (c.drop i)
 rw [List.take_append_drop,h] at this
 exact (Bool.and_eq_true _ _▸this.symm).2
theorem isR_ok {a:Int} {c:List Doc} (h:isR a c=true) {i:Nat} (hi:i<c.length):endA a (c.take i)<c[i].1∧c[i].1≤1099511627776∧checkE c[i].2=0:=by
 have:=isR_drop h i
 rw [isR_step hi,Bool.and_eq_true] at this
 exact okS_iff.1 this.1
theorem endA_ge:∀ {a:Int} {c:List Doc},isR a c=true→a≤endA a c
 | _,[],_=>Int.le_refl _
 | a,x::r,h=>by
   rw [isR,Bool.and_eq_true] at h
   have h1:=(okS_iff.1 h.1).1
   have h2:=endA_ge h.2
   rw [endA]
   omega
theorem endA_le:∀ {a:Int} {c:List Doc},isR a c=true→a≤1099511627776→endA a c≤1099511627776
 | _,[],_,h=>h
 | a,x::r,h,_=>by
   rw [isR,Bool.and_eq_true] at h
   rw [endA]
   exact endA_le h.2 (okS_iff.1 h.1).2.1
theorem oneD_len {x:Doc} (n:Nat) (h:checkE x.2=0):(bytesL n++bytesE x.2).length≤67000:=by
 obtain ⟨h4,h5⟩:=checkE_ok.1 h
 have b1:=bytesL_length n
 have b2:=bytesE_len x.2
 have b3:=sizeF_of_ok h5
 rw [List.length_append]
 omega
theorem blkS_len:∀ {a:Int} {c:List Doc},isR a c=true→(blkS a c).length≤67000*c.length
 | _,[],_=>by simp [blkS]
 | a,x::r,h=>by
   rw [isR,Bool.and_eq_true] at h
   have h1:=oneD_len (x:=x) (x.1 - a - 1).toNat (okS_iff.1 h.1).2.2
   have h2:=blkS_len h.2
   rw [blkS,List.length_append,List.length_cons]
   omega
def chunkS (l:List Doc) (k:Nat):List Doc:=(l.drop (16*k)).take 16
theorem chunkS_size (l:List Doc) (k:Nat):(chunkS l k).length≤16:=by unfold chunkS;rw [List.length_take];omega
theorem endA_last (l:List Doc):∀ {i:Nat},i≤l.length→endA 0 (l.take i)=lastS l i
 | 0,_=>rfl
 | i+1,h=>by rw [endA_next 0 (by omega),lastS_next (by omega)]
theorem take_drop_end (l:List Doc) (i m:Nat):endA (endA 0 (l.take i)) ((l.drop i).take m)=endA 0 (l.take (i+m)):=by
 have e:∀ (a:Int) (c d:List Doc),endA a (c++d)=endA (endA a c) d:=fun a c=>by
  induction c generalizing a with
  | nil=>intro d;rfl
  | cons x r ih=>intro d;exact ih x.1 d
 rw [← e,List.take_add]
theorem blk_range {l:List Doc} (i:Nat):∀ {m:Nat},i+m≤l.length→blkS (lastS l i) ((l.drop i).take m)=rangeB l i (i+m)
 | 0,_=>by rw [List.take_zero,blkS,Nat.add_zero,rangeB_self]
 | m+1,h=>by
   have hm:m<(l.drop i).length:=by rw [List.length_drop];omega
   rw [blkS_next _ hm,blk_range i (by omega),show i+(m+1)=(i+m)+1 by omega,rangeB_next (by omega),oneB_at (by omega),← endA_last l (by omega),take_drop_end,endA_last l (by omega),List.getElem_drop]
theorem chunk_take {l:List Doc} {k:Nat} (h:16*k≤l.length):chunkS l k=(l.drop (16*k)).take (endS l k - 16*k):=by
 unfold chunkS endS
 by_cases h2:16*k+16≤l.length
 ·rw [Nat.min_eq_left h2,show 16*k+16 - 16*k=16 by omega]
 ·rw [Nat.min_eq_right (by omega),List.take_of_length_le (by rw [List.length_drop];omega),List.take_of_length_le (by rw [List.length_drop];exact Nat.le_refl _)]
theorem chunk_len {l:List Doc} {k:Nat} (h:16*k≤l.length):(chunkS l k).length=endS l k - 16*k:=by
 rw [chunk_take h,List.length_take,List.length_drop]
 unfold endS
 omega
theorem chunk_bytes {l:List Doc} {k:Nat} (h:16*k≤l.length):blkS (lastS l (16*k)) (chunkS l k)=rangeB l (16*k) (endS l k):=by
 have h1:16*k≤endS l k:=by unfold endS;omega
 have h2:endS l k≤l.length:=by unfold endS;omega
 rw [chunk_take h,blk_range _ (by omega),show 16*k+(endS l k - 16*k)=endS l k by omega]
theorem chunk_end {l:List Doc} {k:Nat} (h:16*k≤l.length):endA (lastS l (16*k)) (chunkS l k)=lastS l (endS l k):=by
 have h1:16*k≤endS l k:=by unfold endS;omega
 have h2:endS l k≤l.length:=by unfold endS;omega
 rw [chunk_take h,← endA_last l h,take_drop_end,show 16*k+(endS l k - 16*k)=endS l k by omega,endA_last l h2]
theorem chunk_ok {l:List Doc} (h:isR 0 l=true) {k:Nat} (hk:16*k≤l.length):isR (lastS l (16*k)) (chunkS l k)=true:=by
 have:=isR_take (isR_drop h (16*k)) 16
 rw [endA_last l hk] at this
 exact this
theorem chunk_fit {l:List Doc} (h:FitS l) (k:Nat):FitS (chunkS l k):=fun d hd=>h d (List.mem_of_mem_drop (List.mem_of_mem_take hd))
end Go.Proofs.YtdijhifdjbnkfaaGreat.SM
