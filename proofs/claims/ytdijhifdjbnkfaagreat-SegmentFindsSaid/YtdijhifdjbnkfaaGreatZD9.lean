import Derived.Test.YtdijhifdjbnkfaaGreatZD4
import Derived.Test.YtdijhifdjbnkfaaGreatZD8
set_option maxRecDepth 100000
set_option maxHeartbeats 8000000
set_option linter.unusedVariables false
set_option linter.unusedSimpArgs false
namespace Go.Proofs.YtdijhifdjbnkfaaGreat.EV
open Go Go.RowKit MM EM
def fldC:Codec Fld:=Zek cStr cStr
def evC:Codec Ev:=Zek cInt (cRow fldC)
theorem Zi8 {S:Nat→Prop} {w:World} {cs:List Value} {f:Fld}:fldC.on S w cs f↔cs=[.string ⟨f.1.toArray⟩,.string ⟨f.2.toArray⟩]:=by
 constructor
 ·rintro ⟨x,y,rfl,hx,hy⟩
  have hx:x=[.string ⟨f.1.toArray⟩]:=hx
  have hy:y=[.string ⟨f.2.toArray⟩]:=hy
  rw [hx,hy];rfl
 ·rintro rfl
  exact ⟨[_],[_],rfl,rfl,rfl⟩
theorem ZhY {S:Nat→Prop} {w:World} {cs:List Value} {e:Ev}:evC.on S w cs e↔∃ v,cs=[.int .i64 e.1,v]∧ROn fldC S w v e.2:=by
 constructor
 ·rintro ⟨x,y,rfl,hx,v,hy,hr⟩
  have hx:x=[.int .i64 e.1]:=hx
  exact ⟨v,by rw [hx,hy];rfl,hr⟩
 ·rintro ⟨v,rfl,hr⟩
  exact ⟨[_],[v],rfl,rfl,v,rfl,hr⟩
theorem Zi7 {S:Nat→Prop} {w:World} {p:Option Addr} {n cap:Nat} {fs:List Fld} (h:ROn fldC S w (.slice p n cap) fs) {k:Nat} (hk:k<fs.length) :
  ∃ b off,p=some ⟨b,off,none⟩∧b<w.heap.size∧S b∧w.cell? ⟨b,off+k*2,none⟩=some (.string ⟨fs[k].1.toArray⟩)∧w.cell? ⟨b,off+k*2+1,none⟩=some (.string ⟨fs[k].2.toArray⟩):=by
 obtain ⟨b,off,vs,hp,hlt,hS,hon,hc⟩:=h.at_ hk
 rw [Zi8] at hon
 subst hon
 exact ⟨b,off,hp,hlt,hS,hc 0 _ rfl,hc 1 _ rfl⟩
theorem ZwD (l:List UInt8):(⟨l.toArray⟩:ByteArray).data.toList=l:=by simp
theorem ZwF (l:List UInt8):(⟨l.toArray⟩:ByteArray).size=l.length:=by rw [Lib.size_eq]
theorem ZoE (w:World) (x y:Value) (t:TypeId):(w.alloc (.cells #[x,y] t)).cell? ⟨w.heap.size,0,none⟩=some x∧(w.alloc (.cells #[x,y] t)).cell? ⟨w.heap.size,1,none⟩=some y:=by
 have h0:=Znz w [x,y] t 0 x rfl
 have h1:=Znz w [x,y] t 1 y rfl
 rw [Zb5] at h0 h1
 exact ⟨h0,h1⟩
end Go.Proofs.YtdijhifdjbnkfaaGreat.EV
namespace Go.Proofs.YtdijhifdjbnkfaaGreat.MM
open Go Go.RowKit
section
variable {α : Type} {C : Codec α}
variable (C)
def OwnX (e:TypeId) (B:Nat) (S:Nat→Prop) (w:World) (v:Value) (es:List α):Prop:=∃ raw,w.ownsRow B e C.size v es.length raw.flatten∧Mean C S w raw es
def SrcX (S:Nat→Prop) (w:World) (v:Value) (ds:List α):Prop :=
 ∃ (p:Option Addr) (cap:Nat) (raw:List (List Value)),v=.slice p ds.length cap∧ds.length≤cap∧(p=none→cap=0)∧Mean C S w raw ds∧(ds=[]∨∃ b off,p=some ⟨b,off,none⟩∧∀ j u,raw.flatten[j]? = some u→w.cell? ⟨b,off+j,none⟩=some u)
variable {C}
theorem ROn.src {S:Nat→Prop} {w:World} {v:Value} {ds:List α} (h:ROn C S w v ds):SrcX C S w v ds:=by
 obtain ⟨p,cap,raw,hv,h1,h2,h3,hm,hc⟩:=h
 refine ⟨p,cap,raw,hv,h1,h3,hm,?_⟩
 rcases hc with hc | ⟨b,off,hp,_,_,hc⟩
 ·exact .inl hc
 ·exact .inr ⟨b,off,hp,hc⟩
theorem Zwe {S:Nat→Prop} {w:World} {vs:List Value} {d:α} (e:TypeId) (h:C.on S w vs d):SrcX C S (w.alloc (.cells vs.toArray e)) (.slice (some ⟨w.heap.size,0,none⟩) 1 1) [d]:=by
 refine ⟨_,1,[vs],rfl,Nat.le_refl _,(fun h=>by cases h),⟨rfl,fun i hi hi' => ?_⟩,.inr ⟨w.heap.size,0,rfl,fun j u hj => ?_⟩⟩
 ·obtain rfl:i=0:=(by simpa using hi)
  exact C.keep h (ZmS _ _ _) fun _ _ h=>h
 ·rw [List.flatten_singleton] at hj
  have:=Znz w vs e j u hj
  rw [Zb5] at this
  exact this
theorem OwnX.nil_ (e:TypeId) (B:Nat) (S:Nat→Prop) (w:World):OwnX C e B S w (.slice none 0 0) []:=⟨[],World.ownsRow_nil _ _ _ _,Mean.nil_ _ _⟩
theorem OwnX.lit0 (e:TypeId) {B:Nat} (S:Nat→Prop) (w:World) (hB:B≤w.heap.size):OwnX C e B S (w.alloc (.cells #[] e)) (.slice (some ⟨w.heap.size,0,none⟩) 0 0) []:=by
 refine ⟨[],?_,Mean.nil_ _ _⟩
 have:=World.ownsRow_lit (e:=e) (base:=B) (size:=C.size) w #[] 0 hB (Nat.zero_le _) (by simp)
 simpa using this
theorem OwnX.cells {e:TypeId} {B:Nat} {S:Nat→Prop} {w:World} {v:Value} {es:List α} (h:OwnX C e B S w v es) {g:Nat} (hg:v.ownBlock=some g):B≤g∧g<w.heap.size∧∃ cur fr,w.heap[g]? = some (.cells cur e fr):=by
 obtain ⟨raw,h1,_⟩:=h
 exact ⟨(Zp8 h1 hg).1,(World.ownsRow.lt h1 g hg).2,(Zp8 h1 hg).2⟩
theorem OwnX.keep {e:TypeId} {B:Nat} {S T:Nat→Prop} {w w':World} {v:Value} {es:List α} (h:OwnX C e B S w v es) (hk:Kep T w w') (hS:∀ b,b<w.heap.size→S b→T b) (hg:∀ g,v.ownBlock=some g→T g):OwnX C e B S w' v es:=by
 obtain ⟨raw,h1,h2⟩:=h
 refine ⟨raw,Zqo h1 hk hg,h2.1,fun i hi hi' => ?_⟩
 exact C.keep (C.keep (h2.2 i hi hi') (Kep.refl _ _) (T:=fun b=>S b∧b<w.heap.size) fun b hb hs=>⟨hs,hb⟩) (hk.mono' (T:=fun b=>S b∧b<w.heap.size) fun b hb hs=>hS b hb hs.1) fun b hb hs=>hs.1
theorem OwnX.weak {e:TypeId} {B:Nat} {S T:Nat→Prop} {w:World} {v:Value} {es:List α} (h:OwnX C e B S w v es) (hT:∀ b,b<w.heap.size→S b→T b):OwnX C e B T w v es:=by
 obtain ⟨raw,h1,h2⟩:=h
 exact ⟨raw,h1,h2.keep (Kep.refl _ _) hT⟩
theorem OwnX.alloc {e:TypeId} {B:Nat} {S:Nat→Prop} {w:World} {v:Value} {es:List α} (h:OwnX C e B S w v es) (o:Obj):OwnX C e B S (w.alloc o) v es:=h.keep (ZmS (fun _=>True) w o) (fun _ _ _=>trivial) (fun _ _=>trivial)
theorem OwnX.ron {e:TypeId} {B:Nat} {S T:Nat→Prop} {w:World} {v:Value} {es:List α} (h:OwnX C e B S w v es) (h1:∀ g,v.ownBlock=some g→T g) (h2:∀ b,b<w.heap.size→S b→T b):ROn C T w v es:=by
 obtain ⟨raw,ho,hm⟩:=h
 rcases ho.2 with ⟨rfl,h0⟩ | ⟨g,cap,cur,rfl,hg,hh,hnc,hmx,hs,ht⟩
 ·have:es=[]:=List.eq_nil_of_length_eq_zero h0
  subst this
  exact ROn.nil_ _ _
 ·refine ⟨some ⟨g,0,none⟩,cap,raw,rfl,hnc,hmx,(fun h=>by cases h),hm.keep (Kep.refl _ _) h2,.inr ⟨g,0,rfl,(Array.getElem?_eq_some_iff.1 hh).1,h1 g rfl,fun j u hj => ?_⟩⟩
  have:=Lib.cells_of_row hh (es.length*C.size) j u (by rw [ht];exact hj)
  rw [Zb5] at this
  exact this
theorem OwnX.any {e:TypeId} {B:Nat} {S:Nat→Prop} {w:World} {v:Value} {es:List α} (h:OwnX C e B S w v es):RAny C w v es:=h.ron (fun _ _=>trivial) (fun _ _ _=>trivial)
theorem Zzv {P:Program} {T e:TypeId} {bytes:Nat} (E:Elem C P T e bytes) {S:Nat→Prop} {w:World} {ops:Array Oper} {rest:List Oper} {o:Oper} {a:Act} {Q:Exit→Act→World→Prop} (hgd:o.guard=none) (s x:Operand)
  (ho:o.op=.call { callee:=.builtin .append,args:=#[s,x],argTypes:=#[T,T] }) (B:Nat) (v:Value) (es:List α) (hs:a.eval s=v) (hown:OwnX C e B S w v es) (hS:∀ b,b<w.heap.size→S b→Apt e B w b)
  (src:Value) (ds:List α) (hx:a.eval x=src) (hr:SrcX C S w src ds) (hlen:es.length+ds.length≤maxLen) (hby:(es.length+ds.length)*bytes≤140737488355328) (hbase:B≤w.heap.size)
  (h:∀ v' w',OwnX C e B S w' v' (es++ds)→Below B w w'→Kep (fun k=>v.ownBlock≠some k) w w'→wpList P ops Q rest (a.put o.dst v') w'):wpList P ops Q (o::rest) a w:=by
 obtain ⟨p,cap,raw,rfl,h1,h3,hm,hc⟩:=hr
 obtain ⟨i,z,hi,hz,hsz,hbt,hzs⟩:=E.info
 cases p with
 | none =>
   have h0:=h3 rfl
   subst h0
   have hd:ds=[]:=List.eq_nil_of_length_eq_zero (by omega)
   subst hd
   obtain ⟨raw1,g1,g2⟩:=id hown
   refine wpList_append_own_none hgd s x T ho B e i C.size E.under hi v es.length _ hs g1 hx (h v w ?_ (Below.refl _ _) (Kep.refl _ _))
   rw [List.append_nil]
   exact hown
 | some ad =>
   refine wpList_plain hgd fun _ hK => ?_
   obtain ⟨raw1,g1,g2⟩:=hown
   have hlo:∀ k,v.ownBlock=some k→B≤k:=fun k hk=>(World.ownsRow.lt g1 k hk).1
   have hl:raw.flatten.length=ds.length*C.size:=by rw [Zi0 hm.lens,hm.1]
   refine wp_append_own _ s x T ho B e i z C.size bytes E.under hi hz hsz hbt hzs C.pos v es.length _ hs g1 ad ds.length cap raw.flatten hx hl ?_ hm.ones hlen hby hbase (fun v' w' h4 hg _ => ?_)
   ·intro j u hj
    rcases hc with hc | ⟨b,off,he,hc⟩
    ·subst hc
     have:raw=[]:=List.eq_nil_of_length_eq_zero (by rw [hm.1];rfl)
     subst this
     simp at hj
    ·obtain rfl:ad=⟨b,off,none⟩:=Option.some.inj he
     rw [Zb5]
     exact hc j u hj
   ·have hb:Below B w w':=(Below.refl B _).grown hg hbase hlo
    have hk:Kep (Apt e B w) w w':=ZmW hg fun k hk hA=>Zcs g1 hA hk
    refine hK _ _ (h v' w' ⟨raw1++raw,?_,?_⟩ hb (ZmW hg fun k hk hne=>hne hk))
    ·rw [List.length_append,List.flatten_append]
     exact h4
    ·have hm2:=g2.append hm
     refine ⟨hm2.1,fun i hi hi' => ?_⟩
     exact C.keep (C.keep (hm2.2 i hi hi') (Kep.refl _ _) (T:=fun b=>S b∧b<w.heap.size) fun b hb hs=>⟨hs,hb⟩) (hk.mono' (T:=fun b=>S b∧b<w.heap.size) fun b hb hs=>hS b hb hs.1) fun b hb hs=>hs.1
theorem ZzB {P:Program} {T e:TypeId} {bytes:Nat} (E:Elem C P T e bytes) {S:Nat→Prop} {w:World} {o:Oper} {a:Act} {K:Act→World→Prop} {Q:Exit→Act→World→Prop} (s x:Operand)
  (ho:o.op=.call { callee:=.builtin .append,args:=#[s,x],argTypes:=#[T,T] }) (B:Nat) (v:Value) (es:List α) (w0:World) (vs:List Value) (d:α) (hw:w=w0.alloc (.cells vs.toArray e)) (hs:a.eval s=v) (hown:OwnX C e B S w0 v es) (hS:∀ b,b<w0.heap.size→S b→Apt e B w0 b)
  (hd:C.on S w0 vs d) (hx:a.eval x=.slice (some ⟨w0.heap.size,0,none⟩) 1 1) (hlen:es.length+1≤maxLen) (hby:(es.length+1)*bytes≤140737488355328) (hbase:B≤w0.heap.size)
  (h:∀ v' w',OwnX C e B S w' v' (es++[d])→Below B w0 w'→Kep (fun k=>v.ownBlock≠some k) w w'→(∃ g cap,v'=.slice (some ⟨g,0,none⟩) (es.length+1) cap)→K (a.put o.dst v') w'):o.wp P a w K Q:=by
 subst hw
 have hb0:Below w0.heap.size w0 (w0.alloc (.cells vs.toArray e)):=(Below.refl _ _).alloc (Nat.le_refl _) _
 obtain ⟨i,z,hi,hz,hsz,hbt,hzs⟩:=E.info
 obtain ⟨raw,g1,g2⟩:=hown
 have h1:=Zqe (B:=0) g1 hb0
 have hlo:∀ k,v.ownBlock=some k→B≤k:=fun k hk=>(World.ownsRow.lt h1 k hk).1
 have hl:=C.len hd
 refine wp_append_own _ s x T ho B e i z C.size bytes E.under hi hz hsz hbt hzs C.pos v es.length _ hs h1 ⟨w0.heap.size,0,none⟩ 1 1 vs hx (by rw [hl,Nat.one_mul]) (Znz w0 vs e) (C.one hd) hlen hby (by simp;omega) (fun v' w' h3 hg _ => ?_)
 have hb:Below B (w0.alloc (.cells vs.toArray e)) w':=(Below.refl B _).grown hg (by simp;omega) hlo
 have hko:Kep (fun k=>v.ownBlock≠some k) w0 w':=(ZmT _ hb0).trans (ZmW hg fun k hk hne=>hne hk)
 have hm0:Mean C (fun b=>S b∧b<w0.heap.size) w0 (raw++[vs]) (es++[d]):=(g2.append (Mean.single hd)).keep (Kep.refl _ _) fun b hb hs=>⟨hs,hb⟩
 have hm:Mean C (fun b=>S b∧b<w0.heap.size) w' (raw++[vs]) (es++[d]):=hm0.keep (hko.mono' (T:=fun b=>S b∧b<w0.heap.size) fun b hb hs he=>Zcs g1 (hS b hb hs.1) he) fun b hb hs=>hs
 refine h v' w' ⟨raw++[vs],?_,hm.keep (Kep.refl _ _) fun b _ hs=>hs.1⟩ ((hb0.mono hbase).trans hb) (ZmW hg fun k hk hne=>hne hk) ?_
 ·rw [List.length_append,List.flatten_append,List.flatten_singleton]
  exact h3
 ·rcases h3.2 with ⟨_,h0⟩ | ⟨g,cap,cur,hv,_⟩
  ·omega
  ·exact ⟨g,cap,hv⟩
end
end Go.Proofs.YtdijhifdjbnkfaaGreat.MM
namespace Go.Proofs.YtdijhifdjbnkfaaGreat.EV
open Go Go.RowKit MM EM
abbrev Doc:=Int×Ev
def docC:Codec Doc:=Zek cInt evC
theorem Zgo {S:Nat→Prop} {w:World} {cs:List Value} {d:Doc}:docC.on S w cs d↔∃ v,cs=[.int .i64 d.1,.int .i64 d.2.1,v]∧ROn fldC S w v d.2.2:=by
 constructor
 ·rintro ⟨x,y,rfl,hx,hy⟩
  have hx:x=[.int .i64 d.1]:=hx
  obtain ⟨v,hv,hr⟩:=ZhY.1 hy
  exact ⟨v,by rw [hx,hv];rfl,hr⟩
 ·rintro ⟨v,rfl,hr⟩
  exact ⟨[_],[_,_],rfl,rfl,ZhY.2 ⟨v,rfl,hr⟩⟩
theorem fldE:Elem fldC Tryz.prog 55 123 32:=⟨Tryz.underlying55,by
 have h:(Tryz.prog.info? 123).map (fun i=>(i.zero,i.size,i.bytes))=some (some (.agg #[.string ⟨#[]⟩,.string ⟨#[]⟩]),2,32):=by kernel_rfl
 obtain ⟨i,h1,h2,h3,h4⟩:=info_parts h
 exact ⟨i,_,h1,h2,h3,h4,rfl⟩⟩
theorem docE:Elem docC Tryz.prog 22 59 40:=⟨Tryz.underlying22,by
 have h:(Tryz.prog.info? 59).map (fun i=>(i.zero,i.size,i.bytes))=some (some (.agg #[.int .i64 0,.int .i64 0,.slice none 0 0]),3,40):=by kernel_rfl
 obtain ⟨i,h1,h2,h3,h4⟩:=info_parts h
 exact ⟨i,_,h1,h2,h3,h4,rfl⟩⟩
theorem Zgn {S:Nat→Prop} {w:World} {p:Option Addr} {n cap:Nat} {ds:List Doc} (h:ROn docC S w (.slice p n cap) ds) {k:Nat} (hk:k<ds.length) :
  ∃ b off v,p=some ⟨b,off,none⟩∧b<w.heap.size∧S b∧w.cell? ⟨b,off+k*3,none⟩=some (.int .i64 ds[k].1)∧w.cell? ⟨b,off+k*3+1,none⟩=some (.int .i64 ds[k].2.1)∧w.cell? ⟨b,off+k*3+2,none⟩=some v∧ROn fldC S w v ds[k].2.2:=by
 obtain ⟨b,off,vs,hp,hlt,hS,hon,hc⟩:=h.at_ hk
 rw [Zgo] at hon
 obtain ⟨v,rfl,hr⟩:=hon
 exact ⟨b,off,v,hp,hlt,hS,hc 0 _ rfl,hc 1 _ rfl,hc 2 _ rfl,hr⟩
end Go.Proofs.YtdijhifdjbnkfaaGreat.EV
namespace Go.Proofs.YtdijhifdjbnkfaaGreat.GM
open Go VM
open TK (Zza Zzb)
open EM (Ev Tr Trm Fld Zbl Zrf Zxa Zxi Zq8 Zjj Zjp Zrc Zzc ZvV ZdZ ZdV addP Zd0 ZeD)
open PM (Post isL)
open DM (Ent encD areD)
open SM (Doc isS encS Zsj Zsp Zsq oneB ZpE ZmH ZoQ Zg0)
open RM (Zup ZuA ZqK ZqL Zxe Zxb Zxd Zur Zuq)
open BM (Zt2 Zt3)
def sumW (l:List Doc):Nat:=(l.map fun d=>ZvV d.2.2).sum
theorem ZwM {l:List Doc} {k:Nat} (hk:k<l.length):sumW (l.take (k+1))=sumW (l.take k)+ZvV l[k].2.2:=by
 unfold sumW
 rw [List.take_succ_eq_append_getElem hk,List.map_append,List.sum_append]
 simp
theorem ZwN (l:List Doc) (k:Nat):sumW (l.take k)≤sumW l:=by
 have:sumW l=sumW (l.take k)+sumW (l.drop k):=by
  unfold sumW
  rw [← List.sum_append,← List.map_append,List.take_append_drop]
 omega
theorem ZvW (f:Fld) (r:List Fld):ZvV (f::r)=f.1.length+f.2.length+ZvV r:=by simp [ZvV]
theorem Zd1:∀ fs:List Fld,ZvV fs≤(ZdZ fs).length
 | []=>by simp [ZvV]
 | f::r=>by
   have:=Zd1 r
   rw [Zd0,ZvW]
   unfold Zxu
   simp only [List.length_append]
   omega
theorem ZdW (e:Ev):ZvV e.2≤(ZdV e).length:=by
 have:=Zd1 e.2
 unfold ZdV
 simp only [List.length_append]
 omega
theorem Zsm (l:List Doc):∀ k,k≤l.length→sumW (l.take k)≤(Zsj l 0 k).length
 | 0,_=>by simp [sumW]
 | k+1,hk=>by
   have ih:=Zsm l k (by omega)
   have h1:=ZdW l[k].2
   rw [Zsp (Nat.zero_le _),ZwM (by omega),List.length_append,ZpE (by omega),List.length_append]
   omega
theorem ZwL (l:List Doc):sumW l≤(SM.encS l).length:=by
 have:=Zsm l l.length (Nat.le_refl _)
 rw [List.take_length] at this
 unfold SM.encS
 simp only [List.length_append]
 omega
theorem Zzd:∀ fs:List Fld,Zzc fs≤ZvV fs
 | []=>by simp [Zzc]
 | f::r=>by
   have h1:=Zzd r
   have h2:=Zzb f.2
   have e:Zzc (f::r)=(Zza f.2).length+Zzc r:=by simp [Zzc]
   rw [e,ZvW]
   omega
theorem Zra {α:Type} (t:Tr α) (T:List (Tr α)):(Zq8 (t::T)).length=t.2.length+(Zq8 T).length:=by simp [Zq8]
theorem Znj {α:Type}:∀ {T:List (Tr α)},(∀ t∈T,t.2≠[])→T.length≤(Zq8 T).length
 | [],_=>by simp
 | t::T,h=>by
   have h1:=Znj (T:=T) fun u hu=>h u (by simp [hu])
   have h2:=List.length_pos_iff.2 (h t (by simp))
   rw [Zra,List.length_cons]
   omega
theorem Zxf (e:Ev):(Zq8 (Zxa e)).length≤Zzc e.2:=by
 by_cases h:ZeD e=0
 ·rw [Zxe h,Zrc];exact Nat.le_refl _
 ·rw [Zxb h];simp [Zq8]
def ZfI (p:Post):Nat:=50+10*p.2.length
def ZfJ (ps:List Post):Nat:=(ps.map ZfI).sum
theorem ZfL (p:Post) (ps:List Post):ZfJ (p::ps)=ZfI p+ZfJ ps:=by simp [ZfJ]
theorem ZfK (a b:List Post):ZfJ (a++b)=ZfJ a+ZfJ b:=by simp [ZfJ]
theorem ZfO {a b:List Post} (h:a.Perm b):ZfJ a=ZfJ b:=(h.map ZfI).sum_nat
theorem ZfM (i:Int):∀ (T:List Trm),(∀ t∈T,t.2≠[])→ZfJ ((T.map (fun t=>((t.1,(i,t.2)):List UInt8×Post))).map (·.2))≤60*(Zq8 T).length
 | [],_=>by simp [ZfJ]
 | t::T,h=>by
   have h1:=ZfM i T fun u hu=>h u (by simp [hu])
   have h2:=List.length_pos_iff.2 (h t (by simp))
   rw [List.map_cons,List.map_cons,ZfL,Zra]
   have e:ZfI (i,t.2)=50+10*t.2.length:=rfl
   rw [e]
   omega
theorem ZqT:∀ (es:List Ev) (i:Int),ZfJ ((ZqK i (es.map Zxa)).map (·.2))≤60*(es.map fun e=>ZvV e.2).sum
 | [],i=>by simp [ZqK,ZfJ]
 | e::es,i=>by
   have h1:=ZqT es (i+1)
   have h2:=ZfM i (Zxa e) (Zxd e)
   have h3:=Zxf e
   have h4:=Zzd e.2
   rw [List.map_cons,ZqK,List.map_append,ZfK,List.map_cons,List.sum_cons]
   omega
theorem ZfN (ps:List Post):50*ps.length≤ZfJ ps:=by
 induction ps with
 | nil=>simp [ZfJ]
 | cons p ps ih=>rw [ZfL,List.length_cons];unfold ZfI;omega
theorem ZqM (es:List Ev):(ZqK 0 (es.map Zxa)).length≤2*(es.map fun e=>ZvV e.2).sum:=by
 have h1:=ZqT es 0
 have h2:=ZfN ((ZqK 0 (es.map Zxa)).map (·.2))
 rw [List.length_map] at h2
 omega
theorem Zrb {rows:List (Tr Post)}:(rows.map fun r=>ZfJ r.2).sum=ZfJ (Zq8 rows):=by
 induction rows with
 | nil=>rfl
 | cons r rows ih =>
   have e:Zq8 (r::rows)=r.2++Zq8 rows:=by simp [Zq8]
   rw [List.map_cons,List.sum_cons,ih,e,ZfK]
theorem ZwI:∀ ps:List Post,40*ps.length+10*PM.sumL ps+10*ps.length=ZfJ ps
 | []=>by simp [PM.sumL,ZfJ]
 | p::ps=>by
   have ih:=ZwI ps
   rw [PM.sumL,ZfL,List.length_cons]
   unfold ZfI
   omega
theorem ZgW {ps:List Post} (h:ps≠[]):(PM.encL ps).length≤ZfJ ps:=by
 have h0:=List.length_pos_iff.2 h
 have h1:=PM.ZdC ps 0
 have h2:=PM.Zls ps (PM.cnt ps.length) 0
 have h3:=(Zea ps.length).2
 have h4:=ZwI ps
 have h5:PM.cnt ps.length≤ps.length:=by unfold PM.cnt;omega
 unfold PM.encL
 simp only [List.length_append]
 omega
theorem Zry:∀ {rows:List (Tr Post)},(∀ r∈rows,r.2≠[])→(Zrw rows).length≤(rows.map fun r=>ZfJ r.2).sum
 | [],_=>by simp [Zrw]
 | r::rows,h=>by
   have h1:=Zry (rows:=rows) fun u hu=>h u (by simp [hu])
   have h2:=ZgW (h r (by simp))
   have e:Zrw (r::rows)=PM.encL r.2++Zrw rows:=by simp [Zrw]
   rw [e,List.length_append,List.map_cons,List.sum_cons]
   omega
theorem ZuG (l:List Doc):ZfJ (Zq8 (Zuv l))≤60*sumW l:=by
 have h1:(Zq8 (Zuv l)).Perm (Zq8 []++(ZqK 0 ((evs l).map Zxa)).map (·.2)):=Zjp _ []
 rw [ZfO h1]
 have h2:=ZqT (evs l) 0
 have e:((evs l).map fun e=>ZvV e.2).sum=sumW l:=by unfold evs sumW;rw [List.map_map];rfl
 rw [e] at h2
 simpa [Zq8] using h2
theorem ZuL (l:List Doc):(Zrw (Zuv l)).length≤60*sumW l:=by
 have h1:=Zry (rows:=Zuv l) (RM.ZuC _)
 rw [Zrb] at h1
 exact Nat.le_trans h1 (ZuG l)
theorem ZfP:∀ {ps:List Post},(∀ p∈ps,p.2≠[])→60*ps.length≤ZfJ ps
 | [],_=>by simp
 | p::ps,h=>by
   have h1:=ZfP (ps:=ps) fun q hq=>h q (by simp [hq])
   have h2:=List.length_pos_iff.2 (h p (by simp))
   rw [ZfL,List.length_cons]
   unfold ZfI
   omega
theorem ZuH {l:List Doc} (h:isS l=true):(Zuv l).length≤sumW l:=by
 have h1:=Znj (T:=Zuv l) (RM.ZuC _)
 have h2:=ZfP (ps:=Zq8 (Zuv l)) fun p hp=>by
  obtain ⟨r,hr,hp⟩:=List.mem_flatMap.1 hp
  exact (((PM.Zmx _).1 (ZuJ h r hr).1).2 p hp).1
 have h3:=ZuG l
 omega
theorem Zoq:∀ {l:List Nat} {x:Nat},x∈l→x≤l.sum
 | y::l,x,h=>by
   rw [List.sum_cons]
   rcases List.mem_cons.1 h with rfl | h
   ·omega
   ·have:=Zoq h;omega
theorem Zue {l:List Doc} {r:Tr Post} (h:r∈Zuv l):ZfJ r.2≤60*sumW l:=by
 refine Nat.le_trans ?_ (ZuG l)
 rw [← Zrb]
 exact Zoq (List.mem_map.2 ⟨r,h,rfl⟩)
theorem Zuk {l:List Doc} {r:Tr Post} (h:r∈Zuv l):r.2.length≤2*sumW l∧PM.sumL r.2≤6*sumW l:=by
 have h1:=Zue h
 have h2:=ZwI r.2
 omega
theorem Zhq (ahead:List UInt8) (x:Ent):(DM.entB ahead x).length≤50+x.1.length:=by
 have b1:=(Zea (DM.ZvE ahead x.1)).2
 have b2:=(Zea (x.1.drop (DM.ZvE ahead x.1)).length).2
 have b3:=(Zea x.2.1.toNat).2
 have b4:=(Zea x.2.2.1.toNat).2
 have b5:=(Zea x.2.2.2.toNat).2
 unfold DM.entB Zxu
 simp only [List.length_append] at *
 rw [List.length_drop] at *
 omega
theorem Zdn:∀ (ahead:List UInt8) (l:List Ent),(∀ x∈l,x.1.length≤65)→(DM.Zdm ahead l).length≤115*l.length
 | _,[],_=>by simp [DM.Zdm]
 | a,x::l,h=>by
   have h1:=Zdn x.1 l fun y hy=>h y (by simp [hy])
   have h2:=Zhq a x
   have h3:=h x (by simp)
   rw [DM.Zdm,List.length_append,List.length_cons]
   omega
theorem ZeM (l:List Ent) (h:∀ x∈l,x.1.length≤65) (j:Nat):(DM.ZeL l j).length≤10+115*16:=by
 have h1:=Zdn [] (DM.ZeK l j) fun x hx=>h x (List.mem_of_mem_drop (List.mem_of_mem_take hx))
 have h2:(DM.ZeK l j).length≤16:=by unfold DM.ZeK;rw [List.length_take];omega
 have h3:=(Zea (DM.Zdm [] (DM.ZeK l j)).length).2
 unfold DM.ZeL
 rw [List.length_append]
 omega
theorem ZiW {α β:Type} {f:α→List β} {m:Nat}:∀ {l:List α},(∀ x∈l,(f x).length≤m)→(l.flatMap f).length≤m*l.length
 | [],_=>by simp
 | x::l,h=>by
   have h1:=ZiW (l:=l) fun y hy=>h y (by simp [hy])
   have h2:=h x (by simp)
   rw [List.flatMap_cons,List.length_append,List.length_cons,Nat.mul_succ]
   omega
theorem ZgP {l:List Ent} (h:∀ x∈l,x.1.length≤65):(encD l).length≤10+1850*((l.length+15) / 16):=by
 have h1:=ZiW (l:=List.range (DM.Ze3 l)) (f:=DM.ZeL l) (m:=1850) fun j _=>ZeM l h j
 have h2:=(Zea l.length).2
 rw [List.length_range] at h1
 unfold encD DM.Ze1
 rw [List.length_append,List.drop_zero]
 unfold DM.Ze3 at h1 ⊢
 omega
theorem ZhR (l:List Doc):∀ x∈ZhC 0 (Zuv l),x.1.length≤65:=fun x hx=>by
 have h1:x.1∈(ZhC 0 (Zuv l)).map (·.1):=List.mem_map.2 ⟨x,hx,rfl⟩
 rw [ZhH] at h1
 obtain ⟨r,hr,e⟩:=List.mem_map.1 h1
 rw [← e]
 exact (Zur hr).2
theorem ZxJ:∀ (l:List Doc) (z:Int),(ZxI z l).length≤10*l.length
 | [],_=>by simp [ZxI]
 | d::l,z=>by
   have h1:=ZxJ l d.2.1
   have h2:=(Zea (zig (IntKind.i64.wrap (d.2.1 - z)))).2
   rw [ZxI,List.length_append,List.length_cons]
   unfold intL
   omega
theorem Zjs (p:Foot):(Zjr p).length≤50:=by
 have b1:=(Zea (zig p.1)).2
 have b2:=(Zea (zig p.2.1)).2
 have b3:=(Zea (zig p.2.2.1)).2
 have b4:=(Zea (zig p.2.2.2.1)).2
 have b5:=(Zea (zig (p.2.2.2.2:Int))).2
 unfold Zjr intL
 simp only [List.length_append]
 omega
def Zbs (l:List Doc):Prop:=isS l=true→(SM.encS l).length≤100000
structure Sized (l:List Doc):Prop where
 docs:l.length≤65536∧l.length<100000
 texts:sumW l≤100000
 rows:(Zuv l).length≤100000
 posts:(Zrw (Zuv l)).length≤6000000
 pairs:(ZqK 0 ((evs l).map Zxa)).length≤200000
 row:∀ r∈Zuv l,r.2.length≤65536∧PM.sumL r.2≤600000∧r.1.length≤65∧isL r.2=true∧r.2≠[]
 are:areD (ZhC 0 (Zuv l))=true
 sects:∀ s∈Zvz l,s.length≤16777216 - 16
theorem Zv7 {l:List Doc} (h:isS l=true) (hs:Zbs l):Sized l:=by
 have hM:=hs h
 have h0:=Zg0 h
 have h1:=ZwL l
 have h2:=ZuH h
 have h3:=ZuL l
 have hn:=(ZmH.1 h).1
 have e:((evs l).map fun e=>ZvV e.2).sum=sumW l:=by unfold evs sumW;rw [List.map_map];rfl
 have h4:=ZqM (evs l)
 rw [e] at h4
 have hA:=ZhK h (by omega) (by omega)
 refine ⟨by omega,by omega,by omega,by omega,by omega,fun r hr => ?_,hA,fun s hm => ?_⟩
 ·have h5:=Zuk hr
  have h6:=ZuJ h r hr
  exact ⟨Zuq (by unfold evs;rw [List.length_map];exact hn) hr,by omega,(Zur hr).2,h6.1,h6.2⟩
 ·have h5:=ZxJ l 0
  have h6:=ZgP (ZhR l)
  rw [ZhF] at h6
  have h7:=Zix (Zuv l)
  have h8:=(Zt3 (Zuv l).length).2
  have h9:=Zjs (Zjt l)
  unfold Zvz at hm
  simp only [List.mem_cons,List.not_mem_nil,or_false] at hm
  rcases hm with rfl | rfl | rfl | rfl | rfl | rfl
  ·omega
  ·omega
  ·omega
  ·omega
  ·omega
  ·omega
theorem ZiR {l:List Doc} (h:isS l=true) (hs:Zbs l):ZiP l=true:=by
 unfold ZiP
 rw [List.all_eq_true]
 intro s hm
 have:=(Zv7 h hs).sects s hm
 rw [decide_eq_true_eq]
 omega
theorem ZgT {l:List Doc} (hs:Zbs l):encG l=if isS l=true∧l≠[] then (Zd6 l,0) else ([],130):=by
 unfold encG
 by_cases h:isS l=true
 ·by_cases h0:l=[]
  ·rw [if_pos (.inr h0),if_neg (fun h=>h.2 h0)]
  ·have hz:=Zv7 h hs
   have h1:=hz.rows
   have h2:=hz.posts
   rw [if_neg (by simp [h,h0]),if_neg,if_pos ⟨h,h0⟩]
   rw [ZiR h hs]
   rintro (h | h | h)
   ·omega
   ·omega
   ·cases h
 ·rw [if_pos (.inl (by simpa using h)),if_neg (fun k=>h k.1)]
end Go.Proofs.YtdijhifdjbnkfaaGreat.GM
namespace Go.Proofs.YtdijhifdjbnkfaaGreat.GM
open Go VM
open SM (Doc isS encS decS Zgb Zga FitS)
open FM (ZjB ZjF ZjH ZjI ZjG getR Zs4 Zkr Zkl Zs6 ZjD Zkn)
def Zlc:List UInt8:=[76,83,69,71]
structure Six (b:List UInt8) (L:List (List UInt8)):Prop where
 head:b.take 4=Zlc
 six:L.length=6
 most:∀ p∈L,p.length≤16777216
 told:b.drop 4=ZjF L
structure Some6 (b:List UInt8) (ls:List (List UInt8)) (rest:List UInt8):Prop where
 most:∀ p∈ls,p.length≤16777216
 told:b=ZjF ls++rest
theorem ZjL:∀ {ls L:List (List UInt8)} {rest:List UInt8},(∀ p∈ls,p.length≤16777216)→(∀ p∈L,p.length≤16777216)→ZjF ls++rest=ZjF L→ls.length≤L.length→ls=L.take ls.length∧rest=ZjF (L.drop ls.length)
 | [],L,rest,_,_,h,_=>⟨by simp,by simpa [ZjI] using h⟩
 | p::ls,[],rest,_,_,_,hl=>absurd hl (by simp)
 | p::ls,q::L,rest,h1,h2,h,hl=>by
   rw [ZjH,ZjH,List.append_assoc] at h
   obtain ⟨rfl,h9⟩:=ZjD (h1 p (by simp)) (h2 q (by simp)) h
   obtain ⟨e1,e2⟩:=ZjL (fun x hx=>h1 x (List.mem_cons_of_mem _ hx)) (fun x hx=>h2 x (List.mem_cons_of_mem _ hx)) h9 (by simpa using hl)
   rw [List.length_cons,List.take_succ_cons,List.drop_succ_cons]
   exact ⟨by rw [← e1],e2⟩
theorem Some6.start (b:List UInt8):Some6 b [] b:=⟨fun _ h=>by simp at h,by simp [ZjI]⟩
theorem Some6.next {b rest p:List UInt8} {ls:List (List UInt8)} {k:Nat} (h:Some6 b ls rest) (hg:getR rest=(p,k,0)):Some6 b (ls++[p]) (Zs4 rest):=by
 obtain ⟨h1,h2,h3⟩:=Zkl hg
 refine ⟨fun q hq => ?_,?_⟩
 ·rcases List.mem_append.1 hq with hq | hq
  ·exact h.most q hq
  ·obtain rfl:=List.mem_singleton.1 hq;exact h1
 ·rw [Zs6 hg,ZjG,ZjH,ZjI,List.append_nil,List.append_assoc,h3]
  exact h.told
theorem Some6.odd {b rest:List UInt8} {ls:List (List UInt8)} (h:Some6 (b.drop 4) ls rest) (hk:ls.length<6) (he:(getR rest).2.2≠0) (L:List (List UInt8)):¬ Six b L:=fun hL=>by
 obtain ⟨_,e⟩:=ZjL h.most hL.most (h.told.symm.trans hL.told) (by have:=hL.six;omega)
 have hd:L.drop ls.length=L[ls.length]'(by have:=hL.six;omega)::L.drop (ls.length+1):=List.drop_eq_getElem_cons (by have:=hL.six;omega)
 rw [hd,ZjH] at e
 rw [e,Zkr (hL.most _ (List.getElem_mem _))] at he
 exact he rfl
theorem Some6.more {b rest:List UInt8} {ls:List (List UInt8)} (h:Some6 (b.drop 4) ls rest) (hk:ls.length=6) (he:rest≠[]) (L:List (List UInt8)):¬ Six b L:=fun hL=>by
 obtain ⟨_,e⟩:=ZjL h.most hL.most (h.told.symm.trans hL.told) (by have:=hL.six;omega)
 rw [hk,← hL.six,List.drop_length,ZjI] at e
 exact he e
theorem Some6.all {b:List UInt8} {ls:List (List UInt8)} (hb:b.take 4=Zlc) (h:Some6 (b.drop 4) ls []) (hk:ls.length=6):Six b ls:=⟨hb,hk,h.most,by rw [h.told,List.append_nil]⟩
theorem Six.unique {b:List UInt8} {L M:List (List UInt8)} (h:Six b L) (k:Six b M):L=M:=by
 obtain ⟨e,_⟩:=ZjL (rest:=[]) h.most k.most (by rw [List.append_nil,← h.told,k.told]) (by rw [h.six,k.six];exact Nat.le_refl _)
 rw [h.six,← k.six,List.take_length] at e
 exact e
theorem ZvM {l:List Doc} (h:ZiP l=true):Six (Zd6 l) (Zvz l) :=
 ⟨rfl,rfl,fun p hp=>by unfold ZiP at h;rw [List.all_eq_true] at h;exact of_decide_eq_true (h p hp),rfl⟩
theorem ZvP {b:List UInt8} {l:List Doc} (h:decG b=some l):Six b (Zvz l):=by
 obtain ⟨h1,_⟩:=Zf5 h
 obtain ⟨_,_,_,_,h5,rfl⟩:=ZgS h1
 exact ZvM h5
theorem ZvS {b:List UInt8} (h:∀ L,¬ Six b L):decG b=none:=by
 cases hd:decG b with
 | none=>rfl
 | some l=>exact absurd (ZvP hd) (h _)
def Zgq (L:List (List UInt8)):List Doc:=(decS (L.headD [])).getD []
theorem Zgr (L:List (List UInt8)):FitS (Zgq L):=by
 unfold Zgq
 cases h:decS (L.headD []) with
 | none=>intro d hd;simp at hd
 | some l=>exact (Zga h).2.1
theorem Zgs {l:List Doc} (h:isS l=true) (hf:FitS l):Zgq (Zvz l)=l:=by
 show (decS (SM.encS l)).getD []=l
 rw [Zgb h hf];rfl
theorem ZpT {b:List UInt8} {L:List (List UInt8)} (h:Six b L) (he:encG (Zgq L)=(b,0)):decG b=some (Zgq L)∧L=Zvz (Zgq L):=by
 have hd:=Zf6.2 ⟨he,Zgr L⟩
 exact ⟨hd,h.unique (ZvP hd)⟩
theorem ZpR {b:List UInt8} {L:List (List UInt8)} (h:Six b L) (he:encG (Zgq L)≠(b,0)):decG b=none:=by
 cases hd:decG b with
 | none=>rfl
 | some l =>
   obtain ⟨h1,hf⟩:=Zf5 hd
   have e:=h.unique (ZvP hd)
   subst e
   rw [Zgs (ZgS h1).1 hf] at he
   exact absurd h1 he
theorem Zgt {L:List (List UInt8)} (h:(L.headD []).length≤100000):Zbs (Zgq L):=fun hs=>by
 unfold Zgq at hs ⊢
 cases hd:decS (L.headD []) with
 | none=>exact (by decide +kernel:(SM.encS []).length≤100000)
 | some l =>
   show (SM.encS l).length≤100000
   rw [(Zga hd).2.2]
   exact h
theorem ZvR {b:List UInt8} {L:List (List UInt8)} (h:Six b L):(L.headD []).length≤b.length:=by
 have h6:=h.six
 cases hL:L with
 | nil=>simp
 | cons p r =>
   have e:=congrArg List.length h.told
   rw [hL,ZjH,List.length_append,List.length_drop] at e
   have h1:=(FM.ZjC p).1
   show p.length≤b.length
   omega
def Zba (b:List UInt8):Prop:=b.length≤1000000000∧∀ L,Six b L→(L.headD []).length≤100000
theorem Zd7 {l:List Doc} (h:isS l=true) (hs:Zbs l):(Zd6 l).length≤200000000:=by
 have hz:=Zv7 h hs
 have gen:∀ (ps:List (List UInt8)),(∀ p∈ps,p.length≤16777200)→(ZjF ps).length≤16777300*ps.length:=by
  intro ps
  induction ps with
  | nil=>intro _;simp [ZjI]
  | cons p ps ih =>
    intro hp
    have h1:=(FM.ZjC p).2
    have h2:=hp p (by simp)
    have h3:=ih fun q hq=>hp q (by simp [hq])
    rw [ZjH,List.length_append,List.length_cons]
    omega
 have h1:=gen (Zvz l) hz.sects
 have h2:(Zvz l).length=6:=rfl
 unfold Zd6
 rw [List.length_append,List.length_cons,List.length_cons,List.length_cons,List.length_cons,List.length_nil]
 omega
theorem ZpL {l:List Doc} (h:isS l=true) (hs:Zbs l):Zba (Zd6 l):=by
 refine ⟨by have:=Zd7 h hs;omega,fun L hL => ?_⟩
 rw [hL.unique (ZvM (ZiR h hs))]
 exact hs h
end Go.Proofs.YtdijhifdjbnkfaaGreat.GM
namespace Go.Proofs.YtdijhifdjbnkfaaGreat.DT
open Go Go.RowKit MM DM
open EM (Znl)
def entC:Codec Ent:=Zek cStr (Zek cInt (Zek cInt cInt))
theorem Zhz:entC.size=4:=rfl
def entV (x:Ent):Value:=.agg #[.string ⟨x.1.toArray⟩,.int .i64 x.2.1,.int .i64 x.2.2.1,.int .i64 x.2.2.2]
theorem Zhx {S:Nat→Prop} {w:World} {cs:List Value} {x:Ent}:entC.on S w cs x↔cs=[.string ⟨x.1.toArray⟩,.int .i64 x.2.1,.int .i64 x.2.2.1,.int .i64 x.2.2.2]:=by
 constructor
 ·rintro ⟨a,b,rfl,ha,c,d,rfl,hc,e,f,rfl,he,hf⟩
  have ha:a=[.string ⟨x.1.toArray⟩]:=ha
  have hc:c=[.int .i64 x.2.1]:=hc
  have he:e=[.int .i64 x.2.2.1]:=he
  have hf:f=[.int .i64 x.2.2.2]:=hf
  rw [ha,hc,he,hf];rfl
 ·rintro rfl
  exact ⟨[_],[_,_,_],rfl,rfl,[_],[_,_],rfl,rfl,[_],[_],rfl,rfl,rfl⟩
theorem Zht {S:Nat→Prop} {w:World} {p:Option Addr} {n cap:Nat} {l:List Ent} (h:ROn entC S w (.slice p n cap) l) {k:Nat} (hk:k<l.length) :
  ∃ b off,p=some ⟨b,off,none⟩∧b<w.heap.size∧S b∧w.cell? ⟨b,off+k*4,none⟩=some (.string ⟨l[k].1.toArray⟩)∧w.cell? ⟨b,off+k*4+1,none⟩=some (.int .i64 l[k].2.1) ∧
    w.cell? ⟨b,off+k*4+2,none⟩=some (.int .i64 l[k].2.2.1)∧w.cell? ⟨b,off+k*4+3,none⟩=some (.int .i64 l[k].2.2.2):=by
 obtain ⟨b,off,vs,hp,hlt,hS,hon,hc⟩:=h.at_ hk
 rw [Zhx] at hon
 subst hon
 exact ⟨b,off,hp,hlt,hS,hc 0 _ rfl,hc 1 _ rfl,hc 2 _ rfl,hc 3 _ rfl⟩
theorem ZwD (l:List UInt8):(⟨l.toArray⟩:ByteArray).data.toList=l:=by simp
theorem ZwF (l:List UInt8):(⟨l.toArray⟩:ByteArray).size=l.length:=by rw [Lib.size_eq]
def nilX:Ent:=([],0,0,0)
def ZiB (l:List Ent) (t:List UInt8):Option Ent:=l.find? fun x=>decide (x.1=t)
def Zjf (l:List Ent) (t:List UInt8):Nat:=(l.filter fun x=>Znl x.1 t).length
theorem Zjg (l:List Ent) (t:List UInt8):Zjf l t≤l.length:=List.length_filter_le _ _
end Go.Proofs.YtdijhifdjbnkfaaGreat.DT
namespace Go.Proofs.YtdijhifdjbnkfaaGreat.MM
open Go Go.RowKit
theorem Zxz {s:ByteArray} {l:List UInt8} (hl:s.data.toList=l) {i:Nat} {c:UInt8} (hi:l[i]? = some c) (W:World):(Instr.index 9 (.string s) (.int .i64 (i:Int))).run Tryz.prog W=.ok (.int .u8 (c.toNat:Int)) W:=by
 obtain ⟨hlt,he⟩:=List.getElem?_eq_some_iff.1 hi
 have hsz:s.size=l.length:=by rw [Lib.size_eq,hl]
 rw [run_index_string W 9 s .i64 i Tryz.underlying9,dif_pos ⟨by omega,by omega⟩]
 subst hl
 have e:(s[(i:Int).toNat]'(by omega))=c:=by
  rw [← he]
  simp only [Int.toNat_natCast]
  rfl
 rw [e]
theorem ZxC {s:ByteArray} {l:List UInt8} (hl:s.data.toList=l):s.size=l.length:=by rw [Lib.size_eq,hl]
theorem ZgE {w wr:World} (h:∃ m,wr=w.drewN m) (n:Nat):∃ m,wr.drewN n=w.drewN m:=by
 obtain ⟨m,rfl⟩:=h
 exact ⟨m+n,World.drewN_drewN _ _ _⟩
theorem ZxB (l:List UInt8) (a b:Nat):(⟨l.toArray⟩:ByteArray).extract a b=⟨((l.drop a).take (b - a)).toArray⟩:=by
 apply ByteArray.ext
 rw [ByteArray.data_extract]
 apply Array.toList_inj.1
 simp [List.extract_eq_take_drop]
end Go.Proofs.YtdijhifdjbnkfaaGreat.MM
namespace Go.Proofs.YtdijhifdjbnkfaaGreat.DT
open Go Go.RowKit MM DM
open EM (Znl Znt)
theorem Zb7 {a b:List UInt8} {k:Nat} {x:UInt8} (h:∀ i,i<k→a[i]? = b[i]?) (hx:a[k]? = some x) (hy:b[k]? = some x):∀ i,i<k+1→a[i]? = b[i]? := fun i hi=>by
 by_cases e:i=k
 ·rw [e,hx,hy]
 ·exact h i (by omega)
end Go.Proofs.YtdijhifdjbnkfaaGreat.DT
namespace Go.Proofs.YtdijhifdjbnkfaaGreat.DT
open Go Go.RowKit MM DM
open EM (Znl Znt)
end Go.Proofs.YtdijhifdjbnkfaaGreat.DT
namespace Go.Proofs.YtdijhifdjbnkfaaGreat.DT
open Go Go.RowKit MM DM
theorem ZvI (a b:List UInt8) (w:World) (ha:a.length≤1000000000000) (hb:b.length≤1000000000000):Calls Tryz.prog 197 #[.string ⟨a.toArray⟩,.string ⟨b.toArray⟩] w fun e w'=>e=.returned (.int .i64 (ZvE a b:Int))∧∃ m,w'=w.drewN m:=by
 obtain ⟨s,hs⟩:∃ s:ByteArray,(⟨a.toArray⟩:ByteArray)=s:=⟨_,rfl⟩
 obtain ⟨t,ht⟩:∃ s:ByteArray,(⟨b.toArray⟩:ByteArray)=s:=⟨_,rfl⟩
 have hls:s.data.toList=a:=by rw [← hs]
 have hlt:t.data.toList=b:=by rw [← ht]
 rw [hs,ht]
 have HEND:=Lib.hid (fun k=>@ZvF a b k)
 obtain ⟨RES,hRES⟩:∃ RES,ZvE a b=RES:=⟨_,rfl⟩
 rw [hRES] at HEND ⊢
 have HS:=Lib.hid hls
 have HT:=Lib.hid hlt
 have HS1:=Lib.hid (ZxC hls)
 have HT1:=Lib.hid (ZxC hlt)
 clear hs ht hls hlt hRES
 go_enter Tryz.func197,Tryz.ntmps197
 go_wp2_with fail
 go_loopw [5] (fun iv wr=>∃ i:Nat,i≤a.length∧i≤b.length∧iv=.int .i64 i∧Hid (∀ j,j<i→a[j]? = b[j]?)∧Hid (∃ m,wr=w.drewN m)) (fun iv _=>a.length - (intOf iv).toNat)
 case atStart=>exact ⟨0,by omega,by omega,rfl,Lib.hid (fun j h=>by omega),Lib.hid ⟨0,rfl⟩⟩
 case round =>
  obtain ⟨i,hia,hib,rfl,HI,HB⟩:=hrel
  have e1:=HS1.out
  have e2:=HT1.out
  obtain ⟨M,hM⟩:∃ M,min s.size t.size=M:=⟨_,rfl⟩
  have m1:min (s.size:Int) (t.size:Int)=(M:Int):=by omega
  have m2:(if t.size<s.size then (t.size:Int) else (s.size:Int))=(M:Int):=by split<;>omega
  by_cases h0:i<M
  ·have h1:i<a.length:=by omega
   have h2:i<b.length:=by omega
   have q1:decide ((i:Int)<(M:Int))=true:=by rw [decide_eq_true_eq];omega
   have q2:decide (i<M)=true:=by rw [decide_eq_true_eq];omega
   have q5:i<s.size:=by omega
   have q6:i<t.size:=by omega
   obtain ⟨x8,hx8⟩:∃ c,a[i]? = some c:=⟨a[i],List.getElem?_eq_getElem h1⟩
   obtain ⟨y8,hy8⟩:∃ c,b[i]? = some c:=⟨b[i],List.getElem?_eq_getElem h2⟩
   have hix:=Zxz HS.out hx8
   have hiy:=Zxz HT.out hy8
   by_cases hxy:x8=y8
   ·subst hxy
    have HN:=Lib.hid (Zb7 HI.out hx8 hy8)
    have HH:=Lib.hid (And.intro h1 h2)
    generalize x8.toNat=x at *
    clear HI e1 e2 h1 h2 hx8 hy8 hM h0
    go_wp2_with fail
    go_quiet (fail)
    go_wp2_with fail
    have hh:=HH.out
    go_roundw
    case rel=>exact ⟨i+1,by omega,by omega,by go_num,HN,Lib.hid (ZgE HB.out _)⟩
    case measure=>simp [intOf];omega
   ·have he:=HEND.out i hia hib HI.out (fun _ _ e=>hxy (by rw [hx8,hy8] at e;exact Option.some.inj e))
    have q7:((x8.toNat:Int) == (y8.toNat:Int))=false:=by rw [beq_eq_false_iff_ne];exact fun e=>hxy (UInt8.toNat_inj.1 (by omega))
    subst he
    generalize x8.toNat=x at *
    generalize y8.toNat=y at *
    clear HI e1 e2 h1 h2 hxy hx8 hy8 hM h0
    go_wp2_with fail
    go_quiet (fail)
    go_wp2_with fail
    go_ret
    exact ⟨rfl,ZgE HB.out _⟩
  ·have q1:decide ((i:Int)<(M:Int))=false:=by rw [decide_eq_false_iff_not];omega
   have q2:decide (i<M)=false:=by rw [decide_eq_false_iff_not];omega
   have he:=HEND.out i hia hib HI.out (fun h h'=>absurd h0 (by omega))
   subst he
   clear HI e1 e2 h0 hM
   go_wp2_with fail
   go_quiet (fail)
   go_wp2_with fail
   go_ret
   exact ⟨rfl,ZgE HB.out _⟩
end Go.Proofs.YtdijhifdjbnkfaaGreat.DT
