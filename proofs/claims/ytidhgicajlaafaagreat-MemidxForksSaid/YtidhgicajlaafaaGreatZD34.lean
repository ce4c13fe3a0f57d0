import Derived.Test.YtidhgicajlaafaaGreatZD7
import Derived.Deep.MidRow
import Derived.Test.YtidhgicajlaafaaGreatZD18
set_option maxRecDepth 100000
set_option maxHeartbeats 8000000
set_option linter.unusedVariables false
set_option linter.unusedSimpArgs false
namespace Go.Proofs.YtidhgicajlaafaaGreat.PW
open Go.RowKit MM PM
theorem infoPost:(Tryz.prog.info? 75).map (fun i=>(i.zero,i.size,i.bytes))=some (some (.agg #[.int .i64 0,.slice none 0 0]),2,32):=by kernel_rfl
def IOn (S:Nat→Prop) (w:World) (v:Value) (zs:List Int):Prop :=
 ∃ (p:Option Addr) (cap:Nat),v=.slice p zs.length cap∧zs.length≤cap∧cap≤maxLen∧(p=none→cap=0) ∧
   (zs=[]∨∃ b off,p=some ⟨b,off,none⟩∧b<w.heap.size∧S b∧∀ i (h:i<zs.length),w.cell? ⟨b,off+i,none⟩=some (.int .i64 zs[i]))
theorem IOn.keep {S T:Nat→Prop} {w w':World} {v:Value} {zs:List Int} (h:IOn S w v zs) (hk:Kep S w w') (hT:∀ b,b<w.heap.size→S b→T b):IOn T w' v zs:=by
 obtain ⟨p,cap,hv,h1,h2,h3,h⟩:=h
 refine ⟨p,cap,hv,h1,h2,h3,?_⟩
 rcases h with h | ⟨b,off,hp,hlt,hS,hc⟩
 ·exact .inl h
 ·exact .inr ⟨b,off,hp,Nat.lt_of_lt_of_le hlt hk.size,hT b hlt hS,fun i hi=>by rw [hk.cell hlt hS];exact hc i hi⟩
theorem IOn.shape {S:Nat→Prop} {w:World} {v:Value} {zs:List Int} (h:IOn S w v zs):∃ p cap,v=.slice p zs.length cap∧zs.length≤cap∧cap≤maxLen∧(p=none→cap=0):=by
 obtain ⟨p,cap,hv,h1,h2,h3,_⟩:=h
 exact ⟨p,cap,hv,h1,h2,h3⟩
theorem IOn.one {S:Nat→Prop} {w:World} {v:Value} {zs:List Int} (h:IOn S w v zs):v.oneCell'=true:=by
 obtain ⟨p,cap,rfl,_⟩:=h;rfl
theorem IOn.nil_ (S:Nat→Prop) (w:World):IOn S w (.slice none 0 0) []:=⟨none,0,rfl,Nat.le_refl _,by unfold maxLen;omega,fun _=>rfl,.inl rfl⟩
theorem IOn.at_ {S:Nat→Prop} {w:World} {p:Option Addr} {n cap:Nat} {zs:List Int} (h:IOn S w (.slice p n cap) zs) {k:Nat} (hk:k<zs.length) :
  ∃ b off,p=some ⟨b,off,none⟩∧b<w.heap.size∧S b∧w.cell? ⟨b,off+k,none⟩=some (.int .i64 zs[k]):=by
 obtain ⟨p',cap',hv,_,_,_,h⟩:=h
 simp only [Value.slice.injEq] at hv
 obtain ⟨rfl,_,_⟩:=hv
 rcases h with h | ⟨b,off,hp,hlt,hS,hc⟩
 ·subst h;simp at hk
 ·exact ⟨b,off,hp,hlt,hS,hc k hk⟩
theorem IOn.take {S:Nat→Prop} {w:World} {p:Option Addr} {n cap:Nat} {zs:List Int} (h:IOn S w (.slice p n cap) zs) (k:Nat) (hk:k≤n):IOn S w (.slice p k cap) (zs.take k):=by
 obtain ⟨p',cap',hv,h1,h2,h3,h⟩:=h
 simp only [Value.slice.injEq] at hv
 obtain ⟨rfl,rfl,rfl⟩:=hv
 have hl:(zs.take k).length=k:=by rw [List.length_take];omega
 refine ⟨_,_,by rw [hl],by omega,by omega,h3,?_⟩
 rcases h with h | ⟨b,off,rfl,hlt,hS,hc⟩
 ·subst h;left;simp
 ·right
  exact ⟨b,off,rfl,hlt,hS,fun i hi=>by rw [List.getElem_take];exact hc i (by omega)⟩
def rawC (xs:List (Int×Value)):List Value:=xs.flatMap fun t=>[.int .i64 t.1,t.2]
theorem rawC_len (xs:List (Int×Value)):(rawC xs).length=xs.length*2:=by
 induction xs with
 | nil=>rfl
 | cons t ts ih =>
   have e:rawC (t::ts)=[.int .i64 t.1,t.2]++rawC ts:=rfl
   rw [e,List.length_append,ih,List.length_cons]
   simp;omega
theorem rawC_append (a b:List (Int×Value)):rawC (a++b)=rawC a++rawC b:=by simp [rawC]
theorem rawC_get:∀ (xs:List (Int×Value)) (i:Nat) (h:i<xs.length),(rawC xs)[i*2]? = some (.int .i64 xs[i].1)∧(rawC xs)[i*2+1]? = some xs[i].2
 | t::ts,0,_=>⟨rfl,rfl⟩
 | t::ts,i+1,h=>by
   have:=rawC_get ts i (by simpa using h)
   have e:rawC (t::ts)=.int .i64 t.1::t.2::rawC ts:=rfl
   rw [e,show (i+1)*2=i*2+1+1 by omega]
   simpa using this
def MeanOn (S:Nat→Prop) (w:World) (xs:List (Int×Value)) (ps:List Post):Prop:=xs.length=ps.length∧∀ i (h:i<xs.length) (h':i<ps.length),xs[i].1=ps[i].1∧IOn S w xs[i].2 ps[i].2
theorem MeanOn.keep {S T:Nat→Prop} {w w':World} {xs:List (Int×Value)} {ps:List Post} (h:MeanOn S w xs ps) (hk:Kep S w w') (hT:∀ b,b<w.heap.size→S b→T b):MeanOn T w' xs ps :=
 ⟨h.1,fun i hi hi'=>⟨(h.2 i hi hi').1,(h.2 i hi hi').2.keep hk hT⟩⟩
theorem MeanOn.append {S:Nat→Prop} {w:World} {xs ys:List (Int×Value)} {ps qs:List Post} (h:MeanOn S w xs ps) (k:MeanOn S w ys qs):MeanOn S w (xs++ys) (ps++qs):=by
 refine ⟨by rw [List.length_append,List.length_append,h.1,k.1],fun i hi hi' => ?_⟩
 by_cases hlt:i<xs.length
 ·rw [List.getElem_append_left hlt,List.getElem_append_left (by rw [← h.1];exact hlt)]
  exact h.2 i hlt (by rw [← h.1];exact hlt)
 ·rw [List.length_append] at hi hi'
  have e:=h.1
  rw [List.getElem_append_right (by omega),List.getElem_append_right (by omega)]
  simp only [← e]
  exact k.2 (i - xs.length) (by omega) (by omega)
def POn (S:Nat→Prop) (w:World) (v:Value) (ps:List Post):Prop :=
 ∃ (p:Option Addr) (cap:Nat) (xs:List (Int×Value)),v=.slice p ps.length cap∧ps.length≤cap∧cap≤maxLen∧(p=none→cap=0)∧MeanOn S w xs ps ∧
   (ps=[]∨∃ b off,p=some ⟨b,off,none⟩∧b<w.heap.size∧S b∧∀ i (h:i<xs.length),w.cell? ⟨b,off+i*2,none⟩=some (.int .i64 xs[i].1)∧w.cell? ⟨b,off+i*2+1,none⟩=some xs[i].2)
theorem POn.keep {S T:Nat→Prop} {w w':World} {v:Value} {ps:List Post} (h:POn S w v ps) (hk:Kep S w w') (hT:∀ b,b<w.heap.size→S b→T b):POn T w' v ps:=by
 obtain ⟨p,cap,xs,hv,h1,h2,h3,hm,h⟩:=h
 refine ⟨p,cap,xs,hv,h1,h2,h3,hm.keep hk hT,?_⟩
 rcases h with h | ⟨b,off,hp,hlt,hS,hc⟩
 ·exact .inl h
 ·exact .inr ⟨b,off,hp,Nat.lt_of_lt_of_le hlt hk.size,hT b hlt hS,fun i hi=>by rw [hk.cell hlt hS,hk.cell hlt hS];exact hc i hi⟩
theorem POn.weak {S T:Nat→Prop} {w:World} {v:Value} {ps:List Post} (h:POn S w v ps) (hT:∀ b,b<w.heap.size→S b→T b):POn T w v ps:=h.keep (Kep.refl _ _) hT
def PRow (w:World) (v:Value) (ps:List Post):Prop:=POn (fun _=>True) w v ps
theorem POn.row {S:Nat→Prop} {w:World} {v:Value} {ps:List Post} (h:POn S w v ps):PRow w v ps:=h.weak fun _ _ _=>trivial
theorem PRow.below {w w':World} {v:Value} {ps:List Post} (h:PRow w v ps) (hb:Below w.heap.size w w'):PRow w' v ps:=h.keep (kep_below _ hb) fun _ _ h=>h
def PIn (B:Nat) (w:World) (v:Value) (ps:List Post):Prop:=POn (fun b=>b<B) w v ps
theorem PIn.below {B:Nat} {w w':World} {v:Value} {ps:List Post} (h:PIn B w v ps) (hb:Below B w w'):PIn B w' v ps :=
 h.keep ⟨hb.os,hb.tape,hb.output,hb.size,fun k _ hk=>hb.block k hk⟩ fun _ _ h=>h
theorem POn.shape {S:Nat→Prop} {w:World} {v:Value} {ps:List Post} (h:POn S w v ps):∃ p cap,v=.slice p ps.length cap∧ps.length≤cap∧cap≤maxLen∧(p=none→cap=0):=by
 obtain ⟨p,cap,xs,hv,h1,h2,h3,_⟩:=h
 exact ⟨p,cap,hv,h1,h2,h3⟩
theorem POn.at_ {S:Nat→Prop} {w:World} {p:Option Addr} {n cap:Nat} {ps:List Post} (h:POn S w (.slice p n cap) ps) {k:Nat} (hk:k<ps.length) :
  ∃ b off x,p=some ⟨b,off,none⟩∧b<w.heap.size∧S b∧w.cell? ⟨b,off+k*2,none⟩=some (.int .i64 ps[k].1)∧w.cell? ⟨b,off+k*2+1,none⟩=some x∧IOn S w x ps[k].2:=by
 obtain ⟨p',cap',xs,hv,_,_,_,hm,h⟩:=h
 simp only [Value.slice.injEq] at hv
 obtain ⟨rfl,_,_⟩:=hv
 rcases h with h | ⟨b,off,hp,hlt,hS,hc⟩
 ·subst h;simp at hk
 ·have hk':k<xs.length:=by rw [hm.1];exact hk
  have h1:=hm.2 k hk' hk
  have h2:=hc k hk'
  exact ⟨b,off,xs[k].2,hp,hlt,hS,by rw [← h1.1];exact h2.1,h2.2,h1.2⟩
theorem POn.nil_ (S:Nat→Prop) (w:World):POn S w (.slice none 0 0) []:=⟨none,0,[],rfl,Nat.le_refl _,by unfold maxLen;omega,fun _=>rfl,⟨rfl,fun i h=>by simp at h⟩,.inl rfl⟩
def Apt (B:Nat) (w:World) (b:Nat):Prop:=b<B∨∀ cur fr,w.heap[b]? ≠ some (.cells cur 75 fr)
theorem apt_keep {B:Nat} {w w':World} {b:Nat} (h:Apt B w b) (hb:w'.heap[b]? = w.heap[b]?):Apt B w' b:=by
 rcases h with h | h
 ·exact .inl h
 ·exact .inr fun cur fr=>by rw [hb];exact h cur fr
def OwnP (B:Nat) (w:World) (v:Value) (ps:List Post):Prop:=∃ xs,w.ownsRow B 75 2 v xs.length (rawC xs)∧MeanOn (Apt B w) w xs ps
theorem OwnP.nil_ (B:Nat) (w:World):OwnP B w (.slice none 0 0) []:=⟨[],World.ownsRow_nil _ _ _ _,rfl,fun i h=>by simp at h⟩
theorem OwnP.keep {B:Nat} {w w':World} {v:Value} {ps:List Post} (h:OwnP B w v ps) (hb:Below w.heap.size w w'):OwnP B w' v ps:=by
 obtain ⟨xs,h1,h2⟩:=h
 exact ⟨xs,own_keep (B:=0) h1 hb,h2.keep (kep_below _ hb) fun b hlt hA=>apt_keep hA (hb.block b hlt)⟩
theorem OwnP.prow {B:Nat} {w:World} {v:Value} {ps:List Post} (h:OwnP B w v ps):PRow w v ps:=by
 obtain ⟨xs,h1,h2⟩:=h
 have hl:=h2.1
 rcases h1.2 with ⟨rfl,h0⟩ | ⟨g,cap,cur,rfl,hg,hh,hnc,hm,hs,ht⟩
 ·have:ps=[]:=List.eq_nil_of_length_eq_zero (by omega)
  subst this
  exact POn.nil_ _ _
 ·refine ⟨some ⟨g,0,none⟩,cap,xs,by rw [hl],by omega,hm,(fun h=>by cases h),h2.keep (Kep.refl _ _) (fun _ _ _=>trivial),.inr ⟨g,0,rfl,(Array.getElem?_eq_some_iff.1 hh).1,trivial,fun i hi => ?_⟩⟩
  have hget:=rawC_get xs i hi
  have key:∀ j u,(rawC xs)[j]? = some u→w.cell? ⟨g,0+j,none⟩=some u:=fun j u hj=>by
   have:=Lib.cells_of_row hh (xs.length*2) j u (by rw [ht];exact hj)
   rw [add_at] at this
   exact this
  exact ⟨key _ _ hget.1,by have:=key _ _ hget.2;rw [← Nat.add_assoc] at this;exact this⟩
theorem OwnP.shape {B:Nat} {w:World} {v:Value} {ps:List Post} (h:OwnP B w v ps):∃ p cap,v=.slice p ps.length cap∧ps.length≤cap∧cap≤maxLen∧(p=none→cap=0):=h.prow.shape
theorem own_post_cells {B n:Nat} {w:World} {v:Value} {xs:List Value} (h:w.ownsRow B 75 2 v n xs) {g:Nat} (hg:v.ownBlock=some g):B≤g∧∃ cur fr,w.heap[g]? = some (.cells cur 75 fr):=by
 rcases h.2 with ⟨rfl,h0⟩ | ⟨g',cap,cur,rfl,hg',hh,_⟩
 ·cases hg
 ·have:g'=g:=Option.some.inj hg
  subst this
  exact ⟨hg',cur,_,hh⟩
theorem apt_not_own {B n:Nat} {w:World} {v:Value} {xs:List Value} (h:w.ownsRow B 75 2 v n xs) {b:Nat} (ha:Apt B w b):v.ownBlock≠some b:=by
 intro e
 obtain ⟨h1,cur,fr,h2⟩:=own_post_cells h e
 rcases ha with ha | ha
 ·omega
 ·exact ha cur fr h2
theorem wpList_append_posts {w:World} {ops:Array Oper} {rest:List Oper} {o:Oper} {a:Act} {Q:Exit→Act→World→Prop} (hgd:o.guard=none) (s x:Operand)
  (ho:o.op=.call { callee:=.builtin .append,args:=#[s,x],argTypes:=#[33,33] }) (B:Nat) (v:Value) (ps:List Post) (hs:a.eval s=v) (hown:OwnP B w v ps)
  (src:Value) (ys:List (Int×Value)) (qs:List Post) (hx:a.eval x=src) (hsrc:(∃ ad c,src=.slice (some ad) ys.length c∧∀ j u,(rawC ys)[j]? = some u→w.cell? (ad.add j)=some u)∨(src=.slice none 0 0∧ys=[])) (hm:MeanOn (Apt B w) w ys qs)
  (hlen:ps.length+qs.length≤1000000000000) (hbase:B≤w.heap.size)
  (h:∀ v' w',OwnP B w' v' (ps++qs)→w.grownBy w' v.ownBlock→Below B w w'→wpList Tryz.prog ops Q rest (a.put o.dst v') w'):wpList Tryz.prog ops Q (o::rest) a w:=by
 obtain ⟨i0,hi,hz0,hz1,hz2⟩:=info_parts infoPost
 obtain ⟨xs,h1,h2⟩:=hown
 have hlo:∀ k,v.ownBlock=some k→B≤k:=fun k hk=>(World.ownsRow.lt h1 k hk).1
 have e1:=h2.1
 have e2:=hm.1
 rcases hsrc with ⟨ad,c,rfl,hc⟩ | ⟨rfl,rfl⟩
 ·refine wpList_append_own _ hgd s x 33 ho B 75 i0 (.agg #[.int .i64 0,.slice none 0 0]) 2 32 Tryz.underlying33 hi hz0 hz1 hz2 rfl (by decide) v xs.length _ hs h1 ad ys.length c (rawC ys) hx (rawC_len ys) hc ?_
   (by unfold maxLen;omega) (by omega) hbase (fun v' w' h3 hg _ => ?_)
  ·intro u hu
   obtain ⟨t,ht,hu⟩:=List.mem_flatMap.1 hu
   simp at hu
   rcases hu with rfl | rfl
   ·rfl
   ·obtain ⟨i,hi,rfl⟩:=List.getElem_of_mem ht
    exact (hm.2 i hi (by omega)).2.one
  ·have hb:Below B w w':=(Below.refl B w).grown hg hbase hlo
   have hk:Kep (Apt B w) w w':=kep_grown hg fun k hk hA=>apt_not_own h1 hA hk
   refine h v' w' ⟨xs++ys,by rw [List.length_append,rawC_append];exact h3,?_⟩ hg hb
   refine (h2.append hm).keep hk fun b hlt hA=>apt_keep hA (hk.block b hlt hA)
 ·have:qs=[]:=List.eq_nil_of_length_eq_zero (by simpa using e2.symm)
  subst this
  refine wpList_append_own_none hgd s x 33 ho B 75 i0 2 Tryz.underlying33 hi v xs.length _ hs h1 hx (h v w ?_ ?_ (Below.refl _ _))
  ·rw [List.append_nil];exact ⟨xs,h1,h2⟩
  ·exact ⟨rfl,rfl,rfl,Nat.le_refl _,fun _ _ _=>rfl⟩
theorem cell_new2 (w:World) (x y:Value) (t:TypeId):∀ j u,[x,y][j]? = some u→(w.alloc (.cells #[x,y] t)).cell? ((⟨w.heap.size,0,none⟩:Addr).add j)=some u:=by
 intro j u hj
 match j,hj with
 | 0,hj=>simp at hj;subst hj;simp [Addr.add]
 | 1,hj=>simp at hj;subst hj;simp [Addr.add]
 | (j+2),hj=>simp at hj
theorem OwnP.alloc {B:Nat} {w:World} {v:Value} {ps:List Post} (h:OwnP B w v ps) (o:Obj):OwnP B (w.alloc o) v ps:=h.keep ((Below.refl _ _).alloc (Nat.le_refl _) o)
theorem wpList_append_post {w:World} {ops:Array Oper} {rest:List Oper} {o:Oper} {a:Act} {Q:Exit→Act→World→Prop} (hgd:o.guard=none) (s x:Operand)
  (ho:o.op=.call { callee:=.builtin .append,args:=#[s,x],argTypes:=#[33,33] }) (B:Nat) (v:Value) (ps:List Post) (w0:World) (z:Int) (u:Value) (qs:List Int) (hw:w=w0.alloc (.cells #[.int .i64 z,u] 75)) (hs:a.eval s=v) (hown:OwnP B w0 v ps) (hu:IOn (Apt B w0) w0 u qs)
  (hx:a.eval x=.slice (some ⟨w0.heap.size,0,none⟩) 1 1) (hlen:ps.length≤100000000000) (hbase:B≤w0.heap.size)
  (h:∀ v' w',OwnP B w' v' (ps++[(z,qs)])→Below B w0 w'→Kep (fun k=>v.ownBlock≠some k) w0 w'→wpList Tryz.prog ops Q rest (a.put o.dst v') w'):wpList Tryz.prog ops Q (o::rest) a w:=by
 subst hw
 have hb0:Below w0.heap.size w0 (w0.alloc (.cells #[.int .i64 z,u] 75)):=(Below.refl _ _).alloc (Nat.le_refl _) _
 refine wpList_append_posts hgd s x ho B v ps hs (hown.alloc _) (.slice (some ⟨w0.heap.size,0,none⟩) 1 1) [(z,u)] [(z,qs)] hx (.inl ⟨_,1,rfl,cell_new2 w0 _ _ _⟩)
  ⟨rfl,fun i hi hi' => ?_⟩ (by simp;omega) (by simp;omega) (fun v' w' h1 hg hb=>h v' w' h1 ((Below.trans (hb0.mono hbase) hb)) ((kep_below _ hb0).trans (kep_grown hg fun k hk hne=>hne hk)))
 obtain rfl:i=0:=by simpa using hi
 exact ⟨rfl,hu.keep (kep_below _ hb0) fun b hlt hA=>apt_keep hA (hb0.block b hlt)⟩
def HalfP (w:World) (g n:Nat) (xs:List (Int×Value)):Prop:=g<w.heap.size∧w.there g 0 (n*2)∧w.rangeAt g 0 (rawC xs)
theorem HalfP.keep {S:Nat→Prop} {w w':World} {g n:Nat} {xs:List (Int×Value)} (h:HalfP w g n xs) (hk:Kep S w w') (hg:S g):HalfP w' g n xs:=by
 obtain ⟨h2,h3,h4⟩:=h
 have hb:=hk.block g h2 hg
 refine ⟨Nat.lt_of_lt_of_le h2 hk.size,fun j hj => ?_,fun j v hj => ?_⟩
 ·have:=h3 j hj
  rw [World.cell?_of_block (a:=⟨g,0+j,none⟩) hb]
  refine ⟨this.1,?_⟩
  have h5:=this.2
  unfold World.frozen? at h5 ⊢
  simp only [hb]
  exact h5
 ·rw [World.cell?_of_block (a:=⟨g,0+j,none⟩) hb]
  exact h4 j v hj
end Go.Proofs.YtidhgicajlaafaaGreat.PW
namespace Go.Proofs.YtidhgicajlaafaaGreat.PW
open Go.RowKit MM PM
def HalfI (w:World) (g n:Nat) (zs:List Int):Prop:=g<w.heap.size∧∃ cur,w.heap[g]? = some (.cells cur 3)∧cur.size=n∧zs.length≤n∧cur.toList.take zs.length=zs.map (Value.int .i64)
theorem HalfI.cell {w:World} {g n:Nat} {zs:List Int} (h:HalfI w g n zs) {k:Nat} (hk:k<n):(∃ u,w.cell? ⟨g,k,none⟩=some u)∧w.frozen? ⟨g,k,none⟩=false:=by
 obtain ⟨h1,cur,h2,h3,h4,h5⟩:=h
 exact ⟨by rw [cell_of_row w g k _ _ _ h2];exact ⟨_,Array.getElem?_eq_getElem (by omega)⟩,frozen_of_row w g k _ _ h2⟩
theorem HalfI.own {w:World} {g n:Nat} {zs:List Int} (h:HalfI w g n zs) (hn:zs.length=n) (hm:n≤maxLen) {B:Nat} (hB:B≤g):OwnI B w (.slice (some ⟨g,0,none⟩) n n) zs:=by
 obtain ⟨h1,cur,h2,h3,h4,h5⟩:=h
 subst hn
 exact ⟨by simp,.inr ⟨g,zs.length,cur,rfl,hB,h2,Nat.le_refl _,hm,by omega,by rw [Nat.mul_one];exact h5⟩⟩
end Go.Proofs.YtidhgicajlaafaaGreat.PW
namespace Go.Proofs.YtidhgicajlaafaaGreat.PW
open Go.RowKit MM PM
theorem same_more {α:Type} {xs ys:List α} {k:Nat} (hl:xs.length=ys.length) (h:xs.take k=ys.take k) (hk:k<xs.length) (he:xs[k]=ys[k]'(by omega)):xs.take (k+1)=ys.take (k+1):=by
 rw [List.take_succ_eq_append_getElem hk,List.take_succ_eq_append_getElem (by omega),h,he]
theorem same_not {α:Type} {xs ys:List α} {k:Nat} (hl:xs.length=ys.length) (hk:k<xs.length) (he:xs[k]≠ys[k]'(by omega)):xs≠ys:=by
 intro e;subst e;exact he rfl
theorem same_end {α:Type} {xs ys:List α} (hl:xs.length=ys.length) (h:xs.take xs.length=ys.take xs.length):xs=ys:=by
 rw [List.take_length,hl,List.take_length] at h;exact h
theorem sameints_any (u v:Value) (xs ys:List Int) (w:World) (hu:IOn (fun _=>True) w u xs) (hv:IOn (fun _=>True) w v ys) :
  Calls Tryz.prog 37 #[u,v] w fun e w'=>e=.returned (.bool (decide (xs=ys)))∧Below w.heap.size w w':=by
 obtain ⟨p,cp,rfl,hp1,hp2,_⟩:=hu.shape
 obtain ⟨q,cq,rfl,hq1,hq2,_⟩:=hv.shape
 unfold maxLen at hp2 hq2
 have HP:=Lib.hid hu
 have HQ:=Lib.hid hv
 clear hu hv
 by_cases hl:xs.length=ys.length
 ·have HL:=Lib.hid hl
  have t0:((xs.length:Int) == (ys.length:Int))=true:=by rw [beq_iff_eq];omega
  obtain ⟨RES,hRES⟩:∃ R,decide (xs=ys)=R:=⟨_,rfl⟩
  have HE:=Lib.hid hRES
  rw [hRES]
  have H0:Hid (xs.take 0=ys.take 0):=Lib.hid rfl
  clear hl hRES
  go_enter Tryz.func37,Tryz.ntmps37
  go_wp2_with fail
  go_loopw [5] (fun i wr=>∃ k:Nat,k≤xs.length∧i=.int .i64 k∧Hid (xs.take k=ys.take k)∧Hid (Below w.heap.size w wr)) (fun i _=>xs.length - (intOf i).toNat)
  case atStart=>exact ⟨0,Nat.zero_le _,rfl,H0,Lib.hid (Below.refl _ _)⟩
  case round =>
   obtain ⟨k,hk,rfl,HA,HB⟩:=hrel
   clear H0
   by_cases hlt:k<xs.length
   ·have t1:decide ((k:Int)<(xs.length:Int))=true:=by simp;omega
    have hlt2:k<ys.length:=by rw [← HL.out];exact hlt
    obtain ⟨b,off,rfl,hbl,_,hcell⟩:=(HP.out.keep (kep_below (fun _=>True) HB.out) fun _ _ h=>h).at_ hlt
    obtain ⟨b2,off2,rfl,hbl2,_,hcell2⟩:=(HQ.out.keep (kep_below (fun _=>True) HB.out) fun _ _ h=>h).at_ hlt2
    have hmore:=same_more HL.out HA.out hlt
    have hnot:=same_not HL.out hlt
    obtain ⟨x,hx⟩:∃ r,xs[k]=r:=⟨_,rfl⟩
    obtain ⟨y,hy⟩:∃ r,ys[k]=r:=⟨_,rfl⟩
    rw [hx] at hcell hmore hnot
    rw [hy] at hcell2 hmore hnot
    have HM:=Lib.hid hmore
    have HN:=Lib.hid hnot
    clear hx hy hmore hnot
    by_cases hxy:x=y
    ·subst hxy
     have HA2:=Lib.hid (HM.out rfl)
     clear HM HN HA
     go_wp2_with fail
     go_quiet (fail)
     go_wp2_with fail
     go_roundw
     case rel=>exact ⟨k+1,by omega,by go_num,HA2,Lib.hid (MM.below_drewN HB.out _)⟩
     case measure=>simp [intOf];omega
    ·have t2:(x == y)=false:=by rw [beq_eq_false_iff_ne];exact hxy
     have hf:RES=false:=by rw [← HE.out];exact decide_eq_false (HN.out hxy)
     subst hf
     clear HM HN HA hxy
     go_wp2_with fail
     go_quiet (fail)
     go_wp2_with fail
     go_ret
     exact ⟨rfl,MM.below_drewN HB.out _⟩
   ·obtain rfl:k=xs.length:=by omega
    have t1:decide ((xs.length:Int)<(xs.length:Int))=false:=by simp
    have hf:RES=true:=by rw [← HE.out];exact decide_eq_true (same_end HL.out HA.out)
    subst hf
    clear HA
    go_wp2_with fail
    go_ret
    exact ⟨rfl,HB.out⟩
 ·have t0:((xs.length:Int) == (ys.length:Int))=false:=by rw [beq_eq_false_iff_ne];omega
  have hf:decide (xs=ys)=false:=decide_eq_false (fun e=>hl (by rw [e]))
  rw [hf]
  clear hl hf
  go_enter Tryz.func37,Tryz.ntmps37
  go_wp2_with fail
  go_ret
  exact ⟨rfl,Below.refl _ _⟩
end Go.Proofs.YtidhgicajlaafaaGreat.PW
namespace Go.Proofs.YtidhgicajlaafaaGreat.PW
open Go.RowKit MM PM
end Go.Proofs.YtidhgicajlaafaaGreat.PW
namespace Go.Proofs.YtidhgicajlaafaaGreat.PW
open Go.RowKit MM PM
theorem rsame_any (u v:Value) (xs ys:List Post) (w:World) (hu:PRow w u xs) (hv:PRow w v ys) :
  Calls Tryz.prog 14 #[u,v] w fun e w'=>e=.returned (.bool (decide (xs=ys)))∧Below w.heap.size w w':=by
 obtain ⟨p,cp,rfl,hp1,hp2,_⟩:=hu.shape
 obtain ⟨q,cq,rfl,hq1,hq2,_⟩:=hv.shape
 unfold maxLen at hp2 hq2
 have HP:=Lib.hid hu
 have HQ:=Lib.hid hv
 clear hu hv
 by_cases hl:xs.length=ys.length
 ·have HL:=Lib.hid hl
  rw [← hl]
  obtain ⟨RES,hRES⟩:∃ R,decide (xs=ys)=R:=⟨_,rfl⟩
  have HE:=Lib.hid hRES
  rw [hRES]
  have H0:Hid (xs.take 0=ys.take 0):=Lib.hid rfl
  clear hl hRES hq1
  go_enter Tryz.func14,Tryz.ntmps14
  go_wp2_with fail
  go_loopw [5] (fun i wr=>∃ k:Nat,k≤xs.length∧i=.int .i64 k∧Hid (xs.take k=ys.take k)∧Hid (Below w.heap.size w wr)) (fun i _=>xs.length - (intOf i).toNat)
  case atStart=>exact ⟨0,Nat.zero_le _,rfl,H0,Lib.hid (Below.refl _ _)⟩
  case round =>
   obtain ⟨k,hk,rfl,HA,HB⟩:=hrel
   clear H0
   by_cases hlt:k<xs.length
   ·have t1:decide ((k:Int)<(xs.length:Int))=true:=by simp;omega
    have hlt2:k<ys.length:=by rw [← HL.out];exact hlt
    obtain ⟨wd,hwd⟩:∃ wd,wr.drew=wd:=⟨_,rfl⟩
    have hbd:Below w.heap.size w wd:=by rw [← hwd];exact HB.out.drew
    obtain ⟨b,off,x1,rfl,hbl,_,hc1,hc2,hx1⟩:=(HP.out.below hbd).at_ hlt
    obtain ⟨b2,off2,x2,rfl,hbl2,_,hd1,hd2,hx2⟩:=(HQ.out.below hbd).at_ hlt2
    have hmore:=same_more HL.out HA.out hlt
    have hnot:=same_not HL.out hlt
    obtain ⟨⟨z1,l1⟩,hy1⟩:∃ r,xs[k]=r:=⟨_,rfl⟩
    obtain ⟨⟨z2,l2⟩,hy2⟩:∃ r,ys[k]=r:=⟨_,rfl⟩
    rw [hy1] at hc1 hx1 hmore hnot
    rw [hy2] at hd1 hx2 hmore hnot
    dsimp only at hc1 hd1 hx1 hx2
    have HC:=Lib.hid (sameints_any x1 x2 l1 l2 wd hx1 hx2)
    have HM:=Lib.hid hmore
    have HN:=Lib.hid hnot
    have HBD:=Lib.hid hbd
    have HC1:=Lib.hid hc1
    have HC2:=Lib.hid hc2
    have HD1:=Lib.hid hd1
    have HD2:=Lib.hid hd2
    have HBL:=Lib.hid hbl
    have HBL2:=Lib.hid hbl2
    obtain ⟨px1,cx1,rfl,_⟩:=hx1.shape
    obtain ⟨px2,cx2,rfl,_⟩:=hx2.shape
    obtain ⟨R,hR⟩:∃ R,decide (l1=l2)=R:=⟨_,rfl⟩
    rw [hR] at HC
    have HRR:=Lib.hid hR
    obtain ⟨n1,hn1⟩:∃ n,l1.length=n:=⟨_,rfl⟩
    obtain ⟨n2,hn2⟩:∃ n,l2.length=n:=⟨_,rfl⟩
    rw [hn1] at HC HC2
    rw [hn2] at HC HD2
    clear hy1 hy2 hmore hnot hR hx1 hx2 hc1 hc2 hd1 hd2 hbl hbl2 hbd hn1 hn2
    by_cases hz:z1=z2
    ·have s1:(z1 != z2)=false:=by rw [bne_eq_false_iff_eq];exact hz
     have HZ:=Lib.hid hz
     clear hz
     go_wp2_with fail
     refine RG.begin_ [(0,true),(1,true),(2,true),(3,true),(4,true),(5,true),(6,true),(7,true),(8,true),(9,true),(10,true),(11,true),(12,true),(13,true),(14,true),(15,true),(16,true),(17,true),(18,true),(19,true),(20,true),(21,true),(22,false),(23,true),(24,true)] (by kernel_rfl) (by kernel_rfl) rfl (by kernel_rfl) (fun _ _ d _ _ h=>by cases d<;>exact h) ?_
     simp only [RG.ordered,List.map_cons,List.map_nil,List.getElem?_toArray,List.getElem?_cons_succ,List.getElem?_cons_zero]
     rw [hwd]
     have f1:=fun W (hW:RG.Grew wd W)=>(hW.cell (p:=⟨b,off+k*2,none⟩) HBL.out).trans HC1.out
     have f2:=fun W (hW:RG.Grew wd W)=>(hW.cell (p:=⟨b,off+k*2+1,none⟩) HBL.out).trans HC2.out
     have f3:=fun W (hW:RG.Grew wd W)=>(hW.cell (p:=⟨b2,off2+k*2,none⟩) HBL2.out).trans HD1.out
     have f4:=fun W (hW:RG.Grew wd W)=>(hW.cell (p:=⟨b2,off2+k*2+1,none⟩) HBL2.out).trans HD2.out
     repeat ((first | (refine RG.take (by rfl) (by intro W hW;go_simp;with_reducible rfl) ?_) | (refine RG.skip (by rfl) ?_) | (refine RG.alone_skip (by rfl) ?_));simp only [Act.put,List.setIfInBounds_toArray,List.set_cons_zero,List.set_cons_succ])
     refine RG.alone (by rfl) (fun K hK => ?_)
     go_simp
     refine HC.out.mono ?_
     rintro e w3 ⟨rfl,hb3⟩
     go_simp
     refine hK.out _ _ hb3 ?_
     clear hK K f1 f2 f3 f4
     have HB3:=Lib.hid (HBD.out.trans (hb3.mono HBD.out.size))
     repeat ((first | (refine RG.take (by rfl) (by intro W hW;go_simp;with_reducible rfl) ?_) | (refine RG.skip (by rfl) ?_) | (refine RG.alone_skip (by rfl) ?_));simp only [Act.put,List.setIfInBounds_toArray,List.set_cons_zero,List.set_cons_succ])
     refine RG.done ?_
     clear hb3 HC
     cases R with
     | true =>
       have HA2:=Lib.hid (HM.out (by rw [HZ.out,of_decide_eq_true HRR.out]))
       clear HM HN HA HRR
       go_wp2_with fail
       go_roundw
       case rel=>exact ⟨k+1,by omega,by go_num,HA2,HB3⟩
       case measure=>simp [intOf];omega
     | false =>
       have hf:RES=false:=by rw [← HE.out];exact decide_eq_false (HN.out (fun e=>of_decide_eq_false HRR.out (congrArg Prod.snd e)))
       subst hf
       clear HM HN HA HRR
       go_wp2_with fail
       go_ret
       exact ⟨rfl,HB3.out⟩
    ·have s1:(z1 != z2)=true:=by rw [bne_iff_ne];exact hz
     have hf:RES=false:=by rw [← HE.out];exact decide_eq_false (HN.out (fun e=>hz (congrArg Prod.fst e)))
     subst hf
     clear hz HM HN HA HRR
     go_wp2_with fail
     refine RG.begin_ [(0,true),(1,true),(2,true),(3,true),(4,true),(5,true),(6,true),(7,true),(8,true),(9,true),(10,true),(11,true),(12,true),(13,true),(14,true),(15,true),(16,true),(17,true),(18,true),(19,true),(20,true),(21,true),(22,false),(23,true),(24,true)] (by kernel_rfl) (by kernel_rfl) rfl (by kernel_rfl) (fun _ _ d _ _ h=>by cases d<;>exact h) ?_
     simp only [RG.ordered,List.map_cons,List.map_nil,List.getElem?_toArray,List.getElem?_cons_succ,List.getElem?_cons_zero]
     rw [hwd]
     have f1:=fun W (hW:RG.Grew wd W)=>(hW.cell (p:=⟨b,off+k*2,none⟩) HBL.out).trans HC1.out
     have f3:=fun W (hW:RG.Grew wd W)=>(hW.cell (p:=⟨b2,off2+k*2,none⟩) HBL2.out).trans HD1.out
     repeat ((first | (refine RG.take (by rfl) (by intro W hW;go_simp;with_reducible rfl) ?_) | (refine RG.skip (by rfl) ?_) | (refine RG.alone_skip (by rfl) ?_));simp only [Act.put,List.setIfInBounds_toArray,List.set_cons_zero,List.set_cons_succ])
     refine RG.done ?_
     clear f1 f3 HC
     go_wp2_with fail
     go_ret
     exact ⟨rfl,HBD.out⟩
   ·obtain rfl:k=xs.length:=by omega
    have t1:decide ((xs.length:Int)<(xs.length:Int))=false:=by simp
    have hf:RES=true:=by rw [← HE.out];exact decide_eq_true (same_end HL.out HA.out)
    subst hf
    clear HA
    go_wp2_with fail
    go_ret
    exact ⟨rfl,HB.out⟩
 ·have t0:((xs.length:Int) == (ys.length:Int))=false:=by rw [beq_eq_false_iff_ne];omega
  have hf:decide (xs=ys)=false:=decide_eq_false (fun e=>hl (by rw [e]))
  rw [hf]
  clear hl hf
  go_enter Tryz.func14,Tryz.ntmps14
  go_wp2_with fail
  go_ret
  exact ⟨rfl,Below.refl _ _⟩
end Go.Proofs.YtidhgicajlaafaaGreat.PW
