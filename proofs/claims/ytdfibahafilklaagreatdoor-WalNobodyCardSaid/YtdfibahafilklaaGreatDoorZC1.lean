import Derived.Test.YtdfibahafilklaaGreatDoorProg
import Derived.WalkKit
import Derived.Lib.Hide
import Derived.Laws.AppendOwnNone
import Derived.Lib.BufferRead
import Derived.BigQuiet
set_option maxRecDepth 100000
set_option maxHeartbeats 8000000
set_option linter.unusedVariables false
set_option linter.unusedSimpArgs false
namespace Go.Proofs.YtdfibahafilklaaGreatDoor.MM
open Go.RowKit
theorem infoByte:(Tryz.prog.info? 5).map (fun i=>(i.zero,i.size,i.bytes))=some (some (.int .u8 0),1,1):=by kernel_rfl
theorem grow {a b c:World} (h:Below a.heap.size a b) (k:Below b.heap.size b c):Below a.heap.size a c:=h.trans (k.mono h.size)
theorem add_at (b off j:Nat):(⟨b,off,none⟩:Addr).add j=⟨b,off+j,none⟩:=by unfold Addr.add;split<;>simp_all
theorem below_drewN {B:Nat} {a w:World} (h:Below B a w) (n:Nat):Below B a (w.drewN n):=⟨h.os,h.tape,h.output,h.size,h.block⟩
def RowIn (B:Nat) (w:World) (v:Value) (xs:List Value):Prop :=
 ∃ (p:Option Addr) (cap:Nat),v=.slice p xs.length cap∧xs.length≤cap∧cap≤maxLen∧(p=none→cap=0) ∧
   (xs=[]∨∃ b off,p=some ⟨b,off,none⟩∧b<B∧∀ i u,xs[i]? = some u→w.cell? ⟨b,off+i,none⟩=some u)
theorem RowIn.below {B:Nat} {w w':World} {v:Value} {xs:List Value} (h:RowIn B w v xs) (hb:Below B w w'):RowIn B w' v xs:=by
 obtain ⟨p,cap,hv,h1,h2,h3,h⟩:=h
 refine ⟨p,cap,hv,h1,h2,h3,?_⟩
 rcases h with h | ⟨b,off,hp,hlt,hc⟩
 ·exact .inl h
 ·exact .inr ⟨b,off,hp,hlt,fun i u hi=>by rw [hb.cell (p:=⟨b,off+i,none⟩) hlt];exact hc i u hi⟩
theorem RowIn.mono {B B':Nat} {w:World} {v:Value} {xs:List Value} (h:RowIn B w v xs) (hB:B≤B'):RowIn B' w v xs:=by
 obtain ⟨p,cap,hv,h1,h2,h3,h⟩:=h
 refine ⟨p,cap,hv,h1,h2,h3,?_⟩
 rcases h with h | ⟨b,off,hp,hlt,hc⟩
 ·exact .inl h
 ·exact .inr ⟨b,off,hp,by omega,hc⟩
def Row (w:World) (v:Value) (xs:List Value):Prop:=RowIn w.heap.size w v xs
theorem Row.below {w w':World} {v:Value} {xs:List Value} {B:Nat} (h:Row w v xs) (hb:Below w.heap.size w w'):Row w' v xs:=(RowIn.below h hb).mono hb.size
theorem Row.drewN {w:World} {v:Value} {xs:List Value} (h:Row w v xs) (n:Nat):Row (w.drewN n) v xs:=h
theorem Row.nil_ (w:World):Row w (.slice none 0 0) []:=⟨none,0,rfl,Nat.le_refl _,by unfold maxLen;omega,fun _=>rfl,.inl rfl⟩
theorem Row.of_own {w:World} {base e:Nat} {v:Value} {n:Nat} {xs:List Value} (h:w.ownsRow base e 1 v n xs):Row w v xs:=by
 have hn:xs.length=n:=by have:=h.1;omega
 rcases h.2 with ⟨rfl,h0⟩ | ⟨g,cap,cur,rfl,hg,hh,hnc,hm,hs,ht⟩
 ·have:xs=[]:=List.eq_nil_of_length_eq_zero (by omega)
  subst this
  exact Row.nil_ w
 ·refine ⟨some ⟨g,0,none⟩,cap,by rw [hn],by omega,hm,(fun h=>by cases h),.inr ⟨g,0,rfl,(Array.getElem?_eq_some_iff.1 hh).1,fun i u hi => ?_⟩⟩
  rw [Nat.mul_one] at ht
  have:=Lib.cells_of_row hh n i u (by rw [ht];exact hi)
  rw [add_at] at this
  exact this
theorem RowIn.drop {B:Nat} {w:World} {p:Option Addr} {n cap:Nat} {xs:List Value} (h:RowIn B w (.slice p n cap) xs) (k:Nat) (hk:k≤n) :
  RowIn B w (.slice (if cap=k then p else p.map (·.add k)) (n - k) (cap - k)) (xs.drop k):=by
 obtain ⟨p',cap',hv,h1,h2,h3,h⟩:=h
 simp only [Value.slice.injEq] at hv
 obtain ⟨rfl,rfl,rfl⟩:=hv
 refine ⟨_,_,by rw [List.length_drop],by rw [List.length_drop];omega,by omega,fun hp => ?_,?_⟩
 ·by_cases hc:cap=k
  ·omega
  ·rw [if_neg hc] at hp
   have:p=none:=by cases p<;>simp_all
   have:=h3 this
   omega
 by_cases hkn:k=xs.length
 ·left;rw [hkn,List.drop_length]
 ·rcases h with h | ⟨b,off,rfl,hlt,hc⟩
  ·subst h;simp at hk;simp at hkn;omega
  ·right
   rw [if_neg (by omega)]
   refine ⟨b,off+k,?_,hlt,fun i u hi => ?_⟩
   ·simp only [Option.map_some,Option.some.injEq]
    rw [add_at]
   ·rw [List.getElem?_drop] at hi
    rw [Nat.add_assoc]
    exact hc _ u hi
theorem RowIn.take {B:Nat} {w:World} {p:Option Addr} {n cap:Nat} {xs:List Value} (h:RowIn B w (.slice p n cap) xs) (k:Nat) (hk:k≤n):RowIn B w (.slice p k cap) (xs.take k):=by
 obtain ⟨p',cap',hv,h1,h2,h3,h⟩:=h
 simp only [Value.slice.injEq] at hv
 obtain ⟨rfl,rfl,rfl⟩:=hv
 have hl:(xs.take k).length=k:=by rw [List.length_take];omega
 refine ⟨_,_,by rw [hl],by omega,by omega,h3,?_⟩
 rcases h with h | ⟨b,off,rfl,hlt,hc⟩
 ·subst h;left;simp
 ·right
  refine ⟨b,off,rfl,hlt,fun i u hi=>hc i u ?_⟩
  rw [List.getElem?_take] at hi
  split at hi
  ·exact hi
  ·cases hi
theorem wpList_append_row {w:World} {ops:Array Oper} {rest:List Oper} {o:Oper} {a:Act} {Q:Exit→Act→World→Prop} (hgd:o.guard=none) (s x:Operand) (t:TypeId)
  (ho:o.op=.call { callee:=.builtin .append,args:=#[s,x],argTypes:=#[t,t] })
  (base:Nat) (e:TypeId) (i:TypeInfo) (z:Value) (bytes:Nat) (ht:Tryz.prog.underlying t=some (.slice e)) (hi:Tryz.prog.info? e=some i) (hz:i.zero=some z)
  (hsize:i.size=1) (hby:i.bytes=bytes) (hzs:z.cells.size=1)
  (v:Value) (n:Nat) (xs:List Value) (hs:a.eval s=v) (hown:w.ownsRow base e 1 v n xs)
  (src:Value) (news:List Value) (hx:a.eval x=src) (hr:Row w src news) (h1:∀ u∈news,u.oneCell'=true)
  (h63:n+news.length≤maxLen) (hbytes:(n+news.length)*bytes≤140737488355328) (hbase:base≤w.heap.size)
  (h:∀ v' w',w'.ownsRow base e 1 v' (n+news.length) (xs++news)→Below base w w'→wpList Tryz.prog ops Q rest (a.put o.dst v') w'):wpList Tryz.prog ops Q (o::rest) a w:=by
 have hlo:∀ k,v.ownBlock=some k→base≤k:=fun k hk=>(hown.lt k hk).1
 obtain ⟨p,cap,rfl,_,_,h3,hc⟩:=hr
 cases p with
 | none =>
   have h0:=h3 rfl
   subst h0
   rcases hc with rfl | ⟨b,off,hp,_⟩
   ·refine wpList_append_own_none hgd s x t ho base e i 1 ht hi v n xs hs hown hx (h v w ?_ (Below.refl _ _))
    simpa using hown
   ·cases hp
 | some ad =>
   refine wpList_append_own w hgd s x t ho base e i z 1 bytes ht hi hz hsize hby hzs (by omega) v n xs hs hown ad news.length cap news hx (by omega) ?_ h1 h63 hbytes hbase
    (fun v' w' h2 hg _=>h v' w' h2 ((Below.refl base w).grown hg hbase hlo))
   intro j u hj
   rcases hc with rfl | ⟨b,off,hp,_,hc⟩
   ·simp at hj
   ·obtain rfl:ad=⟨b,off,none⟩:=Option.some.inj hp
    rw [add_at]
    exact hc j u hj
def BIn (B:Nat) (w:World) (v:Value) (l:List UInt8):Prop:=RowIn B w v (Lib.byteCells l)
def BRow (w:World) (v:Value) (l:List UInt8):Prop:=BIn w.heap.size w v l
theorem byteCells_len (l:List UInt8):(Lib.byteCells l).length=l.length:=by simp [Lib.byteCells]
theorem byteCells_get (l:List UInt8) (k:Nat) (hk:k<l.length):(Lib.byteCells l)[k]? = some (.int .u8 ((l[k]).toNat:Int)):=by simp [Lib.byteCells,hk]
theorem byteCells_append (l m:List UInt8):Lib.byteCells (l++m)=Lib.byteCells l++Lib.byteCells m:=by simp [Lib.byteCells]
theorem byteCells_drop (l:List UInt8) (k:Nat):(Lib.byteCells l).drop k=Lib.byteCells (l.drop k):=by simp [Lib.byteCells]
theorem byteCells_take (l:List UInt8) (k:Nat):(Lib.byteCells l).take k=Lib.byteCells (l.take k):=by simp [Lib.byteCells]
theorem byteCells_one (l:List UInt8):∀ u∈Lib.byteCells l,u.oneCell'=true:=by
 intro u hu
 obtain ⟨b,_,rfl⟩:=List.mem_map.1 hu
 rfl
def OwnB (B:Nat) (w:World) (v:Value) (l:List UInt8):Prop:=w.ownsRow B 5 1 v l.length (Lib.byteCells l)
theorem OwnB.brow {B:Nat} {w:World} {v:Value} {l:List UInt8} (h:OwnB B w v l):BRow w v l:=Row.of_own h
def PutLeft (B:Nat) (l:List UInt8) (w:World) (e:Ending) (w':World):Prop:=∃ v',e=.returned v'∧OwnB B w' v' l∧Below B w w'
theorem cell_new1 (w:World) (x:Value) (t:TypeId):∀ j u,[x][j]? = some u→(w.alloc (.cells #[x] t)).cell? ((⟨w.heap.size,0,none⟩:Addr).add j)=some u:=by
 intro j u hj
 match j,hj with
 | 0,hj=>simp at hj;subst hj;simp [Addr.add]
 | (j+1),hj=>simp at hj
theorem int_one (k:IntKind) (r:Int):∀ u∈[Value.int k r],u.oneCell'=true:=by intro u hu;simp at hu;subst hu;rfl
theorem below_app {B:Nat} {w wr w':World} {o:Obj} {v:Value} (hb:Below B w wr) (hB:B≤wr.heap.size) (hv:∀ k,v.ownBlock=some k→B≤k) (hg:(wr.alloc o).grownBy w' v.ownBlock):Below B w w' :=
 (hb.alloc hB o).grown hg (by simp;omega) hv
theorem own_lit (w:World) (xs:List Value) (e B:Nat) (hB:B≤w.heap.size) (hl:xs.length≤maxLen) :
  (w.alloc (.cells xs.toArray e)).ownsRow B e 1 (.slice (some ⟨w.heap.size,0,none⟩) xs.length xs.length) xs.length xs:=by
 refine ⟨by omega,.inr ⟨w.heap.size,xs.length,xs.toArray,rfl,hB,?_,Nat.le_refl _,hl,by simp,by simp⟩⟩
 show (w.heap.push (.cells xs.toArray e))[w.heap.size]? = _
 simp
theorem own_keep {w w':World} {base e size n B:Nat} {v:Value} {xs:List Value} (h:w.ownsRow base e size v n xs) (hb:Below w.heap.size w w'):w'.ownsRow base e size v n xs:=by
 refine ⟨h.1,?_⟩
 rcases h.2 with h0 | ⟨g,cap,cur,hv,hg,hh,rest⟩
 ·exact .inl h0
 ·exact .inr ⟨g,cap,cur,hv,hg,by rw [hb.block g (Array.getElem?_eq_some_iff.1 hh).1];exact hh,rest⟩
theorem OwnB.keep {w w':World} {B:Nat} {v:Value} {l:List UInt8} (h:OwnB B w v l) (hb:Below w.heap.size w w'):OwnB B w' v l:=own_keep (B:=0) h hb
theorem OwnB.weaken {w:World} {B B':Nat} {v:Value} {l:List UInt8} (h:OwnB B w v l) (hB:B'≤B):OwnB B' w v l:=by
 refine ⟨h.1,?_⟩
 rcases h.2 with h0 | ⟨g,cap,cur,hv,hg,rest⟩
 ·exact .inl h0
 ·exact .inr ⟨g,cap,cur,hv,Nat.le_trans hB hg,rest⟩
theorem wpList_append_bytes {w:World} {ops:Array Oper} {rest:List Oper} {o:Oper} {a:Act} {Q:Exit→Act→World→Prop} (hgd:o.guard=none) (s x:Operand)
  (ho:o.op=.call { callee:=.builtin .append,args:=#[s,x],argTypes:=#[31,31] }) (B:Nat) (v:Value) (l:List UInt8) (hs:a.eval s=v) (hown:OwnB B w v l)
  (src:Value) (m:List UInt8) (hx:a.eval x=src) (hr:BRow w src m) (hlen:l.length+m.length≤140737488355328) (hbase:B≤w.heap.size)
  (h:∀ v' w',OwnB B w' v' (l++m)→Below B w w'→wpList Tryz.prog ops Q rest (a.put o.dst v') w'):wpList Tryz.prog ops Q (o::rest) a w:=by
 obtain ⟨i0,hi,hz0,hz1,hz2⟩:=info_parts infoByte
 refine wpList_append_row hgd s x 31 ho B 5 i0 (.int .u8 0) 1 Tryz.underlying31 hi hz0 hz1 hz2 rfl v l.length (Lib.byteCells l) hs hown src (Lib.byteCells m) hx hr (byteCells_one m)
  (by rw [byteCells_len];unfold maxLen;omega) (by rw [byteCells_len];omega) hbase (fun v' w' h1 h2=>h v' w' ?_ h2)
 unfold OwnB
 rw [List.length_append,byteCells_append]
 rw [byteCells_len] at h1
 exact h1
theorem wpList_append_text {w:World} {ops:Array Oper} {rest:List Oper} {o:Oper} {a:Act} {Q:Exit→Act→World→Prop} (hgd:o.guard=none) (sl x:Operand)
  (ho:o.op=.call { callee:=.builtin .append,args:=#[sl,x],argTypes:=#[31,9] }) (B:Nat) (v:Value) (l:List UInt8) (hs:a.eval sl=v) (hown:OwnB B w v l)
  (s:ByteArray) (hx:a.eval x=.string s) (hlen:l.length+s.size≤140737488355328) (hbase:B≤w.heap.size)
  (h:∀ v' w',OwnB B w' v' (l++s.data.toList)→Below B w w'→wpList Tryz.prog ops Q rest (a.put o.dst v') w'):wpList Tryz.prog ops Q (o::rest) a w:=by
 obtain ⟨i0,hi,hz0,hz1,hz2⟩:=info_parts infoByte
 have hlo:∀ k,v.ownBlock=some k→B≤k:=fun k hk=>(World.ownsRow.lt hown k hk).1
 refine Lib.wpList_append_own_string w hgd sl x 31 9 ho B 5 i0 Tryz.underlying31 Tryz.underlying9 hi hz0 hz1 hz2 v l.length (Lib.byteCells l) hs hown s hx (by unfold maxLen;omega) hlen hbase
  (fun v' w' h1 hg _=>h v' w' ?_ ((Below.refl B w).grown hg hbase hlo))
 unfold OwnB
 rw [List.length_append,byteCells_append]
 rw [Lib.size_eq] at h1
 exact h1
theorem wpList_make_bytes {w:World} {ops:Array Oper} {rest:List Oper} {o:Oper} {a:Act} {Q:Exit→Act→World→Prop} (hgd:o.guard=none) (x:Operand)
  (ho:o.op=.makeSlice 31 (.const (.int .i64 0)) x) (B:Nat) (C:Int) (c:Nat) (hx:a.eval x=.int .i64 C) (hC:C=(c:Int)) (hc:c≤281474976710656) (hbase:B≤w.heap.size)
  (h:∀ v' w',OwnB B w' v' []→Below w.heap.size w w'→wpList Tryz.prog ops Q rest (a.put o.dst v') w'):wpList Tryz.prog ops Q (o::rest) a w:=by
 obtain ⟨i0,hi,hz0,hz1,hz2⟩:=info_parts infoByte
 exact wpList_make_own w hgd (.const (.int .i64 0)) x 31 ho B 5 i0 (.int .u8 0) 1 Tryz.underlying31 hi hz0 hz1 .i64 .i64 C c rfl hx hC (by rw [hz2];omega) (by unfold maxLen;omega) hbase
  (fun w' h1 hg=>h _ w' h1 ((Below.refl w.heap.size w).grown hg (Nat.le_refl _) (fun k h=>by cases h)))
theorem BIn.shape {B:Nat} {w:World} {v:Value} {l:List UInt8} (h:BIn B w v l):∃ p cap,v=.slice p l.length cap∧l.length≤cap∧cap≤maxLen:=by
 obtain ⟨p,cap,hv,h1,h2,_,_⟩:=h
 rw [byteCells_len] at hv h1
 exact ⟨p,cap,hv,h1,h2⟩
theorem BIn.below {B:Nat} {w w':World} {v:Value} {l:List UInt8} (h:BIn B w v l) (hb:Below B w w'):BIn B w' v l:=RowIn.below h hb
theorem BIn.mono {B B':Nat} {w:World} {v:Value} {l:List UInt8} (h:BIn B w v l) (hB:B≤B'):BIn B' w v l:=RowIn.mono h hB
theorem BIn.row {B:Nat} {w:World} {v:Value} {l:List UInt8} (h:BIn B w v l) (hB:B≤w.heap.size):BRow w v l:=RowIn.mono h hB
theorem BRow.below {w w':World} {v:Value} {l:List UInt8} (h:BRow w v l) (hb:Below w.heap.size w w'):BRow w' v l:=Row.below (B:=0) h hb
theorem BIn.drewN {B:Nat} {w:World} {v:Value} {l:List UInt8} (h:BIn B w v l) (n:Nat):BIn B (w.drewN n) v l:=h
theorem BRow.drewN {w:World} {v:Value} {l:List UInt8} (h:BRow w v l) (n:Nat):BRow (w.drewN n) v l:=h
theorem BIn.nil_ (B:Nat) (w:World):BIn B w (.slice none 0 0) []:=⟨none,0,rfl,Nat.le_refl _,by unfold maxLen;omega,fun _=>rfl,.inl rfl⟩
theorem BRow.nil_ (w:World):BRow w (.slice none 0 0) []:=Row.nil_ w
theorem BRow.of_own {w:World} {base e:Nat} {v:Value} {n:Nat} {l:List UInt8} (h:w.ownsRow base e 1 v n (Lib.byteCells l)):BRow w v l:=Row.of_own h
theorem BIn.at_ {B:Nat} {w:World} {p:Option Addr} {n cap:Nat} {l:List UInt8} (h:BIn B w (.slice p n cap) l) {k:Nat} (hk:k<l.length) :
  ∃ b off,p=some ⟨b,off,none⟩∧b<B∧w.cell? ⟨b,off+k,none⟩=some (.int .u8 ((l[k]).toNat:Int)):=by
 obtain ⟨p',cap',hv,_,_,_,h⟩:=h
 simp only [Value.slice.injEq] at hv
 obtain ⟨rfl,_,_⟩:=hv
 rcases h with h | ⟨b,off,hp,hlt,hc⟩
 ·have:=byteCells_len l;rw [h] at this;simp at this;omega
 ·exact ⟨b,off,hp,hlt,hc k _ (byteCells_get l k hk)⟩
theorem BIn.drop {B:Nat} {w:World} {p:Option Addr} {n cap:Nat} {l:List UInt8} (h:BIn B w (.slice p n cap) l) (k:Nat) (hk:k≤n) :
  BIn B w (.slice (if cap=k then p else p.map (·.add k)) (n - k) (cap - k)) (l.drop k):=by
 have:=RowIn.drop h k hk
 rw [byteCells_drop] at this
 exact this
theorem BIn.drop2 {B:Nat} {w:World} {b off n cap:Nat} {l:List UInt8} (h:BIn B w (.slice (some ⟨b,off,none⟩) n cap) l) (k:Nat) (hk:k≤n) :
  (cap=k→BIn B w (.slice (some ⟨b,off,none⟩) (n - k) 0) (l.drop k))∧(¬ cap=k→BIn B w (.slice (some ⟨b,off+k,none⟩) (n - k) (cap - k)) (l.drop k)):=by
 have h1:=h.drop k hk
 constructor
 ·intro hc
  rw [if_pos hc,hc,Nat.sub_self] at h1
  exact h1
 ·intro hc
  rw [if_neg hc,Option.map_some,add_at] at h1
  exact h1
theorem BIn.drop3 {B:Nat} {w:World} {p:Option Addr} {n cap:Nat} {l:List UInt8} (h:BIn B w (.slice p n cap) l) (k:Nat) (hk:k≤n) :
  (cap=k→BIn B w (.slice p (n - k) 0) (l.drop k))∧(¬ cap=k→BIn B w (.slice (p.map (fun x=>x.add k)) (n - k) (cap - k)) (l.drop k)):=by
 have h1:=h.drop k hk
 constructor
 ·intro hc
  rw [if_pos hc,hc,Nat.sub_self] at h1
  exact h1
 ·intro hc
  rw [if_neg hc] at h1
  exact h1
theorem BIn.take {B:Nat} {w:World} {p:Option Addr} {n cap:Nat} {l:List UInt8} (h:BIn B w (.slice p n cap) l) (k:Nat) (hk:k≤n):BIn B w (.slice p k cap) (l.take k):=by
 have:=RowIn.take h k hk
 rw [byteCells_take] at this
 exact this
theorem BIn.conv {B:Nat} {w:World} {v:Value} {l:List UInt8} (h:BIn B w v l):(convert 31 9 v).run Tryz.prog w=.ok (.string ⟨l.toArray⟩) w:=by
 obtain ⟨p,cap,hv,_,_,_,h⟩:=h
 rw [byteCells_len] at hv
 subst hv
 rcases h with h | ⟨b,off,rfl,_,hc⟩
 ·have h0:l.length=0:=by rw [← byteCells_len,h];rfl
  have:l=[]:=List.eq_nil_of_length_eq_zero h0
  subst this
  show (convert 31 9 (.slice p 0 cap)).run Tryz.prog w=.ok (.string ⟨#[]⟩) w
  rw [run_convert_bytes_string w 31 9 5 p 0 cap Tryz.underlying31 Tryz.underlying5 Tryz.underlying9]
  cases p with
  | none=>simp [Conv.bytesToString];rfl
  | some a=>exact run_bytesToString w a 0 cap [] (run_loadCells_list (P:=Tryz.prog) w a [] (fun j v hj=>by simp at hj))
 ·exact run_convert_bytes_back w 31 9 5 _ cap l Tryz.underlying31 Tryz.underlying5 Tryz.underlying9 (fun j hj=>by
   have:=hc j _ (byteCells_get l j hj)
   rw [add_at];exact this)
end Go.Proofs.YtdfibahafilklaaGreatDoor.MM
