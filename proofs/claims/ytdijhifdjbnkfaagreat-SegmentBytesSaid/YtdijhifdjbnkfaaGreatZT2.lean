import Derived.Test.YtdijhifdjbnkfaaGreatZT1
import Derived.Test.YtdijhifdjbnkfaaGreatProg
import Derived.WalkKit
import Derived.Lib.Hide
import Derived.Laws.AppendOwnNone
import Derived.Lib.BufferRead
import Derived.BigQuiet
set_option maxRecDepth 100000
set_option maxHeartbeats 0
set_option linter.unusedVariables false
set_option linter.unusedSimpArgs false
namespace Go.Proofs.YtdijhifdjbnkfaaGreat
open Lib (hid)
open Tryz
namespace MM
open RowKit
theorem ZaJ:(prog.info? 5).map (fun i=>(i.zero,i.size,i.bytes))=some (some (.int .u8 0),1,1):=by kernel_rfl
theorem grow {a b c:World} (h:Below a.heap.size a b) (k:Below b.heap.size b c):Below a.heap.size a c:=h.trans (k.mono h.size)
theorem ZY (b off j:Nat):(⟨b,off,none⟩:Addr).add j=⟨b,off+j,none⟩:=by unfold Addr.add;split<;>simp_all
theorem below_drewN {B:Nat} {a w:World} (h:Below B a w) (n:Nat):Below B a (w.drewN n):=⟨h.os,h.tape,h.output,h.size,h.block⟩
def Za0 (B:Nat) (w:World) (v:Value) (c:List Value):Prop :=
 ∃(p:Option Addr) (a:Nat),v=.slice p c.length a/\c.length<=a/\a<=maxLen/\(p=none->a=0) /\
   (c=[]\/∃b off,p=some ⟨b,off,none⟩/\b<B/\∀i u,c[i]? = some u->w.cell? ⟨b,off+i,none⟩=some u)
theorem Za0.below {B:Nat} {w w':World} {v:Value} {d:List Value} (h:Za0 B w v d) (g:Below B w w'):Za0 B w' v d:=by
 obtain ⟨p,c,j,f,m,l,h⟩:=h;refine ⟨p,c,j,f,m,l,?_⟩;rcases h with h|⟨b,off,k,a,e⟩
 ·exact .inl h
 ·exact .inr ⟨b,off,k,a,fun i u hi=>by rw [g.cell (p:=⟨b,off+i,none⟩) a];exact e i u hi⟩
theorem Za0.mono {B B':Nat} {w:World} {v:Value} {c:List Value} (h:Za0 B w v c) (hB:B<=B'):Za0 B' w v c:=by
 obtain ⟨p,a,f,k,e,j,h⟩:=h;refine ⟨p,a,f,k,e,j,?_⟩;rcases h with h|⟨b,off,g,i,d⟩
 ·exact .inl h
 ·exact .inr ⟨b,off,g,by omega,d⟩
def Row (w:World) (v:Value) (a:List Value):Prop:=Za0 w.heap.size w v a
theorem Row.below {w w':World} {v:Value} {a:List Value} {B:Nat} (h:Row w v a) (b:Below w.heap.size w w'):Row w' v a:=(Za0.below h b).mono b.size
theorem Row.nil_ (w:World):Row w (.slice none 0 0) []:=⟨none,0,rfl,Xc _,by unfold maxLen;omega,fun _=>rfl,.inl rfl⟩
theorem Row.of_own {w:World} {base e:Nat} {v:Value} {n:Nat} {a:List Value} (h:w.ownsRow base e 1 v n a):Row w v a:=by
 have k:a.length=n:=by have:=h.1;omega
 rcases h.2 with ⟨rfl,h0⟩|⟨g,b,j,rfl,hg,c,l,f,hs,d⟩
 ·have:a=[]:=XO (by omega);subst this;exact Row.nil_ w
 ·refine ⟨some ⟨g,0,none⟩,b,by rw [k],by omega,f,(fun h=>by cases h),.inr ⟨g,0,rfl,(Xo.1 c).1,fun i u hi => ?_⟩⟩;rw [XaG] at d;have:=Lib.cells_of_row c n i u (by rw [d];exact hi);rw [ZY] at this;exact this
theorem Za0.drop {B:Nat} {w:World} {p:Option Addr} {n a:Nat} {f:List Value} (h:Za0 B w (.slice p n a) f) (k:Nat) (l:k<=n) :
  Za0 B w (.slice (if a=k then p else p.map (·.add k)) (n - k) (a - k)) (f.drop k):=by
 obtain ⟨p',cap',g,h1,h2,m,h⟩:=h;simp only [Value.slice.injEq] at g;obtain ⟨rfl,rfl,rfl⟩:=g;refine ⟨_,_,by rw [Xj],by rw [Xj];omega,by omega,fun j => ?_,?_⟩
 ·by_cases d:a=k
  ·omega
  ·rw [Xa d] at j;have:p=none:=by cases p<;>simp_all
   have:=m this;omega
 by_cases c:k=f.length
 ·left;rw [c,Xae]
 ·rcases h with h|⟨b,off,rfl,e,d⟩
  ·subst h;simp at l;simp at c;omega
  ·right;rw [Xa (by omega)];refine ⟨b,off+k,?_,e,fun i u hi => ?_⟩
   ·simp only [Xai,Xv];rw [ZY]
   ·rw [Xbd] at hi;rw [Xav];exact d _ u hi
theorem Za0.take {B:Nat} {w:World} {p:Option Addr} {n a:Nat} {d:List Value} (h:Za0 B w (.slice p n a) d) (k:Nat) (hk:k<=n):Za0 B w (.slice p k a) (d.take k):=by
 obtain ⟨p',cap',e,h1,h2,j,h⟩:=h;simp only [Value.slice.injEq] at e;obtain ⟨rfl,rfl,rfl⟩:=e;have g:(d.take k).length=k:=by rw [Xi];omega
 refine ⟨_,_,by rw [g],by omega,by omega,j,?_⟩;rcases h with h|⟨b,off,rfl,c,f⟩
 ·subst h;left;simp
 ·right;refine ⟨b,off,rfl,c,fun i u hi=>f i u ?_⟩;rw [List.getElem?_take] at hi
  split at hi
  ·exact hi
  ·cases hi
theorem Zfo {w:World} {ops:Array Oper} {rest:List Oper} {o:Oper} {a:Act} {Q:Exit->Act->World->Prop} (m:o.guard=none) (s x:Operand) (t:TypeId)
  (H:o.op=.call { callee:=.builtin .append,args:=#[s,x],argTypes:=#[t,t] })
  (base:Nat) (e:TypeId) (i:TypeInfo) (z:Value) (d:Nat) (F:prog.underlying t=some (.slice e)) (hi:prog.info? e=some i) (M:i.zero=some z)
  (l:i.size=1) (hby:i.bytes=d) (A:z.cells.size=1)
  (v:Value) (n:Nat) (r:List Value) (hs:a.eval s=v) (f:w.ownsRow base e 1 v n r)
  (src:Value) (c:List Value) (I:a.eval x=src) (L:Row w src c) (T:∀u∈c,u.oneCell'=true)
  (B:n+c.length<=maxLen) (ZdA:(n+c.length)*d<=140737488355328) (g:base<=w.heap.size)
  (h:∀v' w',w'.ownsRow base e 1 v' (n+c.length) (r++c)->Below base w w'->wpList prog ops Q rest (a.put o.dst v') w'):wpList prog ops Q (o::rest) a w:=by
 have y:∀k,v.ownBlock=some k->base<=k:=fun k S=>(f.lt k S).1;obtain ⟨p,D,rfl,_,_,N,q⟩:=L;cases p with
 | none =>
   have R:=N rfl;subst R;rcases q with rfl|⟨b,off,C,_⟩
   ·refine wpList_append_own_none m s x t H base e i 1 F hi v n r hs f I (h v w ?_ (Below.refl _ _));simpa using f
   ·cases C
 | some G =>
   refine wpList_append_own w m s x t H base e i z 1 d F hi M l hby A (by omega) v n r hs f G c.length D c I (by omega) ?_ T B ZdA g
    (fun v' w' O J _=>h v' w' O ((Below.refl base w).grown J g y))
   intro j u E;rcases q with rfl|⟨b,off,C,_,q⟩
   ·simp at E
   ·obtain rfl:G=⟨b,off,none⟩:=XP C;rw [ZY];exact q j u E
def Z3 (B:Nat) (w:World) (v:Value) (l:Xu):Prop:=Za0 B w v (Lib.byteCells l)
def Zq (w:World) (v:Value) (l:Xu):Prop:=Z3 w.heap.size w v l
theorem Zi (l:Xu):(Lib.byteCells l).length=l.length:=by simp [Lib.byteCells]
theorem Zft (l:Xu) (k:Nat) (a:k<l.length):(Lib.byteCells l)[k]? = some (.int .u8 ((l[k]).toNat:Int)):=by simp [Lib.byteCells,a]
theorem byteCells_append (l m:Xu):Lib.byteCells (l++m)=Lib.byteCells l++Lib.byteCells m:=by simp [Lib.byteCells]
theorem ZlP (l:Xu) (k:Nat):(Lib.byteCells l).drop k=Lib.byteCells (l.drop k):=by simp [Lib.byteCells]
theorem ZlQ (l:Xu) (k:Nat):(Lib.byteCells l).take k=Lib.byteCells (l.take k):=by simp [Lib.byteCells]
theorem byteCells_one (l:Xu):∀u∈Lib.byteCells l,u.oneCell'=true:=by
 intro u a;obtain ⟨b,_,rfl⟩:=XY.1 a;rfl
def Zd (B:Nat) (w:World) (v:Value) (l:Xu):Prop:=w.ownsRow B 5 1 v l.length (Lib.byteCells l)
theorem Zd.brow {B:Nat} {w:World} {v:Value} {l:Xu} (h:Zd B w v l):Zq w v l:=Row.of_own h
def ZS (B:Nat) (l:Xu) (w:World) (e:Ending) (w':World):Prop:=∃v',e=.returned v'/\Zd B w' v' l/\Below B w w'
theorem Zdu (w:World) (x:Value) (t:TypeId):∀j u,[x][j]? = some u->(w.alloc (.cells #[x] t)).cell? ((⟨w.heap.size,0,none⟩:Addr).add j)=some u:=by
 intro j u a
 match j,a with
 | 0,a=>simp at a;subst a;simp [Addr.add]
 | (j+1),a=>simp at a
theorem ZhP (k:IntKind) (r:Int):∀u∈[Value.int k r],u.oneCell'=true:=by intro u a;simp at a;subst a;rfl
theorem Zb0 {B:Nat} {w wr w':World} {o:Obj} {v:Value} (d:Below B w wr) (a:B<=wr.heap.size) (c:∀k,v.ownBlock=some k->B<=k) (b:(wr.alloc o).grownBy w' v.ownBlock):Below B w w' :=
 (d.alloc a o).grown b (by simp;omega) c
theorem ZdN (w:World) (a:List Value) (e B:Nat) (b:B<=w.heap.size) (c:a.length<=maxLen) :
  (w.alloc (.cells a.toArray e)).ownsRow B e 1 (.slice (some ⟨w.heap.size,0,none⟩) a.length a.length) a.length a:=by
 refine ⟨by omega,.inr ⟨w.heap.size,a.length,a.toArray,rfl,b,?_,Xc _,c,by simp,by simp⟩⟩
 show (w.heap.push (.cells a.toArray e))[w.heap.size]? = _
 simp
theorem Zdf {w w':World} {base e size n B:Nat} {v:Value} {d:List Value} (h:w.ownsRow base e size v n d) (j:Below w.heap.size w w'):w'.ownsRow base e size v n d:=by
 refine ⟨h.1,?_⟩;rcases h.2 with i|⟨g,b,a,k,f,c,rest⟩
 ·exact .inl i
 ·exact .inr ⟨g,b,a,k,f,by rw [j.block g (Xo.1 c).1];exact c,rest⟩
theorem Zd.keep {w w':World} {B:Nat} {v:Value} {l:Xu} (h:Zd B w v l) (a:Below w.heap.size w w'):Zd B w' v l:=Zdf (B:=0) h a
theorem Zd.weaken {w:World} {B B':Nat} {v:Value} {l:Xu} (h:Zd B w v l) (f:B'<=B):Zd B' w v l:=by
 refine ⟨h.1,?_⟩;rcases h.2 with d|⟨g,b,a,e,c,rest⟩
 ·exact .inl d
 ·exact .inr ⟨g,b,a,e,Xx f c,rest⟩
theorem Zg {w:World} {ops:Array Oper} {rest:List Oper} {o:Oper} {a:Act} {Q:Exit->Act->World->Prop} (g:o.guard=none) (s x:Operand)
  (n:o.op=.call { callee:=.builtin .append,args:=#[s,x],argTypes:=#[23,23] }) (B:Nat) (v:Value) (l:Xu) (hs:a.eval s=v) (c:Zd B w v l)
  (src:Value) (m:Xu) (p:a.eval x=src) (k:Zq w src m) (j:l.length+m.length<=140737488355328) (b:B<=w.heap.size)
  (h:∀v' w',Zd B w' v' (l++m)->Below B w w'->wpList prog ops Q rest (a.put o.dst v') w'):wpList prog ops Q (o::rest) a w:=by
 obtain ⟨i0,hi,e,f,d⟩:=info_parts ZaJ
 refine Zfo g s x 23 n B 5 i0 (.int .u8 0) 1 underlying23 hi e f d rfl v l.length (Lib.byteCells l) hs c src (Lib.byteCells m) p k (byteCells_one m)
  (by rw [Zi];unfold maxLen;omega) (by rw [Zi];omega) b (fun v' w' i q=>h v' w' ?_ q)
 unfold Zd;rw [Xd,byteCells_append];rw [Zi] at i;exact i
theorem wpList_append_text {w:World} {ops:Array Oper} {rest:List Oper} {o:Oper} {a:Act} {Q:Exit->Act->World->Prop} (m:o.guard=none) (e x:Operand)
  (q:o.op=.call { callee:=.builtin .append,args:=#[e,x],argTypes:=#[23,9] }) (B:Nat) (v:Value) (l:Xu) (hs:a.eval e=v) (c:Zd B w v l)
  (s:ByteArray) (r:a.eval x=.string s) (d:l.length+s.size<=140737488355328) (b:B<=w.heap.size)
  (h:∀v' w',Zd B w' v' (l++s.data.toList)->Below B w w'->wpList prog ops Q rest (a.put o.dst v') w'):wpList prog ops Q (o::rest) a w:=by
 obtain ⟨i0,hi,i,j,g⟩:=info_parts ZaJ;have f:∀k,v.ownBlock=some k->B<=k:=fun k t=>(World.ownsRow.lt c k t).1
 refine Lib.wpList_append_own_string w m e x 23 9 q B 5 i0 underlying23 underlying9 hi i j g v l.length (Lib.byteCells l) hs c s r (by unfold maxLen;omega) d b
  (fun v' w' n p _=>h v' w' ?_ ((Below.refl B w).grown p b f))
 unfold Zd;rw [Xd,byteCells_append];rw [Lib.size_eq] at n;exact n
theorem Zfq {w:World} {ops:Array Oper} {rest:List Oper} {o:Oper} {a:Act} {Q:Exit->Act->World->Prop} (g:o.guard=none) (x:Operand)
  (m:o.op=.makeSlice 23 (.const (.int .i64 0)) x) (B:Nat) (C:Int) (c:Nat) (l:a.eval x=.int .i64 C) (j:C=(c:Int)) (hc:c<=281474976710656) (b:B<=w.heap.size)
  (h:∀v' w',Zd B w' v' []->Below w.heap.size w w'->wpList prog ops Q rest (a.put o.dst v') w'):wpList prog ops Q (o::rest) a w:=by
 obtain ⟨i0,hi,e,f,d⟩:=info_parts ZaJ
 exact wpList_make_own w g (.const (.int .i64 0)) x 23 m B 5 i0 (.int .u8 0) 1 underlying23 hi e f .i64 .i64 C c rfl l j (by rw [d];omega) (by unfold maxLen;omega) b
  (fun w' n i=>h _ w' n ((Below.refl w.heap.size w).grown i (Xc _) (fun k h=>by cases h)))
theorem Z3.shape {B:Nat} {w:World} {v:Value} {l:Xu} (h:Z3 B w v l):∃p a,v=.slice p l.length a/\l.length<=a/\a<=maxLen:=by
 obtain ⟨p,a,b,c,d,_,_⟩:=h;rw [Zi] at b c;exact ⟨p,a,b,c,d⟩
theorem Z3.below {B:Nat} {w w':World} {v:Value} {l:Xu} (h:Z3 B w v l) (a:Below B w w'):Z3 B w' v l:=Za0.below h a
theorem Z3.mono {B B':Nat} {w:World} {v:Value} {l:Xu} (h:Z3 B w v l) (a:B<=B'):Z3 B' w v l:=Za0.mono h a
theorem Z3.row {B:Nat} {w:World} {v:Value} {l:Xu} (h:Z3 B w v l) (a:B<=w.heap.size):Zq w v l:=Za0.mono h a
theorem Zq.below {w w':World} {v:Value} {l:Xu} (h:Zq w v l) (a:Below w.heap.size w w'):Zq w' v l:=Row.below (B:=0) h a
theorem Z3.drewN {B:Nat} {w:World} {v:Value} {l:Xu} (h:Z3 B w v l) (n:Nat):Z3 B (w.drewN n) v l:=h
theorem Z3.nil_ (B:Nat) (w:World):Z3 B w (.slice none 0 0) []:=⟨none,0,rfl,Xc _,by unfold maxLen;omega,fun _=>rfl,.inl rfl⟩
theorem Zq.nil_ (w:World):Zq w (.slice none 0 0) []:=Row.nil_ w
theorem Zq.of_own {w:World} {base e:Nat} {v:Value} {n:Nat} {l:Xu} (h:w.ownsRow base e 1 v n (Lib.byteCells l)):Zq w v l:=Row.of_own h
theorem Z3.at_ {B:Nat} {w:World} {p:Option Addr} {n c:Nat} {l:Xu} (h:Z3 B w (.slice p n c) l) {k:Nat} (f:k<l.length) :
  ∃b off,p=some ⟨b,off,none⟩/\b<B/\w.cell? ⟨b,off+k,none⟩=some (.int .u8 ((l[k]).toNat:Int)):=by
 obtain ⟨p',cap',d,_,_,_,h⟩:=h;simp only [Value.slice.injEq] at d;obtain ⟨rfl,_,_⟩:=d;rcases h with h|⟨b,off,g,a,e⟩
 ·have:=Zi l;rw [h] at this;simp at this;omega
 ·exact ⟨b,off,g,a,e k _ (Zft l k f)⟩
theorem Z3.drop {B:Nat} {w:World} {p:Option Addr} {n a:Nat} {l:Xu} (h:Z3 B w (.slice p n a) l) (k:Nat) (b:k<=n) :
  Z3 B w (.slice (if a=k then p else p.map (·.add k)) (n - k) (a - k)) (l.drop k):=by
 have:=Za0.drop h k b;rw [ZlP] at this;exact this
theorem Z3.drop2 {B:Nat} {w:World} {b off n a:Nat} {l:Xu} (h:Z3 B w (.slice (some ⟨b,off,none⟩) n a) l) (k:Nat) (e:k<=n) :
  (a=k->Z3 B w (.slice (some ⟨b,off,none⟩) (n - k) 0) (l.drop k))/\(¬a=k->Z3 B w (.slice (some ⟨b,off+k,none⟩) (n - k) (a - k)) (l.drop k)):=by
 have d:=h.drop k e;constructor
 ·intro c;rw [Xe c,c,Xas] at d;exact d
 ·intro c;rw [Xa c,Xai,ZY] at d;exact d
theorem Z3.drop3 {B:Nat} {w:World} {p:Option Addr} {n a:Nat} {l:Xu} (h:Z3 B w (.slice p n a) l) (k:Nat) (d:k<=n) :
  (a=k->Z3 B w (.slice p (n - k) 0) (l.drop k))/\(¬a=k->Z3 B w (.slice (p.map (fun x=>x.add k)) (n - k) (a - k)) (l.drop k)):=by
 have c:=h.drop k d;constructor
 ·intro b;rw [Xe b,b,Xas] at c;exact c
 ·intro b;rw [Xa b] at c;exact c
theorem Z3.take {B:Nat} {w:World} {p:Option Addr} {n a:Nat} {l:Xu} (h:Z3 B w (.slice p n a) l) (k:Nat) (b:k<=n):Z3 B w (.slice p k a) (l.take k):=by
 have:=Za0.take h k b;rw [ZlQ] at this;exact this
theorem ZfI (l m:Xu):(⟨l.toArray⟩:ByteArray)++⟨m.toArray⟩=⟨(l++m).toArray⟩:=by
 apply ByteArray.ext;simp
theorem Z3.conv {B:Nat} {w:World} {v:Value} {l:Xu} (h:Z3 B w v l):(convert 23 9 v).run prog w=.ok (.string ⟨l.toArray⟩) w:=by
 obtain ⟨p,c,e,_,_,_,h⟩:=h;rw [Zi] at e;subst e;rcases h with h|⟨b,off,rfl,_,f⟩
 ·have g:l.length=0:=by rw [<- Zi,h];rfl
  have:l=[]:=XO g;subst this
  show (convert 23 9 (.slice p 0 c)).run prog w=.ok (.string ⟨#[]⟩) w
  rw [run_convert_bytes_string w 23 9 5 p 0 c underlying23 underlying5 underlying9];cases p with
  | none=>simp [Conv.bytesToString];rfl
  | some a=>exact run_bytesToString w a 0 c [] (run_loadCells_list (P:=prog) w a [] (fun j v d=>by simp at d))
 ·exact run_convert_bytes_back w 23 9 5 _ c l underlying23 underlying5 underlying9 (fun j d=>by
   have:=f j _ (Zft l j d);rw [ZY];exact this)
variable {B g n cap j:Nat} {w:World} {l:Xu}
theorem Zd.shape {v:Value} (h:Zd B w v l) (i:l.length≠0):∃g cap,v=.slice (some ⟨g,0,none⟩) l.length cap/\B<=g/\l.length<=cap/\cap<=maxLen:=by
 rcases h.2 with ⟨_,c⟩|⟨g,cap,b,f,e,_,d,a,_⟩
 ·exact absurd c i
 ·exact ⟨g,cap,f,e,d,a⟩
theorem Zd.free (h:Zd B w (.slice (some ⟨g,0,none⟩) n cap) l) (j:Nat):w.frozen? ⟨g,j,none⟩=false:=by
 rcases h.2 with ⟨a,_⟩|⟨g',cap',b,a,hb,c,_⟩
 ·cases a
 ·simp only [Value.slice.injEq,Xv,Addr.mk.injEq] at a;obtain ⟨⟨rfl,_⟩,_⟩:=a;exact frozen_of_row w g j b _ c
theorem Zd.cell {c:UInt8} (h:Zd B w (.slice (some ⟨g,0,none⟩) n cap) l) (m:l[j]? = some c):w.cell? ⟨g,j,none⟩=some (.int .u8 (c.toNat:Int)):=by
 obtain ⟨d,i⟩:=Xal.1 m;obtain ⟨b,off,f,_,e⟩:=h.brow.at_ d;rcases h.2 with ⟨a,_⟩|⟨g',cap',k,a,hb,hh,hn,hm,hs,ht⟩
 ·cases a
 ·simp only [Value.slice.injEq,Xv,Addr.mk.injEq] at a f;obtain ⟨⟨rfl,_⟩,_⟩:=a;obtain ⟨rfl,rfl,_⟩:=f;rw [i,XL] at e;exact e
theorem Zd.set (h:Zd B w (.slice (some ⟨g,0,none⟩) n cap) l) (c:UInt8) :
  Zd B (w.setCell ⟨g,j,none⟩ (.int .u8 (c.toNat:Int))) (.slice (some ⟨g,0,none⟩) n cap) (l.set j c):=by
 refine ⟨by rw [Zi];omega,?_⟩;rcases h.2 with ⟨b,_⟩|⟨g',cap',a,b,m,e,i,f,hs,k⟩
 ·cases b
 ·have o:=b;simp only [Value.slice.injEq,Xv,Addr.mk.injEq] at b;obtain ⟨⟨rfl,_⟩,d,rfl⟩:=b;refine .inr ⟨g,cap,a.setIfInBounds j (.int .u8 (c.toNat:Int)),by rw [Xay,d],m,heap_setCell_same w g j a _ _ e,by rw [Xay];exact i,f,by rw [Array.size_setIfInBounds];exact hs,?_⟩;rw [Xay,Array.toList_setIfInBounds,List.take_set,k];simp [Lib.byteCells,List.map_set]
variable {S T:Nat->Prop} {a c w w':World}
structure Kep (S:Nat->Prop) (w w':World):Prop where
 os:w'.os=w.os
 tape:w'.tape=w.tape
 output:w'.output=w.output
 size:w.heap.size<=w'.heap.size
 block:∀k,k<w.heap.size->S k->w'.heap[k]? = w.heap[k]?
theorem Kep.refl (S:Nat->Prop) (w:World):Kep S w w:=⟨rfl,rfl,rfl,Xc _,fun _ _ _=>rfl⟩
theorem Kep.trans {b:World} (h:Kep S a b) (k:Kep S b c):Kep S a c :=
 ⟨k.os.trans h.os,k.tape.trans h.tape,k.output.trans h.output,Xx h.size k.size,fun i hi hs=>(k.block i (XK hi h.size) hs).trans (h.block i hi hs)⟩
theorem Kep.mono {b:World} (h:Kep S a b) (e:∀k,T k->S k):Kep T a b:=⟨h.os,h.tape,h.output,h.size,fun k f d=>h.block k f (e k d)⟩
theorem Kep.mono' {b:World} (h:Kep S a b) (f:∀k,k<a.heap.size->T k->S k):Kep T a b:=⟨h.os,h.tape,h.output,h.size,fun k d e=>h.block k d (f k d e)⟩
theorem Kep.drew {b:World} (h:Kep S a b):Kep S a b.drew:=⟨h.os,h.tape,h.output,h.size,h.block⟩
theorem Kep.drewN {b:World} (h:Kep S a b) (n:Nat):Kep S a (b.drewN n):=⟨h.os,h.tape,h.output,h.size,h.block⟩
theorem Za (S:Nat->Prop) (h:Below w.heap.size w w'):Kep S w w':=⟨h.os,h.tape,h.output,h.size,fun k b _=>h.block k b⟩
theorem Zr (S:Nat->Prop) (w:World) (o:Obj):Kep S w (w.alloc o):=Za S ((Below.refl _ _).alloc (Xc _) o)
theorem Zx {g i:Nat} (b:¬S g) (u:Value):Kep S w (w.setCell ⟨g,i,none⟩ u) :=
 ⟨rfl,rfl,rfl,by simp,fun k _ hs=>Below.heap_setCell _ _ _ _ (fun e=>b (by rw [<- show k=g from e];exact hs))⟩
theorem ZM {row:Option Nat} (h:w.grownBy w' row) (b:∀k,row=some k->¬S k):Kep S w w' :=
 ⟨h.os,h.tape,h.output,h.size,fun k d hs=>h.block k d (fun e=>b k e.symm hs)⟩
theorem Kep.below {B:Nat} (h:Kep S w w') (d:B<=w.heap.size) (e:∀k,k<B->S k):Below B w w' :=
 ⟨h.os,h.tape,h.output,h.size,fun k b=>h.block k (XK b d) (e k b)⟩
theorem Kep.andThen {b:World} (h:Kep S a b) (k:Kep T b c) (d:∀i,i<a.heap.size->S i->T i):Kep S a c :=
 ⟨k.os.trans h.os,k.tape.trans h.tape,k.output.trans h.output,Xx h.size k.size,fun i hi hs=>(k.block i (XK hi h.size) (d i hi hs)).trans (h.block i hi hs)⟩
theorem Zcl (S:Nat->Prop) (w:World):Kep S w w.drew:=(Kep.refl S w).drew
theorem Kep.cell (h:Kep S w w') {b:Nat} (e:b<w.heap.size) (d:S b) (i:Nat):w'.cell? ⟨b,i,none⟩=w.cell? ⟨b,i,none⟩:=World.cell?_of_block (a:=⟨b,i,none⟩) (h.block b e d)
variable {S:Nat->Prop} {w w':World} {v:Value} {B n cap b size bytes:Nat} {p:Option Addr} {e:TypeId} {P:Program} {o:Oper}
structure Codec (α:Type) where
 size:Nat
 on:(Nat->Prop)->World->List Value->α->Prop
 pos:0<size
 len:∀{S w vs a},on S w vs a->vs.length=size
 keep:∀{S T w w' vs a},on S w vs a->Kep S w w'->(∀b,b<w.heap.size->S b->T b)->on T w' vs a
 one:∀{S w vs a},on S w vs a->∀u∈vs,u.oneCell'=true
def ZpP {α:Type} (f:α->Value) (d:∀a,(f a).oneCell'=true):Codec α where
 size:=1
 on:=fun _ _ vs a=>vs=[f a]
 pos:=by decide
 len:=fun h=>by rw [h];rfl
 keep:=fun h _ _=>h
 one:=fun h u c=>by rw [h] at c;simp at c;rw [c];exact d _
def Zbw:Codec Int:=ZpP (fun z=>.int .i64 z) (fun _=>rfl)
def cU8:Codec UInt8:=ZpP (fun c=>.int .u8 (c.toNat:Int)) (fun _=>rfl)
def Zij:Codec Xu:=ZpP (fun l=>.string ⟨l.toArray⟩) (fun _=>rfl)
def ZeJ {α β:Type} (C:Codec α) (D:Codec β):Codec (α×β) where
 size:=C.size+D.size
 on:=fun S w vs p=>∃x y,vs=x++y/\C.on S w x p.1/\D.on S w y p.2
 pos:=by have:=C.pos;omega
 len:=fun ⟨x,y,h,d,c⟩=>by rw [h,Xd,C.len d,D.len c]
 keep:=fun ⟨x,y,h,d,c⟩ g f=>⟨x,y,h,C.keep d g f,D.keep c g f⟩
 one:=fun ⟨x,y,h,d,c⟩ u a=>by
  rw [h,Xak] at a;rcases a with a|a
  ·exact C.one d u a
  ·exact D.one c u a
section
variable {α : Type} (C : Codec α)
def Zbs (S:Nat->Prop) (w:World) (a:List (List Value)) (es:List α):Prop:=a.length=es.length/\∀i (h:i<a.length) (h':i<es.length),C.on S w a[i] es[i]
variable {C}
theorem Zbs.keep {T:Nat->Prop} {a:List (List Value)} {es:List α} (h:Zbs C S w a es) (d:Kep S w w') (f:∀b,b<w.heap.size->S b->T b):Zbs C T w' a es :=
 ⟨h.1,fun i hi c=>C.keep (h.2 i hi c) d f⟩
theorem Zbs.nil_ (S:Nat->Prop) (w:World):Zbs C S w [] []:=⟨rfl,fun i h=>by simp at h⟩
theorem Zbs.append {c g:List (List Value)} {es f:List α} (h:Zbs C S w c es) (k:Zbs C S w g f):Zbs C S w (c++g) (es++f):=by
 refine ⟨by rw [Xd,Xd,h.1,k.1],fun i hi d => ?_⟩
 by_cases a:i<c.length
 ·rw [Xa9 a,Xa9 (by rw [<- h.1];exact a)];exact h.2 i a (by rw [<- h.1];exact a)
 ·rw [Xd] at hi d;have e:=h.1;rw [Xba (by omega),Xba (by omega)];simp only [<- e];exact k.2 (i - c.length) (by omega) (by omega)
theorem Zbs.single {vs:List Value} {a:α} (h:C.on S w vs a):Zbs C S w [vs] [a] :=
 ⟨rfl,fun i hi c=>by obtain rfl:i=0:=(by simpa using hi);exact h⟩
theorem Zbs.take {a:List (List Value)} {es:List α} (h:Zbs C S w a es) (k:Nat):Zbs C S w (a.take k) (es.take k):=by
 refine ⟨by rw [Xi,Xi,h.1],fun i hi c => ?_⟩;rw [Xbb,Xbb];exact h.2 i (by rw [Xi] at hi;omega) (by rw [Xi] at c;omega)
theorem Zbs.drop {a:List (List Value)} {es:List α} (h:Zbs C S w a es) (k:Nat):Zbs C S w (a.drop k) (es.drop k):=by
 refine ⟨by rw [Xj,Xj,h.1],fun i hi c => ?_⟩;rw [Xa0,Xa0];exact h.2 _ (by rw [Xj] at hi;omega) (by rw [Xj] at c;omega)
theorem Zbs.lens {a:List (List Value)} {es:List α} (h:Zbs C S w a es):∀r∈a,r.length=C.size:=fun r c=>by
 obtain ⟨i,hi,rfl⟩:=Xbn c;exact C.len (h.2 i hi (by rw [<- h.1];exact hi))
theorem Zbs.ones {a:List (List Value)} {es:List α} (h:Zbs C S w a es):∀u∈a.flatten,u.oneCell'=true:=fun u c=>by
 obtain ⟨r,d,c⟩:=List.mem_flatten.1 c;obtain ⟨i,hi,rfl⟩:=Xbn d;exact C.one (h.2 i hi (by rw [<- h.1];exact hi)) u c
theorem ZeQ:∀{a:List (List Value)} {n:Nat},(∀r∈a,r.length=n)->a.flatten.length=a.length*n
 | [],n,_=>by simp
 | r::a,n,h=>by
   rw [Xaj,Xd,ZeQ fun x c=>h x (by simp [c]),h r (by simp),Xh,Nat.succ_mul];omega
theorem flat_get:∀{a:List (List Value)} {n:Nat},(∀r∈a,r.length=n)->∀(i:Nat) (hi:i<a.length) (j:Nat) (u:Value),a[i][j]? = some u->a.flatten[i*n+j]? = some u
 | r::a,n,h,0,_,j,u,hu=>by
   rw [Xbc] at hu;have d:=(Xal.1 hu).1;rw [Nat.zero_mul,XL,Xaj,List.getElem?_append_left d];exact hu
 | r::a,n,h,i+1,hi,j,u,hu=>by
   have c:=h r (by simp);have e:(i+1)*n+j=r.length+(i*n+j):=by rw [Nat.succ_mul,c];omega
   rw [Xaj,e,Xbt (by omega),Nat.add_sub_cancel_left];exact flat_get (fun x f=>h x (by simp [f])) i (by simpa using hi) j u (by simpa using hu)
theorem ZnY:∀{a:List (List Value)} {n:Nat},(∀r∈a,r.length=n)->∀k,(a.take k).flatten=a.flatten.take (k*n)
 | [],n,_,k=>by simp
 | r::a,n,h,0=>by simp
 | r::a,n,h,k+1=>by
   have d:=h r (by simp);have c:r.take (k*n+n)=r:=XM (by omega);have f:k*n+n - n=k*n:=by omega
   rw [Xaz,Xaj,Xaj,ZnY (fun x g=>h x (by simp [g])) k,Nat.succ_mul,List.take_append,d,c,f]
theorem ZnW:∀{a:List (List Value)} {n:Nat},(∀r∈a,r.length=n)->∀k,(a.drop k).flatten=a.flatten.drop (k*n)
 | [],n,_,k=>by simp
 | r::a,n,h,0=>by simp
 | r::a,n,h,k+1=>by
   have d:=h r (by simp);have c:r.drop (k*n+n)=[]:=XaH (by omega);have f:k*n+n - n=k*n:=by omega
   rw [XaW,Xaj,ZnW (fun x g=>h x (by simp [g])) k,Nat.succ_mul,List.drop_append,d,c,f,Xz]
variable (C)
def ZD (S:Nat->Prop) (w:World) (v:Value) (es:List α):Prop :=
 ∃(p:Option Addr) (cap:Nat) (a:List (List Value)),v=.slice p es.length cap/\es.length<=cap/\cap<=maxLen/\(p=none->cap=0)/\Zbs C S w a es /\
   (es=[]\/∃b off,p=some ⟨b,off,none⟩/\b<w.heap.size/\S b/\∀j u,a.flatten[j]? = some u->w.cell? ⟨b,off+j,none⟩=some u)
def ZN (w:World) (v:Value) (es:List α):Prop:=ZD C (fun _=>True) w v es
def ZgP (B:Nat) (w:World) (v:Value) (es:List α):Prop:=ZD C (fun b=>b<B) w v es
variable {C}
theorem ZD.keep {T:Nat->Prop} {es:List α} (h:ZD C S w v es) (d:Kep S w w') (f:∀b,b<w.heap.size->S b->T b):ZD C T w' v es:=by
 obtain ⟨p,cap,c,q,t,m,s,i,h⟩:=h;refine ⟨p,cap,c,q,t,m,s,i.keep d f,?_⟩;rcases h with h|⟨b,off,r,a,g,k⟩
 ·exact .inl h
 ·exact .inr ⟨b,off,r,XK a d.size,f b a g,fun j u l=>by rw [d.cell a g];exact k j u l⟩
theorem ZD.weak {T:Nat->Prop} {es:List α} (h:ZD C S w v es) (a:∀b,b<w.heap.size->S b->T b):ZD C T w v es:=h.keep (Kep.refl _ _) a
theorem ZD.any {es:List α} (h:ZD C S w v es):ZN C w v es:=h.weak fun _ _ _=>trivial
theorem ZN.below {es:List α} (h:ZN C w v es) (a:Below w.heap.size w w'):ZN C w' v es:=ZD.keep h (Za _ a) fun _ _ h=>h
theorem ZN.bel {es:List α} (h:ZN C w v es):ZgP C w.heap.size w v es:=ZD.weak h fun _ h _=>h
theorem Ziu (a:Below B w w'):Kep (fun b=>b<B) w w':=⟨a.os,a.tape,a.output,a.size,fun k _ c=>a.block k c⟩
theorem ZgP.below {es:List α} (h:ZgP C B w v es) (a:Below B w w'):ZgP C B w' v es:=ZD.keep h (Ziu a) fun _ _ h=>h
theorem ZD.shape {es:List α} (h:ZD C S w v es):∃p cap,v=.slice p es.length cap/\es.length<=cap/\cap<=maxLen/\(p=none->cap=0):=by
 obtain ⟨p,cap,a,d,g,c,f,_⟩:=h;exact ⟨p,cap,d,g,c,f⟩
theorem ZD.oneCell {es:List α} (h:ZD C S w v es):v.oneCell'=true:=by
 obtain ⟨p,cap,a,rfl,_⟩:=h;rfl
theorem ZD.nil_ (S:Nat->Prop) (w:World):ZD C S w (.slice none 0 0) []:=⟨none,0,[],rfl,Xc _,by unfold maxLen;omega,fun _=>rfl,Zbs.nil_ _ _,.inl rfl⟩
theorem ZD.at_ {es:List α} (h:ZD C S w (.slice p n cap) es) {k:Nat} (f:k<es.length) :
  ∃b off vs,p=some ⟨b,off,none⟩/\b<w.heap.size/\S b/\C.on S w vs es[k]/\∀j u,vs[j]? = some u->w.cell? ⟨b,off+k*C.size+j,none⟩=some u:=by
 obtain ⟨p',cap',c,i,_,_,_,d,h⟩:=h;simp only [Value.slice.injEq] at i;obtain ⟨rfl,_,_⟩:=i;rcases h with h|⟨b,off,r,g,q,l⟩
 ·subst h;simp at f
 ·have a:k<c.length:=by rw [d.1];exact f
  exact ⟨b,off,c[k],r,g,q,d.2 k a f,fun j u m=>by rw [Xav];exact l _ u (flat_get d.lens k a j u m)⟩
theorem ZD.take {es:List α} (h:ZD C S w (.slice p n cap) es) (k:Nat) (hk:k<=n):ZD C S w (.slice p k cap) (es.take k):=by
 obtain ⟨p',cap',c,g,h1,h2,q,f,h⟩:=h;simp only [Value.slice.injEq] at g;obtain ⟨rfl,rfl,rfl⟩:=g;have l:(es.take k).length=k:=by rw [Xi];omega
 refine ⟨_,_,c.take k,by rw [l],by omega,by omega,q,f.take k,?_⟩;rcases h with h|⟨b,off,rfl,d,m,i⟩
 ·subst h;left;simp
 ·refine .inr ⟨b,off,rfl,d,m,fun j u a=>i j u ?_⟩;rw [ZnY f.lens,List.getElem?_take] at a
  split at a
  ·exact a
  ·cases a
theorem ZD.drop {es:List α} (h:ZD C S w (.slice p n cap) es) (k:Nat) (r:k<=n) :
  ZD C S w (.slice (if cap=k then p else p.map (·.add (k*C.size))) (n - k) (cap - k)) (es.drop k):=by
 obtain ⟨p',cap',d,l,h1,h2,s,g,h⟩:=h;simp only [Value.slice.injEq] at l;obtain ⟨rfl,rfl,rfl⟩:=l;refine ⟨_,_,d.drop k,by rw [Xj],by rw [Xj];omega,by omega,fun m => ?_,g.drop k,?_⟩
 ·by_cases c:cap=k
  ·omega
  ·rw [Xa c] at m;have:p=none:=by cases p<;>simp_all
   have:=s this;omega
 by_cases a:k=es.length
 ·left;rw [a,Xae]
 ·rcases h with h|⟨b,off,rfl,f,q,c⟩
  ·subst h;simp at r;simp at a;omega
  ·rw [Xa (by omega)];refine .inr ⟨b,off+k*C.size,?_,f,q,fun j u i => ?_⟩
   ·simp only [Xai,Xv];rw [ZY]
   ·rw [ZnW g.lens,Xbd] at i;rw [Xav];exact c _ u i
end
def Zfu {α:Type} (C:Codec α):Codec (List α) where
 size:=1
 on:=fun S w vs es=>∃v,vs=[v]/\ZD C S w v es
 pos:=by decide
 len:=fun ⟨v,h,_⟩=>by rw [h];rfl
 keep:=fun ⟨v,h,c⟩ f d=>⟨v,h,c.keep f d⟩
 one:=fun ⟨v,h,c⟩ u a=>by rw [h] at a;simp at a;rw [a];exact c.oneCell
theorem Zll {α:Type} {f:α->Value} {l:∀a,(f a).oneCell'=true} {es:List α} (h:ZD (ZpP f l) S w v es) (z:∀b,b<w.heap.size->S b->b<B):Za0 B w v (es.map f):=by
 obtain ⟨p,cap,d,x,t,s,A,g,h⟩:=h;refine ⟨p,cap,by rw [XE];exact x,by rw [XE];exact t,s,A,?_⟩;rcases h with h|⟨b,off,y,k,j,q⟩
 ·subst h;exact .inl rfl
 ·refine .inr ⟨b,off,y,z b k j,fun i u hi=>q i u ?_⟩;rw [Xa1] at hi;obtain ⟨a,r,rfl⟩:=Option.map_eq_some_iff.1 hi;obtain ⟨m,rfl⟩:=Xal.1 r;have c:i<d.length:=by rw [g.1];exact m
  have e:=g.2 i c m;have:=flat_get g.lens i c 0 (f es[i]) (by rw [show d[i]=[f es[i]] from e];rfl);rw [show (ZpP f l).size=1 from rfl,XaG,Xah] at this;exact this
theorem Zdb {α:Type} (f:α->Value):∀es:List α,(es.map fun a=>[f a]).flatten=es.map f
 | []=>rfl
 | a::es=>by rw [XF,Xaj,Zdb f es];rfl
theorem ZtS {α:Type} {f:α->Value} {q:∀a,(f a).oneCell'=true} {es:List α} (h:Za0 B w v (es.map f)) (m:B<=w.heap.size):ZD (ZpP f q) (fun b=>b<B) w v es:=by
 obtain ⟨p,cap,g,d,s,r,h⟩:=h;rw [XE] at g d;refine ⟨p,cap,es.map fun a=>[f a],g,d,s,r,⟨by simp,fun i hi l=>by simp [ZpP]⟩,?_⟩;rcases h with h|⟨b,off,k,c,j⟩
 ·exact .inl (Xbe.1 h)
 ·exact .inr ⟨b,off,k,XK c m,c,fun i u hi=>j i u (by rw [Zdb] at hi;exact hi)⟩
def Apt (e:TypeId) (B:Nat) (w:World) (b:Nat):Prop:=b<B\/∀a fr,w.heap[b]? ≠ some (.cells a e fr)
theorem ZiU (h:Apt e B w b) (c:w'.heap[b]? = w.heap[b]?):Apt e B w' b:=by
 rcases h with h|h
 ·exact .inl h
 ·exact .inr fun a fr=>by rw [c];exact h a fr
theorem Zbk {j:List Value} (h:w.ownsRow B e size v n j) {g:Nat} (d:v.ownBlock=some g):B<=g/\∃a fr,w.heap[g]? = some (.cells a e fr):=by
 rcases h.2 with ⟨rfl,h0⟩|⟨i,cap,a,rfl,c,f,_⟩
 ·cases d
 ·have:i=g:=XP d;subst this;exact ⟨c,a,_,f⟩
theorem Zc1 {f:List Value} (h:w.ownsRow B e size v n f) (a:Apt e B w b):v.ownBlock≠some b:=by
 intro d;obtain ⟨h1,c,fr,g⟩:=Zbk h d;rcases a with a|a
 ·omega
 ·exact a c fr g
section
variable {α : Type} (C : Codec α)
def ZbI (e:TypeId) (B:Nat) (w:World) (v:Value) (es:List α):Prop:=∃a,w.ownsRow B e C.size v es.length a.flatten/\Zbs C (Apt e B w) w a es
variable {C}
theorem ZbI.nil_ (e:TypeId) (B:Nat) (w:World):ZbI C e B w (.slice none 0 0) []:=⟨[],World.ownsRow_nil _ _ _ _,Zbs.nil_ _ _⟩
theorem ZbI.keep {es:List α} (h:ZbI C e B w v es) (c:Below w.heap.size w w'):ZbI C e B w' v es:=by
 obtain ⟨a,g,i⟩:=h;exact ⟨a,Zdf (B:=0) g c,i.keep (Za _ c) fun b d f=>ZiU f (c.block b d)⟩
theorem ZbI.alloc {es:List α} (h:ZbI C e B w v es) (o:Obj):ZbI C e B (w.alloc o) v es:=h.keep ((Below.refl _ _).alloc (Xc _) o)
theorem ZbI.ron {es:List α} (h:ZbI C e B w v es) (q:∀g,v.ownBlock=some g->S g) (t:∀b,b<w.heap.size->Apt e B w b->S b):ZD C S w v es:=by
 obtain ⟨a,s,i⟩:=h;rcases s.2 with ⟨rfl,m⟩|⟨g,cap,k,rfl,hg,f,c,d,hs,r⟩
 ·have:es=[]:=XO m;subst this;exact ZD.nil_ _ _
 ·refine ⟨some ⟨g,0,none⟩,cap,a,rfl,c,d,(fun h=>by cases h),i.keep (Kep.refl _ _) t,.inr ⟨g,0,rfl,(Xo.1 f).1,q g rfl,fun j u l => ?_⟩⟩;have:=Lib.cells_of_row f (es.length*C.size) j u (by rw [r];exact l);rw [ZY] at this;exact this
theorem ZbI.any {es:List α} (h:ZbI C e B w v es):ZN C w v es:=h.ron (fun _ _=>trivial) (fun _ _ _=>trivial)
theorem ZbI.shape {es:List α} (h:ZbI C e B w v es):∃p cap,v=.slice p es.length cap/\es.length<=cap/\cap<=maxLen/\(p=none->cap=0):=ZD.shape h.any
theorem ZbI.lt {es:List α} (h:ZbI C e B w v es):∀k,v.ownBlock=some k->B<=k/\k<w.heap.size:=fun k a=>by obtain ⟨c,d,_⟩:=h;exact World.ownsRow.lt d k a
theorem ZdD (w:World) (vs:List Value) (e:TypeId):∀j u,vs[j]? = some u->(w.alloc (.cells vs.toArray e)).cell? ((⟨w.heap.size,0,none⟩:Addr).add j)=some u:=fun j u a=>by
 rw [ZY,XL,cell_of_row _ _ j _ _ _ (heap_alloc_new w (.cells vs.toArray e))];simpa using a
variable (C)
structure Elem (P:Program) (T e:TypeId) (bytes:Nat):Prop where
 under:P.underlying T=some (.slice e)
 info:∃i z,P.info? e=some i/\i.zero=some z/\i.size=C.size/\i.bytes=bytes/\z.cells.size=C.size
variable {C}
theorem Zrr {T:TypeId} (E:Elem C P T e bytes) {a:Act} {K:Act->World->Prop} {Q:Exit->Act->World->Prop} (s x:Operand)
  (R:o.op=.call { callee:=.builtin .append,args:=#[s,x],argTypes:=#[T,T] }) (B:Nat) (v:Value) (es:List α) (c:World) (vs:List Value) (d:α) (W:w=c.alloc (.cells vs.toArray e)) (hs:a.eval s=v) (r:ZbI C e B c v es)
  (y:C.on (Apt e B c) c vs d) (V:a.eval x=.slice (some ⟨c.heap.size,0,none⟩) 1 1) (q:es.length+1<=maxLen) (hby:(es.length+1)*bytes<=140737488355328) (j:B<=c.heap.size)
  (h:∀v' w',ZbI C e B w' v' (es++[d])->Below B c w'->Kep (fun k=>v.ownBlock≠some k) w w'->K (a.put o.dst v') w'):o.wp P a w K Q:=by
 subst W;have l:Below c.heap.size c (c.alloc (.cells vs.toArray e)):=(Below.refl _ _).alloc (Xc _) _;obtain ⟨i,z,hi,N,F,u,I⟩:=E.info;obtain ⟨D,J,U⟩:=r.alloc (.cells vs.toArray e);have t:C.on (Apt e B (c.alloc (.cells vs.toArray e))) (c.alloc (.cells vs.toArray e)) vs d:=C.keep y (Za _ l) fun b g m=>ZiU m (l.block b g);have G:∀k,v.ownBlock=some k->B<=k:=fun k f=>(World.ownsRow.lt J k f).1;have M:=C.len y;refine wp_append_own _ s x T R B e i z C.size bytes E.under hi N F u I C.pos v es.length _ hs J ⟨c.heap.size,0,none⟩ 1 1 vs V (by rw [M,Nat.one_mul]) (ZdD c vs e) (C.one y) q hby (by simp;omega) (fun v' w' O A _ => ?_);have L:Below B (c.alloc (.cells vs.toArray e)) w':=(Below.refl B _).grown A (by simp;omega) G;have f:Kep (Apt e B (c.alloc (.cells vs.toArray e))) (c.alloc (.cells vs.toArray e)) w':=ZM A fun k f m=>Zc1 J m f;refine h v' w' ⟨D++[vs],?_,?_⟩ ((l.mono j).trans L) (ZM A fun k f H=>H f)
 ·rw [Xd,XaO,Xbo];exact O
 ·exact (U.append (Zbs.single t)).keep f fun b g m=>ZiU m (f.block b g m)
theorem ZgN {T:TypeId} (E:Elem C P T e bytes) {ops:Array Oper} {rest:List Oper} {a:Act} {Q:Exit->Act->World->Prop} (j:o.guard=none) (s x:Operand)
  (l:o.op=.call { callee:=.builtin .append,args:=#[s,x],argTypes:=#[T,T] }) (B:Nat) (v:Value) (es:List α) (c:World) (vs:List Value) (d:α) (z:w=c.alloc (.cells vs.toArray e)) (hs:a.eval s=v) (i:ZbI C e B c v es)
  (t:C.on (Apt e B c) c vs d) (r:a.eval x=.slice (some ⟨c.heap.size,0,none⟩) 1 1) (g:es.length+1<=maxLen) (hby:(es.length+1)*bytes<=140737488355328) (f:B<=c.heap.size)
  (h:∀v' w',ZbI C e B w' v' (es++[d])->Below B c w'->Kep (fun k=>v.ownBlock≠some k) w w'->wpList P ops Q rest (a.put o.dst v') w'):wpList P ops Q (o::rest) a w :=
 wpList_plain j fun _ q=>Zrr E s x l B v es c vs d z hs i t r g hby f fun v' w' y m u=>q _ _ (h v' w' y m u)
end
theorem Zb5 (l m:Xu):((⟨l.toArray⟩:ByteArray).toList == (⟨m.toArray⟩:ByteArray).toList)=decide (l=m):=by
 rw [Lib.toList_data,Lib.toList_data]
 by_cases h:l=m
 ·subst h;simp
 ·simp [h]
end MM
namespace SG
open RowKit MM
def Zpy (b:Bool) (w:World) (e:Ending) (w':World):Prop:=e=.returned (.bool b)/\w=w'
theorem ZnS (u v:Value) (a b:Xu) (w:World) (e:Zq w u a) (d:Zq w v b):Calls prog 50 #[u,v] w (Zpy (decide (a=b)) w):=by
 have h1:=Z3.conv e;have h2:=Z3.conv d;have c:=Zb5 a b;obtain ⟨p1,c1,rfl,_⟩:=e.shape;obtain ⟨p2,c2,rfl,_⟩:=d.shape;clear e d;cases hd:decide (a=b) with
 | true =>
   rw [hd] at c;have f:(a == b)=true:=by rw [Xan];exact of_decide_eq_true hd
   clear hd;go_enter func50,ntmps50;go_wp2_with fail;go_ret;exact ⟨rfl,rfl⟩
 | false =>
   rw [hd] at c;have f:(a == b)=false:=by rw [Xab];exact of_decide_eq_false hd
   clear hd;go_enter func50,ntmps50;go_wp2_with fail;go_ret;exact ⟨rfl,rfl⟩
theorem ZxL (u v:Value) (b a:Xu) (w:World) (d:Zq w u b) (c:Zq w v a):Calls prog 152 #[u,v] w (Zpy (decide (b.take a.length=a)) w):=by
 obtain ⟨p1,c1,rfl,m,f⟩:=d.shape;obtain ⟨p2,c2,rfl,_⟩:=c.shape;unfold maxLen at f
 by_cases h:a.length<=b.length
 ·have g:=ZnS _ _ _ a w (Z3.take d a.length h) c;have o:decide ((b.length:Int)>=(a.length:Int))=true:=Xt;have l:decide ((a.length:Int)<=(b.length:Int))=true:=Xt;have k:decide (a.length<=b.length)=true:=Xw h;have i1:(a.length:Int)<=(c1:Int):=by omega
  have j:=hid g;obtain ⟨B,i⟩:=Xn (decide (b.take a.length=a));rw [i] at j ⊢;clear d c g h i;go_enter func152,ntmps152;go_wp2_with fail;refine j.out.mono ?_;rintro e w1 ⟨rfl,rfl⟩;go_wp2_with fail;go_ret;exact ⟨rfl,rfl⟩
 ·have e:decide (b.take a.length=a)=false:=by
   rw [Xk];intro n;have:=Xp List.length n;rw [Xi] at this;omega
  have o:decide ((b.length:Int)>=(a.length:Int))=false:=Xf;have l:decide ((a.length:Int)<=(b.length:Int))=false:=Xf;have k:decide (a.length<=b.length)=false:=XB h;rw [e];clear d c h e;go_enter func152,ntmps152;go_wp2_with fail;go_ret;exact ⟨rfl,rfl⟩
def Zs8 (B:Nat) (b a:Xu) (w:World) (e:Ending) (w':World):Prop:=∃u,e=.returned (.tuple #[u,.bool (decide (b.take a.length=a))])/\(b.take a.length=a->Z3 B w' u (b.drop a.length))/\u.oneCell'=true/\w=w'
theorem ZwY (B:Nat) (u v:Value) (b a:Xu) (w:World) (d:Z3 B w u b) (o:B<=w.heap.size) (f:Zq w v a):Calls prog 99 #[u,v] w (Zs8 B b a w):=by
 have c:=ZxL u v b a w (d.row o) f;obtain ⟨p1,c1,rfl,n,i⟩:=d.shape;obtain ⟨p2,c2,rfl,_⟩:=f.shape;unfold maxLen at i;unfold Zs8
 by_cases h:b.take a.length=a
 ·rw [Xw h] at c ⊢
  have p:a.length<=b.length:=by
   have:=Xp List.length h;rw [Xi] at this;omega
  have g:=hid c;have l:=hid (Z3.drop3 d a.length p);have i1:(a.length:Int)<=(b.length:Int):=by omega
  have i2:(b.length:Int)<=(c1:Int):=by omega
  clear d f h c
  by_cases j:c1=a.length
  ·subst j;go_enter func99,ntmps99;go_wp2_with fail;refine g.out.mono ?_;rintro e k ⟨rfl,rfl⟩;go_wp2_with fail;go_ret2;exact ⟨_,rfl,fun _=>(by have h:=l.out.1 trivial;rw [show b.length - a.length=0 by omega] at h;exact h),rfl,rfl⟩
  ·go_enter func99,ntmps99;go_wp2_with fail;refine g.out.mono ?_;rintro e k ⟨rfl,rfl⟩;go_wp2_with fail;go_ret2;exact ⟨_,rfl,fun _=>l.out.2 j,rfl,rfl⟩
 ·rw [XB h] at c ⊢;have g:=hid c;have m:=hid h;clear d f h c;go_enter func99,ntmps99;go_wp2_with fail;refine g.out.mono ?_;rintro e k ⟨rfl,rfl⟩;go_wp2_with fail;go_ret2;exact ⟨_,rfl,fun h=>absurd h m.out,rfl,rfl⟩
end SG
namespace PM
open VM
variable {l r l1:Xu} {lo hi:Int} {j i x:Nat}
abbrev Zm:=Int×List Int
def Za2 (b:Int):Int->List Int->Bool
 | _,[]=>true
 | a,z::zs=>decide (a<z)&&decide (z<b)&&Za2 b z zs
def ZcM (a:Int) (b:List Int):Bool:=Za2 a (-1) b
def Zhn (a:Int) (b:List Int):Nat->Int
 | 0=>a
 | k+1=>b.getD k 0
theorem Zov (c:Int):∀(b:List Int) (a:Int),Za2 c a b=true↔∀k,k<b.length->Zhn a b k<b.getD k 0/\b.getD k 0<c
 | [],a=>by simp [Za2]
 | z::b,a=>by
   rw [Za2,Xy,Xy,Xg,Xg,Zov c b z];constructor
   ·rintro ⟨⟨g,e⟩,f⟩ k d;cases k with
    | zero=>exact ⟨g,e⟩
    | succ k =>
      have:=f k (by simpa using d);cases k with
      | zero=>exact this
      | succ k=>exact this
   ·intro h;refine ⟨h 0 (by simp),fun k d => ?_⟩;have:=h (k+1) (by simpa using d);cases k with
    | zero=>exact this
    | succ k=>exact this
theorem ZhT (a:Int) (b:List Int):ZcM a b=true↔∀k,k<b.length->Zhn (-1) b k<b.getD k 0/\b.getD k 0<a:=Zov a b (-1)
theorem ZiE (c:Int) (b:List Int):ZcM c b=true↔∀k,k<b.length->0<=b.getD k 0/\b.getD k 0<c/\(0<k->b.getD (k - 1) 0<b.getD k 0):=by
 rw [ZhT];constructor
 ·intro h
  have d:∀k,k<b.length->0<=b.getD k 0:=by
   intro k
   induction k with
   | zero=>intro a;have:=(h 0 a).1;simp only [Zhn] at this;omega
   | succ k ih=>intro a;have h1:=ih (by omega);have:=(h (k+1) a).1;simp only [Zhn] at this;omega
  intro k a;refine ⟨d k a,(h k a).2,fun h0 => ?_⟩;have:=(h k a).1;cases k with
  | zero=>omega
  | succ k=>exact this
 ·intro h k a;refine ⟨?_,(h k a).2.1⟩;cases k with
  | zero=>have:=(h 0 a).1;simp only [Zhn];omega
  | succ k=>exact (h (k+1) a).2.2 (by omega)
theorem Zow (b:Int):∀(c:List Int) (a:Int),Za2 b a c=true->c≠[]->(c.length:Int)<=b - a - 1
 | [],_,_,h=>absurd rfl h
 | [z],a,h,_=>by simp [Za2] at h;simp;omega
 | z::y::c,a,h,_=>by
   rw [Za2,Xy,Xy,Xg] at h;have:=Zow b (y::c) z h.2 (by simp);rw [Xh,Int.natCast_add];omega
def ZdZ (p:Zm):Bool:=p.2.isEmpty || !ZcM 1048576 p.2
def Zeh (ps:List Zm):List Int:=ps.map (·.1)
def isL (ps:List Zm):Bool:=ZcM 65536 (Zeh ps) && !ps.any ZdZ
theorem Zo7 (ps:List Zm):isL ps=true↔ZcM 65536 (Zeh ps)=true/\∀p∈ps,p.2≠[]/\ZcM 1048576 p.2=true:=by
 unfold isL;rw [Xy,Bool.not_eq_true',List.any_eq_false];constructor
 ·rintro ⟨c,a⟩;refine ⟨c,fun p b => ?_⟩;have:=a p b;unfold ZdZ at this;simp at this;exact ⟨by simpa using this.1,this.2⟩
 ·rintro ⟨c,a⟩;refine ⟨c,fun p b => ?_⟩;have:=a p b;unfold ZdZ;simp [this.1,this.2]
def okP (n:Int) (p:Zm):Prop:=n<=p.1/\p.1<65536/\p.2≠[]/\ZcM 1048576 p.2=true
def okL:Int->List Zm->Prop
 | _,[]=>True
 | n,p::ps=>okP n p/\okL (p.1+1) ps
theorem ZtI:∀(ps:List Zm) (n:Int),okL n ps↔Za2 65536 (n - 1) (Zeh ps)=true/\∀p∈ps,p.2≠[]/\ZcM 1048576 p.2=true
 | [],n=>by simp [okL,Zeh,Za2]
 | p::ps,n=>by
   have e:Zeh (p::ps)=p.1::Zeh ps:=rfl;have ih:=ZtI ps (p.1+1);rw [show p.1+1 - 1=p.1 by omega] at ih;rw [okL,ih,e,Za2,Xy,Xy,Xg,Xg,List.forall_mem_cons];unfold okP;constructor
   ·rintro ⟨⟨g,f,d,b⟩,a,c⟩;exact ⟨⟨⟨by omega,f⟩,a⟩,⟨d,b⟩,c⟩
   ·rintro ⟨⟨⟨g,f⟩,a⟩,⟨d,b⟩,c⟩;exact ⟨⟨by omega,f,d,b⟩,a,c⟩
theorem Zee (ps:List Zm):isL ps=true↔okL 0 ps:=by
 rw [Zo7,ZtI];rfl
def ZI:Int->List Zm->Int
 | n,[]=>n
 | _,p::ps=>ZI (p.1+1) ps
theorem Zde:∀(a b:List Zm) (n:Int),ZI n (a++b)=ZI (ZI n a) b
 | [],_,_=>rfl
 | p::a,b,n=>Zde a b (p.1+1)
theorem Zgp:∀(a b:List Zm) (n:Int),okL n (a++b)↔okL n a/\okL (ZI n a) b
 | [],_,_=>by simp [okL,ZI]
 | p::a,b,n=>by rw [XJ,okL,okL,ZI,Zgp a b (p.1+1),and_assoc]
theorem ZbN:∀(ps:List Zm) (n:Int),okL n ps->n<=ZI n ps/\(n<=65536->ZI n ps<=65536)/\(ps.length:Int)<=ZI n ps - n
 | [],n,_=>by simp [ZI]
 | p::ps,n,h=>by
   rw [okL] at h;have a:=h.1;unfold okP at a;have:=ZbN ps (p.1+1) h.2;rw [ZI,Xh,Int.natCast_add];omega
theorem Zpe (ps:List Zm) (h:okL 0 ps):ps.length<=65536:=by
 have:=ZbN ps 0 h;omega
theorem ZfT {ps:List Zm} {n:Int} (h:okL n ps) (k:Nat):okL n (ps.take k):=by
 rw [<- X6 k ps,Zgp] at h;exact h.1
theorem Zhf {ps:List Zm} {n:Int} (h:okL n ps) (k:Nat):okL (ZI n (ps.take k)) (ps.drop k):=by
 have a:=h;rw [<- X6 k ps,Zgp] at a;exact a.2
def ZaB:Int->List Int->Xu
 | _,[]=>[]
 | n,z::zs=>Zb (z - n).toNat++ZaB (z+1) zs
def ZeY (n:Int) (p:Zm):Xu:=Zb (p.1 - n).toNat++(Zb p.2.length++ZaB 0 p.2)
def ZF:Int->List Zm->Xu
 | _,[]=>[]
 | n,p::ps=>ZeY n p++ZF (p.1+1) ps
theorem ZbR:∀(a b:List Zm) (n:Int),ZF n (a++b)=ZF n a++ZF (ZI n a) b
 | [],_,_=>rfl
 | p::a,b,n=>by rw [XJ,ZF,ZF,ZI,ZbR a b (p.1+1),Xl]
def ZaV:Int->List Int->Int
 | n,[]=>n
 | _,z::zs=>ZaV (z+1) zs
theorem Zgl:∀(a:List Int) (n z:Int),ZaV n (a++[z])=z+1
 | [],n,z=>rfl
 | y::a,n,z=>Zgl a (y+1) z
theorem Zis:∀(a:List Int) (n z:Int),ZaB n (a++[z])=ZaB n a++Zb (z - ZaV n a).toNat
 | [],n,z=>by simp [ZaB,ZaV]
 | y::a,n,z=>by
   rw [XJ,ZaB,ZaB,Zis a (y+1) z,Xl];rfl
theorem Zgx (a:Int):∀(b:List Int) (n z:Int),Za2 a (n - 1) (b++[z])=(Za2 a (n - 1) b&&(decide (ZaV n b<=z)&&decide (z<a)))
 | [],n,z=>by
   show (decide (n - 1<z)&&decide (z<a)&&true)=(true&&(decide (n<=z)&&decide (z<a)))
   have e:(n - 1<z)=(n<=z):=propext ⟨fun h=>by omega,fun h=>by omega⟩;simp only [e,Bool.and_true,Xag]
 | y::b,n,z=>by
   have:=Zgx a b (y+1) z;rw [show y+1 - 1=y by omega] at this;rw [XJ,Za2,Za2,this,ZaV,Xbh,Xbh,Xbh]
theorem Zhb (a:Int):∀(b:List Int) (n:Int),n<=a->Za2 a (n - 1) b=true->n<=ZaV n b/\ZaV n b<=a
 | [],n,h,_=>⟨Xa7 _,h⟩
 | z::b,n,h,hr=>by
   rw [Za2,Xy,Xy,Xg,Xg] at hr;have:=Zhb a b (z+1) (by omega) (by rw [show z+1 - 1=z by omega];exact hr.2);rw [ZaV];omega
def ZbC (ps:List Zm) (i:Nat):Nat:=(ZF 0 (ps.take (32*i))).length
def h1L (ps:List Zm) (i:Nat):Nat:=(ZI 0 (ps.take (32*(i+1))) - 1).toNat
def h2L (ps:List Zm) (i:Nat):Nat:=ZbC ps (i+1) - ZbC ps i
def ZgI (ps:List Zm) (i:Nat):Xu:=Zb (h1L ps i)++Zb (h2L ps i)
def Z4 (ps:List Zm):Nat->Nat->Xu
 | _,0=>[]
 | i,c+1=>ZgI ps i++Z4 ps (i+1) c
theorem Zha (ps:List Zm):∀(c i:Nat),Z4 ps i (c+1)=Z4 ps i c++ZgI ps (i+c)
 | 0,i=>by simp [Z4]
 | c+1,i=>by rw [Z4,Zha ps c (i+1),Z4,Xl,show i+1+c=i+(c+1) by omega]
def cnt (n:Nat):Nat:=(n+31) / 32
def ZV (ps:List Zm):Xu:=Zb ps.length++Z4 ps 0 (cnt ps.length)++ZF 0 ps
def Dec (b:Xu) (ps:List Zm):Prop:=isL ps=true/\ZV ps=b
theorem ZfN:∀(a:List Int) (n:Int),a.length<=(ZaB n a).length/\(ZaB n a).length<=10*a.length
 | [],_=>by simp [ZaB]
 | z::a,n=>by
   have:=ZfN a (z+1);have h:=Zc (z - n).toNat;rw [ZaB,Xd,Xh];omega
theorem Zj9 (n:Int) (p:Zm):2+p.2.length<=(ZeY n p).length/\(ZeY n p).length<=20+10*p.2.length:=by
 have h1:=Zc (p.1 - n).toNat;have h2:=Zc p.2.length;have h3:=ZfN p.2 0;unfold ZeY;rw [Xd,Xd];omega
def ZaU:List Zm->Nat
 | []=>0
 | p::ps=>p.2.length+ZaU ps
theorem Zes:∀(ps:List Zm) (n:Int),(ZF n ps).length<=20*ps.length+10*ZaU ps
 | [],_=>by simp [ZF]
 | p::ps,n=>by
   have:=Zes ps (p.1+1);have h:=Zj9 n p;rw [ZF,ZaU,Xd,Xh];omega
theorem ZgW:∀(ps:List Zm) (n:Int),okL n ps->3*ps.length<=(ZF n ps).length
 | [],_,_=>by simp [ZF]
 | p::ps,n,h=>by
   rw [okL] at h;have:=ZgW ps (p.1+1) h.2;have h3:=Zj9 n p;have h4:=Xac.2 h.1.2.2.1;rw [ZF,Xd,Xh];omega
theorem ZeB:∀(ps:List Zm) (k:Nat),ZaU (ps.take k)<=ZaU ps
 | [],k=>by simp [ZaU]
 | p::ps,0=>by simp [ZaU]
 | p::ps,k+1=>by
   have:=ZeB ps k;rw [Xaz,ZaU,ZaU];omega
theorem ZdB (ps:List Zm):∀(c i:Nat),(Z4 ps i c).length<=20*c
 | 0,i=>by simp [Z4]
 | c+1,i=>by
   have:=ZdB ps c (i+1);have h1:=Zc (h1L ps i);have h2:=Zc (h2L ps i);rw [Z4,ZgI,Xd,Xd];omega
theorem Ztk (ps:List Zm) (i:Nat):ZbC ps i<=20*ps.length+10*ZaU ps:=by
 have:=Zes (ps.take (32*i)) 0;have h:=ZeB ps (32*i);have h2:(ps.take (32*i)).length<=ps.length:=XaU _ _;unfold ZbC;omega
def Zmh (l:Xu):Option (Nat×Xu):=if (Zk l).2.2=0 then some ((Zk l).1,l.drop (Zk l).2.1) else none
theorem Zmi {n:Nat} (a:n<18446744073709551616) (r:Xu):Zmh (Zb n++r)=some (n,r):=by
 unfold Zmh;rw [ZdW n a r];simp
theorem ZuM {n:Nat} (h:Zmh l=some (n,r)):l=Zb n++r/\n<18446744073709551616/\r.length<l.length:=by
 unfold Zmh at h
 split at h
 ·rename_i a;simp only [Xv,X8] at h;obtain ⟨e,c⟩:=h;have d:=Zc3 (l:=l) (n:=(Zk l).1) (k:=(Zk l).2.1) (by rw [<- a]);have b:=ZaN l;have h3:=b.2.2.2 a;subst e c;exact ⟨d.symm,b.1,by rw [Xj];omega⟩
 ·cases h
theorem ZxI:Zmh []=none:=by
 unfold Zmh;rw [show Zk []=(0,0,6) from ZfP 0 0];simp
def ZaM (lo hi:Int) (l:Xu):Option (Nat×Xu):=match Zmh l with
 | some (n,r)=>if lo<=(n:Int)/\(n:Int)<=hi then some (n,r) else none
 | none=>none
theorem ZeV {n:Nat} (a:n<18446744073709551616) (c:lo<=(n:Int)) (b:(n:Int)<=hi) (r:Xu):ZaM lo hi (Zb n++r)=some (n,r):=by
 unfold ZaM;rw [Zmi a];simp [c,b]
theorem ZbG {n:Nat} (h:ZaM lo hi l=some (n,r)):l=Zb n++r/\n<18446744073709551616/\r.length<l.length/\lo<=(n:Int)/\(n:Int)<=hi:=by
 unfold ZaM at h
 split at h
 ·rename_i m s hs
  split at h
  ·rename_i a;simp only [Xv,X8] at h;obtain ⟨rfl,rfl⟩:=h;have:=ZuM hs;exact ⟨this.1,this.2.1,this.2.2,a.1,a.2⟩
  ·cases h
 ·cases h
theorem Zhd (lo hi:Int):ZaM lo hi []=none:=by unfold ZaM;rw [ZxI]
theorem Zb1 {a b:Nat} {m:Xu} (d:a<18446744073709551616) (e:b<18446744073709551616) (h:Zb a++l=Zb b++m):a=b/\l=m:=by
 have c:=Zmi d l;rw [h,Zmi e] at c;simp only [Xv,X8] at c;exact ⟨c.1.symm,c.2.symm⟩
theorem Zqk (a:Int) (k:a<=1048576):∀(b c:List Int) (n:Int) (l m:Xu),0<=n->b.length=c.length->Za2 a (n - 1) b=true->Za2 a (n - 1) c=true->ZaB n b++l=ZaB n c++m->b=c/\l=m
 | [],[],n,l,m,_,_,_,_,h=>⟨rfl,h⟩
 | [],_::_,_,_,_,_,h,_,_,_=>by simp at h
 | _::_,[],_,_,_,_,h,_,_,_=>by simp at h
 | x::b,y::c,n,l,m,hn,hl,hx,hy,h=>by
   rw [Za2,Xy,Xy,Xg,Xg] at hx hy;rw [ZaB,ZaB,Xl,Xl] at h;obtain ⟨h1,d⟩:=Zb1 (by omega) (by omega) h;have e:x=y:=by omega
   subst e;obtain ⟨g,f⟩:=Zqk a k b c (x+1) l m (by omega) (by simpa using hl) (by rw [show x+1 - 1=x by omega];exact hx.2) (by rw [show x+1 - 1=x by omega];exact hy.2) d;exact ⟨by rw [g],f⟩
theorem ZfW {a:List Int} (h:ZcM 1048576 a=true):a.length<=1048576:=by
 by_cases b:a=[]
 ·subst b;simp
 ·have:=Zow 1048576 a (-1) h b;omega
def Zcc (n:Int) (l:Xu) (p:Zm) (r:Xu):Prop:=okP n p/\l=ZeY n p++r
theorem ZmN {n:Int} {p q:Zm} {s:Xu} (hn:0<=n) (h:Zcc n l p r) (k:Zcc n l q s):p=q/\r=s:=by
 obtain ⟨b,h⟩:=h;obtain ⟨a,k⟩:=k;rw [h] at k;unfold ZeY at k;simp only [Xl] at k;unfold okP at b a;have lp:=ZfW b.2.2.2;have lq:=ZfW a.2.2.2;obtain ⟨h1,g⟩:=Zb1 (by omega) (by omega) k;obtain ⟨f,d⟩:=Zb1 (by omega) (by omega) g;obtain ⟨c,e⟩:=Zqk 1048576 (by omega) p.2 q.2 0 r s (by omega) f b.2.2.2 a.2.2.2 d;exact ⟨XaL (by omega) c,e⟩
def Zrw (b:Xu) (n j:Nat) (ps:List Zm) (l:Xu):Prop:=∀PS,Dec b PS->PS.length=n/\ps=PS.take j/\l=ZF (ZI 0 ps) (PS.drop j)
theorem Zje {ps:List Zm} (h:okL 0 ps):0<=ZI 0 ps:=(ZbN ps 0 h).1
theorem Zui {b:Xu} {n:Nat} {ps:List Zm} {p:Zm} (h:Zrw b n j ps l) (hj:j<n) (q:okL 0 ps) (s:Zcc (ZI 0 ps) l p r):Zrw b n (j+1) (ps++[p]) r:=by
 intro PS c;obtain ⟨m,k,e⟩:=h PS c;have d:j<PS.length:=by omega
 have g:PS.drop j=PS[j]::PS.drop (j+1):=X9 d;have a:=Zhf ((Zee PS).1 c.1) j;rw [<- k,g,okL] at a;rw [g,ZF] at e;obtain ⟨f,o⟩:=ZmN (Zje q) s ⟨a.1,e⟩;refine ⟨m,?_,?_⟩
 ·rw [XG d,<- k,f]
 ·rw [o,Zde,f];rfl
def ZgR (b:Xu):Prop:=∀PS,¬Dec b PS
theorem Zuh {b:Xu} {n:Nat} {ps:List Zm} (h:Zrw b n j ps l) (hj:j<n) (g:∀p r,¬Zcc (ZI 0 ps) l p r):ZgR b:=by
 intro PS c;obtain ⟨h1,k,f⟩:=h PS c;have d:j<PS.length:=by omega
 have e:PS.drop j=PS[j]::PS.drop (j+1):=X9 d;have a:=Zhf ((Zee PS).1 c.1) j;rw [<- k,e,okL] at a;rw [e,ZF] at f;exact g _ _ ⟨a.1,f⟩
theorem ZwV {b:Xu} {n:Nat} {ps PS:List Zm} (h:Zrw b n n ps l) (a:Dec b PS):ps=PS/\l=[]:=by
 obtain ⟨d,e,c⟩:=h PS a;rw [<- d,XC] at e;rw [<- d,Xae,ZF] at c;exact ⟨e,c⟩
def Zlq (b:Xu) (n i:Nat) (hs:List (Nat×Nat)) (l:Xu):Prop:=∀PS,Dec b PS->PS.length=n/\hs=(List.range i).map (fun k=>(h1L PS k,h2L PS k))/\l=Z4 PS i (cnt n - i)++ZF 0 PS
theorem Zld {b:Xu} {PS:List Zm} (h:Dec b PS):3*PS.length+1<=b.length/\PS.length<=65536:=by
 have a:=(Zee PS).1 h.1;have h1:=ZgW PS 0 a;have h2:=Zpe PS a;have h3:=Zc PS.length;rw [<- h.2];unfold ZV;rw [Xd,Xd];omega
theorem Zw2 {b:Xu} {PS:List Zm} (h:Dec b PS):(ZF 0 PS).length<=b.length:=by
 rw [<- h.2];unfold ZV;rw [Xd];omega
theorem ZnQ {PS:List Zm} (i:Nat):ZbC PS i<=(ZF 0 PS).length:=by
 unfold ZbC
 conv=>rhs;rw [<- X6 (32*i) PS,ZbR,Xd]
 omega
theorem Zi5 {b:Xu} {PS:List Zm} (h:Dec b PS) (i:Nat):h1L PS i<=65535/\h2L PS i<=b.length:=by
 have a:=(Zee PS).1 h.1;have h1:=ZbN _ 0 (ZfT a (32*(i+1)));have h2:=Zw2 h;have h3:=ZnQ (PS:=PS) (i+1);unfold h1L h2L;omega
theorem Zp1 {b:Xu} {n:Nat} {m:Int} (hb:b.length<4611686018427387904) (h:ZaM 0 m b=some (n,l)):Zlq b n 0 [] l:=by
 intro PS a;have hl:=Zld a;have e:=ZbG h;have c:=a.2;unfold ZV at c;rw [e.1,Xl] at c;obtain ⟨d,f⟩:=Zb1 (by omega) e.2.1 c;exact ⟨d,rfl,by rw [<- f,d,Nat.sub_zero]⟩
theorem ZrP {b:Xu} {m:Int} (hm:m=min 65536 ((b.length / 3:Nat):Int)) (h:ZaM 0 m b=none):ZgR b:=by
 intro PS a;have hl:=Zld a;have c:=a.2;unfold ZV at c;rw [<- c,Xl,ZeV (by omega) (by omega) (by omega)] at h;cases h
theorem Zg9 {PS:List Zm} {n:Nat} (hi:i<cnt n):Z4 PS i (cnt n - i)=ZgI PS i++Z4 PS (i+1) (cnt n - (i+1)):=by
 rw [show cnt n - i=(cnt n - (i+1))+1 by omega,Z4]
theorem ZrQ {b e:Xu} {n:Nat} {hs:List (Nat×Nat)} {y:Nat} {m:Int} (hb:b.length<4611686018427387904) (h:Zlq b n i hs l) (hi:i<cnt n) (k:ZaM 0 m l=some (x,l1)) (t:ZaM 0 m l1=some (y,e)):Zlq b n (i+1) (hs++[(x,y)]) e:=by
 intro PS c;obtain ⟨s,p,a⟩:=h PS c;have o:=Zi5 c i;rw [Zg9 hi,ZgI,Xl,Xl] at a;have d:=ZbG k;have f:=ZbG t;rw [d.1,f.1] at a;obtain ⟨g,a⟩:=Zb1 d.2.1 (by omega) a;obtain ⟨q,a⟩:=Zb1 f.2.1 (by omega) a;refine ⟨s,?_,a⟩;rw [XaV,XN,<- p,g,q];rfl
theorem ZpZ {b:Xu} {n:Nat} {hs:List (Nat×Nat)} (hb:b.length<4611686018427387904) (h:Zlq b n i hs l) (hi:i<cnt n) (c:ZaM 0 9223372036854775807 l=none):ZgR b:=by
 intro PS a;obtain ⟨h3,h4,d⟩:=h PS a;have e:=Zi5 a i;rw [d,Zg9 hi,ZgI,Xl,Xl,ZeV (by omega) (by omega) (by omega)] at c;cases c
theorem Zp0 {b:Xu} {n:Nat} {hs:List (Nat×Nat)} (hb:b.length<4611686018427387904) (h:Zlq b n i hs l) (hi:i<cnt n) (c:ZaM 0 9223372036854775807 l=some (x,l1)) (d:ZaM 0 9223372036854775807 l1=none):ZgR b:=by
 intro PS a;obtain ⟨h3,h4,e⟩:=h PS a;have f:=Zi5 a i;rw [e,Zg9 hi,ZgI,Xl,Xl,ZeV (by omega) (by omega) (by omega)] at c;simp only [Xv,X8] at c;rw [<- c.2,ZeV (by omega) (by omega) (by omega)] at d;cases d
theorem ZrR {b:Xu} {n:Nat} {hs:List (Nat×Nat)} (h:Zlq b n (cnt n) hs l):Zrw b n 0 [] l:=by
 intro PS a;obtain ⟨d,h4,c⟩:=h PS a;rw [Xas,Z4,Xz] at c;exact ⟨d,rfl,c⟩
end PM
namespace CM
def step (s:Nat):Nat:=if s%2=1 then s / 2 ^^^ 3988292384 else s / 2
def steps:Nat->Nat->Nat
 | 0,s=>s
 | k+1,s=>steps k (step s)
def onB (s b:Nat):Nat:=steps 8 (s ^^^ b)
def run (s:Nat) (l:Xu):Nat:=l.foldl (fun s b=>onB s b.toNat) s
def Zj5 (s:Nat):Nat:=4294967295 - s
def ZI (s:Nat) (l:Xu):Nat:=Zj5 (run (Zj5 s) l)
def ZaU (l:Xu):Nat:=ZI 0 l
theorem ZzT (a b:Nat):(a ^^^ b) / 2=a / 2 ^^^ b / 2:=by
 have h:=Nat.shiftRight_xor_distrib (a:=a) (b:=b) (i:=1);rw [Xbg,Xbg,Xbg] at h;exact h
theorem ZBI (a b:Nat):(a ^^^ b)%2=(a%2+b%2)%2:=by
 have h:=Nat.xor_mod_two_pow (a:=a) (b:=b) (n:=1);have c:a%2=0\/a%2=1:=by omega
 have d:b%2=0\/b%2=1:=by omega
 rw [show (2:Nat)^1=2 from rfl] at h;rw [h];rcases c with c|c<;>rcases d with d|d<;>rw [c,d]<;>rfl
theorem ZC9 (a b p:Nat):(a ^^^ p) ^^^ (b ^^^ p)=a ^^^ b:=by
 rw [Nat.xor_assoc,Nat.xor_comm b p,<- Nat.xor_assoc p,Nat.xor_self,Nat.zero_xor]
theorem Zzg (a b:Nat):step (a ^^^ b)=step a ^^^ step b:=by
 unfold step;rw [ZBI,ZzT]
 by_cases c:a%2=1<;>by_cases d:b%2=1
 ·rw [Xe c,Xe d,Xa (by omega),ZC9]
 ·rw [Xe c,Xa d,Xe (by omega),Nat.xor_assoc,Nat.xor_assoc,Nat.xor_comm 3988292384]
 ·rw [Xa c,Xe d,Xe (by omega),Nat.xor_assoc]
 ·rw [Xa c,Xa d,Xa (by omega)]
theorem Zpp {a:Nat} (h:a<4294967296):step a<4294967296:=by
 unfold step
 split
 ·exact Xbf (n:=32) (by omega) (by omega)
 ·omega
theorem ZvP (x:Nat):step (2*x)=x:=by
 unfold step;rw [Xa (by omega)];omega
theorem Zkh:∀(k a b:Nat),steps k (a ^^^ b)=steps k a ^^^ steps k b
 | 0,_,_=>rfl
 | k+1,a,b=>by rw [steps,steps,steps,Zzg,Zkh k]
theorem ZfX:∀(k:Nat) {a:Nat},a<4294967296->steps k a<4294967296
 | 0,_,h=>h
 | k+1,_,h=>ZfX k (Zpp h)
theorem Zm5:∀k,steps k 0=0
 | 0=>rfl
 | k+1=>by rw [steps,show step 0=0 from by decide,Zm5 k]
theorem ZsU (x:Nat):steps 8 (256*x)=x:=by
 have e:256*x=2*(2*(2*(2*(2*(2*(2*(2*x))))))):=by omega
 rw [e];simp only [steps,ZvP]
theorem Zys {s b:Nat} (hs:s<4294967296) (hb:b<256):onB s b<4294967296:=ZfX 8 (Xbf (n:=32) hs (by omega))
theorem Zy7 (s:Nat) (b:UInt8) (l:Xu):run s (b::l)=run (onB s b.toNat) l:=rfl
theorem Zpc (s:Nat):Zj5 s<4294967296:=by unfold Zj5;omega
theorem Zyk (s:Nat) (l:Xu):ZI s l<4294967296:=Zpc _
end CM
namespace FM
open VM CM
variable {l p:Xu} {n k:Nat}
def Ze2 (s:Nat):Xu:=[UInt8.ofNat (s / 16777216),UInt8.ofNat (s / 65536),UInt8.ofNat (s / 256),UInt8.ofNat s]
def Zk1:Xu->Nat
 | [a,b,c,d]=>a.toNat*16777216+b.toNat*65536+c.toNat*256+d.toNat
 | _=>0
theorem Zcr (s:Nat):(Ze2 s).length=4:=rfl
theorem Zn4 {s:Nat} (h:s<4294967296):Zk1 (Ze2 s)=s:=by
 simp only [Ze2,Zk1,UInt8.toNat_ofNat'];omega
theorem Zts (h:l.length=4):∃a b c d,l=[a,b,c,d]:=by
 match l,h with
 | [a,b,c,d],_=>exact ⟨a,b,c,d,rfl⟩
theorem ZxB {m:Xu} (x:l.length=4) (q:m.length=4) (h:Zk1 l=Zk1 m):l=m:=by
 obtain ⟨a,b,c,d,rfl⟩:=Zts x;obtain ⟨e,f,i,g,rfl⟩:=Zts q;simp only [Zk1] at h;have h1:=a.toNat_lt;have h2:=b.toNat_lt;have h3:=c.toNat_lt;have h4:=d.toNat_lt;have u:=e.toNat_lt;have r:=f.toNat_lt;have s:=i.toNat_lt;have j:=g.toNat_lt;have o:a=e:=XaT.1 (by omega);have v:b=f:=XaT.1 (by omega);have w:c=i:=XaT.1 (by omega);have t:d=g:=XaT.1 (by omega);rw [o,v,w,t]
theorem Zjy (l:Xu):ZaU l<4294967296:=Zyk 0 l
def Zah (p:Xu):Xu:=Zb p.length++(Ze2 (ZaU (Zb p.length++p))++p)
theorem ZcH (p:Xu):(Zah p).length=(Zb p.length).length+(4+p.length):=by
 unfold Zah;rw [Xd,Xd,Zcr]
theorem Zbu (p:Xu):5+p.length<=(Zah p).length/\(Zah p).length<=14+p.length:=by
 have:=Zc p.length;rw [ZcH];omega
def ZoB (n:Int):Int:=if n<0\/16777216<n then 0 else ((Zb n.toNat).length:Int)+4+n
theorem ZoC (h:n<=16777216):ZoB (n:Int)=(((Zb n).length+4+n:Nat):Int):=by
 unfold ZoB;rw [Xa (by omega),XT];omega
theorem Zrd (h:p.length<=16777216):ZoB (p.length:Int)=((Zah p).length:Int):=by
 rw [ZoC h,ZcH];omega
def ZaP (l:Xu):Xu×Nat×Int :=
 if (Zk l).2.2=6 then ([],0,41)
 else if (Zk l).2.2≠0\/16777216<(Zk l).1 then ([],0,40)
 else if (l.drop (Zk l).2.1).length<4+(Zk l).1 then ([],0,41)
 else if Zk1 ((l.drop (Zk l).2.1).take 4)≠ZaU (l.take (Zk l).2.1++((l.drop (Zk l).2.1).drop 4).take (Zk l).1) then ([],0,40)
 else (((l.drop (Zk l).2.1).drop 4).take (Zk l).1,(Zk l).2.1+(4+(Zk l).1),0)
def ZgK (l:Xu):Xu:=if (ZaP l).2.2=0 then l.drop (ZaP l).2.1 else []
theorem Zcj (l:Xu):(∃n k,Zk l=(n,k,0)/\n<18446744073709551616/\1<=k/\k<=l.length)\/Zk l=(0,0,6)\/Zk l=(0,0,20):=by
 have h:=ZaN l;rcases h.2.2.1 with a|a
 ·exact .inl ⟨(Zk l).1,(Zk l).2.1,by rw [<- a],h.1,h.2.2.2 a,h.2.1⟩
 ·exact .inr a
theorem Zgg (h:Zk l=(0,0,6)):ZaP l=([],0,41):=by unfold ZaP;rw [h];rfl
theorem Zi1 (h:Zk l=(0,0,20)):ZaP l=([],0,40):=by unfold ZaP;rw [h];rfl
theorem ZhO (h:Zk l=(n,k,0)) (a:16777216<n):ZaP l=([],0,40):=by
 unfold ZaP;rw [h]
 show (if (0:Int)=6 then _ else if (0:Int)≠0\/16777216<n then _ else _)=_
 rw [Xa (by omega),Xe (.inr a)]
theorem Zi2 (h:Zk l=(n,k,0)) (hn:n<=16777216) :
  ZaP l=if (l.drop k).length<4+n then ([],0,41) else if Zk1 ((l.drop k).take 4)≠ZaU (l.take k++((l.drop k).drop 4).take n) then ([],0,40) else (((l.drop k).drop 4).take n,k+(4+n),0):=by
 unfold ZaP;rw [h]
 show (if (0:Int)=6 then _ else if (0:Int)≠0\/16777216<n then _ else _)=_
 rw [Xa (by omega),Xa (by omega)]
theorem Zjq (h:ZaP l=(p,k,0)):ZgK l=l.drop k:=by unfold ZgK;rw [h];rfl
theorem Zbl {e:Int} (h:ZaP l=([],0,e)) (a:e≠0):ZgK l=[]:=by unfold ZgK;rw [h];exact Xa a
theorem ZfQ (e:p.length<=16777216) (r:Xu):ZaP (Zah p++r)=(p,(Zah p).length,0):=by
 have h:Zk (Zah p++r)=(p.length,(Zb p.length).length,0):=by
  unfold Zah;rw [Xl];exact ZdW _ (by omega) _
 have d:(Zah p++r).drop (Zb p.length).length=Ze2 (ZaU (Zb p.length++p))++(p++r):=by
  unfold Zah;rw [Xl,Xau,Xl]
 have b:(Zah p++r).take (Zb p.length).length=Zb p.length:=by
  unfold Zah;rw [Xl,Xbk]
 rw [Zi2 h e,d,b];have a:(Ze2 (ZaU (Zb p.length++p))++(p++r)).take 4=Ze2 (ZaU (Zb p.length++p)):=List.take_left' (Zcr _);have c:((Ze2 (ZaU (Zb p.length++p))++(p++r)).drop 4)=p++r:=List.drop_left' (Zcr _);rw [a,c,Xbk,Zn4 (Zjy _),Xa (by rw [Xd,Xd,Zcr];omega),Xa (by simp),ZcH]
theorem ZhN (h:ZaP l=(p,k,0)):p.length<=16777216/\k=(Zah p).length/\Zah p++l.drop k=l:=by
 rcases Zcj l with ⟨n,q,a,hb,t,r⟩|a|a
 ·by_cases s:n<=16777216
  ·rw [Zi2 a s] at h
   split at h
   ·cases h
   ·rename_i o
    split at h
    ·cases h
    ·rename_i hs;simp only [ne_eq,Decidable.not_not] at hs;simp only [X8] at h;obtain ⟨j,u,_⟩:=h;have i:=Zc3 a;have hl:((l.drop q).drop 4).length=(l.drop q).length - 4:=by rw [Xj]
     have d:p.length=n:=by rw [<- j,Xi];omega
     have b:Zb n=l.take q:=by
      have e:l.take q++l.drop q=l:=X6 q l;exact List.append_cancel_right (i.trans e.symm)
     have m:(Zb n).length=q:=by rw [b,Xi];omega
     have g:((l.drop q).take 4).length=4:=by rw [Xi];omega
     have c:(l.drop q).take 4=Ze2 (ZaU (Zb n++p)):=by
      refine ZxB g (Zcr _) ?_;rw [Zn4 (Zjy _),hs,b,j]
     have f:(Zah p).length=k:=by rw [ZcH,d,m];omega
     refine ⟨by omega,f.symm,?_⟩;unfold Zah;rw [d,<- c,b,<- j,<- u,Xl,Xl];rw [<- XaM,<- XaM,X6,X6,X6]
  ·rw [ZhO a (by omega)] at h;cases h
 ·rw [Zgg a] at h;cases h
 ·rw [Zi1 a] at h;cases h
theorem Zg7 (l:Xu):(∃p k,ZaP l=(p,k,0))\/ZaP l=([],0,41)\/ZaP l=([],0,40):=by
 rcases Zcj l with ⟨n,q,a,hb,d,b⟩|a|a
 ·by_cases c:n<=16777216
  ·rw [Zi2 a c]
   split
   ·exact .inr (.inl rfl)
   ·split
    ·exact .inr (.inr rfl)
    ·exact .inl ⟨_,_,rfl⟩
  ·exact .inr (.inr (ZhO a (by omega)))
 ·exact .inr (.inl (Zgg a))
 ·exact .inr (.inr (Zi1 a))
def Zw (ps:List Xu):Xu:=(ps.map Zah).flatten
theorem ZbL:Zw []=[]:=rfl
theorem Zau (p:Xu) (ps:List Xu):Zw (p::ps)=Zah p++Zw ps:=by simp [Zw]
theorem Zdc (ps qs:List Xu):Zw (ps++qs)=Zw ps++Zw qs:=by simp [Zw]
theorem Zgf (ps:List Xu) (a:k<ps.length):Zw (ps.take (k+1))=Zw (ps.take k)++Zah ps[k]:=by
 rw [XG a,Zdc,Zau,ZbL,XI]
theorem Zcx (ps:List Xu) (k:Nat):(Zw (ps.take k)).length<=(Zw ps).length:=by
 have h:Zw ps=Zw (ps.take k)++Zw (ps.drop k):=by rw [<- Zdc,X6]
 rw [h,Xd];omega
theorem Zmd {q r s:Xu} (c:p.length<=16777216) (b:q.length<=16777216) (h:Zah p++r=Zah q++s):p=q/\r=s:=by
 have a:=ZfQ c r;rw [h,ZfQ b s] at a;simp only [X8] at a;obtain ⟨rfl,_,_⟩:=a;exact ⟨rfl,List.append_cancel_left h⟩
end FM
namespace BM
variable {k:Nat} {L:Xu}
def Zrf (h:Int) (c:UInt8):Int:=IntKind.u64.wrap (bits .xor .u64 h (c.toNat:Int)*1099511628211)
def ZaM (l:Xu):Int:=l.foldl Zrf 14695981039346656037
theorem wrap_u64 (x:Int):IntKind.u64.wrap x=x%18446744073709551616:=by
 simp [IntKind.wrap,IntKind.signed,IntKind.bits]
theorem ZeW (l:Xu):0<=ZaM l/\ZaM l<18446744073709551616:=by
 unfold ZaM;rcases List.eq_nil_or_concat l with rfl|⟨l',c,rfl⟩
 ·simp
 ·rw [List.concat_eq_append,XaZ];simp only [List.foldl_cons,List.foldl_nil,Zrf,wrap_u64];omega
theorem Zog {l:Xu} (a:k<l.length):ZaM (l.take (k+1))=Zrf (ZaM (l.take k)) l[k]:=by
 unfold ZaM;rw [XG a,XaZ];rfl
def Zed (l:Xu):Nat:=(ZaM l).toNat%4294967296
def Zi6 (l:Xu):Nat:=(ZaM l).toNat / 4294967296
def ZcP (l:Xu):Nat:=if Zi6 l%2=0 then Zi6 l+1 else Zi6 l
theorem ZuD (l:Xu):Zed l<4294967296:=XaN _ (by decide)
theorem ZxK (l:Xu):Zi6 l<4294967296:=by have:=(ZeW l).2;unfold Zi6;omega
theorem ZsN (l:Xu):ZcP l<4294967296:=by have:=ZxK l;unfold ZcP;split<;>omega
def ZX (m:Nat) (l:Xu) (i:Nat):Nat:=(Zed l+i*ZcP l)%m
theorem Zj7 {m:Nat} (l:Xu) (i:Nat) (h:0<m):ZX m l i<m:=XaN _ h
def ZoV (c:UInt8) (j:Nat):Bool:=c.toNat / 2^j%2 == 1
def ZfV (c:UInt8) (j:Nat):UInt8:=if ZoV c j then c else UInt8.ofNat (c.toNat+2^j)
def Zit (L:Xu) (k:Nat):Bool:=ZoV (L.getD (k / 8) 0) (k%8)
def Znl (L:Xu) (k:Nat):Xu:=L.set (k / 8) (ZfV (L.getD (k / 8) 0) (k%8))
theorem ZyM (L:Xu) (k:Nat):(Znl L k).length=L.length:=by simp [Znl]
def Zjn (st:Xu×Nat) (k:Nat):Xu×Nat:=if Zit st.1 k then st else (Znl st.1 k,st.2+1)
theorem ZyJ (st:Xu×Nat) (k:Nat):(Zjn st k).1.length=st.1.length:=by unfold Zjn;split<;>simp [ZyM]
def ZfH (L:Xu) (s:Xu) (i:Nat):Xu×Nat:=(List.range i).foldl (fun st i=>Zjn st (ZX (8*L.length) s i)) (L,0)
theorem ZhE (L s:Xu) (i:Nat):ZfH L s (i+1)=Zjn (ZfH L s i) (ZX (8*L.length) s i):=by
 unfold ZfH;rw [XaV,XaZ];rfl
theorem ZlB (L s:Xu) (i:Nat):(ZfH L s i).1.length=L.length:=by
 induction i with
 | zero=>rfl
 | succ i ih=>rw [ZhE,ZyJ,ih]
theorem ZsA (st:Xu×Nat) (k:Nat):(Zjn st k).2<=st.2+1:=by unfold Zjn;split<;>simp
theorem Zig (L s:Xu) (i:Nat):(ZfH L s i).2<=i:=by
 induction i with
 | zero=>exact Xc _
 | succ i ih=>rw [ZhE];have:=ZsA (ZfH L s i) (ZX (8*L.length) s i);omega
def ZlD (L:Xu) (s:Xu):Xu×Nat:=ZfH L s 4
theorem ZlF (L s:Xu):(ZlD L s).1.length=L.length:=ZlB L s 4
theorem ZlE (L s:Xu):(ZlD L s).2<=4:=Zig L s 4
def ZcQ (L:Xu) (a:List Xu):Xu×Nat:=a.foldl (fun st s=>((ZlD st.1 s).1,st.2+(ZlD st.1 s).2)) (L,0)
theorem ZhD {a:List Xu} (b:k<a.length):ZcQ L (a.take (k+1))=((ZlD (ZcQ L (a.take k)).1 a[k]).1,(ZcQ L (a.take k)).2+(ZlD (ZcQ L (a.take k)).1 a[k]).2):=by
 unfold ZcQ;rw [XG b,XaZ];rfl
theorem ZlA (L:Xu) (a:List Xu) (k:Nat):(ZcQ L (a.take k)).1.length=L.length:=by
 induction k with
 | zero=>rfl
 | succ k ih =>
   by_cases b:k<a.length
   ·rw [ZhD b,ZlF,ih]
   ·rw [XM (by omega)] at ih ⊢;exact ih
theorem Zlz (L:Xu) (a:List Xu) (k:Nat):(ZcQ L (a.take k)).2<=4*k:=by
 induction k with
 | zero=>exact Xc _
 | succ k ih =>
   by_cases b:k<a.length
   ·rw [ZhD b];have:=ZlE (ZcQ L (a.take k)).1 a[k];dsimp only;omega
   ·rw [XM (by omega)] at ih ⊢;omega
theorem ZpC (L:Xu) (a:List Xu):(ZcQ L a).1.length=L.length:=by
 have:=ZlA L a a.length
 rwa [XC] at this
def ZqD (L s:Xu) (i:Nat):Bool:=(List.range i).all fun i=>Zit L (ZX (8*L.length) s i)
theorem Zvc (L s:Xu) (i:Nat):ZqD L s (i+1)=(ZqD L s i&&Zit L (ZX (8*L.length) s i)):=by
 unfold ZqD;rw [XaV,List.all_append];simp
def Zk3 (L s:Xu):Bool:=ZqD L s 4
theorem Zsm {s:Xu} {i:Nat} (hi:i<4) (h:Zit L (ZX (8*L.length) s i)=false):Zk3 L s=false:=by
 unfold Zk3 ZqD;rw [List.all_eq_false];exact ⟨i,by simpa using hi,by simp [h]⟩
def ZeZ (n:Nat):Nat:=(min (max (10*n) 64) 1048576+7) / 8
theorem Zd4 (n:Nat):8<=ZeZ n/\ZeZ n<=131072:=by unfold ZeZ;omega
def ZfS (n:Nat):Xu:=List.replicate (ZeZ n) 0
theorem Zjd (n:Nat):(ZfS n).length=ZeZ n:=by simp [ZfS]
end BM
namespace CR
open RowKit MM CM
variable {m:Nat}
theorem Zx4 (a:m<4294967296):bits .and .u32 (m:Int) 1=((m%2:Nat):Int):=by
 have h:=u32_and_nat m 1 a (by omega);rw [nat_mask1] at h;exact h
theorem ZoE (hm:m<4294967296):bits .xor .u32 ((m:Int) / 2) ((m:Int)%2*3988292384)=((CM.step m:Nat):Int):=by
 unfold CM.step
 by_cases h:m%2=1
 ·rw [Xe h,show (m:Int)%2*3988292384=((3988292384:Nat):Int) by omega,show (m:Int) / 2=((m / 2:Nat):Int) by omega];exact u32_xor_nat _ _ (by omega) (by omega)
 ·rw [Xa h,show (m:Int)%2*3988292384=((0:Nat):Int) by omega,show (m:Int) / 2=((m / 2:Nat):Int) by omega,u32_xor_nat _ _ (by omega) (by omega),Nat.xor_zero]
theorem Zzf (h:m%2=1) (b:m<4294967296):bits .xor .u32 ((m:Int) / 2) 3988292384=((CM.step m:Nat):Int):=by
 have a:=ZoE b;rw [show (m:Int)%2*3988292384=3988292384 by omega] at a;exact a
theorem ZvQ (h:¬m%2=1):(m:Int) / 2=((CM.step m:Nat):Int):=by
 unfold CM.step;rw [Xa h];omega
theorem Zm4 {k r:Nat} (hk:k<8) (h:steps (8 - k) m=r):steps (8 - (k+1)) (CM.step m)=r:=by
 rw [show 8 - k=(8 - (k+1))+1 by omega] at h;exact h
theorem Zv3 (n:Nat) (w:World) (f:n<4294967296):Calls prog 266 #[.int .u32 n] w fun e w'=>e=.returned (.int .u32 (steps 8 n))/\w=w':=by
 obtain ⟨r,b⟩:=Xn (steps 8 n);rw [b];have c:Hid (steps (8 - 0) n=r):=hid b;clear b;go_enter func266,ntmps266;go_wp2_with fail
 go_loop [0,4] (fun s i=>∃k m:Nat,k<=8/\i=.int .i64 k/\s=.int .u32 m/\m<4294967296/\Hid (steps (8 - k) m=r)) (fun _ i=>8 - (intOf i).toNat)
 case atStart=>exact ⟨0,n,by omega,rfl,rfl,f,c⟩
 case round =>
  obtain ⟨k,m,hk,rfl,rfl,a,H⟩:=hrel;clear c;have hl:=Zx4 a;have hx:=ZoE a;have hs:=Zpp a;go_wp2_with fail
  ·have g:(k:Int)<8:=by assumption
   go_round
   case rel=>exact ⟨k+1,CM.step m,by omega,by go_num,rfl,hs,hid (Zm4 (by omega) H.out)⟩
   case measure=>simp [intOf];omega
  ·have d:(8:Int)<=k:=by assumption
   obtain rfl:k=8:=by omega
   have h:m=r:=H.out;subst h;go_ret;exact ⟨rfl,rfl⟩
theorem ZCr (n:Nat) (c:UInt8) (w:World) (o:n<4294967296):Calls prog 209 #[.int .u32 n,.int .u8 (c.toNat:Int)] w fun e w'=>e=.returned (.int .u32 (onB n c.toNat))/\w=w':=by
 have hc:=c.toNat_lt;generalize c.toNat=b at *;obtain ⟨r,d⟩:=Xn (onB n b);rw [d];have l:Hid (steps (8 - 0) (n ^^^ b)=r):=hid d;have f:=u32_xor_nat n b o (by omega);have a:n ^^^ b<4294967296:=Xbf (n:=32) o (by omega);generalize n ^^^ b=x at *;clear d;go_enter func209,ntmps209;go_wp2_with fail
 go_loop [0,5] (fun s i=>∃k m:Nat,k<=8/\i=.int .i64 k/\s=.int .u32 m/\m<4294967296/\Hid (steps (8 - k) m=r)) (fun _ i=>8 - (intOf i).toNat)
 case atStart=>exact ⟨0,x,by omega,rfl,rfl,a,l⟩
 case round =>
  obtain ⟨k,m,hk,rfl,rfl,j,H⟩:=hrel;clear l f
  by_cases g:k<8
  ·have hs:=Zpp j;have p:=hid (Zm4 g H.out)
   by_cases q:m%2=1
   ·have u:=Zzf q j;have t:((m:Int)%2 == 1)=true:=by simp;omega
    go_wp2_with fail
    go_round
    case rel=>exact ⟨k+1,CM.step m,by omega,by go_num,rfl,hs,p⟩
    case measure=>simp [intOf];omega
   ·have u:=ZvQ q;have t:((m:Int)%2 == 1)=false:=by simp;omega
    go_wp2_with fail
    go_round
    case rel=>exact ⟨k+1,CM.step m,by omega,by go_num,by go_num,hs,p⟩
    case measure=>simp [intOf];omega
  ·obtain rfl:k=8:=by omega
   have h:m=r:=H.out;subst h;go_wp2_with fail;go_ret;exact ⟨rfl,rfl⟩
variable {B n k:Nat} {w:World}
theorem Zrt:∃Z:Array Value,Z.size=256/\Z[0]? = some (.int .u32 0)/\∀W,Sem.run prog (zeroValue 308) W=.ok (.agg Z) W :=
 ⟨Array.replicate 256 (.int .u32 0),by simp,by simp,fun W=>by kernel_rfl⟩
def Tab (B n:Nat) (w:World):Prop:=∃a:Array Value,w.heap[B]? = some (.cells a 308 (0,0))/\a.size=256/\∀k,k<n->a[k]? = some (.int .u32 (steps 8 k))
theorem Tab.cell (h:Tab B n w) (d:k<n):w.cell? ⟨B,k,none⟩=some (.int .u32 (steps 8 k)):=by
 obtain ⟨a,c,_,b⟩:=h;rw [cell_of_row w B k a _ _ c];exact b k d
theorem Tab.there (h:Tab B n w) (b:k<256):∃v,w.cell? ⟨B,k,none⟩=some v:=by
 obtain ⟨a,c,hs,_⟩:=h;exact ⟨a[k],by rw [cell_of_row w B k a _ _ c];simp [hs,b]⟩
theorem Tab.free (h:Tab B n w) (k:Nat):w.frozen? ⟨B,k,none⟩=false:=by
 obtain ⟨a,b,_,_⟩:=h;exact frozen_of_row w B k a _ b
theorem Tab.put (h:Tab B n w) (d:n<256):Tab B (n+1) (w.setCell ⟨B,n,none⟩ (.int .u32 (steps 8 n))):=by
 obtain ⟨a,e,hs,c⟩:=h;refine ⟨_,heap_setCell_same w B n a _ _ e,by simp [hs],fun k hk => ?_⟩
 by_cases b:k=n
 ·subst b;simp [hs,d]
 ·rw [Array.getElem?_setIfInBounds_ne (by omega)];exact c k (by omega)
theorem Tab.mono {m:Nat} (h:Tab B n w) (hm:m<=n):Tab B m w:=by
 obtain ⟨a,c,hs,b⟩:=h;exact ⟨a,c,hs,fun k hk=>b k (by omega)⟩
def tab:Array Value:=((List.range 256).map (fun k=>Value.int .u32 (steps 8 k:Nat))).toArray
theorem Zht:tab.size=256:=by simp [tab]
theorem Zpr (a:k<256):tab[k]? = some (.int .u32 (steps 8 k:Nat)):=by simp [tab,a]
theorem Tab.all (h:Tab B 256 w):w.heap[B]? = some (.cells tab 308 (0,0)):=by
 obtain ⟨a,d,hs,c⟩:=h
 have:a=tab:=by
  apply Array.ext_getElem?;intro k
  by_cases b:k<256
  ·rw [c k b,Zpr b]
  ·rw [Xaw (by omega),Xaw (by rw [Zht];omega)]
 rw [<- this];exact d
theorem Zty:(prog.info? 308).map (·.size)=some 256:=by kernel_rfl
theorem ZqT:∀j:Fin 8,∀k:Fin 128,k.val<2^j.val->2^j.val ^^^ k.val=2^j.val+k.val:=by decide +kernel
theorem ZBc:∀j,j<8->∀k,k<2^j->2^j ^^^ k=2^j+k:=by
 intro j b k a;have h1:2^j<=2^7:=Xbq (by omega) (by omega);exact ZqT ⟨j,b⟩ ⟨k,by omega⟩ a
theorem ZtV:tab.all (·.oneCell')=true:=by
 rw [Array.all_eq_true];intro k a;rw [Zht] at a;have h:=Zpr a;rw [Xo] at h;obtain ⟨_,h⟩:=h;rw [h];rfl
theorem below_setRow {g:Nat} {a:World} (b:Array Value) (h:Below B a w) (hg:B<=g):Below B a (w.setRow g b) :=
 ⟨h.os,h.tape,h.output,by rw [setRow_size];exact h.size,fun i hi=>by rw [setRow_other w g i b (by omega)];exact h.block i hi⟩
theorem ZyF {j:Nat} (b:j<8) (a:k<2^j):bits .xor .u32 ((steps 8 (2^j):Nat):Int) ((steps 8 k:Nat):Int)=((steps 8 (2^j+k):Nat):Int):=by
 have h1:2^j<=2^7:=Xbq (by omega) (by omega);rw [u32_xor_nat _ _ (ZfX 8 (by omega)) (ZfX 8 (by omega)),<- Zkh,ZBc j b k a]
theorem ZBE (w:World):Calls prog 245 #[] w fun e w'=>e=.returned (.agg tab)/\Below w.heap.size w w':=by
 obtain ⟨T,y⟩:=Xn tab;have C:Hid (T.size=256):=hid (y▸Zht);have I:Hid (T.all (·.oneCell')=true):=hid (y▸ZtV);have q:Hid (∀W,Tab w.heap.size 256 W->W.heap[w.heap.size]? = some (.cells T 308 (0,0))):=hid (fun W h=>y▸h.all);rw [y];clear y;obtain ⟨Z,N,s,X⟩:=Zrt;have u:Tab w.heap.size 1 (w.alloc (.cells Z 308)):=⟨Z,heap_alloc_new _ _,N,fun k hk=>by obtain rfl:k=0:=(by omega);rw [s,Zm5];rfl⟩;have z:Below w.heap.size w (w.alloc (.cells Z 308)):=(Below.refl _ _).alloc (Xc _) _;have t:=hid u;have r:=hid z;clear u z N s;go_enter func245,ntmps245;go_wp2_with fail
 go_loopw [1] (fun h wr=>∃j H:Nat,j<=8/\Hid (2^j=H)/\h=.int .i64 H/\0<H/\H<=256/\Hid (Tab w.heap.size H wr)/\Hid (Below w.heap.size w wr)) (fun h _=>256 - (intOf h).toNat)
 case atStart=>exact ⟨0,1,by omega,hid rfl,rfl,by omega,by omega,t,r⟩
 case round =>
  obtain ⟨j,H,hj,O,rfl,h0,S,L,F⟩:=hrel;clear t r X
  by_cases V:H<256
  ·have R:H<4294967296:=by omega
   go_wp2_with fail;refine (Zv3 H _ R).mono ?_;rintro e w1 ⟨rfl,rfl⟩;have ab:=ZfX 8 R;go_wp2_with fail
   go_loopw [12] (fun i l=>∃k:Nat,k<=H/\i=.int .i64 k/\Hid (Tab w.heap.size (H+k) l)/\Hid (Below w.heap.size w l)) (fun i _=>H - (intOf i).toNat)
   case atStart=>exact ⟨0,by omega,rfl,L,F⟩
   case round =>
    obtain ⟨k,hk,rfl,a,d⟩:=hrel;clear L F
    by_cases J:k<H
    ·have A:=a.out.cell (k:=k) (by omega);have U:=a.out.free (H+k);have b:H=2^j:=O.out.symm
     have g:j<8:=by
      rcases Nat.lt_or_ge j 8 with h|h
      ·exact h
      ·have:j=8:=by omega
       rw [this] at b;omega
     have o:=ZyF (j:=j) (k:=k) g (b▸J);have f:2^(j+1)=H*2:=by rw [Nat.pow_succ,<- b]
     have m:2^(j+1)<=2^8:=Xbq (by omega) (by omega);have hH:H*2<=256:=by omega
     clear f m;obtain ⟨old,M⟩:=a.out.there (k:=H+k) (by omega);have Y:(0:Int)<=(H:Int)+k:=by omega
     have aa:(H:Int)+k<256:=by omega
     rw [<- b] at o;have G:=hid (a.out.put (by omega));have c:=hid (d.out.setCell (p:=⟨w.heap.size,H+k,none⟩) (Xc _) (.int .u32 (steps 8 (H+k):Nat)));clear b g a d;go_wp2_with fail;go_roundw
     case rel=>exact ⟨k+1,by omega,by go_num,G,c⟩
     case measure=>simp [intOf];omega
    ·obtain rfl:k=H:=by omega
     go_wp2_with fail;go_roundw;have b:2^j=k:=O.out
     have g:j<8:=by
      rcases Nat.lt_or_ge j 8 with h|h
      ·exact h
      ·have:j=8:=by omega
       rw [this] at b;omega
     have f:2^(j+1)=k*2:=by rw [Nat.pow_succ,b]
     have m:2^(j+1)<=2^8:=Xbq (by omega) (by omega)
     case rel=>exact ⟨j+1,k*2,by omega,hid f,by go_num,by omega,by omega,hid (a.out.mono (by omega)),d⟩
     case measure=>simp [intOf];omega
  ·obtain rfl:H=256:=by omega
   have D:=q.out _ L.out;have hs:=C.out;have hi:(prog.info? 308).map (·.size)=some T.size:=by rw [hs];exact Zty
   have x:=setRow_heap wr w.heap.size T T _ _ D;have E:=hid x;have c:=hid (below_setRow T F.out (Xc _));clear x hs;go_wp2_with (first|refine wpList_load_row rfl 308 (.tmp 0) rfl w.heap.size rfl 308 T (0,0) (.array 256 183) D underlying308 rfl hi ?_|refine wpList_store_row rfl 308 (.tmp 0) (.tmp 25) rfl w.heap.size T rfl rfl 308 T D hi rfl I.out ?_)
   refine bodyPost_ret (v:=.agg T) (results_cell_row rfl _ _ w.heap.size 308 T (0,0) (.array 256 183) rfl E.out underlying308 rfl hi) rfl ⟨rfl,c.out⟩
variable {w:World} {v:Value} {ls:List Xu} {k:Nat}
def Zbp (w:World) (v:Value) (ls:List Xu):Prop:=∃a,Row w v a/\a.length=ls.length/\∀i (h:i<ls.length),∃x,a[i]? = some x/\Zq w x ls[i]
theorem Zbp.below {w':World} (h:Zbp w v ls) (a:Below w.heap.size w w'):Zbp w' v ls:=by
 obtain ⟨f,b,g,e⟩:=h;refine ⟨f,Row.below (B:=0) b a,g,fun i hi => ?_⟩;obtain ⟨x,d,c⟩:=e i hi;exact ⟨x,d,c.below a⟩
theorem Zbp.shape (h:Zbp w v ls):∃p a,v=.slice p ls.length a/\ls.length<=a/\a<=maxLen:=by
 obtain ⟨xs,⟨p,a,c,b,d,_,_⟩,e,_⟩:=h;rw [e] at c b;exact ⟨p,a,c,b,d⟩
theorem Zbp.at_ {p:Option Addr} {n c:Nat} (h:Zbp w (.slice p n c) ls) (i:k<ls.length) :
  ∃b off x,p=some ⟨b,off,none⟩/\w.cell? ⟨b,off+k,none⟩=some x/\Zq w x ls[k]:=by
 obtain ⟨xs,⟨p',cap',d,_,_,_,h⟩,hl,g⟩:=h;simp only [Value.slice.injEq] at d;obtain ⟨rfl,_,_⟩:=d;obtain ⟨x,a,f⟩:=g k i;rcases h with h|⟨b,off,l,j,e⟩
 ·rw [h] at a;simp at a
 ·exact ⟨b,off,x,l,e k _ a,f⟩
theorem ZyG (a:List Value) (ls:List Xu) (f:a.length=ls.length) (b:a.length<=maxLen) (h:∀i (h:i<ls.length),∃x,a[i]? = some x/\Zq w x ls[i]) :
  Zbp (w.alloc (.cells a.toArray 23)) (.slice (some ⟨w.heap.size,0,none⟩) a.length a.length) ls:=by
 have e:Below w.heap.size w (w.alloc (.cells a.toArray 23)):=(Below.refl _ _).alloc (Xc _) _;refine ⟨a,⟨some ⟨w.heap.size,0,none⟩,a.length,rfl,Xc _,b,(fun h=>by cases h),.inr ⟨w.heap.size,0,rfl,by simp,fun i u hi => ?_⟩⟩,f,fun i hi => ?_⟩
 ·rw [cell_of_row _ w.heap.size _ _ _ _ (heap_alloc_new _ _)];simpa using hi
 ·obtain ⟨x,d,c⟩:=h i hi;exact ⟨x,d,c.below e⟩
theorem ZtY (q r b:Nat) (hr:r<256) (hb:b<256):(256*q+r) ^^^ b=256*q+(r ^^^ b):=by
 have d:=Nat.xor_mod_two_pow (a:=256*q+r) (b:=b) (n:=8);have c:=Nat.shiftRight_xor_distrib (a:=256*q+r) (b:=b) (i:=8);rw [Xbg,Xbg,Xbg] at c;rw [show (2:Nat)^8=256 from rfl] at d c;rw [show (256*q+r)%256=r by omega,show b%256=b by omega] at d;rw [show (256*q+r) / 256=q by omega,show b / 256=0 by omega,Nat.xor_zero] at c;omega
theorem Zve (m b:Nat) (c:b<256):onB m b=steps 8 (m%256 ^^^ b) ^^^ m / 256:=by
 have e:m%256 ^^^ b<256:=Xbf (n:=8) (by omega) c;have d:=ZtY (m / 256) (m%256) b (by omega) c;have a:=ZtY (m / 256) 0 (m%256 ^^^ b) (by omega) e;rw [Nat.zero_xor,Xah] at a;rw [show 256*(m / 256)+m%256=m by omega] at d;unfold onB;rw [d,<- a,Zkh,ZsU,Nat.xor_comm]
theorem ZsV (m:Nat) (c:UInt8):bits .xor .u8 ((m:Int)%256) (c.toNat:Int)=((m%256 ^^^ c.toNat:Nat):Int):=by
 rw [show (m:Int)%256=((m%256:Nat):Int) by omega];exact u8_xor_nat _ _ (by omega) c.toNat_lt
theorem ZsW (m:Nat) (c:UInt8) (hm:m<4294967296):bits .xor .u32 ((steps 8 (m%256 ^^^ c.toNat):Nat):Int) ((m:Int) / 256)=((onB m c.toNat:Nat):Int):=by
 have hz:m%256 ^^^ c.toNat<256:=Xbf (n:=8) (by omega) c.toNat_lt;rw [show (m:Int) / 256=((m / 256:Nat):Int) by omega,u32_xor_nat _ _ (ZfX 8 (by omega)) (by omega),Zve m _ c.toNat_lt]
theorem Znn (a:k<ls.length):(ls.drop k).flatten=ls[k]++(ls.drop (k+1)).flatten:=by
 rw [X9 a,Xaj]
variable {n:Nat}
theorem ZAW (hn:n<4294967296):4294967295 ^^^ n=4294967295 - n:=by
 have h:=Xp BitVec.toNat (BitVec.allOnes_xor (x:=BitVec.ofNat 32 n));simp only [BitVec.toNat_xor,BitVec.toNat_allOnes,BitVec.toNat_not,BitVec.toNat_ofNat] at h;rw [show n%2^32=n by omega] at h;simpa using h
theorem Zjg (a:n<4294967296):bits .xor .u32 IntKind.u32.max (n:Int)=((Zj5 n:Nat):Int):=by
 have h:=u32_xor_nat 4294967295 n (by omega) a;rw [ZAW a] at h;exact h
theorem ZjA:IntKind.u32.signed=false:=rfl
theorem Tab.of_row {B:Nat} {w:World} {T:Array Value} (a:tab=T) (h:w.heap[B]? = some (.cells T 308 (0,0))):Tab B 256 w:=by
 subst a;exact ⟨tab,h,Zht,fun k b=>Zpr b⟩
theorem Zrb {l R:Xu} {m j r:Nat} (a:j<l.length) (h:run m (l.drop j++R)=r):run (onB m (l[j]).toNat) (l.drop (j+1)++R)=r:=by
 rw [X9 a,XJ,Zy7] at h;exact h
theorem Zbq (s:Nat) (v:Value) (a:List Xu) (w:World) (hs:s<4294967296) (hr:Zbp w v a) :
  Calls prog 205 #[.int .u32 s,v] w fun e w'=>e=.returned (.int .u32 (ZI s a.flatten:Nat))/\Below w.heap.size w w':=by
 obtain ⟨p,au,rfl,aq,ah⟩:=hr.shape;unfold maxLen at ah;obtain ⟨T,hT⟩:=Xn tab;have C:Hid (T.size=256):=hid (hT▸Zht);have ae:Hid (T.all (·.oneCell')=true):=hid (hT▸ZtV);have u:Hid (∀B W,W.heap[B]? = some (.cells T 308 (0,0))->Tab B 256 W):=hid (fun B W h=>Tab.of_row hT h);have hK:=fun W=>ZBE W;rw [hT] at hK;have HK:=hid hK;obtain ⟨Z,hZ,ai,hz⟩:=Zrt;obtain ⟨r,D⟩:=Xn (run (Zj5 s) a.flatten);have t:Hid (ZI s a.flatten=Zj5 r):=hid (by unfold ZI;rw [D]);have aa:Hid (run (Zj5 s) (a.drop 0).flatten=r):=hid D;have HZ:=hid hZ;have HP:=hid hr;obtain ⟨F,O⟩:=Xn (ZI s a.flatten);rw [O];rw [O] at t;clear hT hK hZ ai D hr O;go_enter func205,ntmps205;go_wp2_with fail;refine (HK.out _).mono ?_;rintro e y ⟨rfl,f⟩;have J:Below w.heap.size w (y.alloc (.cells Z 308)):=f.alloc f.size _;have L:(y.alloc (.cells Z 308)).heap[y.heap.size]? = some (.cells Z 308 (0,0)):=heap_alloc_new _ _;have Y:=setRow_heap _ y.heap.size Z T _ _ L;have G:=hid (u.out _ _ Y);have d:=hid (below_setRow T J f.size);have hi:(prog.info? 308).map (·.size)=some T.size:=by rw [C.out];exact Zty
 have ac:Z.size=T.size:=by rw [C.out,HZ.out]
 have X:=hid L;have HI:=hid hi;have U:=hid ac;clear L Y hi ac J;obtain ⟨w3,I⟩:=Xn ((y.alloc (.cells Z 308)).setRow y.heap.size T);rw [I] at G d;have ab:=hid I;have al:=d.out.size;have ag:=hid (HP.out.below d.out);obtain ⟨g,hg⟩:=Xn y.heap.size;have HG:=hid hg;clear I hg;have hu:=ZjA;have M:=Zjg hs;have V:=Zpc s;go_wp2_with (refine wpList_store_row rfl 308 (.tmp 5) (.tmp 10) rfl y.heap.size T rfl rfl 308 Z X.out HI.out U.out ae.out ?_;rw [ab.out])
 clear hz X HI U ae HZ C u HK ab HP;rw [HG.out] at G;rw [HG.out];clear HG
 go_loop [0,15] (fun s i=>∃k m:Nat,k<=a.length/\i=.int .i64 k/\s=.int .u32 m/\m<4294967296/\Hid (run m (a.drop k).flatten=r)) (fun _ i=>a.length - (intOf i).toNat)
 case atStart=>exact ⟨0,Zj5 s,by omega,rfl,rfl,V,aa⟩
 case round =>
  obtain ⟨k,m,hk,rfl,rfl,hm,H⟩:=hrel;clear aa M V hs
  by_cases S:k<a.length
  ·obtain ⟨b,off,x,rfl,A,hx⟩:=ag.out.at_ S;have o:=H.out;rw [Znn S] at o;generalize a[k]=l at o hx;obtain ⟨p2,ak,rfl,am,N⟩:=hx.shape;unfold maxLen at N;obtain ⟨R,hR⟩:=Xn ((a.drop (k+1)).flatten);rw [hR] at o;have af:=hid hR;clear hR;have H2:Hid (run m (l.drop 0++R)=r):=hid o;have HX:=hid hx;clear o H hx;go_wp2_with fail
   go_loop [0,21] (fun s i=>∃j m:Nat,j<=l.length/\i=.int .i64 j/\s=.int .u32 m/\m<4294967296/\Hid (run m (l.drop j++R)=r)) (fun _ i=>l.length - (intOf i).toNat)
   case atStart=>exact ⟨0,m,by omega,rfl,rfl,hm,H2⟩
   case round =>
    obtain ⟨j,n,hj,rfl,rfl,M,H3⟩:=hrel;clear H2 hm A
    by_cases ad:j<l.length
    ·obtain ⟨b2,ap,rfl,an,q⟩:=HX.out.at_ ad;have E:=Zrb ad H3.out;generalize l[j]=c at E q;have hz:n%256 ^^^ c.toNat<256:=Xbf (n:=8) (by omega) c.toNat_lt;have ao:=G.out.cell hz;have e1:=ZsV n c;have e2:=ZsW n c M;have aj:=Zys M c.toNat_lt;have ar:=c.toNat_lt;have f:(0:Int)<=((n%256 ^^^ c.toNat:Nat):Int):=by omega
     have J:((n%256 ^^^ c.toNat:Nat):Int)<256:=by omega
     generalize n%256 ^^^ c.toNat=z at *;generalize onB n c.toNat=n2 at *;have H4:=hid E;clear E H3;go_wp2_with fail
     go_round
     case rel=>exact ⟨j+1,n2,by omega,by go_num,rfl,aj,H4⟩
     case measure=>simp [intOf];omega
    ·obtain rfl:j=l.length:=by omega
     have E:=H3.out;rw [Xae,Xz,<- af.out] at E;have H4:=hid E;clear E H3;go_wp2_with fail
     go_round
     case rel=>exact ⟨k+1,n,by omega,by go_num,rfl,M,H4⟩
     case measure=>simp [intOf];omega
  ·obtain rfl:k=a.length:=by omega
   have M:=Zjg hm;have o:=H.out;rw [Xae] at o;have h3:m=r:=o;subst h3;clear o H;go_wp2_with fail;have O:=t.out;subst O;go_ret;exact ⟨rfl,d.out⟩
def Told (n:Nat) (w:World) (e:Ending) (w':World):Prop:=e=.returned (.int .u32 n)/\Below w.heap.size w w'
theorem ZtU (v:Value) (a:List Xu) (w:World) (b:Zbp w v a):Calls prog 155 #[v] w (Told (ZaU a.flatten) w):=by
 have h:=Zbq 0 v a w (by omega) b;unfold ZaU Told;generalize ZI 0 a.flatten=F at *;have H:=hid h;clear h b;go_enter func155,ntmps155;go_wp2_with fail;refine H.out.mono ?_;rintro e w1 ⟨rfl,c⟩;go_wp2_with fail;go_ret;exact ⟨rfl,c⟩
theorem ZvD (s:Nat) (v:Value) (l:Xu) (w:World) (hs:s<4294967296) (y:Zq w v l) :
  Calls prog 162 #[.int .u32 s,v] w fun e w'=>e=.returned (.int .u32 (ZI s l))/\w=w':=by
 obtain ⟨p,M,rfl,E,z⟩:=y.shape;unfold maxLen at z;obtain ⟨r,d⟩:=Xn (run (Zj5 s) l);have b:Hid (ZI s l=Zj5 r):=hid (by unfold ZI;rw [d]);have o:Hid (run (Zj5 s) (l.drop 0++[])=r):=hid (by rw [XI];exact d);obtain ⟨F,h⟩:=Xn (ZI s l);rw [h];rw [h] at b;have H:=hid y;clear d y h;have hu:=ZjA;have B:=Zjg hs;have k:=Zpc s;go_enter func162,ntmps162;go_wp2_with fail
 go_loop [0,5] (fun s i=>∃j m:Nat,j<=l.length/\i=.int .i64 j/\s=.int .u32 m/\m<4294967296/\Hid (run m (l.drop j++[])=r)) (fun _ i=>l.length - (intOf i).toNat)
 case atStart=>exact ⟨0,Zj5 s,by omega,rfl,rfl,k,o⟩
 case round =>
  obtain ⟨j,n,hj,rfl,rfl,g,u⟩:=hrel;clear o B k hs
  by_cases t:j<l.length
  ·obtain ⟨b2,D,rfl,C,a⟩:=H.out.at_ t;have f:=Zrb t u.out;generalize l[j]=c at f a;have q:=ZCr n c w g;have A:=Zys g c.toNat_lt;generalize onB n c.toNat=I at *;have J:=hid f;have x:=hid q;have G:=c.toNat_lt;clear f u q;go_wp2_with fail;refine x.out.mono ?_;rintro e w1 ⟨rfl,rfl⟩;go_wp2_with fail
   go_round
   case rel=>exact ⟨j+1,I,by omega,by go_num,rfl,A,J⟩
   case measure=>simp [intOf];omega
  ·obtain rfl:j=l.length:=by omega
   have f:=u.out;rw [Xae] at f;have L:n=r:=f;subst L;have B:=Zjg g;clear f u;go_wp2_with fail;have h:=b.out;subst h;go_ret;exact ⟨rfl,rfl⟩
theorem Zlk (v:Value) (l:Xu) (w:World) (a:Zq w v l):Calls prog 108 #[v] w fun e w'=>e=.returned (.int .u32 (ZaU l))/\w=w':=by
 have h:=ZvD 0 v l w (by omega) a;unfold ZaU;generalize ZI 0 l=F at *;have H:=hid h;clear h a;go_enter func108,ntmps108;go_wp2_with fail;refine H.out.mono ?_;rintro e w1 ⟨rfl,rfl⟩;go_wp2_with fail;go_ret;exact ⟨rfl,rfl⟩
end CR
namespace MM
open RowKit
def Three (w:World) (g:Nat) (t:TypeId) (a b c:Value):Prop:=w.heap[g]? = some (.cells #[a,b,c] t (0,0))
section
variable {w w' : World} {g : Nat} {t : TypeId} {a b c : Value}
theorem Three.lt (h:Three w g t a b c):g<w.heap.size:=(Xo.1 h).1
theorem Three.c0 (h:Three w g t a b c):w.cell? ⟨g,0,none⟩=some a:=by rw [cell_of_row w g 0 _ _ _ h];rfl
theorem Three.c1 (h:Three w g t a b c):w.cell? ⟨g,1,none⟩=some b:=by rw [cell_of_row w g 1 _ _ _ h];rfl
theorem Three.c2 (h:Three w g t a b c):w.cell? ⟨g,2,none⟩=some c:=by rw [cell_of_row w g 2 _ _ _ h];rfl
theorem Three.fr (h:Three w g t a b c) (i:Nat):w.frozen? ⟨g,i,none⟩=false:=frozen_of_row w g i _ _ h
theorem Three.s0 (h:Three w g t a b c) (x:Value):Three (w.setCell ⟨g,0,none⟩ x) g t x b c:=heap_setCell_same w g 0 _ _ x h
theorem Three.s1 (h:Three w g t a b c) (x:Value):Three (w.setCell ⟨g,1,none⟩ x) g t a x c:=heap_setCell_same w g 1 _ _ x h
theorem Three.s2 (h:Three w g t a b c) (x:Value):Three (w.setCell ⟨g,2,none⟩ x) g t a b x:=heap_setCell_same w g 2 _ _ x h
def Zza (w:World) (g:Nat) (x y z:Value):World:=((w.setCell ⟨g,0,none⟩ x).setCell ⟨g,1,none⟩ y).setCell ⟨g,2,none⟩ z
theorem Three.set (h:Three w g t a b c) (x y z:Value):Three (Zza w g x y z) g t x y z:=((h.s0 x).s1 y).s2 z
theorem Three.keep {S:Nat->Prop} (h:Three w g t a b c) (d:Kep S w w') (e:S g):Three w' g t a b c:=(d.block g h.lt e).trans h
theorem Three.below {B:Nat} (h:Three w g t a b c) (e:Below B w w') (d:g<B):Three w' g t a b c:=(e.block g d).trans h
theorem ZaE (w:World) (t:TypeId) (a b c:Value):Three (w.alloc (.cells #[a,b,c] t)) w.heap.size t a b c:=heap_alloc_new _ _
theorem Three.cells (h:Three w g t a b c):w.cell? ⟨g,0,none⟩=some a/\w.cell? ⟨g,1,none⟩=some b/\w.cell? ⟨g,2,none⟩=some c:=⟨h.c0,h.c1,h.c2⟩
theorem Three.all (h:Three w g t a b c) (x y:Value) :
  w.frozen? ⟨g,0,none⟩=false/\w.frozen? ⟨g,1,none⟩=false/\w.frozen? ⟨g,2,none⟩=false /\
  ((w.setCell ⟨g,0,none⟩ x).cell? ⟨g,1,none⟩=some b/\(w.setCell ⟨g,0,none⟩ x).frozen? ⟨g,1,none⟩=false) /\
  (((w.setCell ⟨g,0,none⟩ x).setCell ⟨g,1,none⟩ y).cell? ⟨g,2,none⟩=some c/\((w.setCell ⟨g,0,none⟩ x).setCell ⟨g,1,none⟩ y).frozen? ⟨g,2,none⟩=false) :=
 ⟨h.fr 0,h.fr 1,h.fr 2,⟨(h.s0 x).c1,(h.s0 x).fr 1⟩,⟨((h.s0 x).s1 y).c2,((h.s0 x).s1 y).fr 2⟩⟩
theorem ZxZ {g:Nat} (x y z:Value):Kep (fun b=>b≠g) w (Zza w g x y z) :=
 ((Zx (fun h=>h rfl) x).trans (Zx (fun h=>h rfl) y)).trans (Zx (fun h=>h rfl) z)
end
section
variable {P : Program} {fn : Func} {t : TypeId} {ty : TypeDesc}
theorem ZyW {p:Tmp} (h:fn.results=#[.cell p t]) (i:P.underlying t=some ty) (f:(match ty with | .struct _ | .array _ _=>true|_=>false)=true) (hi:(P.info? t).map (·.size)=some 3) (tmps:Array Value) (w:World) (g:Nat) (a b c:Value)
  (j:tmps.getD p undef=.pointer (some ⟨g,0,none⟩)) (e:Three w g t a b c):(results fn tmps).run P w=.ok (.agg #[a,b,c]) w:=by
 have d:tmps[p]?.getD undef=.pointer (some ⟨g,0,none⟩):=by simpa using j
 have k:=run_loadVar_row (P:=P) w g t t _ (0,0) ty e i f hi;simp [results,h,d,asAddr,k]
theorem ZmS {p u:Tmp} (h:fn.results=#[.cell p t,.tmp u]) (i:P.underlying t=some ty) (f:(match ty with | .struct _ | .array _ _=>true|_=>false)=true) (hi:(P.info? t).map (·.size)=some 3) (tmps:Array Value) (w:World) (g:Nat) (a b c:Value)
  (j:tmps.getD p undef=.pointer (some ⟨g,0,none⟩)) (e:Three w g t a b c):(results fn tmps).run P w=.ok (.tuple #[.agg #[a,b,c],tmps.getD u undef]) w:=by
 have d:tmps[p]?.getD undef=.pointer (some ⟨g,0,none⟩):=by simpa using j
 have k:=run_loadVar_row (P:=P) w g t t _ (0,0) ty e i f hi;simp [results,h,d,asAddr,k]
end
variable {B n cap:Nat} {w w':World} {v:Value} {zs:List Int} {p:Option Addr}
theorem Zgi:(prog.info? 3).map (fun i=>(i.zero,i.size,i.bytes))=some (some (.int .i64 0),1,8):=by kernel_rfl
def Zej (w:World) (v:Value) (zs:List Int):Prop:=Row w v (zs.map (Value.int .i64))
def Ze3 (B:Nat) (w:World) (v:Value) (zs:List Int):Prop:=w.ownsRow B 3 1 v zs.length (zs.map (Value.int .i64))
theorem Ze3.irow (h:Ze3 B w v zs):Zej w v zs:=Row.of_own h
theorem Ze3.keep (h:Ze3 B w v zs) (a:Below w.heap.size w w'):Ze3 B w' v zs:=Zdf (B:=0) h a
theorem Zej.below (h:Zej w v zs) (a:Below w.heap.size w w'):Zej w' v zs:=Row.below (B:=0) h a
theorem Zej.shape (h:Zej w v zs):∃p cap,v=.slice p zs.length cap/\zs.length<=cap/\cap<=maxLen:=by
 obtain ⟨p,cap,a,b,c,_,_⟩:=h;rw [XE] at a b;exact ⟨p,cap,a,b,c⟩
theorem Zej.at_ (h:Zej w (.slice p n cap) zs) {k:Nat} (d:k<zs.length) :
  ∃b off,p=some ⟨b,off,none⟩/\b<w.heap.size/\w.cell? ⟨b,off+k,none⟩=some (.int .i64 (zs.getD k 0)):=by
 obtain ⟨p',cap',c,_,_,_,h⟩:=h;simp only [Value.slice.injEq] at c;obtain ⟨rfl,_,_⟩:=c;rcases h with h|⟨b,off,f,a,e⟩
 ·have:zs=[]:=Xbe.1 h;subst this;simp at d
 ·exact ⟨b,off,f,a,e k _ (by simp [List.getD,d])⟩
theorem Zej.take (h:Zej w (.slice p n cap) zs) (k:Nat) (a:k<=n):Zej w (.slice p k cap) (zs.take k):=by
 have:=Za0.take h k a;rw [<- List.map_take] at this;exact this
theorem ZjD {ops:Array Oper} {rest:List Oper} {o:Oper} {a:Act} {Q:Exit->Act->World->Prop} (j:o.guard=none) (s x:Operand)
  (q:o.op=.call { callee:=.builtin .append,args:=#[s,x],argTypes:=#[69,69] }) (B:Nat) (v:Value) (zs:List Int) (c:World) (z:Int) (u:w=c.alloc (.cells #[.int .i64 z] 3)) (hs:a.eval s=v) (b:Ze3 B c v zs)
  (r:a.eval x=.slice (some ⟨c.heap.size,0,none⟩) 1 1) (l:zs.length<=4398046511104) (d:B<=c.heap.size)
  (h:∀v' w',Ze3 B w' v' (zs++[z])->Below B c w'->wpList prog ops Q rest (a.put o.dst v') w'):wpList prog ops Q (o::rest) a w:=by
 subst u;obtain ⟨i0,hi,g,i,f⟩:=info_parts Zgi;have e:∀k,v.ownBlock=some k->B<=k:=fun k t=>(World.ownsRow.lt b k t).1
 refine wpList_append_own _ j s x 69 q B 3 i0 (.int .i64 0) 1 8 underlying69 hi g i f rfl (by decide) v zs.length _ hs (World.ownsRow.alloc b _) ⟨c.heap.size,0,none⟩ 1 1 [.int .i64 z] r rfl (Zdu _ _ _) (ZhP _ _)
  (by unfold maxLen;omega) (by omega) (by simp;omega) (fun v' w' y m _=>h v' w' ?_ (Zb0 (Below.refl B c) d e m))
 unfold Ze3;rw [Xd,XN];exact y
variable {B B':Nat} {w w':World} {v:Value} {ss:List Xu}
theorem ZAE:(prog.info? 9).map (fun i=>(i.zero,i.size,i.bytes))=some (some (.string ⟨#[]⟩),1,16):=by kernel_rfl
def ZBA (l:Xu):Value:=.string ⟨l.toArray⟩
def TIn (B:Nat) (w:World) (v:Value) (ss:List Xu):Prop:=Za0 B w v (ss.map ZBA)
def Ze4 (w:World) (v:Value) (ss:List Xu):Prop:=TIn w.heap.size w v ss
def ZeE (B:Nat) (w:World) (v:Value) (ss:List Xu):Prop:=w.ownsRow B 9 1 v ss.length (ss.map ZBA)
theorem ZeE.trow (h:ZeE B w v ss):Ze4 w v ss:=Row.of_own h
theorem ZeE.keep (h:ZeE B w v ss) (a:Below w.heap.size w w'):ZeE B w' v ss:=Zdf (B:=0) h a
theorem ZeE.weaken (h:ZeE B w v ss) (f:B'<=B):ZeE B' w v ss:=by
 refine ⟨h.1,?_⟩;rcases h.2 with d|⟨g,b,a,e,c,rest⟩
 ·exact .inl d
 ·exact .inr ⟨g,b,a,e,Xx f c,rest⟩
theorem ZeE.nil_ (B:Nat) (w:World):ZeE B w (.slice none 0 0) []:=World.ownsRow_nil _ _ _ _
theorem ZeE.shape (h:ZeE B w v ss):∃p a,v=.slice p ss.length a/\ss.length<=a/\a<=maxLen:=by
 obtain ⟨p,a,b,c,d,_,_⟩:=h.trow;rw [XE] at b c;exact ⟨p,a,b,c,d⟩
theorem Ze4.below (h:Ze4 w v ss) (a:Below w.heap.size w w'):Ze4 w' v ss:=Row.below (B:=0) h a
theorem TIn.below (h:TIn B w v ss) (a:Below B w w'):TIn B w' v ss:=Za0.below h a
theorem TIn.mono (h:TIn B w v ss) (a:B<=B'):TIn B' w v ss:=Za0.mono h a
theorem TIn.shape (h:TIn B w v ss):∃p a,v=.slice p ss.length a/\ss.length<=a/\a<=maxLen:=by
 obtain ⟨p,a,b,c,d,_,_⟩:=h;rw [XE] at b c;exact ⟨p,a,b,c,d⟩
theorem TIn.at_ {p:Option Addr} {n c:Nat} (h:TIn B w (.slice p n c) ss) {k:Nat} (e:k<ss.length) :
  ∃b off,p=some ⟨b,off,none⟩/\b<B/\w.cell? ⟨b,off+k,none⟩=some (.string ⟨(ss[k]).toArray⟩):=by
 obtain ⟨p',cap',d,_,_,_,h⟩:=h;simp only [Value.slice.injEq] at d;obtain ⟨rfl,_,_⟩:=d;rcases h with h|⟨b,off,g,a,f⟩
 ·have:ss=[]:=Xbe.1 h;subst this;simp at e
 ·exact ⟨b,off,g,a,f k _ (by simp [e,ZBA])⟩
theorem ZjE {ops:Array Oper} {rest:List Oper} {o:Oper} {a:Act} {Q:Exit->Act->World->Prop} (j:o.guard=none) (s x:Operand)
  (p:o.op=.call { callee:=.builtin .append,args:=#[s,x],argTypes:=#[40,40] }) (B:Nat) (v:Value) (ss:List Xu) (d:World) (z:Xu) (t:w=d.alloc (.cells #[.string ⟨z.toArray⟩] 9)) (hs:a.eval s=v) (b:ZeE B d v ss)
  (q:a.eval x=.slice (some ⟨d.heap.size,0,none⟩) 1 1) (l:ss.length<=1000000000000) (c:B<=d.heap.size)
  (h:∀v' w',ZeE B w' v' (ss++[z])->Below B d w'->wpList prog ops Q rest (a.put o.dst v') w'):wpList prog ops Q (o::rest) a w:=by
 subst t;obtain ⟨i0,hi,g,i,f⟩:=info_parts ZAE;have e:∀k,v.ownBlock=some k->B<=k:=fun k r=>(World.ownsRow.lt b k r).1
 refine wpList_append_own _ j s x 40 p B 9 i0 (.string ⟨#[]⟩) 1 16 underlying40 hi g i f rfl (by decide) v ss.length _ hs (World.ownsRow.alloc b _) ⟨d.heap.size,0,none⟩ 1 1 [.string ⟨z.toArray⟩] q rfl (Zdu _ _ _) (by intro u m;simp at m;subst m;rfl)
  (by unfold maxLen;omega) (by omega) (by simp;omega) (fun v' w' y n _=>h v' w' ?_ (Zb0 (Below.refl B d) c e n))
 unfold ZeE;rw [Xd,XN];exact y
variable {w w':World} {g:Nat} {a b:Value}
def Two (w:World) (g:Nat) (t:TypeId) (a b:Value):Prop:=w.heap[g]? = some (.cells #[a,b] t (0,0))
theorem Two.lt {t:TypeId} (h:Two w g t a b):g<w.heap.size:=(Xo.1 h).1
theorem Two.c0 {t:TypeId} (h:Two w g t a b):w.cell? ⟨g,0,none⟩=some a:=by rw [cell_of_row w g 0 _ _ _ h];rfl
theorem Two.c1 {t:TypeId} (h:Two w g t a b):w.cell? ⟨g,1,none⟩=some b:=by rw [cell_of_row w g 1 _ _ _ h];rfl
theorem Two.f0 {t:TypeId} (h:Two w g t a b):w.frozen? ⟨g,0,none⟩=false:=frozen_of_row w g 0 _ _ h
theorem Two.f1 {t:TypeId} (h:Two w g t a b):w.frozen? ⟨g,1,none⟩=false:=frozen_of_row w g 1 _ _ h
theorem Two.s0 {t:TypeId} (h:Two w g t a b) (x:Value):Two (w.setCell ⟨g,0,none⟩ x) g t x b:=heap_setCell_same w g 0 _ _ x h
theorem Two.s1 {t:TypeId} (h:Two w g t a b) (x:Value):Two (w.setCell ⟨g,1,none⟩ x) g t a x:=heap_setCell_same w g 1 _ _ x h
theorem Two.s01 {t:TypeId} (h:Two w g t a b) (x y:Value):Two ((w.setCell ⟨g,0,none⟩ x).setCell ⟨g,1,none⟩ y) g t x y:=(h.s0 x).s1 y
theorem Two.keep {S:Nat->Prop} {t:TypeId} (h:Two w g t a b) (c:Kep S w w') (e:S g):Two w' g t a b:=(c.block g h.lt e).trans h
theorem Two.below {B:Nat} {t:TypeId} (h:Two w g t a b) (e:Below B w w') (c:g<B):Two w' g t a b:=(e.block g c).trans h
theorem ZdP (w:World) (t:TypeId) (a b:Value):Two (w.alloc (.cells #[a,b] t)) w.heap.size t a b:=heap_alloc_new _ _
theorem Two.all {t:TypeId} (h:Two w g t a b) (x:Value) :
  w.cell? ⟨g,0,none⟩=some a/\w.cell? ⟨g,1,none⟩=some b/\w.frozen? ⟨g,0,none⟩=false/\w.frozen? ⟨g,1,none⟩=false/\(w.setCell ⟨g,0,none⟩ x).cell? ⟨g,1,none⟩=some b/\(w.setCell ⟨g,0,none⟩ x).frozen? ⟨g,1,none⟩=false :=
 ⟨h.c0,h.c1,h.f0,h.f1,(h.s0 x).c1,(h.s0 x).f1⟩
theorem ZbE {i:Nat} (x:Value):Kep (fun b=>b≠g) w (w.setCell ⟨g,i,none⟩ x):=Zx (fun h=>h rfl) x
theorem ZdC (x y:Value):Kep (fun b=>b≠g) w ((w.setCell ⟨g,0,none⟩ x).setCell ⟨g,1,none⟩ y):=(ZbE x).trans (ZbE y)
section
variable {P : Program} {fn : Func} {t : TypeId} {d : TypeDesc}
theorem Zjr {p:Tmp} (h:fn.results=#[.cell p t]) (i:P.underlying t=some d) (f:(match d with | .struct _ | .array _ _=>true|_=>false)=true) (hi:(P.info? t).map (·.size)=some 2) (tmps:Array Value) (w:World) (g:Nat) (a b:Value)
  (j:tmps.getD p undef=.pointer (some ⟨g,0,none⟩)) (e:Two w g t a b):(results fn tmps).run P w=.ok (.agg #[a,b]) w:=by
 have c:tmps[p]?.getD undef=.pointer (some ⟨g,0,none⟩):=by simpa using j
 have k:=run_loadVar_row (P:=P) w g t t _ (0,0) d e i f hi;simp [results,h,c,asAddr,k]
theorem ZaX {p u v:Tmp} (h:fn.results=#[.cell p t,.tmp u,.tmp v]) (i:P.underlying t=some d) (f:(match d with | .struct _ | .array _ _=>true|_=>false)=true) (hi:(P.info? t).map (·.size)=some 2) (tmps:Array Value) (w:World) (g:Nat) (a b:Value)
  (j:tmps.getD p undef=.pointer (some ⟨g,0,none⟩)) (e:Two w g t a b):(results fn tmps).run P w=.ok (.tuple #[.agg #[a,b],tmps.getD u undef,tmps.getD v undef]) w:=by
 have c:tmps[p]?.getD undef=.pointer (some ⟨g,0,none⟩):=by simpa using j
 have k:=run_loadVar_row (P:=P) w g t t _ (0,0) d e i f hi;simp [results,h,c,asAddr,k]
end
def Za3 (w:World) (g:Nat) (t:TypeId) (a b c d:Value):Prop:=w.heap[g]? = some (.cells #[a,b,c,d] t (0,0))
section
variable {w w' : World} {g : Nat} {t : TypeId} {a b c d : Value}
theorem Za3.lt (h:Za3 w g t a b c d):g<w.heap.size:=(Xo.1 h).1
theorem Za3.c0 (h:Za3 w g t a b c d):w.cell? ⟨g,0,none⟩=some a:=by rw [cell_of_row w g 0 _ _ _ h];rfl
theorem Za3.c1 (h:Za3 w g t a b c d):w.cell? ⟨g,1,none⟩=some b:=by rw [cell_of_row w g 1 _ _ _ h];rfl
theorem Za3.c2 (h:Za3 w g t a b c d):w.cell? ⟨g,2,none⟩=some c:=by rw [cell_of_row w g 2 _ _ _ h];rfl
theorem Za3.c3 (h:Za3 w g t a b c d):w.cell? ⟨g,3,none⟩=some d:=by rw [cell_of_row w g 3 _ _ _ h];rfl
theorem Za3.fr (h:Za3 w g t a b c d) (i:Nat):w.frozen? ⟨g,i,none⟩=false:=frozen_of_row w g i _ _ h
theorem Za3.s0 (h:Za3 w g t a b c d) (x:Value):Za3 (w.setCell ⟨g,0,none⟩ x) g t x b c d:=heap_setCell_same w g 0 _ _ x h
theorem Za3.s1 (h:Za3 w g t a b c d) (x:Value):Za3 (w.setCell ⟨g,1,none⟩ x) g t a x c d:=heap_setCell_same w g 1 _ _ x h
theorem Za3.s2 (h:Za3 w g t a b c d) (x:Value):Za3 (w.setCell ⟨g,2,none⟩ x) g t a b x d:=heap_setCell_same w g 2 _ _ x h
theorem Za3.s3 (h:Za3 w g t a b c d) (x:Value):Za3 (w.setCell ⟨g,3,none⟩ x) g t a b c x:=heap_setCell_same w g 3 _ _ x h
def ZCU (w:World) (g:Nat) (x y z u:Value):World:=(((w.setCell ⟨g,0,none⟩ x).setCell ⟨g,1,none⟩ y).setCell ⟨g,2,none⟩ z).setCell ⟨g,3,none⟩ u
theorem Za3.set (h:Za3 w g t a b c d) (x y z u:Value):Za3 (ZCU w g x y z u) g t x y z u:=(((h.s0 x).s1 y).s2 z).s3 u
theorem Za3.keep {S:Nat->Prop} (h:Za3 w g t a b c d) (e:Kep S w w') (f:S g):Za3 w' g t a b c d:=(e.block g h.lt f).trans h
theorem Za3.below {B:Nat} (h:Za3 w g t a b c d) (f:Below B w w') (e:g<B):Za3 w' g t a b c d:=(f.block g e).trans h
theorem ZeS (w:World) (t:TypeId) (a b c d:Value):Za3 (w.alloc (.cells #[a,b,c,d] t)) w.heap.size t a b c d:=heap_alloc_new _ _
theorem Za3.cells (h:Za3 w g t a b c d):w.cell? ⟨g,0,none⟩=some a/\w.cell? ⟨g,1,none⟩=some b/\w.cell? ⟨g,2,none⟩=some c/\w.cell? ⟨g,3,none⟩=some d:=⟨h.c0,h.c1,h.c2,h.c3⟩
theorem Za3.all (h:Za3 w g t a b c d) (x y z:Value) :
  w.frozen? ⟨g,0,none⟩=false/\w.frozen? ⟨g,1,none⟩=false/\w.frozen? ⟨g,2,none⟩=false/\w.frozen? ⟨g,3,none⟩=false /\
  ((w.setCell ⟨g,0,none⟩ x).cell? ⟨g,1,none⟩=some b/\(w.setCell ⟨g,0,none⟩ x).frozen? ⟨g,1,none⟩=false) /\
  (((w.setCell ⟨g,0,none⟩ x).setCell ⟨g,1,none⟩ y).cell? ⟨g,2,none⟩=some c/\((w.setCell ⟨g,0,none⟩ x).setCell ⟨g,1,none⟩ y).frozen? ⟨g,2,none⟩=false) /\
  ((((w.setCell ⟨g,0,none⟩ x).setCell ⟨g,1,none⟩ y).setCell ⟨g,2,none⟩ z).cell? ⟨g,3,none⟩=some d/\(((w.setCell ⟨g,0,none⟩ x).setCell ⟨g,1,none⟩ y).setCell ⟨g,2,none⟩ z).frozen? ⟨g,3,none⟩=false) :=
 ⟨h.fr 0,h.fr 1,h.fr 2,h.fr 3,⟨(h.s0 x).c1,(h.s0 x).fr 1⟩,⟨((h.s0 x).s1 y).c2,((h.s0 x).s1 y).fr 2⟩,⟨(((h.s0 x).s1 y).s2 z).c3,(((h.s0 x).s1 y).s2 z).fr 3⟩⟩
theorem ZfR {g:Nat} (x y z u:Value):Kep (fun b=>b≠g) w (ZCU w g x y z u) :=
 (((Zx (fun h=>h rfl) x).trans (Zx (fun h=>h rfl) y)).trans (Zx (fun h=>h rfl) z)).trans (Zx (fun h=>h rfl) u)
end
section
variable {P : Program} {fn : Func} {t : TypeId} {ty : TypeDesc}
theorem Znm {p:Tmp} (h:fn.results=#[.cell p t]) (j:P.underlying t=some ty) (i:(match ty with | .struct _ | .array _ _=>true|_=>false)=true) (hi:(P.info? t).map (·.size)=some 4) (tmps:Array Value) (w:World) (g:Nat) (a b c d:Value)
  (k:tmps.getD p undef=.pointer (some ⟨g,0,none⟩)) (f:Za3 w g t a b c d):(results fn tmps).run P w=.ok (.agg #[a,b,c,d]) w:=by
 have e:tmps[p]?.getD undef=.pointer (some ⟨g,0,none⟩):=by simpa using k
 have l:=run_loadVar_row (P:=P) w g t t _ (0,0) ty f j i hi;simp [results,h,e,asAddr,l]
theorem Zb4 {p u:Tmp} (h:fn.results=#[.cell p t,.tmp u]) (j:P.underlying t=some ty) (i:(match ty with | .struct _ | .array _ _=>true|_=>false)=true) (hi:(P.info? t).map (·.size)=some 4) (tmps:Array Value) (w:World) (g:Nat) (a b c d:Value)
  (k:tmps.getD p undef=.pointer (some ⟨g,0,none⟩)) (f:Za3 w g t a b c d):(results fn tmps).run P w=.ok (.tuple #[.agg #[a,b,c,d],tmps.getD u undef]) w:=by
 have e:tmps[p]?.getD undef=.pointer (some ⟨g,0,none⟩):=by simpa using k
 have l:=run_loadVar_row (P:=P) w g t t _ (0,0) ty f j i hi;simp [results,h,e,asAddr,l]
end
variable {s:ByteArray} {l:Xu}
theorem ZgC (a:s.data.toList=l) {i:Nat} {c:UInt8} (hi:l[i]? = some c) (W:World):(Instr.index 9 (.string s) (.int .i64 (i:Int))).run prog W=.ok (.int .u8 (c.toNat:Int)) W:=by
 obtain ⟨d,b⟩:=Xal.1 hi;have f:s.size=l.length:=by rw [Lib.size_eq,a]
 rw [run_index_string W 9 s .i64 i underlying9,dif_pos ⟨by omega,by omega⟩];subst a
 have e:(s[(i:Int).toNat]'(by omega))=c:=by
  rw [<- b];simp only [XT];rfl
 rw [e]
theorem Zc7 (a:s.data.toList=l):s.size=l.length:=by rw [Lib.size_eq,a]
theorem ZcT {w wr:World} (h:∃m,wr=w.drewN m) (n:Nat):∃m,wr.drewN n=w.drewN m:=by
 obtain ⟨m,rfl⟩:=h;exact ⟨m+n,World.drewN_drewN _ _ _⟩
theorem Zkk (l:Xu) (a b:Nat):(⟨l.toArray⟩:ByteArray).extract a b=⟨((l.drop a).take (b - a)).toArray⟩:=by
 apply ByteArray.ext;rw [ByteArray.data_extract];apply Array.toList_inj.1;simp [List.extract_eq_take_drop]
end MM
namespace BL
open RowKit MM BM
theorem ZoF (h:Int) (c:UInt8):IntKind.u64.wrap (bits .xor .u64 h (IntKind.u64.wrap (c.toNat:Int))*1099511628211)=Zrf h c:=by
 have:=c.toNat_lt;unfold Zrf;rw [show IntKind.u64.wrap (c.toNat:Int)=(c.toNat:Int) by rw [wrap_u64];omega]
theorem Zd3 (s:Xu) (w:World) (hs:s.length<=1000000000000):Calls prog 114 #[.string ⟨s.toArray⟩] w fun e w'=>e=.returned (.int .u64 (ZaM s))/\w=w':=by
 obtain ⟨R,a⟩:=Xn (ZaM s);rw [a];have f:=hid a;clear a;go_enter func114,ntmps114;go_wp2_with fail
 go_loopw [3,4] (fun h i wr=>∃k:Nat,k<=s.length/\h=.int .u64 (ZaM (s.take k))/\i=.int .i64 k/\wr=w) (fun _ i _=>s.length - (intOf i).toNat)
 case atStart=>exact ⟨0,by omega,rfl,rfl,rfl⟩
 case round =>
  obtain ⟨k,hk,rfl,rfl,rfl⟩:=hrel
  by_cases b:k<s.length
  ·have g:decide ((k:Int)<(s.length:Int))=true:=by simp;omega
   have d:=hid (Zog b);obtain ⟨h,c⟩:=Xn (ZaM (s.take k));rw [c] at d ⊢;clear c;go_wp2_with fail;go_roundw
   case rel=>exact ⟨k+1,by omega,by rw [d.out];exact Xp (Value.int .u64) (ZoF h s[k]),by go_num,trivial⟩
   case measure=>simp [intOf];omega
  ·obtain rfl:k=s.length:=by omega
   rw [XC,f.out];have g:decide ((s.length:Int)<(s.length:Int))=false:=by simp
   go_wp2_with fail;go_ret;exact ⟨rfl,rfl⟩
theorem ZwS (s:Xu) (w:World) (hs:s.length<=1000000000000):Calls prog 215 #[.string ⟨s.toArray⟩] w fun e w'=>e=.returned (.int .u64 (ZaM s))/\w=w':=by
 obtain ⟨R,a⟩:=Xn (ZaM s);rw [a];have f:=hid a;clear a;go_enter func215,ntmps215;go_wp2_with fail
 go_loopw [3,7] (fun h i wr=>∃k:Nat,k<=s.length/\h=.int .u64 (ZaM (s.take k))/\i=.int .i64 k/\wr=w) (fun _ i _=>s.length - (intOf i).toNat)
 case atStart=>exact ⟨0,by omega,rfl,rfl,rfl⟩
 case round =>
  obtain ⟨k,hk,rfl,rfl,rfl⟩:=hrel
  by_cases b:k<s.length
  ·have g:decide ((k:Int)<(s.length:Int))=true:=by simp;omega
   have d:=hid (Zog b);obtain ⟨h,c⟩:=Xn (ZaM (s.take k));rw [c] at d ⊢;clear c;go_wp2_with fail;go_roundw
   case rel=>exact ⟨k+1,by omega,by rw [d.out];exact Xp (Value.int .u64) (ZoF h s[k]),by go_num,trivial⟩
   case measure=>simp [intOf];omega
  ·obtain rfl:k=s.length:=by omega
   rw [XC,f.out];have g:decide ((s.length:Int)<(s.length:Int))=false:=by simp
   go_wp2_with fail;go_ret;exact ⟨rfl,rfl⟩
theorem Zj8 (a b i n:Nat) (ha:a<4294967296) (d:b<=4294967296) (hi:i<4) (e:8<=n) (h:n<=131072) :
  wrap64 ((IntKind.u64.wrap ((a:Int)+IntKind.u64.wrap ((i:Int)*(b:Int)))).tmod (8*(n:Int)))=(((a+i*b)%(8*n):Nat):Int):=by
 have hm:i*b<=4*4294967296:=Nat.mul_le_mul (by omega) d;have c:(i:Int)*(b:Int)=((i*b:Nat):Int):=by simp
 rw [c];generalize i*b=X at *;have f:IntKind.u64.wrap (X:Int)=(X:Int):=by rw [wrap_u64];omega
 rw [f];have g:IntKind.u64.wrap ((a:Int)+(X:Int))=((a+X:Nat):Int):=by rw [wrap_u64];omega
 rw [g,show (8*(n:Int))=((8*n:Nat):Int) by omega,<- Int.ofNat_tmod];have hl:(a+X)%(8*n)<8*n:=XaN _ (by omega);generalize (a+X)%(8*n)=Z at *;unfold wrap64;omega
theorem Zsy (s:Xu) (N i n:Nat) (c:ZaM s=(N:Int)) (e:N<18446744073709551616) (hi:i<4) (a:8<=n) (b:n<=131072) (h:(N:Int) / 4294967296%2=0) :
  wrap64 ((IntKind.u64.wrap ((N:Int)%4294967296+IntKind.u64.wrap ((i:Int)*((N:Int) / 4294967296+1)))).tmod (8*(n:Int)))=((ZX (8*n) s i:Nat):Int):=by
 have d:Zed s=N%4294967296:=by unfold Zed;rw [c];omega
 have f:ZcP s=N / 4294967296+1:=by unfold ZcP Zi6;rw [c,Xe (by omega)];omega
 unfold ZX;rw [d,f,<- Zj8 (N%4294967296) (N / 4294967296+1) i n (by omega) (by omega) hi a b];congr 1
theorem Zvm (s:Xu) (N i n:Nat) (c:ZaM s=(N:Int)) (e:N<18446744073709551616) (hi:i<4) (a:8<=n) (b:n<=131072) (h:¬(N:Int) / 4294967296%2=0) :
  wrap64 ((IntKind.u64.wrap ((N:Int)%4294967296+IntKind.u64.wrap ((i:Int)*((N:Int) / 4294967296)))).tmod (8*(n:Int)))=((ZX (8*n) s i:Nat):Int):=by
 have d:Zed s=N%4294967296:=by unfold Zed;rw [c];omega
 have f:ZcP s=N / 4294967296:=by unfold ZcP Zi6;rw [c,Xa (by omega)];omega
 unfold ZX;rw [d,f,<- Zj8 (N%4294967296) (N / 4294967296) i n (by omega) (by omega) hi a b];congr 1
theorem ZyT (p:Option Addr) (n m:Nat) (s:Xu) (i:Nat) (w:World) (hs:s.length<=1000000000000) (b:8<=n) (f:n<=131072) (hi:i<4) :
  Calls prog 63 #[.agg #[.slice p n m],.string ⟨s.toArray⟩,.int .i64 i] w fun e w'=>e=.returned (.int .i64 (ZX (8*n) s i:Nat))/\Below w.heap.size w w':=by
 have k:=hid (fun W=>Zd3 s W hs);obtain ⟨N,d⟩:∃N:Nat,ZaM s=(N:Int):=⟨(ZaM s).toNat,by have:=(ZeW s).1;omega⟩;rw [d] at k;have q:=(ZeW s).2;rw [d] at q;have a:N<18446744073709551616:=by omega
 clear q;have g:=hid (Zsy s N i n d a hi b f);have j:=hid (Zvm s N i n d a hi b f);obtain ⟨R,r⟩:=Xn (ZX (8*n) s i);rw [r] at g j ⊢;clear d r;have t:=hid (fun o=>(Below.refl w.heap.size w).alloc (Xc _) o)
 by_cases h:(N:Int) / 4294967296%2=0
 ·have c:=g.out h;have v:((N:Int) / 4294967296%2 == 0)=true:=by rw [Xan];exact h
  have l:=hid c;clear g j h c;go_enter func63,ntmps63;go_wp2_with fail;refine (k.out _).mono ?_;rintro e u ⟨rfl,rfl⟩;go_wp2_with fail;go_ret;exact ⟨Xp (fun z=>Ending.returned (.int .i64 z)) l.out,t.out _⟩
 ·have c:=j.out h;have v:((N:Int) / 4294967296%2 == 0)=false:=by rw [Xab];exact h
  have l:=hid c;clear g j h c;go_enter func63,ntmps63;go_wp2_with fail;refine (k.out _).mono ?_;rintro e u ⟨rfl,rfl⟩;go_wp2_with fail;go_ret;exact ⟨Xp (fun z=>Ending.returned (.int .i64 z)) l.out,t.out _⟩
theorem Zz9:∀c:Fin 256,∀j:Fin 8,((c.val:Int) / ((2:Int)^j.val%256)%2 == 1)=ZoV (UInt8.ofNat c.val) j.val:=by decide +kernel
theorem ZAa (c:UInt8) {j:Nat} (a:j<8):((c.toNat:Int) / ((2:Int)^j%256)%2 == 1)=ZoV c j:=by
 have:=Zz9 ⟨c.toNat,c.toNat_lt⟩ ⟨j,a⟩;have e:UInt8.ofNat c.toNat=c:=by simp
 dsimp only at this;rw [e] at this;exact this
theorem Zzs:∀j:Fin 8,¬(2:Int)^j.val%256=0:=by decide +kernel
theorem Zsb {L:Xu} {k:Nat} (a:k / 8<L.length):Zit L k=ZoV L[k / 8] (k%8):=by
 unfold Zit;simp [List.getD,a]
theorem ZyY (v:Value) (L:Xu) (k:Nat) (w:World) (h:Zq w v L) (i:L.length<=131072) (hk:k<8*L.length) :
  Calls prog 62 #[.agg #[v],.int .i64 k] w fun e w'=>e=.returned (.bool (Zit L k))/\Below w.heap.size w w':=by
 have f:Below w.heap.size w (w.alloc (.cells #[v] 44)):=(Below.refl _ _).alloc (Xc _) _;have m:=h.below f;obtain ⟨p,t,rfl,l,r⟩:=h.shape;obtain ⟨b,off,rfl,d,a⟩:=h.at_ (show k / 8<L.length by omega);have g:=fun o=>(((Below.refl w.heap.size w).alloc (Xc _) o).cell (p:=⟨b,off+k / 8,none⟩) d).trans a;have n:=Zzs ⟨k%8,XaN _ (by decide)⟩;dsimp only at n;have c:=ZAa L[k / 8] (j:=k%8) (XaN _ (by decide));rw [<- Zsb] at c;have s:=hid c;have q:=hid (fun o=>(Below.refl w.heap.size w).alloc (Xc _) o);clear a f m h c;go_enter func62,ntmps62;go_wp2_with fail;go_ret;exact ⟨Xp (fun z=>Ending.returned (.bool z)) s.out,q.out _⟩
variable {m B n:Nat} {s:Xu} {w:World}
def Pl (m:Nat) (s:Xu) (B n:Nat) (w:World):Prop:=∃a:Array Value,w.heap[B]? = some (.cells a 257 (0,0))/\a.size=4/\∀k,k<n->a[k]? = some (.int .i64 (ZX m s k:Nat))
theorem Pl.there (h:Pl m s B n w) {k:Nat} (b:k<4):∃v,w.cell? ⟨B,k,none⟩=some v:=by
 obtain ⟨a,c,hs,_⟩:=h;exact ⟨a[k],by rw [cell_of_row w B k a _ _ c];simp [hs,b]⟩
theorem Pl.free (h:Pl m s B n w) (k:Nat):w.frozen? ⟨B,k,none⟩=false:=by
 obtain ⟨a,b,_,_⟩:=h;exact frozen_of_row w B k a _ b
theorem Pl.put (h:Pl m s B n w) (d:n<4):Pl m s B (n+1) (w.setCell ⟨B,n,none⟩ (.int .i64 (ZX m s n:Nat))):=by
 obtain ⟨a,e,hs,c⟩:=h;refine ⟨_,heap_setCell_same w B n a _ _ e,by simp [hs],fun k hk => ?_⟩
 by_cases b:k=n
 ·subst b;simp [hs,d]
 ·rw [Array.getElem?_setIfInBounds_ne (by omega)];exact c k (by omega)
def plA (m:Nat) (s:Xu):Array Value:=#[.int .i64 (ZX m s 0:Nat),.int .i64 (ZX m s 1:Nat),.int .i64 (ZX m s 2:Nat),.int .i64 (ZX m s 3:Nat)]
theorem Pl.all (h:Pl m s B 4 w):w.heap[B]? = some (.cells (plA m s) 257 (0,0)):=by
 obtain ⟨a,d,hs,c⟩:=h
 have:a=plA m s:=by
  apply Array.ext_getElem?;intro k
  by_cases b:k<4
  ·rw [c k b]
   match k,b with
   | 0,_=>rfl
   | 1,_=>rfl
   | 2,_=>rfl
   | 3,_=>rfl
  ·rw [Xaw (by omega),Xaw (by simp [plA];omega)]
 rw [<- this];exact d
theorem ZA8 (m:Nat) (s:Xu):(plA m s).all (·.oneCell')=true:=by
 simp only [plA,List.all_toArray,List.all_cons,List.all_nil];rfl
theorem ZxQ:(prog.info? 257).map (·.size)=some 4:=by kernel_rfl
theorem Zwl:∃Z:Array Value,Z.size=4/\∀W,Sem.run prog (zeroValue 257) W=.ok (.agg Z) W :=
 ⟨#[.int .i64 0,.int .i64 0,.int .i64 0,.int .i64 0],rfl,fun W=>by kernel_rfl⟩
theorem below_setRow {g:Nat} {a:World} (b:Array Value) (h:Below B a w) (hg:B<=g):Below B a (w.setRow g b) :=
 ⟨h.os,h.tape,h.output,by rw [setRow_size];exact h.size,fun i hi=>by rw [setRow_other w g i b (by omega)];exact h.block i hi⟩
theorem Zz6 (N:Nat) (a:N<18446744073709551616):bits .and .u64 (N:Int) 4294967295=(N:Int)%4294967296:=by
 have:=bits_and_u64_nat N 4294967295 a (by decide);rw [show (4294967295:Int)=((4294967295:Nat):Int) from rfl,this];have e:N &&& 4294967295=N%4294967296:=Nat.and_two_pow_sub_one_eq_mod N 32;rw [e];omega
theorem or_one (Q:Nat) (hQ:Q<4294967296):bits .or .u64 (Q:Int) 1=((if Q%2=0 then Q+1 else Q:Nat):Int):=by
 have:=bits_or_u64_nat Q 1 (by omega) (by decide);rw [show (1:Int)=((1:Nat):Int) from rfl,this];congr 1
 apply Nat.eq_of_testBit_eq;intro i;rw [Nat.testBit_or]
 by_cases h:Q%2=0
 ·rw [Xe h];cases i with
  | zero=>simp [Nat.testBit_zero];omega
  | succ i =>
    simp only [Nat.testBit_succ];rw [show (Q+1) / 2=Q / 2 by omega];simp
 ·rw [Xa h];cases i with
  | zero=>simp [Nat.testBit_zero];omega
  | succ i=>simp [Nat.testBit_succ]
theorem ZmK (s:Xu) (n:Nat) (w:World) (hs:s.length<=1000000000000) (L:8<=n) (U:n<=131072) :
  Calls prog 171 #[.string ⟨s.toArray⟩,.int .i64 (8*(n:Int))] w fun e w'=>e=.returned (.agg (plA (8*n) s))/\Below w.heap.size w w':=by
 have O:=hid (fun W=>ZwS s W hs);obtain ⟨N,A⟩:∃N:Nat,ZaM s=(N:Int):=⟨(ZaM s).toNat,by have:=(ZeW s).1;omega⟩;rw [A] at O;have Y:=(ZeW s).2;rw [A] at Y;have S:N<18446744073709551616:=by omega
 clear Y;have j:=Zz6 N S;have o:=or_one (N / 4294967296) (by omega);have e1:Zed s=N%4294967296:=by unfold Zed;rw [A];omega
 have e2:ZcP s=if N / 4294967296%2=0 then N / 4294967296+1 else N / 4294967296:=by
  have eh:Zi6 s=N / 4294967296:=by unfold Zi6;rw [A];omega
  unfold ZcP;rw [eh]
 rw [<- e2,show ((N / 4294967296:Nat):Int)=(N:Int) / 4294967296 by omega] at o;have hf:=ZuD s;have ab:=ZsN s;have G:=hid (fun i (hi:i<4)=>Zj8 (Zed s) (ZcP s) i n hf (by omega) hi L U);have H:Hid (∀i,(Zed s+i*ZcP s)%(8*n)=ZX (8*n) s i):=hid (fun i=>rfl);have c:bits .and .u64 (N:Int) 4294967295=(Zed s:Int):=by rw [j,e1];omega
 obtain ⟨P,x⟩:=Xn (plA (8*n) s);have C:=hid (fun W (h:Pl (8*n) s w.heap.size 4 W)=>x▸h.all);have R:Hid (P.size=4):=hid (x▸rfl);have T:Hid (P.all (·.oneCell')=true):=hid (x▸ZA8 _ _);rw [x];clear x j e1 e2 A;generalize Zed s=a at *;generalize ZcP s=b at *;obtain ⟨Z,hZ,hz⟩:=Zwl;have y:Pl (8*n) s w.heap.size 0 (w.alloc (.cells Z 257)):=⟨Z,heap_alloc_new _ _,hZ,fun k hk=>by omega⟩;have D:Below w.heap.size w (w.alloc (.cells Z 257)):=(Below.refl _ _).alloc (Xc _) _;have u:=hid y;have q:=hid D;clear y D hZ;have g:=hid c;have r:=hid o;clear c o;go_enter func171,ntmps171;go_wp2_with fail;refine (O.out _).mono ?_;rintro e w1 ⟨rfl,rfl⟩;go_wp2_with fail;rw [g.out,r.out];clear g r O hz
 go_loopw [16] (fun F wr=>∃i:Nat,i<=4/\F=.int .i64 i/\Hid (Pl (8*n) s w.heap.size i wr)/\Hid (Below w.heap.size w wr)) (fun F _=>4 - (intOf F).toNat)
 case atStart=>exact ⟨0,by omega,rfl,u,q⟩
 case round =>
  obtain ⟨i,hi,rfl,E,M⟩:=hrel;clear u q
  by_cases l:i<4
  ·have t1:decide ((i:Int)<4)=true:=by simp;omega
   have aa:=E.out.free i;obtain ⟨old,V⟩:=E.out.there l;have f:=G.out i l;rw [H.out] at f;have t:=hid (E.out.put l);have d:=hid (M.out.setCell (p:=⟨w.heap.size,i,none⟩) (Xc _) (.int .i64 (ZX (8*n) s i:Nat)));obtain ⟨X,hX⟩:=Xn (ZX (8*n) s i);rw [hX] at t d f;have HX:=hid f;clear hX E M f;go_wp2_with fail;rw [HX.out];go_roundw
   case rel=>exact ⟨i+1,by omega,by go_num,t,d⟩
   case measure=>simp [intOf];omega
  ·obtain rfl:i=4:=by omega
   have t1:decide ((4:Int)<4)=false:=by simp
   have I:=C.out _ E.out;have hs:=R.out;have hi:(prog.info? 257).map (·.size)=some P.size:=by rw [hs];exact ZxQ
   have z:=setRow_heap wr w.heap.size P P _ _ I;have J:=hid z;have d:=hid (below_setRow P M.out (Xc _));clear z hs;go_wp2_with (first|refine wpList_load_row rfl 257 (.tmp 4) rfl w.heap.size rfl 257 P (0,0) (.array 4 3) I underlying257 rfl hi ?_|refine wpList_store_row rfl 257 (.tmp 4) (.tmp 32) rfl w.heap.size P rfl rfl 257 P I hi rfl T.out ?_)
   refine bodyPost_ret (v:=.agg P) (results_cell_row rfl _ _ w.heap.size 257 P (0,0) (.array 4 3) rfl J.out underlying257 rfl hi) rfl ⟨rfl,d.out⟩
