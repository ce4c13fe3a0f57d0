import Derived.Test.YtmomfobdpfajbaaGreatZA1
import Derived.Test.YtmomfobdpfajbaaGreatProg
import Derived.WalkKit
import Derived.Lib.Hide
import Derived.Laws.AppendOwnNone
import Derived.Lib.BufferRead
import Derived.BigQuiet
set_option maxRecDepth 100000
set_option maxHeartbeats 0
set_option linter.unusedVariables false
set_option linter.unusedSimpArgs false
namespace Go.Proofs.YtmomfobdpfajbaaGreat
open Tryz
namespace MM
open RowKit
theorem ZaI:(prog.info? 5).map (fun i=>(i.zero,i.size,i.bytes))=some (some (.int .u8 0),1,1):=by kernel_rfl
theorem grow {a b c:World} (h:Below a.heap.size a b) (k:Below b.heap.size b c):Below a.heap.size a c:=h.trans (k.mono h.size)
theorem ZZ (b off j:Nat):(⟨b,off,none⟩:Addr).add j=⟨b,off+j,none⟩:=by unfold Addr.add;split<;>simp_all
theorem below_drewN {B:Nat} {a w:World} (h:Below B a w) (n:Nat):Below B a (w.drewN n):=⟨h.os,h.tape,h.output,h.size,h.block⟩
def ZaY (B:Nat) (w:World) (v:Value) (c:List Value):Prop :=
 ∃(p:Option Addr) (a:Nat),v=.slice p c.length a/\c.length<=a/\a<=maxLen/\(p=none->a=0) /\
   (c=[]\/∃b off,p=some ⟨b,off,none⟩/\b<B/\∀i u,c[i]? = some u->w.cell? ⟨b,off+i,none⟩=some u)
theorem ZaY.below {B:Nat} {w w':World} {v:Value} {d:List Value} (h:ZaY B w v d) (l:Below B w w'):ZaY B w' v d:=by
 obtain ⟨p,c,g,k,m,j,h⟩:=h;refine ⟨p,c,g,k,m,j,?_⟩;rcases h with h|⟨b,off,f,a,e⟩
 ·exact .inl h
 ·exact .inr ⟨b,off,f,a,fun i u hi=>by rw [l.cell (p:=⟨b,off+i,none⟩) a];exact e i u hi⟩
theorem ZaY.mono {B B':Nat} {w:World} {v:Value} {c:List Value} (h:ZaY B w v c) (hB:B<=B'):ZaY B' w v c:=by
 obtain ⟨p,a,k,j,i,f,h⟩:=h;refine ⟨p,a,k,j,i,f,?_⟩;rcases h with h|⟨b,off,e,g,d⟩
 ·exact .inl h
 ·exact .inr ⟨b,off,e,by omega,d⟩
def Row (w:World) (v:Value) (a:List Value):Prop:=ZaY w.heap.size w v a
theorem Row.below {w w':World} {v:Value} {b:List Value} {B:Nat} (h:Row w v b) (a:Below w.heap.size w w'):Row w' v b:=(ZaY.below h a).mono a.size
theorem Row.nil_ (w:World):Row w (.slice none 0 0) []:=⟨none,0,rfl,Xa _,by unfold maxLen;omega,fun _=>rfl,.inl rfl⟩
theorem Row.of_own {w:World} {base e:Nat} {v:Value} {n:Nat} {a:List Value} (h:w.ownsRow base e 1 v n a):Row w v a:=by
 have j:a.length=n:=by have:=h.1;omega
 rcases h.2 with ⟨rfl,h0⟩|⟨g,b,f,rfl,hg,d,l,k,hs,c⟩
 ·have:a=[]:=XP (by omega);subst this;exact Row.nil_ w
 ·refine ⟨some ⟨g,0,none⟩,b,by rw [j],by omega,k,(fun h=>by cases h),.inr ⟨g,0,rfl,(Xq.1 d).1,fun i u hi => ?_⟩⟩;rw [XaB] at c;have:=Lib.cells_of_row d n i u (by rw [c];exact hi);rw [ZZ] at this;exact this
theorem ZaY.drop {B:Nat} {w:World} {p:Option Addr} {n a:Nat} {f:List Value} (h:ZaY B w (.slice p n a) f) (k:Nat) (j:k<=n) :
  ZaY B w (.slice (if a=k then p else p.map (·.add k)) (n - k) (a - k)) (f.drop k):=by
 obtain ⟨p',cap',g,h1,h2,m,h⟩:=h;simp only [Value.slice.injEq] at g;obtain ⟨rfl,rfl,rfl⟩:=g;refine ⟨_,_,by rw [Xp],by rw [Xp];omega,by omega,fun l => ?_,?_⟩
 ·by_cases d:a=k
  ·omega
  ·rw [Xc d] at l;have:p=none:=by cases p<;>simp_all
   have:=m this;omega
 by_cases c:k=f.length
 ·left;rw [c,Xaf]
 ·rcases h with h|⟨b,off,rfl,e,d⟩
  ·subst h;simp at j;simp at c;omega
  ·right;rw [Xc (by omega)];refine ⟨b,off+k,?_,e,fun i u hi => ?_⟩
   ·simp only [Xae,Xx];rw [ZZ]
   ·rw [Xbe] at hi;rw [Xat];exact d _ u hi
theorem ZaY.take {B:Nat} {w:World} {p:Option Addr} {n a:Nat} {d:List Value} (h:ZaY B w (.slice p n a) d) (k:Nat) (hk:k<=n):ZaY B w (.slice p k a) (d.take k):=by
 obtain ⟨p',cap',e,h1,h2,g,h⟩:=h;simp only [Value.slice.injEq] at e;obtain ⟨rfl,rfl,rfl⟩:=e;have j:(d.take k).length=k:=by rw [Xi];omega
 refine ⟨_,_,by rw [j],by omega,by omega,g,?_⟩;rcases h with h|⟨b,off,rfl,c,f⟩
 ·subst h;left;simp
 ·right;refine ⟨b,off,rfl,c,fun i u hi=>f i u ?_⟩;rw [List.getElem?_take] at hi
  split at hi
  ·exact hi
  ·cases hi
theorem Zfj {w:World} {ops:Array Oper} {rest:List Oper} {o:Oper} {a:Act} {Q:Exit->Act->World->Prop} (m:o.guard=none) (s x:Operand) (t:TypeId)
  (F:o.op=.call { callee:=.builtin .append,args:=#[s,x],argTypes:=#[t,t] })
  (base:Nat) (e:TypeId) (i:TypeInfo) (z:Value) (d:Nat) (E:prog.underlying t=some (.slice e)) (hi:prog.info? e=some i) (J:i.zero=some z)
  (l:i.size=1) (hby:i.bytes=d) (D:z.cells.size=1)
  (v:Value) (n:Nat) (r:List Value) (hs:a.eval s=v) (f:w.ownsRow base e 1 v n r)
  (src:Value) (c:List Value) (H:a.eval x=src) (L:Row w src c) (M:∀u∈c,u.oneCell'=true)
  (A:n+c.length<=maxLen) (ZdD:(n+c.length)*d<=140737488355328) (g:base<=w.heap.size)
  (h:∀v' w',w'.ownsRow base e 1 v' (n+c.length) (r++c)->Below base w w'->wpList prog ops Q rest (a.put o.dst v') w'):wpList prog ops Q (o::rest) a w:=by
 have y:∀k,v.ownBlock=some k->base<=k:=fun k T=>(f.lt k T).1;obtain ⟨p,C,rfl,_,_,R,q⟩:=L;cases p with
 | none =>
   have O:=R rfl;subst O;rcases q with rfl|⟨b,off,B,_⟩
   ·refine wpList_append_own_none m s x t F base e i 1 E hi v n r hs f H (h v w ?_ (Below.refl _ _));simpa using f
   ·cases B
 | some I =>
   refine wpList_append_own w m s x t F base e i z 1 d E hi J l hby D (by omega) v n r hs f I c.length C c H (by omega) ?_ M A ZdD g
    (fun v' w' S N _=>h v' w' S ((Below.refl base w).grown N g y))
   intro j u G;rcases q with rfl|⟨b,off,B,_,q⟩
   ·simp at G
   ·obtain rfl:I=⟨b,off,none⟩:=XW B;rw [ZZ];exact q j u G
def BIn (B:Nat) (w:World) (v:Value) (l:Xu):Prop:=ZaY B w v (Lib.byteCells l)
def Zv (w:World) (v:Value) (l:Xu):Prop:=BIn w.heap.size w v l
theorem Zi (l:Xu):(Lib.byteCells l).length=l.length:=by simp [Lib.byteCells]
theorem Zfp (l:Xu) (k:Nat) (a:k<l.length):(Lib.byteCells l)[k]? = some (.int .u8 ((l[k]).toNat:Int)):=by simp [Lib.byteCells,a]
theorem byteCells_append (l m:Xu):Lib.byteCells (l++m)=Lib.byteCells l++Lib.byteCells m:=by simp [Lib.byteCells]
theorem ZlN (l:Xu) (k:Nat):(Lib.byteCells l).drop k=Lib.byteCells (l.drop k):=by simp [Lib.byteCells]
theorem ZlO (l:Xu) (k:Nat):(Lib.byteCells l).take k=Lib.byteCells (l.take k):=by simp [Lib.byteCells]
theorem byteCells_one (l:Xu):∀u∈Lib.byteCells l,u.oneCell'=true:=by
 intro u a;obtain ⟨b,_,rfl⟩:=X4.1 a;rfl
def Zd (B:Nat) (w:World) (v:Value) (l:Xu):Prop:=w.ownsRow B 5 1 v l.length (Lib.byteCells l)
theorem Zd.brow {B:Nat} {w:World} {v:Value} {l:Xu} (h:Zd B w v l):Zv w v l:=Row.of_own h
def ZV (B:Nat) (l:Xu) (w:World) (e:Ending) (w':World):Prop:=∃v',e=.returned v'/\Zd B w' v' l/\Below B w w'
theorem Zdw (w:World) (x:Value) (t:TypeId):∀j u,[x][j]? = some u->(w.alloc (.cells #[x] t)).cell? ((⟨w.heap.size,0,none⟩:Addr).add j)=some u:=by
 intro j u a
 match j,a with
 | 0,a=>simp at a;subst a;simp [Addr.add]
 | (j+1),a=>simp at a
theorem ZhL (k:IntKind) (r:Int):∀u∈[Value.int k r],u.oneCell'=true:=by intro u a;simp at a;subst a;rfl
theorem ZbZ {B:Nat} {w wr w':World} {o:Obj} {v:Value} (b:Below B w wr) (a:B<=wr.heap.size) (c:∀k,v.ownBlock=some k->B<=k) (d:(wr.alloc o).grownBy w' v.ownBlock):Below B w w' :=
 (b.alloc a o).grown d (by simp;omega) c
theorem ZdO (w:World) (a:List Value) (e B:Nat) (b:B<=w.heap.size) (c:a.length<=maxLen) :
  (w.alloc (.cells a.toArray e)).ownsRow B e 1 (.slice (some ⟨w.heap.size,0,none⟩) a.length a.length) a.length a:=by
 refine ⟨by omega,.inr ⟨w.heap.size,a.length,a.toArray,rfl,b,?_,Xa _,c,by simp,by simp⟩⟩
 show (w.heap.push (.cells a.toArray e))[w.heap.size]? = _
 simp
theorem Zdc {w w':World} {base e size n B:Nat} {v:Value} {c:List Value} (h:w.ownsRow base e size v n c) (i:Below w.heap.size w w'):w'.ownsRow base e size v n c:=by
 refine ⟨h.1,?_⟩;rcases h.2 with f|⟨g,b,a,k,j,d,rest⟩
 ·exact .inl f
 ·exact .inr ⟨g,b,a,k,j,by rw [i.block g (Xq.1 d).1];exact d,rest⟩
theorem Zd.keep {w w':World} {B:Nat} {v:Value} {l:Xu} (h:Zd B w v l) (a:Below w.heap.size w w'):Zd B w' v l:=Zdc (B:=0) h a
theorem Zd.weaken {w:World} {B B':Nat} {v:Value} {l:Xu} (h:Zd B w v l) (e:B'<=B):Zd B' w v l:=by
 refine ⟨h.1,?_⟩;rcases h.2 with d|⟨g,b,a,c,f,rest⟩
 ·exact .inl d
 ·exact .inr ⟨g,b,a,c,Xy e f,rest⟩
theorem Zh {w:World} {ops:Array Oper} {rest:List Oper} {o:Oper} {a:Act} {Q:Exit->Act->World->Prop} (f:o.guard=none) (s x:Operand)
  (n:o.op=.call { callee:=.builtin .append,args:=#[s,x],argTypes:=#[23,23] }) (B:Nat) (v:Value) (l:Xu) (hs:a.eval s=v) (c:Zd B w v l)
  (src:Value) (m:Xu) (p:a.eval x=src) (k:Zv w src m) (i:l.length+m.length<=140737488355328) (b:B<=w.heap.size)
  (h:∀v' w',Zd B w' v' (l++m)->Below B w w'->wpList prog ops Q rest (a.put o.dst v') w'):wpList prog ops Q (o::rest) a w:=by
 obtain ⟨i0,hi,d,e,g⟩:=info_parts ZaI
 refine Zfj f s x 23 n B 5 i0 (.int .u8 0) 1 underlying23 hi d e g rfl v l.length (Lib.byteCells l) hs c src (Lib.byteCells m) p k (byteCells_one m)
  (by rw [Zi];unfold maxLen;omega) (by rw [Zi];omega) b (fun v' w' j q=>h v' w' ?_ q)
 unfold Zd;rw [Xd,byteCells_append];rw [Zi] at j;exact j
theorem wpList_append_text {w:World} {ops:Array Oper} {rest:List Oper} {o:Oper} {a:Act} {Q:Exit->Act->World->Prop} (i:o.guard=none) (e x:Operand)
  (q:o.op=.call { callee:=.builtin .append,args:=#[e,x],argTypes:=#[23,9] }) (B:Nat) (v:Value) (l:Xu) (hs:a.eval e=v) (c:Zd B w v l)
  (s:ByteArray) (r:a.eval x=.string s) (d:l.length+s.size<=140737488355328) (b:B<=w.heap.size)
  (h:∀v' w',Zd B w' v' (l++s.data.toList)->Below B w w'->wpList prog ops Q rest (a.put o.dst v') w'):wpList prog ops Q (o::rest) a w:=by
 obtain ⟨i0,hi,f,g,j⟩:=info_parts ZaI;have m:∀k,v.ownBlock=some k->B<=k:=fun k p=>(World.ownsRow.lt c k p).1
 refine Lib.wpList_append_own_string w i e x 23 9 q B 5 i0 underlying23 underlying9 hi f g j v l.length (Lib.byteCells l) hs c s r (by unfold maxLen;omega) d b
  (fun v' w' n t _=>h v' w' ?_ ((Below.refl B w).grown t b m))
 unfold Zd;rw [Xd,byteCells_append];rw [Lib.size_eq] at n;exact n
theorem Zfl {w:World} {ops:Array Oper} {rest:List Oper} {o:Oper} {a:Act} {Q:Exit->Act->World->Prop} (f:o.guard=none) (x:Operand)
  (i:o.op=.makeSlice 23 (.const (.int .i64 0)) x) (B:Nat) (C:Int) (c:Nat) (l:a.eval x=.int .i64 C) (m:C=(c:Int)) (hc:c<=281474976710656) (b:B<=w.heap.size)
  (h:∀v' w',Zd B w' v' []->Below w.heap.size w w'->wpList prog ops Q rest (a.put o.dst v') w'):wpList prog ops Q (o::rest) a w:=by
 obtain ⟨i0,hi,d,e,g⟩:=info_parts ZaI
 exact wpList_make_own w f (.const (.int .i64 0)) x 23 i B 5 i0 (.int .u8 0) 1 underlying23 hi d e .i64 .i64 C c rfl l m (by rw [g];omega) (by unfold maxLen;omega) b
  (fun w' j n=>h _ w' j ((Below.refl w.heap.size w).grown n (Xa _) (fun k h=>by cases h)))
theorem BIn.shape {B:Nat} {w:World} {v:Value} {l:Xu} (h:BIn B w v l):∃p a,v=.slice p l.length a/\l.length<=a/\a<=maxLen:=by
 obtain ⟨p,a,c,b,d,_,_⟩:=h;rw [Zi] at c b;exact ⟨p,a,c,b,d⟩
theorem BIn.below {B:Nat} {w w':World} {v:Value} {l:Xu} (h:BIn B w v l) (a:Below B w w'):BIn B w' v l:=ZaY.below h a
theorem BIn.row {B:Nat} {w:World} {v:Value} {l:Xu} (h:BIn B w v l) (a:B<=w.heap.size):Zv w v l:=ZaY.mono h a
theorem Zv.below {w w':World} {v:Value} {l:Xu} (h:Zv w v l) (a:Below w.heap.size w w'):Zv w' v l:=Row.below (B:=0) h a
theorem BIn.drewN {B:Nat} {w:World} {v:Value} {l:Xu} (h:BIn B w v l) (n:Nat):BIn B (w.drewN n) v l:=h
theorem BIn.nil_ (B:Nat) (w:World):BIn B w (.slice none 0 0) []:=⟨none,0,rfl,Xa _,by unfold maxLen;omega,fun _=>rfl,.inl rfl⟩
theorem Zv.nil_ (w:World):Zv w (.slice none 0 0) []:=Row.nil_ w
theorem Zv.of_own {w:World} {base e:Nat} {v:Value} {n:Nat} {l:Xu} (h:w.ownsRow base e 1 v n (Lib.byteCells l)):Zv w v l:=Row.of_own h
theorem BIn.at_ {B:Nat} {w:World} {p:Option Addr} {n c:Nat} {l:Xu} (h:BIn B w (.slice p n c) l) {k:Nat} (e:k<l.length) :
  ∃b off,p=some ⟨b,off,none⟩/\b<B/\w.cell? ⟨b,off+k,none⟩=some (.int .u8 ((l[k]).toNat:Int)):=by
 obtain ⟨p',cap',d,_,_,_,h⟩:=h;simp only [Value.slice.injEq] at d;obtain ⟨rfl,_,_⟩:=d;rcases h with h|⟨b,off,g,a,f⟩
 ·have:=Zi l;rw [h] at this;simp at this;omega
 ·exact ⟨b,off,g,a,f k _ (Zfp l k e)⟩
theorem BIn.drop {B:Nat} {w:World} {p:Option Addr} {n a:Nat} {l:Xu} (h:BIn B w (.slice p n a) l) (k:Nat) (b:k<=n) :
  BIn B w (.slice (if a=k then p else p.map (·.add k)) (n - k) (a - k)) (l.drop k):=by
 have:=ZaY.drop h k b;rw [ZlN] at this;exact this
theorem BIn.drop2 {B:Nat} {w:World} {b off n a:Nat} {l:Xu} (h:BIn B w (.slice (some ⟨b,off,none⟩) n a) l) (k:Nat) (e:k<=n) :
  (a=k->BIn B w (.slice (some ⟨b,off,none⟩) (n - k) 0) (l.drop k))/\(¬a=k->BIn B w (.slice (some ⟨b,off+k,none⟩) (n - k) (a - k)) (l.drop k)):=by
 have d:=h.drop k e;constructor
 ·intro c;rw [Xe c,c,Xaw] at d;exact d
 ·intro c;rw [Xc c,Xae,ZZ] at d;exact d
theorem BIn.drop3 {B:Nat} {w:World} {p:Option Addr} {n a:Nat} {l:Xu} (h:BIn B w (.slice p n a) l) (k:Nat) (d:k<=n) :
  (a=k->BIn B w (.slice p (n - k) 0) (l.drop k))/\(¬a=k->BIn B w (.slice (p.map (fun x=>x.add k)) (n - k) (a - k)) (l.drop k)):=by
 have c:=h.drop k d;constructor
 ·intro b;rw [Xe b,b,Xaw] at c;exact c
 ·intro b;rw [Xc b] at c;exact c
theorem BIn.take {B:Nat} {w:World} {p:Option Addr} {n a:Nat} {l:Xu} (h:BIn B w (.slice p n a) l) (k:Nat) (b:k<=n):BIn B w (.slice p k a) (l.take k):=by
 have:=ZaY.take h k b;rw [ZlO] at this;exact this
theorem ZfE (l m:Xu):(⟨l.toArray⟩:ByteArray)++⟨m.toArray⟩=⟨(l++m).toArray⟩:=by
 apply ByteArray.ext;simp
theorem BIn.conv {B:Nat} {w:World} {v:Value} {l:Xu} (h:BIn B w v l):(convert 23 9 v).run prog w=.ok (.string ⟨l.toArray⟩) w:=by
 obtain ⟨p,c,e,_,_,_,h⟩:=h;rw [Zi] at e;subst e;rcases h with h|⟨b,off,rfl,_,f⟩
 ·have g:l.length=0:=by rw [<- Zi,h];rfl
  have:l=[]:=XP g;subst this
  show (convert 23 9 (.slice p 0 c)).run prog w=.ok (.string ⟨#[]⟩) w
  rw [run_convert_bytes_string w 23 9 5 p 0 c underlying23 underlying5 underlying9];cases p with
  | none=>simp [Conv.bytesToString];rfl
  | some a=>exact run_bytesToString w a 0 c [] (run_loadCells_list (P:=prog) w a [] (fun j v d=>by simp at d))
 ·exact run_convert_bytes_back w 23 9 5 _ c l underlying23 underlying5 underlying9 (fun j d=>by
   have:=f j _ (Zfp l j d);rw [ZZ];exact this)
theorem Zc3 (l m:Xu):((⟨l.toArray⟩:ByteArray).toList == (⟨m.toArray⟩:ByteArray).toList)=decide (l=m):=by
 rw [Lib.toList_data,Lib.toList_data]
 by_cases h:l=m
 ·subst h;simp
 ·simp [h]
variable {B B':Nat} {w w':World} {v:Value} {ss:List Xu}
theorem ZA1:(prog.info? 9).map (fun i=>(i.zero,i.size,i.bytes))=some (some (.string ⟨#[]⟩),1,16):=by kernel_rfl
def ZBV (l:Xu):Value:=.string ⟨l.toArray⟩
def TIn (B:Nat) (w:World) (v:Value) (ss:List Xu):Prop:=ZaY B w v (ss.map ZBV)
def ZcF (w:World) (v:Value) (ss:List Xu):Prop:=TIn w.heap.size w v ss
def ZbL (B:Nat) (w:World) (v:Value) (ss:List Xu):Prop:=w.ownsRow B 9 1 v ss.length (ss.map ZBV)
theorem ZbL.trow (h:ZbL B w v ss):ZcF w v ss:=Row.of_own h
theorem ZbL.keep (h:ZbL B w v ss) (a:Below w.heap.size w w'):ZbL B w' v ss:=Zdc (B:=0) h a
theorem ZbL.weaken (h:ZbL B w v ss) (e:B'<=B):ZbL B' w v ss:=by
 refine ⟨h.1,?_⟩;rcases h.2 with d|⟨g,b,a,c,f,rest⟩
 ·exact .inl d
 ·exact .inr ⟨g,b,a,c,Xy e f,rest⟩
theorem ZbL.nil_ (B:Nat) (w:World):ZbL B w (.slice none 0 0) []:=World.ownsRow_nil _ _ _ _
theorem ZbL.shape (h:ZbL B w v ss):∃p a,v=.slice p ss.length a/\ss.length<=a/\a<=maxLen:=by
 obtain ⟨p,a,c,b,d,_,_⟩:=h.trow;rw [XF] at c b;exact ⟨p,a,c,b,d⟩
theorem ZcF.below (h:ZcF w v ss) (a:Below w.heap.size w w'):ZcF w' v ss:=Row.below (B:=0) h a
theorem TIn.below (h:TIn B w v ss) (a:Below B w w'):TIn B w' v ss:=ZaY.below h a
theorem TIn.mono (h:TIn B w v ss) (a:B<=B'):TIn B' w v ss:=ZaY.mono h a
theorem ZcF.nil_ (w:World):ZcF w (.slice none 0 0) []:=Row.nil_ w
theorem TIn.shape (h:TIn B w v ss):∃p a,v=.slice p ss.length a/\ss.length<=a/\a<=maxLen:=by
 obtain ⟨p,a,c,b,d,_,_⟩:=h;rw [XF] at c b;exact ⟨p,a,c,b,d⟩
theorem TIn.at_ {p:Option Addr} {n c:Nat} (h:TIn B w (.slice p n c) ss) {k:Nat} (d:k<ss.length) :
  ∃b off,p=some ⟨b,off,none⟩/\b<B/\w.cell? ⟨b,off+k,none⟩=some (.string ⟨(ss[k]).toArray⟩):=by
 obtain ⟨p',cap',e,_,_,_,h⟩:=h;simp only [Value.slice.injEq] at e;obtain ⟨rfl,_,_⟩:=e;rcases h with h|⟨b,off,g,a,f⟩
 ·have:ss=[]:=Xbf.1 h;subst this;simp at d
 ·exact ⟨b,off,g,a,f k _ (by simp [d,ZBV])⟩
theorem Zb8 {ops:Array Oper} {rest:List Oper} {o:Oper} {a:Act} {Q:Exit->Act->World->Prop} (g:o.guard=none) (s x:Operand)
  (p:o.op=.call { callee:=.builtin .append,args:=#[s,x],argTypes:=#[40,40] }) (B:Nat) (v:Value) (ss:List Xu) (d:World) (z:Xu) (t:w=d.alloc (.cells #[.string ⟨z.toArray⟩] 9)) (hs:a.eval s=v) (b:ZbL B d v ss)
  (r:a.eval x=.slice (some ⟨d.heap.size,0,none⟩) 1 1) (l:ss.length<=1000000000000) (c:B<=d.heap.size)
  (h:∀v' w',ZbL B w' v' (ss++[z])->Below B d w'->wpList prog ops Q rest (a.put o.dst v') w'):wpList prog ops Q (o::rest) a w:=by
 subst t;obtain ⟨i0,hi,e,f,i⟩:=info_parts ZA1;have j:∀k,v.ownBlock=some k->B<=k:=fun k n=>(World.ownsRow.lt b k n).1
 refine wpList_append_own _ g s x 40 p B 9 i0 (.string ⟨#[]⟩) 1 16 underlying40 hi e f i rfl (by decide) v ss.length _ hs (World.ownsRow.alloc b _) ⟨d.heap.size,0,none⟩ 1 1 [.string ⟨z.toArray⟩] r rfl (Zdw _ _ _) (by intro u m;simp at m;subst m;rfl)
  (by unfold maxLen;omega) (by omega) (by simp;omega) (fun v' w' q y _=>h v' w' ?_ (ZbZ (Below.refl B d) c j y))
 unfold ZbL;rw [Xd,XM];exact q
end MM
namespace MM
open RowKit
variable {B g n cap j:Nat} {w:World} {l:Xu}
theorem Zd.shape {v:Value} (h:Zd B w v l) (d:l.length≠0):∃g cap,v=.slice (some ⟨g,0,none⟩) l.length cap/\B<=g/\l.length<=cap/\cap<=maxLen:=by
 rcases h.2 with ⟨_,b⟩|⟨g,cap,a,i,f,_,c,e,_⟩
 ·exact absurd b d
 ·exact ⟨g,cap,i,f,c,e⟩
theorem Zd.free (h:Zd B w (.slice (some ⟨g,0,none⟩) n cap) l) (j:Nat):w.frozen? ⟨g,j,none⟩=false:=by
 rcases h.2 with ⟨a,_⟩|⟨g',cap',b,a,hb,c,_⟩
 ·cases a
 ·simp only [Value.slice.injEq,Xx,Addr.mk.injEq] at a;obtain ⟨⟨rfl,_⟩,_⟩:=a;exact frozen_of_row w g j b _ c
theorem Zd.cell {c:UInt8} (h:Zd B w (.slice (some ⟨g,0,none⟩) n cap) l) (m:l[j]? = some c):w.cell? ⟨g,j,none⟩=some (.int .u8 (c.toNat:Int)):=by
 obtain ⟨d,k⟩:=Xak.1 m;obtain ⟨b,off,f,_,e⟩:=h.brow.at_ d;rcases h.2 with ⟨a,_⟩|⟨g',cap',i,a,hb,hh,hn,hm,hs,ht⟩
 ·cases a
 ·simp only [Value.slice.injEq,Xx,Addr.mk.injEq] at a f;obtain ⟨⟨rfl,_⟩,_⟩:=a;obtain ⟨rfl,rfl,_⟩:=f;rw [k,XL] at e;exact e
theorem Zd.set (h:Zd B w (.slice (some ⟨g,0,none⟩) n cap) l) (c:UInt8) :
  Zd B (w.setCell ⟨g,j,none⟩ (.int .u8 (c.toNat:Int))) (.slice (some ⟨g,0,none⟩) n cap) (l.set j c):=by
 refine ⟨by rw [Zi];omega,?_⟩;rcases h.2 with ⟨b,_⟩|⟨g',cap',a,b,k,o,f,i,hs,e⟩
 ·cases b
 ·have m:=b;simp only [Value.slice.injEq,Xx,Addr.mk.injEq] at b;obtain ⟨⟨rfl,_⟩,d,rfl⟩:=b;refine .inr ⟨g,cap,a.setIfInBounds j (.int .u8 (c.toNat:Int)),by rw [Xav,d],k,heap_setCell_same w g j a _ _ o,by rw [Xav];exact f,i,by rw [Array.size_setIfInBounds];exact hs,?_⟩;rw [Xav,Array.toList_setIfInBounds,List.take_set,e];simp [Lib.byteCells,List.map_set]
end MM
namespace MM
open RowKit
variable {S T:Nat->Prop} {a c w w':World}
structure Kep (S:Nat->Prop) (w w':World):Prop where
 os:w'.os=w.os
 tape:w'.tape=w.tape
 output:w'.output=w.output
 size:w.heap.size<=w'.heap.size
 block:∀k,k<w.heap.size->S k->w'.heap[k]? = w.heap[k]?
theorem Kep.refl (S:Nat->Prop) (w:World):Kep S w w:=⟨rfl,rfl,rfl,Xa _,fun _ _ _=>rfl⟩
theorem Kep.trans {b:World} (h:Kep S a b) (k:Kep S b c):Kep S a c :=
 ⟨k.os.trans h.os,k.tape.trans h.tape,k.output.trans h.output,Xy h.size k.size,fun i hi hs=>(k.block i (XJ hi h.size) hs).trans (h.block i hi hs)⟩
theorem Kep.mono {b:World} (h:Kep S a b) (f:∀k,T k->S k):Kep T a b:=⟨h.os,h.tape,h.output,h.size,fun k e d=>h.block k e (f k d)⟩
theorem Kep.mono' {b:World} (h:Kep S a b) (f:∀k,k<a.heap.size->T k->S k):Kep T a b:=⟨h.os,h.tape,h.output,h.size,fun k d e=>h.block k d (f k d e)⟩
theorem Kep.drew {b:World} (h:Kep S a b):Kep S a b.drew:=⟨h.os,h.tape,h.output,h.size,h.block⟩
theorem Kep.drewN {b:World} (h:Kep S a b) (n:Nat):Kep S a (b.drewN n):=⟨h.os,h.tape,h.output,h.size,h.block⟩
theorem Za (S:Nat->Prop) (h:Below w.heap.size w w'):Kep S w w':=⟨h.os,h.tape,h.output,h.size,fun k b _=>h.block k b⟩
theorem Zu (S:Nat->Prop) (w:World) (o:Obj):Kep S w (w.alloc o):=Za S ((Below.refl _ _).alloc (Xa _) o)
theorem Zy {g i:Nat} (b:¬S g) (u:Value):Kep S w (w.setCell ⟨g,i,none⟩ u) :=
 ⟨rfl,rfl,rfl,by simp,fun k _ hs=>Below.heap_setCell _ _ _ _ (fun e=>b (by rw [<- show k=g from e];exact hs))⟩
theorem ZO {row:Option Nat} (h:w.grownBy w' row) (d:∀k,row=some k->¬S k):Kep S w w' :=
 ⟨h.os,h.tape,h.output,h.size,fun k b hs=>h.block k b (fun e=>d k e.symm hs)⟩
theorem Kep.below {B:Nat} (h:Kep S w w') (d:B<=w.heap.size) (e:∀k,k<B->S k):Below B w w' :=
 ⟨h.os,h.tape,h.output,h.size,fun k b=>h.block k (XJ b d) (e k b)⟩
theorem Kep.andThen {b:World} (h:Kep S a b) (k:Kep T b c) (d:∀i,i<a.heap.size->S i->T i):Kep S a c :=
 ⟨k.os.trans h.os,k.tape.trans h.tape,k.output.trans h.output,Xy h.size k.size,fun i hi hs=>(k.block i (XJ hi h.size) (d i hi hs)).trans (h.block i hi hs)⟩
theorem Zcg (S:Nat->Prop) (w:World):Kep S w w.drew:=(Kep.refl S w).drew
theorem Kep.cell (h:Kep S w w') {b:Nat} (d:b<w.heap.size) (e:S b) (i:Nat):w'.cell? ⟨b,i,none⟩=w.cell? ⟨b,i,none⟩:=World.cell?_of_block (a:=⟨b,i,none⟩) (h.block b d e)
end MM
namespace MM
open RowKit
variable {S:Nat->Prop} {w w':World} {v:Value} {B n cap b size bytes:Nat} {p:Option Addr} {e:TypeId} {P:Program} {o:Oper}
structure Codec (α:Type) where
 size:Nat
 on:(Nat->Prop)->World->List Value->α->Prop
 pos:0<size
 len:∀{S w vs a},on S w vs a->vs.length=size
 keep:∀{S T w w' vs a},on S w vs a->Kep S w w'->(∀b,b<w.heap.size->S b->T b)->on T w' vs a
 one:∀{S w vs a},on S w vs a->∀u∈vs,u.oneCell'=true
def Zp9 {α:Type} (f:α->Value) (hf:∀a,(f a).oneCell'=true):Codec α where
 size:=1
 on:=fun _ _ vs a=>vs=[f a]
 pos:=by decide
 len:=fun h=>by rw [h];rfl
 keep:=fun h _ _=>h
 one:=fun h u c=>by rw [h] at c;simp at c;rw [c];exact hf _
def Zbk:Codec Int:=Zp9 (fun z=>.int .i64 z) (fun _=>rfl)
def cU8:Codec UInt8:=Zp9 (fun c=>.int .u8 (c.toNat:Int)) (fun _=>rfl)
def Zio:Codec Xu:=Zp9 (fun l=>.string ⟨l.toArray⟩) (fun _=>rfl)
def ZeH {α β:Type} (C:Codec α) (D:Codec β):Codec (α×β) where
 size:=C.size+D.size
 on:=fun S w vs p=>∃x y,vs=x++y/\C.on S w x p.1/\D.on S w y p.2
 pos:=by have:=C.pos;omega
 len:=fun ⟨x,y,h,c,d⟩=>by rw [h,Xd,C.len c,D.len d]
 keep:=fun ⟨x,y,h,c,d⟩ f g=>⟨x,y,h,C.keep c f g,D.keep d f g⟩
 one:=fun ⟨x,y,h,c,d⟩ u a=>by
  rw [h,Xam] at a;rcases a with a|a
  ·exact C.one c u a
  ·exact D.one d u a
section
variable {α : Type} (C : Codec α)
def Zbq (S:Nat->Prop) (w:World) (a:List (List Value)) (es:List α):Prop:=a.length=es.length/\∀i (h:i<a.length) (h':i<es.length),C.on S w a[i] es[i]
variable {C}
theorem Zbq.keep {T:Nat->Prop} {a:List (List Value)} {es:List α} (h:Zbq C S w a es) (d:Kep S w w') (f:∀b,b<w.heap.size->S b->T b):Zbq C T w' a es :=
 ⟨h.1,fun i hi c=>C.keep (h.2 i hi c) d f⟩
theorem Zbq.nil_ (S:Nat->Prop) (w:World):Zbq C S w [] []:=⟨rfl,fun i h=>by simp at h⟩
theorem Zbq.append {c f:List (List Value)} {es g:List α} (h:Zbq C S w c es) (k:Zbq C S w f g):Zbq C S w (c++f) (es++g):=by
 refine ⟨by rw [Xd,Xd,h.1,k.1],fun i hi d => ?_⟩
 by_cases a:i<c.length
 ·rw [Xa9 a,Xa9 (by rw [<- h.1];exact a)];exact h.2 i a (by rw [<- h.1];exact a)
 ·rw [Xd] at hi d;have e:=h.1;rw [Xba (by omega),Xba (by omega)];simp only [<- e];exact k.2 (i - c.length) (by omega) (by omega)
theorem Zbq.single {vs:List Value} {a:α} (h:C.on S w vs a):Zbq C S w [vs] [a] :=
 ⟨rfl,fun i hi c=>by obtain rfl:i=0:=(by simpa using hi);exact h⟩
theorem Zbq.take {a:List (List Value)} {es:List α} (h:Zbq C S w a es) (k:Nat):Zbq C S w (a.take k) (es.take k):=by
 refine ⟨by rw [Xi,Xi,h.1],fun i hi c => ?_⟩;rw [Xbb,Xbb];exact h.2 i (by rw [Xi] at hi;omega) (by rw [Xi] at c;omega)
theorem Zbq.drop {a:List (List Value)} {es:List α} (h:Zbq C S w a es) (k:Nat):Zbq C S w (a.drop k) (es.drop k):=by
 refine ⟨by rw [Xp,Xp,h.1],fun i hi c => ?_⟩;rw [Xa0,Xa0];exact h.2 _ (by rw [Xp] at hi;omega) (by rw [Xp] at c;omega)
theorem Zbq.lens {a:List (List Value)} {es:List α} (h:Zbq C S w a es):∀r∈a,r.length=C.size:=fun r c=>by
 obtain ⟨i,hi,rfl⟩:=Xbc c;exact C.len (h.2 i hi (by rw [<- h.1];exact hi))
theorem Zbq.ones {a:List (List Value)} {es:List α} (h:Zbq C S w a es):∀u∈a.flatten,u.oneCell'=true:=fun u c=>by
 obtain ⟨r,d,c⟩:=List.mem_flatten.1 c;obtain ⟨i,hi,rfl⟩:=Xbc d;exact C.one (h.2 i hi (by rw [<- h.1];exact hi)) u c
theorem ZeM:∀{a:List (List Value)} {n:Nat},(∀r∈a,r.length=n)->a.flatten.length=a.length*n
 | [],n,_=>by simp
 | r::a,n,h=>by
   rw [Xag,Xd,ZeM fun x c=>h x (by simp [c]),h r (by simp),Xh,Nat.succ_mul];omega
theorem flat_get:∀{a:List (List Value)} {n:Nat},(∀r∈a,r.length=n)->∀(i:Nat) (hi:i<a.length) (j:Nat) (u:Value),a[i][j]? = some u->a.flatten[i*n+j]? = some u
 | r::a,n,h,0,_,j,u,hu=>by
   rw [Xbd] at hu;have f:=(Xak.1 hu).1;rw [Nat.zero_mul,XL,Xag,List.getElem?_append_left f];exact hu
 | r::a,n,h,i+1,hi,j,u,hu=>by
   have d:=h r (by simp);have e:(i+1)*n+j=r.length+(i*n+j):=by rw [Nat.succ_mul,d];omega
   rw [Xag,e,Xbw (by omega),Nat.add_sub_cancel_left];exact flat_get (fun x c=>h x (by simp [c])) i (by simpa using hi) j u (by simpa using hu)
theorem Zn5:∀{a:List (List Value)} {n:Nat},(∀r∈a,r.length=n)->∀k,(a.take k).flatten=a.flatten.take (k*n)
 | [],n,_,k=>by simp
 | r::a,n,h,0=>by simp
 | r::a,n,h,k+1=>by
   have c:=h r (by simp);have d:r.take (k*n+n)=r:=XO (by omega);have g:k*n+n - n=k*n:=by omega
   rw [XaC,Xag,Xag,Zn5 (fun x f=>h x (by simp [f])) k,Nat.succ_mul,List.take_append,c,d,g]
theorem Zn3:∀{a:List (List Value)} {n:Nat},(∀r∈a,r.length=n)->∀k,(a.drop k).flatten=a.flatten.drop (k*n)
 | [],n,_,k=>by simp
 | r::a,n,h,0=>by simp
 | r::a,n,h,k+1=>by
   have c:=h r (by simp);have d:r.drop (k*n+n)=[]:=Xao (by omega);have g:k*n+n - n=k*n:=by omega
   rw [XaW,Xag,Zn3 (fun x f=>h x (by simp [f])) k,Nat.succ_mul,List.drop_append,c,d,g,XE]
variable (C)
def ZB (S:Nat->Prop) (w:World) (v:Value) (es:List α):Prop :=
 ∃(p:Option Addr) (cap:Nat) (a:List (List Value)),v=.slice p es.length cap/\es.length<=cap/\cap<=maxLen/\(p=none->cap=0)/\Zbq C S w a es /\
   (es=[]\/∃b off,p=some ⟨b,off,none⟩/\b<w.heap.size/\S b/\∀j u,a.flatten[j]? = some u->w.cell? ⟨b,off+j,none⟩=some u)
def ZF (w:World) (v:Value) (es:List α):Prop:=ZB C (fun _=>True) w v es
def Ze0 (B:Nat) (w:World) (v:Value) (es:List α):Prop:=ZB C (fun b=>b<B) w v es
variable {C}
theorem ZB.keep {T:Nat->Prop} {es:List α} (h:ZB C S w v es) (c:Kep S w w') (g:∀b,b<w.heap.size->S b->T b):ZB C T w' v es:=by
 obtain ⟨p,cap,d,m,s,t,q,r,h⟩:=h;refine ⟨p,cap,d,m,s,t,q,r.keep c g,?_⟩;rcases h with h|⟨b,off,l,a,f,k⟩
 ·exact .inl h
 ·exact .inr ⟨b,off,l,XJ a c.size,g b a f,fun j u i=>by rw [c.cell a f];exact k j u i⟩
theorem ZB.weak {T:Nat->Prop} {es:List α} (h:ZB C S w v es) (a:∀b,b<w.heap.size->S b->T b):ZB C T w v es:=h.keep (Kep.refl _ _) a
theorem ZB.any {es:List α} (h:ZB C S w v es):ZF C w v es:=h.weak fun _ _ _=>trivial
theorem ZF.below {es:List α} (h:ZF C w v es) (a:Below w.heap.size w w'):ZF C w' v es:=ZB.keep h (Za _ a) fun _ _ h=>h
theorem ZF.bel {es:List α} (h:ZF C w v es):Ze0 C w.heap.size w v es:=ZB.weak h fun _ h _=>h
theorem Ziz (a:Below B w w'):Kep (fun b=>b<B) w w':=⟨a.os,a.tape,a.output,a.size,fun k _ c=>a.block k c⟩
theorem Ze0.below {es:List α} (h:Ze0 C B w v es) (a:Below B w w'):Ze0 C B w' v es:=ZB.keep h (Ziz a) fun _ _ h=>h
theorem ZB.shape {es:List α} (h:ZB C S w v es):∃p cap,v=.slice p es.length cap/\es.length<=cap/\cap<=maxLen/\(p=none->cap=0):=by
 obtain ⟨p,cap,d,g,f,c,a,_⟩:=h;exact ⟨p,cap,g,f,c,a⟩
theorem ZB.oneCell {es:List α} (h:ZB C S w v es):v.oneCell'=true:=by
 obtain ⟨p,cap,a,rfl,_⟩:=h;rfl
theorem ZB.nil_ (S:Nat->Prop) (w:World):ZB C S w (.slice none 0 0) []:=⟨none,0,[],rfl,Xa _,by unfold maxLen;omega,fun _=>rfl,Zbq.nil_ _ _,.inl rfl⟩
theorem ZB.at_ {es:List α} (h:ZB C S w (.slice p n cap) es) {k:Nat} (d:k<es.length) :
  ∃b off vs,p=some ⟨b,off,none⟩/\b<w.heap.size/\S b/\C.on S w vs es[k]/\∀j u,vs[j]? = some u->w.cell? ⟨b,off+k*C.size+j,none⟩=some u:=by
 obtain ⟨p',cap',a,i,_,_,_,g,h⟩:=h;simp only [Value.slice.injEq] at i;obtain ⟨rfl,_,_⟩:=i;rcases h with h|⟨b,off,r,f,l,q⟩
 ·subst h;simp at d
 ·have c:k<a.length:=by rw [g.1];exact d
  exact ⟨b,off,a[k],r,f,l,g.2 k c d,fun j u m=>by rw [Xat];exact q _ u (flat_get g.lens k c j u m)⟩
theorem ZB.take {es:List α} (h:ZB C S w (.slice p n cap) es) (k:Nat) (hk:k<=n):ZB C S w (.slice p k cap) (es.take k):=by
 obtain ⟨p',cap',d,f,h1,h2,m,g,h⟩:=h;simp only [Value.slice.injEq] at f;obtain ⟨rfl,rfl,rfl⟩:=f;have q:(es.take k).length=k:=by rw [Xi];omega
 refine ⟨_,_,d.take k,by rw [q],by omega,by omega,m,g.take k,?_⟩;rcases h with h|⟨b,off,rfl,c,i,l⟩
 ·subst h;left;simp
 ·refine .inr ⟨b,off,rfl,c,i,fun j u a=>l j u ?_⟩;rw [Zn5 g.lens,List.getElem?_take] at a
  split at a
  ·exact a
  ·cases a
theorem ZB.drop {es:List α} (h:ZB C S w (.slice p n cap) es) (k:Nat) (m:k<=n) :
  ZB C S w (.slice (if cap=k then p else p.map (·.add (k*C.size))) (n - k) (cap - k)) (es.drop k):=by
 obtain ⟨p',cap',f,i,h1,h2,s,l,h⟩:=h;simp only [Value.slice.injEq] at i;obtain ⟨rfl,rfl,rfl⟩:=i;refine ⟨_,_,f.drop k,by rw [Xp],by rw [Xp];omega,by omega,fun r => ?_,l.drop k,?_⟩
 ·by_cases c:cap=k
  ·omega
  ·rw [Xc c] at r;have:p=none:=by cases p<;>simp_all
   have:=s this;omega
 by_cases a:k=es.length
 ·left;rw [a,Xaf]
 ·rcases h with h|⟨b,off,rfl,d,q,c⟩
  ·subst h;simp at m;simp at a;omega
  ·rw [Xc (by omega)];refine .inr ⟨b,off+k*C.size,?_,d,q,fun j u g => ?_⟩
   ·simp only [Xae,Xx];rw [ZZ]
   ·rw [Zn3 l.lens,Xbe] at g;rw [Xat];exact c _ u g
end
def Zfq {α:Type} (C:Codec α):Codec (List α) where
 size:=1
 on:=fun S w vs es=>∃v,vs=[v]/\ZB C S w v es
 pos:=by decide
 len:=fun ⟨v,h,_⟩=>by rw [h];rfl
 keep:=fun ⟨v,h,a⟩ d f=>⟨v,h,a.keep d f⟩
 one:=fun ⟨v,h,a⟩ u c=>by rw [h] at c;simp at c;rw [c];exact a.oneCell
theorem Zpy {α:Type} {f:α->Value} {hf:∀a,(f a).oneCell'=true} {es:List α} (h:ZB (Zp9 f hf) S w v es) (m:∀b,b<w.heap.size->S b->b<B):ZaY B w v (es.map f):=by
 obtain ⟨p,cap,c,s,y,z,t,k,h⟩:=h;refine ⟨p,cap,by rw [XF];exact s,by rw [XF];exact y,z,t,?_⟩;rcases h with h|⟨b,off,r,g,j,q⟩
 ·subst h;exact .inl rfl
 ·refine .inr ⟨b,off,r,m b g j,fun i u hi=>q i u ?_⟩;rw [Xa1] at hi;obtain ⟨a,x,rfl⟩:=Option.map_eq_some_iff.1 hi;obtain ⟨l,rfl⟩:=Xak.1 x;have d:i<c.length:=by rw [k.1];exact l
  have e:=k.2 i d l;have:=flat_get k.lens i d 0 (f es[i]) (by rw [show c[i]=[f es[i]] from e];rfl);rw [show (Zp9 f hf).size=1 from rfl,XaB,Xad] at this;exact this
theorem Zc8 {α:Type} (f:α->Value):∀es:List α,(es.map fun a=>[f a]).flatten=es.map f
 | []=>rfl
 | a::es=>by rw [XC,Xag,Zc8 f es];rfl
theorem ZpC {α:Type} {f:α->Value} {hf:∀a,(f a).oneCell'=true} {es:List α} (h:ZaY B w v (es.map f)) (q:B<=w.heap.size):ZB (Zp9 f hf) (fun b=>b<B) w v es:=by
 obtain ⟨p,cap,d,g,r,l,h⟩:=h;rw [XF] at d g;refine ⟨p,cap,es.map fun a=>[f a],d,g,r,l,⟨by simp,fun i hi m=>by simp [Zp9]⟩,?_⟩;rcases h with h|⟨b,off,k,c,j⟩
 ·exact .inl (Xbf.1 h)
 ·exact .inr ⟨b,off,k,XJ c q,c,fun i u hi=>j i u (by rw [Zc8] at hi;exact hi)⟩
def Apt (e:TypeId) (B:Nat) (w:World) (b:Nat):Prop:=b<B\/∀a fr,w.heap[b]? ≠ some (.cells a e fr)
theorem Zi0 (h:Apt e B w b) (c:w'.heap[b]? = w.heap[b]?):Apt e B w' b:=by
 rcases h with h|h
 ·exact .inl h
 ·exact .inr fun a fr=>by rw [c];exact h a fr
theorem Zbn {i:List Value} (h:w.ownsRow B e size v n i) {g:Nat} (d:v.ownBlock=some g):B<=g/\∃a fr,w.heap[g]? = some (.cells a e fr):=by
 rcases h.2 with ⟨rfl,h0⟩|⟨f,cap,a,rfl,c,j,_⟩
 ·cases d
 ·have:f=g:=XW d;subst this;exact ⟨c,a,_,j⟩
theorem ZcZ {f:List Value} (h:w.ownsRow B e size v n f) (a:Apt e B w b):v.ownBlock≠some b:=by
 intro d;obtain ⟨h1,c,fr,g⟩:=Zbn h d;rcases a with a|a
 ·omega
 ·exact a c fr g
section
variable {α : Type} (C : Codec α)
def ZbB (e:TypeId) (B:Nat) (w:World) (v:Value) (es:List α):Prop:=∃a,w.ownsRow B e C.size v es.length a.flatten/\Zbq C (Apt e B w) w a es
variable {C}
theorem ZbB.nil_ (e:TypeId) (B:Nat) (w:World):ZbB C e B w (.slice none 0 0) []:=⟨[],World.ownsRow_nil _ _ _ _,Zbq.nil_ _ _⟩
theorem ZbB.keep {es:List α} (h:ZbB C e B w v es) (d:Below w.heap.size w w'):ZbB C e B w' v es:=by
 obtain ⟨c,g,i⟩:=h;exact ⟨c,Zdc (B:=0) g d,i.keep (Za _ d) fun b a f=>Zi0 f (d.block b a)⟩
theorem ZbB.alloc {es:List α} (h:ZbB C e B w v es) (o:Obj):ZbB C e B (w.alloc o) v es:=h.keep ((Below.refl _ _).alloc (Xa _) o)
theorem ZbB.ron {es:List α} (h:ZbB C e B w v es) (s:∀g,v.ownBlock=some g->S g) (t:∀b,b<w.heap.size->Apt e B w b->S b):ZB C S w v es:=by
 obtain ⟨c,l,r⟩:=h;rcases l.2 with ⟨rfl,q⟩|⟨g,cap,k,rfl,hg,f,d,a,hs,i⟩
 ·have:es=[]:=XP q;subst this;exact ZB.nil_ _ _
 ·refine ⟨some ⟨g,0,none⟩,cap,c,rfl,d,a,(fun h=>by cases h),r.keep (Kep.refl _ _) t,.inr ⟨g,0,rfl,(Xq.1 f).1,s g rfl,fun j u m => ?_⟩⟩;have:=Lib.cells_of_row f (es.length*C.size) j u (by rw [i];exact m);rw [ZZ] at this;exact this
theorem ZbB.any {es:List α} (h:ZbB C e B w v es):ZF C w v es:=h.ron (fun _ _=>trivial) (fun _ _ _=>trivial)
theorem ZbB.shape {es:List α} (h:ZbB C e B w v es):∃p cap,v=.slice p es.length cap/\es.length<=cap/\cap<=maxLen/\(p=none->cap=0):=ZB.shape h.any
theorem ZbB.lt {es:List α} (h:ZbB C e B w v es):∀k,v.ownBlock=some k->B<=k/\k<w.heap.size:=fun k d=>by obtain ⟨c,a,_⟩:=h;exact World.ownsRow.lt a k d
theorem ZdF (w:World) (vs:List Value) (e:TypeId):∀j u,vs[j]? = some u->(w.alloc (.cells vs.toArray e)).cell? ((⟨w.heap.size,0,none⟩:Addr).add j)=some u:=fun j u a=>by
 rw [ZZ,XL,cell_of_row _ _ j _ _ _ (heap_alloc_new w (.cells vs.toArray e))];simpa using a
variable (C)
structure Elem (P:Program) (T e:TypeId) (bytes:Nat):Prop where
 under:P.underlying T=some (.slice e)
 info:∃i z,P.info? e=some i/\i.zero=some z/\i.size=C.size/\i.bytes=bytes/\z.cells.size=C.size
variable {C}
theorem ZrW {T:TypeId} (E:Elem C P T e bytes) {a:Act} {K:Act->World->Prop} {Q:Exit->Act->World->Prop} (s x:Operand)
  (O:o.op=.call { callee:=.builtin .append,args:=#[s,x],argTypes:=#[T,T] }) (B:Nat) (v:Value) (es:List α) (c:World) (vs:List Value) (d:α) (M:w=c.alloc (.cells vs.toArray e)) (hs:a.eval s=v) (r:ZbB C e B c v es)
  (G:C.on (Apt e B c) c vs d) (U:a.eval x=.slice (some ⟨c.heap.size,0,none⟩) 1 1) (q:es.length+1<=maxLen) (hby:(es.length+1)*bytes<=140737488355328) (j:B<=c.heap.size)
  (h:∀v' w',ZbB C e B w' v' (es++[d])->Below B c w'->Kep (fun k=>v.ownBlock≠some k) w w'->K (a.put o.dst v') w'):o.wp P a w K Q:=by
 subst M;have l:Below c.heap.size c (c.alloc (.cells vs.toArray e)):=(Below.refl _ _).alloc (Xa _) _;obtain ⟨i,z,hi,N,t,u,J⟩:=E.info;obtain ⟨I,D,W⟩:=r.alloc (.cells vs.toArray e);have H:C.on (Apt e B (c.alloc (.cells vs.toArray e))) (c.alloc (.cells vs.toArray e)) vs d:=C.keep G (Za _ l) fun b g m=>Zi0 m (l.block b g);have y:∀k,v.ownBlock=some k->B<=k:=fun k f=>(World.ownsRow.lt D k f).1;have R:=C.len G;refine wp_append_own _ s x T O B e i z C.size bytes E.under hi N t u J C.pos v es.length _ hs D ⟨c.heap.size,0,none⟩ 1 1 vs U (by rw [R,Nat.one_mul]) (ZdF c vs e) (C.one G) q hby (by simp;omega) (fun v' w' V F _ => ?_);have L:Below B (c.alloc (.cells vs.toArray e)) w':=(Below.refl B _).grown F (by simp;omega) y;have f:Kep (Apt e B (c.alloc (.cells vs.toArray e))) (c.alloc (.cells vs.toArray e)) w':=ZO F fun k f m=>ZcZ D m f;refine h v' w' ⟨I++[vs],?_,?_⟩ ((l.mono j).trans L) (ZO F fun k f A=>A f)
 ·rw [Xd,XaN,Xbp];exact V
 ·exact (W.append (Zbq.single H)).keep f fun b g m=>Zi0 m (f.block b g m)
theorem ZgI {T:TypeId} (E:Elem C P T e bytes) {ops:Array Oper} {rest:List Oper} {a:Act} {Q:Exit->Act->World->Prop} (j:o.guard=none) (s x:Operand)
  (q:o.op=.call { callee:=.builtin .append,args:=#[s,x],argTypes:=#[T,T] }) (B:Nat) (v:Value) (es:List α) (c:World) (vs:List Value) (d:α) (y:w=c.alloc (.cells vs.toArray e)) (hs:a.eval s=v) (g:ZbB C e B c v es)
  (m:C.on (Apt e B c) c vs d) (u:a.eval x=.slice (some ⟨c.heap.size,0,none⟩) 1 1) (i:es.length+1<=maxLen) (hby:(es.length+1)*bytes<=140737488355328) (f:B<=c.heap.size)
  (h:∀v' w',ZbB C e B w' v' (es++[d])->Below B c w'->Kep (fun k=>v.ownBlock≠some k) w w'->wpList P ops Q rest (a.put o.dst v') w'):wpList P ops Q (o::rest) a w :=
 wpList_plain j fun _ l=>ZrW E s x q B v es c vs d y hs g m u i hby f fun v' w' t z r=>l _ _ (h v' w' t z r)
end
end MM
namespace CM
def step (s:Nat):Nat:=if s%2=1 then s / 2 ^^^ 3988292384 else s / 2
def steps:Nat->Nat->Nat
 | 0,s=>s
 | k+1,s=>steps k (step s)
def onB (s b:Nat):Nat:=steps 8 (s ^^^ b)
def run (s:Nat) (l:Xu):Nat:=l.foldl (fun s b=>onB s b.toNat) s
def Zkb (s:Nat):Nat:=4294967295 - s
def ZI (s:Nat) (l:Xu):Nat:=Zkb (run (Zkb s) l)
def ZaU (l:Xu):Nat:=ZI 0 l
theorem ZAf (a b:Nat):(a ^^^ b) / 2=a / 2 ^^^ b / 2:=by
 have h:=Nat.shiftRight_xor_distrib (a:=a) (b:=b) (i:=1);rw [Xbh,Xbh,Xbh] at h;exact h
theorem ZB2 (a b:Nat):(a ^^^ b)%2=(a%2+b%2)%2:=by
 have h:=Nat.xor_mod_two_pow (a:=a) (b:=b) (n:=1);have d:a%2=0\/a%2=1:=by omega
 have c:b%2=0\/b%2=1:=by omega
 rw [show (2:Nat)^1=2 from rfl] at h;rw [h];rcases d with d|d<;>rcases c with c|c<;>rw [d,c]<;>rfl
theorem ZDn (a b p:Nat):(a ^^^ p) ^^^ (b ^^^ p)=a ^^^ b:=by
 rw [Nat.xor_assoc,Nat.xor_comm b p,<- Nat.xor_assoc p,Nat.xor_self,Nat.zero_xor]
theorem ZzC (a b:Nat):step (a ^^^ b)=step a ^^^ step b:=by
 unfold step;rw [ZB2,ZAf]
 by_cases d:a%2=1<;>by_cases c:b%2=1
 ·rw [Xe d,Xe c,Xc (by omega),ZDn]
 ·rw [Xe d,Xc c,Xe (by omega),Nat.xor_assoc,Nat.xor_assoc,Nat.xor_comm 3988292384]
 ·rw [Xc d,Xe c,Xe (by omega),Nat.xor_assoc]
 ·rw [Xc d,Xc c,Xc (by omega)]
theorem ZpH {a:Nat} (h:a<4294967296):step a<4294967296:=by
 unfold step
 split
 ·exact Xbg (n:=32) (by omega) (by omega)
 ·omega
theorem Zwk (x:Nat):step (2*x)=x:=by
 unfold step;rw [Xc (by omega)];omega
theorem Zkn:∀(k a b:Nat),steps k (a ^^^ b)=steps k a ^^^ steps k b
 | 0,_,_=>rfl
 | k+1,a,b=>by rw [steps,steps,steps,ZzC,Zkn k]
theorem ZfU:∀(k:Nat) {a:Nat},a<4294967296->steps k a<4294967296
 | 0,_,h=>h
 | k+1,_,h=>ZfU k (ZpH h)
theorem Znb:∀k,steps k 0=0
 | 0=>rfl
 | k+1=>by rw [steps,show step 0=0 from by decide,Znb k]
theorem Zts (x:Nat):steps 8 (256*x)=x:=by
 have e:256*x=2*(2*(2*(2*(2*(2*(2*(2*x))))))):=by omega
 rw [e];simp only [steps,Zwk]
theorem ZyV {s b:Nat} (hs:s<4294967296) (hb:b<256):onB s b<4294967296:=ZfU 8 (Xbg (n:=32) hs (by omega))
theorem Zzx (s:Nat) (b:UInt8) (l:Xu):run s (b::l)=run (onB s b.toNat) l:=rfl
theorem Zpn (s:Nat):Zkb s<4294967296:=by unfold Zkb;omega
theorem ZyN (s:Nat) (l:Xu):ZI s l<4294967296:=Zpn _
end CM
namespace FM
open VM CM
variable {l p:Xu} {n k:Nat}
def ZeY (s:Nat):Xu:=[UInt8.ofNat (s / 16777216),UInt8.ofNat (s / 65536),UInt8.ofNat (s / 256),UInt8.ofNat s]
def Zme:Xu->Nat
 | [a,b,c,d]=>a.toNat*16777216+b.toNat*65536+c.toNat*256+d.toNat
 | _=>0
theorem Zcn (s:Nat):(ZeY s).length=4:=rfl
theorem Zoc {s:Nat} (h:s<4294967296):Zme (ZeY s)=s:=by
 simp only [ZeY,Zme,UInt8.toNat_ofNat'];omega
theorem Zt3 (h:l.length=4):∃a b c d,l=[a,b,c,d]:=by
 match l,h with
 | [a,b,c,d],_=>exact ⟨a,b,c,d,rfl⟩
theorem Zx5 {m:Xu} (u:l.length=4) (w:m.length=4) (h:Zme l=Zme m):l=m:=by
 obtain ⟨a,b,c,d,rfl⟩:=Zt3 u;obtain ⟨f,g,e,i,rfl⟩:=Zt3 w;simp only [Zme] at h;have h1:=a.toNat_lt;have h2:=b.toNat_lt;have h3:=c.toNat_lt;have h4:=d.toNat_lt;have o:=f.toNat_lt;have t:=g.toNat_lt;have q:=e.toNat_lt;have r:=i.toNat_lt;have j:a=f:=XaT.1 (by omega);have x:b=g:=XaT.1 (by omega);have v:c=e:=XaT.1 (by omega);have s:d=i:=XaT.1 (by omega);rw [j,x,v,s]
theorem Zlo (l:Xu):ZaU l<4294967296:=ZyN 0 l
def Zam (p:Xu):Xu:=Zb p.length++(ZeY (ZaU (Zb p.length++p))++p)
theorem ZcI (p:Xu):(Zam p).length=(Zb p.length).length+(4+p.length):=by
 unfold Zam;rw [Xd,Xd,Zcn]
theorem ZcH (p:Xu):5+p.length<=(Zam p).length/\(Zam p).length<=14+p.length:=by
 have:=Zc p.length;rw [ZcI];omega
def ZoL (n:Int):Int:=if n<0\/16777216<n then 0 else ((Zb n.toNat).length:Int)+4+n
theorem ZoM (h:n<=16777216):ZoL (n:Int)=(((Zb n).length+4+n:Nat):Int):=by
 unfold ZoL;rw [Xc (by omega),XY];omega
theorem ZrF (h:p.length<=16777216):ZoL (p.length:Int)=((Zam p).length:Int):=by
 rw [ZoM h,ZcI];omega
def Zbv (l:Xu):Xu×Nat×Int :=
 if (Zs l).2.2=6 then ([],0,41)
 else if (Zs l).2.2≠0\/16777216<(Zs l).1 then ([],0,40)
 else if (l.drop (Zs l).2.1).length<4+(Zs l).1 then ([],0,41)
 else if Zme ((l.drop (Zs l).2.1).take 4)≠ZaU (l.take (Zs l).2.1++((l.drop (Zs l).2.1).drop 4).take (Zs l).1) then ([],0,40)
 else (((l.drop (Zs l).2.1).drop 4).take (Zs l).1,(Zs l).2.1+(4+(Zs l).1),0)
def Zia (l:Xu):Xu:=if (Zbv l).2.2=0 then l.drop (Zbv l).2.1 else []
theorem ZeQ (l:Xu):(∃n k,Zs l=(n,k,0)/\n<18446744073709551616/\1<=k/\k<=l.length)\/Zs l=(0,0,6)\/Zs l=(0,0,20):=by
 have h:=Zba l;rcases h.2.2.1 with a|a
 ·exact .inl ⟨(Zs l).1,(Zs l).2.1,by rw [<- a],h.1,h.2.2.2 a,h.2.1⟩
 ·exact .inr a
theorem Zix (h:Zs l=(0,0,6)):Zbv l=([],0,41):=by unfold Zbv;rw [h];rfl
theorem Zmg (h:Zs l=(0,0,20)):Zbv l=([],0,40):=by unfold Zbv;rw [h];rfl
theorem Zj3 (h:Zs l=(n,k,0)) (a:16777216<n):Zbv l=([],0,40):=by
 unfold Zbv;rw [h]
 show (if (0:Int)=6 then _ else if (0:Int)≠0\/16777216<n then _ else _)=_
 rw [Xc (by omega),Xe (.inr a)]
theorem Zli (h:Zs l=(n,k,0)) (hn:n<=16777216) :
  Zbv l=if (l.drop k).length<4+n then ([],0,41) else if Zme ((l.drop k).take 4)≠ZaU (l.take k++((l.drop k).drop 4).take n) then ([],0,40) else (((l.drop k).drop 4).take n,k+(4+n),0):=by
 unfold Zbv;rw [h]
 show (if (0:Int)=6 then _ else if (0:Int)≠0\/16777216<n then _ else _)=_
 rw [Xc (by omega),Xc (by omega)]
theorem ZmX (h:Zbv l=(p,k,0)):Zia l=l.drop k:=by unfold Zia;rw [h];rfl
theorem ZdG {e:Int} (h:Zbv l=([],0,e)) (a:e≠0):Zia l=[]:=by unfold Zia;rw [h];exact Xc a
theorem ZfN (d:p.length<=16777216) (r:Xu):Zbv (Zam p++r)=(p,(Zam p).length,0):=by
 have h:Zs (Zam p++r)=(p.length,(Zb p.length).length,0):=by
  unfold Zam;rw [Xk];exact ZdU _ (by omega) _
 have c:(Zam p++r).drop (Zb p.length).length=ZeY (ZaU (Zb p.length++p))++(p++r):=by
  unfold Zam;rw [Xk,Xas,Xk]
 have a:(Zam p++r).take (Zb p.length).length=Zb p.length:=by
  unfold Zam;rw [Xk,Xbm]
 rw [Zli h d,c,a];have b:(ZeY (ZaU (Zb p.length++p))++(p++r)).take 4=ZeY (ZaU (Zb p.length++p)):=List.take_left' (Zcn _);have e:((ZeY (ZaU (Zb p.length++p))++(p++r)).drop 4)=p++r:=List.drop_left' (Zcn _);rw [b,e,Xbm,Zoc (Zlo _),Xc (by rw [Xd,Xd,Zcn];omega),Xc (by simp),ZcI]
theorem Zj2 (h:Zbv l=(p,k,0)):p.length<=16777216/\k=(Zam p).length/\Zam p++l.drop k=l:=by
 rcases ZeQ l with ⟨n,q,b,hb,t,u⟩|b|b
 ·by_cases s:n<=16777216
  ·rw [Zli b s] at h
   split at h
   ·cases h
   ·rename_i o
    split at h
    ·cases h
    ·rename_i hs;simp only [ne_eq,Decidable.not_not] at hs;simp only [X9] at h;obtain ⟨g,r,_⟩:=h;have m:=ZdC b;have hl:((l.drop q).drop 4).length=(l.drop q).length - 4:=by rw [Xp]
     have d:p.length=n:=by rw [<- g,Xi];omega
     have a:Zb n=l.take q:=by
      have e:l.take q++l.drop q=l:=X8 q l;exact List.append_cancel_right (m.trans e.symm)
     have j:(Zb n).length=q:=by rw [a,Xi];omega
     have f:((l.drop q).take 4).length=4:=by rw [Xi];omega
     have c:(l.drop q).take 4=ZeY (ZaU (Zb n++p)):=by
      refine Zx5 f (Zcn _) ?_;rw [Zoc (Zlo _),hs,a,g]
     have i:(Zam p).length=k:=by rw [ZcI,d,j];omega
     refine ⟨by omega,i.symm,?_⟩;unfold Zam;rw [d,<- c,a,<- g,<- r,Xk,Xk];rw [<- XaI,<- XaI,X8,X8,X8]
  ·rw [Zj3 b (by omega)] at h;cases h
 ·rw [Zix b] at h;cases h
 ·rw [Zmg b] at h;cases h
theorem Zja (l:Xu):(∃p k,Zbv l=(p,k,0))\/Zbv l=([],0,41)\/Zbv l=([],0,40):=by
 rcases ZeQ l with ⟨n,q,a,hb,c,d⟩|a|a
 ·by_cases b:n<=16777216
  ·rw [Zli a b]
   split
   ·exact .inr (.inl rfl)
   ·split
    ·exact .inr (.inr rfl)
    ·exact .inl ⟨_,_,rfl⟩
  ·exact .inr (.inr (Zj3 a (by omega)))
 ·exact .inr (.inl (Zix a))
 ·exact .inr (.inr (Zmg a))
def Zx (ps:List Xu):Xu:=(ps.map Zam).flatten
theorem ZbF:Zx []=[]:=rfl
theorem ZaH (p:Xu) (ps:List Xu):Zx (p::ps)=Zam p++Zx ps:=by simp [Zx]
theorem Zc9 (ps qs:List Xu):Zx (ps++qs)=Zx ps++Zx qs:=by simp [Zx]
theorem Zgb (ps:List Xu) (a:k<ps.length):Zx (ps.take (k+1))=Zx (ps.take k)++Zam ps[k]:=by
 rw [XG a,Zc9,ZaH,ZbF,XH]
theorem Zcu (ps:List Xu) (k:Nat):(Zx (ps.take k)).length<=(Zx ps).length:=by
 have h:Zx ps=Zx (ps.take k)++Zx (ps.drop k):=by rw [<- Zc9,X8]
 rw [h,Xd];omega
theorem Zmb {q r s:Xu} (b:p.length<=16777216) (c:q.length<=16777216) (h:Zam p++r=Zam q++s):p=q/\r=s:=by
 have a:=ZfN b r;rw [h,ZfN c s] at a;simp only [X9] at a;obtain ⟨rfl,_,_⟩:=a;exact ⟨rfl,List.append_cancel_left h⟩
end FM
namespace BM
variable {k:Nat} {L:Xu}
def ZrI (h:Int) (c:UInt8):Int:=IntKind.u64.wrap (bits .xor .u64 h (c.toNat:Int)*1099511628211)
def ZaL (l:Xu):Int:=l.foldl ZrI 14695981039346656037
theorem wrap_u64 (x:Int):IntKind.u64.wrap x=x%18446744073709551616:=by
 simp [IntKind.wrap,IntKind.signed,IntKind.bits]
theorem ZeU (l:Xu):0<=ZaL l/\ZaL l<18446744073709551616:=by
 unfold ZaL;rcases List.eq_nil_or_concat l with rfl|⟨l',c,rfl⟩
 ·simp
 ·rw [List.concat_eq_append,XaZ];simp only [List.foldl_cons,List.foldl_nil,ZrI,wrap_u64];omega
theorem Zoo {l:Xu} (a:k<l.length):ZaL (l.take (k+1))=ZrI (ZaL (l.take k)) l[k]:=by
 unfold ZaL;rw [XG a,XaZ];rfl
def Zeb (l:Xu):Nat:=(ZaL l).toNat%4294967296
def Zjd (l:Xu):Nat:=(ZaL l).toNat / 4294967296
def ZcQ (l:Xu):Nat:=if Zjd l%2=0 then Zjd l+1 else Zjd l
theorem Zve (l:Xu):Zeb l<4294967296:=XaM _ (by decide)
theorem Zyb (l:Xu):Zjd l<4294967296:=by have:=(ZeU l).2;unfold Zjd;omega
theorem Ztk (l:Xu):ZcQ l<4294967296:=by have:=Zyb l;unfold ZcQ;split<;>omega
def ZT (m:Nat) (l:Xu) (i:Nat):Nat:=(Zeb l+i*ZcQ l)%m
theorem ZhQ {m:Nat} (l:Xu) (i:Nat) (h:0<m):ZT m l i<m:=XaM _ h
def Zo5 (c:UInt8) (j:Nat):Bool:=c.toNat / 2^j%2 == 1
def ZfS (c:UInt8) (j:Nat):UInt8:=if Zo5 c j then c else UInt8.ofNat (c.toNat+2^j)
def Zh1 (L:Xu) (k:Nat):Bool:=Zo5 (L.getD (k / 8) 0) (k%8)
def Znr (L:Xu) (k:Nat):Xu:=L.set (k / 8) (ZfS (L.getD (k / 8) 0) (k%8))
theorem Zze (L:Xu) (k:Nat):(Znr L k).length=L.length:=by simp [Znr]
def Zjs (st:Xu×Nat) (k:Nat):Xu×Nat:=if Zh1 st.1 k then st else (Znr st.1 k,st.2+1)
theorem Zzb (st:Xu×Nat) (k:Nat):(Zjs st k).1.length=st.1.length:=by unfold Zjs;split<;>simp [Zze]
def ZfC (L:Xu) (s:Xu) (i:Nat):Xu×Nat:=(List.range i).foldl (fun st i=>Zjs st (ZT (8*L.length) s i)) (L,0)
theorem ZhD (L s:Xu) (i:Nat):ZfC L s (i+1)=Zjs (ZfC L s i) (ZT (8*L.length) s i):=by
 unfold ZfC;rw [XaS,XaZ];rfl
theorem Zlz (L s:Xu) (i:Nat):(ZfC L s i).1.length=L.length:=by
 induction i with
 | zero=>rfl
 | succ i ih=>rw [ZhD,Zzb,ih]
theorem Zs5 (st:Xu×Nat) (k:Nat):(Zjs st k).2<=st.2+1:=by unfold Zjs;split<;>simp
theorem Zil (L s:Xu) (i:Nat):(ZfC L s i).2<=i:=by
 induction i with
 | zero=>exact Xa _
 | succ i ih=>rw [ZhD];have:=Zs5 (ZfC L s i) (ZT (8*L.length) s i);omega
def ZlB (L:Xu) (s:Xu):Xu×Nat:=ZfC L s 4
theorem ZlD (L s:Xu):(ZlB L s).1.length=L.length:=Zlz L s 4
theorem ZlC (L s:Xu):(ZlB L s).2<=4:=Zil L s 4
def ZcG (L:Xu) (a:List Xu):Xu×Nat:=a.foldl (fun st s=>((ZlB st.1 s).1,st.2+(ZlB st.1 s).2)) (L,0)
theorem ZhC {a:List Xu} (b:k<a.length):ZcG L (a.take (k+1))=((ZlB (ZcG L (a.take k)).1 a[k]).1,(ZcG L (a.take k)).2+(ZlB (ZcG L (a.take k)).1 a[k]).2):=by
 unfold ZcG;rw [XG b,XaZ];rfl
theorem Zly (L:Xu) (a:List Xu) (k:Nat):(ZcG L (a.take k)).1.length=L.length:=by
 induction k with
 | zero=>rfl
 | succ k ih =>
   by_cases b:k<a.length
   ·rw [ZhC b,ZlD,ih]
   ·rw [XO (by omega)] at ih ⊢;exact ih
theorem Zlx (L:Xu) (a:List Xu) (k:Nat):(ZcG L (a.take k)).2<=4*k:=by
 induction k with
 | zero=>exact Xa _
 | succ k ih =>
   by_cases b:k<a.length
   ·rw [ZhC b];have:=ZlC (ZcG L (a.take k)).1 a[k];dsimp only;omega
   ·rw [XO (by omega)] at ih ⊢;omega
theorem ZpV (L:Xu) (a:List Xu):(ZcG L a).1.length=L.length:=by
 have:=Zly L a a.length
 rwa [XB] at this
def Zmz (L s:Xu) (i:Nat):Bool:=(List.range i).all fun i=>Zh1 L (ZT (8*L.length) s i)
theorem Zol (L s:Xu) (i:Nat):Zmz L s (i+1)=(Zmz L s i&&Zh1 L (ZT (8*L.length) s i)):=by
 unfold Zmz;rw [XaS,List.all_append];simp
def Zh2 (L s:Xu):Bool:=Zmz L s 4
theorem ZmA {s:Xu} {i:Nat} (hi:i<4) (h:Zh1 L (ZT (8*L.length) s i)=false):Zh2 L s=false:=by
 unfold Zh2 Zmz;rw [List.all_eq_false];exact ⟨i,by simpa using hi,by simp [h]⟩
def ZeX (n:Nat):Nat:=(min (max (10*n) 64) 1048576+7) / 8
theorem Zdf (n:Nat):8<=ZeX n/\ZeX n<=131072:=by unfold ZeX;omega
def Zfv (n:Nat):Xu:=List.replicate (ZeX n) 0
theorem Zjj (n:Nat):(Zfv n).length=ZeX n:=by simp [Zfv]
end BM
namespace CR
open RowKit MM CM
variable {m:Nat}
theorem Zyx (a:m<4294967296):bits .and .u32 (m:Int) 1=((m%2:Nat):Int):=by
 have h:=u32_and_nat m 1 a (by omega);rw [nat_mask1] at h;exact h
theorem ZoO (hm:m<4294967296):bits .xor .u32 ((m:Int) / 2) ((m:Int)%2*3988292384)=((CM.step m:Nat):Int):=by
 unfold CM.step
 by_cases h:m%2=1
 ·rw [Xe h,show (m:Int)%2*3988292384=((3988292384:Nat):Int) by omega,show (m:Int) / 2=((m / 2:Nat):Int) by omega];exact u32_xor_nat _ _ (by omega) (by omega)
 ·rw [Xc h,show (m:Int)%2*3988292384=((0:Nat):Int) by omega,show (m:Int) / 2=((m / 2:Nat):Int) by omega,u32_xor_nat _ _ (by omega) (by omega),Nat.xor_zero]
theorem ZzB (h:m%2=1) (b:m<4294967296):bits .xor .u32 ((m:Int) / 2) 3988292384=((CM.step m:Nat):Int):=by
 have a:=ZoO b;rw [show (m:Int)%2*3988292384=3988292384 by omega] at a;exact a
theorem Zwl (h:¬m%2=1):(m:Int) / 2=((CM.step m:Nat):Int):=by
 unfold CM.step;rw [Xc h];omega
theorem Zna {k r:Nat} (hk:k<8) (h:steps (8 - k) m=r):steps (8 - (k+1)) (CM.step m)=r:=by
 rw [show 8 - k=(8 - (k+1))+1 by omega] at h;exact h
theorem Zww (n:Nat) (w:World) (f:n<4294967296):Calls prog 266 #[.int .u32 n] w fun e w'=>e=.returned (.int .u32 (steps 8 n))/\w=w':=by
 obtain ⟨r,a⟩:=Xn (steps 8 n);rw [a];have c:Y5 (steps (8 - 0) n=r):=Y4 a;clear a;go_enter func266,ntmps266;go_wp2_with fail
 go_loop [0,4] (fun s i=>∃k m:Nat,k<=8/\i=.int .i64 k/\s=.int .u32 m/\m<4294967296/\Y5 (steps (8 - k) m=r)) (fun _ i=>8 - (intOf i).toNat)
 case atStart=>exact ⟨0,n,by omega,rfl,rfl,f,c⟩
 case round =>
  obtain ⟨k,m,hk,rfl,rfl,b,H⟩:=hrel;clear c;have hl:=Zyx b;have hx:=ZoO b;have hs:=ZpH b;go_wp2_with fail
  ·have d:(k:Int)<8:=by assumption
   go_round
   case rel=>exact ⟨k+1,CM.step m,by omega,by go_num,rfl,hs,Y4 (Zna (by omega) H.z)⟩
   case measure=>simp [intOf];omega
  ·have g:(8:Int)<=k:=by assumption
   obtain rfl:k=8:=by omega
   have h:m=r:=H.z;subst h;go_ret;exact ⟨rfl,rfl⟩
theorem ZCF (n:Nat) (c:UInt8) (w:World) (o:n<4294967296):Calls prog 209 #[.int .u32 n,.int .u8 (c.toNat:Int)] w fun e w'=>e=.returned (.int .u32 (onB n c.toNat))/\w=w':=by
 have hc:=c.toNat_lt;generalize c.toNat=b at *;obtain ⟨r,d⟩:=Xn (onB n b);rw [d];have l:Y5 (steps (8 - 0) (n ^^^ b)=r):=Y4 d;have g:=u32_xor_nat n b o (by omega);have a:n ^^^ b<4294967296:=Xbg (n:=32) o (by omega);generalize n ^^^ b=x at *;clear d;go_enter func209,ntmps209;go_wp2_with fail
 go_loop [0,5] (fun s i=>∃k m:Nat,k<=8/\i=.int .i64 k/\s=.int .u32 m/\m<4294967296/\Y5 (steps (8 - k) m=r)) (fun _ i=>8 - (intOf i).toNat)
 case atStart=>exact ⟨0,x,by omega,rfl,rfl,a,l⟩
 case round =>
  obtain ⟨k,m,hk,rfl,rfl,p,H⟩:=hrel;clear l g
  by_cases f:k<8
  ·have hs:=ZpH p;have q:=Y4 (Zna f H.z)
   by_cases j:m%2=1
   ·have u:=ZzB j p;have t:((m:Int)%2 == 1)=true:=by simp;omega
    go_wp2_with fail
    go_round
    case rel=>exact ⟨k+1,CM.step m,by omega,by go_num,rfl,hs,q⟩
    case measure=>simp [intOf];omega
   ·have u:=Zwl j;have t:((m:Int)%2 == 1)=false:=by simp;omega
    go_wp2_with fail
    go_round
    case rel=>exact ⟨k+1,CM.step m,by omega,by go_num,by go_num,hs,q⟩
    case measure=>simp [intOf];omega
  ·obtain rfl:k=8:=by omega
   have h:m=r:=H.z;subst h;go_wp2_with fail;go_ret;exact ⟨rfl,rfl⟩
end CR
namespace CR
open RowKit MM CM
variable {B n k:Nat} {w:World}
theorem ZrY:∃Z:Array Value,Z.size=256/\Z[0]? = some (.int .u32 0)/\∀W,Sem.run prog (zeroValue 308) W=.ok (.agg Z) W :=
 ⟨Array.replicate 256 (.int .u32 0),by simp,by simp,fun W=>by kernel_rfl⟩
def Tab (B n:Nat) (w:World):Prop:=∃a:Array Value,w.heap[B]? = some (.cells a 308 (0,0))/\a.size=256/\∀k,k<n->a[k]? = some (.int .u32 (steps 8 k))
theorem Tab.cell (h:Tab B n w) (c:k<n):w.cell? ⟨B,k,none⟩=some (.int .u32 (steps 8 k)):=by
 obtain ⟨a,b,_,d⟩:=h;rw [cell_of_row w B k a _ _ b];exact d k c
theorem Tab.there (h:Tab B n w) (c:k<256):∃v,w.cell? ⟨B,k,none⟩=some v:=by
 obtain ⟨a,b,hs,_⟩:=h;exact ⟨a[k],by rw [cell_of_row w B k a _ _ b];simp [hs,c]⟩
theorem Tab.free (h:Tab B n w) (k:Nat):w.frozen? ⟨B,k,none⟩=false:=by
 obtain ⟨a,b,_,_⟩:=h;exact frozen_of_row w B k a _ b
theorem Tab.put (h:Tab B n w) (d:n<256):Tab B (n+1) (w.setCell ⟨B,n,none⟩ (.int .u32 (steps 8 n))):=by
 obtain ⟨a,e,hs,c⟩:=h;refine ⟨_,heap_setCell_same w B n a _ _ e,by simp [hs],fun k hk => ?_⟩
 by_cases b:k=n
 ·subst b;simp [hs,d]
 ·rw [Array.getElem?_setIfInBounds_ne (by omega)];exact c k (by omega)
theorem Tab.mono {m:Nat} (h:Tab B n w) (hm:m<=n):Tab B m w:=by
 obtain ⟨a,c,hs,b⟩:=h;exact ⟨a,c,hs,fun k hk=>b k (by omega)⟩
def tab:Array Value:=((List.range 256).map (fun k=>Value.int .u32 (steps 8 k:Nat))).toArray
theorem Zhu:tab.size=256:=by simp [tab]
theorem ZpJ (a:k<256):tab[k]? = some (.int .u32 (steps 8 k:Nat)):=by simp [tab,a]
theorem Tab.all (h:Tab B 256 w):w.heap[B]? = some (.cells tab 308 (0,0)):=by
 obtain ⟨a,c,hs,d⟩:=h
 have:a=tab:=by
  apply Array.ext_getElem?;intro k
  by_cases b:k<256
  ·rw [d k b,ZpJ b]
  ·rw [Xau (by omega),Xau (by rw [Zhu];omega)]
 rw [<- this];exact c
theorem Zt7:(prog.info? 308).map (·.size)=some 256:=by kernel_rfl
theorem Zrf:∀j:Fin 8,∀k:Fin 128,k.val<2^j.val->2^j.val ^^^ k.val=2^j.val+k.val:=by decide +kernel
theorem ZBz:∀j,j<8->∀k,k<2^j->2^j ^^^ k=2^j+k:=by
 intro j b k a;have h1:2^j<=2^7:=Xbr (by omega) (by omega);exact Zrf ⟨j,b⟩ ⟨k,by omega⟩ a
theorem Zuu:tab.all (·.oneCell')=true:=by
 rw [Array.all_eq_true];intro k a;rw [Zhu] at a;have h:=ZpJ a;rw [Xq] at h;obtain ⟨_,h⟩:=h;rw [h];rfl
theorem below_setRow {g:Nat} {a:World} (b:Array Value) (h:Below B a w) (hg:B<=g):Below B a (w.setRow g b) :=
 ⟨h.os,h.tape,h.output,by rw [setRow_size];exact h.size,fun i hi=>by rw [setRow_other w g i b (by omega)];exact h.block i hi⟩
theorem Zy7 {j:Nat} (b:j<8) (a:k<2^j):bits .xor .u32 ((steps 8 (2^j):Nat):Int) ((steps 8 k:Nat):Int)=((steps 8 (2^j+k):Nat):Int):=by
 have h1:2^j<=2^7:=Xbr (by omega) (by omega);rw [u32_xor_nat _ _ (ZfU 8 (by omega)) (ZfU 8 (by omega)),<- Zkn,ZBz j b k a]
theorem ZBZ (w:World):Calls prog 245 #[] w fun e w'=>e=.returned (.agg tab)/\Below w.heap.size w w':=by
 obtain ⟨T,u⟩:=Xn tab;have C:Y5 (T.size=256):=Y4 (u▸Zhu);have F:Y5 (T.all (·.oneCell')=true):=Y4 (u▸Zuu);have l:Y5 (∀W,Tab w.heap.size 256 W->W.heap[w.heap.size]? = some (.cells T 308 (0,0))):=Y4 (fun W h=>u▸h.all);rw [u];clear u;obtain ⟨Z,M,o,V⟩:=ZrY;have z:Tab w.heap.size 1 (w.alloc (.cells Z 308)):=⟨Z,heap_alloc_new _ _,M,fun k hk=>by obtain rfl:k=0:=(by omega);rw [o,Znb];rfl⟩;have s:Below w.heap.size w (w.alloc (.cells Z 308)):=(Below.refl _ _).alloc (Xa _) _;have x:=Y4 z;have t:=Y4 s;clear z s M o;go_enter func245,ntmps245;go_wp2_with fail
 go_loopw [1] (fun h wr=>∃j H:Nat,j<=8/\Y5 (2^j=H)/\h=.int .i64 H/\0<H/\H<=256/\Y5 (Tab w.heap.size H wr)/\Y5 (Below w.heap.size w wr)) (fun h _=>256 - (intOf h).toNat)
 case atStart=>exact ⟨0,1,by omega,Y4 rfl,rfl,by omega,by omega,x,t⟩
 case round =>
  obtain ⟨j,H,hj,N,rfl,h0,O,L,D⟩:=hrel;clear x t V
  by_cases Y:H<256
  ·have R:H<4294967296:=by omega
   go_wp2_with fail;refine (Zww H _ R).mono ?_;rintro e w1 ⟨rfl,rfl⟩;have aa:=ZfU 8 R;go_wp2_with fail
   go_loopw [12] (fun i q=>∃k:Nat,k<=H/\i=.int .i64 k/\Y5 (Tab w.heap.size (H+k) q)/\Y5 (Below w.heap.size w q)) (fun i _=>H - (intOf i).toNat)
   case atStart=>exact ⟨0,by omega,rfl,L,D⟩
   case round =>
    obtain ⟨k,hk,rfl,a,d⟩:=hrel;clear L D
    by_cases I:k<H
    ·have J:=a.z.cell (k:=k) (by omega);have X:=a.z.free (H+k);have b:H=2^j:=N.z.symm
     have f:j<8:=by
      rcases Nat.lt_or_ge j 8 with h|h
      ·exact h
      ·have:j=8:=by omega
       rw [this] at b;omega
     have y:=Zy7 (j:=j) (k:=k) f (b▸I);have c:2^(j+1)=H*2:=by rw [Nat.pow_succ,<- b]
     have r:2^(j+1)<=2^8:=Xbr (by omega) (by omega);have hH:H*2<=256:=by omega
     clear c r;obtain ⟨old,S⟩:=a.z.there (k:=H+k) (by omega);have ab:(0:Int)<=(H:Int)+k:=by omega
     have U:(H:Int)+k<256:=by omega
     rw [<- b] at y;have A:=Y4 (a.z.put (by omega));have g:=Y4 (d.z.setCell (p:=⟨w.heap.size,H+k,none⟩) (Xa _) (.int .u32 (steps 8 (H+k):Nat)));clear b f a d;go_wp2_with fail;go_roundw
     case rel=>exact ⟨k+1,by omega,by go_num,A,g⟩
     case measure=>simp [intOf];omega
    ·obtain rfl:k=H:=by omega
     go_wp2_with fail;go_roundw;have b:2^j=k:=N.z
     have f:j<8:=by
      rcases Nat.lt_or_ge j 8 with h|h
      ·exact h
      ·have:j=8:=by omega
       rw [this] at b;omega
     have c:2^(j+1)=k*2:=by rw [Nat.pow_succ,b]
     have r:2^(j+1)<=2^8:=Xbr (by omega) (by omega)
     case rel=>exact ⟨j+1,k*2,by omega,Y4 c,by go_num,by omega,by omega,Y4 (a.z.mono (by omega)),d⟩
     case measure=>simp [intOf];omega
  ·obtain rfl:H=256:=by omega
   have G:=l.z _ L.z;have hs:=C.z;have hi:(prog.info? 308).map (·.size)=some T.size:=by rw [hs];exact Zt7
   have m:=setRow_heap wr w.heap.size T T _ _ G;have E:=Y4 m;have g:=Y4 (below_setRow T D.z (Xa _));clear m hs;go_wp2_with (first|refine wpList_load_row rfl 308 (.tmp 0) rfl w.heap.size rfl 308 T (0,0) (.array 256 183) G underlying308 rfl hi ?_|refine wpList_store_row rfl 308 (.tmp 0) (.tmp 25) rfl w.heap.size T rfl rfl 308 T G hi rfl F.z ?_)
   refine bodyPost_ret (v:=.agg T) (results_cell_row rfl _ _ w.heap.size 308 T (0,0) (.array 256 183) rfl E.z underlying308 rfl hi) rfl ⟨rfl,g.z⟩
end CR
namespace CR
open RowKit MM CM
variable {w:World} {v:Value} {ls:List Xu} {k:Nat}
def Za7 (w:World) (v:Value) (ls:List Xu):Prop:=∃a,Row w v a/\a.length=ls.length/\∀i (h:i<ls.length),∃x,a[i]? = some x/\Zv w x ls[i]
theorem Za7.below {w':World} (h:Za7 w v ls) (a:Below w.heap.size w w'):Za7 w' v ls:=by
 obtain ⟨f,b,d,e⟩:=h;refine ⟨f,Row.below (B:=0) b a,d,fun i hi => ?_⟩;obtain ⟨x,c,g⟩:=e i hi;exact ⟨x,c,g.below a⟩
theorem Za7.shape (h:Za7 w v ls):∃p a,v=.slice p ls.length a/\ls.length<=a/\a<=maxLen:=by
 obtain ⟨xs,⟨p,a,b,c,e,_,_⟩,d,_⟩:=h;rw [d] at b c;exact ⟨p,a,b,c,e⟩
theorem Za7.at_ {p:Option Addr} {n a:Nat} (h:Za7 w (.slice p n a) ls) (e:k<ls.length) :
  ∃b off x,p=some ⟨b,off,none⟩/\w.cell? ⟨b,off+k,none⟩=some x/\Zv w x ls[k]:=by
 obtain ⟨xs,⟨p',cap',d,_,_,_,h⟩,hl,j⟩:=h;simp only [Value.slice.injEq] at d;obtain ⟨rfl,_,_⟩:=d;obtain ⟨x,c,l⟩:=j k e;rcases h with h|⟨b,off,g,i,f⟩
 ·rw [h] at c;simp at c
 ·exact ⟨b,off,x,g,f k _ c,l⟩
theorem Zy8 (a:List Value) (ls:List Xu) (c:a.length=ls.length) (d:a.length<=maxLen) (h:∀i (h:i<ls.length),∃x,a[i]? = some x/\Zv w x ls[i]) :
  Za7 (w.alloc (.cells a.toArray 23)) (.slice (some ⟨w.heap.size,0,none⟩) a.length a.length) ls:=by
 have b:Below w.heap.size w (w.alloc (.cells a.toArray 23)):=(Below.refl _ _).alloc (Xa _) _;refine ⟨a,⟨some ⟨w.heap.size,0,none⟩,a.length,rfl,Xa _,d,(fun h=>by cases h),.inr ⟨w.heap.size,0,rfl,by simp,fun i u hi => ?_⟩⟩,c,fun i hi => ?_⟩
 ·rw [cell_of_row _ w.heap.size _ _ _ _ (heap_alloc_new _ _)];simpa using hi
 ·obtain ⟨x,e,f⟩:=h i hi;exact ⟨x,e,f.below b⟩
theorem Zux (q r b:Nat) (hr:r<256) (hb:b<256):(256*q+r) ^^^ b=256*q+(r ^^^ b):=by
 have d:=Nat.xor_mod_two_pow (a:=256*q+r) (b:=b) (n:=8);have c:=Nat.shiftRight_xor_distrib (a:=256*q+r) (b:=b) (i:=8);rw [Xbh,Xbh,Xbh] at c;rw [show (2:Nat)^8=256 from rfl] at d c;rw [show (256*q+r)%256=r by omega,show b%256=b by omega] at d;rw [show (256*q+r) / 256=q by omega,show b / 256=0 by omega,Nat.xor_zero] at c;omega
theorem ZvN (m b:Nat) (c:b<256):onB m b=steps 8 (m%256 ^^^ b) ^^^ m / 256:=by
 have e:m%256 ^^^ b<256:=Xbg (n:=8) (by omega) c;have a:=Zux (m / 256) (m%256) b (by omega) c;have d:=Zux (m / 256) 0 (m%256 ^^^ b) (by omega) e;rw [Nat.zero_xor,Xad] at d;rw [show 256*(m / 256)+m%256=m by omega] at a;unfold onB;rw [a,<- d,Zkn,Zts,Nat.xor_comm]
theorem Ztt (m:Nat) (c:UInt8):bits .xor .u8 ((m:Int)%256) (c.toNat:Int)=((m%256 ^^^ c.toNat:Nat):Int):=by
 rw [show (m:Int)%256=((m%256:Nat):Int) by omega];exact u8_xor_nat _ _ (by omega) c.toNat_lt
theorem Ztu (m:Nat) (c:UInt8) (hm:m<4294967296):bits .xor .u32 ((steps 8 (m%256 ^^^ c.toNat):Nat):Int) ((m:Int) / 256)=((onB m c.toNat:Nat):Int):=by
 have hz:m%256 ^^^ c.toNat<256:=Xbg (n:=8) (by omega) c.toNat_lt;rw [show (m:Int) / 256=((m / 256:Nat):Int) by omega,u32_xor_nat _ _ (ZfU 8 (by omega)) (by omega),ZvN m _ c.toNat_lt]
theorem Znt (a:k<ls.length):(ls.drop k).flatten=ls[k]++(ls.drop (k+1)).flatten:=by
 rw [X7 a,Xag]
end CR
namespace CR
open RowKit MM CM
variable {n:Nat}
theorem ZBj (hn:n<4294967296):4294967295 ^^^ n=4294967295 - n:=by
 have h:=Xr BitVec.toNat (BitVec.allOnes_xor (x:=BitVec.ofNat 32 n));simp only [BitVec.toNat_xor,BitVec.toNat_allOnes,BitVec.toNat_not,BitVec.toNat_ofNat] at h;rw [show n%2^32=n by omega] at h;simpa using h
theorem Zjm (a:n<4294967296):bits .xor .u32 IntKind.u32.max (n:Int)=((Zkb n:Nat):Int):=by
 have h:=u32_xor_nat 4294967295 n (by omega) a;rw [ZBj a] at h;exact h
theorem ZjD:IntKind.u32.signed=false:=rfl
theorem Tab.of_row {B:Nat} {w:World} {T:Array Value} (b:tab=T) (h:w.heap[B]? = some (.cells T 308 (0,0))):Tab B 256 w:=by
 subst b;exact ⟨tab,h,Zhu,fun k a=>ZpJ a⟩
theorem ZrB {l R:Xu} {m j r:Nat} (a:j<l.length) (h:run m (l.drop j++R)=r):run (onB m (l[j]).toNat) (l.drop (j+1)++R)=r:=by
 rw [X7 a,XK,Zzx] at h;exact h
theorem Zbs (s:Nat) (v:Value) (a:List Xu) (w:World) (hs:s<4294967296) (hr:Za7 w v a) :
  Calls prog 205 #[.int .u32 s,v] w fun e w'=>e=.returned (.int .u32 (ZI s a.flatten:Nat))/\Below w.heap.size w w':=by
 obtain ⟨p,au,rfl,ar,ai⟩:=hr.shape;unfold maxLen at ai;obtain ⟨T,hT⟩:=Xn tab;have E:Y5 (T.size=256):=Y4 (hT▸Zhu);have U:Y5 (T.all (·.oneCell')=true):=Y4 (hT▸Zuu);have t:Y5 (∀B W,W.heap[B]? = some (.cells T 308 (0,0))->Tab B 256 W):=Y4 (fun B W h=>Tab.of_row hT h);have hK:=fun W=>ZBZ W;rw [hT] at hK;have HK:=Y4 hK;obtain ⟨Z,hZ,ah,hz⟩:=ZrY;obtain ⟨r,G⟩:=Xn (run (Zkb s) a.flatten);have u:Y5 (ZI s a.flatten=Zkb r):=Y4 (by unfold ZI;rw [G]);have N:Y5 (run (Zkb s) (a.drop 0).flatten=r):=Y4 G;have HZ:=Y4 hZ;have HP:=Y4 hr;obtain ⟨F,O⟩:=Xn (ZI s a.flatten);rw [O];rw [O] at u;clear hT hK hZ ah G hr O;go_enter func205,ntmps205;go_wp2_with fail;refine (HK.z _).mono ?_;rintro e y ⟨rfl,q⟩;have D:Below w.heap.size w (y.alloc (.cells Z 308)):=q.alloc q.size _;have I:(y.alloc (.cells Z 308)).heap[y.heap.size]? = some (.cells Z 308 (0,0)):=heap_alloc_new _ _;have ae:=setRow_heap _ y.heap.size Z T _ _ I;have A:=Y4 (t.z _ _ ae);have o:=Y4 (below_setRow T D q.size);have hi:(prog.info? 308).map (·.size)=some T.size:=by rw [E.z];exact Zt7
 have V:Z.size=T.size:=by rw [E.z,HZ.z]
 have S:=Y4 I;have HI:=Y4 hi;have ac:=Y4 V;clear I ae hi V D;obtain ⟨w3,C⟩:=Xn ((y.alloc (.cells Z 308)).setRow y.heap.size T);rw [C] at A o;have ab:=Y4 C;have ao:=o.z.size;have af:=Y4 (HP.z.below o.z);obtain ⟨g,hg⟩:=Xn y.heap.size;have HG:=Y4 hg;clear C hg;have hu:=ZjD;have M:=Zjm hs;have Y:=Zpn s;go_wp2_with (refine wpList_store_row rfl 308 (.tmp 5) (.tmp 10) rfl y.heap.size T rfl rfl 308 Z S.z HI.z ac.z U.z ?_;rw [ab.z])
 clear hz S HI ac U HZ E t HK ab HP;rw [HG.z] at A;rw [HG.z];clear HG
 go_loop [0,15] (fun s i=>∃k m:Nat,k<=a.length/\i=.int .i64 k/\s=.int .u32 m/\m<4294967296/\Y5 (run m (a.drop k).flatten=r)) (fun _ i=>a.length - (intOf i).toNat)
 case atStart=>exact ⟨0,Zkb s,by omega,rfl,rfl,Y,N⟩
 case round =>
  obtain ⟨k,m,hk,rfl,rfl,hm,H⟩:=hrel;clear N M Y hs
  by_cases X:k<a.length
  ·obtain ⟨b,off,x,rfl,J,hx⟩:=af.z.at_ X;have f:=H.z;rw [Znt X] at f;generalize a[k]=l at f hx;obtain ⟨p2,ap,rfl,an,aa⟩:=hx.shape;unfold maxLen at aa;obtain ⟨R,hR⟩:=Xn ((a.drop (k+1)).flatten);rw [hR] at f;have aj:=Y4 hR;clear hR;have H2:Y5 (run m (l.drop 0++R)=r):=Y4 f;have HX:=Y4 hx;clear f H hx;go_wp2_with fail
   go_loop [0,21] (fun s i=>∃j m:Nat,j<=l.length/\i=.int .i64 j/\s=.int .u32 m/\m<4294967296/\Y5 (run m (l.drop j++R)=r)) (fun _ i=>l.length - (intOf i).toNat)
   case atStart=>exact ⟨0,m,by omega,rfl,rfl,hm,H2⟩
   case round =>
    obtain ⟨j,n,hj,rfl,rfl,M,H3⟩:=hrel;clear H2 hm J
    by_cases ad:j<l.length
    ·obtain ⟨b2,am,rfl,ak,d⟩:=HX.z.at_ ad;have L:=ZrB ad H3.z;generalize l[j]=c at L d;have hz:n%256 ^^^ c.toNat<256:=Xbg (n:=8) (by omega) c.toNat_lt;have al:=A.z.cell hz;have e1:=Ztt n c;have e2:=Ztu n c M;have ag:=ZyV M c.toNat_lt;have aq:=c.toNat_lt;have q:(0:Int)<=((n%256 ^^^ c.toNat:Nat):Int):=by omega
     have D:((n%256 ^^^ c.toNat:Nat):Int)<256:=by omega
     generalize n%256 ^^^ c.toNat=z at *;generalize onB n c.toNat=n2 at *;have H4:=Y4 L;clear L H3;go_wp2_with fail
     go_round
     case rel=>exact ⟨j+1,n2,by omega,by go_num,rfl,ag,H4⟩
     case measure=>simp [intOf];omega
    ·obtain rfl:j=l.length:=by omega
     have L:=H3.z;rw [Xaf,XE,<- aj.z] at L;have H4:=Y4 L;clear L H3;go_wp2_with fail
     go_round
     case rel=>exact ⟨k+1,n,by omega,by go_num,rfl,M,H4⟩
     case measure=>simp [intOf];omega
  ·obtain rfl:k=a.length:=by omega
   have M:=Zjm hm;have f:=H.z;rw [Xaf] at f;have h3:m=r:=f;subst h3;clear f H;go_wp2_with fail;have O:=u.z;subst O;go_ret;exact ⟨rfl,o.z⟩
end CR
namespace MM
open RowKit
theorem Zjw {P:Program} {fn:Func} {t:TypeId} {c:TypeDesc} {p:Tmp} (h:fn.results=#[.cell p t]) (f:P.underlying t=some c) (d:(match c with | .struct _ | .array _ _=>true|_=>false)=true) (a:Array Value) (hi:(P.info? t).map (·.size)=some a.size) (tmps:Array Value) (w:World) (g:Nat)
  (e:tmps.getD p undef=.pointer (some ⟨g,0,none⟩)) (j:w.heap[g]? = some (.cells a t (0,0))):(results fn tmps).run P w=.ok (.agg a) w:=by
 have b:tmps[p]?.getD undef=.pointer (some ⟨g,0,none⟩):=by simpa using e
 have i:=run_loadVar_row (P:=P) w g t t a (0,0) c j f d hi;simp [results,h,b,asAddr,i]
theorem Zf {w:World} {g:Nat} {a:Array Value} {t:TypeId} {fr:Nat×Nat} (h:w.heap[g]? = some (.cells a t fr)) (i:Nat):w.cell? ⟨g,i,none⟩=a[i]? := cell_of_row w g i _ _ _ h
def Three (w:World) (g:Nat) (t:TypeId) (a b c:Value):Prop:=w.heap[g]? = some (.cells #[a,b,c] t (0,0))
section
variable {w w' : World} {g : Nat} {t : TypeId} {a b c : Value}
theorem Three.lt (h:Three w g t a b c):g<w.heap.size:=(Xq.1 h).1
theorem Three.c0 (h:Three w g t a b c):w.cell? ⟨g,0,none⟩=some a:=by rw [cell_of_row w g 0 _ _ _ h];rfl
theorem Three.c1 (h:Three w g t a b c):w.cell? ⟨g,1,none⟩=some b:=by rw [cell_of_row w g 1 _ _ _ h];rfl
theorem Three.c2 (h:Three w g t a b c):w.cell? ⟨g,2,none⟩=some c:=by rw [cell_of_row w g 2 _ _ _ h];rfl
theorem Three.fr (h:Three w g t a b c) (i:Nat):w.frozen? ⟨g,i,none⟩=false:=frozen_of_row w g i _ _ h
theorem Three.s0 (h:Three w g t a b c) (x:Value):Three (w.setCell ⟨g,0,none⟩ x) g t x b c:=heap_setCell_same w g 0 _ _ x h
theorem Three.s1 (h:Three w g t a b c) (x:Value):Three (w.setCell ⟨g,1,none⟩ x) g t a x c:=heap_setCell_same w g 1 _ _ x h
theorem Three.s2 (h:Three w g t a b c) (x:Value):Three (w.setCell ⟨g,2,none⟩ x) g t a b x:=heap_setCell_same w g 2 _ _ x h
def Ztn (w:World) (g:Nat) (x y z:Value):World:=((w.setCell ⟨g,0,none⟩ x).setCell ⟨g,1,none⟩ y).setCell ⟨g,2,none⟩ z
theorem Three.set (h:Three w g t a b c) (x y z:Value):Three (Ztn w g x y z) g t x y z:=((h.s0 x).s1 y).s2 z
theorem Three.keep {S:Nat->Prop} (h:Three w g t a b c) (d:Kep S w w') (e:S g):Three w' g t a b c:=(d.block g h.lt e).trans h
theorem Three.below {B:Nat} (h:Three w g t a b c) (d:Below B w w') (e:g<B):Three w' g t a b c:=(d.block g e).trans h
theorem Zaj (w:World) (t:TypeId) (a b c:Value):Three (w.alloc (.cells #[a,b,c] t)) w.heap.size t a b c:=heap_alloc_new _ _
theorem Three.cells (h:Three w g t a b c):w.cell? ⟨g,0,none⟩=some a/\w.cell? ⟨g,1,none⟩=some b/\w.cell? ⟨g,2,none⟩=some c:=⟨h.c0,h.c1,h.c2⟩
theorem Three.all (h:Three w g t a b c) (x y:Value) :
  w.frozen? ⟨g,0,none⟩=false/\w.frozen? ⟨g,1,none⟩=false/\w.frozen? ⟨g,2,none⟩=false /\
  ((w.setCell ⟨g,0,none⟩ x).cell? ⟨g,1,none⟩=some b/\(w.setCell ⟨g,0,none⟩ x).frozen? ⟨g,1,none⟩=false) /\
  (((w.setCell ⟨g,0,none⟩ x).setCell ⟨g,1,none⟩ y).cell? ⟨g,2,none⟩=some c/\((w.setCell ⟨g,0,none⟩ x).setCell ⟨g,1,none⟩ y).frozen? ⟨g,2,none⟩=false) :=
 ⟨h.fr 0,h.fr 1,h.fr 2,⟨(h.s0 x).c1,(h.s0 x).fr 1⟩,⟨((h.s0 x).s1 y).c2,((h.s0 x).s1 y).fr 2⟩⟩
theorem ZqY {g:Nat} (x y z:Value):Kep (fun b=>b≠g) w (Ztn w g x y z) :=
 ((Zy (fun h=>h rfl) x).trans (Zy (fun h=>h rfl) y)).trans (Zy (fun h=>h rfl) z)
end
section
variable {P : Program} {fn : Func} {t : TypeId} {ty : TypeDesc}
theorem Zzo {p:Tmp} (h:fn.results=#[.cell p t]) (i:P.underlying t=some ty) (e:(match ty with | .struct _ | .array _ _=>true|_=>false)=true) (hi:(P.info? t).map (·.size)=some 3) (tmps:Array Value) (w:World) (g:Nat) (a b c:Value)
  (f:tmps.getD p undef=.pointer (some ⟨g,0,none⟩)) (k:Three w g t a b c):(results fn tmps).run P w=.ok (.agg #[a,b,c]) w:=by
 have d:tmps[p]?.getD undef=.pointer (some ⟨g,0,none⟩):=by simpa using f
 have j:=run_loadVar_row (P:=P) w g t t _ (0,0) ty k i e hi;simp [results,h,d,asAddr,j]
theorem Zde {p u:Tmp} (h:fn.results=#[.cell p t,.tmp u]) (i:P.underlying t=some ty) (e:(match ty with | .struct _ | .array _ _=>true|_=>false)=true) (hi:(P.info? t).map (·.size)=some 3) (tmps:Array Value) (w:World) (g:Nat) (a b c:Value)
  (f:tmps.getD p undef=.pointer (some ⟨g,0,none⟩)) (k:Three w g t a b c):(results fn tmps).run P w=.ok (.tuple #[.agg #[a,b,c],tmps.getD u undef]) w:=by
 have d:tmps[p]?.getD undef=.pointer (some ⟨g,0,none⟩):=by simpa using f
 have j:=run_loadVar_row (P:=P) w g t t _ (0,0) ty k i e hi;simp [results,h,d,asAddr,j]
end
end MM
namespace MM
open RowKit
theorem Zym {S:Nat->Prop} {w:World} {p:Option Addr} {n e:Nat} {c:List Int} (h:ZB Zbk S w (.slice p n e) c) {k:Nat} (f:k<c.length):∃b off,p=some ⟨b,off,none⟩/\b<w.heap.size/\S b/\w.cell? ⟨b,off+k,none⟩=some (.int .i64 c[k]):=by
 obtain ⟨b,off,vs,j,d,g,a,i⟩:=h.at_ f;have a:vs=[.int .i64 c[k]]:=a;subst a;have:=i 0 _ rfl;rw [show Zbk.size=1 from rfl,XaB,Xad] at this;exact ⟨b,off,j,d,g,this⟩
theorem ZAC {α:Type} [DecidableEq α] {a b:List α} {i:Nat} (d:i<a.length) (c:i<b.length):decide (a.drop i=b.drop i)=(decide (a[i]=b[i])&&decide (a.drop (i+1)=b.drop (i+1))):=by
 rw [X7 d,X7 c];rw [Xa3,Xg,Xw,Xg,Xg,XaV]
theorem Zgv (u v:Value) (b a:List Int) (w:World) (s:ZF Zbk w u b) (t:ZF Zbk w v a):Calls prog 32 #[u,v] w fun e w'=>e=.returned (.bool (decide (b=a)))/\Below w.heap.size w w':=by
 obtain ⟨p1,I,rfl,E,C,_⟩:=s.shape;obtain ⟨p2,M,rfl,z,D,_⟩:=t.shape;unfold maxLen at C D
 by_cases f:b.length=a.length
 ·have t0:(((b.length:Int)) != ((a.length:Int)))=false:=by simp [f]
  obtain ⟨n,g⟩:=Xn b.length;have j:a.length=n:=by omega
  obtain ⟨k,d⟩:=Xn (decide (b=a));have L:decide (b.drop 0=a.drop 0)=k:=d;rw [d];have J:=Y4 L;have U:=Y4 s;have T:=Y4 t;have o:=Y4 g;have q:=Y4 j;rw [g,j] at t0;rw [g] at E ⊢;rw [j] at z ⊢;clear L s t d f g j;go_enter func32,ntmps32;go_wp2_with fail
  go_loopw [5] (fun B wr=>∃i:Nat,i<=n/\B=.int .i64 i/\Y5 (decide (b.drop i=a.drop i)=k)/\Y5 (Below w.heap.size w wr)) (fun B _=>n - (intOf B).toNat)
  case atStart=>exact ⟨0,by omega,rfl,J,Y4 (Below.refl _ _)⟩
  case round =>
   obtain ⟨i,hi,rfl,y,r⟩:=hrel;clear J
   by_cases c:i<n
   ·have R:decide ((i:Int)<(n:Int))=true:=Xt;have O:decide (i<n)=true:=Xt;have q3:(i:Int)<n:=by omega
    have G:i<b.length:=by rw [o.z];exact c
    have A:i<a.length:=by rw [q.z];exact c
    have l:=U.z.below r.z;have p:=T.z.below r.z;rw [o.z] at l;rw [q.z] at p;obtain ⟨b1,o1,rfl,V,_,c1⟩:=Zym l G;obtain ⟨b2,o2,rfl,N,_,c3⟩:=Zym p A;have m:=y.z;rw [ZAC G A] at m;generalize b[i]=X at *;generalize a[i]=Y at *;have x:=Y4 m;have H:=Y4 c;clear y l p G A m c
    by_cases e:X=Y
    ·have f:=x.z;rw [Xs e,Xac] at f;have S:(X != Y)=false:=by simp [e]
     have F:=Y4 f;clear x f e;go_wp2_with fail;go_quiet (fail)
     go_wp2_with fail;have c:=H.z;go_roundw
     case rel=>exact ⟨i+1,by omega,by go_num,F,Y4 (MM.below_drewN r.z _)⟩
     case measure=>simp [intOf];omega
    ·have f:=x.z;rw [Xz e,Xab] at f;have S:(X != Y)=true:=by simp [e]
     subst f;clear x e;go_wp2_with fail;go_quiet (fail)
     go_wp2_with fail;go_ret;exact ⟨rfl,MM.below_drewN r.z _⟩
   ·obtain rfl:i=n:=by omega
    have R:decide ((i:Int)<(i:Int))=false:=by simp
    have O:decide (i<i)=false:=by simp
    have hf:k=true:=by
     rw [<- y.z,Xao (by rw [o.z];exact Xa _),Xao (by rw [q.z];exact Xa _)];simp
    subst hf;clear y;go_wp2_with fail;go_ret;exact ⟨rfl,r.z⟩
 ·have t0:(((b.length:Int)) != ((a.length:Int)))=true:=by simp;omega
  have e:decide (b=a)=false:=Xz fun h=>f (by rw [h]);rw [e];clear s t e f;go_enter func32,ntmps32;go_wp2_with fail;go_ret;exact ⟨rfl,Below.refl _ _⟩
