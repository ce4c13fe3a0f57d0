import Derived.Test.YtdijhifdjbnkfaaGreatZT14
import Derived.Test.YtdijhifdjbnkfaaGreatZT34
set_option maxRecDepth 100000
set_option maxHeartbeats 0
set_option linter.unusedVariables false
set_option linter.unusedSimpArgs false
namespace Go.Proofs.YtdijhifdjbnkfaaGreat
open Lib (hid)
open Tryz
namespace EV
open RowKit MM EM VM GB
open VP
def ZfV (l:Xu) (e:Ev):Xu:=if ZG e=0 then l++ZZ e else []
def Zwp (l:Xu) (x:Int) (w:World) (e:Ending) (w':World):Prop:=∃v,e=.returned (.tuple #[v,.int .i64 x])/\Zd w.heap.size w' v l/\Below w.heap.size w w'
theorem ZqP (B:Nat) (w:World):Zd B w (.slice none 0 0) []:=World.ownsRow_nil _ _ _ _
theorem Zu3 {w w':World} {v':Value} (h:Grown w w' (.slice none 0 0) v'):Below w.heap.size w w'/\∀k,v'.ownBlock=some k->w.heap.size<=k :=
 ⟨h.kep.below (Xc _) (fun k _ e=>by cases e),fun k a=>(h.2 k a).elim (fun e=>by cases e) id⟩
theorem ZiX (v:Value) (l:Xu) (z:Int) (u:Value) (fs:List Fld) (w:World) (H:Zq w v l) (hl:l.length<=1000000000) (G:ZN Z8 w u fs) (Z : -9223372036854775808<=z) (h1:z<=9223372036854775807) :
  Calls prog 201 #[v,.agg #[.int .i64 z,u]] w (Zwp (ZfV l (z,fs)) (ZG (z,fs)) w):=by
 obtain ⟨pv,cv,rfl,_⟩:=H.shape;have r:=ZbB w z u;have E:=hid (Zet z u fs _ (ZN.below G r));obtain ⟨L,y⟩:=Xn (ZfV l (z,fs));obtain ⟨c,p⟩:=Xn (ZG (z,fs));rw [p] at E;rw [y,p];have X:=hid G;have HV:=hid H
 by_cases O:c=0
 ·subst O;have i:=(ZaL.1 p);have s:fs.length<=16:=i.1;have R:∀f∈fs,f.1.length<=4096/\f.2.length<=4096:=fun f V=>⟨Xx (Zdd (i.2 f V).1) (by omega),(i.2 f V).2⟩;have m:L=l++ZZ (z,fs):=by rw [<- y];unfold ZfV;rw [Xe p]
  have q:=fits fs.length [] fs z s R (by simp) fs.length
  have x:(ZZ (z,fs)).length<=1001000000:=by
   rw [XC,Xz] at q;exact q
  have T:=hid (fun W (h:ZN Z8 W u fs)=>ZwF (.slice none 0 0) [] z u fs W (ZqP 0 W) (h.weak fun b _ _ e=>by cases e) Z h1 s R (by simp));have M:=hid x;have J:=hid m;clear G H i R m q x p r y;go_enter func201,ntmps201;go_wp2_with fail;refine E.out.mono ?_;rintro e Y ⟨rfl,d⟩;obtain ⟨c0,c1,a⟩:=ZcR d;have n:=hid a;have t:=hid (T.out _ (ZN.below X.out a));clear d a T E;go_wp2_with fail;refine t.out.mono ?_;rintro e w2 ⟨v2,rfl,j,F⟩;obtain ⟨D,I⟩:=Zu3 F;rw [Xz] at j;have g:=n.out.trans (D.mono n.out.size);have k:=hid g;have C:=hid (Zye (HV.out.below g) j.brow);obtain ⟨p2,c2,rfl,_⟩:=j.brow.shape;clear j F D I g t;go_wp2_with fail;have U:=hid (ZrS _ [l,ZZ (z,fs)] _ C.out (by simp;have:=M.out;omega));refine U.out.mono ?_;rintro e w3 ⟨v3,rfl,B,A⟩
  have o:Zd w.heap.size w3 v3 L:=by
   rw [J.out];have:=Zd.weaken B (B':=w.heap.size) (Xx k.out.size (by simp));simpa using this
  have S:=hid o;have N:=hid ((k.out.alloc k.out.size _).trans (A.mono (Xx k.out.size (by simp))));clear B A o U;go_wp2_with fail;go_ret2;exact ⟨_,rfl,S.out,N.out⟩
 ·have t0:(c != 0)=true:=by rw [Xaa];exact O
  have m:L=[]:=by rw [<- y];unfold ZfV;rw [Xa (by rw [p];exact O)]
  subst m;clear G H y p r;go_enter func201,ntmps201;go_wp2_with fail;refine E.out.mono ?_;rintro e Y ⟨rfl,d⟩;obtain ⟨c0,c1,a⟩:=ZcR d;have n:=hid a;clear d a E;go_wp2_with fail;go_ret2;exact ⟨_,rfl,ZqP _ _,n.out⟩
end EV
namespace GB
open RowKit MM
theorem Zdq {F:Fence} {n:Nat} {w:World} {ops:Array Oper} {rest:List Oper} {o:Oper} {a:Act} {Q:Exit->Act->World->Prop} (z:o.guard=none) (s x:Operand)
  (t:o.op=.call { callee:=.builtin .append,args:=#[s,x],argTypes:=#[23,23] }) (v:Value) (l:Xu) (hs:a.eval s=v) (e:Zd 0 w v l)
  (src:Value) (m:Xu) (A:a.eval x=src) (N:Zq w src m) (L:m≠[]\/src=.slice none 0 0) (I:l.length+m.length<=140737488355328)
  (h:∀v' w',Zd 0 w' v' (l++m)->Grown w w' v v'->wpListIn F n prog ops Q rest (a.put o.dst v') w'):wpListIn F n prog ops Q (o::rest) a w:=by
 obtain ⟨i0,hi,G,E,D⟩:=info_parts ZaJ;obtain ⟨p,H,rfl,_,_,h3,y⟩:=N;rcases y with y|⟨b,off,rfl,_,y⟩
 ·have f:m=[]:=by
   have:=Zi m;rw [y] at this;exact XO (by simpa using this.symm)
  have q:=L.resolve_left fun h=>h f;subst f;refine wpListIn_plain z fun K i => ?_;have d:=run_append_owned_none (P:=prog) (w:=w) 0 23 o.type 5 i0 1 underlying23 hi v l.length (Lib.byteCells l) e;have B:=h v w (by rw [XI];exact e) (Grown.refl w v);rw [q] at A;unfold Oper.wpIn;refine ⟨?_,?_⟩
  ·simp [Oper.about,t,resolve,Target.leads,Sem.run_pure]
  ·rw [Oper.semAt_plain F _ _ (by rw [t];intro c r;cases r)];simp [execOp,t,resolve,invoke,builtin,hs,A,d,Result.andThen];exact i _ _ B
 ·by_cases f:m=[]
  ·have q:=L.resolve_left fun h=>h f;cases q
  ·have h0:=Xac.2 f;refine wpListIn_plain z fun K i => ?_
   obtain ⟨g,cap',w',d,J,C,O,h5⟩:=run_append_lies (P:=prog) w 23 o.type 0 5 i0 (.int .u8 0) 1 1 underlying23 hi G E D rfl (by decide) v l.length (Lib.byteCells l) e ⟨b,off,none⟩ (Lib.byteCells m).length H (Lib.byteCells m) (by simp)
    (fun j u R=>by rw [ZY];exact y j u R) (byteCells_one m) (by rw [Zi];omega) (by rw [Zi];unfold maxLen;omega) (by rw [Zi];omega) (XU _) w.heap.size rfl
   have B:=h _ w' (by
    unfold Zd;rw [Xd,byteCells_append];rw [Zi] at J
    exact J) ⟨C,fun k M=>by
     simp only [Value.ownBlock,Xv] at M;subst M;rcases O with h|h
     ·exact .inl h
     ·exact .inr (Nat.le_of_eq h.symm)⟩
   unfold Oper.wpIn;refine ⟨?_,?_⟩
   ·simp [Oper.about,t,resolve,Target.leads,Sem.run_pure]
   ·rw [Oper.semAt_plain F _ _ (by rw [t];intro c r;cases r)];rw [Zi] at d;rw [Zi] at A;simp [execOp,t,resolve,invoke,builtin,hs,A,d,Result.andThen];exact i _ _ B
