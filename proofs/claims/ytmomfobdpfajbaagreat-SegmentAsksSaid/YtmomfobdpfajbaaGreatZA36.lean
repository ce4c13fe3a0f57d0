import Derived.Test.YtmomfobdpfajbaaGreatZA19
import Derived.Test.YtmomfobdpfajbaaGreatZA35
set_option maxRecDepth 100000
set_option maxHeartbeats 0
set_option linter.unusedVariables false
set_option linter.unusedSimpArgs false
namespace Go.Proofs.YtmomfobdpfajbaaGreat
open Tryz
namespace EV
open RowKit MM EM VM GB
open VP
def ZfS (l:Xu) (e:Ev):Xu:=if ZH e=0 then l++Z0 e else []
def ZwS (l:Xu) (x:Int) (w:World) (e:Ending) (w':World):Prop:=∃v,e=.returned (.tuple #[v,.int .i64 x])/\Zd w.heap.size w' v l/\Below w.heap.size w w'
theorem Zra (B:Nat) (w:World):Zd B w (.slice none 0 0) []:=World.ownsRow_nil _ _ _ _
theorem ZvD {w w':World} {v':Value} (h:Grown w w' (.slice none 0 0) v'):Below w.heap.size w w'/\∀k,v'.ownBlock=some k->w.heap.size<=k :=
 ⟨h.kep.below (Xa _) (fun k _ e=>by cases e),fun k a=>(h.2 k a).elim (fun e=>by cases e) id⟩
theorem Zi4 (v:Value) (l:Xu) (z:Int) (u:Value) (fs:List Fld) (w:World) (H:Zv w v l) (hl:l.length<=1000000000) (G:ZF Zae w u fs) (Y : -9223372036854775808<=z) (X:z<=9223372036854775807) :
  Calls prog 201 #[v,.agg #[.int .i64 z,u]] w (ZwS (ZfS l (z,fs)) (ZH (z,fs)) w):=by
 obtain ⟨pv,cv,rfl,_⟩:=H.shape;have r:=Zbx w z u;have D:=Y4 (Zer z u fs _ (ZF.below G r));obtain ⟨L,x⟩:=Xn (ZfS l (z,fs));obtain ⟨c,p⟩:=Xn (ZH (z,fs));rw [p] at D;rw [x,p];have HR:=Y4 G;have HV:=Y4 H
 by_cases M:c=0
 ·subst M;have i:=(ZaK.1 p);have B:fs.length<=16:=i.1;have N:∀f∈fs,f.1.length<=4096/\f.2.length<=4096:=fun f hf=>⟨Xy (Zda (i.2 f hf).1) (by omega),(i.2 f hf).2⟩;have n:L=l++Z0 (z,fs):=by rw [<- x];unfold ZfS;rw [Xe p]
  have q:=fits fs.length [] fs z B N (by simp) fs.length
  have F:(Z0 (z,fs)).length<=1001000000:=by
   rw [XB,XE] at q;exact q
  have U:=Y4 (fun W (h:ZF Zae W u fs)=>Zw9 (.slice none 0 0) [] z u fs W (Zra 0 W) (h.weak fun b _ _ e=>by cases e) Y X B N (by simp));have S:=Y4 F;have O:=Y4 n;clear G H i N n q F p r x;go_enter func201,ntmps201;go_wp2_with fail;refine D.z.mono ?_;rintro e Z ⟨rfl,g⟩;obtain ⟨c0,c1,a⟩:=ZcR g;have k:=Y4 a;have E:=Y4 (U.z _ (ZF.below HR.z a));clear g a U D;go_wp2_with fail;refine E.z.mono ?_;rintro e w2 ⟨v2,rfl,j,y⟩;obtain ⟨s,J⟩:=ZvD y;rw [XE] at j;have d:=k.z.trans (s.mono k.z.size);have m:=Y4 d;have t:=Y4 (ZyH (HV.z.below d) j.brow);obtain ⟨p2,c2,rfl,_⟩:=j.brow.shape;clear j y s J d E;go_wp2_with fail;have T:=Y4 (Zsm _ [l,Z0 (z,fs)] _ t.z (by simp;have:=S.z;omega));refine T.z.mono ?_;rintro e V ⟨v3,rfl,C,A⟩
  have o:Zd w.heap.size V v3 L:=by
   rw [O.z];have:=Zd.weaken C (B':=w.heap.size) (Xy m.z.size (by simp));simpa using this
  have I:=Y4 o;have R:=Y4 ((m.z.alloc m.z.size _).trans (A.mono (Xy m.z.size (by simp))));clear C A o T;go_wp2_with fail;go_ret2;exact ⟨_,rfl,I.z,R.z⟩
 ·have t0:(c != 0)=true:=by rw [Xah];exact M
  have n:L=[]:=by rw [<- x];unfold ZfS;rw [Xc (by rw [p];exact M)]
  subst n;clear G H x p r;go_enter func201,ntmps201;go_wp2_with fail;refine D.z.mono ?_;rintro e Z ⟨rfl,g⟩;obtain ⟨c0,c1,a⟩:=ZcR g;have k:=Y4 a;clear g a D;go_wp2_with fail;go_ret2;exact ⟨_,rfl,Zra _ _,k.z⟩
