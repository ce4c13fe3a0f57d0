import Derived.Test.YtmomfobdpfajbaaGreatZA6
import Derived.Test.YtmomfobdpfajbaaGreatZA52
set_option maxRecDepth 100000
set_option maxHeartbeats 0
set_option linter.unusedVariables false
set_option linter.unusedSimpArgs false
namespace Go.Proofs.YtmomfobdpfajbaaGreat
open Tryz
namespace SG
open RowKit MM
open EM (Tr)
open PM (Zk)
open GM (Z8)
theorem ZsQ {rows:List ZgP} {k:Nat} (a:k<rows.length):(rows.take (k+1)).map (·.1)=(rows.take k).map (·.1)++[(rows[k]).1]:=by
 rw [XG a,XM];rfl
theorem Zxi {T:Nat->Prop} {w w':World} {v:Value} {l:Xu} (h:Zv w v l) (e:Kep T w w') (f:∀k,(∃i x,w.cell? ⟨k,i,none⟩=some (.int .u8 x))->T k):Zv w' v l:=by
 obtain ⟨p,d,j,q,r,n,h⟩:=h;refine ⟨p,d,j,q,r,n,?_⟩;rcases h with h|⟨b,off,m,c,g⟩
 ·exact .inl h
 ·refine .inr ⟨b,off,m,XJ c e.size,fun i u hi => ?_⟩;have a:=g i u hi
  obtain ⟨x,o⟩:∃x,u=.int .u8 x:=by
   obtain ⟨y,_,rfl⟩:=X4.1 (List.mem_of_getElem? hi);exact ⟨_,rfl⟩
  rw [e.cell c (f b ⟨off+i,x,by rw [<- o];exact a⟩)];exact a
theorem Zyl:(prog.info? 44).map (·.size)=some 1:=by kernel_rfl
def ZtJ (L:Xu) (w:World) (e:Ending) (w':World):Prop:=∃v,e=.returned (.agg #[v])/\Zv w' v L/\Below w.heap.size w w'
theorem Zrt (v:Value) (rows:List ZgP) (w:World) (Y:ZF Zpz w v rows) (hn:rows.length<=200000) (hw:∀r∈rows,r.1.length<=1000000):Calls prog 18 #[v] w (ZtJ (Z8 rows) w):=by
 obtain ⟨p,ae,rfl,ad,aa,_⟩:=Y.shape;unfold maxLen at aa;obtain ⟨R,hR⟩:=Xn w.heap.size;obtain ⟨B,a⟩:=Xn (w.alloc (.cells #[.slice none 0 0] 44));have q:Below w.heap.size w B:=by rw [<- a];exact (Below.refl _ _).alloc (Xa _) _
 have H:B.heap[R]? = some (.cells #[.slice none 0 0] 44 (0,0)):=by rw [<- a,<- hR];exact heap_alloc_new _ _
 have n:B.heap.size=R+1:=by rw [<- a,<- hR];simp
 have HV:=Y4 (show ZF Zpz B _ rows from Y.below q);have J:=Y4 q;have L:=Y4 H;have y:=Y4 n;have V:=Y4 a;have HW:=Y4 hw;have HN:=Y4 hn;have F:Y5 (ZbL (R+1) B (.slice none 0 0) ((rows.take 0).map (·.1))):=Y4 (ZbL.nil_ _ _);clear Y q H n a hw;go_enter func18,ntmps18;go_wp2_with (rw [V.z])
 go_loopw [3,4] (fun u T wr=>∃k:Nat,k<=rows.length/\T=.int .i64 k/\Y5 (ZbL (R+1) wr u ((rows.take k).map (·.1)))/\Y5 (Below (R+1) B wr)) (fun _ T _=>rows.length - (intOf T).toNat)
 case atStart=>exact ⟨0,by omega,by go_simp,F,Y4 (Below.refl _ _)⟩
 case round =>
  obtain ⟨k,I,rfl,S,l⟩:=hrel;clear F
  by_cases h:k<rows.length
  ·have t1:decide ((k:Int)<(rows.length:Int))=true:=Xt;have t2:(k:Int)<(rows.length:Int):=by omega
   obtain ⟨b,off,vr,rfl,ag,_,c1,_,_⟩:=Zm1 (HV.z.below (by have:=l.z;rw [y.z];exact this)) h;have o:=ZsQ h;obtain ⟨x,hx⟩:=Xn ((rows[k]).1);rw [hx] at c1 o;obtain ⟨wb,C⟩:=Xn (wr.alloc (.cells #[.string ⟨x.toArray⟩] 9));have G:=Y4 C;have ab:=Y4 o;have ac:=Y4 h;have t:((rows.take k).map (·.1)).length=k:=by rw [XF,Xi];omega
   have U:=Y4 t;obtain ⟨pu,cu,E,_⟩:=S.z.shape;rw [t] at E;subst E;have W:Y5 (R+1<=wr.heap.size):=Y4 (by have:=l.z.size;have:=y.z;omega);clear o hx C t;go_wp2_with (first|(at_builtin;go_loud (refine Zb8 rfl _ _ rfl (R+1) (.slice pu k cu) _ wr x G.z.symm rfl S.z rfl (by rw [U.z];have:=HN.z;omega) W.z ?_;intro v5 w5 z D;rw [<- ab.z] at z;have O:=Y4 z;have X:=Y4 (l.z.trans D);clear z D))|(rw [G.z]))
   have h:=ac.z
   all_goals (
    go_roundw
    case rel=>exact ⟨k+1,by omega,by go_num,O,X⟩
    case measure=>simp [intOf];omega)
  ·obtain rfl:k=rows.length:=by omega
   have t1:decide ((rows.length:Int)<(rows.length:Int))=false:=by simp
   have N:=S.z;rw [XB] at N;have M:(rows.map (·.1)).length=rows.length:=XF _;have HC:=Y4 (BL.Zlm u3 (rows.map (·.1)) wr (ZbL.trow N) (by rw [M];exact HN.z) (fun s hs=>by obtain ⟨r,hr,rfl⟩:=X4.1 hs;exact HW.z r hr));obtain ⟨pu,cu,E,_⟩:=N.shape;rw [M] at E;subst E;have HL:=Y4 M;clear N M;have HR:=Y4 hR;go_wp2_with fail;refine HC.z.mono ?_;rintro e Z ⟨A,rfl,d,j⟩;have hs:=l.z.size;have n:=y.z;have m:=(j.block R (by omega)).trans ((l.z.block R (by omega)).trans L.z);obtain ⟨f0,f1,f2,f3⟩:=BL.Zf2 m A;have HG:=Y4 f2;have f:Below w.heap.size w Z:=J.z.trans ((l.z.mono (by omega)).trans (j.mono (by omega)));rw [HL.z] at d;obtain ⟨FL,g⟩:=Xn ((BM.ZcG (BM.Zfv rows.length) (rows.map (·.1))).1);rw [g] at d
   have c:Zv (Z.setCell ⟨R,0,none⟩ A) A FL:=Zxi d f3 fun k ⟨i,x,I⟩ e=>by
    subst e;rw [Zf m i] at I;rcases i with _|i
    ·cases I
    ·simp at I
   have af:=Y4 g
   have HQ:Y5 (ZtJ (Z8 rows) w (.returned (.agg #[A])) (Z.setCell ⟨R,0,none⟩ A)):=Y4 ⟨A,rfl,by
    unfold Z8;rw [g];exact c,f.trans (f3.below f.size fun k I=>by omega)⟩
   obtain ⟨pb,cb,rfl,_⟩:=d.shape;clear d j m f2 f3 f g c HC l J L;go_wp2_with fail;refine bodyPost_ret (Zjw (p:=2) rfl underlying44 rfl #[_] (by exact Zyl) _ _ R rfl HG.z) rfl HQ.z
