import Derived.Test.YtmomfobdpfajbaaGreatZA6
import Derived.Test.YtmomfobdpfajbaaGreatZA8
set_option maxRecDepth 100000
set_option maxHeartbeats 0
set_option linter.unusedVariables false
set_option linter.unusedSimpArgs false
namespace Go.Proofs.YtmomfobdpfajbaaGreat
open Tryz
namespace GM
open VM
open SM (Zq isS encS ZgL ZgW Zdx ZaS)
open FM (Zam Zx ZaH ZbF Zc9 Zbv Zia ZfN Zj2 ZmX Zmb Zja)
variable {b rest:Xu} {ls L:List Xu}
def ZkL:Xu:=[76,83,69,71]
structure Six (b:Xu) (L:List Xu):Prop where
 head:b.take 4=ZkL
 six:L.length=6
 most:∀p∈L,p.length<=16777216
 told:b.drop 4=Zx L
structure Some6 (b:Xu) (ls:List Xu) (rest:Xu):Prop where
 most:∀p∈ls,p.length<=16777216
 told:b=Zx ls++rest
theorem Zel:∀{ls L:List Xu} {rest:Xu},(∀p∈ls,p.length<=16777216)->(∀p∈L,p.length<=16777216)->Zx ls++rest=Zx L->ls.length<=L.length->ls=L.take ls.length/\rest=Zx (L.drop ls.length)
 | [],L,rest,_,_,h,_=>⟨by simp,by simpa [ZbF] using h⟩
 | p::ls,[],rest,_,_,_,hl=>absurd hl (by simp)
 | p::ls,q::L,rest,h1,h2,h,hl=>by
   rw [ZaH,ZaH,Xk] at h;obtain ⟨rfl,e⟩:=Zmb (h1 p (by simp)) (h2 q (by simp)) h;obtain ⟨d,c⟩:=Zel (fun x a=>h1 x (Xa6 _ a)) (fun x a=>h2 x (Xa6 _ a)) e (by simpa using hl);rw [Xh,XaC,XaW];exact ⟨by rw [<- d],c⟩
theorem Some6.start (b:Xu):Some6 b [] b:=⟨fun _ h=>by simp at h,by simp [ZbF]⟩
theorem Some6.next {p:Xu} {k:Nat} (h:Some6 b ls rest) (c:Zbv rest=(p,k,0)):Some6 b (ls++[p]) (Zia rest):=by
 obtain ⟨e,h2,d⟩:=Zj2 c;refine ⟨fun q a => ?_,?_⟩
 ·rcases Xam.1 a with a|a
  ·exact h.most q a
  ·obtain rfl:=XaJ.1 a;exact e
 ·rw [ZmX c,Zc9,ZaH,ZbF,XH,Xk,d];exact h.told
theorem Some6.odd (h:Some6 (b.drop 4) ls rest) (hk:ls.length<6) (c:(Zbv rest).2.2≠0) (L:List Xu):¬Six b L:=fun a=>by
 obtain ⟨_,e⟩:=Zel h.most a.most (h.told.symm.trans a.told) (by have:=a.six;omega);have d:L.drop ls.length=L[ls.length]'(by have:=a.six;omega)::L.drop (ls.length+1):=X7 (by have:=a.six;omega);rw [d,ZaH] at e;rw [e,ZfN (a.most _ (XI _))] at c;exact c rfl
theorem Some6.more (h:Some6 (b.drop 4) ls rest) (d:ls.length=6) (c:rest≠[]) (L:List Xu):¬Six b L:=fun a=>by
 obtain ⟨_,e⟩:=Zel h.most a.most (h.told.symm.trans a.told) (by have:=a.six;omega);rw [d,<- a.six,Xaf,ZbF] at e;exact c e
theorem Some6.all (a:b.take 4=ZkL) (h:Some6 (b.drop 4) ls []) (c:ls.length=6):Six b ls:=⟨a,c,h.most,by rw [h.told,XH]⟩
theorem Six.unique {M:List Xu} (h:Six b L) (k:Six b M):L=M:=by
 obtain ⟨e,_⟩:=Zel (rest:=[]) h.most k.most (by rw [XH,<- h.told,k.told]) (by rw [h.six,k.six];exact Xa _);rw [h.six,<- k.six,XB] at e;exact e
theorem ZoK {l:List Zq} (h:Zl8 l=true):Six (ZaE l) (Zax l) :=
 ⟨rfl,rfl,fun p a=>by unfold Zl8 at h;rw [List.all_eq_true] at h;exact of_decide_eq_true (h p a),rfl⟩
theorem ZpG {l:List Zq} (h:ZgK b=some l):Six b (Zax l):=by
 obtain ⟨a,_⟩:=ZjQ h;obtain ⟨_,_,_,_,c,rfl⟩:=Zf6 a;exact ZoK c
theorem ZrE (h:∀L,¬Six b L):ZgK b=none:=by
 cases hd:ZgK b with
 | none=>rfl
 | some l=>exact absurd (ZpG hd) (h _)
def Zdy (L:List Xu):List Zq:=(ZgL (L.headD [])).getD []
theorem Zir (L:List Xu):ZaS (Zdy L):=by
 unfold Zdy;cases h:ZgL (L.headD []) with
 | none=>intro d a;simp at a
 | some l=>exact (Zdx h).2.1
theorem Zpd {l:List Zq} (h:isS l=true) (hf:ZaS l):Zdy (Zax l)=l:=by
 show (ZgL (SM.encS l)).getD []=l
 rw [ZgW h hf];rfl
theorem Zq4 (h:Six b L) (c:ZeJ (Zdy L)=(b,0)):ZgK b=some (Zdy L)/\L=Zax (Zdy L):=by
 have a:=Zxx.2 ⟨c,Zir L⟩;exact ⟨a,h.unique (ZpG a)⟩
theorem Zpt (h:Six b L) (c:ZeJ (Zdy L)≠(b,0)):ZgK b=none:=by
 cases hd:ZgK b with
 | none=>rfl
 | some l =>
   obtain ⟨a,hf⟩:=ZjQ hd;have e:=h.unique (ZpG hd);subst e;rw [Zpd (Zf6 a).1 hf] at c;exact absurd a c
theorem Zf5 (h:(L.headD []).length<=100000):ZbV (Zdy L):=fun hs=>by
 unfold Zdy at hs ⊢;cases hd:ZgL (L.headD []) with
 | none=>exact (by decide +kernel:(SM.encS []).length<=100000)
 | some l =>
   show (SM.encS l).length<=100000
   rw [(Zdx hd).2.2];exact h
def ZjH (b:Xu):Prop:=b.length<=1000000000/\∀L,Six b L->(L.headD []).length<=100000
theorem Zin {l:List Zq} (h:isS l=true) (hs:ZbV l):(ZaE l).length<=200000000:=by
 have d:=sized h hs
 have a:∀(ps:List Xu),(∀p∈ps,p.length<=16777200)->(Zx ps).length<=16777300*ps.length:=by
  intro ps
  induction ps with
  | nil=>intro _;simp [ZbF]
  | cons p ps ih =>
    intro c;have e:=(FM.ZcH p).2;have g:=c p (by simp);have h3:=ih fun q f=>c q (by simp [f]);rw [ZaH,Xd,Xh];omega
 have e:=a (Zax l) d.sects;have g:(Zax l).length=6:=rfl;unfold ZaE;rw [Xd,Xh,Xh,Xh,Xh,Xv];omega
theorem Zk9 {l:List Zq} (h:isS l=true) (hs:ZbV l):ZjH (ZaE l):=by
 refine ⟨by have:=Zin h hs;omega,fun L a => ?_⟩;rw [a.unique (ZoK (Zl9 h hs))];exact hs h
end GM
namespace EV
open RowKit MM EM
open TK (Zbt Zmu ZkY ZfB Zhs)
theorem ZyM (l:Xu) (w:World):Calls prog 123 #[.string ⟨l.toArray⟩] w (ZfB (Zbt l) w):=by
 have h:=Y4 (Zmu ⟨l.toArray⟩ w);rw [ZcO] at h;go_enter func123,ntmps123;go_wp2_with fail;refine h.z.mono ?_;rintro e w2 ⟨rfl,a⟩;have b:=Y4 a;clear h a;go_wp2_with fail;go_ret;exact ⟨rfl,b.z⟩
theorem Zv9 (l:Xu) (w:World):Calls prog 118 #[.string ⟨l.toArray⟩] w (ZfB (Zbt l) w):=by
 by_cases h:l.length<=1000000000000
 ·have:=ZkY ⟨l.toArray⟩ w (by rw [ZaX];exact h);rw [ZcO] at this;exact this
 ·have e:Zbt l=false:=by unfold TK.Zbt;rw [Xz (show ¬(1<=l.length/\l.length<=32) by omega)];simp
  rw [e];have t1:decide ((l.length:Int)<1)=false:=Xf;have t2:decide (l.length<1)=false:=Xf;have t3:decide ((l.length:Int)>32)=true:=Xt;have t4:decide (32<l.length)=true:=Xt;have hs:=ZaX l;clear e h;go_enter func118,ntmps118;go_wp2_with fail;go_ret;exact ⟨rfl,Below.refl _ _⟩
def ZbJ (z:Int) (w:World) (e:Ending) (w':World):Prop:=e=.returned (.int .i64 z)/\Below w.heap.size w w'
theorem Zer (z:Int) (v:Value) (fs:List Fld) (w:World) (u:ZF Zae w v fs):Calls prog 73 #[.agg #[.int .i64 z,v]] w (ZbJ (ZH (z,fs)) w):=by
 obtain ⟨p,s,rfl,N,C,_⟩:=u.shape;unfold maxLen at C
 by_cases h:16<fs.length
 ·have S:decide ((fs.length:Int)>16)=true:=Xt;have e:ZH (z,fs)=3:=by unfold ZH;rw [Xe h]
  rw [e];clear e u h;have o:Below w.heap.size w (w.alloc (.cells #[.int .i64 z,.slice p fs.length s] 57)):=(Below.refl _ _).alloc (Xa _) _;have t:=Y4 o;clear o;go_enter func73,ntmps73;go_wp2_with fail;go_ret;exact ⟨rfl,t.z⟩
 ·have S:decide ((fs.length:Int)>16)=false:=Xf;obtain ⟨k,f⟩:=Xn (ZH (z,fs));have H:Zd9 (fs.drop 0)=k:=by rw [<- f];unfold ZH;rw [Xc h];rfl
  rw [f];have o:Below w.heap.size w (w.alloc (.cells #[.int .i64 z,.slice p fs.length s] 57)):=(Below.refl _ _).alloc (Xa _) _;have t:=Y4 o;have G:=Y4 H;have T:=Y4 u;clear o H u f h;go_enter func73,ntmps73;go_wp2_with fail
  go_loopw [12] (fun B wr=>∃i:Nat,i<=fs.length/\B=.int .i64 i/\Y5 (Zd9 (fs.drop i)=k)/\Y5 (Below w.heap.size w wr)) (fun B _=>fs.length - (intOf B).toNat)
  case atStart=>exact ⟨0,by omega,rfl,G,t⟩
  case round =>
   obtain ⟨i,hi,rfl,y,g⟩:=hrel;clear G t
   by_cases d:i<fs.length
   ·have O:decide ((i:Int)<(fs.length:Int))=true:=Xt;have M:decide (i<fs.length)=true:=Xt;obtain ⟨b,off,rfl,U,_,c1,c2⟩:=ZeN (T.z.below g.z) d;have a:=y.z;rw [ZkC d] at a;generalize fs[i].1=n at *;generalize fs[i].2=x at *;have m:=Y4 a;have E:=Y4 d;have J:=fun W=>ZyM n W;generalize Zbt n=L at *;have F:=Y4 J;have r:=g.z.size;clear a y J d;go_wp2_with fail;refine (F.z _).mono ?_;rintro e I ⟨rfl,j⟩;have q:Below wr.heap.size wr I:=((Below.refl _ wr).alloc (Xa _) _).trans (j.mono (by simp));have cx:I.cell? ⟨wr.heap.size,1,none⟩=some (.string ⟨x.toArray⟩):=(j.cell (p:=⟨wr.heap.size,1,none⟩) (by simp)).trans (ZhP wr _ _ _).2;have l:=Y4 (g.z.trans (q.mono r));clear j q F c1 c2 r;cases L with
    | false =>
      have c:=m.z;rw [Xe rfl] at c;subst c;clear m;go_wp2_with fail;go_ret;exact ⟨rfl,l.z⟩
    | true =>
      by_cases A:4096<x.length
      ·have R:decide ((x.length:Int)>4096)=true:=Xt;have c:=m.z;rw [Xc (by simp),Xe A] at c;subst c;clear m A;go_wp2_with fail;go_ret;exact ⟨rfl,l.z⟩
      ·have R:decide ((x.length:Int)>4096)=false:=Xf;have c:=m.z;rw [Xc (by simp),Xc A] at c;have D:=Y4 c;clear m A c;go_wp2_with fail;have d:=E.z;go_roundw
       case rel=>exact ⟨i+1,by omega,by go_num,D,l⟩
       case measure=>simp [intOf];omega
   ·obtain rfl:i=fs.length:=by omega
    have O:decide ((fs.length:Int)<(fs.length:Int))=false:=by simp
    have M:decide (fs.length<fs.length)=false:=by simp
    have c:=y.z;rw [Xaf] at c;have c:0=k:=c;subst c;clear y;go_wp2_with fail;go_ret;exact ⟨rfl,g.z⟩
def ZaZ (w:World) (z:Int) (v:Value):World:=w.alloc (.cells #[.int .i64 z,v] 57)
theorem Zbx (w:World) (z:Int) (v:Value):Below w.heap.size w (ZaZ w z v):=(Below.refl _ _).alloc (Xa _) _
theorem ZbX (w:World) (z:Int) (v:Value):(ZaZ w z v).heap.size=w.heap.size+1:=by unfold ZaZ;simp
theorem Zxg (w:World) (z:Int) (v:Value):(ZaZ w z v).cell? ⟨w.heap.size,0,none⟩=some (.int .i64 z)/\(ZaZ w z v).cell? ⟨w.heap.size,1,none⟩=some v:=ZhP w _ _ _
theorem ZcR {w wr:World} {z:Int} {v:Value} (h:Below (ZaZ w z v).heap.size (ZaZ w z v) wr):wr.cell? ⟨w.heap.size,0,none⟩=some (.int .i64 z)/\wr.cell? ⟨w.heap.size,1,none⟩=some v/\Below w.heap.size w wr :=
 ⟨(h.cell (p:=⟨w.heap.size,0,none⟩) (by rw [ZbX];simp)).trans (Zxg w z v).1,(h.cell (p:=⟨w.heap.size,1,none⟩) (by rw [ZbX];simp)).trans (Zxg w z v).2,(Zbx w z v).trans (h.mono (by rw [ZbX];omega))⟩
theorem ZmW (z:Int) (v:Value) (fs:List Fld) (w:World) (u:ZF Zae w v fs):Calls prog 70 #[.agg #[.int .i64 z,v]] w (ZbJ (ZH (z,fs)) w):=by
 obtain ⟨p,d,rfl,T,D,_⟩:=u.shape;unfold maxLen at D
 by_cases l:16<fs.length
 ·have W:decide ((fs.length:Int)>16)=true:=Xt;have e:ZH (z,fs)=3:=by unfold ZH;rw [Xe l]
  rw [e];clear e u l;have t:=Y4 (Zbx w z (.slice p fs.length d));go_enter func70,ntmps70;go_wp2_with fail;go_ret;exact ⟨rfl,t.z⟩
 ·have W:decide ((fs.length:Int)>16)=false:=Xf;obtain ⟨m,h⟩:=Xn (ZH (z,fs));have L:Zd9 (fs.drop 0)=m:=by rw [<- h];unfold ZH;rw [Xc l];rfl
  rw [h];have t:=Y4 (Below.refl (ZaZ w z (.slice p fs.length d)).heap.size (ZaZ w z (.slice p fs.length d)));have J:=Y4 L;have X:=Y4 u;clear L u h l;go_enter func70,ntmps70;go_wp2_with fail
  go_loopw [3] (fun B wr=>∃i:Nat,i<=fs.length/\B=.int .i64 i/\Y5 (Zd9 (fs.drop i)=m)/\Y5 (Below (ZaZ w z (.slice p fs.length d)).heap.size (ZaZ w z (.slice p fs.length d)) wr)) (fun B _=>fs.length - (intOf B).toNat)
  case atStart=>exact ⟨0,by omega,rfl,J,t⟩
  case round =>
   obtain ⟨i,hi,rfl,y,k⟩:=hrel;clear J t;obtain ⟨_,H,f⟩:=ZcR k.z
   by_cases g:i<fs.length
   ·have U:decide ((i:Int)<(fs.length:Int))=true:=Xt;have R:decide (i<fs.length)=true:=Xt;obtain ⟨b,off,rfl,F,_,c1,c2⟩:=ZeN (X.z.below f) g;have a:=y.z;rw [ZkC g] at a;generalize fs[i].1=n at *;generalize fs[i].2=x at *;have q:=Y4 a;have G:=Y4 g;have N:=Zv9 n wr;generalize Zbt n=O at *;have I:=Y4 N;have s:=k.z.size;have r:=f.size;rw [ZbX] at s;clear a y N g f;go_wp2_with fail;refine I.z.mono ?_;rintro e M ⟨rfl,j⟩;have cx:M.cell? ⟨b,off+i*2+1,none⟩=some (.string ⟨x.toArray⟩):=(j.cell (p:=⟨b,off+i*2+1,none⟩) F).trans c2;have S:M.cell? ⟨w.heap.size,1,none⟩=some (.slice (some ⟨b,off,none⟩) fs.length d):=(j.cell (p:=⟨w.heap.size,1,none⟩) (show w.heap.size<wr.heap.size by omega)).trans H;have o:=Y4 (k.z.trans (j.mono k.z.size));clear j I c1 c2 H s r;cases O with
    | false =>
      have c:=q.z;rw [Xe rfl] at c;subst c;clear q;go_wp2_with fail;go_ret;exact ⟨rfl,(ZcR o.z).2.2⟩
    | true =>
      by_cases A:4096<x.length
      ·have V:decide ((x.length:Int)>4096)=true:=Xt;have c:=q.z;rw [Xc (by simp),Xe A] at c;subst c;clear q A;go_wp2_with fail;go_ret;exact ⟨rfl,(ZcR o.z).2.2⟩
      ·have V:decide ((x.length:Int)>4096)=false:=Xf;have c:=q.z;rw [Xc (by simp),Xc A] at c;have E:=Y4 c;clear q A c;go_wp2_with fail;have g:=G.z;go_roundw
       case rel=>exact ⟨i+1,by omega,by go_num,E,o⟩
       case measure=>simp [intOf];omega
   ·obtain rfl:i=fs.length:=by omega
    have U:decide ((fs.length:Int)<(fs.length:Int))=false:=by simp
    have R:decide (fs.length<fs.length)=false:=by simp
    have c:=y.z;rw [Xaf] at c;have c:0=m:=c;subst c;have C:=Y4 f;clear y f;go_wp2_with fail;go_ret;exact ⟨rfl,C.z⟩
theorem wrap_add (a b:Int):wrap64 (wrap64 a+b)=wrap64 (a+b):=by unfold wrap64;omega
theorem ZwM (a b:Int):wrap64 (a+wrap64 b)=wrap64 (a+b):=by unfold wrap64;omega
def Zhr (fs:List Fld):Int:=wrap64 (16+(Zap fs:Int))
theorem Ztq {fs:List Fld} {k:Nat} (a:k<fs.length):wrap64 (Zhr (fs.take k)+((fs[k].1.length:Int)+(fs[k].2.length:Int)))=Zhr (fs.take (k+1)):=by
 unfold Zhr;rw [wrap_add,Ztp a];congr 1
 omega
def ZbT (b:Bool) (w:World) (e:Ending) (w':World):Prop:=e=.returned (.bool b)/\Below w.heap.size w w'
theorem ZnU {α:Type} [DecidableEq α] {a b:List α} {i:Nat} (d:i<a.length) (c:i<b.length):decide (a.drop i=b.drop i)=(decide (a[i]=b[i])&&decide (a.drop (i+1)=b.drop (i+1))):=by
 rw [X7 d,X7 c];rw [Xa3,Xg,Xw,Xg,Xg,XaV]
theorem ZCw (c g d e:Xu) (W:World):(Op.equalIn 10000 123 (.agg #[.string ⟨c.toArray⟩,.string ⟨g.toArray⟩]) (.agg #[.string ⟨d.toArray⟩,.string ⟨e.toArray⟩])).run prog W=.ok (decide (c=d)&&decide (g=e)) W:=by
 have s1:=Zc3 c d;have s2:=Zc3 g e;have k:prog.underlying 123=some (.struct (prog.fieldsOf 123)):=by kernel_rfl
 have l:prog.stoodInHeld 123=false:=by kernel_rfl
 have hf:(prog.fieldsOf 123).toList.map (fun f=>(f.name == "_", f.type,f.offset))=[(false,9,0),(false,9,1)]:=by kernel_rfl
 rw [show (10000:Nat)=9998+1+1 from rfl,run_equalIn_struct W _ _ _ _ k l];generalize (prog.fieldsOf 123).toList=fs at hf
 obtain ⟨f0,f1,rfl⟩:∃a b,fs=[a,b]:=by
  have j:=Xr List.length hf;rw [XF] at j
  match fs,j with
  | [a,b],_=>exact ⟨a,b,rfl⟩
 simp only [XC,XN,XaV,X9,and_true] at hf;obtain ⟨⟨h,t0,m⟩,⟨i,p,o⟩⟩:=hf;have h:f0.name ≠ "_" := by simpa using h
 have i:f1.name ≠ "_" := by simpa using i
 have a9:=Tryz.isAgg9;have z9:=Tryz.sizeOf9;have u9:=underlying9;simp only [Op.eqFields,h,i,t0,p,m,o,ne_eq,not_false_eq_true,if_true];go_simp
 by_cases n:c=d<;>by_cases q:g=e<;>simp [s1,s2,n,q]
theorem Zwz (w:World) (a b:Int) (u v:Value):Below w.heap.size w (ZaZ (ZaZ w a u) b v):=(Zbx w a u).trans ((Zbx _ b v).mono (by rw [ZbX];omega))
theorem Zxh {w wr:World} {a c:Int} {u v:Value} (h:Below (ZaZ (ZaZ w a u) c v).heap.size (ZaZ (ZaZ w a u) c v) wr) :
  wr.cell? ⟨w.heap.size,0,none⟩=some (.int .i64 a)/\wr.cell? ⟨w.heap.size,1,none⟩=some u/\wr.cell? ⟨w.heap.size+1,0,none⟩=some (.int .i64 c)/\wr.cell? ⟨w.heap.size+1,1,none⟩=some v/\Below w.heap.size w wr:=by
 obtain ⟨e,f,d⟩:=ZcR h;rw [ZbX] at e f;have b:=ZcR (w:=w) (z:=a) (v:=u) (wr:=wr) (by rw [ZbX] at d ⊢;exact d);exact ⟨b.1,b.2.1,e,f,b.2.2⟩
theorem ZAL (a b:Int) (c d:List Fld):decide ((a,c)=(b,d))=((a == b)&&decide (c=d)):=by
 rw [Xa3];simp
theorem Zkm (f d:Int) (u v:Value) (j g:List Fld) (w:World) (B:ZF Zae w u j) (D:ZF Zae w v g):Calls prog 56 #[.agg #[.int .i64 f,u],.agg #[.int .i64 d,v]] w (ZbT (decide ((f,j)=(d,g))) w):=by
 have F:=Y4 (Zwz w f d u v);rw [ZAL];obtain ⟨J,a,rfl,S,O,_⟩:=B.shape;obtain ⟨G,b,rfl,L,R,_⟩:=D.shape;unfold maxLen at O R
 by_cases h:f=d
 ·have t1:(f != d)=false:=by simp [h]
  have A:(f == d)=true:=by simp [h]
  rw [A,Xac]
  by_cases m:j.length=g.length
  ·have t0:(((j.length:Int)) != ((g.length:Int)))=false:=by simp [m]
   obtain ⟨n,o⟩:=Xn j.length;have p:g.length=n:=by omega
   obtain ⟨r,l⟩:=Xn (decide (j=g));have h0:decide (j.drop 0=g.drop 0)=r:=l;rw [l];have W:=Y4 h0;have HU:=Y4 B;have HV:=Y4 D;have t:=Y4 o;have z:=Y4 p;rw [o,p] at t0;rw [o] at S F ⊢;rw [p] at L F ⊢;have E:=Y4 (Below.refl (ZaZ (ZaZ w f (.slice J n a)) d (.slice G n b)).heap.size (ZaZ (ZaZ w f (.slice J n a)) d (.slice G n b)));clear h0 B D l m o p h A;go_enter func56,ntmps56;go_wp2_with fail
   go_loopw [5] (fun N wr=>∃i:Nat,i<=n/\N=.int .i64 i/\Y5 (decide (j.drop i=g.drop i)=r)/\Y5 (Below (ZaZ (ZaZ w f (.slice J n a)) d (.slice G n b)).heap.size (ZaZ (ZaZ w f (.slice J n a)) d (.slice G n b)) wr)) (fun N _=>n - (intOf N).toNat)
   case atStart=>exact ⟨0,by omega,rfl,W,E⟩
   case round =>
    obtain ⟨i,hi,rfl,I,C⟩:=hrel;clear W E;obtain ⟨_,k1,_,k2,c⟩:=Zxh C.z
    by_cases k:i<n
    ·have q1:decide ((i:Int)<(n:Int))=true:=Xt;have q2:decide (i<n)=true:=Xt;have q3:(i:Int)<n:=by omega
     have U:i<j.length:=by rw [t.z];exact k
     have M:i<g.length:=by rw [z.z];exact k
     have s:=HU.z.below c;have y:=HV.z.below c;rw [t.z] at s;rw [z.z] at y;obtain ⟨b1,o1,rfl,ab,_,c1,c2⟩:=ZeN s U;obtain ⟨b2,o2,rfl,aa,_,c3,c4⟩:=ZeN y M;have q:=I.z;rw [ZnU U M] at q;generalize j[i]=X at *;generalize g[i]=Y at *;have ac:=ZCw X.1 X.2 Y.1 Y.2
     have Z:decide (X=Y)=(decide (X.1=Y.1)&&decide (X.2=Y.2)):=by
      rw [Xa3,Xg,Xw,Xg,Xg];exact Prod.ext_iff
     rw [Z] at q;obtain ⟨X1,X2⟩:=X;obtain ⟨Y1,Y2⟩:=Y;dsimp only at *;generalize decide (X1=Y1)=d1 at *;generalize decide (X2=Y2)=d2 at *;have H:=Y4 q;have V:=Y4 k;have x:=Y4 c;clear q Z k s y U M I c;cases d1<;>cases d2
     case true.true =>
      have m:=H.z;rw [Xac,Xac] at m;have T:=Y4 m;clear H m;go_wp2_with fail;go_quiet (fail)
      go_wp2_with fail;have k:=V.z;go_roundw
      case rel=>exact ⟨i+1,by omega,by go_num,T,Y4 (MM.below_drewN C.z _)⟩
      case measure=>simp [intOf];omega
     all_goals
      have m:=H.z;simp only [Xab,Xa5] at m;subst m;clear H;go_wp2_with fail;go_quiet (fail)
      go_wp2_with fail;go_ret;exact ⟨rfl,MM.below_drewN x.z _⟩
    ·obtain rfl:i=n:=by omega
     have q1:decide ((i:Int)<(i:Int))=false:=by simp
     have q2:decide (i<i)=false:=by simp
     have hf:r=true:=by
      rw [<- I.z,Xao (by rw [t.z];exact Xa _),Xao (by rw [z.z];exact Xa _)];simp
     subst hf;have x:=Y4 c;clear I c;go_wp2_with fail;go_ret;exact ⟨rfl,x.z⟩
  ·have t0:(((j.length:Int)) != ((g.length:Int)))=true:=by simp;omega
   have e:decide (j=g)=false:=Xz fun h=>m (by rw [h]);rw [e];clear B D e m h A;go_enter func56,ntmps56;go_wp2_with fail;go_ret;exact ⟨rfl,F.z⟩
 ·have t1:(f != d)=true:=by simp [h]
  have A:(f == d)=false:=by simp [h]
  rw [A,Xab];clear h B D A;go_enter func56,ntmps56;go_wp2_with fail;go_ret;exact ⟨rfl,F.z⟩
end EV
namespace ST
open RowKit MM EM SM
open EV (ZD evC Zae Z2 ZbT ZbJ ZaZ Zbx ZbX ZcR)
theorem ZBL (v:Value) (l:List Zq) (w:World) (t:ZF ZD w v l):Calls prog 86 #[v] w (ZbT (isS l) w):=by
 obtain ⟨p,aa,rfl,S,F,_⟩:=t.shape;unfold maxLen at F
 by_cases B:l.length<=65536
 ·obtain ⟨q,g⟩:=Xn (isS l);have M:isR 0 (l.drop 0)=q:=by rw [<- g];unfold isS;rw [Xs B];simp
  have V:decide ((l.length:Int)>65536)=false:=Xf;have y:decide (65536<l.length)=false:=Xz (by omega);rw [g];have L:=Y4 M;have W:=Y4 t;clear M g t;go_enter func86,ntmps86;go_wp2_with fail
  go_loopw [3,4] (fun Z A wr=>∃(i:Nat) (z:Int),i<=l.length/\A=.int .i64 i/\Z=.int .i64 z/\Y5 (isR z (l.drop i)=q)/\Y5 (Below w.heap.size w wr)) (fun _ A _=>l.length - (intOf A).toNat)
  case atStart=>exact ⟨0,0,by omega,rfl,rfl,L,Y4 (Below.refl _ _)⟩
  case round =>
   obtain ⟨i,z,hi,rfl,rfl,o,m⟩:=hrel;clear L
   by_cases f:i<l.length
   ·have U:decide ((i:Int)<(l.length:Int))=true:=Xt;have R:decide (i<l.length)=true:=Xt;obtain ⟨b,off,X,rfl,H,_,c1,c2,c3,hf⟩:=Z2 (W.z.below m.z) f;have a:=o.z;rw [Zms f] at a;obtain ⟨⟨h,⟨at_,fs⟩⟩,u⟩:∃d,l[i]=d:=⟨_,rfl⟩;rw [u] at c1 c2 hf a;dsimp only at c1 c2 hf a;unfold okS at a;dsimp only at a
    by_cases r:z<h
    ·by_cases x:h<=1099511627776
     ·have O:decide (h<=z)=false:=Xf;have Y:decide (h>1099511627776)=false:=Xf;have t3:decide (1099511627776<h)=false:=Xf;rw [Xs r,Xs x,Xac,Xac] at a;have D:=Y4 a;have N:=Y4 (EV.ZmW at_ X fs wr hf.any);have C:=Y4 c1;have I:=Y4 H;have J:=Y4 f;clear o a u r x hf f;go_wp2_with fail;refine N.z.mono ?_;rintro e w2 ⟨rfl,k⟩;have s:=Y4 (m.z.trans (k.mono m.z.size));have T:=(k.cell (p:=⟨b,off+i*3,none⟩) I.z).trans C.z;clear k N c1 c2 c3;obtain ⟨c,E⟩:=Xn (ZH (at_,fs));have j:=D.z;rw [E] at j ⊢
      by_cases n:c=0
      ·have t4:(c != 0)=false:=by simp [n]
       rw [Xs n,Xac] at j;have G:=Y4 j;clear D j E n;go_wp2_with fail;have f:=J.z;go_roundw
       case rel=>exact ⟨i+1,h,by omega,by go_num,rfl,G,s⟩
       case measure=>simp [intOf];omega
      ·have t4:(c != 0)=true:=by simp [n]
       rw [Xz n,Xab] at j;subst j;clear D E n;go_wp2_with fail;go_ret;exact ⟨rfl,s.z⟩
     ·have O:decide (h<=z)=false:=Xf;have Y:decide (h>1099511627776)=true:=Xt;have t3:decide (1099511627776<h)=true:=Xt;rw [Xz x,Xa5,Xab,Xab] at a;subst a;clear o u r x hf;go_wp2_with fail;go_ret;exact ⟨rfl,m.z⟩
    ·have O:decide (h<=z)=true:=Xt;rw [Xz r,Xab,Xab,Xab] at a;subst a;clear o u r hf;go_wp2_with fail;go_ret;exact ⟨rfl,m.z⟩
   ·obtain rfl:i=l.length:=by omega
    have U:decide ((l.length:Int)<(l.length:Int))=false:=by simp
    have R:decide (l.length<l.length)=false:=by simp
    have j:=o.z;rw [Zuc] at j;subst j;clear o f;go_wp2_with fail;go_ret;exact ⟨rfl,m.z⟩
 ·have V:decide ((l.length:Int)>65536)=true:=Xt;have y:decide (65536<l.length)=true:=Xs (by omega);have e:isS l=false:=by unfold isS;rw [Xz B];rfl
  rw [e];clear e t B;go_enter func86,ntmps86;go_wp2_with fail;go_ret;exact ⟨rfl,Below.refl _ _⟩
open EV (ZD evC Zae Z2 ZbT ZbJ)
end ST
namespace EV
open RowKit MM EM
theorem ZcN (z:Int) (v:Value) (fs:List Fld) (w:World) (h:ZF Zae w v fs):Calls prog 124 #[.agg #[.int .i64 z,v]] w (ZbJ (Zhr fs) w):=by
 obtain ⟨p,l,rfl,u,k,_⟩:=h.shape;unfold maxLen at k;have o:=Y4 (Zbx w z (.slice p fs.length l));have C:=Y4 h;have q:Y5 (Zhr (fs.take 0)=16):=Y4 (by simp [Zhr,Zap,wrap64]);clear h;go_enter func124,ntmps124;go_wp2_with fail
 go_loopw [3,9] (fun B g wr=>∃(i:Nat) (s:Int),i<=fs.length/\g=.int .i64 i/\B=.int .i64 s/\Y5 (Zhr (fs.take i)=s)/\Y5 (Below w.heap.size w wr)) (fun _ g _=>fs.length - (intOf g).toNat)
 case atStart=>exact ⟨0,16,by omega,rfl,rfl,q,o⟩
 case round =>
  obtain ⟨i,s,hi,rfl,rfl,f,d⟩:=hrel;clear q o
  by_cases c:i<fs.length
  ·have y:decide ((i:Int)<(fs.length:Int))=true:=Xt;have t:decide (i<fs.length)=true:=Xt;obtain ⟨b,off,rfl,D,_,c1,c2⟩:=ZeN (C.z.below d.z) c;have a:=Ztq c;rw [f.z,<- ZwM] at a;generalize fs[i].1=n at *;generalize fs[i].2=x at *;have A:=Y4 a;have m:=Y4 c;have e:Below wr.heap.size wr (wr.alloc (.cells #[.string ⟨n.toArray⟩,.string ⟨x.toArray⟩] 123)):=(Below.refl _ wr).alloc (Xa _) _;have j:=Y4 (d.z.trans (e.mono d.z.size));clear a f c e;go_wp2_with fail;have c:=m.z;go_roundw
   case rel=>exact ⟨i+1,_,by omega,by go_num,rfl,Y4 A.z.symm,j⟩
   case measure=>simp [intOf];omega
  ·obtain rfl:i=fs.length:=by omega
   have y:decide ((fs.length:Int)<(fs.length:Int))=false:=by simp
   have t:decide (fs.length<fs.length)=false:=by simp
   have r:=f.z;rw [XB] at r;subst r;clear f;go_wp2_with fail;go_ret;exact ⟨rfl,d.z⟩
end EV
namespace SG
open RowKit MM
open EV (ZD evC Zae Z2 ZbJ Zhr)
open EM (Zap)
open SM (Zq)
open GM (ZcD Zko ZoQ)
theorem Zk3 {fs:List EM.Fld} (h:Zap fs<=1000000):Zhr fs=((16+Zap fs:Nat):Int):=by
 unfold Zhr;rw [IntWalk.wrap64_in _ ⟨by omega,by omega⟩];omega
theorem Zwi (v:Value) (l:List Zq) (w:World) (G:ZF ZD w v l) (hs:ZcD l<=100000):Calls prog 74 #[v] w (ZbJ (ZcD l:Int) w):=by
 obtain ⟨p,ac,rfl,aa,H,_⟩:=G.shape;unfold maxLen at H;obtain ⟨M,y⟩:=Xn (ZcD l);have N:Y5 (ZcD (l.take l.length)=M):=Y4 (by rw [XB];exact y);have u:=Y4 (fun k=>y▸ZoQ l k);have J:=Y4 (fun (k:Nat) (hk:k<l.length)=>Zko hk);have HV:=Y4 G;have S:Y5 (ZcD (l.take 0)=0):=Y4 (by simp [ZcD]);rw [y] at hs ⊢;clear G y;go_enter func74,ntmps74;go_wp2_with fail
 go_loopw [3,8] (fun sv B wr=>∃(i s:Nat),i<=l.length/\B=.int .i64 i/\sv=.int .i64 s/\s<=100000/\Y5 (ZcD (l.take i)=s)/\Y5 (Below w.heap.size w wr)) (fun _ B _=>l.length - (intOf B).toNat)
 case atStart=>exact ⟨0,0,by omega,rfl,rfl,by omega,S,Y4 (Below.refl _ _)⟩
 case round =>
  obtain ⟨i,s,hi,rfl,rfl,ab,z,o⟩:=hrel;clear S
  by_cases a:i<l.length
  ·have q1:decide ((i:Int)<(l.length:Int))=true:=Xt;have Z:decide (i<l.length)=true:=Xt;have q3:(i:Int)<(l.length:Int):=by omega
   obtain ⟨b,off,vf,rfl,ad,_,c1,c2,c3,hf⟩:=Z2 (HV.z.below o.z) a;have c:=J.z i a;have A:=u.z (i+1);obtain ⟨⟨sq,⟨at_,fs⟩⟩,T⟩:∃d,l[i]=d:=⟨_,rfl⟩;rw [T] at c1 c2 hf c;dsimp only at c1 c2 hf c;rw [z.z] at c;have E:s+Zap fs<=100000:=by omega
   have C:=Zk3 (fs:=fs) (by omega);have r:Zhr ([]:List EM.Fld)=((16:Nat):Int):=by rw [Zk3 (by simp [Zap])];simp [Zap]
   obtain ⟨F,R⟩:=Xn (Zap fs);rw [R] at C c E;obtain ⟨O,Y,rfl,_⟩:=hf.shape;obtain ⟨V,h⟩:=Xn (wr.alloc (.cells #[.int .i64 sq,.int .i64 at_,.slice O fs.length Y] 59));have j:Below wr.heap.size wr V:=by rw [<- h];exact (Below.refl _ _).alloc (Xa _) _
   have f:=Y4 (o.z.trans (j.mono o.z.size));have D:=EV.ZcN at_ (.slice O fs.length Y) fs V (hf.any.below j);have m:=fun W=>EV.ZcN 0 (.slice none 0 0) [] W (ZB.nil_ _ _);rw [C] at D;simp only [r] at m;have U:=Y4 D;have t:=Y4 m;have x:=Y4 h;have HN:=Y4 c;have L:=Y4 a;clear j h hf o D m C r R c A T z a;go_wp2_with fail;rw [x.z];refine U.z.mono ?_;rintro e w2 ⟨rfl,n⟩;have g:=Y4 (f.z.trans (n.mono f.z.size));clear n U x f c1 c2 c3;go_wp2_with fail;refine (t.z _).mono ?_;rintro e w3 ⟨rfl,q⟩;have I:=Y4 (g.z.trans (q.mono g.z.size));clear q t g;go_wp2_with fail;have a:=L.z;go_roundw
   case rel=>exact ⟨i+1,s+F,by omega,by go_num,by go_num,by omega,HN,I⟩
   case measure=>simp [intOf];omega
  ·obtain rfl:i=l.length:=by omega
   have q1:decide ((l.length:Int)<(l.length:Int))=false:=by simp
   have Z:decide (l.length<l.length)=false:=by simp
   have X:=z.z;rw [N.z] at X;subst X;clear z a N u;go_wp2_with fail;go_ret;exact ⟨rfl,o.z⟩
end SG
namespace DT
open RowKit MM DM
open EM (Zg Zan)
theorem Zgc:(prog.info? 102).map (·.size)=some 4:=by kernel_rfl
theorem Zsv:Elem Zbr prog 97 102 40:=⟨underlying97,by
 have h:(prog.info? 102).map (fun i=>(i.zero,i.size,i.bytes))=some (some (.agg #[.string ⟨#[]⟩,.int .i64 0,.int .i64 0,.int .i64 0]),4,40):=by kernel_rfl
 obtain ⟨i,a,d,c,b⟩:=info_parts h;exact ⟨i,_,a,d,c,b,rfl⟩⟩
def Found (o:Option ZN) (w:World) (e:Ending) (w':World):Prop:=e=.returned (.tuple #[Zl3 (o.getD Znq),.bool o.isSome])/\Below w.heap.size w w'
end DT
namespace TR
open RowKit MM GB
variable {B:Nat} {wr w' w W:World} {gb:Option Nat} {vh vb:Value} {H Bd:Xu}
theorem Zb2 {u u':Value} {L d:Xu} (h:B<=wr.heap.size) (g:Zd B wr u L) (f:Grown wr w' u u') (b:Zd 0 w' u' d):Zd B w' u' d/\Below B wr w':=by
 have c:∀k,u.ownBlock=some k->B<=k:=fun k a=>(World.ownsRow.lt g k a).1;refine ⟨Zd.from b fun k a => ?_,f.kep.below h fun k a e=>by have:=c k e;omega⟩;rcases f.2 k a with e|e
 ·exact c k e
 ·omega
structure EncSt (w W wr:World) (gb:Option Nat) (vh vb:Value) (H Bd:Xu):Prop where
 low:Below w.heap.size w wr
 gsz:W.heap.size<=wr.heap.size
 wsz:w.heap.size<=W.heap.size
 blk:∀g,gb=some g->g<W.heap.size/\wr.heap[g]? = W.heap[g]?
 oh:Zd 0 wr vh H
 ob:Zd 0 wr vb Bd
 fh:∀k,vh.ownBlock=some k->w.heap.size<=k/\gb≠some k
 fb:∀k,vb.ownBlock=some k->w.heap.size<=k/\gb≠some k
 ap:∀k,vh.ownBlock=some k->vb.ownBlock≠some k
theorem EncSt.swap (h:EncSt w W wr gb vh vb H Bd):EncSt w W wr gb vb vh Bd H :=
 ⟨h.low,h.gsz,h.wsz,h.blk,h.ob,h.oh,h.fb,h.fh,fun k b a=>h.ap k a b⟩
theorem EncSt.growB {c:Value} {f:Xu} (h:EncSt w W wr gb vh vb H Bd) (d:Grown wr w' vb c) (j:Zd 0 w' c f):EncSt w W w' gb vh c H f:=by
 have hs:=d.kep.size;refine ⟨h.low.trans (d.kep.below h.low.size fun k a e=>by have:=(h.fb k e).1;omega),Xy h.gsz hs,h.wsz,fun g b => ?_,Zd.kepOwn h.oh d.kep (fun k a e=>h.ap k a e),j,h.fh,fun k a => ?_,fun k a i => ?_⟩
 ·have m:=(h.blk g b).1;have l:=h.gsz;exact ⟨m,(d.kep.block g (by omega) (fun e=>(h.fb g e).2 b)).trans (h.blk g b).2⟩
 ·have l:=h.gsz;have h3:=h.wsz;rcases d.2 k a with e|e
  ·exact h.fb k e
  ·exact ⟨by omega,fun n=>by have:=(h.blk k n).1;omega⟩
 ·rcases d.2 k i with e|e
  ·exact h.ap k a e
  ·have:=Zaw h.oh k a;omega
theorem EncSt.growH {a:Value} {b:Xu} (h:EncSt w W wr gb vh vb H Bd) (d:Grown wr w' vh a) (c:Zd 0 w' a b):EncSt w W w' gb a vb b Bd :=
 (h.swap.growB d c).swap
theorem EncSt.forget (h:EncSt w W wr gb vh vb H Bd):EncSt w w wr none vh vb H Bd :=
 ⟨h.low,h.low.size,Xa _,(fun g b=>by cases b),h.oh,h.ob,fun k a=>⟨(h.fh k a).1,by simp⟩,fun k a=>⟨(h.fb k a).1,by simp⟩,h.ap⟩
theorem EncSt.row {x:Value} {X:Xu} (h:EncSt w w wr none vh vb H Bd) {b:World} (c:Below wr.heap.size wr b) (d:Zd wr.heap.size b x X):EncSt w b b x.ownBlock vh vb H Bd :=
 ⟨h.low.trans (c.mono h.low.size),Xa _,Xy h.low.size c.size,fun g j=>⟨(World.ownsRow.lt d g j).2,rfl⟩,Zd.keep h.oh c,Zd.keep h.ob c,
  fun k a=>⟨(h.fh k a).1,fun e=>by have f:=(World.ownsRow.lt d k e).1;have i:=Zaw h.oh k a;omega⟩,
  fun k a=>⟨(h.fb k a).1,fun e=>by have f:=(World.ownsRow.lt d k e).1;have i:=Zaw h.ob k a;omega⟩,h.ap⟩
theorem Zgm {v:Value} {l:Xu} (h:Zd B w v l) (d:∀g,v.ownBlock=some g->w'.heap[g]? = w.heap[g]?):Zd B w' v l:=by
 refine ⟨h.1,?_⟩;rcases h.2 with e|⟨g,b,a,c,i,f,rest⟩
 ·exact .inl e
 ·exact .inr ⟨g,b,a,c,i,by rw [d g (by rw [c];rfl)];exact f,rest⟩
theorem Znw {o:Oper} {a:Act} {K:Act->World->Prop} {Q:Exit->Act->World->Prop} (s x:Operand)
  (j:o.op=.call { callee:=.builtin .append,args:=#[s,x],argTypes:=#[23,23] }) (v:Value) (l:Xu) (hs:a.eval s=v) (b:Zd B w v l) (n:B<=w.heap.size)
  (src:Value) (m:Xu) (p:a.eval x=src) (i:Zv w src m) (q:m≠[]) (d:l.length+m.length<=140737488355328)
  (h:∀v' w',Zd B w' v' (l++m)->Below B w w'->Kep (fun k=>k<B) w w'->K (a.put o.dst v') w'):o.wp prog a w K Q:=by
 refine Zeg s x j v l hs (Zd.zero b) src m p i q d fun v' w' r g => ?_;have f:∀k,v.ownBlock=some k->B<=k:=fun k c=>(World.ownsRow.lt b k c).1;have c:Kep (fun k=>k<B) w w':=g.kep.mono fun k c e=>by have:=f k e;omega
 refine h v' w' (Zd.from r fun k c => ?_) (c.below n fun k h=>h) c;rcases g.2 k c with e|e
 ·exact f k e
 ·omega
end TR
namespace ST
open RowKit MM EM SM
open EV (ZD evC Zae Z2 ZbT ZbJ)
def ZCx (b:Bool):Int:=if b then 0 else 120
theorem Zf3 (v:Value) (l:List Zq) (w:World) (F:ZF ZD w v l):Calls prog 38 #[v] w (ZbJ (ZCx (isS l)) w):=by
 obtain ⟨p,ab,rfl,aa,S,_⟩:=F.shape;unfold maxLen at S
 by_cases M:l.length<=65536
 ·obtain ⟨A,j⟩:=Xn (isS l);have W:isR 0 (l.drop 0)=A:=by rw [<- j];unfold isS;rw [Xs M];simp
  have q0:decide ((l.length:Int)>65536)=false:=Xf;have J:decide (65536<l.length)=false:=Xz (by omega);rw [j];have V:=Y4 W;have HV:=Y4 F;clear W j F;go_enter func38,ntmps38;go_wp2_with fail
  go_loopw [3,11] (fun lv L wr=>∃(i:Nat) (z:Int),i<=l.length/\L=.int .i64 i/\lv=.int .i64 z/\Y5 (isR z (l.drop i)=A)/\Y5 (Below w.heap.size w wr)) (fun _ L _=>l.length - (intOf L).toNat)
  case atStart=>exact ⟨0,0,by omega,rfl,rfl,V,Y4 (Below.refl _ _)⟩
  case round =>
   obtain ⟨i,z,hi,rfl,rfl,u,B⟩:=hrel;clear V
   by_cases h:i<l.length
   ·have q1:decide ((i:Int)<(l.length:Int))=true:=Xt;have Y:decide (i<l.length)=true:=Xt;have q3:(i:Int)<(l.length:Int):=by omega
    obtain ⟨b,off,vf,rfl,ac,_,c1,c2,c3,hf⟩:=Z2 (HV.z.below B.z) h;have a:=u.z;rw [Zms h] at a;obtain ⟨⟨g,⟨at_,fs⟩⟩,G⟩:∃d,l[i]=d:=⟨_,rfl⟩;rw [G] at c1 c2 hf a;dsimp only at c1 c2 hf a;obtain ⟨y,E,rfl,_⟩:=hf.shape;unfold okS at a;dsimp only at a;obtain ⟨q,Z⟩:=Xn wr.heap.size;obtain ⟨R,m⟩:=Xn (wr.alloc (.cells #[.int .i64 g,.int .i64 at_,.slice y fs.length E] 59));have r:Below wr.heap.size wr R:=by rw [<- m];exact (Below.refl _ _).alloc (Xa _) _
    have x:Y5 (Three R q 59 (.int .i64 g) (.int .i64 at_) (.slice y fs.length E)):=Y4 (by rw [<- m,<- Z];exact Zaj wr 59 _ _ _);have f:=Y4 (B.z.trans (r.mono B.z.size));have H:=Y4 (EV.Zer at_ (.slice y fs.length E) fs R (hf.any.below r));have k:=Y4 m;clear r m hf B
    by_cases C:z<g
    ·by_cases I:g<=1099511627776
     ·have X:decide (g<=z)=false:=Xf;have t2:decide (g>1099511627776)=false:=Xf;have t3:decide (1099511627776<g)=false:=Xf;rw [Xs C,Xs I,Xac,Xac] at a;have N:=Y4 a;have U:=Y4 h;clear u a G C I h;go_wp2_with fail;rw [k.z];refine H.z.mono ?_;rintro e w2 ⟨rfl,o⟩;have D:=Y4 (f.z.trans (o.mono f.z.size));obtain ⟨f0,f1,f2⟩:=(x.z.below o x.z.lt).cells;clear o H c1 c2 c3 x f;obtain ⟨c,O⟩:=Xn (ZH (at_,fs));have n:=N.z;rw [O] at n ⊢
      by_cases t:c=0
      ·have t4:(c != 0)=false:=by simp [t]
       rw [Xs t,Xac] at n;have T:=Y4 n;clear N n O t;go_wp2_with fail;have h:=U.z;go_roundw
       case rel=>exact ⟨i+1,g,by omega,by go_num,rfl,T,D⟩
       case measure=>simp [intOf];omega
      ·have t4:(c != 0)=true:=by simp [t]
       rw [Xz t,Xab] at n;subst n;clear N O t;go_wp2_with fail;go_ret;exact ⟨rfl,D.z⟩
     ·have X:decide (g<=z)=false:=Xf;have t2:decide (g>1099511627776)=true:=Xt;have t3:decide (1099511627776<g)=true:=Xt;rw [Xz I,Xa5,Xab,Xab] at a;subst a;have s:Y5 (Below w.heap.size w (wr.alloc (.cells #[.int .i64 g,.int .i64 at_,.slice y fs.length E] 59))):=Y4 (by rw [k.z];exact f.z);clear u G C I H x f k;go_wp2_with fail;go_ret;exact ⟨rfl,s.z⟩
    ·have X:decide (g<=z)=true:=Xt;rw [Xz C,Xab,Xab,Xab] at a;subst a;have s:Y5 (Below w.heap.size w (wr.alloc (.cells #[.int .i64 g,.int .i64 at_,.slice y fs.length E] 59))):=Y4 (by rw [k.z];exact f.z);clear u G C H x f k;go_wp2_with fail;go_ret;exact ⟨rfl,s.z⟩
   ·obtain rfl:i=l.length:=by omega
    have q1:decide ((l.length:Int)<(l.length:Int))=false:=by simp
    have Y:decide (l.length<l.length)=false:=by simp
    have n:=u.z;rw [Zuc] at n;subst n;clear u h;go_wp2_with fail;go_ret;exact ⟨rfl,B.z⟩
 ·have q0:decide ((l.length:Int)>65536)=true:=Xt;have J:decide (65536<l.length)=true:=Xs (by omega);have e:isS l=false:=by unfold isS;rw [Xz M];rfl
  rw [e];clear e F M;go_enter func38,ntmps38;go_wp2_with fail;go_ret;exact ⟨rfl,Below.refl _ _⟩
end ST
namespace MM
open RowKit
variable {α : Type} {C : Codec α}
theorem ZjE {F:Fence} {n:Nat} {P:Program} {T e:TypeId} {c:Nat} (E:Elem C P T e c) {S:Nat->Prop} {w:World} {ops:Array Oper} {rest:List Oper} {o:Oper} {a:Act} {Q:Exit->Act->World->Prop} (D:o.guard=none) (s x:Operand)
  (Z:o.op=.call { callee:=.builtin .append,args:=#[s,x],argTypes:=#[T,T] }) (B:Nat) (v:Value) (es:List α) (hs:a.eval s=v) (r:ZC C e B S w v es) (Y:∀b,b<w.heap.size->S b->Apt e B w b)
  (src:Value) (f:List α) (hx:a.eval x=src) (X:Zds C S w src f) (J:f≠[]) (m:es.length+f.length<=maxLen) (hby:(es.length+f.length)*c<=140737488355328) (d:B<=w.heap.size)
  (h:∀v' w',ZC C e B S w' v' (es++f)->Below B w w'->w.grownBy w' v.ownBlock->wpListIn F n P ops Q rest (a.put o.dst v') w'):wpListIn F n P ops Q (o::rest) a w:=by
 obtain ⟨p,O,g,rfl,h1,h3,A,hc⟩:=X;obtain ⟨i,z,hi,W,G,H,U⟩:=E.info;obtain ⟨b,off,rfl,R⟩:=hc.resolve_left J;obtain ⟨y,M,V⟩:=r;have I:∀k,v.ownBlock=some k->B<=k:=fun k t=>(World.ownsRow.lt M k t).1;have hl:g.flatten.length=f.length*C.size:=by rw [ZeM A.lens,A.1]
 refine wpListIn_append_own w D s x T Z B e i z C.size c E.under hi W G H U C.pos v es.length _ hs M ⟨b,off,none⟩ f.length O g.flatten hx hl ?_ A.ones m hby d (fun v' w' h4 L _ => ?_)
 ·intro j u hj;rw [ZZ];exact R j u hj
 ·have l:Below B w w':=(Below.refl B w).grown L d I;have t:Kep (Apt e B w) w w':=ZO L fun k t hA=>ZcZ M hA t;refine h v' w' ⟨y++g,?_,?_⟩ l L
  ·rw [Xd,XaN];exact h4
  ·have q:=V.append A;refine ⟨q.1,fun i hi N => ?_⟩;exact C.keep (C.keep (q.2 i hi N) (Kep.refl _ _) (T:=fun b=>S b/\b<w.heap.size) fun b l hs=>⟨hs,l⟩) (t.mono' (T:=fun b=>S b/\b<w.heap.size) fun b l hs=>Y b l hs.1) fun b l hs=>hs.1
end MM
namespace EV
open RowKit MM EM
variable {B b g n cap k:Nat} {S S':Nat->Prop} {w w':World} {v:Value} {zs:List Int}
theorem Zef:Elem Zcq prog 73 78 40:=⟨underlying73,by
 have h:(prog.info? 78).map (fun i=>(i.zero,i.size,i.bytes))=some (some (.agg #[.string ⟨#[]⟩,.slice none 0 0]),2,40):=by kernel_rfl
 obtain ⟨i,a,e,d,c⟩:=info_parts h;exact ⟨i,_,a,e,d,c,rfl⟩⟩
def Few (T:List Trm):Prop:=T.length<=100000/\∀t∈T,t.1.length<=10000/\t.2.length<=100000
theorem ZqR (h:ZC Zbk 3 B S w v zs) (d:v.ownBlock=some b):Apt 78 B w b:=.inr fun c fr a=>by
 obtain ⟨_,_,c2,f2,e⟩:=h.cells d;rw [e] at a;simp only [Xx,Obj.cells.injEq] at a;exact absurd a.2.1 (by decide)
theorem Zur {u:Value} {f:List Trm} (h:ZC Zbk 3 B S w v zs) (k:ZC Zcq 78 B S' w u f) (d:u.ownBlock=some g):v.ownBlock≠some g:=fun e=>by
 obtain ⟨_,_,c1,f1,c⟩:=h.cells e;obtain ⟨_,_,c2,f2,a⟩:=k.cells d;rw [c] at a;simp only [Xx,Obj.cells.injEq] at a;exact absurd a.2.1 (by decide)
theorem Zds.weak {α:Type} {C:Codec α} {c:List α} (h:Zds C S w v c) (d:∀b,b<w.heap.size->S b->S' b):Zds C S' w v c:=by
 obtain ⟨p,cap,a,l,j,f,i,e⟩:=h;exact ⟨p,cap,a,l,j,f,i.keep (Kep.refl _ _) d,e⟩
theorem Zvx (w:World) (z:Int):ZB Zbk (fun b=>b=w.heap.size) (w.alloc (.cells #[.int .i64 z] 3)) (.slice (some ⟨w.heap.size,0,none⟩) 1 1) [z]:=by
 have:=ZhS (C:=Zbk) (S:=fun _=>False) (e:=3) w [[.int .i64 z]] [z] (by unfold maxLen;simp) ⟨rfl,fun i hi a=>by obtain rfl:i=0:=(by simpa using hi);rfl⟩;exact this.weak fun b _ h=>h.resolve_left id
theorem Zlj (w:World) (z:Int):ZbK (w.alloc (.cells #[.int .i64 z] 3)) w.heap.size:=⟨_,_,heap_alloc_new w _⟩
theorem ZqS (h:ZbK w b):Apt 78 B w b:=.inr fun c fr a=>by
 obtain ⟨c2,f2,d⟩:=h;rw [d] at a;simp only [Xx,Obj.cells.injEq] at a;exact absurd a.2.1 (by decide)
theorem ZbK.kep (h:ZbK w b) (c:Kep S w w') (d:S b):ZbK w' b:=by
 obtain ⟨c2,e,a⟩:=h;exact ⟨c2,e,(c.block b (Xq.1 a).1 d).trans a⟩
theorem ZbK.alloc (h:ZbK w b) (o:Obj):ZbK (w.alloc o) b:=h.kep (Zu (fun _=>True) w o) trivial
theorem Zpk (a:World) (p:Int) (o:Obj):∀b,b<((a.alloc (.cells #[.int .i64 p] 3)).alloc o).heap.size->((S b/\b<B)\/b=a.heap.size)->Apt 78 B ((a.alloc (.cells #[.int .i64 p] 3)).alloc o) b:=fun b _ h=>by
 rcases h with h|h
 ·exact .inl h.2
 ·rw [h];exact ZqS ((Zlj a p).alloc o)
theorem ZzM {off:Nat} {T:List Trm} (h:ZB Zcq S w (.slice (some ⟨b,off,none⟩) n cap) T) (a:k<=n) (hc:k<cap):ZB Zcq S w (.slice (some ⟨b,off+k*2,none⟩) (n - k) (cap - k)) (T.drop k):=by
 have:=h.drop k a;rw [Xc (by omega),Xae,ZZ] at this;exact this
theorem ZzN (S:Nat->Prop) (W:World) (s:Xu) (p:Int):Zcq.on (fun b=>S b\/b=W.heap.size) (W.alloc (.cells #[.int .i64 p] 3)) [.string ⟨s.toArray⟩,.slice (some ⟨W.heap.size,0,none⟩) 1 1] (s,[p]) :=
 ZpK.2 ⟨_,rfl,(Zvx W p).weak fun b _ a=>.inr a⟩
theorem Zm8 (S:Nat->Prop) (W:World) (s:Xu) (p:Int):Zds Zcq (fun b=>S b\/b=W.heap.size) ((W.alloc (.cells #[.int .i64 p] 3)).alloc (.cells #[.string ⟨s.toArray⟩,.slice (some ⟨W.heap.size,0,none⟩) 1 1] 78)) (.slice (some ⟨W.heap.size+1,0,none⟩) 1 1) [(s,[p])]:=by
 have:=Zdh 78 (ZzN S W s p);rw [World.size_alloc] at this;exact this
theorem Zpq (h:ZbK w g):∀b,b<w.heap.size->((S b/\b<B)\/b=g)->Apt 78 B w b:=fun b _ a=>by
 rcases a with a|rfl
 ·exact .inl a.2
 ·exact ZqS h
def ZB7 (S:Nat->Prop) (T:List Trm) (w:World) (e:Ending) (w':World):Prop:=∃u,e=.returned u/\ZB Zcq (fun b=>S b\/w.heap.size<=b) w' u T/\Below w.heap.size w w'
def RSB {α:Type} (C:Codec α) (S:Nat->Prop) (B:Nat) (w:World) (v:Value) (es:List α):Prop:=ZB C (fun b=>S b/\b<B) w v es
theorem RSB.below {α:Type} {C:Codec α} {es:List α} (h:RSB C S B w v es) (a:Below B w w'):RSB C S B w' v es :=
 ZB.keep h ⟨a.os,a.tape,a.output,a.size,fun k _ c=>a.block k c.2⟩ fun _ _ h=>h
theorem ZCN {α:Type} {C:Codec α} {es:List α} (h:ZB C S w v es):RSB C S w.heap.size w v es:=ZB.weak h fun _ a hs=>⟨hs,a⟩
theorem Zle {X:Nat->Prop} {T:List Trm} (h:ZC Zcq 78 B (fun b=>(S b/\b<B)\/X b) w v T) (a:∀b,X b->B<=b):ZB Zcq (fun b=>S b\/B<=b) w v T :=
 h.ron (fun g d=>.inr (h.cells d).1) (fun b _ c=>c.elim (fun h=>.inl h.1) fun h=>.inr (a b h))
theorem ZoY {a:Addr} {T:List Trm} (h:ZB Zcq S w (.slice (some a) n cap) T) (c:k<=n) (hc:k<cap):ZB Zcq S w (.slice (some (a.add (k*2))) (n - k) (cap - k)) (T.drop k):=by
 have:=h.drop k c;rw [Xc (by omega),Xae] at this;exact this
theorem Zwv {a:Addr} {T:List Trm} (h:ZB Zcq S w (.slice (some a) k cap) T) (c:k<cap):ZB Zcq S w (.slice (some (a.add (k*2))) 0 (cap - k)) (T.drop k):=by
 have:=ZoY h (Xa k) c;rw [Xaw] at this;exact this
theorem ZoX {a:Option Addr} {T:List Trm} (h:ZB Zcq S w (.slice a n n) T):ZB Zcq S w (.slice a 0 0) (T.drop n):=by
 have:=h.drop n (Xa _);rw [Xe rfl,Xaw] at this;exact this
theorem Zv2 (S:Nat->Prop) (s:Xu) (p:Int) (w:World) (hs:s.length<=10000) :
  Calls prog 72 #[.slice none 0 0,.string ⟨s.toArray⟩,.int .i64 p] w (ZB7 S (Zak [] s p) w):=by
 obtain ⟨n,hn⟩:∃n,n=0:=⟨_,rfl⟩;obtain ⟨T,m⟩:∃T:List Trm,T=[]:=⟨_,rfl⟩;go_enter func72,ntmps72;go_wp2_with fail
 go_loopw [7] (fun iv wr=>iv=.int .i64 0/\Y5 (Below w.heap.size w wr)) (fun iv _=>1)
 case atStart=>exact ⟨rfl,Y4 (Below.refl _ _)⟩
 case round =>
  obtain ⟨rfl,HB⟩:=hrel;have q:=HB.z.size;have U:=HB;have A:=Y4 (ZC.lit0 (C:=Zcq) 78 (fun b=>S b/\b<w.heap.size) wr q);have G:Y5 (ZB Zcq (fun b=>S b/\b<w.heap.size) (wr.alloc (.cells #[] 78)) (.slice none 0 0) (T.take n)):=Y4 (by rw [m,List.take_nil];exact ZB.nil_ _ _);have E:Y5 ((T.take n).length=0):=Y4 (by rw [m];simp);have j:Y5 ((T.take n++[(s,[p])]).length=1):=Y4 (by rw [m];simp);have X:Y5 (T.take n++[(s,[p])]++T.drop n=Zak [] s p):=Y4 (by rw [m];simp [Zak]);have R:=Y4 (fun W=>Zm8 (fun b=>S b/\b<w.heap.size) W s p);have ab:T.length=0:=by rw [m];rfl
  have aa:=Y4 (fun W (hW:Below w.heap.size w W)=>(by rw [m,List.drop_nil];exact ZB.nil_ _ _:ZB Zcq (fun b=>S b/\b<w.heap.size) W (.slice none 0 0) (T.drop n)));go_wp2_with (first|(at_builtin;go_loud (refine Zo Zef rfl _ _ rfl w.heap.size _ [] rfl A.z (fun b _ t=>.inl t.2) _ (T.take n) rfl (ZB.src G.z) (by simp only [Xd,Xi,Xp,Xv,Xh];unfold maxLen;omega) (by simp only [Xd,Xi,Xp,Xv,Xh];omega) (by simp;omega) ?_;intro vo l c D V;rw [XE] at c;obtain ⟨po,co,rfl,_⟩:=c.any.shape;rw [E.z] at c;try rw [E.z];have F:=Y4 c;have d:=(U.z.alloc q (.cells #[] 78)).trans D;have M:=Y4 d;have u:=d.size;skip;clear c D V d A G))|(at_builtin;go_loud (refine Zo Zef (S:=fun b=>(S b/\b<w.heap.size)\/b=l.heap.size) rfl _ _ rfl w.heap.size _ (T.take n) rfl (((F.z.alloc (.cells #[.int .i64 p] 3)).weak fun b _ t=>.inl t).alloc _) (Zpk (S:=S) (B:=w.heap.size) l p _) _ [(s,[p])] rfl (R.z l) (by simp only [Xd,Xi,Xp,Xv,Xh];unfold maxLen;omega) (by simp only [Xd,Xi,Xp,Xv,Xh];omega) (by simp;omega) ?_;intro v7 Z f y z;obtain ⟨p7,c7,rfl,_⟩:=f.any.shape;rw [j.z] at f;try rw [j.z];have N:=Y4 f;have a:Below w.heap.size w Z:=((M.z.alloc u _).alloc (by simp;omega) _).trans y;have O:=Y4 a;have I:=a.size;have H:=Y4 (aa.z Z a);have x:ZbK Z l.heap.size:=((Zlj l p).alloc _).kep z (fun e=>absurd (F.z.cells e).2.1 (Nat.lt_irrefl _));have r:=Y4 (Zpq (S:=S) (B:=w.heap.size) x);clear f y z a x))|(at_builtin;go_loud (refine Zo Zef (S:=fun b=>(S b/\b<w.heap.size)\/b=l.heap.size) rfl _ _ rfl w.heap.size _ _ rfl N.z r.z _ (T.drop n) rfl (Zds.weak (ZB.src H.z) fun b _ t=>.inl t) (by simp only [Xd,Xi,Xp,Xv,Xh];unfold maxLen;omega) (by simp only [Xd,Xi,Xp,Xv,Xh];omega) I ?_;intro v9 w9 i o J;rw [X.z] at i;obtain ⟨p9,c9,rfl,_⟩:=i.any.shape;have L:=Y4 i;have Y:=Y4 (O.z.trans o);clear i o J)))
  go_ret;exact ⟨_,rfl,Zle L.z (fun b h=>by subst h;exact u),Y.z⟩
theorem ZBF (S:Nat->Prop) (u:Value) (T:List Trm) (s:Xu) (p:Int) (w:World) (hu:ZB Zcq S w u T) (hF:Few T) (hs:s.length<=10000) :
  Calls prog 72 #[u,.string ⟨s.toArray⟩,.int .i64 p] w (ZB7 S (Zak T s p) w):=by
 obtain ⟨pu,cu,rfl,aT,aW,aL⟩:=hu.shape;unfold maxLen at aW;cases pu with
 | none =>
   have h0:=aL rfl;subst h0;obtain rfl:T=[]:=XP (by omega);exact Zv2 S s p w hs
 | some ad =>
 have HU:=Y4 (ZCN hu);have a2:=Y4 hF.2;have aA:=hF.1;have H0:Y5 (∀j (hj:j<T.length),j<0->Zg T[j].1 s=true):=Y4 fun j hj h=>absurd h (by omega);obtain ⟨n,hn⟩:=Xn T.length;have HN:=Y4 hn;rw [hn] at aT aA HU ⊢;clear hu hF aL hn;go_enter func72,ntmps72;go_wp2_with fail
 go_loopw [7] (fun iv wr=>∃k:Nat,k<=n/\iv=.int .i64 k/\Y5 (∀j (hj:j<T.length),j<k->Zg T[j].1 s=true)/\Y5 (Below w.heap.size w wr)) (fun iv _=>n - (intOf iv).toNat)
 case atStart=>exact ⟨0,by omega,rfl,H0,Y4 (Below.refl _ _)⟩
 case round =>
  obtain ⟨k,hk,rfl,HA,HB⟩:=hrel;clear H0;have a5:=HB.z.size
  by_cases ak:k<n
  ·have q1:decide ((k:Int)<(n:Int))=true:=Xt;have q2:decide (k<n)=true:=Xt;have ay:k<T.length:=by rw [HN.z];exact ak
   obtain ⟨b,off,v,aH,a4,aE,c1,c2,hv⟩:=Znh (HU.z.below HB.z) ay;obtain rfl:=XW aH;have aY:=a2.z T[k] (XI ay);obtain ⟨t,ht⟩:=Xn (T[k]);rw [ht] at c1 hv aY;have HL:=Y4 (Zv8 t.1 s wr (by omega) (by omega));have HT:Y5 (∀hj:k<T.length,T[k]=t):=Y4 fun _=>ht;have av:=Y4 ak;have U:=Y4 ay;clear ht ak ay aH;cases hless:Zg t.1 s with
   | true =>
     rw [hless] at HL
     have aV:Y5 (∀j (hj:j<T.length),j<k+1->Zg T[j].1 s=true):=Y4 fun j hj a6=>by
      by_cases e:j=k
      ·subst e;rw [HT.z hj];exact hless
      ·exact HA.z j hj (by omega)
     clear HA hless hv c2;go_wp2_with fail;refine HL.z.mono ?_;rintro e J ⟨rfl,m,rfl⟩;go_wp2_with fail;have ak:=av.z;go_roundw
     case rel=>exact ⟨k+1,by omega,by go_num,aV,Y4 (MM.below_drewN HB.z _)⟩
     case measure=>simp [intOf];omega
   | false =>
     rw [hless] at HL;have aM:=Y4 hless;have HV:=Y4 hv;have aF:∀m,Below w.heap.size w (wr.drewN m):=fun m=>MM.below_drewN HB.z m;have aS:=Y4 aF;clear hless aF hv;obtain ⟨pv,cv,rfl,_,a7,_⟩:=HV.z.shape;go_wp2_with fail;refine HL.z.mono ?_;rintro e J ⟨rfl,m,hm⟩;have Z:=aS.z m;have d1:J.cell? ⟨b,off+k*2,none⟩=some (.string ⟨t.1.toArray⟩):=by rw [hm];exact c1
     have d2:J.cell? ⟨b,off+k*2+1,none⟩=some (.slice pv t.2.length cv):=by rw [hm];exact c2
     have aN:RSB Zbk S w.heap.size J (.slice pv t.2.length cv) t.2:=by rw [hm];exact (show RSB Zbk S w.heap.size wr (.slice pv t.2.length cv) t.2 from HV.z).below (MM.below_drewN (Below.refl _ wr) m)
     rw [<- hm] at Z;have ax:=Y4 Z;have D:=Z.size;have O:=Y4 (ZC.lit0 (C:=Zcq) 78 (fun b=>S b/\b<w.heap.size) J D);have az:Below w.heap.size w (J.alloc (.cells #[] 78)):=Z.alloc D _;have N:=Y4 ((HU.z.below az).take k hk);have an:Y5 (∀W,Below w.heap.size (J.alloc (.cells #[] 78)) W->W.cell? ⟨b,off+k*2,none⟩=some (.string ⟨t.1.toArray⟩)):=Y4 fun W L=>(L.cell (p:=⟨b,off+k*2,none⟩) aE.2).trans ((((Below.refl J.heap.size J).alloc (Xa _) (.cells #[] 78)).cell (p:=⟨b,off+k*2,none⟩) (show b<J.heap.size by omega)).trans d1);have aC:Y5 (∀W,Below w.heap.size (J.alloc (.cells #[] 78)) W->W.cell? ⟨b,off+k*2+1,none⟩=some (.slice pv t.2.length cv)):=Y4 fun W L=>(L.cell (p:=⟨b,off+k*2+1,none⟩) aE.2).trans ((((Below.refl J.heap.size J).alloc (Xa _) (.cells #[] 78)).cell (p:=⟨b,off+k*2+1,none⟩) (show b<J.heap.size by omega)).trans d2);have aX:Y5 (∀W,Below w.heap.size (J.alloc (.cells #[] 78)) W->RSB Zbk S w.heap.size W (.slice pv t.2.length cv) t.2):=Y4 fun W L=>(aN.below ((Below.refl _ J).alloc D _)).below L;clear hm Z c1 c2 az HL d1 d2 aN;have a1:k<cu:=by have:=av.z;omega
     have z:Y5 ((T.take k).length=k):=Y4 (by rw [Xi,HN.z];omega);have aI:T.length<=100000:=by rw [HN.z];exact aA
     by_cases V:t.1=s
     ·have t2:(t.1 == s)=true:=by rw [Xaj];exact V
      have i:Zak T s p=T.take k++(s,(T[k]'U.z).2++[p])::T.drop (k+1):=ZiY p U.z HA.z (by rw [HT.z U.z];exact V);rw [HT.z U.z] at i;have ao:Y5 (T.take k++[(s,t.2++[p])]++T.drop (k+1)=Zak T s p):=Y4 (by rw [i];simp);have r:Y5 ((T.take k++[(s,t.2++[p])]).length=k+1):=Y4 (by rw [Xd,z.z];rfl);have aP:Y5 ((t.2++[p]).length=t.2.length+1):=Y4 (by rw [Xd];rfl);clear i V HA aM;refine (Decidable.em (k+1<cu)).elim (fun aq => ?qa) (fun aq => ?qb)
      case' qa =>
       have a3:=av.z;have M:=Y4 (fun W (L:Below w.heap.size w W)=>ZoY (HU.z.below L) (show k+1<=n from a3) aq)
      case' qb =>
       obtain rfl:cu=k+1:=by omega
       obtain rfl:n=k+1:=by have:=av.z;omega
       have M:=Y4 (fun W (L:Below w.heap.size w W)=>ZoX (HU.z.below L))
      all_goals
       go_wp2_with (first|(at_builtin;go_loud (refine Zo Zef rfl _ _ rfl w.heap.size _ [] rfl O.z (fun b _ q=>.inl q.2) _ (T.take k) rfl (ZB.src N.z) (by simp only [Xd,Xi,Xp,Xv,Xh];unfold maxLen;omega) (by simp only [Xd,Xi,Xp,Xv,Xh];omega) (by simp;omega) ?_;intro vo F c x ah;rw [XE] at c;obtain ⟨po,co,rfl,_⟩:=c.any.shape;rw [z.z] at c;try rw [z.z];have A:=Y4 c;have f:=(ax.z.alloc D (.cells #[] 78)).trans x;have aa:=Y4 f;have y:=f.size;have e1:=an.z _ x;have e2:=aC.z _ (x.alloc y (.cells #[] 3));have aJ:=Y4 (aX.z _ (x.alloc y (.cells #[] 3)));clear c x ah f O N))|(at_builtin;go_loud (refine Zo Zvw (S:=fun b=>S b/\b<w.heap.size) rfl _ _ rfl w.heap.size _ [] rfl (ZC.lit0 (C:=Zbk) 3 (fun b=>S b/\b<w.heap.size) F y) (fun b _ q=>.inl q.2) _ t.2 rfl (ZB.src aJ.z) (by simp only [Xd,Xi,Xp,Xv,Xh];unfold maxLen;omega) (by simp only [Xd,Xi,Xp,Xv,Xh];omega) (by simp;omega) ?_;intro v6 w6 aB aK aO;rw [XE] at aB;have aw:=Y4 aB;have ac:=Y4 ((A.z.alloc (.cells #[] 3)).keep aO (fun b _ hS e=>by have e:F.heap.size=b:=XW e;have hS:b<w.heap.size:=hS.2;omega) (fun g hg e=>by have h1:=(A.z.cells hg).2.1;have e:F.heap.size=g:=XW e;omega));have aj:=(aa.z.alloc y (.cells #[] 3)).trans aK;have a0:=Y4 aj;have aU:=aj.size;clear aB aK aO aj A aJ))|(at_builtin;go_loud (refine Zo Zvw (S:=fun b=>S b/\b<w.heap.size) rfl _ _ rfl w.heap.size _ t.2 rfl (aw.z.alloc _) (fun b _ q=>.inl q.2) _ [p] rfl (Zdh (C:=Zbk) (d:=p) 3 (vs:=[.int .i64 p]) rfl) (by simp only [Xd,Xi,Xp,Xv,Xh];unfold maxLen;omega) (by simp only [Xd,Xi,Xp,Xv,Xh];omega) (by simp;omega) ?_;intro v8 w8 au aG aQ;obtain ⟨p8,c8,rfl,_⟩:=au.any.shape;rw [aP.z] at au;try rw [aP.z];have af:=Y4 au;have R:=Y4 ((ac.z.alloc (.cells #[.int .i64 p] 3)).keep aQ (fun b _ hS e=>by have:=(aw.z.cells e).1;omega) (fun g hg e=>Zur aw.z ac.z hg e));have ag:=(a0.z.alloc aU (.cells #[.int .i64 p] 3)).trans aG;have aZ:=Y4 ag;have aR:=ag.size;clear au aG aQ ag ac aw))|(at_builtin;go_loud (refine Zo Zef (S:=fun b=>(S b/\b<w.heap.size)\/(Value.slice p8 (t.2.length+1) c8).ownBlock=some b) rfl _ _ rfl w.heap.size _ (T.take k) rfl ((R.z.weak fun b _ q=>.inl q).alloc _) (fun b _ q=>q.elim (fun h=>.inl h.2) fun h=>ZqR (af.z.alloc _) h) _ [(s,t.2++[p])] rfl (Zdh (C:=Zcq) (d:=(s,t.2++[p])) 78 (vs:=[.string ⟨s.toArray⟩,.slice p8 (t.2.length+1) c8]) (ZpK.2 ⟨.slice p8 (t.2.length+1) c8,rfl,af.z.ron (fun g hg=>.inr hg) (fun b _ q=>.inl q)⟩)) (by simp only [Xd,Xi,Xp,Xv,Xh];unfold maxLen;omega) (by simp only [Xd,Xi,Xp,Xv,Xh];omega) (by simp;omega) ?_;intro v7 X o E H;obtain ⟨p7,c7,rfl,_⟩:=o.any.shape;rw [r.z] at o;try rw [r.z];have ar:=Y4 o;have a:Below w.heap.size w X:=(aZ.z.alloc aR _).trans E;have am:=Y4 a;have Y:=a.size;have ab:=Y4 (M.z X a);have I:=Y4 (show ∀b,b<X.heap.size->((S b/\b<w.heap.size)\/(Value.slice p8 (t.2.length+1) c8).ownBlock=some b)->Apt 78 w.heap.size X b from fun b _ q=>q.elim (fun h=>.inl h.2) fun h=>ZqR ((af.z.alloc _).keep H (fun b _ hS e=>by have:=(R.z.cells e).1;omega) (fun g hg e=>Zur af.z R.z e hg)) h);clear o E H a R))|(at_builtin;go_loud (refine Zo Zef (S:=fun b=>(S b/\b<w.heap.size)\/(Value.slice p8 (t.2.length+1) c8).ownBlock=some b) rfl _ _ rfl w.heap.size _ _ rfl ar.z I.z _ (T.drop (k+1)) rfl (Zds.weak (ZB.src ab.z) fun b _ q=>.inl q) (by simp only [Xd,Xi,Xp,Xv,Xh];unfold maxLen;omega) (by simp only [Xd,Xi,Xp,Xv,Xh];omega) Y ?_;intro v9 w9 l G ae;rw [ao.z] at l;obtain ⟨p9,c9,rfl,_⟩:=l.any.shape;have al:=Y4 l;have ai:=Y4 (am.z.trans G);clear l G ae)))
       go_ret;exact ⟨_,rfl,Zle al.z (fun b h=>(af.z.cells h).1),ai.z⟩
     ·have t2:(t.1 == s)=false:=by rw [X6];exact V
      have i:Zak T s p=T.take k++(s,[p])::T.drop k:=Zep p (by rw [HN.z];exact hk) HA.z fun hj=>by rw [HT.z hj];exact ⟨aM.z,V⟩
      have ao:Y5 (T.take k++[(s,[p])]++T.drop k=Zak T s p):=Y4 (by rw [i];simp);clear V i;have r:Y5 ((T.take k++[(s,[p])]).length=k+1):=Y4 (by rw [Xd,z.z];rfl);have aD:=Y4 (fun W=>Zm8 (fun b=>S b/\b<w.heap.size) W s p);have M:=Y4 (fun W (L:Below w.heap.size w W)=>ZzM (HU.z.below L) hk a1);go_wp2_with (first|(at_builtin;go_loud (refine Zo Zef rfl _ _ rfl w.heap.size _ [] rfl O.z (fun b _ q=>.inl q.2) _ (T.take k) rfl (ZB.src N.z) (by simp only [Xd,Xi,Xp,Xv,Xh];unfold maxLen;omega) (by simp only [Xd,Xi,Xp,Xv,Xh];omega) (by simp;omega) ?_;intro vo F c x ah;rw [XE] at c;obtain ⟨po,co,rfl,_⟩:=c.any.shape;rw [z.z] at c;try rw [z.z];have A:=Y4 c;have f:=(ax.z.alloc D (.cells #[] 78)).trans x;have aa:=Y4 f;have y:=f.size;have e1:=an.z _ x;clear c x ah f O N))|(at_builtin;go_loud (refine Zo Zef (S:=fun b=>(S b/\b<w.heap.size)\/b=F.heap.size) rfl _ _ rfl w.heap.size _ (T.take k) rfl (((A.z.alloc (.cells #[.int .i64 p] 3)).weak fun b _ q=>.inl q).alloc _) (Zpk (S:=S) (B:=w.heap.size) F p _) _ [(s,[p])] rfl (aD.z F) (by simp only [Xd,Xi,Xp,Xv,Xh];unfold maxLen;omega) (by simp only [Xd,Xi,Xp,Xv,Xh];omega) (by simp;omega) ?_;intro v7 X o E H;obtain ⟨p7,c7,rfl,_⟩:=o.any.shape;rw [r.z] at o;try rw [r.z];have ar:=Y4 o;have a:Below w.heap.size w X:=((aa.z.alloc y _).alloc (by simp;omega) _).trans E;have am:=Y4 a;have Y:=a.size;have ab:=Y4 (M.z X a);have ap:ZbK X F.heap.size:=((Zlj F p).alloc _).kep H (fun e=>absurd (A.z.cells e).2.1 (Nat.lt_irrefl _));have I:=Y4 (Zpq (S:=S) (B:=w.heap.size) ap);clear o E H a ap))|(at_builtin;go_loud (refine Zo Zef (S:=fun b=>(S b/\b<w.heap.size)\/b=F.heap.size) rfl _ _ rfl w.heap.size _ _ rfl ar.z I.z _ (T.drop k) rfl (Zds.weak (ZB.src ab.z) fun b _ q=>.inl q) (by simp only [Xd,Xi,Xp,Xv,Xh];unfold maxLen;omega) (by simp only [Xd,Xi,Xp,Xv,Xh];omega) Y ?_;intro v9 w9 l G ae;rw [ao.z] at l;obtain ⟨p9,c9,rfl,_⟩:=l.any.shape;have al:=Y4 l;have ai:=Y4 (am.z.trans G);clear l G ae)))
      go_ret;exact ⟨_,rfl,Zle al.z (fun b h=>by subst h;exact y),ai.z⟩
  ·obtain rfl:k=n:=by omega
   have q1:decide ((k:Int)<(k:Int))=false:=by simp
   have q2:decide (k<k)=false:=by simp
   have aI:T.length<=100000:=by rw [HN.z];exact aA
   have i:Zak T s p=T.take k++(s,[p])::T.drop k:=Zep p (by rw [HN.z];exact Xa _) HA.z fun hj=>absurd hj (by rw [HN.z];omega);have ao:Y5 (T.take k++[(s,[p])]++T.drop k=Zak T s p):=Y4 (by rw [i];simp);have D:=HB.z.size;have ax:=HB;have O:=Y4 (ZC.lit0 (C:=Zcq) 78 (fun b=>S b/\b<w.heap.size) wr D);have N:=Y4 ((HU.z.below (HB.z.alloc D (.cells #[] 78))).take k (Xa _));clear i ak HA;have z:Y5 ((T.take k).length=k):=Y4 (by rw [Xi,HN.z];omega);have r:Y5 ((T.take k++[(s,[p])]).length=k+1):=Y4 (by rw [Xd,z.z];rfl);have aD:=Y4 (fun W=>Zm8 (fun b=>S b/\b<w.heap.size) W s p);refine (Decidable.em (k<cu)).elim (fun aq => ?qc) (fun aq => ?qd)
   case' qc =>
    have M:=Y4 (fun W (L:Below w.heap.size w W)=>Zwv (HU.z.below L) aq)
   case' qd =>
    obtain rfl:k=cu:=by omega
    have M:=Y4 (fun W (L:Below w.heap.size w W)=>ZoX (HU.z.below L))
   all_goals
    go_wp2_with (first|(at_builtin;go_loud (refine Zo Zef rfl _ _ rfl w.heap.size _ [] rfl O.z (fun b _ q=>.inl q.2) _ (T.take k) rfl (ZB.src N.z) (by simp only [Xd,Xi,Xp,Xv,Xh];unfold maxLen;omega) (by simp only [Xd,Xi,Xp,Xv,Xh];omega) (by simp;omega) ?_;intro vo F c x ah;rw [XE] at c;obtain ⟨po,co,rfl,_⟩:=c.any.shape;rw [z.z] at c;try rw [z.z];have A:=Y4 c;have f:=(ax.z.alloc D (.cells #[] 78)).trans x;have aa:=Y4 f;have y:=f.size;skip;clear c x ah f O N))|(at_builtin;go_loud (refine Zo Zef (S:=fun b=>(S b/\b<w.heap.size)\/b=F.heap.size) rfl _ _ rfl w.heap.size _ (T.take k) rfl (((A.z.alloc (.cells #[.int .i64 p] 3)).weak fun b _ q=>.inl q).alloc _) (Zpk (S:=S) (B:=w.heap.size) F p _) _ [(s,[p])] rfl (aD.z F) (by simp only [Xd,Xi,Xp,Xv,Xh];unfold maxLen;omega) (by simp only [Xd,Xi,Xp,Xv,Xh];omega) (by simp;omega) ?_;intro v7 X o E H;obtain ⟨p7,c7,rfl,_⟩:=o.any.shape;rw [r.z] at o;try rw [r.z];have ar:=Y4 o;have a:Below w.heap.size w X:=((aa.z.alloc y _).alloc (by simp;omega) _).trans E;have am:=Y4 a;have Y:=a.size;have ab:=Y4 (M.z X a);have ap:ZbK X F.heap.size:=((Zlj F p).alloc _).kep H (fun e=>absurd (A.z.cells e).2.1 (Nat.lt_irrefl _));have I:=Y4 (Zpq (S:=S) (B:=w.heap.size) ap);clear o E H a ap))|(at_builtin;go_loud (refine Zo Zef (S:=fun b=>(S b/\b<w.heap.size)\/b=F.heap.size) rfl _ _ rfl w.heap.size _ _ rfl ar.z I.z _ (T.drop k) rfl (Zds.weak (ZB.src ab.z) fun b _ q=>.inl q) (by simp only [Xd,Xi,Xp,Xv,Xh];unfold maxLen;omega) (by simp only [Xd,Xi,Xp,Xv,Xh];omega) Y ?_;intro v9 w9 l G ae;rw [ao.z] at l;obtain ⟨p9,c9,rfl,_⟩:=l.any.shape;have al:=Y4 l;have ai:=Y4 (am.z.trans G);clear l G ae)))
    go_ret;exact ⟨_,rfl,Zle al.z (fun b h=>by subst h;exact y),ai.z⟩
