import Derived.Test.YtmomfobdpfajbaaGreatZA4
import Derived.Test.YtmomfobdpfajbaaGreatZA2
import Derived.Test.YtmomfobdpfajbaaGreatZA7
set_option maxRecDepth 100000
set_option maxHeartbeats 0
set_option linter.unusedVariables false
set_option linter.unusedSimpArgs false
namespace Go.Proofs.YtmomfobdpfajbaaGreat
open Tryz
namespace TK
open RowKit MM
variable {s:ByteArray} {l:Xu} {i:Nat} {c:UInt8}
theorem Zh7 (c:UInt8):ZaP (c.toNat:Int)=Zbe c:=by unfold ZaP Zbe;congr 1;simp;omega
theorem Zpc (l:Xu) (c:UInt8) (t:Xu) (a:l=c::t):(c.toNat<128->Lib.decodeL l=(c.toNat,1))/\(128<=c.toNat->ZaP ((Lib.decodeL l).1:Int)=false):=by
 constructor
 ·intro h
  have e:Lib.encodeRune (c.toNat:Int)=[c]:=by
   unfold Lib.encodeRune;rw [Lib.encodeRuneZ_one (by omega) (by omega)];simp
  have:=UM.Zl0 (c.toNat:Int) t;rw [e,Xa8,<- a] at this;rw [this,UM.Zjl _ (by omega)];simp
 ·intro h;rcases UM.Zqq l (by rw [a];simp) with ⟨h1,_⟩|h1
  ·rw [h1];decide
  ·by_cases hr:(Lib.decodeL l).1<128
   ·exfalso;unfold Lib.encodeRune at h1;rw [Lib.encodeRuneZ_one (by omega) (by omega)] at h1;have g:=Lib.decodeL_width l;rw [a] at h1 g;obtain ⟨d,f⟩:∃d,(Lib.decodeL (c::t)).2=d+1:=⟨(Lib.decodeL (c::t)).2 - 1,by omega⟩;rw [f,XaC] at h1;simp only [XC,XN,XaV] at h1;have b:=Xr UInt8.toNat h1.1;rw [<- a] at b;simp at b;omega
   ·unfold ZaP;simp;omega
theorem ZqP (s:ByteArray):∀(f pos:Nat),s.size<=pos+f->(decide (0<=Lib.idxFuncFrom (fun x => !ZaP (x:Int)) true s f pos)) = !((s.data.toList.drop pos).all Zbe)
 | 0,pos,h=>by
   have:s.data.toList.drop pos=[]:=List.drop_eq_nil_of_le (by rw [<- Lib.size_eq];omega);rw [this];simp [Lib.idxFuncFrom]
 | f+1,pos,h=>by
   unfold Lib.idxFuncFrom
   by_cases b:pos<s.size
   ·rw [Xe b];have d:pos<s.data.toList.length:=by rw [<- Lib.size_eq];exact b
    have a:s.data.toList.drop pos=s.data.toList[pos]::s.data.toList.drop (pos+1):=X7 d;have e:Utf8.decode s pos=Lib.decodeL (s.data.toList.drop pos):=(Lib.decodeL_drop _ _).symm;obtain ⟨m,j⟩:=Zpc _ _ _ a;rw [e]
    by_cases k:(s.data.toList[pos]).toNat<128
    ·rw [m k,a];simp only [Zh7,List.all_cons];cases g:Zbe s.data.toList[pos] with
     | true =>
       simp only [Bool.not_true,Xac];exact ZqP s f (pos+1) (by omega)
     | false=>simp
    ·rw [a,List.all_cons];rw [a] at j;have g:Zbe s.data.toList[pos]=false:=by unfold Zbe;rw [Xj];omega
     simp only [j (by omega),Bool.not_false,if_true,g,Xab];simp
   ·rw [Xc b];have:s.data.toList.drop pos=[]:=List.drop_eq_nil_of_le (by rw [<- Lib.size_eq];omega);rw [this];simp
theorem ZA0 (s:ByteArray):decide (0<=Lib.idxFunc (fun x => !ZaP (x:Int)) true s) = !(s.data.toList.all Zbe):=by
 have:=ZqP s s.size 0 (by omega);rw [Xap] at this;exact this
theorem Zka (c:Nat) (w:World) (hc:c<=1114111):Calls prog 223 #[.int .i32 (c:Int)] w fun e w'=>e=.returned (.bool (!ZaP (c:Int)))/\Below w.heap.size w w':=by
 rcases (by omega:c<48\/(48<=c/\c<=57)\/(58<=c/\c<=94)\/c=95\/c=96\/(97<=c/\c<=122)\/122<c) with h|h|h|h|h|h|h
 all_goals (
  first|(have f:decide ((c:Int)<97)=true:=by (rw [Xg];omega))|(have f:decide ((c:Int)<97)=false:=by (rw [Xj];omega))
  first|(have g:decide ((c:Int)>122)=true:=by (rw [Xg];omega))|(have g:decide ((c:Int)>122)=false:=by (rw [Xj];omega))
  first|(have a3:decide ((c:Int)<48)=true:=by (rw [Xg];omega))|(have a3:decide ((c:Int)<48)=false:=by (rw [Xj];omega))
  first|(have a4:decide ((c:Int)>57)=true:=by (rw [Xg];omega))|(have a4:decide ((c:Int)>57)=false:=by (rw [Xj];omega))
  first|(have a5:((c:Int) == 95)=true:=by (rw [Xaj];omega))|(have a5:((c:Int) == 95)=false:=by (rw [X6];omega))
  have d:((c:Int) != 95) = !((c:Int) == 95):=rfl;rw [a5] at d;simp only [Bool.not_true,Bool.not_false] at d;first|(have a:ZaP (c:Int)=true:=by (unfold ZaP;rw [Xg];omega))|(have a:ZaP (c:Int)=false:=by (unfold ZaP;rw [Xj];omega))
  have b:=Y4 a;clear h a;go_enter func223,ntmps223;go_wp2_with fail;go_ret;rw [b.z];exact ⟨rfl,Below.refl _ _⟩)
theorem ZyP (w:World):PredGrows prog 223 #[] (fun x => !ZaP (x:Int)) w:=by
 intro W x a _;exact Zka x W a
theorem Zsn (s:ByteArray) (w:World):Calls prog 222 #[.string s,.func (.func 223) #[] #[]] w fun e w'=>e=.returned (.bool (!(s.data.toList.all Zbe)))/\Below w.heap.size w w':=by
 have:=Tryz.strings_ContainsFunc_grows 223 #[] (fun args w=>by kernel_rfl) (fun x => !ZaP (x:Int)) s w (ZyP w);rw [ZA0] at this;exact this
def ZfB (b:Bool) (w:World) (e:Ending) (w':World):Prop:=e=.returned (.bool b)/\Below w.heap.size w w'
theorem Zmu (s:ByteArray) (w:World):Calls prog 181 #[.string s] w (ZfB (Zbt s.data.toList) w):=by
 have d:=Lib.size_eq s
 by_cases h:s.size=0
 ·have a:Zbt s.data.toList=false:=by unfold Zbt;rw [<- d];simp;omega
  rw [a];have o:decide ((s.size:Int)>=1)=false:=Xf;clear d h a;go_enter func181,ntmps181;go_wp2_with fail;go_ret;exact ⟨rfl,Below.refl _ _⟩
 ·have o:decide ((s.size:Int)>=1)=true:=Xt
  by_cases k:s.size<=32
  ·have a:Zbt s.data.toList=s.data.toList.all Zbe:=by
    unfold Zbt;rw [<- d,Xs (by omega),Xac]
   rw [a];have n:decide ((s.size:Int)<=32)=true:=Xt;have g:=Zsn s;obtain ⟨b,j⟩:=Xn (s.data.toList.all Zbe);rw [j];simp only [j] at g;have m:=Y4 g;clear d h k a j g;go_enter func181,ntmps181;go_wp2_with fail;refine (m.z _).mono ?_;rintro e w2 ⟨rfl,f⟩;have p:=Y4 f;clear f m;go_wp2_with fail;go_ret;exact ⟨rfl,p.z⟩
  ·have a:Zbt s.data.toList=false:=by unfold Zbt;rw [<- d];simp;omega
   rw [a];have n:decide ((s.size:Int)<=32)=false:=Xf;clear d h k a;go_enter func181,ntmps181;go_wp2_with fail;go_ret;exact ⟨rfl,Below.refl _ _⟩
theorem ZhW (a:s.data.toList=l) (hi:l[i]? = some c) (W:World):(Instr.index 9 (.string s) (.int .i64 (i:Int))).run prog W=.ok (.int .u8 (c.toNat:Int)) W:=by
 obtain ⟨d,b⟩:=Xak.1 hi;have f:s.size=l.length:=by rw [Lib.size_eq,a]
 rw [run_index_string W 9 s .i64 i underlying9,dif_pos ⟨by omega,by omega⟩];subst a
 have e:(s[(i:Int).toNat]'(by omega))=c:=by
  rw [<- b];simp only [XY];rfl
 rw [e]
theorem Zhs (a:s.data.toList=l):s.size=l.length:=by rw [Lib.size_eq,a]
theorem ZxC (hi:l[i]? = some c):(l.drop i).all Zbe=(ZaP (c.toNat:Int)&&(l.drop (i+1)).all Zbe):=by
 obtain ⟨a,b⟩:=Xak.1 hi;rw [X7 a,List.all_cons,b,Zh7]
theorem ZkY (s:ByteArray) (w:World) (hs:s.size<=1000000000000):Calls prog 118 #[.string s] w (ZfB (Zbt s.data.toList) w):=by
 obtain ⟨l,n⟩:=Xn s.data.toList;rw [n];have a:=Zhs n;have G:l.length<=1000000000000:=by omega
 by_cases D:l.length<1
 ·have e:Zbt l=false:=by unfold Zbt;rw [Xz (by omega)];rfl
  rw [e];have I:decide ((s.size:Int)<1)=true:=Xt;have L:decide (s.size<1)=true:=Xt;clear n a e;go_enter func118,ntmps118;go_wp2_with fail;go_ret;exact ⟨rfl,Below.refl _ _⟩
 ·have I:decide ((s.size:Int)<1)=false:=Xf;have L:decide (s.size<1)=false:=Xf
  by_cases J:32<l.length
  ·have e:Zbt l=false:=by unfold Zbt;rw [Xz (show ¬(1<=l.length/\l.length<=32) by omega)];simp
   rw [e];have t3:decide ((s.size:Int)>32)=true:=Xt;have t4:decide (32<s.size)=true:=Xt;clear n a e;go_enter func118,ntmps118;go_wp2_with fail;go_ret;exact ⟨rfl,Below.refl _ _⟩
  ·have t3:decide ((s.size:Int)>32)=false:=Xf;have t4:decide (32<s.size)=false:=Xf;obtain ⟨o,d⟩:=Xn (Zbt l)
   have g:(l.drop 0).all Zbe=o:=by
    rw [<- d];unfold Zbt;rw [Xs (show 1<=l.length/\l.length<=32 by omega)];rfl
   rw [d];have y:=Y4 g;have HL:=Y4 n;have t:=Y4 a;clear d g n a D J;go_enter func118,ntmps118;go_wp2_with fail
   go_loopw [3] (fun q wr=>∃i:Nat,i<=l.length/\q=.int .i64 i/\Y5 ((l.drop i).all Zbe=o)/\Y5 (Below w.heap.size w wr)) (fun q _=>l.length - (intOf q).toNat)
   case atStart=>exact ⟨0,by omega,rfl,y,Y4 (Below.refl _ _)⟩
   case round =>
    obtain ⟨i,hi,rfl,p,r⟩:=hrel;clear y;have a:=t.z
    by_cases f:i<l.length
    ·have E:decide ((i:Int)<(s.size:Int))=true:=Xt;have B:decide (i<s.size)=true:=Xt;obtain ⟨x,k⟩:∃c,l[i]? = some c:=⟨l[i],XZ f⟩;have F:=ZhW HL.z k;have b:=p.z;rw [ZxC k] at b;have A:=x.toNat_lt;generalize x.toNat=c at *;have H:=Y4 b;have v:=Y4 f;clear b k p a f;rcases (by omega:c<48\/(48<=c/\c<=57)\/(58<=c/\c<=94)\/c=95\/c=96\/(97<=c/\c<=122)\/122<c) with h|h|h|h|h|h|h
     all_goals (
      first|(have z:decide ((c:Int)>=97)=true:=by (rw [Xg];omega))|(have z:decide ((c:Int)>=97)=false:=by (rw [Xj];omega))
      first|(have C:decide ((c:Int)<=122)=true:=by (rw [Xg];omega))|(have C:decide ((c:Int)<=122)=false:=by (rw [Xj];omega))
      first|(have a3:decide ((c:Int)>=48)=true:=by (rw [Xg];omega))|(have a3:decide ((c:Int)>=48)=false:=by (rw [Xj];omega))
      first|(have a4:decide ((c:Int)<=57)=true:=by (rw [Xg];omega))|(have a4:decide ((c:Int)<=57)=false:=by (rw [Xj];omega))
      first|(have a5:((c:Int) == 95)=true:=by (rw [Xaj];omega))|(have a5:((c:Int) == 95)=false:=by (rw [X6];omega))
      first|(have j:ZaP (c:Int)=true:=by (unfold ZaP;rw [Xg];omega))|(have j:ZaP (c:Int)=false:=by (unfold ZaP;rw [Xj];omega))
      have u:=Y4 j;clear h j;go_wp2_with fail;have m:=H.z;rw [u.z] at m;simp only [Bool.and_true,Xa5,Xac,Xab,Bool.or_true,Bool.or_false,Bool.true_or,Bool.false_or] at m;have f:=v.z
      first
       | (go_roundw
          case rel=>exact ⟨i+1,by omega,by go_num,Y4 m,r⟩
          case measure=>simp [intOf];omega)
       | (subst m
          go_ret;exact ⟨rfl,r.z⟩))
    ·obtain rfl:i=l.length:=by omega
     have E:decide ((l.length:Int)<(s.size:Int))=false:=Xf;have B:decide (l.length<s.size)=false:=Xf;have m:=p.z;rw [Xaf] at m;subst m;clear p a;go_wp2_with fail;go_ret;exact ⟨rfl,r.z⟩
end TK
namespace EV
open RowKit MM EM
open TK (Zhs ZhW)
theorem ZsN {a b:Xu} {i:Nat} {x y:UInt8} (e:a[i]? = some x) (c:b[i]? = some y):Zg (a.drop i) (b.drop i)=if x.toNat=y.toNat then Zg (a.drop (i+1)) (b.drop (i+1)) else decide (x.toNat<y.toNat):=by
 obtain ⟨f,d⟩:=Xak.1 e;obtain ⟨j,g⟩:=Xak.1 c;rw [ZsO f j,d,g]
 by_cases h:x=y
 ·subst h;rw [Xe rfl,Xe rfl]
 ·rw [Xc h,Xc (fun q=>h (XaT.1 q))];try exact decide_eq_decide.2 UInt8.lt_iff_toNat_lt
theorem ZgX {w wr:World} (h:∃m,wr=w.drewN m) (n:Nat):∃m,wr.drewN n=w.drewN m:=by
 obtain ⟨m,rfl⟩:=h;exact ⟨m+n,World.drewN_drewN _ _ _⟩
theorem Zv8 (a b:Xu) (w:World) (ha:a.length<=1000000000000) (hb:b.length<=1000000000000):Calls prog 122 #[.string ⟨a.toArray⟩,.string ⟨b.toArray⟩] w fun e w'=>e=.returned (.bool (Zg a b))/\∃m,w'=w.drewN m:=by
 obtain ⟨s,hs⟩:∃s:ByteArray,(⟨a.toArray⟩:ByteArray)=s:=⟨_,rfl⟩;obtain ⟨t,z⟩:∃s:ByteArray,(⟨b.toArray⟩:ByteArray)=s:=⟨_,rfl⟩;have o:s.data.toList=a:=by rw [<- hs]
 have n:t.data.toList=b:=by rw [<- z]
 rw [hs,z];obtain ⟨g,j⟩:=Xn (Zg a b);rw [j];have G:Y5 (Zg (a.drop 0) (b.drop 0)=g):=Y4 j;have N:=Y4 o;have HT:=Y4 n;have E:=Y4 (Zhs o);have A:=Y4 (Zhs n);clear hs z o n j;go_enter func122,ntmps122;go_wp2_with fail
 go_loopw [5] (fun v wr=>∃i:Nat,i<=a.length/\i<=b.length/\v=.int .i64 i/\Y5 (Zg (a.drop i) (b.drop i)=g)/\Y5 (∃m,wr=w.drewN m)) (fun v _=>a.length - (intOf v).toNat)
 case atStart=>exact ⟨0,by omega,by omega,rfl,G,Y4 ⟨0,rfl⟩⟩
 case round =>
  obtain ⟨i,U,J,rfl,p,q⟩:=hrel;clear G;have r:=E.z;have u:=A.z
  by_cases d:i<a.length/\i<b.length
  ·have I:decide ((i:Int)<(s.size:Int))=true:=Xt;have F:decide (i<s.size)=true:=Xt;have V:decide ((i:Int)<(t.size:Int))=true:=Xt;have R:decide (i<t.size)=true:=Xt;obtain ⟨Z,k⟩:∃c,a[i]? = some c:=⟨a[i],XZ d.1⟩;obtain ⟨y8,l⟩:∃c,b[i]? = some c:=⟨b[i],XZ d.2⟩;have S:=ZhW N.z k;have L:=ZhW HT.z l;have f:=p.z;rw [ZsN k l] at f;generalize Z.toNat=x at *;generalize y8.toNat=y at *;have D:=Y4 d
   by_cases h:x=y
   ·rw [Xe h] at f;have Y:((x:Int) != (y:Int))=false:=by simp [h]
    have T:=Y4 f;clear f h k l p r u d;go_wp2_with fail;go_quiet (fail)
    go_wp2_with fail;have O:=D.z;go_roundw
    case rel=>exact ⟨i+1,by omega,by omega,by go_num,T,Y4 (ZgX q.z _)⟩
    case measure=>simp [intOf];omega
   ·rw [Xc h] at f;have Y:((x:Int) != (y:Int))=true:=by rw [Xah];omega
    have X:decide ((x:Int)<(y:Int))=g:=by rw [<- f];exact decide_eq_decide.2 (by omega)
    have M:decide (x<y)=g:=f;clear f h k l p r u d;go_wp2_with fail;go_quiet (fail)
    go_wp2_with fail;obtain ⟨W,B⟩:=Xn (wr.drewN nq);have C:=Y4 (show ∃m,W=w.drewN m by rw [<- B];exact ZgX q.z nq);rw [B];clear B;go_quiet (fail)
    go_wp2_with fail;go_ret;exact ⟨rfl,ZgX C.z _⟩
  ·have f:=p.z;rw [ZvA (by omega) (by omega) (by omega)] at f;have X:decide ((s.size:Int)<(t.size:Int))=g:=by rw [<- f];exact decide_eq_decide.2 (by omega)
   have M:decide (s.size<t.size)=g:=by rw [<- f];exact decide_eq_decide.2 (by omega)
   by_cases H:i<a.length
   ·have I:decide ((i:Int)<(s.size:Int))=true:=Xt;have F:decide (i<s.size)=true:=Xt;have V:decide ((i:Int)<(t.size:Int))=false:=Xf;have R:decide (i<t.size)=false:=Xf;clear f p r u d H;go_wp2_with fail;go_ret;exact ⟨rfl,q.z⟩
   ·have I:decide ((i:Int)<(s.size:Int))=false:=Xf;have F:decide (i<s.size)=false:=Xf;clear f p r u d H;go_wp2_with fail;go_ret;exact ⟨rfl,q.z⟩
