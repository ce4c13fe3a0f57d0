import Derived.Test.YtdijhifdjbnkfaaGreatZT4
import Derived.Test.YtdijhifdjbnkfaaGreatZT2
import Derived.Test.YtdijhifdjbnkfaaGreatZT7
set_option maxRecDepth 100000
set_option maxHeartbeats 0
set_option linter.unusedVariables false
set_option linter.unusedSimpArgs false
namespace Go.Proofs.YtdijhifdjbnkfaaGreat
open Lib (hid)
open Tryz
namespace TK
open RowKit MM
variable {s:ByteArray} {l:Xu} {i:Nat} {c:UInt8}
theorem Zh4 (c:UInt8):ZaS (c.toNat:Int)=Zbb c:=by unfold ZaS Zbb;congr 1;simp;omega
theorem Zo1 (l:Xu) (c:UInt8) (t:Xu) (a:l=c::t):(c.toNat<128->Lib.decodeL l=(c.toNat,1))/\(128<=c.toNat->ZaS ((Lib.decodeL l).1:Int)=false):=by
 constructor
 ·intro h
  have e:Lib.encodeRune (c.toNat:Int)=[c]:=by
   unfold Lib.encodeRune;rw [Lib.encodeRuneZ_one (by omega) (by omega)];simp
  have:=UM.Zl2 (c.toNat:Int) t;rw [e,Xa8,<- a] at this;rw [this,UM.Zjf _ (by omega)];simp
 ·intro h;rcases UM.Zp6 l (by rw [a];simp) with ⟨h1,_⟩|h1
  ·rw [h1];decide
  ·by_cases hr:(Lib.decodeL l).1<128
   ·exfalso;unfold Lib.encodeRune at h1;rw [Lib.encodeRuneZ_one (by omega) (by omega)] at h1;have g:=Lib.decodeL_width l;rw [a] at h1 g;obtain ⟨d,f⟩:∃d,(Lib.decodeL (c::t)).2=d+1:=⟨(Lib.decodeL (c::t)).2 - 1,by omega⟩;rw [f,Xaz] at h1;simp only [XF,XV,Xa6] at h1;have b:=Xp UInt8.toNat h1.1;rw [<- a] at b;simp at b;omega
   ·unfold ZaS;simp;omega
theorem Zqu (s:ByteArray):∀(f pos:Nat),s.size<=pos+f->(decide (0<=Lib.idxFuncFrom (fun x => !ZaS (x:Int)) true s f pos)) = !((s.data.toList.drop pos).all Zbb)
 | 0,pos,h=>by
   have:s.data.toList.drop pos=[]:=List.drop_eq_nil_of_le (by rw [<- Lib.size_eq];omega);rw [this];simp [Lib.idxFuncFrom]
 | f+1,pos,h=>by
   unfold Lib.idxFuncFrom
   by_cases d:pos<s.size
   ·rw [Xe d];have e:pos<s.data.toList.length:=by rw [<- Lib.size_eq];exact d
    have a:s.data.toList.drop pos=s.data.toList[pos]::s.data.toList.drop (pos+1):=X9 e;have b:Utf8.decode s pos=Lib.decodeL (s.data.toList.drop pos):=(Lib.decodeL_drop _ _).symm;obtain ⟨m,g⟩:=Zo1 _ _ _ a;rw [b]
    by_cases k:(s.data.toList[pos]).toNat<128
    ·rw [m k,a];simp only [Zh4,List.all_cons];cases j:Zbb s.data.toList[pos] with
     | true =>
       simp only [Bool.not_true,Xag];exact Zqu s f (pos+1) (by omega)
     | false=>simp
    ·rw [a,List.all_cons];rw [a] at g;have j:Zbb s.data.toList[pos]=false:=by unfold Zbb;rw [Xk];omega
     simp only [g (by omega),Bool.not_false,if_true,j,Xad];simp
   ·rw [Xa d];have:s.data.toList.drop pos=[]:=List.drop_eq_nil_of_le (by rw [<- Lib.size_eq];omega);rw [this];simp
theorem ZAD (s:ByteArray):decide (0<=Lib.idxFunc (fun x => !ZaS (x:Int)) true s) = !(s.data.toList.all Zbb):=by
 have:=Zqu s s.size 0 (by omega);rw [Xap] at this;exact this
theorem Zj4 (c:Nat) (w:World) (hc:c<=1114111):Calls prog 223 #[.int .i32 (c:Int)] w fun e w'=>e=.returned (.bool (!ZaS (c:Int)))/\Below w.heap.size w w':=by
 rcases (by omega:c<48\/(48<=c/\c<=57)\/(58<=c/\c<=94)\/c=95\/c=96\/(97<=c/\c<=122)\/122<c) with h|h|h|h|h|h|h
 all_goals (
  first|(have f:decide ((c:Int)<97)=true:=by (rw [Xg];omega))|(have f:decide ((c:Int)<97)=false:=by (rw [Xk];omega))
  first|(have g:decide ((c:Int)>122)=true:=by (rw [Xg];omega))|(have g:decide ((c:Int)>122)=false:=by (rw [Xk];omega))
  first|(have a3:decide ((c:Int)<48)=true:=by (rw [Xg];omega))|(have a3:decide ((c:Int)<48)=false:=by (rw [Xk];omega))
  first|(have a4:decide ((c:Int)>57)=true:=by (rw [Xg];omega))|(have a4:decide ((c:Int)>57)=false:=by (rw [Xk];omega))
  first|(have a5:((c:Int) == 95)=true:=by (rw [Xan];omega))|(have a5:((c:Int) == 95)=false:=by (rw [Xab];omega))
  have d:((c:Int) != 95) = !((c:Int) == 95):=rfl;rw [a5] at d;simp only [Bool.not_true,Bool.not_false] at d;first|(have a:ZaS (c:Int)=true:=by (unfold ZaS;rw [Xg];omega))|(have a:ZaS (c:Int)=false:=by (unfold ZaS;rw [Xk];omega))
  have b:=hid a;clear h a;go_enter func223,ntmps223;go_wp2_with fail;go_ret;rw [b.out];exact ⟨rfl,Below.refl _ _⟩)
theorem Zym (w:World):PredGrows prog 223 #[] (fun x => !ZaS (x:Int)) w:=by
 intro W x a _;exact Zj4 x W a
theorem ZrT (s:ByteArray) (w:World):Calls prog 222 #[.string s,.func (.func 223) #[] #[]] w fun e w'=>e=.returned (.bool (!(s.data.toList.all Zbb)))/\Below w.heap.size w w':=by
 have:=Tryz.strings_ContainsFunc_grows 223 #[] (fun args w=>by kernel_rfl) (fun x => !ZaS (x:Int)) s w (Zym w);rw [ZAD] at this;exact this
def ZfG (b:Bool) (w:World) (e:Ending) (w':World):Prop:=e=.returned (.bool b)/\Below w.heap.size w w'
theorem Zmv (s:ByteArray) (w:World):Calls prog 181 #[.string s] w (ZfG (Zbr s.data.toList) w):=by
 have d:=Lib.size_eq s
 by_cases h:s.size=0
 ·have a:Zbr s.data.toList=false:=by unfold Zbr;rw [<- d];simp;omega
  rw [a];have n:decide ((s.size:Int)>=1)=false:=Xf;clear d h a;go_enter func181,ntmps181;go_wp2_with fail;go_ret;exact ⟨rfl,Below.refl _ _⟩
 ·have n:decide ((s.size:Int)>=1)=true:=Xt
  by_cases m:s.size<=32
  ·have a:Zbr s.data.toList=s.data.toList.all Zbb:=by
    unfold Zbr;rw [<- d,Xw (by omega),Xag]
   rw [a];have o:decide ((s.size:Int)<=32)=true:=Xt;have g:=ZrT s;obtain ⟨b,j⟩:=Xn (s.data.toList.all Zbb);rw [j];simp only [j] at g;have k:=hid g;clear d h m a j g;go_enter func181,ntmps181;go_wp2_with fail;refine (k.out _).mono ?_;rintro e w2 ⟨rfl,f⟩;have p:=hid f;clear f k;go_wp2_with fail;go_ret;exact ⟨rfl,p.out⟩
  ·have a:Zbr s.data.toList=false:=by unfold Zbr;rw [<- d];simp;omega
   rw [a];have o:decide ((s.size:Int)<=32)=false:=Xf;clear d h m a;go_enter func181,ntmps181;go_wp2_with fail;go_ret;exact ⟨rfl,Below.refl _ _⟩
theorem ZhX (a:s.data.toList=l) (hi:l[i]? = some c) (W:World):(Instr.index 9 (.string s) (.int .i64 (i:Int))).run prog W=.ok (.int .u8 (c.toNat:Int)) W:=by
 obtain ⟨d,b⟩:=Xal.1 hi;have f:s.size=l.length:=by rw [Lib.size_eq,a]
 rw [run_index_string W 9 s .i64 i underlying9,dif_pos ⟨by omega,by omega⟩];subst a
 have e:(s[(i:Int).toNat]'(by omega))=c:=by
  rw [<- b];simp only [XT];rfl
 rw [e]
theorem Zhs (a:s.data.toList=l):s.size=l.length:=by rw [Lib.size_eq,a]
theorem Zw8 (hi:l[i]? = some c):(l.drop i).all Zbb=(ZaS (c.toNat:Int)&&(l.drop (i+1)).all Zbb):=by
 obtain ⟨a,b⟩:=Xal.1 hi;rw [X9 a,List.all_cons,b,Zh4]
theorem ZkR (s:ByteArray) (w:World) (hs:s.size<=1000000000000):Calls prog 118 #[.string s] w (ZfG (Zbr s.data.toList) w):=by
 obtain ⟨l,n⟩:=Xn s.data.toList;rw [n];have b:=Zhs n;have J:l.length<=1000000000000:=by omega
 by_cases L:l.length<1
 ·have e:Zbr l=false:=by unfold Zbr;rw [XB (by omega)];rfl
  rw [e];have A:decide ((s.size:Int)<1)=true:=Xt;have B:decide (s.size<1)=true:=Xt;clear n b e;go_enter func118,ntmps118;go_wp2_with fail;go_ret;exact ⟨rfl,Below.refl _ _⟩
 ·have A:decide ((s.size:Int)<1)=false:=Xf;have B:decide (s.size<1)=false:=Xf
  by_cases D:32<l.length
  ·have e:Zbr l=false:=by unfold Zbr;rw [XB (show ¬(1<=l.length/\l.length<=32) by omega)];simp
   rw [e];have t3:decide ((s.size:Int)>32)=true:=Xt;have t4:decide (32<s.size)=true:=Xt;clear n b e;go_enter func118,ntmps118;go_wp2_with fail;go_ret;exact ⟨rfl,Below.refl _ _⟩
  ·have t3:decide ((s.size:Int)>32)=false:=Xf;have t4:decide (32<s.size)=false:=Xf;obtain ⟨o,d⟩:=Xn (Zbr l)
   have g:(l.drop 0).all Zbb=o:=by
    rw [<- d];unfold Zbr;rw [Xw (show 1<=l.length/\l.length<=32 by omega)];rfl
   rw [d];have y:=hid g;have HL:=hid n;have u:=hid b;clear d g n b L D;go_enter func118,ntmps118;go_wp2_with fail
   go_loopw [3] (fun q wr=>∃i:Nat,i<=l.length/\q=.int .i64 i/\Hid ((l.drop i).all Zbb=o)/\Hid (Below w.heap.size w wr)) (fun q _=>l.length - (intOf q).toNat)
   case atStart=>exact ⟨0,by omega,rfl,y,hid (Below.refl _ _)⟩
   case round =>
    obtain ⟨i,hi,rfl,p,v⟩:=hrel;clear y;have b:=u.out
    by_cases f:i<l.length
    ·have F:decide ((i:Int)<(s.size:Int))=true:=Xt;have H:decide (i<s.size)=true:=Xt;obtain ⟨x,k⟩:∃c,l[i]? = some c:=⟨l[i],XW f⟩;have C:=ZhX HL.out k;have a:=p.out;rw [Zw8 k] at a;have z:=x.toNat_lt;generalize x.toNat=c at *;have E:=hid a;have t:=hid f;clear a k p b f;rcases (by omega:c<48\/(48<=c/\c<=57)\/(58<=c/\c<=94)\/c=95\/c=96\/(97<=c/\c<=122)\/122<c) with h|h|h|h|h|h|h
     all_goals (
      first|(have G:decide ((c:Int)>=97)=true:=by (rw [Xg];omega))|(have G:decide ((c:Int)>=97)=false:=by (rw [Xk];omega))
      first|(have I:decide ((c:Int)<=122)=true:=by (rw [Xg];omega))|(have I:decide ((c:Int)<=122)=false:=by (rw [Xk];omega))
      first|(have a3:decide ((c:Int)>=48)=true:=by (rw [Xg];omega))|(have a3:decide ((c:Int)>=48)=false:=by (rw [Xk];omega))
      first|(have a4:decide ((c:Int)<=57)=true:=by (rw [Xg];omega))|(have a4:decide ((c:Int)<=57)=false:=by (rw [Xk];omega))
      first|(have a5:((c:Int) == 95)=true:=by (rw [Xan];omega))|(have a5:((c:Int) == 95)=false:=by (rw [Xab];omega))
      first|(have m:ZaS (c:Int)=true:=by (unfold ZaS;rw [Xg];omega))|(have m:ZaS (c:Int)=false:=by (unfold ZaS;rw [Xk];omega))
      have r:=hid m;clear h m;go_wp2_with fail;have j:=E.out;rw [r.out] at j;simp only [Bool.and_true,Xa4,Xag,Xad,Bool.or_true,Bool.or_false,Bool.true_or,Bool.false_or] at j;have f:=t.out
      first
       | (go_roundw
          case rel=>exact ⟨i+1,by omega,by go_num,hid j,v⟩
          case measure=>simp [intOf];omega)
       | (subst j
          go_ret;exact ⟨rfl,v.out⟩))
    ·obtain rfl:i=l.length:=by omega
     have F:decide ((l.length:Int)<(s.size:Int))=false:=Xf;have H:decide (l.length<s.size)=false:=Xf;have j:=p.out;rw [Xae] at j;subst j;clear p b;go_wp2_with fail;go_ret;exact ⟨rfl,v.out⟩
end TK
namespace EV
open RowKit MM EM
open TK (Zhs ZhX)
theorem Zsj {a b:Xu} {i:Nat} {x y:UInt8} (g:a[i]? = some x) (e:b[i]? = some y):Zj (a.drop i) (b.drop i)=if x.toNat=y.toNat then Zj (a.drop (i+1)) (b.drop (i+1)) else decide (x.toNat<y.toNat):=by
 obtain ⟨j,c⟩:=Xal.1 g;obtain ⟨d,f⟩:=Xal.1 e;rw [Zsk j d,c,f]
 by_cases h:x=y
 ·subst h;rw [Xe rfl,Xe rfl]
 ·rw [Xa h,Xa (fun q=>h (XaT.1 q))];try exact decide_eq_decide.2 UInt8.lt_iff_toNat_lt
theorem ZgZ {w wr:World} (h:∃m,wr=w.drewN m) (n:Nat):∃m,wr.drewN n=w.drewN m:=by
 obtain ⟨m,rfl⟩:=h;exact ⟨m+n,World.drewN_drewN _ _ _⟩
theorem ZvB (a b:Xu) (w:World) (ha:a.length<=1000000000000) (hb:b.length<=1000000000000):Calls prog 122 #[.string ⟨a.toArray⟩,.string ⟨b.toArray⟩] w fun e w'=>e=.returned (.bool (Zj a b))/\∃m,w'=w.drewN m:=by
 obtain ⟨s,hs⟩:∃s:ByteArray,(⟨a.toArray⟩:ByteArray)=s:=⟨_,rfl⟩;obtain ⟨t,C⟩:∃s:ByteArray,(⟨b.toArray⟩:ByteArray)=s:=⟨_,rfl⟩;have n:s.data.toList=a:=by rw [<- hs]
 have o:t.data.toList=b:=by rw [<- C]
 rw [hs,C];obtain ⟨g,j⟩:=Xn (Zj a b);rw [j];have F:Hid (Zj (a.drop 0) (b.drop 0)=g):=hid j;have J:=hid n;have HT:=hid o;have B:=hid (Zhs n);have D:=hid (Zhs o);clear hs C n o j;go_enter func122,ntmps122;go_wp2_with fail
 go_loopw [5] (fun v wr=>∃i:Nat,i<=a.length/\i<=b.length/\v=.int .i64 i/\Hid (Zj (a.drop i) (b.drop i)=g)/\Hid (∃m,wr=w.drewN m)) (fun v _=>a.length - (intOf v).toNat)
 case atStart=>exact ⟨0,by omega,by omega,rfl,F,hid ⟨0,rfl⟩⟩
 case round =>
  obtain ⟨i,V,aa,rfl,p,q⟩:=hrel;clear F;have r:=B.out;have u:=D.out
  by_cases d:i<a.length/\i<b.length
  ·have H:decide ((i:Int)<(s.size:Int))=true:=Xt;have I:decide (i<s.size)=true:=Xt;have U:decide ((i:Int)<(t.size:Int))=true:=Xt;have S:decide (i<t.size)=true:=Xt;obtain ⟨L,l⟩:∃c,a[i]? = some c:=⟨a[i],XW d.1⟩;obtain ⟨T,k⟩:∃c,b[i]? = some c:=⟨b[i],XW d.2⟩;have M:=ZhX J.out l;have N:=ZhX HT.out k;have f:=p.out;rw [Zsj l k] at f;generalize L.toNat=x at *;generalize T.toNat=y at *;have A:=hid d
   by_cases h:x=y
   ·rw [Xe h] at f;have Y:((x:Int) != (y:Int))=false:=by simp [h]
    have R:=hid f;clear f h l k p r u d;go_wp2_with fail;go_quiet (fail)
    go_wp2_with fail;have X:=A.out;go_roundw
    case rel=>exact ⟨i+1,by omega,by omega,by go_num,R,hid (ZgZ q.out _)⟩
    case measure=>simp [intOf];omega
   ·rw [Xa h] at f;have Y:((x:Int) != (y:Int))=true:=by rw [Xaa];omega
    have Z:decide ((x:Int)<(y:Int))=g:=by rw [<- f];exact decide_eq_decide.2 (by omega)
    have O:decide (x<y)=g:=f;clear f h l k p r u d;go_wp2_with fail;go_quiet (fail)
    go_wp2_with fail;obtain ⟨W,E⟩:=Xn (wr.drewN nq);have z:=hid (show ∃m,W=w.drewN m by rw [<- E];exact ZgZ q.out nq);rw [E];clear E;go_quiet (fail)
    go_wp2_with fail;go_ret;exact ⟨rfl,ZgZ z.out _⟩
  ·have f:=p.out;rw [Zu0 (by omega) (by omega) (by omega)] at f;have Z:decide ((s.size:Int)<(t.size:Int))=g:=by rw [<- f];exact decide_eq_decide.2 (by omega)
   have O:decide (s.size<t.size)=g:=by rw [<- f];exact decide_eq_decide.2 (by omega)
   by_cases G:i<a.length
   ·have H:decide ((i:Int)<(s.size:Int))=true:=Xt;have I:decide (i<s.size)=true:=Xt;have U:decide ((i:Int)<(t.size:Int))=false:=Xf;have S:decide (i<t.size)=false:=Xf;clear f p r u d G;go_wp2_with fail;go_ret;exact ⟨rfl,q.out⟩
   ·have H:decide ((i:Int)<(s.size:Int))=false:=Xf;have I:decide (i<s.size)=false:=Xf;clear f p r u d G;go_wp2_with fail;go_ret;exact ⟨rfl,q.out⟩
