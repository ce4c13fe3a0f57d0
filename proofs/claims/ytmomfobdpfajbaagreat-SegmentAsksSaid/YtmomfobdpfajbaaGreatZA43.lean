import Derived.Test.YtmomfobdpfajbaaGreatZA10
import Derived.Test.YtmomfobdpfajbaaGreatZA3
set_option maxRecDepth 100000
set_option maxHeartbeats 0
set_option linter.unusedVariables false
set_option linter.unusedSimpArgs false
namespace Go.Proofs.YtmomfobdpfajbaaGreat
open Tryz
namespace VG
open RowKit MM VM
def ZC0 (S:Nat->Prop) (x:Value) (a:Int) (rest:Xu) (w:World) (e:Ending) (w':World):Prop :=
 ∃v',e=.returned (.tuple #[x,v',.int .i64 a])/\BOn S w' v' rest/\Below w.heap.size w w'
theorem ZCA (S:Nat->Prop) (v:Value) (l:Xu) (w:World) (G:BOn S w v l) :
  Calls prog 153 #[v] w (ZC0 S (.int .u64 (Zs l).1) (Zs l).2.2 (Zau l) w):=by
 obtain ⟨p,M,rfl,X,L⟩:=G.shape;unfold maxLen at L;unfold Zau;obtain ⟨o,j⟩:=Xn (Zs l);have C:Y5 (Zec 0 0 (l.drop 0)=o):=Y4 j;rw [j];obtain ⟨R,J⟩:=Xn ((if o.2.2=0 then l.drop o.2.1 else []));rw [J];have U:=Y4 G;have u:=Y4 J;clear G j J;go_enter func153,ntmps153;go_wp2_with fail
 go_step3
 go_wp2_with fail
 go_step3
 go_wp2_with fail
 go_loop [2,5,10] (fun I size i=>∃(k n:Nat),k<=l.length/\i=.int .i64 k/\size=.int .i64 0/\I=.int .u64 n/\n<2^(7*k)/\k<=9/\Y5 (Zec k n (l.drop k)=o)) (fun _ _ i=>l.length - (intOf i).toNat)
 case atStart=>exact ⟨0,0,by omega,rfl,rfl,rfl,by omega,by omega,C⟩
 case round =>
  obtain ⟨k,n,hk,rfl,rfl,rfl,E,y,F⟩:=hrel;clear C
  by_cases B:k<l.length
  ·obtain ⟨b,off,rfl,Z,r⟩:=(U.z).at_ B;have g:=F.z;have e:=U.z.drop2 (k+1) (by omega);rw [ZnT B] at g;obtain ⟨c,N⟩:=Xn (l[k]);rw [N] at g r;have H:=c.toNat_lt;clear N F
   by_cases a:(k=9/\1<c.toNat)\/(0<k/\c.toNat=0)
   ·rw [Zi8 a] at g;subst g;have s:R=[]:=by rw [<- u.z];rfl
    subst s;clear u e
    by_cases f:k=9/\1<c.toNat
    ·obtain ⟨f,h1⟩:=f;have D:((k:Int) == 9)=true:=by simp;omega
     have T:decide ((c.toNat:Int)>1)=true:=by simp;omega
     clear a f;go_wp2_with fail
     go_ret3
     exact ⟨_,rfl,BOn.nil_ _ w,Below.refl _ _⟩
    ·have O:0<k:=by omega
     have t0:((c.toNat:Int) == 0)=true:=by simp;omega
     have T:(c.toNat:Int)<=1:=by omega
     have t3:0<(k:Int):=by omega
     clear a f
     by_cases f:k=9
     ·have D:((k:Int) == 9)=true:=by simp;omega
      clear f;go_wp2_with fail
      go_ret3
      exact ⟨_,rfl,BOn.nil_ _ w,Below.refl _ _⟩
     ·have D:((k:Int) == 9)=false:=by simp;omega
      clear f;go_wp2_with fail
      go_ret3
      exact ⟨_,rfl,BOn.nil_ _ w,Below.refl _ _⟩
   ·have h:=Zg2 E y a;have x:=Zqh n k c.toNat E H h;obtain ⟨V,t⟩:=Xn (n+c.toNat%128*2^(7*k));rw [t] at x
    by_cases m:c.toNat<128
    ·rw [Zg5 a m,t] at g;subst g;obtain rfl:l.drop (k+1)=R:=by rw [<- u.z];rfl
     have Y:(k:Int)+1<=(l.length:Int):=by omega
     have W:(l.length:Int)<=(M:Int):=by omega
     have hd:((k:Int)+1 == 0)=false:=by simp;omega
     have d:=Y4 e;clear e t u E h
     by_cases f:k=9
     ·have D:((k:Int) == 9)=true:=by simp;omega
      have T:(c.toNat:Int)<=1:=by omega
      have t3:0<(k:Int):=by omega
      have t4:((c.toNat:Int) == 0)=false:=by simp;omega
      clear a f;go_wp2_with fail;go_quiet (fail)
      go_wp2_with fail
      ·go_ret3
       exact ⟨_,rfl,(d.z.1 (by assumption)).drewN nq,MM.below_drewN (Below.refl _ _) nq⟩
      ·go_ret3
       exact ⟨_,rfl,(d.z.2 (by assumption)).drewN nq,MM.below_drewN (Below.refl _ _) nq⟩
     ·have D:((k:Int) == 9)=false:=by simp;omega
      by_cases O:0<k
      ·have t3:0<(k:Int):=by omega
       have t4:((c.toNat:Int) == 0)=false:=by simp;omega
       clear a f;go_wp2_with fail;go_quiet (fail)
       go_wp2_with fail
       ·go_ret3
        exact ⟨_,rfl,(d.z.1 (by assumption)).drewN nq,MM.below_drewN (Below.refl _ _) nq⟩
       ·go_ret3
        exact ⟨_,rfl,(d.z.2 (by assumption)).drewN nq,MM.below_drewN (Below.refl _ _) nq⟩
      ·clear a f;go_wp2_with fail;go_quiet (fail)
       go_wp2_with fail
       ·go_ret3
        exact ⟨_,rfl,(d.z.1 (by assumption)).drewN nq,MM.below_drewN (Below.refl _ _) nq⟩
       ·go_ret3
        exact ⟨_,rfl,(d.z.2 (by assumption)).drewN nq,MM.below_drewN (Below.refl _ _) nq⟩
    ·rw [ZfL a m,t] at g;have q:=Zeu E c.toNat;rw [t] at q;have z:=Ze7 y a m;have A:=Y4 g;clear g t e E h;have f:¬k=9:=by omega
     have D:((k:Int) == 9)=false:=by simp;omega
     by_cases O:0<k
     ·have t3:0<(k:Int):=by omega
      have t4:((c.toNat:Int) == 0)=false:=by simp;omega
      clear a f;go_wp2_with fail
      go_round
      case rel=>exact ⟨k+1,V,by omega,by go_num,rfl,rfl,q,z,A⟩
      case measure=>simp [intOf];omega
     ·clear a f;go_wp2_with fail
      go_round
      case rel=>exact ⟨k+1,V,by omega,by go_num,rfl,rfl,q,z,A⟩
      case measure=>simp [intOf];omega
  ·obtain rfl:k=l.length:=by omega
   have g:=F.z;rw [Xaf,Zg6] at g;subst g;have s:R=[]:=by rw [<- u.z];rfl
   subst s;clear u F;go_wp2_with fail
   go_ret3
   exact ⟨_,rfl,BOn.nil_ _ w,Below.refl _ _⟩
