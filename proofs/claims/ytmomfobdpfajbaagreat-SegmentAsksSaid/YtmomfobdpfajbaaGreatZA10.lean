import Derived.Test.YtmomfobdpfajbaaGreatZA2
import Derived.Lib.VarintBits
set_option maxRecDepth 100000
set_option maxHeartbeats 0
set_option linter.unusedVariables false
set_option linter.unusedSimpArgs false
namespace Go.Proofs.YtmomfobdpfajbaaGreat
open Tryz
namespace VP
open RowKit MM VM
variable {m B:Nat} {w:World}
theorem ZC4 (m:Nat):bits .or .u8 ((m:Int)%256) 128=((m%128+128:Nat):Int):=by
 have h:∀x:Nat,x<256->x ||| 128=x%128+128:=by decide
 rw [u8_or _ _ (by omega) (by omega) (by omega) (by omega)];rw [show ((m:Int)%256).toNat=m%256 by omega,show (128:Int).toNat=128 from rfl,h _ (by omega)];omega
theorem Zqa (h:m<256):Lib.byteCells [UInt8.ofNat m]=[.int .u8 (m:Int)]:=by
 show [Value.int .u8 ((UInt8.ofNat m).toNat:Int)]=_
 rw [Zhy h]
theorem Zq8 {v:Value} {l:Xu} (a:m<256) (h:w.ownsRow B 5 1 v (l.length+1) (Lib.byteCells l++[.int .u8 (m:Int)])):Zd B w v (l++[UInt8.ofNat m]):=by
 unfold Zd;rw [Xd,byteCells_append,Zqa a];exact h
theorem Zo4 (B:Nat) (v:Value) (l:Xu) (n:Nat) (w:World) (O:n<18446744073709551616) (a:Zd B w v l) (G:l.length<=70368744177664) (hB:B<=w.heap.size) :
  Calls prog 193 #[v,.int .u64 n] w (ZV B (l++Zb n) w):=by
 obtain ⟨i0,hi,x,s,A⟩:=info_parts ZaI;obtain ⟨all,f⟩:=Xn (l++Zb n);rw [f];have r:Y5 (l++Zb n=all):=Y4 f;have t:Y5 (Zd B w v l):=Y4 a;clear f a;go_enter func193,ntmps193;go_wp2_with fail
 go_loopw [0,1] (fun u z wr=>∃(e:Xu) (m:Nat),z=.int .u64 m/\m<18446744073709551616/\e.length+(Zb m).length<=l.length+10/\Y5 (Zd B wr u e)/\Below B w wr/\Y5 (e++Zb m=all)) (fun _ z _=>(intOf z).toNat)
 case atStart=>exact ⟨l,n,rfl,O,by have:=(Zc n).2;omega,t,Below.refl _ _,r⟩
 case round =>
  obtain ⟨e,m,rfl,L,p,H,E,C⟩:=hrel;clear r t;have M:=E.size;have a:wr.ownsRow B 5 1 _ e.length (Lib.byteCells e):=H.z;have q:=fun j N=>(a.lt j N).1;have HL:=Y4 q;clear q H;have y:B<=wr.heap.size:=by omega
  by_cases h:m<128
  ·have o:=C.z;rw [Zc7 h] at o;have k:=Y4 o;clear o C;go_wp2_with (at_builtin;refine wpList_append_own _ rfl _ _ 23 rfl B 5 i0 (.int .u8 0) 1 1 underlying23 hi x s A rfl (by decide) _ _ _ rfl (a.alloc _) ⟨wr.heap.size,0,none⟩ 1 1 [.int .u8 (m:Int)] rfl rfl (Zdw _ _ _) (ZhL _ _) (by unfold maxLen;omega) (by omega) (by simp;omega) ?_)
   intro I J c b d;have g:=ZbZ E y HL.z b;have i:=Y4 (Zq8 (by omega) c);clear c b d a;go_wp2_with fail;go_ret;exact ⟨_,rfl,k.z▸i.z,g⟩
  ·have o:=C.z;rw [Zdv h L,List.append_cons] at o;have k:=Y4 o;rw [Zdv h L,Xh] at p;have F:m%128+128<256:=by omega
   have D:=ZC4 m;clear o C;go_wp2_with (at_builtin;refine wpList_append_own _ rfl _ _ 23 rfl B 5 i0 (.int .u8 0) 1 1 underlying23 hi x s A rfl (by decide) _ _ _ rfl (a.alloc _) ⟨wr.heap.size,0,none⟩ 1 1 [.int .u8 ((m%128+128:Nat):Int)] rfl rfl (Zdw _ _ _) (ZhL _ _) (by unfold maxLen;omega) (by omega) (by simp;omega) ?_)
   intro I J c b d;have g:=ZbZ E y HL.z b;have i:Y5 (Zd B J I (e++[UInt8.ofNat (m%128+128)])):=Y4 (Zq8 F c);clear c b d a D;go_wp2_with fail;go_roundw
   case rel=>exact ⟨_,m / 128,by go_num,by omega,by rw [Xd,Xai];omega,i,g,k⟩
   case measure=>simp [intOf];omega
theorem Zq6 (b:m<256) (a:B<=w.heap.size):Zd B (w.alloc (.cells #[.int .u8 (m:Int)] 5)) (.slice (some ⟨w.heap.size,0,none⟩) 1 1) [UInt8.ofNat m]:=by
 unfold Zd;rw [Zqa b];exact ZdO w [.int .u8 (m:Int)] 5 B a (by unfold maxLen;simp)
theorem Zm0 (v:Value) (l:Xu) (m:Int) (k:Nat) (w:World) (q:m=(k:Int)) (d:Zv w v l) (i:l.length+k<=70368744177664) :
  Calls prog 194 #[v,.int .i64 m] w (ZV w.heap.size l w):=by
 subst q;obtain ⟨p,o,rfl,n,c⟩:=d.shape;unfold maxLen at c;have j:=Y4 d;clear d;go_enter func194,ntmps194;go_wp2_with (at_make;refine Zfl rfl _ rfl w.heap.size _ (l.length+k) rfl (by omega) (by omega) (Xa _) ?_)
 intro v1 w1 b h;have f:=h.size;have r:=Y4 b;clear b;go_wp2_with (at_builtin;refine Zh rfl _ _ rfl w.heap.size _ [] rfl r.z _ l rfl (j.z.below h) (by simp;omega) f ?_)
 intro v2 w2 a g;have e:=Y4 a;clear a;go_wp2_with fail;go_ret;exact ⟨_,rfl,e.z,h.trans g⟩
theorem ZcW (n:Nat):∀(w:World),n<18446744073709551616->Calls prog 144 #[.int .u64 n] w (ZV w.heap.size (Zb n) w):=by
 refine Zs9 (P:=fun n=>∀(w:World),n<18446744073709551616->Calls prog 144 #[.int .u64 n] w (ZV w.heap.size (Zb n) w)) ?_ ?_ n
 ·intro n h w p;rw [Zc7 h];have a:=Zq6 (w:=w) (B:=w.heap.size) (m:=n) (by omega) (Xa _);have j:=Y4 a;clear a;go_enter func144,ntmps144;go_wp2_with fail;go_ret;exact ⟨_,rfl,j.z,(Below.refl _ _).alloc (Xa _) _⟩
 ·intro n h ih w p;rw [Zdv h p];have a:=Zq6 (w:=w) (B:=w.heap.size) (m:=n%128+128) (by omega) (Xa _);rw [show ((n%128+128:Nat):Int)=(n:Int)%128+128 by omega] at a;generalize UInt8.ofNat (n%128+128)=c at a ⊢;have j:=Y4 a;have s:=Y4 ih;clear a ih;go_enter func144,ntmps144;go_wp2_with fail;rw [show (n:Int) / 128=((n / 128:Nat):Int) by omega];refine (s.z _ (by omega)).mono ?_;rintro e t ⟨v1,rfl,b,f⟩;have q:=f.size;have o:=j.z.keep f;have r:=Y4 o;have u:=Y4 b.brow;have l:Below w.heap.size w t:=((Below.refl _ _).alloc (Xa _) _).trans (f.mono (by simp));have g:=l.size;have hl:=(Zc (n / 128)).2;clear b o;go_wp2_with (at_builtin;refine Zh rfl _ _ rfl w.heap.size _ _ rfl r.z _ _ rfl u.z (by simp;omega) g ?_)
  intro v2 w2 d i;have k:=Y4 d;clear d;go_wp2_with fail;go_ret;exact ⟨_,rfl,k.z,l.trans i⟩
end VP
namespace VG
open RowKit MM VM
def Zau (l:Xu):Xu:=if (Zs l).2.2=0 then l.drop (Zs l).2.1 else []
def ZwW (B:Nat) (x:Value) (a:Int) (rest:Xu) (w:World) (e:Ending) (w':World):Prop :=
 ∃v',e=.returned (.tuple #[x,v',.int .i64 a])/\BIn B w' v' rest/\Below w.heap.size w w'
theorem Zqh (n k c:Nat) (d:n<2^(7*k)) (hc:c<256) (hf:n+c%128*2^(7*k)<18446744073709551616) :
  bits .or .u64 (n:Int) (IntKind.u64.wrap (IntKind.u64.wrap (bits .and .u8 (c:Int) 127)*2^(7*k)))=((n+c%128*2^(7*k):Nat):Int):=by
 have b:bits .and .u8 (c:Int) 127=((c%128:Nat):Int):=by rw [u8_and127 (x:=(c:Int)) (by omega) (by omega)];omega
 have f:IntKind.u64.wrap ((c%128:Nat):Int)=((c%128:Nat):Int):=by rw [IntKind.wrap_u64];omega
 have e:((c%128:Nat):Int)*2^(7*k)=((c%128*2^(7*k):Nat):Int):=by
  rw [Int.natCast_mul,Int.natCast_pow];rfl
 have a:c%128*2^(7*k)<18446744073709551616:=by omega
 have g:IntKind.u64.wrap ((c%128*2^(7*k):Nat):Int)=((c%128*2^(7*k):Nat):Int):=by rw [IntKind.wrap_u64];omega
 rw [b,f,e,g,u64_or_nat _ _ (by omega) a,Nat.or_comm,Nat.mul_comm (c%128),<- Nat.two_pow_add_eq_or_of_lt d,Nat.add_comm]
theorem ZnT {l:Xu} {k:Nat} (h:k<l.length):l.drop k=l[k]::l.drop (k+1):=X7 h
theorem Zj4 (B:Nat) (v:Value) (l:Xu) (w:World) (H:BIn B w v l) (hB:B<=w.heap.size) :
  Calls prog 153 #[v] w (ZwW B (.int .u64 (Zs l).1) (Zs l).2.2 (Zau l) w):=by
 obtain ⟨p,N,rfl,X,M⟩:=H.shape;unfold maxLen at M;unfold Zau;obtain ⟨o,j⟩:=Xn (Zs l);have D:Y5 (Zec 0 0 (l.drop 0)=o):=Y4 j;rw [j];obtain ⟨R,L⟩:=Xn ((if o.2.2=0 then l.drop o.2.1 else []));rw [L];have U:=Y4 H;have u:=Y4 L;clear H j L;go_enter func153,ntmps153;go_wp2_with fail
 go_step3
 go_wp2_with fail
 go_step3
 go_wp2_with fail
 go_loop [2,5,10] (fun J size i=>∃(k n:Nat),k<=l.length/\i=.int .i64 k/\size=.int .i64 0/\J=.int .u64 n/\n<2^(7*k)/\k<=9/\Y5 (Zec k n (l.drop k)=o)) (fun _ _ i=>l.length - (intOf i).toNat)
 case atStart=>exact ⟨0,0,by omega,rfl,rfl,rfl,by omega,by omega,D⟩
 case round =>
  obtain ⟨k,n,hk,rfl,rfl,rfl,F,y,G⟩:=hrel;clear D
  by_cases C:k<l.length
  ·obtain ⟨b,off,rfl,Z,r⟩:=(U.z).at_ C;have g:=G.z;have e:=U.z.drop2 (k+1) (by omega);rw [ZnT C] at g;obtain ⟨c,O⟩:=Xn (l[k]);rw [O] at g r;have I:=c.toNat_lt;clear O G
   by_cases a:(k=9/\1<c.toNat)\/(0<k/\c.toNat=0)
   ·rw [Zi8 a] at g;subst g;have s:R=[]:=by rw [<- u.z];rfl
    subst s;clear u e
    by_cases f:k=9/\1<c.toNat
    ·obtain ⟨f,h1⟩:=f;have E:((k:Int) == 9)=true:=by simp;omega
     have T:decide ((c.toNat:Int)>1)=true:=by simp;omega
     clear a f;go_wp2_with fail
     go_ret3
     exact ⟨_,rfl,BIn.nil_ _ w,Below.refl _ _⟩
    ·have S:0<k:=by omega
     have t0:((c.toNat:Int) == 0)=true:=by simp;omega
     have T:(c.toNat:Int)<=1:=by omega
     have t3:0<(k:Int):=by omega
     clear a f
     by_cases f:k=9
     ·have E:((k:Int) == 9)=true:=by simp;omega
      clear f;go_wp2_with fail
      go_ret3
      exact ⟨_,rfl,BIn.nil_ _ w,Below.refl _ _⟩
     ·have E:((k:Int) == 9)=false:=by simp;omega
      clear f;go_wp2_with fail
      go_ret3
      exact ⟨_,rfl,BIn.nil_ _ w,Below.refl _ _⟩
   ·have h:=Zg2 F y a;have x:=Zqh n k c.toNat F I h;obtain ⟨V,t⟩:=Xn (n+c.toNat%128*2^(7*k));rw [t] at x
    by_cases m:c.toNat<128
    ·rw [Zg5 a m,t] at g;subst g;obtain rfl:l.drop (k+1)=R:=by rw [<- u.z];rfl
     have Y:(k:Int)+1<=(l.length:Int):=by omega
     have W:(l.length:Int)<=(N:Int):=by omega
     have hd:((k:Int)+1 == 0)=false:=by simp;omega
     have d:=Y4 e;clear e t u F h
     by_cases f:k=9
     ·have E:((k:Int) == 9)=true:=by simp;omega
      have T:(c.toNat:Int)<=1:=by omega
      have t3:0<(k:Int):=by omega
      have t4:((c.toNat:Int) == 0)=false:=by simp;omega
      clear a f;go_wp2_with fail;go_quiet (fail)
      go_wp2_with fail
      ·go_ret3
       exact ⟨_,rfl,(d.z.1 (by assumption)).drewN nq,MM.below_drewN (Below.refl _ _) nq⟩
      ·go_ret3
       exact ⟨_,rfl,(d.z.2 (by assumption)).drewN nq,MM.below_drewN (Below.refl _ _) nq⟩
     ·have E:((k:Int) == 9)=false:=by simp;omega
      by_cases S:0<k
      ·have t3:0<(k:Int):=by omega
       have t4:((c.toNat:Int) == 0)=false:=by simp;omega
       clear a f;go_wp2_with fail;go_quiet (fail)
       go_wp2_with fail
       ·go_ret3
        exact ⟨_,rfl,(d.z.1 (by assumption)).drewN nq,MM.below_drewN (Below.refl _ _) nq⟩
       ·go_ret3
        exact ⟨_,rfl,(d.z.2 (by assumption)).drewN nq,MM.below_drewN (Below.refl _ _) nq⟩
      ·clear a f;go_wp2_with fail;go_quiet (fail)
       go_wp2_with fail
       ·go_ret3
        exact ⟨_,rfl,(d.z.1 (by assumption)).drewN nq,MM.below_drewN (Below.refl _ _) nq⟩
       ·go_ret3
        exact ⟨_,rfl,(d.z.2 (by assumption)).drewN nq,MM.below_drewN (Below.refl _ _) nq⟩
    ·rw [ZfL a m,t] at g;have q:=Zeu F c.toNat;rw [t] at q;have z:=Ze7 y a m;have A:=Y4 g;clear g t e F h;have f:¬k=9:=by omega
     have E:((k:Int) == 9)=false:=by simp;omega
     by_cases S:0<k
     ·have t3:0<(k:Int):=by omega
      have t4:((c.toNat:Int) == 0)=false:=by simp;omega
      clear a f;go_wp2_with fail
      go_round
      case rel=>exact ⟨k+1,V,by omega,by go_num,rfl,rfl,q,z,A⟩
      case measure=>simp [intOf];omega
     ·clear a f;go_wp2_with fail
      go_round
      case rel=>exact ⟨k+1,V,by omega,by go_num,rfl,rfl,q,z,A⟩
      case measure=>simp [intOf];omega
  ·obtain rfl:k=l.length:=by omega
   have g:=G.z;rw [Xaf,Zg6] at g;subst g;have s:R=[]:=by rw [<- u.z];rfl
   subst s;clear u G;go_wp2_with fail
   go_ret3
   exact ⟨_,rfl,BIn.nil_ _ w,Below.refl _ _⟩
