import Derived.Test.YtdijhifdjbnkfaaGreatZT2
import Derived.Lib.VarintBits
set_option maxRecDepth 100000
set_option maxHeartbeats 0
set_option linter.unusedVariables false
set_option linter.unusedSimpArgs false
namespace Go.Proofs.YtdijhifdjbnkfaaGreat
open Lib (hid)
open Tryz
namespace VP
open RowKit MM VM
variable {m B:Nat} {w:World}
theorem ZCQ (m:Nat):bits .or .u8 ((m:Int)%256) 128=((m%128+128:Nat):Int):=by
 have h:∀x:Nat,x<256->x ||| 128=x%128+128:=by decide
 rw [u8_or _ _ (by omega) (by omega) (by omega) (by omega)];rw [show ((m:Int)%256).toNat=m%256 by omega,show (128:Int).toNat=128 from rfl,h _ (by omega)];omega
theorem ZpQ (h:m<256):Lib.byteCells [UInt8.ofNat m]=[.int .u8 (m:Int)]:=by
 show [Value.int .u8 ((UInt8.ofNat m).toNat:Int)]=_
 rw [Zhx h]
theorem ZqN {v:Value} {l:Xu} (a:m<256) (h:w.ownsRow B 5 1 v (l.length+1) (Lib.byteCells l++[.int .u8 (m:Int)])):Zd B w v (l++[UInt8.ofNat m]):=by
 unfold Zd;rw [Xd,byteCells_append,ZpQ a];exact h
theorem ZoU (B:Nat) (v:Value) (l:Xu) (n:Nat) (w:World) (N:n<18446744073709551616) (a:Zd B w v l) (G:l.length<=70368744177664) (hB:B<=w.heap.size) :
  Calls prog 193 #[v,.int .u64 n] w (ZS B (l++Zb n) w):=by
 obtain ⟨i0,hi,x,s,r⟩:=info_parts ZaJ;obtain ⟨all,e⟩:=Xn (l++Zb n);rw [e];have y:Hid (l++Zb n=all):=hid e;have p:Hid (Zd B w v l):=hid a;clear e a;go_enter func193,ntmps193;go_wp2_with fail
 go_loopw [0,1] (fun u z wr=>∃(acc:Xu) (m:Nat),z=.int .u64 m/\m<18446744073709551616/\acc.length+(Zb m).length<=l.length+10/\Hid (Zd B wr u acc)/\Below B w wr/\Hid (acc++Zb m=all)) (fun _ z _=>(intOf z).toNat)
 case atStart=>exact ⟨l,n,rfl,N,by have:=(Zc n).2;omega,p,Below.refl _ _,y⟩
 case round =>
  obtain ⟨acc,m,rfl,J,f,F,C,A⟩:=hrel;clear y p;have M:=C.size;have a:wr.ownsRow B 5 1 _ acc.length (Lib.byteCells acc):=F.out;have q:=fun j L=>(a.lt j L).1;have HL:=hid q;clear q F;have t:B<=wr.heap.size:=by omega
  by_cases h:m<128
  ·have g:=A.out;rw [Zda h] at g;have k:=hid g;clear g A;go_wp2_with (at_builtin;refine wpList_append_own _ rfl _ _ 23 rfl B 5 i0 (.int .u8 0) 1 1 underlying23 hi x s r rfl (by decide) _ _ _ rfl (a.alloc _) ⟨wr.heap.size,0,none⟩ 1 1 [.int .u8 (m:Int)] rfl rfl (Zdu _ _ _) (ZhP _ _) (by unfold maxLen;omega) (by omega) (by simp;omega) ?_)
   intro I H b c d;have o:=Zb0 C t HL.out c;have i:=hid (ZqN (by omega) b);clear b c d a;go_wp2_with fail;go_ret;exact ⟨_,rfl,k.out▸i.out,o⟩
  ·have g:=A.out;rw [Zdt h J,List.append_cons] at g;have k:=hid g;rw [Zdt h J,Xh] at f;have D:m%128+128<256:=by omega
   have E:=ZCQ m;clear g A;go_wp2_with (at_builtin;refine wpList_append_own _ rfl _ _ 23 rfl B 5 i0 (.int .u8 0) 1 1 underlying23 hi x s r rfl (by decide) _ _ _ rfl (a.alloc _) ⟨wr.heap.size,0,none⟩ 1 1 [.int .u8 ((m%128+128:Nat):Int)] rfl rfl (Zdu _ _ _) (ZhP _ _) (by unfold maxLen;omega) (by omega) (by simp;omega) ?_)
   intro I H b c d;have o:=Zb0 C t HL.out c;have i:Hid (Zd B H I (acc++[UInt8.ofNat (m%128+128)])):=hid (ZqN D b);clear b c d a E;go_wp2_with fail;go_roundw
   case rel=>exact ⟨_,m / 128,by go_num,by omega,by rw [Xd,Xaf];omega,i,o,k⟩
   case measure=>simp [intOf];omega
theorem ZqL (b:m<256) (a:B<=w.heap.size):Zd B (w.alloc (.cells #[.int .u8 (m:Int)] 5)) (.slice (some ⟨w.heap.size,0,none⟩) 1 1) [UInt8.ofNat m]:=by
 unfold Zd;rw [ZpQ b];exact ZdN w [.int .u8 (m:Int)] 5 B a (by unfold maxLen;simp)
theorem ZmV (v:Value) (l:Xu) (m:Int) (k:Nat) (w:World) (j:m=(k:Int)) (c:Zq w v l) (i:l.length+k<=70368744177664) :
  Calls prog 194 #[v,.int .i64 m] w (ZS w.heap.size l w):=by
 subst j;obtain ⟨p,r,rfl,o,h⟩:=c.shape;unfold maxLen at h;have n:=hid c;clear c;go_enter func194,ntmps194;go_wp2_with (at_make;refine Zfq rfl _ rfl w.heap.size _ (l.length+k) rfl (by omega) (by omega) (Xc _) ?_)
 intro v1 w1 b e;have d:=e.size;have q:=hid b;clear b;go_wp2_with (at_builtin;refine Zg rfl _ _ rfl w.heap.size _ [] rfl q.out _ l rfl (n.out.below e) (by simp;omega) d ?_)
 intro v2 w2 a f;have g:=hid a;clear a;go_wp2_with fail;go_ret;exact ⟨_,rfl,g.out,e.trans f⟩
theorem ZcX (n:Nat):∀(w:World),n<18446744073709551616->Calls prog 144 #[.int .u64 n] w (ZS w.heap.size (Zb n) w):=by
 refine ZsD (P:=fun n=>∀(w:World),n<18446744073709551616->Calls prog 144 #[.int .u64 n] w (ZS w.heap.size (Zb n) w)) ?_ ?_ n
 ·intro n h w o;rw [Zda h];have a:=ZqL (w:=w) (B:=w.heap.size) (m:=n) (by omega) (Xc _);have i:=hid a;clear a;go_enter func144,ntmps144;go_wp2_with fail;go_ret;exact ⟨_,rfl,i.out,(Below.refl _ _).alloc (Xc _) _⟩
 ·intro n h ih w o;rw [Zdt h o];have a:=ZqL (w:=w) (B:=w.heap.size) (m:=n%128+128) (by omega) (Xc _);rw [show ((n%128+128:Nat):Int)=(n:Int)%128+128 by omega] at a;generalize UInt8.ofNat (n%128+128)=c at a ⊢;have i:=hid a;have u:=hid ih;clear a ih;go_enter func144,ntmps144;go_wp2_with fail;rw [show (n:Int) / 128=((n / 128:Nat):Int) by omega];refine (u.out _ (by omega)).mono ?_;rintro e s ⟨v1,rfl,d,f⟩;have r:=f.size;have p:=i.out.keep f;have t:=hid p;have q:=hid d.brow;have l:Below w.heap.size w s:=((Below.refl _ _).alloc (Xc _) _).trans (f.mono (by simp));have g:=l.size;have hl:=(Zc (n / 128)).2;clear d p;go_wp2_with (at_builtin;refine Zg rfl _ _ rfl w.heap.size _ _ rfl t.out _ _ rfl q.out (by simp;omega) g ?_)
  intro v2 w2 b j;have k:=hid b;clear b;go_wp2_with fail;go_ret;exact ⟨_,rfl,k.out,l.trans j⟩
end VP
namespace VG
open RowKit MM VM
def Zab (l:Xu):Xu:=if (Zk l).2.2=0 then l.drop (Zk l).2.1 else []
def Zns (B:Nat) (x:Value) (a:Int) (rest:Xu) (w:World) (e:Ending) (w':World):Prop :=
 ∃v',e=.returned (.tuple #[x,v',.int .i64 a])/\Z3 B w' v' rest/\Below w.heap.size w w'
theorem ZpX (n k c:Nat) (d:n<2^(7*k)) (hc:c<256) (hf:n+c%128*2^(7*k)<18446744073709551616) :
  bits .or .u64 (n:Int) (IntKind.u64.wrap (IntKind.u64.wrap (bits .and .u8 (c:Int) 127)*2^(7*k)))=((n+c%128*2^(7*k):Nat):Int):=by
 have b:bits .and .u8 (c:Int) 127=((c%128:Nat):Int):=by rw [u8_and127 (x:=(c:Int)) (by omega) (by omega)];omega
 have g:IntKind.u64.wrap ((c%128:Nat):Int)=((c%128:Nat):Int):=by rw [IntKind.wrap_u64];omega
 have f:((c%128:Nat):Int)*2^(7*k)=((c%128*2^(7*k):Nat):Int):=by
  rw [Int.natCast_mul,Int.natCast_pow];rfl
 have a:c%128*2^(7*k)<18446744073709551616:=by omega
 have e:IntKind.u64.wrap ((c%128*2^(7*k):Nat):Int)=((c%128*2^(7*k):Nat):Int):=by rw [IntKind.wrap_u64];omega
 rw [b,g,f,e,u64_or_nat _ _ (by omega) a,Nat.or_comm,Nat.mul_comm (c%128),<- Nat.two_pow_add_eq_or_of_lt d,Nat.add_comm]
theorem ZjR {l:Xu} {k:Nat} (h:k<l.length):l.drop k=l[k]::l.drop (k+1):=X9 h
theorem Zj0 (B:Nat) (v:Value) (l:Xu) (w:World) (H:Z3 B w v l) (hB:B<=w.heap.size) :
  Calls prog 153 #[v] w (Zns B (.int .u64 (Zk l).1) (Zk l).2.2 (Zab l) w):=by
 obtain ⟨p,M,rfl,X,J⟩:=H.shape;unfold maxLen at J;unfold Zab;obtain ⟨o,h⟩:=Xn (Zk l);have y:Hid (Zdz 0 0 (l.drop 0)=o):=hid h;rw [h];obtain ⟨R,L⟩:=Xn ((if o.2.2=0 then l.drop o.2.1 else []));rw [L];have O:=hid H;have t:=hid L;clear H h L;go_enter func153,ntmps153;go_wp2_with fail
 go_step3
 go_wp2_with fail
 go_step3
 go_wp2_with fail
 go_loop [2,5,10] (fun acc size i=>∃(k n:Nat),k<=l.length/\i=.int .i64 k/\size=.int .i64 0/\acc=.int .u64 n/\n<2^(7*k)/\k<=9/\Hid (Zdz k n (l.drop k)=o)) (fun _ _ i=>l.length - (intOf i).toNat)
 case atStart=>exact ⟨0,0,by omega,rfl,rfl,rfl,by omega,by omega,y⟩
 case round =>
  obtain ⟨k,n,hk,rfl,rfl,rfl,A,E,G⟩:=hrel;clear y
  by_cases z:k<l.length
  ·obtain ⟨b,off,rfl,W,r⟩:=(O.out).at_ z;have g:=G.out;have f:=O.out.drop2 (k+1) (by omega);rw [ZjR z] at g;obtain ⟨c,N⟩:=Xn (l[k]);rw [N] at g r;have I:=c.toNat_lt;clear N G
   by_cases a:(k=9/\1<c.toNat)\/(0<k/\c.toNat=0)
   ·rw [Zg5 a] at g;subst g;have q:R=[]:=by rw [<- t.out];rfl
    subst q;clear t f
    by_cases e:k=9/\1<c.toNat
    ·obtain ⟨e,h1⟩:=e;have D:((k:Int) == 9)=true:=by simp;omega
     have S:decide ((c.toNat:Int)>1)=true:=by simp;omega
     clear a e;go_wp2_with fail
     go_ret3
     exact ⟨_,rfl,Z3.nil_ _ w,Below.refl _ _⟩
    ·have T:0<k:=by omega
     have t0:((c.toNat:Int) == 0)=true:=by simp;omega
     have S:(c.toNat:Int)<=1:=by omega
     have t3:0<(k:Int):=by omega
     clear a e
     by_cases e:k=9
     ·have D:((k:Int) == 9)=true:=by simp;omega
      clear e;go_wp2_with fail
      go_ret3
      exact ⟨_,rfl,Z3.nil_ _ w,Below.refl _ _⟩
     ·have D:((k:Int) == 9)=false:=by simp;omega
      clear e;go_wp2_with fail
      go_ret3
      exact ⟨_,rfl,Z3.nil_ _ w,Below.refl _ _⟩
   ·have m:=Zfa A E a;have F:=ZpX n k c.toNat A I m;obtain ⟨V,u⟩:=Xn (n+c.toNat%128*2^(7*k));rw [u] at F
    by_cases j:c.toNat<128
    ·rw [ZfO a j,u] at g;subst g;obtain rfl:l.drop (k+1)=R:=by rw [<- t.out];rfl
     have Y:(k:Int)+1<=(l.length:Int):=by omega
     have U:(l.length:Int)<=(M:Int):=by omega
     have hd:((k:Int)+1 == 0)=false:=by simp;omega
     have d:=hid f;clear f u t A m
     by_cases e:k=9
     ·have D:((k:Int) == 9)=true:=by simp;omega
      have S:(c.toNat:Int)<=1:=by omega
      have t3:0<(k:Int):=by omega
      have t4:((c.toNat:Int) == 0)=false:=by simp;omega
      clear a e;go_wp2_with fail;go_quiet (fail)
      go_wp2_with fail
      ·go_ret3
       exact ⟨_,rfl,(d.out.1 (by assumption)).drewN nq,MM.below_drewN (Below.refl _ _) nq⟩
      ·go_ret3
       exact ⟨_,rfl,(d.out.2 (by assumption)).drewN nq,MM.below_drewN (Below.refl _ _) nq⟩
     ·have D:((k:Int) == 9)=false:=by simp;omega
      by_cases T:0<k
      ·have t3:0<(k:Int):=by omega
       have t4:((c.toNat:Int) == 0)=false:=by simp;omega
       clear a e;go_wp2_with fail;go_quiet (fail)
       go_wp2_with fail
       ·go_ret3
        exact ⟨_,rfl,(d.out.1 (by assumption)).drewN nq,MM.below_drewN (Below.refl _ _) nq⟩
       ·go_ret3
        exact ⟨_,rfl,(d.out.2 (by assumption)).drewN nq,MM.below_drewN (Below.refl _ _) nq⟩
      ·clear a e;go_wp2_with fail;go_quiet (fail)
       go_wp2_with fail
       ·go_ret3
        exact ⟨_,rfl,(d.out.1 (by assumption)).drewN nq,MM.below_drewN (Below.refl _ _) nq⟩
       ·go_ret3
        exact ⟨_,rfl,(d.out.2 (by assumption)).drewN nq,MM.below_drewN (Below.refl _ _) nq⟩
    ·rw [Zew a j,u] at g;have s:=Zdy A c.toNat;rw [u] at s;have x:=ZdV E a j;have C:=hid g;clear g u f A m;have e:¬k=9:=by omega
     have D:((k:Int) == 9)=false:=by simp;omega
     by_cases T:0<k
     ·have t3:0<(k:Int):=by omega
      have t4:((c.toNat:Int) == 0)=false:=by simp;omega
      clear a e;go_wp2_with fail
      go_round
      case rel=>exact ⟨k+1,V,by omega,by go_num,rfl,rfl,s,x,C⟩
      case measure=>simp [intOf];omega
     ·clear a e;go_wp2_with fail
      go_round
      case rel=>exact ⟨k+1,V,by omega,by go_num,rfl,rfl,s,x,C⟩
      case measure=>simp [intOf];omega
  ·obtain rfl:k=l.length:=by omega
   have g:=G.out;rw [Xae,ZfP] at g;subst g;have q:R=[]:=by rw [<- t.out];rfl
   subst q;clear t G;go_wp2_with fail
   go_ret3
   exact ⟨_,rfl,Z3.nil_ _ w,Below.refl _ _⟩
theorem ZBo (n k c:Nat) (hf:n+c%128*2^(7*k)<18446744073709551616) :
  IntKind.u64.wrap ((n:Int)+IntKind.u64.wrap ((c:Int)%128*2^(7*k)))=((n+c%128*2^(7*k):Nat):Int):=by
 have b:(c:Int)%128*2^(7*k)=((c%128*2^(7*k):Nat):Int):=by
  rw [Int.natCast_mul,Int.natCast_pow];rfl
 have a:c%128*2^(7*k)<18446744073709551616:=by omega
 rw [b,IntKind.wrap_u64,IntKind.wrap_u64];omega
theorem Zfj (B:Nat) (v:Value) (l:Xu) (w:World) (I:Z3 B w v l) (W:B<=w.heap.size) :
  Calls prog 107 #[v] w (Zns B (.int .u64 (Zk l).1) (Zk l).2.2 (Zab l) w):=by
 obtain ⟨p,M,rfl,Z,J⟩:=I.shape;unfold maxLen at J;unfold Zab;obtain ⟨q,j⟩:=Xn (Zk l);have z:Hid (Zdz 0 0 (l.drop 0)=q):=hid j;rw [j];obtain ⟨R,L⟩:=Xn ((if q.2.2=0 then l.drop q.2.1 else []));rw [L];have S:=hid I;have u:=hid L;clear I j L;go_enter func107,ntmps107;go_wp2_with fail
 go_loopw [5,6] (fun acc i wr=>∃(k n:Nat),k<=l.length/\i=.int .i64 k/\acc=.int .u64 n/\n<2^(7*k)/\k<=9/\Below w.heap.size w wr/\Hid (Zdz k n (l.drop k)=q)) (fun _ i _=>l.length - (intOf i).toNat)
 case atStart=>exact ⟨0,0,by omega,rfl,rfl,by omega,by omega,Below.refl _ _,z⟩
 case round =>
  obtain ⟨k,n,hk,rfl,rfl,H,E,d,G⟩:=hrel;clear z
  by_cases A:k<l.length
  ·obtain ⟨b,off,rfl,Y,s⟩:=((S.out).below (d.mono W)).at_ A;have h:=G.out;have g:=(S.out.below (d.mono W)).drop2 (k+1) (by omega);rw [ZjR A] at h;obtain ⟨c,N⟩:=Xn (l[k]);rw [N] at h s;have aa:=c.toNat_lt;clear N G;have O:(k:Int)<(l.length:Int):=by omega
   by_cases a:(k=9/\1<c.toNat)\/(0<k/\c.toNat=0)
   ·rw [Zg5 a] at h;subst h;have r:R=[]:=by rw [<- u.out];rfl
    subst r;clear u g
    by_cases f:k=9/\1<c.toNat
    ·obtain ⟨f,h1⟩:=f;have D:((k:Int) == 9)=true:=by simp;omega
     have T:decide ((c.toNat:Int)>1)=true:=by simp;omega
     clear a f;go_wp2_with fail
     go_ret3
     exact ⟨_,rfl,Z3.nil_ _ wr,d⟩
    ·have U:0<k:=by omega
     have t0:((c.toNat:Int) == 0)=true:=by simp;omega
     have T:decide ((c.toNat:Int)>1)=false:=by simp;omega
     have t3:0<(k:Int):=by omega
     clear a f
     by_cases f:k=9
     ·have D:((k:Int) == 9)=true:=by simp;omega
      clear f;go_wp2_with fail
      go_ret3
      exact ⟨_,rfl,Z3.nil_ _ wr,d⟩
     ·have D:((k:Int) == 9)=false:=by simp;omega
      clear f;go_wp2_with fail
      go_ret3
      exact ⟨_,rfl,Z3.nil_ _ wr,d⟩
   ·have o:=Zfa H E a;have F:=ZBo n k c.toNat o;obtain ⟨V,x⟩:=Xn (n+c.toNat%128*2^(7*k));rw [x] at F
    by_cases m:c.toNat<128
    ·rw [ZfO a m,x] at h;subst h;obtain rfl:l.drop (k+1)=R:=by rw [<- u.out];rfl
     have ab:(k:Int)+1<=(l.length:Int):=by omega
     have X:(l.length:Int)<=(M:Int):=by omega
     have e:=hid g;clear g x u H o
     by_cases f:k=9
     ·have D:((k:Int) == 9)=true:=by simp;omega
      have T:decide ((c.toNat:Int)>1)=false:=by simp;omega
      have t3:0<(k:Int):=by omega
      have t4:((c.toNat:Int) == 0)=false:=by simp;omega
      clear a f;go_wp2_with fail;go_quiet (fail)
      go_wp2_with fail
      ·go_ret3
       exact ⟨_,rfl,(e.out.1 (by assumption)).drewN nq,MM.below_drewN d nq⟩
      ·go_ret3
       exact ⟨_,rfl,(e.out.2 (by assumption)).drewN nq,MM.below_drewN d nq⟩
     ·have D:((k:Int) == 9)=false:=by simp;omega
      by_cases U:0<k
      ·have t3:0<(k:Int):=by omega
       have t4:((c.toNat:Int) == 0)=false:=by simp;omega
       clear a f;go_wp2_with fail;go_quiet (fail)
       go_wp2_with fail
       ·go_ret3
        exact ⟨_,rfl,(e.out.1 (by assumption)).drewN nq,MM.below_drewN d nq⟩
       ·go_ret3
        exact ⟨_,rfl,(e.out.2 (by assumption)).drewN nq,MM.below_drewN d nq⟩
      ·clear a f;go_wp2_with fail;go_quiet (fail)
       go_wp2_with fail
       ·go_ret3
        exact ⟨_,rfl,(e.out.1 (by assumption)).drewN nq,MM.below_drewN d nq⟩
       ·go_ret3
        exact ⟨_,rfl,(e.out.2 (by assumption)).drewN nq,MM.below_drewN d nq⟩
    ·rw [Zew a m,x] at h;have t:=Zdy H c.toNat;rw [x] at t;have y:=ZdV E a m;have C:=hid h;clear h x g H o;have f:¬k=9:=by omega
     have D:((k:Int) == 9)=false:=by simp;omega
     by_cases U:0<k
     ·have t3:0<(k:Int):=by omega
      have t4:((c.toNat:Int) == 0)=false:=by simp;omega
      clear a f;go_wp2_with fail;go_roundw
      case rel=>exact ⟨k+1,V,by omega,by go_num,rfl,t,y,d,C⟩
      case measure=>simp [intOf];omega
     ·clear a f;go_wp2_with fail;go_roundw
      case rel=>exact ⟨k+1,V,by omega,by go_num,rfl,t,y,d,C⟩
      case measure=>simp [intOf];omega
  ·obtain rfl:k=l.length:=by omega
   have h:=G.out;rw [Xae,ZfP] at h;subst h;have r:R=[]:=by rw [<- u.out];rfl
   subst r;clear u G;go_wp2_with fail
   go_ret3
   exact ⟨_,rfl,Z3.nil_ _ wr,d⟩
