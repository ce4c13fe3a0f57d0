import Derived.Test.YtdijhifdjbnkfaaGreatZT6
import Derived.Test.YtdijhifdjbnkfaaGreatZT7
import Derived.Lib.ItoaNum
set_option maxRecDepth 100000
set_option maxHeartbeats 0
set_option linter.unusedVariables false
set_option linter.unusedSimpArgs false
namespace Go.Proofs.YtdijhifdjbnkfaaGreat
open Lib (hid)
open Tryz
namespace VP
open RowKit MM VM
theorem ZoW (n:Nat) (h:n<128):Lib.bitLen n<=7:=by
 by_cases b:n=0
 ·subst b;decide
 ·have:=Lib.bitLenAux_bounds 64 n (by omega) b
  have c:2^(Lib.bitLen n - 1)<2^7:=by
   have:=this.2.1;unfold Lib.bitLen;omega
  have:=(Nat.pow_lt_pow_iff_right (a:=2) (by omega)).1 c;omega
theorem ZrF (n:Nat) (a:n≠0) (h:n<18446744073709551616):1<=Lib.bitLen n:=(Lib.bitLenAux_bounds 64 n h a).1
theorem size_eq (n:Nat):n<18446744073709551616->max 1 ((Lib.bitLen n+6) / 7)=(Zb n).length:=by
 refine ZsD (P:=fun n=>n<18446744073709551616->max 1 ((Lib.bitLen n+6) / 7)=(Zb n).length) ?_ ?_ n
 ·intro n h a;have:=ZoW n h;rw [Zda h,Xaf];omega
 ·intro n h ih a;have c:=Lib.bitLen_shift 7 n (by omega) a;have h2:=ZrF (n / 128) (by omega) (by omega);have b:=ih (by omega);rw [Zdt h a,Xh,<- b,c,show (2:Nat)^7=128 from rfl];omega
theorem ZcN (n:Nat) (w:World) (d:n<18446744073709551616):Calls prog 195 #[.int .u64 n] w fun e w'=>e=.returned (.int .i64 ((Zb n).length:Int))/\w=w':=by
 have a:=Tryz.bits_Len64 n w (by omega) (by omega);rw [XT] at a;have hs:=size_eq n d;have f:Lib.bitLen n<=70:=by have:=(Zc n).2;omega
 obtain ⟨B,b⟩:=Xn (Lib.bitLen n);rw [b] at a f hs;have HL:=hid a;have c:=hid hs;clear a hs b;go_enter func195,ntmps195;go_wp2_with fail;refine HL.out.mono ?_;rintro e w' ⟨rfl,rfl⟩;go_wp2_with fail;go_ret;have e:max 1 (((B:Int)+6) / 7)=((max 1 ((B+6) / 7):Nat):Int):=by omega
 rw [<- c.out,<- e];exact ⟨rfl,rfl⟩
theorem Zdg (v:Value) (l:Xu) (n:Nat) (w:World) (q:n<18446744073709551616) (p:Zq w v l) (m:l.length<=35184372088832) :
  Calls prog 132 #[v,.int .u64 n] w (ZS w.heap.size (l++Zb n) w):=by
 have f:=Zc n;have i:=fun W=>ZcN n W q;have d:=fun W (h:Zq W v l)=>ZmV v l ((Zb n).length:Int) _ W rfl h (by omega);obtain ⟨L,o⟩:=Xn ((Zb n).length);simp only [o] at i d;have r:=fun B u W (h:Zd B W u l) A=>ZoU B u l n W q h (by omega) A;have x:=hid i;have C:=hid d;have y:=hid r;have t:=hid p;clear i d r p o f;go_enter func132,ntmps132;go_wp2_with fail;refine (x.out _).mono ?_;rintro e z ⟨rfl,rfl⟩;go_wp2_with fail;refine (C.out _ t.out).mono ?_;rintro e z ⟨v1,rfl,b,c⟩;have g:=c.size;have s:=hid b;clear b;go_wp2_with fail;refine (y.out _ _ _ s.out g).mono ?_;rintro e w2 ⟨v2,rfl,a,j⟩;have k:=hid a;clear a;go_wp2_with fail;go_ret;exact ⟨_,rfl,k.out,c.trans j⟩
end VP
namespace FP
open RowKit MM VM CM FM VP CR
theorem Zgr (B:Nat) (w:World):Zd B w (.slice none 0 0) []:=World.ownsRow_nil _ _ _ _
theorem ZqU {w:World} {v u:Value} {l m:Xu} (h:Zq w v l) (k:Zq w u m):Zbp (w.alloc (.cells #[v,u] 23)) (.slice (some ⟨w.heap.size,0,none⟩) 2 2) [l,m] :=
 ZyG [v,u] [l,m] rfl (by unfold maxLen;simp) (fun i hi=>by
  match i,hi with
  | 0,_=>exact ⟨v,rfl,h⟩
  | 1,_=>exact ⟨u,rfl,k⟩)
theorem Zqh (l m:Xu):[l,m].flatten=l++m:=by simp
theorem ZtF (w:World) (s:Nat) (hs:s<4294967296):Zq (w.alloc (.cells #[.int .u8 ((s:Int) / 16777216),.int .u8 ((s:Int) / 65536%256),.int .u8 ((s:Int) / 256%256),.int .u8 ((s:Int)%256)] 5)) (.slice (some ⟨w.heap.size,0,none⟩) 4 4) (Ze2 s):=by
 have h:=ZdN w (Lib.byteCells (Ze2 s)) 5 0 (XU _) (by rw [Zi];unfold maxLen;simp [Ze2])
 have e:Lib.byteCells (Ze2 s)=[.int .u8 ((s:Int) / 16777216),.int .u8 ((s:Int) / 65536%256),.int .u8 ((s:Int) / 256%256),.int .u8 ((s:Int)%256)]:=by
  simp only [Lib.byteCells,Ze2,XF,XV,UInt8.toNat_ofNat'];rw [show ((s / 16777216%2^8:Nat):Int)=(s:Int) / 16777216 by omega,show ((s / 65536%2^8:Nat):Int)=(s:Int) / 65536%256 by omega,show ((s / 256%2^8:Nat):Int)=(s:Int) / 256%256 by omega,show ((s%2^8:Nat):Int)=(s:Int)%256 by omega]
 have a:=Zq.of_own (l:=Ze2 s) h;rw [e] at a;exact a
theorem ZhS (w:World) (B:Nat) (a:B<=w.heap.size):Zd B (w.alloc (.cells #[] 5)) (.slice (some ⟨w.heap.size,0,none⟩) 0 0) []:=ZdN w [] 5 B a (by unfold maxLen;simp)
theorem Zlb {w:World} {b o:Nat} {v:Value} (h:w.cell? ⟨b,o,none⟩=some v):b<w.heap.size:=by
 by_cases a:b<w.heap.size
 ·exact a
 ·simp [World.cell?,Xaw (XaS a)] at h
theorem ZqZ (u:Value) (p:Xu) (w:World) (hp:Zq w u p) (ah:p.length<=35184372088832):Calls prog 96 #[u] w (ZS w.heap.size (Zah p) w):=by
 obtain ⟨q,ai,rfl,hc,hm⟩:=hp.shape;have k1:=fun W=>ZcX p.length W (by omega);have C:=fun W v1 (h1:Zq W v1 (Zb p.length++p))=>Zlk _ _ W h1;have E:=(Zc p.length).2;have hs:=Zjy (Zb p.length++p);have aa:=Zcr (ZaU (Zb p.length++p));have z:Zah p=(Zb p.length++Ze2 (ZaU (Zb p.length++p)))++p:=by unfold Zah;simp
 rw [z];clear z;generalize hS:ZaU (Zb p.length++p)=S at *;generalize Zb p.length=H at *;have X:([]:Xu).length+H.length<=140737488355328:=by rw [Xm];omega
 have V:H.length+p.length<=140737488355328:=by omega
 have L:H.length+(Ze2 S).length<=140737488355328:=by omega
 have s:(H++Ze2 S).length+p.length<=140737488355328:=by rw [Xd];omega
 have k:=fun W=>ZtF W S hs;generalize Ze2 S=Z at *;obtain ⟨X1,m⟩:=Xn (H++p);obtain ⟨X2,i⟩:=Xn (H++Z);obtain ⟨X3,o⟩:=Xn (X2++p);rw [i] at s;rw [i,o];rw [m] at C;have Y:=hid m;have U:=hid i;have I:=hid o;have K1:=hid k1;have K2:=hid C;have HP:=hid hp;have HL:=hid k;clear k1 C hp k aa hS m i o E;go_enter func96,ntmps96;go_wp2_with fail;refine (K1.out _).mono ?_;rintro e j ⟨v1,rfl,c,n⟩;have ad:=n.size;have r:Below j.heap.size j (j.alloc (.cells #[] 5)):=(Below.refl _ _).alloc (Xc _) _;have HE:=hid (ZhS j j.heap.size (Xc _));have G:=hid c;have v:=hid (c.keep r);clear c;go_wp2_with (at_builtin;refine Zg rfl _ _ rfl j.heap.size _ [] rfl HE.out _ H rfl v.out.brow X (by simp) ?_)
 intro v2 w2 f O;have h:=r.trans O;have ag:=h.size;have R:Hid (Zd j.heap.size w2 v2 H):=hid f;have N:=hid (HP.out.below (grow n h));clear f r;go_wp2_with (at_builtin;refine Zg rfl _ _ rfl j.heap.size _ H rfl R.out _ p rfl N.out V (by omega) ?_)
 intro v3 w3 b F;have g:=h.trans F;have ae:=g.size;rw [Y.out] at b;have T:=hid b.brow;clear b;go_wp2_with fail;refine (K2.out _ _ T.out).mono ?_;rintro e w4 ⟨rfl,rfl⟩;have A:=grow n g;have t:=Zd.keep (G.out.keep g) ((Below.refl w3.heap.size w3).alloc (Xc _) (.cells #[.int .u8 ((S:Int) / 16777216),.int .u8 ((S:Int) / 65536%256),.int .u8 ((S:Int) / 256%256),.int .u8 ((S:Int)%256)] 5));have y:=A.alloc A.size (.cells #[.int .u8 ((S:Int) / 16777216),.int .u8 ((S:Int) / 65536%256),.int .u8 ((S:Int) / 256%256),.int .u8 ((S:Int)%256)] 5);have ac:=y.size;have ab:=hid t;clear t;go_wp2_with (at_builtin;refine Zg rfl _ _ rfl w.heap.size _ H rfl ab.out _ Z rfl (HL.out w3) L (by omega) ?_)
 intro v4 w5 a J;have l:=y.trans J;have af:=l.size;rw [U.out] at a;have D:=hid a;have M:=hid (HP.out.below l);clear a;go_wp2_with (at_builtin;refine Zg rfl _ _ rfl w.heap.size _ X2 rfl D.out _ p rfl M.out s (by omega) ?_)
 intro v5 w6 d x;rw [I.out] at d;have B:=hid d;clear d;go_wp2_with fail;go_ret;exact ⟨_,rfl,B.out,l.trans x⟩
def Zlv (B:Nat) (l:Xu) (w:World) (e:Ending) (w':World):Prop:=∃v',e=.returned (.tuple #[v',.int .i64 0])/\Zd B w' v' l/\Below B w w'
theorem ZyZ (vs:Value) (a:List Xu) (w:World) (hs:Zbp w vs a) (h:∀p∈a,p.length<=16777216) (t:(Zw a).length<=35184372088832) :
  Calls prog 45 #[vs] w (Zlv w.heap.size (Zw a) w):=by
 obtain ⟨q,V,rfl,ab,H⟩:=hs.shape;unfold maxLen at H;have Z:=hid hs;have Y:=hid h;obtain ⟨X,D⟩:=Xn (Zw a);rw [D];rw [D] at t;have I:=hid D;have r:Hid (Zd w.heap.size w (.slice none 0 0) (Zw (a.take 0))):=hid (Zgr _ _);clear hs h D;go_enter func45,ntmps45;go_wp2_with fail
 go_loopw [4,5] (fun u i wr=>∃k:Nat,k<=a.length/\i=.int .i64 k/\Hid (Zd w.heap.size wr u (Zw (a.take k)))/\Hid (Below w.heap.size w wr)) (fun _ i _=>a.length - (intOf i).toNat)
 case atStart=>exact ⟨0,by omega,rfl,r,hid (Below.refl _ _)⟩
 case round =>
  obtain ⟨k,hk,rfl,B,C⟩:=hrel;clear r;have o:=Zcx a k;rw [I.out] at o
  by_cases l:k<a.length
  ·obtain ⟨b,off,x,rfl,c,L⟩:=Z.out.at_ l;have E:=(C.out.cell (p:=⟨b,off+k,none⟩) (Zlb c)).trans c;have aa:=Y.out a[k] (XH l);have m:=Zgf a l;have j:=Zcx a (k+1);rw [I.out,m,Xd] at j;have T:=ZqZ x a[k] wr (Zq.below L C.out) (by omega);have W:=Zbu a[k];generalize a[k]=y at *;obtain ⟨p2,R,rfl,U,s⟩:=L.shape;unfold maxLen at s;have HK:=hid T;have HN:=hid m;generalize Zah y=F at *;generalize Zw (a.take k)=S at *;have N:S.length+F.length<=140737488355328:=by omega
   clear T L m j o c;go_wp2_with fail;refine HK.out.mono ?_;rintro e w4 ⟨v4,rfl,g,n⟩;have M:=hid (B.out.keep n);have O:=hid g.brow;have A:=grow C.out n;have v:=A.size;clear g n B;go_wp2_with (at_builtin;refine Zg rfl _ _ rfl w.heap.size _ S rfl M.out _ F rfl O.out N v ?_)
   intro v6 w6 d z;rw [<- HN.out] at d;have G:=hid d;have J:=hid (A.trans z);clear d z;go_wp2_with fail;go_roundw
   case rel=>exact ⟨k+1,by omega,by go_num,G,J⟩
   case measure=>simp [intOf];omega
  ·obtain rfl:k=a.length:=by omega
   have f:=B.out;rw [XC,I.out] at f;have HF:=hid f;clear f B o;go_wp2_with fail;go_ret2;exact ⟨_,rfl,HF.out,C.out⟩
theorem ZhK (v:Value) (l:Xu) (w:World) (n:Zq w v l) (g:l.length<=140737488355328):Calls prog 106 #[v] w (ZS w.heap.size l w):=by
 have k:Za0 w.heap.size w v (Lib.byteCells l):=n;obtain ⟨p,f,rfl,s,h2,r,h⟩:=k;rw [Zi];rw [Zi] at s;cases p with
 | none =>
   have h0:=r rfl;have o:l=[]:=XO (by omega);subst o;refine (Tryz.bytes_Clone_nil _ f w).mono ?_;rintro e w' ⟨rfl,rfl⟩;exact ⟨_,rfl,Zgr _ _,Below.refl _ _⟩
 | some a =>
   refine (Tryz.bytes_Clone_at a l.length f (l.map (fun c=>(c.toNat:Int))) w (by rw [XE]) g (fun i hi => ?_)).mono ?_
   ·rcases h with h|⟨b,off,j,_,m⟩
    ·have:=Zi l;rw [h] at this;simp at this;omega
    ·injection j with j;subst j;rw [ZY,m i _ (Zft l i hi)];simp [List.getD,XW hi]
   ·rintro e w' ⟨v',rfl,d,_,q⟩;refine ⟨v',rfl,?_,q⟩;unfold Zd;have e:(l.map (fun c=>(c.toNat:Int))).map (Value.int .u8)=Lib.byteCells l:=by simp [Lib.byteCells]
    rw [e] at d;exact d
theorem ZBz (n:Int) (w:World) (h0 : -9223372036854775808<=n) (h1:n<=9223372036854775807):Calls prog 142 #[.int .i64 n] w fun e w'=>e=.returned (.int .i64 (ZoB n))/\w=w':=by
 by_cases b:n<0\/16777216<n
 ·have e:ZoB n=0:=by unfold ZoB;rw [Xe b]
  rw [e];clear e
  by_cases a:n<0
  ·have c:decide (n<0)=true:=by simp [a]
   go_enter func142,ntmps142;go_wp2_with fail;go_ret;exact ⟨rfl,rfl⟩
  ·have c:decide (n<0)=false:=by simp;omega
   have g:decide (n>16777216)=true:=by simp;omega
   go_enter func142,ntmps142;go_wp2_with fail;go_ret;exact ⟨rfl,rfl⟩
 ·obtain ⟨m,rfl⟩:=XaK (show 0<=n by omega);have d:m<=16777216:=by omega
  have e:=ZoC d;have k:=fun W=>ZcN m W (by omega);have hb:=Zc m;generalize (Zb m).length=L at *;have h:=hid e;have f:=hid k;have c:decide ((m:Int)<0)=false:=by simp
  have g:decide ((m:Int)>16777216)=false:=by simp;omega
  clear e k b;go_enter func142,ntmps142;go_wp2_with fail;refine (f.out _).mono ?_;rintro e w1 ⟨rfl,rfl⟩;go_wp2_with fail;go_ret;rw [h.out];exact ⟨by go_num,rfl⟩
theorem ZwG (B:Nat) (v u:Value) (l p:Xu) (w:World) (i:Zd B w v l) (hp:Z3 B w u p) (an:p.length<=16777216) (z:l.length+(Zah p).length<=70368744177664) (hB:B<=w.heap.size) :
  Calls prog 143 #[v,u] w (ZS B (l++Zah p) w):=by
 obtain ⟨q,y,rfl,hc,hm⟩:=hp.shape;have T:=fun W=>Zdg (.slice none 0 0) [] p.length W (by omega) (Zq.nil_ W) (by simp);rw [Xz] at T;have N:=fun W v1 (h1:Zq W v1 (Zb p.length)) (h2:Zq W (.slice q p.length y) p)=>ZtU _ _ _ (ZqU h1 h2);simp only [Zqh] at N;have X:=ZcH p;have hs:=Zjy (Zb p.length++p);have s:=Zcr (ZaU (Zb p.length++p));have I:l++Zah p=((l++Zb p.length)++Ze2 (ZaU (Zb p.length++p)))++p:=by unfold Zah;simp
 rw [I];clear I;generalize hS:ZaU (Zb p.length++p)=S at *;generalize Zb p.length=H at *;have ac:l.length+H.length<=140737488355328:=by omega
 have J:(l++H).length+(Ze2 S).length<=140737488355328:=by rw [Xd,s];omega
 have F:(l++H++Ze2 S).length+p.length<=140737488355328:=by rw [Xd,Xd,s];omega
 have j:=fun W=>ZtF W S hs;generalize Ze2 S=Z at *;obtain ⟨X1,f⟩:=Xn (l++H);obtain ⟨X2,g⟩:=Xn (X1++Z);obtain ⟨X3,o⟩:=Xn (X2++p);rw [f,g] at F;rw [f] at J;rw [f,g,o];have ad:=hid f;have ab:=hid g;have R:=hid o;have K1:=hid T;have K2:=hid N;have HP:=hid hp;have HO:=hid i;have HL:=hid j;clear T N hp i j X s z hS f g o;go_enter func143,ntmps143;go_wp2_with fail;refine (K1.out _).mono ?_;rintro e V ⟨v1,rfl,c,h⟩;obtain ⟨q1,x,rfl,al,am⟩:=c.brow.shape;have H1:=hid c.brow;have af:=hid ((HP.out.below (h.mono hB)).row (by have:=h.size;omega));have r:Below V.heap.size V (V.alloc (.cells #[.slice q1 H.length x,.slice q p.length y] 23)):=(Below.refl _ _).alloc (Xc _) _;have G:=grow h r;clear c;go_wp2_with fail;refine (K2.out _ _ H1.out af.out).mono ?_;rintro e w2 ⟨rfl,m⟩;have t:=grow G m;have H2:=hid (H1.out.below (grow r m));have aa:=hid (HO.out.keep t);have ak:=t.size;clear h r G m HO;go_wp2_with (at_builtin;refine Zg rfl _ _ rfl B _ l rfl aa.out _ H rfl H2.out ac (by omega) ?_)
 intro v3 L b ag;have C:Below B w L:=(t.mono hB).trans ag;have aj:=C.size;have n:B<=L.heap.size:=by omega
 rw [ad.out] at b;have A:=Zd.keep b ((Below.refl L.heap.size L).alloc (Xc _) (.cells #[.int .u8 ((S:Int) / 16777216),.int .u8 ((S:Int) / 65536%256),.int .u8 ((S:Int) / 256%256),.int .u8 ((S:Int)%256)] 5));have E:=C.alloc n (.cells #[.int .u8 ((S:Int) / 16777216),.int .u8 ((S:Int) / 65536%256),.int .u8 ((S:Int) / 256%256),.int .u8 ((S:Int)%256)] 5);have ah:=E.size;have ae:=hid A;clear b A;go_wp2_with (at_builtin;refine Zg rfl _ _ rfl B _ X1 rfl ae.out _ Z rfl (HL.out L) J (by omega) ?_)
 intro v4 w4 a U;have k:=E.trans U;have ai:=k.size;rw [ab.out] at a;have O:=hid a;have Y:=hid ((HP.out.below k).row (by omega));clear a;go_wp2_with (at_builtin;refine Zg rfl _ _ rfl B _ X2 rfl O.out _ p rfl Y.out F (by omega) ?_)
 intro v5 w5 d D;rw [R.out] at d;have M:=hid d;clear d;go_wp2_with fail;go_ret;exact ⟨_,rfl,M.out,k.trans D⟩
theorem ZoT (v vs:Value) (l:Xu) (a:List Xu) (w:World) (Z:Zq w v l) (hs:Zbp w vs a) (A:∀p∈a,p.length<=16777216) (ag:l.length+(Zw a).length<=35184372088832) :
  Calls prog 85 #[v,vs] w (Zlv w.heap.size (l++Zw a) w):=by
 obtain ⟨p,al,rfl,ai,aa⟩:=Z.shape;obtain ⟨q,ah,rfl,ak,ab⟩:=hs.shape;unfold maxLen at aa ab;have HR:=hid Z;have HS:=hid hs;have HA:=hid A;obtain ⟨X,hX⟩:=Xn (l++Zw a);rw [hX];have HX:=hid hX;clear Z hs A hX;go_enter func85,ntmps85;go_wp2_with fail
 go_loop [6,16] (fun s i=>∃k z:Nat,k<=a.length/\i=.int .i64 k/\s=.int .i64 z/\z=l.length+(Zw (a.take k)).length) (fun _ i=>a.length - (intOf i).toNat)
 case atStart=>exact ⟨0,l.length,by omega,rfl,rfl,by simp [Zw]⟩
 case round =>
  obtain ⟨k,z,hk,rfl,rfl,hz⟩:=hrel;have o:=Zcx a k
  by_cases d:k<a.length
  ·obtain ⟨b,off,x,rfl,c,D⟩:=HS.out.at_ d;have C:=HA.out a[k] (XH d);have g:=Zgf a d;have f:=Zcx a (k+1);rw [g,Xd] at f;have G:=Zrd C;have B:=fun W=>ZBz (a[k].length:Int) W (by omega) (by omega);rw [G] at B;have aj:z+(Zah a[k]).length<=35184372088832:=by omega
   have H:z+(Zah a[k]).length=l.length+(Zw (a.take (k+1))).length:=by rw [g,Xd];omega
   generalize a[k]=y at *;obtain ⟨p2,E,rfl,M,t⟩:=D.shape;have af:=Zbu y;generalize (Zah y).length=F at *;unfold maxLen at t;have HK:=hid B;have HZ:=hid H;clear B D g H hz o f G;go_wp2_with fail;refine (HK.out _).mono ?_;rintro e w1 ⟨rfl,rfl⟩;go_wp2_with fail
   go_round
   case rel=>exact ⟨k+1,z+F,by omega,by go_num,by go_num,HZ.out⟩
   case measure=>simp [intOf];omega
  ·obtain rfl:k=a.length:=by omega
   rw [XC] at hz;clear o d hk;go_wp2_with (at_make;refine Zfq rfl _ rfl w.heap.size _ z rfl rfl (by omega) (Xc _) ?_)
   intro v1 w1 n r;have I:=r.size;have J:=hid n;have T:=hid (HR.out.below r);have ad:([]:Xu).length+l.length<=140737488355328:=by rw [Xm];omega
   clear n;go_wp2_with (at_builtin;refine Zg rfl _ _ rfl w.heap.size _ [] rfl J.out _ l rfl T.out ad I ?_)
   intro v2 w2 h N;have Y:=r.trans N;have O:Hid (Zd w.heap.size w2 v2 (l++Zw (a.take 0))):=hid (by rw [XaJ,ZbL,XI];exact h);clear h r N;go_wp2_with fail
   go_loopw [9,35] (fun u i wr=>∃k:Nat,k<=a.length/\i=.int .i64 k/\Hid (Zd w.heap.size wr u (l++Zw (a.take k)))/\Hid (Below w.heap.size w wr)) (fun _ i _=>a.length - (intOf i).toNat)
   case atStart=>exact ⟨0,by omega,rfl,O,hid Y⟩
   case round =>
    obtain ⟨k,hk,rfl,V,L⟩:=hrel;clear O J T;have o:=Zcx a k
    by_cases d:k<a.length
    ·obtain ⟨b,off,x,rfl,c,D⟩:=HS.out.at_ d;have U:=(L.out.cell (p:=⟨b,off+k,none⟩) (Zlb c)).trans c;have C:=HA.out a[k] (XH d);have g:=Zgf a d;have f:=Zcx a (k+1);rw [g,Xd] at f;have R:Z3 w.heap.size wr x a[k]:=Z3.below D L.out;have B:=ZwG w.heap.size _ x (l++Zw (a.take k)) a[k] wr V.out R C (by rw [Xd];omega) L.out.size;rw [Xl,<- g] at B;obtain ⟨p2,E,rfl,M,t⟩:=D.shape;have HK:=hid B;clear B D g f o R c;go_wp2_with fail;refine HK.out.mono ?_;rintro e w4 ⟨v4,rfl,m,S⟩;have ae:=hid m;have ac:=hid (L.out.trans S);clear m S;go_wp2_with fail;go_roundw
     case rel=>exact ⟨k+1,by omega,by go_num,ae,ac⟩
     case measure=>simp [intOf];omega
    ·obtain rfl:k=a.length:=by omega
     have j:=V.out;rw [XC,HX.out] at j;have HF:=hid j;clear j V o;go_wp2_with fail;go_ret2;exact ⟨_,rfl,HF.out,L.out⟩
theorem ZAK (v:Value) (b:List Xu) (w:World) (hs:Zbp w v b) (c:∀p∈b,p.length<=16777216) (d:(Zw b).length<=35184372088832) :
  Calls prog 40 #[v] w (Zlv w.heap.size (Zw b) w):=by
 have h:=ZoT (.slice none 0 0) v [] b w (Zq.nil_ w) hs c (by rw [Xm];omega);rw [Xz] at h;generalize Zw b=X at *;have i:=hid h;clear h hs;go_enter func40,ntmps40;go_wp2_with fail;refine i.out.mono ?_;rintro e w1 ⟨v1,rfl,a,g⟩;have f:=hid a;clear a;go_wp2_with fail;go_ret2;exact ⟨_,rfl,f.out,g⟩
end FP
namespace FG
open RowKit MM VM CM FM VP CR FP VG
variable {l:Xu}
theorem ZuF (c d e f:Nat) (h0:c<256) (h1:d<256) (h2:e<256) (h3:f<256) :
  bits .or .u32 (bits .or .u32 (bits .or .u32 ((c:Int)*16777216) ((d:Int)*65536)) ((e:Int)*256)) (f:Int)=((c*16777216+d*65536+e*256+f:Nat):Int):=by
 have o:∀a b i:Nat,b<2^i->2^i*a ||| b=2^i*a+b:=fun a b i k=>(Nat.two_pow_add_eq_or_of_lt k a).symm;rw [show (c:Int)*16777216=((c*16777216:Nat):Int) by omega,show (d:Int)*65536=((d*65536:Nat):Int) by omega,show (e:Int)*256=((e*256:Nat):Int) by omega];have g:=o c (d*65536) 24 (by omega);rw [show 2^24*c=c*16777216 by omega] at g;rw [u32_or_nat _ _ (by omega) (by omega),g];have j:=o (c*256+d) (e*256) 16 (by omega);rw [show 2^16*(c*256+d)=c*16777216+d*65536 by omega] at j;rw [u32_or_nat _ _ (by omega) (by omega),j];have h:=o (c*65536+d*256+e) f 8 (by omega);rw [show 2^8*(c*65536+d*256+e)=c*16777216+d*65536+e*256 by omega] at h;rw [u32_or_nat _ _ (by omega) (by omega),h]
theorem Ztu:∀(l:Xu) (h:4<=l.length),Zk1 (l.take 4)=l[0].toNat*16777216+l[1].toNat*65536+l[2].toNat*256+l[3].toNat
 | a::b::c::d::l,_=>rfl
 | [],h=>by simp at h
 | [_],h=>by simp at h
 | [_,_],h=>by simp at h
 | [_,_,_],h=>by simp at h
theorem ZCT {k:IntKind} {a b:Int} (h:a=b):Ending.returned (.int k a)=.returned (.int k b):=by rw [h]
theorem ZuE (v:Value) (l:Xu) (w:World) (a:Zq w v l) (q:4<=l.length) :
  Calls prog 154 #[v] w fun e w'=>e=.returned (.int .u32 (Zk1 (l.take 4)))/\Below w.heap.size w w':=by
 obtain ⟨p,o,rfl,s,u⟩:=a.shape;obtain ⟨b,off,rfl,r,c0⟩:=a.at_ (k:=0) (by omega);obtain ⟨b1,h,f,_,c1⟩:=a.at_ (k:=1) (by omega);obtain ⟨b2,j,c,_,c2⟩:=a.at_ (k:=2) (by omega);obtain ⟨b3,m,d,_,c3⟩:=a.at_ (k:=3) (by omega);simp only [Xv,Addr.mk.injEq] at f c d;obtain ⟨rfl,rfl,_⟩:=f;obtain ⟨rfl,rfl,_⟩:=c;obtain ⟨rfl,rfl,_⟩:=d;have A:=l[0].toNat_lt;have D:=l[1].toNat_lt;have y:=l[2].toNat_lt;have x:=l[3].toNat_lt;have i:=Ztu l q;generalize l[0].toNat=B at *;generalize l[1].toNat=n at *;generalize l[2].toNat=t at *;generalize l[3].toNat=z at *;have g:=ZuF B n t z A D y x;rw [<- i] at g;generalize Zk1 (l.take 4)=F at *;have C:=hid g;clear a g i;rw [Xah] at c0;go_enter func154,ntmps154;go_wp2_with fail;go_quiet (fail)
 go_wp2_with fail;go_ret;exact ⟨ZCT C.out,MM.below_drewN (Below.refl _ _) nq⟩
def ZCL (B:Nat) (p:Xu) (c:Int) (rest:Xu) (w:World) (e:Ending) (w':World):Prop :=
 ∃b a,e=.returned (.tuple #[b,a,.int .i64 c])/\Zq w' b p/\Z3 B w' a rest/\Below w.heap.size w w'
def ZB0 (B:Nat) (p:Xu) (c:Int) (rest:Xu) (w:World) (e:Ending) (w':World):Prop :=
 ∃b a,e=.returned (.tuple #[b,a,.int .i64 c])/\Zd w.heap.size w' b p/\Z3 B w' a rest/\Below w.heap.size w w'
theorem ZBV {n k:Nat} (h:Zk l=(n,k,0)):Zab l=l.drop k:=by unfold Zab;rw [h];rfl
theorem Zq6 (h:Zk l=(0,0,6)):Zab l=[]:=by unfold Zab;rw [h];rfl
theorem Zy0 (h:Zk l=(0,0,20)):Zab l=[]:=by unfold Zab;rw [h];rfl
theorem ZAy (B:Nat) (v:Value) (l:Xu) (w:World) (x:Z3 B w v l) (hB:B<=w.heap.size) :
  Calls prog 100 #[v] w (ZB0 B (ZaP l).1 (ZaP l).2.2 (ZgK l) w):=by
 obtain ⟨p,D,rfl,ar,ag⟩:=x.shape;unfold maxLen at ag;have i:=Zj0 B _ l w x hB;rcases FM.Zcj l with ⟨n,k,g,hb,aq,aa⟩|g|g
 ·rw [g,ZBV g] at i
  by_cases hn:n<=16777216
  ·have d:=Zi2 g hn;have E:(l.drop k).length=l.length - k:=Xj;obtain ⟨Y,U⟩:=Xn (l.drop k);rw [U] at i d E;have z:=hid i;have t1:decide ((n:Int)>16777216)=false:=by simp;omega
   by_cases hs:Y.length<4+n
   ·rw [Xe hs] at d;rw [d,Zbl d (by omega)];clear d i x g U;go_enter func100,ntmps100;go_wp2_with fail;refine z.out.mono ?_;rintro e s ⟨V,rfl,a,f⟩;obtain ⟨p2,c,rfl,N,q⟩:=a.shape;unfold maxLen at q;clear a;go_wp2_with fail
    go_ret3
    exact ⟨_,_,rfl,Zgr w.heap.size _,Z3.nil_ _ _,f⟩
   ·rw [Xa hs] at d;have Z:=hid d;have HL:=hid x;have an:(l.length:Int) - (Y.length:Int)=(k:Int):=by omega
    have af:=hid U;clear d i x g U;go_enter func100,ntmps100;go_wp2_with fail;refine z.out.mono ?_;rintro e s ⟨V,rfl,a,f⟩;obtain ⟨p2,c,rfl,N,q⟩:=a.shape;unfold maxLen at q;have HY:=hid a;obtain ⟨b,off,rfl,ao,ad⟩:=a.at_ (k:=0) (by omega);clear ad;have i1:(k:Int)<=(D:Int):=by omega
    have i2:(4:Int)+n<=(Y.length:Int):=by omega
    have i3:(Y.length:Int)<=(c:Int):=by omega
    have au:=hid E
    have hP:Z3 B s (.slice (if c=4 then some ⟨b,off,none⟩ else some ⟨b,off+4,none⟩) n (c - 4)) ((Y.drop 4).take n):=by
     have h:=(a.drop 4 (by omega)).take n (by omega);rw [Xai,ZY] at h;exact h
    have hQ:Z3 B s (.slice (if c=4+n then some ⟨b,off,none⟩ else some ⟨b,off+(4+n),none⟩) (Y.length - (4+n)) (c - (4+n))) (Y.drop (4+n)):=by
     have h:=a.drop (4+n) (by omega);rw [Xai,ZY] at h;exact h
    have hH:Z3 B w (.slice p k D) (l.take k):=HL.out.take k aa;have HP:=hid hP;have HQ:=hid hQ;have HH:=hid (hH.below (f.mono hB));have y:=fun W (h:Zq W (.slice (some ⟨b,off,none⟩) Y.length c) Y)=>ZuE _ _ W h (by omega);have R:((Y.drop 4).take n).length=n:=by rw [Xi,Xj];omega
    have M:l.drop (k+(4+n))=Y.drop (4+n):=by rw [<- af.out,XaM]
    generalize Zk1 (Y.take 4)=X at *;generalize Y.drop (4+n)=YR at *;generalize (Y.drop 4).take n=L at *;generalize l.take k=LH at *;have HF:=hid y;have ae:=hid M;have ap:n<=16777216:=hn;clear a E hP hQ hH y M;go_wp2_with fail;go_quiet (fail)
    generalize (if c=4 then some (⟨b,off,none⟩:Addr) else some ⟨b,off+4,none⟩)=q1 at *;generalize (if c=4+n then some (⟨b,off,none⟩:Addr) else some ⟨b,off+(4+n),none⟩)=q2 at *;obtain ⟨W,hW⟩:=Xn (s.drewN nq);have u:Below s.heap.size s W:=by rw [<- hW];exact MM.below_drewN (Below.refl _ _) nq
    rw [hW];have am:=hid ((HY.out.below (u.mono (by have:=f.size;omega))).row (by have:=f.size;have:=u.size;omega));go_wp2_with fail;refine (HF.out W am.out).mono ?_;rintro e I ⟨rfl,J⟩;have T:=grow f (grow u J);have G:Below B s I:=(grow u J).mono (by have:=f.size;omega);have r:B<=I.heap.size:=by have:=T.size;omega
    have ah:=hid ((HH.out.below G).row r);have t:=hid ((HP.out.below G).row r);rw [<- R] at t;have hK:=hid (Zqh LH L▸ZtU _ _ _ (ZqU ah.out t.out));rw [R] at hK t;have O:Below I.heap.size I (I.alloc (.cells #[.slice p k D,.slice q1 n (c - 4)] 23)):=(Below.refl _ _).alloc (Xc _) _;have ac:=hid (HQ.out.below G)
    by_cases A:X=ZaU (LH++L)
    ·have d:=Z.out;rw [Xa (by simp [A])] at d;have C:=hid (Zjq d);generalize ZaU (LH++L)=F2 at *;subst A;have ab:((X:Int) != (X:Int))=false:=by simp
     have F:=hid d;clear d Z;go_wp2_with fail;refine hK.out.mono ?_;rintro e w3 ⟨rfl,H⟩;have m:=grow O H;have ak:=hid (ZhK _ L w3 (t.out.below m) (by omega));have al:=hid (ac.out.below (m.mono r));go_wp2_with fail;refine ak.out.mono ?_;rintro e w4 ⟨v4,rfl,j,S⟩;have aj:=hid (j.weaken (B':=w.heap.size) (Xx T.size m.size));have ai:=hid (al.out.below (S.mono (by have:=m.size;omega)));have o:=grow (grow T m) S;clear j;go_wp2_with fail
     go_ret3
     rw [C.out,F.out,ae.out];exact ⟨_,_,rfl,aj.out,ai.out,o⟩
    ·have d:=Z.out;rw [Xe A] at d;have C:=hid (Zbl d (by omega));generalize ZaU (LH++L)=F2 at *;have ab:((X:Int) != (F2:Int))=true:=by rw [Xaa];omega
     have F:=hid d;clear d Z;go_wp2_with fail;refine hK.out.mono ?_;rintro e w3 ⟨rfl,H⟩;have o:=grow T (grow O H);go_wp2_with fail
     go_ret3
     rw [C.out,F.out];exact ⟨_,_,rfl,Zgr w.heap.size _,Z3.nil_ _ _,o⟩
  ·have d:=ZhO g (by omega);rw [d,Zbl d (by omega)];have z:=hid i;have t1:decide ((n:Int)>16777216)=true:=by simp;omega
   clear i d x g;go_enter func100,ntmps100;go_wp2_with fail;refine z.out.mono ?_;rintro e s ⟨V,rfl,a,f⟩;clear a;go_wp2_with fail
   go_ret3
   exact ⟨_,_,rfl,Zgr w.heap.size _,Z3.nil_ _ _,f⟩
 ·have d:=Zgg g;rw [g,Zq6 g] at i;rw [d,Zbl d (by omega)];have z:=hid i;clear i d x g;go_enter func100,ntmps100;go_wp2_with fail;refine z.out.mono ?_;rintro e s ⟨V,rfl,a,f⟩;clear a;go_wp2_with fail
  go_ret3
  exact ⟨_,_,rfl,Zgr w.heap.size _,Z3.nil_ _ _,f⟩
 ·have d:=Zi1 g;rw [g,Zy0 g] at i;rw [d,Zbl d (by omega)];have z:=hid i;clear i d x g;go_enter func100,ntmps100;go_wp2_with fail;refine z.out.mono ?_;rintro e s ⟨V,rfl,a,f⟩;clear a;go_wp2_with fail
  go_ret3
  exact ⟨_,_,rfl,Zgr w.heap.size _,Z3.nil_ _ _,f⟩
end FG
namespace VP
open RowKit MM VM
theorem Zho (v:Value) (l:Xu) (s:ByteArray) (w:World) (A:Zq w v l) (y:l.length+s.size<=17592186044416) :
  Calls prog 199 #[v,.string s] w (ZS w.heap.size (l++Z1 s.data.toList) w):=by
 have C:s.data.toList.length=s.size:=(Lib.size_eq s).symm;have j:=Zc s.size;have o:=fun W=>ZcN s.size W (by omega);have i:=fun W (h:Zq W v l)=>ZmV v l ((Zb s.size).length+s.size:Int) ((Zb s.size).length+s.size) W (by omega) h (by omega);have n:=fun B u W (h:Zd B W u l) J=>ZoU B u l s.size W (by omega) h (by omega) J;have hm:s.size<=9223372036854775807:=by omega
 have d:(l++Zb s.size).length+s.size<=140737488355328:=by rw [Xd];omega
 unfold Z1;rw [C,<- Xl];obtain ⟨L,z⟩:=Xn ((Zb s.size).length);simp only [z] at o i;have D:L<=10:=by omega
 obtain ⟨T,t⟩:=Xn (l++Zb s.size);simp only [t] at n d;rw [t];have G:=hid o;have M:=hid i;have H:=hid n;have F:=hid A;clear o i n A z j C t;go_enter func199,ntmps199;go_wp2_with fail;refine (G.out _).mono ?_;rintro e I ⟨rfl,rfl⟩;go_wp2_with fail;refine (M.out _ F.out).mono ?_;rintro e I ⟨v1,rfl,c,f⟩;have m:=f.size;have E:=hid c;clear c;go_wp2_with fail;refine (H.out _ _ _ E.out m).mono ?_;rintro e w2 ⟨v2,rfl,a,p⟩;have x:=f.trans p;have g:=x.size;have q:=hid a;clear a;go_wp2_with (at_builtin;refine wpList_append_text rfl _ _ rfl w.heap.size _ _ rfl q.out _ rfl d g ?_)
 intro v3 w3 b k;have r:=hid b;clear b;go_wp2_with fail;go_ret;exact ⟨_,rfl,r.out,x.trans k⟩
theorem Zoz (s:ByteArray) (w:World) (l:s.size<=17592186044416) :
  Calls prog 145 #[.string s] w (ZS w.heap.size (Z1 s.data.toList) w):=by
 have m:s.data.toList.length=s.size:=(Lib.size_eq s).symm;have j:=Zc s.size;have f:=fun W=>ZcX s.size W (by omega);have hm:s.size<=9223372036854775807:=by omega
 have d:(Zb s.size).length+s.size<=140737488355328:=by omega
 unfold Z1;rw [m];obtain ⟨T,h⟩:=Xn (Zb s.size);simp only [h] at f d;rw [h];have n:=hid f;clear f m h j;go_enter func145,ntmps145;go_wp2_with fail;refine (n.out _).mono ?_;rintro e w1 ⟨v1,rfl,a,c⟩;have g:=c.size;have o:=hid a;clear a;go_wp2_with (at_builtin;refine wpList_append_text rfl _ _ rfl w.heap.size _ _ rfl o.out _ rfl d g ?_)
 intro v3 w3 b k;have i:=hid b;clear b;go_wp2_with fail;go_ret;exact ⟨_,rfl,i.out,c.trans k⟩
end VP
namespace VG
open RowKit MM VM VP
theorem Zcj (l:Xu):(∃n k,Zk l=(n,k,0)/\n<18446744073709551616/\1<=k/\k<=l.length)\/Zk l=(0,0,6)\/Zk l=(0,0,20):=by
 have h:=ZaN l;rcases h.2.2.1 with a|a
 ·exact .inl ⟨(Zk l).1,(Zk l).2.1,by rw [<- a],h.1,h.2.2.2 a,h.2.1⟩
 ·exact .inr a
theorem ZmR {l:Xu} {n k:Nat} (h:Zk l=(n,k,0)):Zab l=l.drop k:=by unfold Zab;rw [h];rfl
theorem Zhp {l:Xu} (h:Zk l=(0,0,6)):Zab l=[]:=by unfold Zab;rw [h];rfl
theorem Zkd {l:Xu} (h:Zk l=(0,0,20)):Zab l=[]:=by unfold Zab;rw [h];rfl
def Zbd (l:Xu) (a:Int):Xu:=if (ZW l a).2.2=0 then l.drop (ZW l a).2.1 else []
theorem Ztv {l:Xu} {n k:Nat} (h:Zk l=(n,k,0)) (a:Int) :
  (max 0 a<(n:Int)->(ZW l a).1=[]/\(ZW l a).2.2=2/\Zbd l a=[]) /\
  (¬max 0 a<(n:Int)->(l.drop k).length<n->(ZW l a).1=[]/\(ZW l a).2.2=6/\Zbd l a=[]) /\
  (¬max 0 a<(n:Int)->¬(l.drop k).length<n->(ZW l a).1=(l.drop k).take n/\(ZW l a).2.2=0/\Zbd l a=(l.drop k).drop n):=by
 rw [Xj];refine ⟨fun b => ?_,fun b c => ?_,fun b c => ?_⟩
 ·have e:ZW l a=([],0,2):=by unfold ZW;rw [h];simp [b]
  unfold Zbd;rw [e];exact ⟨rfl,rfl,rfl⟩
 ·have e:ZW l a=([],0,6):=by
   unfold ZW;rw [h]
   show (if (0:Int)≠0 then _ else if max 0 a<(n:Int) then _ else if l.length - k<n then _ else _)=_
   rw [Xa (by simp),Xa b,Xe c]
  unfold Zbd;rw [e];exact ⟨rfl,rfl,rfl⟩
 ·have e:ZW l a=((l.drop k).take n,k+n,0):=by
   unfold ZW;rw [h]
   show (if (0:Int)≠0 then _ else if max 0 a<(n:Int) then _ else if l.length - k<n then _ else _)=_
   rw [Xa (by simp),Xa b,Xa c]
  unfold Zbd;rw [e,XaM];exact ⟨rfl,rfl,rfl⟩
theorem Zi3 {l:Xu} {b:Int} (h:Zk l=(0,0,b)) (c:b≠0) (a:Int):(ZW l a).1=[]/\(ZW l a).2.2=b/\Zbd l a=[]:=by
 have e:ZW l a=([],0,b):=by
  unfold ZW;rw [h]
  show (if b≠0 then _ else _)=_
  rw [Xe c]
 unfold Zbd;rw [e];exact ⟨rfl,rfl,Xa c⟩
theorem ZkQ (B:Nat) (v:Value) (l:Xu) (b:Int) (w:World) (I : -9223372036854775808<=b) (O:b<=9223372036854775807) (u:Z3 B w v l) (J:B<=w.heap.size) :
  Calls prog 164 #[v,.int .i64 b] w (Zns B (.string ⟨(ZW l b).1.toArray⟩) (ZW l b).2.2 (Zbd l b) w):=by
 have m:=Zfj B v l w u J;rcases Zcj l with ⟨n,k,f,hb,E,F⟩|f|f
 ·rw [f,ZmR f] at m;have c:=Ztv f b;obtain ⟨R,D⟩:=Xn (l.drop k);rw [D] at m c;have q:=hid m;obtain ⟨M,hM⟩:=Xn (max 0 b);have s:max 0 b=M:=by omega
  have H:0<=M/\M<=9223372036854775807:=by omega
  rw [s] at c;clear m u f D s I O
  by_cases z:M<(n:Int)
  ·obtain ⟨h,i,g⟩:=c.1 z;rw [h,i,g];clear c h i g;go_enter func164,ntmps164;go_wp2_with fail;refine q.out.mono ?_;rintro e o ⟨x,rfl,a,d⟩;clear a;go_wp2_with fail
   go_ret3
   exact ⟨_,rfl,Z3.nil_ _ o,d⟩
  ·by_cases hs:R.length<n
   ·obtain ⟨h,i,g⟩:=c.2.1 z hs;rw [h,i,g];clear c h i g;go_enter func164,ntmps164;go_wp2_with fail;refine q.out.mono ?_;rintro e o ⟨x,rfl,a,d⟩;obtain ⟨p,t,rfl,y,r⟩:=a.shape;unfold maxLen at r;clear a;go_wp2_with fail
    go_ret3
    exact ⟨_,rfl,Z3.nil_ _ o,d⟩
   ·obtain ⟨h,i,g⟩:=c.2.2 z hs;rw [h,i,g];obtain ⟨T,A⟩:∃T:ByteArray,(⟨(R.take n).toArray⟩:ByteArray)=T:=⟨_,rfl⟩;rw [A];have N:=hid A;clear c h i g A;go_enter func164,ntmps164;go_wp2_with fail;refine q.out.mono ?_;rintro e o ⟨x,rfl,a,d⟩;obtain ⟨p,t,rfl,y,r⟩:=a.shape;unfold maxLen at r;have j:=fun nq=>((a.take n (by omega)).drewN nq).conv;simp only [N.out] at j;have C:=hid (a.drop3 n (by omega));have L:(n:Int)<=(R.length:Int):=by omega
    have G:(R.length:Int)<=(t:Int):=by omega
    clear a;go_wp2_with fail;go_quiet (fail)
    clear j;go_wp2_with fail
    ·go_ret3
     exact ⟨_,rfl,(C.out.1 (by assumption)).drewN nq,MM.below_drewN d nq⟩
    ·go_ret3
     exact ⟨_,rfl,(C.out.2 (by assumption)).drewN nq,MM.below_drewN d nq⟩
 ·rw [f,Zhp f] at m;obtain ⟨h,i,g⟩:=Zi3 f (by decide) b;rw [h,i,g];have q:=hid m;clear m u f h i g;go_enter func164,ntmps164;go_wp2_with fail;refine q.out.mono ?_;rintro e o ⟨x,rfl,a,d⟩;clear a;go_wp2_with fail
  go_ret3
  exact ⟨_,rfl,Z3.nil_ _ o,d⟩
 ·rw [f,Zkd f] at m;obtain ⟨h,i,g⟩:=Zi3 f (by decide) b;rw [h,i,g];have q:=hid m;clear m u f h i g;go_enter func164,ntmps164;go_wp2_with fail;refine q.out.mono ?_;rintro e o ⟨x,rfl,a,d⟩;clear a;go_wp2_with fail
  go_ret3
  exact ⟨_,rfl,Z3.nil_ _ o,d⟩
end VG
namespace VP
open RowKit MM VM
theorem Zrs (x:BitVec 64):(x ^^^ BitVec.allOnes 64).toNat=18446744073709551615 - x.toNat:=by
 rw [BitVec.xor_allOnes,BitVec.toNat_not]
theorem Zj6 (x:Nat) (h:x<18446744073709551616):(BitVec.ofInt 64 (x:Int)).toNat=x:=by
 rw [BitVec.ofInt_natCast,BitVec.toNat_ofNat];exact Nat.mod_eq_of_lt (by omega)
theorem Zsp:BitVec.ofInt 64 18446744073709551615=BitVec.allOnes 64:=by decide
theorem Zso:BitVec.ofInt 64 (-1)=BitVec.allOnes 64:=by decide
theorem ZBN (n:Int) (h0 : -9223372036854775808<=n) (h1:n<=9223372036854775807) :
  bits .xor .u64 (IntKind.u64.wrap (IntKind.u64.wrap n*2)) (IntKind.u64.wrap (n / 9223372036854775808))=(zig n:Int):=by
 unfold zig
 by_cases h:0<=n
 ·obtain ⟨m,rfl⟩:=XaK h;have a:IntKind.u64.wrap ((m:Int) / 9223372036854775808)=((0:Nat):Int):=by rw [IntKind.wrap_u64];omega
  have c:IntKind.u64.wrap (IntKind.u64.wrap (m:Int)*2)=((2*m:Nat):Int):=by rw [IntKind.wrap_u64,IntKind.wrap_u64];omega
  rw [a,c,u64_xor_nat _ _ (by omega) (by omega),Nat.xor_zero,Xe h];omega
 ·have a:IntKind.u64.wrap (n / 9223372036854775808)=18446744073709551615:=by rw [IntKind.wrap_u64];omega
  obtain ⟨x,d,b⟩:∃x:Nat,IntKind.u64.wrap (IntKind.u64.wrap n*2)=(x:Int)/\(x:Int)=2*n+18446744073709551616:=⟨(2*n+18446744073709551616).toNat,by rw [IntKind.wrap_u64,IntKind.wrap_u64];omega,by omega⟩;rw [a,d,Xa h]
  show IntKind.u64.wrap ((BitVec.ofInt 64 (x:Int) ^^^ BitVec.ofInt 64 18446744073709551615).toNat:Int)=_
  rw [Zsp,Zrs,Zj6 x (by omega),IntKind.wrap_u64];omega
theorem Zv8 (n:Nat) (c:n<18446744073709551616):bits .xor .i64 ((n:Int) / 2) (wrap64 (-wrap64 (bits .and .u64 (n:Int) 1)))=zag n:=by
 have d:bits .and .u64 (n:Int) 1=((n%2:Nat):Int):=by
  have:=u64_and_nat n 1 c (by omega);rw [Nat.and_one_is_mod] at this;exact this
 have b:(n:Int) / 2=((n / 2:Nat):Int):=by omega
 rw [d,b];unfold zag
 by_cases h:n%2=0
 ·rw [Xe h,h];have a:wrap64 (-wrap64 ((0:Nat):Int))=0:=by unfold wrap64;omega
  rw [a]
  show IntKind.i64.wrap ((BitVec.ofInt 64 ((n / 2:Nat):Int) ^^^ BitVec.ofInt 64 0).toNat:Int)=_
  rw [show BitVec.ofInt 64 0=0#64 from by decide,BitVec.xor_zero,Zj6 _ (by omega),IntKind.wrap_i64];omega
 ·have e:n%2=1:=by omega
  rw [Xa h,e];have a:wrap64 (-wrap64 ((1:Nat):Int)) = -1:=by unfold wrap64;omega
  rw [a]
  show IntKind.i64.wrap ((BitVec.ofInt 64 ((n / 2:Nat):Int) ^^^ BitVec.ofInt 64 (-1)).toNat:Int)=_
  rw [Zso,Zrs,Zj6 _ (by omega),IntKind.wrap_i64];omega
theorem Zou {k:IntKind} {a b:Int} (h:a=b):Ending.returned (.int k a)=.returned (.int k b):=by rw [h]
theorem ZBM {n:Int} (h:0<=n):2*n=(zig n:Int):=by unfold zig;rw [Xe h];omega
theorem ZBL {n:Int} (h:¬ 0<=n):2*(-1 - n)+1=(zig n:Int):=by unfold zig;rw [Xa h];omega
theorem ZzU {n:Nat} (h:n%2=0):(n:Int) / 2=zag n:=by unfold zag;rw [Xe h];omega
theorem ZBJ {n:Nat} (h:¬n%2=0) : -1 - (n:Int) / 2=zag n:=by unfold zag;rw [Xa h];omega
theorem Zpx (n:Int) (w:World) (c : -9223372036854775808<=n) (b:n<=9223372036854775807):Calls prog 202 #[.int .i64 n] w fun e w'=>e=.returned (.int .u64 (zig n))/\w=w':=by
 have a:=hid (ZBN n c b);go_enter func202,ntmps202;go_wp2_with fail;go_ret;exact ⟨Zou a.out,rfl⟩
theorem Zv7 (n:Nat) (w:World) (b:n<18446744073709551616):Calls prog 286 #[.int .u64 n] w fun e w'=>e=.returned (.int .i64 (zag n))/\w=w':=by
 have a:=hid (Zv8 n b);go_enter func286,ntmps286;go_wp2_with fail;go_ret;exact ⟨Zou a.out,rfl⟩
theorem Zy8 (n:Int) (w:World) (h0 : -9223372036854775808<=n) (h1:n<=9223372036854775807):Calls prog 149 #[.int .i64 n] w fun e w'=>e=.returned (.int .u64 (zig n))/\w=w':=by
 by_cases h:0<=n
 ·have a:=hid (ZBM h);go_enter func149,ntmps149;go_wp2_with fail;go_ret;exact ⟨Zou a.out,rfl⟩
 ·have a:=hid (ZBL h);go_enter func149,ntmps149;go_wp2_with fail;go_ret;exact ⟨Zou a.out,rfl⟩
theorem Zvt (n:Nat) (w:World) (h1:n<18446744073709551616):Calls prog 210 #[.int .u64 n] w fun e w'=>e=.returned (.int .i64 (zag n))/\w=w':=by
 by_cases h:n%2=0
 ·have t:((n:Int)%2 == 0)=true:=by simp;omega
  have a:=hid (ZzU h);clear h;go_enter func210,ntmps210;go_wp2_with fail;go_ret;exact ⟨Zou a.out,rfl⟩
 ·have t:((n:Int)%2 == 0)=false:=by simp;omega
  have a:=hid (ZBJ h);clear h;go_enter func210,ntmps210;go_wp2_with fail;go_ret;exact ⟨Zou a.out,rfl⟩
theorem ZsB (v:Value) (l:Xu) (n:Int) (w:World) (g : -9223372036854775808<=n) (j:n<=9223372036854775807) (f:Zq w v l) (b:l.length<=35184372088832) :
  Calls prog 265 #[v,.int .i64 n] w (ZS w.heap.size (l++ZaY n) w):=by
 have d:=fun W=>Zpx n W g j;have i:=fun W (h:Zq W v l)=>Zdg v l (zig n) W (Zne g j) h b;unfold ZaY;generalize zig n=z at *;have o:=hid d;have q:=hid i;have k:=hid f;clear d i f;go_enter func265,ntmps265;go_wp2_with fail;refine (o.out _).mono ?_;rintro e m ⟨rfl,rfl⟩;go_wp2_with fail;refine (q.out _ k.out).mono ?_;rintro e m ⟨v1,rfl,a,c⟩;have p:=hid a;clear a;go_wp2_with fail;go_ret;exact ⟨_,rfl,p.out,c⟩
theorem ZmT (n:Int) (w:World) (d : -9223372036854775808<=n) (g:n<=9223372036854775807) :
  Calls prog 95 #[.int .i64 n] w (ZS w.heap.size (ZaY n) w):=by
 have c:=fun W=>Zy8 n W d g;have f:=fun W=>ZcX (zig n) W (Zne d g);unfold ZaY;generalize zig n=z at *;have i:=hid c;have k:=hid f;clear c f;go_enter func95,ntmps95;go_wp2_with fail;refine (i.out _).mono ?_;rintro e h ⟨rfl,rfl⟩;go_wp2_with fail;refine (k.out _).mono ?_;rintro e h ⟨v1,rfl,a,b⟩;have j:=hid a;clear a;go_wp2_with fail;go_ret;exact ⟨_,rfl,j.out,b⟩
end VP
namespace VG
open RowKit MM VM VP
theorem Zmj (B:Nat) (v:Value) (l:Xu) (b:Int) (w:World) (I : -9223372036854775808<=b) (O:b<=9223372036854775807) (u:Z3 B w v l) (J:B<=w.heap.size) :
  Calls prog 160 #[v,.int .i64 b] w (Zns B (.string ⟨(ZW l b).1.toArray⟩) (ZW l b).2.2 (Zbd l b) w):=by
 have m:=Zj0 B v l w u J;rcases Zcj l with ⟨n,k,f,hb,E,F⟩|f|f
 ·rw [f,ZmR f] at m;have c:=Ztv f b;obtain ⟨R,D⟩:=Xn (l.drop k);rw [D] at m c;have q:=hid m;obtain ⟨M,hM⟩:=Xn (max b 0);have s:max 0 b=M:=by omega
  have H:0<=M/\M<=9223372036854775807:=by omega
  rw [s] at c;clear m u f D s I O
  by_cases z:M<(n:Int)
  ·obtain ⟨h,i,g⟩:=c.1 z;rw [h,i,g];clear c h i g;go_enter func160,ntmps160;go_wp2_with fail;refine q.out.mono ?_;rintro e o ⟨x,rfl,a,d⟩;clear a;go_wp2_with fail
   go_ret3
   exact ⟨_,rfl,Z3.nil_ _ o,d⟩
  ·by_cases hs:R.length<n
   ·obtain ⟨h,i,g⟩:=c.2.1 z hs;rw [h,i,g];clear c h i g;go_enter func160,ntmps160;go_wp2_with fail;refine q.out.mono ?_;rintro e o ⟨x,rfl,a,d⟩;obtain ⟨p,t,rfl,y,r⟩:=a.shape;unfold maxLen at r;clear a;go_wp2_with fail
    go_ret3
    exact ⟨_,rfl,Z3.nil_ _ o,d⟩
   ·obtain ⟨h,i,g⟩:=c.2.2 z hs;rw [h,i,g];obtain ⟨T,A⟩:∃T:ByteArray,(⟨(R.take n).toArray⟩:ByteArray)=T:=⟨_,rfl⟩;rw [A];have N:=hid A;clear c h i g A;go_enter func160,ntmps160;go_wp2_with fail;refine q.out.mono ?_;rintro e o ⟨x,rfl,a,d⟩;obtain ⟨p,t,rfl,y,r⟩:=a.shape;unfold maxLen at r;have j:=fun nq=>((a.take n (by omega)).drewN nq).conv;simp only [N.out] at j;have C:=hid (a.drop3 n (by omega));have L:(n:Int)<=(R.length:Int):=by omega
    have G:(R.length:Int)<=(t:Int):=by omega
    clear a;go_wp2_with fail;go_quiet (fail)
    clear j;go_wp2_with fail
    ·go_ret3
     exact ⟨_,rfl,(C.out.1 (by assumption)).drewN nq,MM.below_drewN d nq⟩
    ·go_ret3
     exact ⟨_,rfl,(C.out.2 (by assumption)).drewN nq,MM.below_drewN d nq⟩
 ·rw [f,Zhp f] at m;obtain ⟨h,i,g⟩:=Zi3 f (by decide) b;rw [h,i,g];have q:=hid m;clear m u f h i g;go_enter func160,ntmps160;go_wp2_with fail;refine q.out.mono ?_;rintro e o ⟨x,rfl,a,d⟩;clear a;go_wp2_with fail
  go_ret3
  exact ⟨_,rfl,Z3.nil_ _ o,d⟩
 ·rw [f,Zkd f] at m;obtain ⟨h,i,g⟩:=Zi3 f (by decide) b;rw [h,i,g];have q:=hid m;clear m u f h i g;go_enter func160,ntmps160;go_wp2_with fail;refine q.out.mono ?_;rintro e o ⟨x,rfl,a,d⟩;clear a;go_wp2_with fail
  go_ret3
  exact ⟨_,rfl,Z3.nil_ _ o,d⟩
theorem ZuN (B:Nat) (v:Value) (l:Xu) (w:World) (d:Z3 B w v l) (j:B<=w.heap.size) :
  Calls prog 282 #[v] w (Zns B (.int .i64 (Zan l).1) (Zan l).2.2 (Zab l) w):=by
 have f:=(ZaN l).1;have c:=Zj0 B v l w d j;have g:=fun W=>Zv7 (Zk l).1 W f;unfold Zan;generalize (Zk l).1=n at *;generalize (Zk l).2.1=k at *;generalize (Zk l).2.2=e0 at *;generalize Zab l=R at *;have i:=hid c;have m:=hid g;clear c g d f;go_enter func282,ntmps282;go_wp2_with fail;refine i.out.mono ?_;rintro e w1 ⟨v1,rfl,a,b⟩;have h:=hid a;clear a;go_wp2_with fail;refine (m.out _).mono ?_;rintro e w2 ⟨rfl,rfl⟩;go_wp2_with fail
 go_ret3
 exact ⟨_,rfl,h.out,b⟩
theorem ZsE (B:Nat) (v:Value) (l:Xu) (w:World) (g:Z3 B w v l) (r:B<=w.heap.size) :
  Calls prog 163 #[v] w (Zns B (.int .i64 (Zan l).1) (Zan l).2.2 (Zab l) w):=by
 have b:=Zfj B v l w g r;unfold Zan;rcases Zcj l with ⟨n,k,c,q,m,o⟩|c|c
 ·rw [c] at b ⊢;rw [ZmR c] at b ⊢;have j:=fun W=>Zvt n W q;have f:=hid b;have s:=hid j;clear b j g c;go_enter func163,ntmps163;go_wp2_with fail;refine f.out.mono ?_;rintro e h ⟨i,rfl,a,d⟩;have p:=hid a;clear a;go_wp2_with fail;refine (s.out _).mono ?_;rintro e w2 ⟨rfl,rfl⟩;go_wp2_with fail
  go_ret3
  exact ⟨_,rfl,p.out,d⟩
 ·rw [c] at b ⊢;rw [Zhp c] at b ⊢;have f:=hid b;clear b g c;go_enter func163,ntmps163;go_wp2_with fail;refine f.out.mono ?_;rintro e h ⟨i,rfl,a,d⟩;clear a;go_wp2_with fail
  go_ret3
  exact ⟨_,rfl,Z3.nil_ _ h,d⟩
 ·rw [c] at b ⊢;rw [Zkd c] at b ⊢;have f:=hid b;clear b g c;go_enter func163,ntmps163;go_wp2_with fail;refine f.out.mono ?_;rintro e h ⟨i,rfl,a,d⟩;clear a;go_wp2_with fail
  go_ret3
  exact ⟨_,rfl,Z3.nil_ _ h,d⟩
def Fits (a:List Int):Prop:=∀k,k<a.length -> -9223372036854775808<=a.getD k 0/\a.getD k 0<=9223372036854775807
theorem ZlH (a:List Int) (k:Nat) (hn:a.length<=1000000):(Zce (a.take k)).length<=10000000:=by
 have:=ZpE (a.take k);have h2:(a.take k).length<=a.length:=XaU _ _;omega
theorem ZmP (v u:Value) (l:Xu) (a:List Int) (w:World) (Y:Zq w v l) (N:Zej w u a) (hz:Fits a) (V:l.length<=1099511627776) (Z:a.length<=1000000) :
  Calls prog 138 #[v,u] w (ZS w.heap.size (l++Zce a) w):=by
 obtain ⟨p,ab,rfl,aa,I⟩:=N.shape;unfold maxLen at I;have HR:=hid Y;have X:=hid N;have HZ:=hid hz;clear Y N hz;go_enter func138,ntmps138;go_wp2_with fail
 go_loop [5,12] (fun sz i=>∃k:Nat,k<=a.length/\i=.int .i64 k/\sz=.int .i64 ((Zce (a.take k)).length:Int)) (fun _ i=>a.length - (intOf i).toNat)
 case atStart=>exact ⟨0,XU _,rfl,rfl⟩
 case round =>
  obtain ⟨k,hk,rfl,rfl⟩:=hrel;have d:=ZlH a k Z
  by_cases f:k<a.length
  ·obtain ⟨b,off,rfl,G,g⟩:=X.out.at_ f;have j:=HZ.out k f;have c:=Xp List.length (ZjI a k f);rw [Xd] at c;obtain ⟨z,n⟩:=Xn (a.getD k 0);rw [n] at g j c;have o:=fun W=>Zpx z W j.1 j.2;have s:=fun W=>ZcN (zig z) W (Zne j.1 j.2);unfold ZaY at c;have t:=(Zc (zig z)).2;obtain ⟨q,A⟩:=Xn (zig z);simp only [A] at o s c t;obtain ⟨L,y⟩:=Xn ((Zce (a.take k)).length);obtain ⟨M,O⟩:=Xn ((Zb q).length);simp only [O] at s t;rw [y,O] at c;rw [y] at d ⊢;have C:=hid o;have U:=hid s;have HS:=hid c;clear o s c n j A y O;go_wp2_with fail;refine (C.out _).mono ?_;rintro e R ⟨rfl,rfl⟩;go_wp2_with fail;refine (U.out _).mono ?_;rintro e R ⟨rfl,rfl⟩;go_wp2_with fail
   go_round
   case rel=>exact ⟨k+1,by omega,by go_num,by rw [HS.out];go_num⟩
   case measure=>simp [intOf];omega
  ·obtain rfl:k=a.length:=by omega
   rw [XC] at d ⊢;have o:=fun W (h:Zq W v l)=>ZmV v l ((Zce a).length:Int) _ W rfl h (by omega);obtain ⟨L,y⟩:=Xn ((Zce a).length);simp only [y] at o;rw [y];have C:=hid o;clear o y;go_wp2_with fail;refine (C.out _ HR.out).mono ?_;rintro e R ⟨v1,rfl,r,J⟩
   have B:Hid (Zd w.heap.size R v1 (l++Zce (a.take 0))):=by
    have e:l++Zce (a.take 0)=l:=by simp [Zce]
    rw [e];exact hid r
   clear r;go_wp2_with fail
   go_loopw [0,27] (fun bv i wr=>∃k:Nat,k<=a.length/\i=.int .i64 k/\Hid (Zd w.heap.size wr bv (l++Zce (a.take k)))/\Below w.heap.size w wr) (fun _ i _=>a.length - (intOf i).toNat)
   case atStart=>exact ⟨0,XU _,rfl,B,J⟩
   case round =>
    obtain ⟨k,hk,rfl,F,E⟩:=hrel;clear B;have H:=E.size
    by_cases f:k<a.length
    ·obtain ⟨b,off,rfl,G,g⟩:=(X.out.below E).at_ f;have j:=HZ.out k f;have d:=ZlH a k Z;have c:=ZjI a k f;obtain ⟨z,n⟩:=Xn (a.getD k 0);rw [n] at g j c;have o:=fun W=>Zpx z W j.1 j.2;have s:=fun W x (h:Zd w.heap.size W x (l++Zce (a.take k))) hB=>ZoU w.heap.size x _ (zig z) W (Zne j.1 j.2) h (by rw [Xd];omega) hB;unfold ZaY at c;obtain ⟨q,A⟩:=Xn (zig z);simp only [A] at o s c;have D:l++Zce (a.take k)++Zb q=l++Zce (a.take (k+1)):=by rw [c,Xl]
     rw [D] at s;have C:=hid o;have U:=hid s;clear o s c n j A D d;go_wp2_with fail;refine (C.out _).mono ?_;rintro e w2 ⟨rfl,rfl⟩;go_wp2_with fail;refine (U.out _ _ F.out H).mono ?_;rintro e w2 ⟨v2,rfl,m,S⟩;have T:=hid m;clear m;go_wp2_with fail;go_roundw
     case rel=>exact ⟨k+1,by omega,by go_num,T,E.trans S⟩
     case measure=>simp [intOf];omega
    ·obtain rfl:k=a.length:=by omega
     rw [XC] at F;go_wp2_with fail;go_ret;exact ⟨_,rfl,F.out,E⟩
theorem ZyR (u:Value) (a:List Int) (w:World) (D:Zej w u a) (J:Fits a) (U:a.length<=1000000) :
  Calls prog 44 #[u] w (ZS w.heap.size (Zce a) w):=by
 obtain ⟨p,L,rfl,S,C⟩:=D.shape;unfold maxLen at C;have M:=hid D;have Y:=hid J;have m:Hid (Zd w.heap.size w (.slice none 0 0) (Zce (a.take 0))):=hid (World.ownsRow_nil _ _ _ _);clear D J;go_enter func44,ntmps44;go_wp2_with fail
 go_loopw [3,4] (fun X i wr=>∃k:Nat,k<=a.length/\i=.int .i64 k/\Hid (Zd w.heap.size wr X (Zce (a.take k)))/\Below w.heap.size w wr) (fun _ i _=>a.length - (intOf i).toNat)
 case atStart=>exact ⟨0,XU _,rfl,m,Below.refl _ _⟩
 case round =>
  obtain ⟨k,hk,rfl,x,v⟩:=hrel;clear m;have R:=v.size
  by_cases g:k<a.length
  ·obtain ⟨b,off,rfl,N,h⟩:=(M.out.below v).at_ g;have y:=Y.out k g;have l:=ZlH a k U;have d:=ZjI a k g;obtain ⟨z,n⟩:=Xn (a.getD k 0);rw [n] at h y d;have E:=fun W=>ZmT z W y.1 y.2;have o:(ZaY z).length<=10:=(Zc (zig z)).2;obtain ⟨q,I⟩:=Xn (ZaY z);simp only [I] at E d o;obtain ⟨T,H⟩:=Xn (Zce (a.take k));have j:T.length+q.length<=140737488355328:=by rw [<- H];omega
   rw [H] at d x;have V:=hid E;have O:=hid d;clear E d n y I l H;go_wp2_with fail;refine (V.out _).mono ?_;rintro e w2 ⟨v2,rfl,c,r⟩;have B:=hid (x.out.keep r);have F:=hid c.brow;have s:=grow v r;have t:=s.size;clear c;go_wp2_with (at_builtin;refine Zg rfl _ _ rfl w.heap.size _ _ rfl B.out _ _ rfl F.out j t ?_)
   intro v3 Z f A;have G:Hid (Zd w.heap.size Z v3 (Zce (a.take (k+1)))):=by rw [O.out];exact hid f
   clear f;go_wp2_with fail;go_roundw
   case rel=>exact ⟨k+1,by omega,by go_num,G,s.trans A⟩
   case measure=>simp [intOf];omega
  ·obtain rfl:k=a.length:=by omega
   rw [XC] at x;go_wp2_with fail;go_ret;exact ⟨_,rfl,x.out,v⟩
end VG
namespace DT
open RowKit MM VM
variable {B g:Nat} {w w1:World} {l m:Xu} {o:Bool} {v:Value}
def Ze (m:Nat) (l:Xu) (o:Bool):Nat×Xu×Bool:=if (Zk l).2.2=0/\(Zk l).1<=m then ((Zk l).1,VG.Zab l,o) else (0,[],true)
def Z2 (m:Int) (l:Xu) (o:Bool):Xu×Xu×Bool:=((ZW l m).1,VG.Zbd l m,o||(ZW l m).2.2 != 0)
def Rd (B:Nat) (w:World) (g:Nat) (l:Xu) (o:Bool):Prop:=∃v,w.heap[g]? = some (.cells #[v,.bool o] 166 (0,0))/\Z3 B w v l
theorem Rd.lt (h:Rd B w g l o):g<w.heap.size:=by obtain ⟨v,h,_⟩:=h;exact (Xo.1 h).1
theorem Rd.keep {S:Nat->Prop} {w':World} (h:Rd B w g l o) (b:Kep S w w') (c:S g) (f:∀k,k<B->S k) (a:B<=w.heap.size):Rd B w' g l o:=by
 have d:=h.lt;obtain ⟨v,h,e⟩:=h;exact ⟨v,(b.block g d c).trans h,e.below (b.below a f)⟩
theorem Zgw (h:Rd B w g l o) (b:Below w.heap.size w w1) (d:B<=g) (c:Z3 B w1 v m):Rd B (w1.setCell ⟨g,0,none⟩ v) g m o:=by
 obtain ⟨v0,h,_⟩:=h;have a:=(Xo.1 h).1;have e:=heap_setCell_same w1 g 0 _ _ v ((b.block g a).trans h);exact ⟨v,e,c.below ((Below.refl B w1).setCell (p:=⟨g,0,none⟩) d v)⟩
theorem Zjp (h:Rd B w g l o) (d:Below w.heap.size w w1) (b:B<=g) (e:Z3 B w1 v m):Rd B ((w1.setCell ⟨g,0,none⟩ v).setCell ⟨g,1,none⟩ (.bool true)) g m true:=by
 obtain ⟨v0,h,_⟩:=h;have a:=(Xo.1 h).1;have c:=heap_setCell_same w1 g 0 _ _ v ((d.block g a).trans h);have f:=heap_setCell_same _ g 1 _ _ (.bool true) c;exact ⟨v,f,(e.below ((Below.refl B w1).setCell (p:=⟨g,0,none⟩) b v)).below ((Below.refl B _).setCell (p:=⟨g,1,none⟩) b (.bool true))⟩
def ZfF (B g:Nat) (x:Value) (l:Xu) (o:Bool) (w:World) (e:Ending) (w':World):Prop:=e=.returned x/\Rd B w' g l o/\Kep (fun b=>b≠g) w w'
theorem Zbq (B g:Nat) (l m:Xu) (o:Bool) (v:Value) (b:Int) (w:World) (h:Rd B w g l o) (n:B<=g) (e:Z3 B w v m) :
  Calls prog 159 #[.pointer (some ⟨g,0,none⟩),v,.int .i64 b] w (ZfF B g (.tuple #[]) m (o||b != 0) w):=by
 have c:=hid h;have p:=h.lt;obtain ⟨v0,a,_⟩:=h;have d:=hid e;have f0:=cell_of_row w g 0 _ _ _ a;have f1:=cell_of_row w g 1 _ _ _ a;have f2:=frozen_of_row w g 0 _ _ a;have f3:=frozen_of_row w g 1 _ _ a;obtain ⟨j,c1,rfl,_⟩:=e.shape
 by_cases k:b=0
 ·subst k;have f:(o||((0:Int) != 0))=o:=by simp
  rw [f];have i:=hid (show ZfF B g (.tuple #[]) m o w (.returned (.tuple #[])) (w.setCell ⟨g,0,none⟩ (.slice j m.length c1)) from ⟨rfl,Zgw c.out (Below.refl _ _) n d.out,Zx (by simp) _⟩);clear e d c a;go_enter func159,ntmps159;go_wp2_with fail;refine bodyPost_end (results_none rfl _ _ _) rfl ?_;exact i.out
 ·have t0:(b != 0)=true:=by rw [Xaa];exact k
  have f:(o||(b != 0))=true:=by rw [t0];simp
  rw [f];have i:=hid (show ZfF B g (.tuple #[]) m true w (.returned (.tuple #[])) ((w.setCell ⟨g,0,none⟩ (.slice j m.length c1)).setCell ⟨g,1,none⟩ (.bool true)) from ⟨rfl,Zjp c.out (Below.refl _ _) n d.out,(Zx (by simp) _).trans (Zx (by simp) _)⟩);clear e d c a;go_enter func159,ntmps159;go_wp2_with fail;refine bodyPost_end (results_none rfl _ _ _) rfl ?_;exact i.out
theorem Zhv (B g:Nat) (a:Int) (l:Xu) (o:Bool) (w:World) (h0:0<=a) (r:a<=9223372036854775807) (h:Rd B w g l o) (y:B<=g) :
  Calls prog 103 #[.pointer (some ⟨g,0,none⟩),.int .i64 a] w (ZfF B g (.string ⟨(Z2 a l o).1.toArray⟩) (Z2 a l o).2.1 (Z2 a l o).2.2 w):=by
 have A:=hid h;have c:=h.lt;obtain ⟨v,s,u⟩:=h;have f0:w.cell? ⟨g,0,none⟩=some v:=by rw [cell_of_row w g 0 _ _ _ s];rfl
 have z:=hid (VG.Zmj B v l a w (by omega) r u (Xam (Xbj y c)));have i:=hid (fun m v k w1 (r:Rd B w1 g l o) (j:Z3 B w1 v m)=>Zbq B g l m o v k w1 r y j);unfold Z2;dsimp only;generalize (ZW l a).1=n at *;generalize (ZW l a).2.2=k at *;generalize VG.Zbd l a=R at *;have p:=hid (show B<=w.heap.size by omega);clear u s c;go_enter func103,ntmps103;go_wp2_with fail;refine z.out.mono ?_;rintro e w1 ⟨E,rfl,f,b⟩;have d:=A.out.keep (S:=fun _=>True) (Za _ b) trivial (fun _ _=>trivial) p.out;have x:=hid (i.out R E k w1 d f);have q:=hid b;clear f b d z i;go_wp2_with fail;refine x.out.mono ?_;rintro e w2 ⟨rfl,j,t⟩;have C:=hid j;have D:=hid t;clear j t x;go_wp2_with fail;go_ret;exact ⟨rfl,C.out,(Za _ q.out).trans D.out⟩
theorem ZaT (B g:Nat) (m:Nat) (l:Xu) (o:Bool) (w:World) (hm:m<=1099511627776) (h:Rd B w g l o) (J:B<=g) :
  Calls prog 102 #[.pointer (some ⟨g,0,none⟩),.int .i64 m] w (ZfF B g (.int .i64 (Ze m l o).1) (Ze m l o).2.1 (Ze m l o).2.2 w):=by
 have F:=hid h;have r:=h.lt;obtain ⟨v,E,H⟩:=h;have f0:w.cell? ⟨g,0,none⟩=some v:=by rw [cell_of_row w g 0 _ _ _ E];rfl
 have z:=hid (VG.Zj0 B v l w H (Xam (Xbj J r)));have i:=hid (fun m v j w1 (O:Rd B w1 g l o) (k:Z3 B w1 v m)=>Zbq B g l m o v j w1 O J k);have A:=ZaN l
 have b:(Zk l).2.2≠0->(Zk l).1=0/\VG.Zab l=[]:=fun I=>by
  refine ⟨?_,by unfold VG.Zab;rw [Xa I]⟩;rcases A.2.2.1 with e|e|e
  ·exact absurd e I
  ·rw [e]
  ·rw [e]
 have hn:=A.1;unfold Ze;generalize (Zk l).1=n at *;generalize (Zk l).2.2=j at *;generalize VG.Zab l=R at *;have u:=hid (show B<=w.heap.size by omega);clear H E r A
 by_cases y:n<=m
 ·have d:(if j=0/\n<=m then (n,R,o) else (0,[],true))=(n,R,o||j != 0):=by
   by_cases s:j=0
   ·subst s;rw [Xe ⟨rfl,y⟩];simp
   ·rw [Xa (fun h=>s h.1),(b s).1,(b s).2];have:(j != 0)=true:=by rw [Xaa];exact s
    rw [this];simp
  rw [d];have M:decide ((n:Int)>(m:Int))=false:=XB (by omega);have N:IntKind.u64.wrap (m:Int)=(m:Int):=by rw [IntKind.wrap_u64];omega
  have t3:IntKind.i64.wrap (n:Int)=(n:Int):=by rw [IntKind.wrap_i64];omega
  dsimp only;clear d b;go_enter func102,ntmps102;go_wp2_with fail;refine z.out.mono ?_;rintro e w1 ⟨L,rfl,f,a⟩;have c:=F.out.keep (S:=fun _=>True) (Za _ a) trivial (fun _ _=>trivial) u.out;have t:=hid (i.out R L j w1 c f);have p:=hid a;clear f a c z i;go_wp2_with fail;refine t.out.mono ?_;rintro e G ⟨rfl,k,q⟩;have C:=hid k;have D:=hid q;clear k q t;go_wp2_with fail;go_ret;exact ⟨rfl,C.out,(Za _ p.out).trans D.out⟩
 ·have d:(if j=0/\n<=m then (n,R,o) else (0,[],true))=(0,[],true):=by rw [Xa (fun h=>y h.2)]
  rw [d];have M:decide ((n:Int)>(m:Int))=true:=Xw (by omega);have N:IntKind.u64.wrap (m:Int)=(m:Int):=by rw [IntKind.wrap_u64];omega
  dsimp only;clear d b;go_enter func102,ntmps102;go_wp2_with fail;refine z.out.mono ?_;rintro e w1 ⟨L,rfl,f,a⟩;have c:=F.out.keep (S:=fun _=>True) (Za _ a) trivial (fun _ _=>trivial) u.out;have t:=hid (i.out [] (.slice none 0 0) 110 w1 c (Z3.nil_ _ _));have p:=hid a;clear f a c z i;go_wp2_with fail;refine t.out.mono ?_;rintro e G ⟨rfl,k,q⟩;have x:Rd B G g [] true:=by have:=k;simpa using this
  have C:=hid x;have D:=hid q;clear k x q t;go_wp2_with fail;go_ret;exact ⟨rfl,C.out,(Za _ p.out).trans D.out⟩
end DT
namespace FG
open RowKit MM VM CM FM VP CR FP VG
def ZzX (B:Nat) (p:Xu) (c:Int) (rest:Xu) (w:World) (e:Ending) (w':World):Prop :=
 ∃b a,e=.returned (.tuple #[b,a,.int .i64 c])/\Z3 B w' b p/\Z3 B w' a rest/\Below w.heap.size w w'
theorem ZxF {l:Xu} {n k:Nat} (h:Zk l=(n,k,0)) (hk:k<=l.length):k<=10:=by
 have a:=Zc3 h;have b:(Zb n++l.drop k).length=l.length:=by rw [a]
 rw [Xd,Xj] at b;have:=(Zc n).2;omega
theorem ZvA (B:Nat) (v:Value) (l:Xu) (w:World) (C:Z3 B w v l) (hB:B<=w.heap.size) :
  Calls prog 54 #[v] w (ZzX B (ZaP l).1 (ZaP l).2.2 (ZgK l) w):=by
 obtain ⟨p,T,rfl,aK,aq⟩:=C.shape;unfold maxLen at aq;have q:=Zfj B _ l w C hB;rcases VG.Zcj l with ⟨n,k,i,hb,aJ,N⟩|i|i
 ·rw [i,ZBV i] at q
  by_cases hn:n<=16777216
  ·have c:=Zi2 i hn;have z:(l.drop k).length=l.length - k:=Xj;obtain ⟨Y,hY⟩:=Xn (l.drop k);rw [hY] at q c z;have A:=hid q;have t1:decide ((n:Int)>16777216)=false:=by simp;omega
   by_cases hs:Y.length<4+n
   ·rw [Xe hs] at c;rw [c,Zbl c (by omega)];clear c q C i hY
    by_cases h4:Y.length<4
    ·have t2:decide ((Y.length:Int)<4)=true:=by simp;omega
     clear z;go_enter func54,ntmps54;go_wp2_with fail;refine A.out.mono ?_;rintro e m ⟨R,rfl,a,f⟩;obtain ⟨p2,d,rfl,E,j⟩:=a.shape;unfold maxLen at j;clear a;go_wp2_with fail
     go_ret3
     exact ⟨_,_,rfl,Z3.nil_ _ _,Z3.nil_ _ _,f⟩
    ·have t2:decide ((Y.length:Int)<4)=false:=by simp;omega
     have t3:decide ((Y.length:Int) - 4<n)=true:=by simp;omega
     clear z;go_enter func54,ntmps54;go_wp2_with fail;refine A.out.mono ?_;rintro e m ⟨R,rfl,a,f⟩;obtain ⟨p2,d,rfl,E,j⟩:=a.shape;unfold maxLen at j;clear a;go_wp2_with fail
     go_ret3
     exact ⟨_,_,rfl,Z3.nil_ _ _,Z3.nil_ _ _,f⟩
   ·rw [Xa hs] at c;have t2:decide ((Y.length:Int)<4)=false:=by simp;omega
    have t3:decide ((Y.length:Int) - 4<n)=false:=by simp;omega
    have U:=hid c;have HL:=hid C;have aE:(l.length:Int) - (Y.length:Int)=(k:Int):=by omega
    have aB:=ZxF i N;have ap:=hid hY;clear c q C i hY z;go_enter func54,ntmps54;go_wp2_with fail;refine A.out.mono ?_;rintro e m ⟨R,rfl,a,f⟩;obtain ⟨p2,d,rfl,E,j⟩:=a.shape;unfold maxLen at j;have HY:=hid a;obtain ⟨b,off,rfl,aH,an⟩:=a.at_ (k:=0) (by omega);clear an;have i1:(k:Int)<=(T:Int):=by omega
    have i2:(4:Int)+n<=(Y.length:Int):=by omega
    have i3:(Y.length:Int)<=(d:Int):=by omega
    have hP:(d=4->Z3 B m (.slice (some ⟨b,off,none⟩) n 0) ((Y.drop 4).take n))/\(¬d=4->Z3 B m (.slice (some ⟨b,off+4,none⟩) n (d - 4)) ((Y.drop 4).take n)) :=
     ⟨fun h=>((a.drop2 4 (by omega)).1 h).take n (by omega),fun h=>((a.drop2 4 (by omega)).2 h).take n (by omega)⟩
    have hQ:Z3 B m (.slice (if d=4+n then some ⟨b,off,none⟩ else some ⟨b,off+(4+n),none⟩) (Y.length - (4+n)) (d - (4+n))) (Y.drop (4+n)):=by
     have h:=a.drop (4+n) (by omega);rw [Xai,ZY] at h;exact h
    have hH:Z3 B w (.slice p k T) (l.take k):=HL.out.take k N;have HP:=hid hP;have HQ:=hid hQ;have aA:=f.size;have HH:=hid ((hH.below (f.mono hB)).row (by omega));have ad:Below m.heap.size m (m.alloc (.cells #[] 5)):=(Below.refl _ _).alloc (Xc _) _;have HE:=hid (ZhS m m.heap.size (Xc _));have aM:((Y.drop 4).take n).length=n:=by rw [Xi,Xj];omega
    have ab:l.drop (k+(4+n))=Y.drop (4+n):=by rw [<- ap.out,XaM]
    have aI:(l.take k).length=k:=by rw [Xi];omega
    have aj:=Ztu Y (by omega);obtain ⟨b',aG,ai,_,c0⟩:=a.at_ (k:=0) (by omega);obtain ⟨b1,aF,ah,_,c1⟩:=a.at_ (k:=1) (by omega);obtain ⟨b2,aD,aa,_,c2⟩:=a.at_ (k:=2) (by omega);obtain ⟨b3,ay,ag,_,c3⟩:=a.at_ (k:=3) (by omega);simp only [Xv,Addr.mk.injEq] at ai ah aa ag;obtain ⟨rfl,rfl,_⟩:=ai;obtain ⟨rfl,rfl,_⟩:=ah;obtain ⟨rfl,rfl,_⟩:=aa;obtain ⟨rfl,rfl,_⟩:=ag;rw [Xah] at c0;have h0:=Y[0].toNat_lt;have h1:=Y[1].toNat_lt;have h2:=Y[2].toNat_lt;have h3:=Y[3].toNat_lt;generalize Y[0].toNat=x0 at *;generalize Y[1].toNat=x1 at *;generalize Y[2].toNat=x2 at *;generalize Y[3].toNat=x3 at *;generalize Zk1 (Y.take 4)=S at *;generalize Y.drop (4+n)=YR at *;generalize (Y.drop 4).take n=YP at *;generalize l.take k=M at *;obtain ⟨X,hX⟩:=Xn (M++YP);rw [hX] at U;have HX:=hid hX;have hK:=hid (fun W u (h:Zq W u X)=>Zlk u X W h);have aL:=Zjy X;generalize ZaU X=F2 at *;have ao:=hid ab;have al:([]:Xu).length+M.length<=140737488355328:=by rw [Xm];omega
    have am:M.length+YP.length<=140737488355328:=by omega
    clear a hP hQ hH ab hX;go_wp2_with (at_builtin;refine Zg rfl _ _ rfl m.heap.size _ [] rfl HE.out _ M rfl (HH.out.below ad) al (by simp) ?_)
    all_goals
     intro v2 w2 r V;have s:=ad.trans V;have aC:=s.size;have af:Hid (Zd m.heap.size w2 v2 M):=hid r;clear r
    all_goals
     first|(subst h;have L:=hid (HP.out.1 rfl);have hq:=HQ.out;rw [Xe (show 4=4+n by omega)] at hq;replace HQ:=hid hq;clear hq)|(have L:=hid (HP.out.2 h);clear h)
     have O:=hid ((L.out.below (s.mono (by omega))).row (by omega));go_wp2_with (at_builtin;refine Zg rfl _ _ rfl m.heap.size _ M rfl af.out _ YP rfl O.out am (by omega) ?_)
     intro v3 w3 o ae;rw [HX.out] at o;have ax:=hid o.brow;have g:=s.trans ae;have az:=g.size;clear o V ae af O;go_wp2_with fail;refine (hK.out _ _ ax.out).mono ?_;rintro e w4 ⟨rfl,rfl⟩;have d0:=(g.cell (p:=⟨b,off,none⟩) (by show b<_;omega)).trans c0;have d1:=(g.cell (p:=⟨b,off+1,none⟩) (by show b<_;omega)).trans c1;have d2:=(g.cell (p:=⟨b,off+2,none⟩) (by show b<_;omega)).trans c2;have d3:=(g.cell (p:=⟨b,off+3,none⟩) (by show b<_;omega)).trans c3;have F:(x0:Int)*16777216+(x1:Int)*65536+(x2:Int)*256+(x3:Int)=(S:Int):=by omega
     have Z:=hid F;clear F;have D:B<=w3.heap.size:=by omega
     have av:=hid (L.out.below (g.mono (by omega)));have aw:=hid (HQ.out.below (g.mono (by omega)));have ac:=grow f g;clear hK;go_wp2_with fail;go_quiet (fail)
     rw [Z.out];obtain ⟨W,hW⟩:=Xn (w3.drewN nq);have y:Below w3.heap.size w3 W:=by rw [<- hW];exact MM.below_drewN (Below.refl _ _) nq
     have x:=grow ac y;have ar:=hid (av.out.below (y.mono D));have au:=hid (aw.out.below (y.mono D));rw [hW];clear hW;clear d0 d1 d2 d3 c0 c1 c2 c3 aj
     by_cases G:S=F2
     ·have c:=U.out;rw [Xa (by simp [G])] at c;have H:=hid (Zjq c);subst G;have I:=hid c;have ak:((S:Int) != (S:Int))=false:=by simp
      clear c U;go_wp2_with fail;go_quiet (fail)
      first|generalize (if d=4+n then some (⟨b,off,none⟩:Addr) else some ⟨b,off+(4+n),none⟩)=q2 at * | skip
      obtain ⟨W2,J⟩:=Xn (W.drewN nq);have t:Below W.heap.size W W2:=by rw [<- J];exact MM.below_drewN (Below.refl _ _) nq
      rw [J];clear J;go_wp2_with fail
      go_ret3
      rw [H.out,I.out,ao.out];exact ⟨_,_,rfl,ar.out.below (t.mono (by have:=y.size;omega)),au.out.below (t.mono (by have:=y.size;omega)),grow x t⟩
     ·have c:=U.out;rw [Xe G] at c;have H:=hid (Zbl c (by omega));have ak:((F2:Int) != (S:Int))=true:=by rw [Xaa];omega
      have I:=hid c;clear c U;go_wp2_with fail
      go_ret3
      rw [H.out,I.out];exact ⟨_,_,rfl,Z3.nil_ _ _,Z3.nil_ _ _,x⟩
  ·have c:=ZhO i (by omega);rw [c,Zbl c (by omega)];have A:=hid q;have t1:decide ((n:Int)>16777216)=true:=by simp;omega
   clear q c C i;go_enter func54,ntmps54;go_wp2_with fail;refine A.out.mono ?_;rintro e m ⟨R,rfl,a,f⟩;clear a;go_wp2_with fail
   go_ret3
   exact ⟨_,_,rfl,Z3.nil_ _ _,Z3.nil_ _ _,f⟩
 ·have c:=Zgg i;rw [i,Zq6 i] at q;rw [c,Zbl c (by omega)];have A:=hid q;clear q c C i;go_enter func54,ntmps54;go_wp2_with fail;refine A.out.mono ?_;rintro e m ⟨R,rfl,a,f⟩;clear a;go_wp2_with fail
  go_ret3
  exact ⟨_,_,rfl,Z3.nil_ _ _,Z3.nil_ _ _,f⟩
 ·have c:=Zi1 i;rw [i,Zy0 i] at q;rw [c,Zbl c (by omega)];have A:=hid q;clear q c C i;go_enter func54,ntmps54;go_wp2_with fail;refine A.out.mono ?_;rintro e m ⟨R,rfl,a,f⟩;clear a;go_wp2_with fail
  go_ret3
  exact ⟨_,_,rfl,Z3.nil_ _ _,Z3.nil_ _ _,f⟩
theorem ZBq (B:Nat) (v:Value) (l:Xu) (w:World) (a:Z3 B w v l) (f:B<=w.heap.size) :
  Calls prog 54 #[v] w (ZCL B (ZaP l).1 (ZaP l).2.2 (ZgK l) w) :=
 (ZvA B v l w a f).mono fun _ _ ⟨e,d,c,g,a,b⟩=>⟨e,d,c,g.row (by have:=b.size;omega),a,b⟩
