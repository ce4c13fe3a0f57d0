import Derived.Test.YtmomfobdpfajbaaGreatZA7
import Derived.Lib.ItoaNum
import Derived.Test.YtmomfobdpfajbaaGreatZA5
import Derived.Test.YtmomfobdpfajbaaGreatZA11
set_option maxRecDepth 100000
set_option maxHeartbeats 0
set_option linter.unusedVariables false
set_option linter.unusedSimpArgs false
namespace Go.Proofs.YtmomfobdpfajbaaGreat
open Tryz
namespace VP
open RowKit MM VM
theorem Zo6 (n:Nat) (h:n<128):Lib.bitLen n<=7:=by
 by_cases b:n=0
 ·subst b;decide
 ·have:=Lib.bitLenAux_bounds 64 n (by omega) b
  have c:2^(Lib.bitLen n - 1)<2^7:=by
   have:=this.2.1;unfold Lib.bitLen;omega
  have:=(Nat.pow_lt_pow_iff_right (a:=2) (by omega)).1 c;omega
theorem Zsb (n:Nat) (a:n≠0) (h:n<18446744073709551616):1<=Lib.bitLen n:=(Lib.bitLenAux_bounds 64 n h a).1
theorem size_eq (n:Nat):n<18446744073709551616->max 1 ((Lib.bitLen n+6) / 7)=(Zb n).length:=by
 refine Zs9 (P:=fun n=>n<18446744073709551616->max 1 ((Lib.bitLen n+6) / 7)=(Zb n).length) ?_ ?_ n
 ·intro n h a;have:=Zo6 n h;rw [Zc7 h,Xai];omega
 ·intro n h ih a;have b:=Lib.bitLen_shift 7 n (by omega) a;have h2:=Zsb (n / 128) (by omega) (by omega);have c:=ih (by omega);rw [Zdv h a,Xh,<- c,b,show (2:Nat)^7=128 from rfl];omega
theorem ZcN (n:Nat) (w:World) (d:n<18446744073709551616):Calls prog 195 #[.int .u64 n] w fun e w'=>e=.returned (.int .i64 ((Zb n).length:Int))/\w=w':=by
 have a:=Tryz.bits_Len64 n w (by omega) (by omega);rw [XY] at a;have hs:=size_eq n d;have f:Lib.bitLen n<=70:=by have:=(Zc n).2;omega
 obtain ⟨B,b⟩:=Xn (Lib.bitLen n);rw [b] at a f hs;have HL:=Y4 a;have c:=Y4 hs;clear a hs b;go_enter func195,ntmps195;go_wp2_with fail;refine HL.z.mono ?_;rintro e w' ⟨rfl,rfl⟩;go_wp2_with fail;go_ret;have e:max 1 (((B:Int)+6) / 7)=((max 1 ((B+6) / 7):Nat):Int):=by omega
 rw [<- c.z,<- e];exact ⟨rfl,rfl⟩
theorem Zdd (v:Value) (l:Xu) (n:Nat) (w:World) (r:n<18446744073709551616) (q:Zv w v l) (m:l.length<=35184372088832) :
  Calls prog 132 #[v,.int .u64 n] w (ZV w.heap.size (l++Zb n) w):=by
 have k:=Zc n;have i:=fun W=>ZcN n W r;have j:=fun W (h:Zv W v l)=>Zm0 v l ((Zb n).length:Int) _ W rfl h (by omega);obtain ⟨L,o⟩:=Xn ((Zb n).length);simp only [o] at i j;have p:=fun B u W (h:Zd B W u l) y=>Zo4 B u l n W r h (by omega) y;have s:=Y4 i;have C:=Y4 j;have x:=Y4 p;have A:=Y4 q;clear i j p q o k;go_enter func132,ntmps132;go_wp2_with fail;refine (s.z _).mono ?_;rintro e z ⟨rfl,rfl⟩;go_wp2_with fail;refine (C.z _ A.z).mono ?_;rintro e z ⟨v1,rfl,a,c⟩;have d:=c.size;have t:=Y4 a;clear a;go_wp2_with fail;refine (x.z _ _ _ t.z d).mono ?_;rintro e w2 ⟨v2,rfl,b,f⟩;have g:=Y4 b;clear b;go_wp2_with fail;go_ret;exact ⟨_,rfl,g.z,c.trans f⟩
end VP
namespace FP
open RowKit MM VM CM FM VP CR
theorem Zgl (B:Nat) (w:World):Zd B w (.slice none 0 0) []:=World.ownsRow_nil _ _ _ _
theorem Zri {w:World} {v u:Value} {l m:Xu} (h:Zv w v l) (k:Zv w u m):Za7 (w.alloc (.cells #[v,u] 23)) (.slice (some ⟨w.heap.size,0,none⟩) 2 2) [l,m] :=
 Zy8 [v,u] [l,m] rfl (by unfold maxLen;simp) (fun i hi=>by
  match i,hi with
  | 0,_=>exact ⟨v,rfl,h⟩
  | 1,_=>exact ⟨u,rfl,k⟩)
theorem ZqB (l m:Xu):[l,m].flatten=l++m:=by simp
theorem Zue (w:World) (s:Nat) (hs:s<4294967296):Zv (w.alloc (.cells #[.int .u8 ((s:Int) / 16777216),.int .u8 ((s:Int) / 65536%256),.int .u8 ((s:Int) / 256%256),.int .u8 ((s:Int)%256)] 5)) (.slice (some ⟨w.heap.size,0,none⟩) 4 4) (ZeY s):=by
 have h:=ZdO w (Lib.byteCells (ZeY s)) 5 0 (XX _) (by rw [Zi];unfold maxLen;simp [ZeY])
 have e:Lib.byteCells (ZeY s)=[.int .u8 ((s:Int) / 16777216),.int .u8 ((s:Int) / 65536%256),.int .u8 ((s:Int) / 256%256),.int .u8 ((s:Int)%256)]:=by
  simp only [Lib.byteCells,ZeY,XC,XN,UInt8.toNat_ofNat'];rw [show ((s / 16777216%2^8:Nat):Int)=(s:Int) / 16777216 by omega,show ((s / 65536%2^8:Nat):Int)=(s:Int) / 65536%256 by omega,show ((s / 256%2^8:Nat):Int)=(s:Int) / 256%256 by omega,show ((s%2^8:Nat):Int)=(s:Int)%256 by omega]
 have a:=Zv.of_own (l:=ZeY s) h;rw [e] at a;exact a
theorem Zkd (w:World) (B:Nat) (a:B<=w.heap.size):Zd B (w.alloc (.cells #[] 5)) (.slice (some ⟨w.heap.size,0,none⟩) 0 0) []:=ZdO w [] 5 B a (by unfold maxLen;simp)
theorem Zlf {w:World} {b o:Nat} {v:Value} (h:w.cell? ⟨b,o,none⟩=some v):b<w.heap.size:=by
 by_cases a:b<w.heap.size
 ·exact a
 ·simp [World.cell?,Xau (XaR a)] at h
theorem Zro (u:Value) (p:Xu) (w:World) (Y:Zv w u p) (ai:p.length<=35184372088832):Calls prog 96 #[u] w (ZV w.heap.size (Zam p) w):=by
 obtain ⟨q,aj,rfl,hc,hm⟩:=Y.shape;have k1:=fun W=>ZcW p.length W (by omega);have k2:=fun W v1 (h1:Zv W v1 (Zb p.length++p))=>Zlm _ _ W h1;have ab:=(Zc p.length).2;have hs:=Zlo (Zb p.length++p);have I:=Zcn (ZaU (Zb p.length++p));have x:Zam p=(Zb p.length++ZeY (ZaU (Zb p.length++p)))++p:=by unfold Zam;simp
 rw [x];clear x;generalize hS:ZaU (Zb p.length++p)=S at *;generalize Zb p.length=H at *;have X:([]:Xu).length+H.length<=140737488355328:=by rw [Xv];omega
 have F:H.length+p.length<=140737488355328:=by omega
 have U:H.length+(ZeY S).length<=140737488355328:=by omega
 have y:(H++ZeY S).length+p.length<=140737488355328:=by rw [Xd];omega
 have j:=fun W=>Zue W S hs;generalize ZeY S=Z at *;obtain ⟨X1,o⟩:=Xn (H++p);obtain ⟨X2,i⟩:=Xn (H++Z);obtain ⟨X3,m⟩:=Xn (X2++p);rw [i] at y;rw [i,m];rw [o] at k2;have M:=Y4 o;have B:=Y4 i;have D:=Y4 m;have K1:=Y4 k1;have K2:=Y4 k2;have HP:=Y4 Y;have HL:=Y4 j;clear k1 k2 Y j I hS o i m ab;go_enter func96,ntmps96;go_wp2_with fail;refine (K1.z _).mono ?_;rintro e k ⟨v1,rfl,a,r⟩;have af:=r.size;have n:Below k.heap.size k (k.alloc (.cells #[] 5)):=(Below.refl _ _).alloc (Xa _) _;have HE:=Y4 (Zkd k k.heap.size (Xa _));have L:=Y4 a;have t:=Y4 (a.keep n);clear a;go_wp2_with (at_builtin;refine Zh rfl _ _ rfl k.heap.size _ [] rfl HE.z _ H rfl t.z.brow X (by simp) ?_)
 intro v2 w2 h J;have g:=n.trans J;have ae:=g.size;have R:Y5 (Zd k.heap.size w2 v2 H):=Y4 h;have V:=Y4 (HP.z.below (grow r g));clear h n;go_wp2_with (at_builtin;refine Zh rfl _ _ rfl k.heap.size _ H rfl R.z _ p rfl V.z F (by omega) ?_)
 intro v3 N c T;have f:=g.trans T;have ad:=f.size;rw [M.z] at c;have C:=Y4 c.brow;clear c;go_wp2_with fail;refine (K2.z _ _ C.z).mono ?_;rintro e w4 ⟨rfl,rfl⟩;have A:=grow r f;have s:=Zd.keep (L.z.keep f) ((Below.refl N.heap.size N).alloc (Xa _) (.cells #[.int .u8 ((S:Int) / 16777216),.int .u8 ((S:Int) / 65536%256),.int .u8 ((S:Int) / 256%256),.int .u8 ((S:Int)%256)] 5));have v:=A.alloc A.size (.cells #[.int .u8 ((S:Int) / 16777216),.int .u8 ((S:Int) / 65536%256),.int .u8 ((S:Int) / 256%256),.int .u8 ((S:Int)%256)] 5);have ah:=v.size;have aa:=Y4 s;clear s;go_wp2_with (at_builtin;refine Zh rfl _ _ rfl w.heap.size _ H rfl aa.z _ Z rfl (HL.z N) U (by omega) ?_)
 intro v4 w5 b O;have l:=v.trans O;have ag:=l.size;rw [B.z] at b;have G:=Y4 b;have ac:=Y4 (HP.z.below l);clear b;go_wp2_with (at_builtin;refine Zh rfl _ _ rfl w.heap.size _ X2 rfl G.z _ p rfl ac.z y (by omega) ?_)
 intro v5 w6 d z;rw [D.z] at d;have E:=Y4 d;clear d;go_wp2_with fail;go_ret;exact ⟨_,rfl,E.z,l.trans z⟩
def Zlv (B:Nat) (l:Xu) (w:World) (e:Ending) (w':World):Prop:=∃v',e=.returned (.tuple #[v',.int .i64 0])/\Zd B w' v' l/\Below B w w'
theorem Zzq (vs:Value) (a:List Xu) (w:World) (hs:Za7 w vs a) (h:∀p∈a,p.length<=16777216) (r:(Zx a).length<=35184372088832) :
  Calls prog 45 #[vs] w (Zlv w.heap.size (Zx a) w):=by
 obtain ⟨q,U,rfl,aa,O⟩:=hs.shape;unfold maxLen at O;have Y:=Y4 hs;have HA:=Y4 h;obtain ⟨X,E⟩:=Xn (Zx a);rw [E];rw [E] at r;have J:=Y4 E;have t:Y5 (Zd w.heap.size w (.slice none 0 0) (Zx (a.take 0))):=Y4 (Zgl _ _);clear hs h E;go_enter func45,ntmps45;go_wp2_with fail
 go_loopw [4,5] (fun u i wr=>∃k:Nat,k<=a.length/\i=.int .i64 k/\Y5 (Zd w.heap.size wr u (Zx (a.take k)))/\Y5 (Below w.heap.size w wr)) (fun _ i _=>a.length - (intOf i).toNat)
 case atStart=>exact ⟨0,by omega,rfl,t,Y4 (Below.refl _ _)⟩
 case round =>
  obtain ⟨k,hk,rfl,C,D⟩:=hrel;clear t;have l:=Zcu a k;rw [J.z] at l
  by_cases n:k<a.length
  ·obtain ⟨b,off,x,rfl,d,I⟩:=Y.z.at_ n;have B:=(D.z.cell (p:=⟨b,off+k,none⟩) (Zlf d)).trans d;have W:=HA.z a[k] (XI n);have m:=Zgb a n;have j:=Zcu a (k+1);rw [J.z,m,Xd] at j;have V:=Zro x a[k] wr (Zv.below I D.z) (by omega);have ab:=ZcH a[k];generalize a[k]=y at *;obtain ⟨p2,T,rfl,R,v⟩:=I.shape;unfold maxLen at v;have Z:=Y4 V;have HN:=Y4 m;generalize Zam y=F at *;generalize Zx (a.take k)=S at *;have M:S.length+F.length<=140737488355328:=by omega
   clear V I m j l d;go_wp2_with fail;refine Z.z.mono ?_;rintro e w4 ⟨v4,rfl,g,o⟩;have G:=Y4 (C.z.keep o);have N:=Y4 g.brow;have s:=grow D.z o;have A:=s.size;clear g o C;go_wp2_with (at_builtin;refine Zh rfl _ _ rfl w.heap.size _ S rfl G.z _ F rfl N.z M A ?_)
   intro v6 w6 c z;rw [<- HN.z] at c;have H:=Y4 c;have L:=Y4 (s.trans z);clear c z;go_wp2_with fail;go_roundw
   case rel=>exact ⟨k+1,by omega,by go_num,H,L⟩
   case measure=>simp [intOf];omega
  ·obtain rfl:k=a.length:=by omega
   have f:=C.z;rw [XB,J.z] at f;have HF:=Y4 f;clear f C l;go_wp2_with fail;go_ret2;exact ⟨_,rfl,HF.z,D.z⟩
theorem ZhH (v:Value) (l:Xu) (w:World) (m:Zv w v l) (f:l.length<=140737488355328):Calls prog 106 #[v] w (ZV w.heap.size l w):=by
 have k:ZaY w.heap.size w v (Lib.byteCells l):=m;obtain ⟨p,g,rfl,r,h2,o,h⟩:=k;rw [Zi];rw [Zi] at r;cases p with
 | none =>
   have h0:=o rfl;have q:l=[]:=XP (by omega);subst q;refine (Tryz.bytes_Clone_nil _ g w).mono ?_;rintro e w' ⟨rfl,rfl⟩;exact ⟨_,rfl,Zgl _ _,Below.refl _ _⟩
 | some a =>
   refine (Tryz.bytes_Clone_at a l.length g (l.map (fun c=>(c.toNat:Int))) w (by rw [XF]) f (fun i hi => ?_)).mono ?_
   ·rcases h with h|⟨b,off,j,_,n⟩
    ·have:=Zi l;rw [h] at this;simp at this;omega
    ·injection j with j;subst j;rw [ZZ,n i _ (Zfp l i hi)];simp [List.getD,XZ hi]
   ·rintro e w' ⟨v',rfl,d,_,s⟩;refine ⟨v',rfl,?_,s⟩;unfold Zd;have e:(l.map (fun c=>(c.toNat:Int))).map (Value.int .u8)=Lib.byteCells l:=by simp [Lib.byteCells]
    rw [e] at d;exact d
theorem ZBT (n:Int) (w:World) (h0 : -9223372036854775808<=n) (h1:n<=9223372036854775807):Calls prog 142 #[.int .i64 n] w fun e w'=>e=.returned (.int .i64 (ZoL n))/\w=w':=by
 by_cases b:n<0\/16777216<n
 ·have e:ZoL n=0:=by unfold ZoL;rw [Xe b]
  rw [e];clear e
  by_cases a:n<0
  ·have c:decide (n<0)=true:=by simp [a]
   go_enter func142,ntmps142;go_wp2_with fail;go_ret;exact ⟨rfl,rfl⟩
  ·have c:decide (n<0)=false:=by simp;omega
   have g:decide (n>16777216)=true:=by simp;omega
   go_enter func142,ntmps142;go_wp2_with fail;go_ret;exact ⟨rfl,rfl⟩
 ·obtain ⟨m,rfl⟩:=Xay (show 0<=n by omega);have h:m<=16777216:=by omega
  have e:=ZoM h;have k:=fun W=>ZcN m W (by omega);have hb:=Zc m;generalize (Zb m).length=L at *;have f:=Y4 e;have d:=Y4 k;have c:decide ((m:Int)<0)=false:=by simp
  have g:decide ((m:Int)>16777216)=false:=by simp;omega
  clear e k b;go_enter func142,ntmps142;go_wp2_with fail;refine (d.z _).mono ?_;rintro e w1 ⟨rfl,rfl⟩;go_wp2_with fail;go_ret;rw [f.z];exact ⟨by go_num,rfl⟩
theorem Zxa (B:Nat) (v u:Value) (l p:Xu) (w:World) (i:Zd B w v l) (hp:BIn B w u p) (ah:p.length<=16777216) (x:l.length+(Zam p).length<=70368744177664) (hB:B<=w.heap.size) :
  Calls prog 143 #[v,u] w (ZV B (l++Zam p) w):=by
 obtain ⟨q,L,rfl,hc,hm⟩:=hp.shape;have k1:=fun W=>Zdd (.slice none 0 0) [] p.length W (by omega) (Zv.nil_ W) (by simp);rw [XE] at k1;have k2:=fun W v1 (h1:Zv W v1 (Zb p.length)) (h2:Zv W (.slice q p.length L) p)=>Zut _ _ _ (Zri h1 h2);simp only [ZqB] at k2;have Y:=ZcI p;have hs:=Zlo (Zb p.length++p);have m:=Zcn (ZaU (Zb p.length++p));have F:l++Zam p=((l++Zb p.length)++ZeY (ZaU (Zb p.length++p)))++p:=by unfold Zam;simp
 rw [F];clear F;generalize hS:ZaU (Zb p.length++p)=S at *;generalize Zb p.length=H at *;have ab:l.length+H.length<=140737488355328:=by omega
 have y:(l++H).length+(ZeY S).length<=140737488355328:=by rw [Xd,m];omega
 have I:(l++H++ZeY S).length+p.length<=140737488355328:=by rw [Xd,Xd,m];omega
 have j:=fun W=>Zue W S hs;generalize ZeY S=Z at *;obtain ⟨X1,f⟩:=Xn (l++H);obtain ⟨X2,g⟩:=Xn (X1++Z);obtain ⟨X3,n⟩:=Xn (X2++p);rw [f,g] at I;rw [f] at y;rw [f,g,n];have U:=Y4 f;have M:=Y4 g;have N:=Y4 n;have K1:=Y4 k1;have K2:=Y4 k2;have HP:=Y4 hp;have HO:=Y4 i;have HL:=Y4 j;clear k1 k2 hp i j Y m x hS f g n;go_enter func143,ntmps143;go_wp2_with fail;refine (K1.z _).mono ?_;rintro e w1 ⟨v1,rfl,a,h⟩;obtain ⟨q1,D,rfl,ak,aj⟩:=a.brow.shape;have H1:=Y4 a.brow;have aa:=Y4 ((HP.z.below (h.mono hB)).row (by have:=h.size;omega));have r:Below w1.heap.size w1 (w1.alloc (.cells #[.slice q1 H.length D,.slice q p.length L] 23)):=(Below.refl _ _).alloc (Xa _) _;have z:=grow h r;clear a;go_wp2_with fail;refine (K2.z _ _ H1.z aa.z).mono ?_;rintro e w2 ⟨rfl,o⟩;have s:=grow z o;have H2:=Y4 (H1.z.below (grow r o));have X:=Y4 (HO.z.keep s);have ai:=s.size;clear h r z o HO;go_wp2_with (at_builtin;refine Zh rfl _ _ rfl B _ l rfl X.z _ H rfl H2.z ab (by omega) ?_)
 intro v3 C c T;have G:Below B w C:=(s.mono hB).trans T;have af:=G.size;have t:B<=C.heap.size:=by omega
 rw [U.z] at c;have A:=Zd.keep c ((Below.refl C.heap.size C).alloc (Xa _) (.cells #[.int .u8 ((S:Int) / 16777216),.int .u8 ((S:Int) / 65536%256),.int .u8 ((S:Int) / 256%256),.int .u8 ((S:Int)%256)] 5));have E:=G.alloc t (.cells #[.int .u8 ((S:Int) / 16777216),.int .u8 ((S:Int) / 65536%256),.int .u8 ((S:Int) / 256%256),.int .u8 ((S:Int)%256)] 5);have ae:=E.size;have ac:=Y4 A;clear c A;go_wp2_with (at_builtin;refine Zh rfl _ _ rfl B _ X1 rfl ac.z _ Z rfl (HL.z C) y (by omega) ?_)
 intro v4 w4 b V;have k:=E.trans V;have ag:=k.size;rw [M.z] at b;have R:=Y4 b;have ad:=Y4 ((HP.z.below k).row (by omega));clear b;go_wp2_with (at_builtin;refine Zh rfl _ _ rfl B _ X2 rfl R.z _ p rfl ad.z I (by omega) ?_)
 intro v5 w5 d J;rw [N.z] at d;have O:=Y4 d;clear d;go_wp2_with fail;go_ret;exact ⟨_,rfl,O.z,k.trans J⟩
theorem ZAo (v vs:Value) (l:Xu) (a:List Xu) (w:World) (Y:Zv w v l) (hs:Za7 w vs a) (t:∀p∈a,p.length<=16777216) (ag:l.length+(Zx a).length<=35184372088832) :
  Calls prog 85 #[v,vs] w (Zlv w.heap.size (l++Zx a) w):=by
 obtain ⟨p,am,rfl,aj,ad⟩:=Y.shape;obtain ⟨q,ai,rfl,ak,af⟩:=hs.shape;unfold maxLen at ad af;have HR:=Y4 Y;have HS:=Y4 hs;have HA:=Y4 t;obtain ⟨X,hX⟩:=Xn (l++Zx a);rw [hX];have HX:=Y4 hX;clear Y hs t hX;go_enter func85,ntmps85;go_wp2_with fail
 go_loop [6,16] (fun s i=>∃k z:Nat,k<=a.length/\i=.int .i64 k/\s=.int .i64 z/\z=l.length+(Zx (a.take k)).length) (fun _ i=>a.length - (intOf i).toNat)
 case atStart=>exact ⟨0,l.length,by omega,rfl,rfl,by simp [Zx]⟩
 case round =>
  obtain ⟨k,z,hk,rfl,rfl,hz⟩:=hrel;have h:=Zcu a k
  by_cases f:k<a.length
  ·obtain ⟨b,off,x,rfl,c,D⟩:=HS.z.at_ f;have B:=HA.z a[k] (XI f);have g:=Zgb a f;have d:=Zcu a (k+1);rw [g,Xd] at d;have E:=ZrF B;have C:=fun W=>ZBT (a[k].length:Int) W (by omega) (by omega);rw [E] at C;have al:z+(Zam a[k]).length<=35184372088832:=by omega
   have T:z+(Zam a[k]).length=l.length+(Zx (a.take (k+1))).length:=by rw [g,Xd];omega
   generalize a[k]=y at *;obtain ⟨p2,R,rfl,N,A⟩:=D.shape;have ah:=ZcH y;generalize (Zam y).length=F at *;unfold maxLen at A;have Z:=Y4 C;have HZ:=Y4 T;clear C D g T hz h d E;go_wp2_with fail;refine (Z.z _).mono ?_;rintro e w1 ⟨rfl,rfl⟩;go_wp2_with fail
   go_round
   case rel=>exact ⟨k+1,z+F,by omega,by go_num,by go_num,HZ.z⟩
   case measure=>simp [intOf];omega
  ·obtain rfl:k=a.length:=by omega
   rw [XB] at hz;clear h f hk;go_wp2_with (at_make;refine Zfl rfl _ rfl w.heap.size _ z rfl rfl (by omega) (Xa _) ?_)
   intro v1 w1 j r;have O:=r.size;have H:=Y4 j;have M:=Y4 (HR.z.below r);have ab:([]:Xu).length+l.length<=140737488355328:=by rw [Xv];omega
   clear j;go_wp2_with (at_builtin;refine Zh rfl _ _ rfl w.heap.size _ [] rfl H.z _ l rfl M.z ab O ?_)
   intro v2 w2 o G;have aa:=r.trans G;have L:Y5 (Zd w.heap.size w2 v2 (l++Zx (a.take 0))):=Y4 (by rw [XaK,ZbF,XH];exact o);clear o r G;go_wp2_with fail
   go_loopw [9,35] (fun u i wr=>∃k:Nat,k<=a.length/\i=.int .i64 k/\Y5 (Zd w.heap.size wr u (l++Zx (a.take k)))/\Y5 (Below w.heap.size w wr)) (fun _ i _=>a.length - (intOf i).toNat)
   case atStart=>exact ⟨0,by omega,rfl,L,Y4 aa⟩
   case round =>
    obtain ⟨k,hk,rfl,V,J⟩:=hrel;clear L H M;have h:=Zcu a k
    by_cases f:k<a.length
    ·obtain ⟨b,off,x,rfl,c,D⟩:=HS.z.at_ f;have U:=(J.z.cell (p:=⟨b,off+k,none⟩) (Zlf c)).trans c;have B:=HA.z a[k] (XI f);have g:=Zgb a f;have d:=Zcu a (k+1);rw [g,Xd] at d;have I:BIn w.heap.size wr x a[k]:=BIn.below D J.z;have C:=Zxa w.heap.size _ x (l++Zx (a.take k)) a[k] wr V.z I B (by rw [Xd];omega) J.z.size;rw [Xk,<- g] at C;obtain ⟨p2,R,rfl,N,A⟩:=D.shape;have Z:=Y4 C;clear C D g d h I c;go_wp2_with fail;refine Z.z.mono ?_;rintro e w4 ⟨v4,rfl,n,S⟩;have ae:=Y4 n;have ac:=Y4 (J.z.trans S);clear n S;go_wp2_with fail;go_roundw
     case rel=>exact ⟨k+1,by omega,by go_num,ae,ac⟩
     case measure=>simp [intOf];omega
    ·obtain rfl:k=a.length:=by omega
     have m:=V.z;rw [XB,HX.z] at m;have HF:=Y4 m;clear m V h;go_wp2_with fail;go_ret2;exact ⟨_,rfl,HF.z,J.z⟩
theorem ZA7 (v:Value) (b:List Xu) (w:World) (hs:Za7 w v b) (c:∀p∈b,p.length<=16777216) (d:(Zx b).length<=35184372088832) :
  Calls prog 40 #[v] w (Zlv w.heap.size (Zx b) w):=by
 have h:=ZAo (.slice none 0 0) v [] b w (Zv.nil_ w) hs c (by rw [Xv];omega);rw [XE] at h;generalize Zx b=X at *;have i:=Y4 h;clear h hs;go_enter func40,ntmps40;go_wp2_with fail;refine i.z.mono ?_;rintro e w1 ⟨v1,rfl,a,g⟩;have f:=Y4 a;clear a;go_wp2_with fail;go_ret2;exact ⟨_,rfl,f.z,g⟩
end FP
namespace FG
open RowKit MM VM CM FM VP CR FP VG
variable {l:Xu}
theorem Zvg (c d e f:Nat) (h0:c<256) (h1:d<256) (h2:e<256) (h3:f<256) :
  bits .or .u32 (bits .or .u32 (bits .or .u32 ((c:Int)*16777216) ((d:Int)*65536)) ((e:Int)*256)) (f:Int)=((c*16777216+d*65536+e*256+f:Nat):Int):=by
 have o:∀a b i:Nat,b<2^i->2^i*a ||| b=2^i*a+b:=fun a b i k=>(Nat.two_pow_add_eq_or_of_lt k a).symm;rw [show (c:Int)*16777216=((c*16777216:Nat):Int) by omega,show (d:Int)*65536=((d*65536:Nat):Int) by omega,show (e:Int)*256=((e*256:Nat):Int) by omega];have g:=o c (d*65536) 24 (by omega);rw [show 2^24*c=c*16777216 by omega] at g;rw [u32_or_nat _ _ (by omega) (by omega),g];have j:=o (c*256+d) (e*256) 16 (by omega);rw [show 2^16*(c*256+d)=c*16777216+d*65536 by omega] at j;rw [u32_or_nat _ _ (by omega) (by omega),j];have h:=o (c*65536+d*256+e) f 8 (by omega);rw [show 2^8*(c*65536+d*256+e)=c*16777216+d*65536+e*256 by omega] at h;rw [u32_or_nat _ _ (by omega) (by omega),h]
theorem ZAR:∀(l:Xu) (h:4<=l.length),Zme (l.take 4)=l[0].toNat*16777216+l[1].toNat*65536+l[2].toNat*256+l[3].toNat
 | a::b::c::d::l,_=>rfl
 | [],h=>by simp at h
 | [_],h=>by simp at h
 | [_,_],h=>by simp at h
 | [_,_,_],h=>by simp at h
theorem ZC7 {k:IntKind} {a b:Int} (h:a=b):Ending.returned (.int k a)=.returned (.int k b):=by rw [h]
theorem Zvf (v:Value) (l:Xu) (w:World) (a:Zv w v l) (r:4<=l.length) :
  Calls prog 154 #[v] w fun e w'=>e=.returned (.int .u32 (Zme (l.take 4)))/\Below w.heap.size w w':=by
 obtain ⟨p,B,rfl,o,A⟩:=a.shape;obtain ⟨b,off,rfl,D,c0⟩:=a.at_ (k:=0) (by omega);obtain ⟨b1,j,f,_,c1⟩:=a.at_ (k:=1) (by omega);obtain ⟨b2,i,d,_,c2⟩:=a.at_ (k:=2) (by omega);obtain ⟨b3,m,c,_,c3⟩:=a.at_ (k:=3) (by omega);simp only [Xx,Addr.mk.injEq] at f d c;obtain ⟨rfl,rfl,_⟩:=f;obtain ⟨rfl,rfl,_⟩:=d;obtain ⟨rfl,rfl,_⟩:=c;have u:=l[0].toNat_lt;have s:=l[1].toNat_lt;have y:=l[2].toNat_lt;have x:=l[3].toNat_lt;have h:=ZAR l r;generalize l[0].toNat=t at *;generalize l[1].toNat=C at *;generalize l[2].toNat=n at *;generalize l[3].toNat=q at *;have g:=Zvg t C n q u s y x;rw [<- h] at g;generalize Zme (l.take 4)=F at *;have z:=Y4 g;clear a g h;rw [Xad] at c0;go_enter func154,ntmps154;go_wp2_with fail;go_quiet (fail)
 go_wp2_with fail;go_ret;exact ⟨ZC7 z.z,MM.below_drewN (Below.refl _ _) nq⟩
def ZCi (B:Nat) (p:Xu) (c:Int) (rest:Xu) (w:World) (e:Ending) (w':World):Prop :=
 ∃a b,e=.returned (.tuple #[a,b,.int .i64 c])/\Zd w.heap.size w' a p/\BIn B w' b rest/\Below w.heap.size w w'
theorem ZC8 {n k:Nat} (h:Zs l=(n,k,0)):Zau l=l.drop k:=by unfold Zau;rw [h];rfl
theorem Zzr (h:Zs l=(0,0,6)):Zau l=[]:=by unfold Zau;rw [h];rfl
theorem ZCM (h:Zs l=(0,0,20)):Zau l=[]:=by unfold Zau;rw [h];rfl
theorem ZAV (B:Nat) (v:Value) (l:Xu) (w:World) (y:BIn B w v l) (hB:B<=w.heap.size) :
  Calls prog 100 #[v] w (ZCi B (Zbv l).1 (Zbv l).2.2 (Zia l) w):=by
 obtain ⟨p,E,rfl,ap,aj⟩:=y.shape;unfold maxLen at aj;have i:=Zj4 B _ l w y hB;rcases FM.ZeQ l with ⟨n,k,g,hb,ar,ak⟩|g|g
 ·rw [g,ZC8 g] at i
  by_cases hn:n<=16777216
  ·have d:=Zli g hn;have C:(l.drop k).length=l.length - k:=Xp;obtain ⟨Y,V⟩:=Xn (l.drop k);rw [V] at i d C;have x:=Y4 i;have t1:decide ((n:Int)>16777216)=false:=by simp;omega
   by_cases hs:Y.length<4+n
   ·rw [Xe hs] at d;rw [d,ZdG d (by omega)];clear d i y g V;go_enter func100,ntmps100;go_wp2_with fail;refine x.z.mono ?_;rintro e s ⟨v1,rfl,a,f⟩;obtain ⟨p2,c,rfl,R,j⟩:=a.shape;unfold maxLen at j;clear a;go_wp2_with fail
    go_ret3
    exact ⟨_,_,rfl,Zgl w.heap.size _,BIn.nil_ _ _,f⟩
   ·rw [Xc hs] at d;have Z:=Y4 d;have HL:=Y4 y;have an:(l.length:Int) - (Y.length:Int)=(k:Int):=by omega
    have ad:=Y4 V;clear d i y g V;go_enter func100,ntmps100;go_wp2_with fail;refine x.z.mono ?_;rintro e s ⟨v1,rfl,a,f⟩;obtain ⟨p2,c,rfl,R,j⟩:=a.shape;unfold maxLen at j;have HY:=Y4 a;obtain ⟨b,off,rfl,aq,aa⟩:=a.at_ (k:=0) (by omega);clear aa;have i1:(k:Int)<=(E:Int):=by omega
    have i2:(4:Int)+n<=(Y.length:Int):=by omega
    have i3:(Y.length:Int)<=(c:Int):=by omega
    have au:=Y4 C
    have hP:BIn B s (.slice (if c=4 then some ⟨b,off,none⟩ else some ⟨b,off+4,none⟩) n (c - 4)) ((Y.drop 4).take n):=by
     have h:=(a.drop 4 (by omega)).take n (by omega);rw [Xae,ZZ] at h;exact h
    have hQ:BIn B s (.slice (if c=4+n then some ⟨b,off,none⟩ else some ⟨b,off+(4+n),none⟩) (Y.length - (4+n)) (c - (4+n))) (Y.drop (4+n)):=by
     have h:=a.drop (4+n) (by omega);rw [Xae,ZZ] at h;exact h
    have hH:BIn B w (.slice p k E) (l.take k):=HL.z.take k ak;have HP:=Y4 hP;have HQ:=Y4 hQ;have HH:=Y4 (hH.below (f.mono hB));have z:=fun W (h:Zv W (.slice (some ⟨b,off,none⟩) Y.length c) Y)=>Zvf _ _ W h (by omega);have O:((Y.drop 4).take n).length=n:=by rw [Xi,Xp];omega
    have N:l.drop (k+(4+n))=Y.drop (4+n):=by rw [<- ad.z,XaI]
    generalize Zme (Y.take 4)=X at *;generalize Y.drop (4+n)=YR at *;generalize (Y.drop 4).take n=S at *;generalize l.take k=U at *;have HF:=Y4 z;have ae:=Y4 N;have ao:n<=16777216:=hn;clear a C hP hQ hH z N;go_wp2_with fail;go_quiet (fail)
    generalize (if c=4 then some (⟨b,off,none⟩:Addr) else some ⟨b,off+4,none⟩)=q1 at *;generalize (if c=4+n then some (⟨b,off,none⟩:Addr) else some ⟨b,off+(4+n),none⟩)=q2 at *;obtain ⟨W,hW⟩:=Xn (s.drewN nq);have t:Below s.heap.size s W:=by rw [<- hW];exact MM.below_drewN (Below.refl _ _) nq
    rw [hW];have ai:=Y4 ((HY.z.below (t.mono (by have:=f.size;omega))).row (by have:=f.size;have:=t.size;omega));go_wp2_with fail;refine (HF.z W ai.z).mono ?_;rintro e L ⟨rfl,I⟩;have T:=grow f (grow t I);have A:Below B s L:=(grow t I).mono (by have:=f.size;omega);have m:B<=L.heap.size:=by have:=T.size;omega
    have ac:=Y4 ((HH.z.below A).row m);have u:=Y4 ((HP.z.below A).row m);rw [<- O] at u;have hK:=Y4 (ZqB U S▸Zut _ _ _ (Zri ac.z u.z));rw [O] at hK u;have M:Below L.heap.size L (L.alloc (.cells #[.slice p k E,.slice q1 n (c - 4)] 23)):=(Below.refl _ _).alloc (Xa _) _;have am:=Y4 (HQ.z.below A)
    by_cases H:X=ZaU (U++S)
    ·have d:=Z.z;rw [Xc (by simp [H])] at d;have G:=Y4 (ZmX d);generalize ZaU (U++S)=F2 at *;subst H;have ag:((X:Int) != (X:Int))=false:=by simp
     have D:=Y4 d;clear d Z;go_wp2_with fail;refine hK.z.mono ?_;rintro e w3 ⟨rfl,F⟩;have q:=grow M F;have ab:=Y4 (ZhH _ S w3 (u.z.below q) (by omega));have al:=Y4 (am.z.below (q.mono m));go_wp2_with fail;refine ab.z.mono ?_;rintro e w4 ⟨v4,rfl,r,J⟩;have af:=Y4 (r.weaken (B':=w.heap.size) (Xy T.size q.size));have ah:=Y4 (al.z.below (J.mono (by have:=q.size;omega)));have o:=grow (grow T q) J;clear r;go_wp2_with fail
     go_ret3
     rw [G.z,D.z,ae.z];exact ⟨_,_,rfl,af.z,ah.z,o⟩
    ·have d:=Z.z;rw [Xe H] at d;have G:=Y4 (ZdG d (by omega));generalize ZaU (U++S)=F2 at *;have ag:((X:Int) != (F2:Int))=true:=by rw [Xah];omega
     have D:=Y4 d;clear d Z;go_wp2_with fail;refine hK.z.mono ?_;rintro e w3 ⟨rfl,F⟩;have o:=grow T (grow M F);go_wp2_with fail
     go_ret3
     rw [G.z,D.z];exact ⟨_,_,rfl,Zgl w.heap.size _,BIn.nil_ _ _,o⟩
  ·have d:=Zj3 g (by omega);rw [d,ZdG d (by omega)];have x:=Y4 i;have t1:decide ((n:Int)>16777216)=true:=by simp;omega
   clear i d y g;go_enter func100,ntmps100;go_wp2_with fail;refine x.z.mono ?_;rintro e s ⟨v1,rfl,a,f⟩;clear a;go_wp2_with fail
   go_ret3
   exact ⟨_,_,rfl,Zgl w.heap.size _,BIn.nil_ _ _,f⟩
 ·have d:=Zix g;rw [g,Zzr g] at i;rw [d,ZdG d (by omega)];have x:=Y4 i;clear i d y g;go_enter func100,ntmps100;go_wp2_with fail;refine x.z.mono ?_;rintro e s ⟨v1,rfl,a,f⟩;clear a;go_wp2_with fail
  go_ret3
  exact ⟨_,_,rfl,Zgl w.heap.size _,BIn.nil_ _ _,f⟩
 ·have d:=Zmg g;rw [g,ZCM g] at i;rw [d,ZdG d (by omega)];have x:=Y4 i;clear i d y g;go_enter func100,ntmps100;go_wp2_with fail;refine x.z.mono ?_;rintro e s ⟨v1,rfl,a,f⟩;clear a;go_wp2_with fail
  go_ret3
  exact ⟨_,_,rfl,Zgl w.heap.size _,BIn.nil_ _ _,f⟩
end FG
namespace VP
open RowKit MM VM
theorem Zho (v:Value) (l:Xu) (s:ByteArray) (w:World) (C:Zv w v l) (x:l.length+s.size<=17592186044416) :
  Calls prog 199 #[v,.string s] w (ZV w.heap.size (l++Z5 s.data.toList) w):=by
 have A:s.data.toList.length=s.size:=(Lib.size_eq s).symm;have t:=Zc s.size;have q:=fun W=>ZcN s.size W (by omega);have r:=fun W (h:Zv W v l)=>Zm0 v l ((Zb s.size).length+s.size:Int) ((Zb s.size).length+s.size) W (by omega) h (by omega);have m:=fun B u W (h:Zd B W u l) H=>Zo4 B u l s.size W (by omega) h (by omega) H;have hm:s.size<=9223372036854775807:=by omega
 have d:(l++Zb s.size).length+s.size<=140737488355328:=by rw [Xd];omega
 unfold Z5;rw [A,<- Xk];obtain ⟨L,y⟩:=Xn ((Zb s.size).length);simp only [y] at q r;have D:L<=10:=by omega
 obtain ⟨T,p⟩:=Xn (l++Zb s.size);simp only [p] at m d;rw [p];have E:=Y4 q;have M:=Y4 r;have G:=Y4 m;have J:=Y4 C;clear q r m C y t A p;go_enter func199,ntmps199;go_wp2_with fail;refine (E.z _).mono ?_;rintro e I ⟨rfl,rfl⟩;go_wp2_with fail;refine (M.z _ J.z).mono ?_;rintro e I ⟨v1,rfl,a,g⟩;have j:=g.size;have F:=Y4 a;clear a;go_wp2_with fail;refine (G.z _ _ _ F.z j).mono ?_;rintro e w2 ⟨v2,rfl,b,k⟩;have z:=g.trans k;have f:=z.size;have n:=Y4 b;clear b;go_wp2_with (at_builtin;refine wpList_append_text rfl _ _ rfl w.heap.size _ _ rfl n.z _ rfl d f ?_)
 intro v3 w3 c o;have i:=Y4 c;clear c;go_wp2_with fail;go_ret;exact ⟨_,rfl,i.z,z.trans o⟩
theorem ZoI (s:ByteArray) (w:World) (m:s.size<=17592186044416) :
  Calls prog 145 #[.string s] w (ZV w.heap.size (Z5 s.data.toList) w):=by
 have l:s.data.toList.length=s.size:=(Lib.size_eq s).symm;have k:=Zc s.size;have h:=fun W=>ZcW s.size W (by omega);have hm:s.size<=9223372036854775807:=by omega
 have c:(Zb s.size).length+s.size<=140737488355328:=by omega
 unfold Z5;rw [l];obtain ⟨T,g⟩:=Xn (Zb s.size);simp only [g] at h c;rw [g];have n:=Y4 h;clear h l g k;go_enter func145,ntmps145;go_wp2_with fail;refine (n.z _).mono ?_;rintro e w1 ⟨v1,rfl,b,d⟩;have i:=d.size;have o:=Y4 b;clear b;go_wp2_with (at_builtin;refine wpList_append_text rfl _ _ rfl w.heap.size _ _ rfl o.z _ rfl c i ?_)
 intro v3 w3 a j;have f:=Y4 a;clear a;go_wp2_with fail;go_ret;exact ⟨_,rfl,f.z,d.trans j⟩
end VP
namespace VG
open RowKit MM VM VP
theorem ZeQ (l:Xu):(∃n k,Zs l=(n,k,0)/\n<18446744073709551616/\1<=k/\k<=l.length)\/Zs l=(0,0,6)\/Zs l=(0,0,20):=by
 have h:=Zba l;rcases h.2.2.1 with a|a
 ·exact .inl ⟨(Zs l).1,(Zs l).2.1,by rw [<- a],h.1,h.2.2.2 a,h.2.1⟩
 ·exact .inr a
theorem Zzn {l:Xu} {n k:Nat} (h:Zs l=(n,k,0)):Zau l=l.drop k:=by unfold Zau;rw [h];rfl
theorem Zrs {l:Xu} (h:Zs l=(0,0,6)):Zau l=[]:=by unfold Zau;rw [h];rfl
theorem Zv7 {l:Xu} (h:Zs l=(0,0,20)):Zau l=[]:=by unfold Zau;rw [h];rfl
def Zei (l:Xu) (a:Int):Xu:=if (Zah l a).2.2=0 then l.drop (Zah l a).2.1 else []
theorem ZAS {l:Xu} {n k:Nat} (h:Zs l=(n,k,0)) (a:Int) :
  (max 0 a<(n:Int)->(Zah l a).1=[]/\(Zah l a).2.2=2/\Zei l a=[]) /\
  (¬max 0 a<(n:Int)->(l.drop k).length<n->(Zah l a).1=[]/\(Zah l a).2.2=6/\Zei l a=[]) /\
  (¬max 0 a<(n:Int)->¬(l.drop k).length<n->(Zah l a).1=(l.drop k).take n/\(Zah l a).2.2=0/\Zei l a=(l.drop k).drop n):=by
 rw [Xp];refine ⟨fun b => ?_,fun b c => ?_,fun b c => ?_⟩
 ·have e:Zah l a=([],0,2):=by unfold Zah;rw [h];simp [b]
  unfold Zei;rw [e];exact ⟨rfl,rfl,rfl⟩
 ·have e:Zah l a=([],0,6):=by
   unfold Zah;rw [h]
   show (if (0:Int)≠0 then _ else if max 0 a<(n:Int) then _ else if l.length - k<n then _ else _)=_
   rw [Xc (by simp),Xc b,Xe c]
  unfold Zei;rw [e];exact ⟨rfl,rfl,rfl⟩
 ·have e:Zah l a=((l.drop k).take n,k+n,0):=by
   unfold Zah;rw [h]
   show (if (0:Int)≠0 then _ else if max 0 a<(n:Int) then _ else if l.length - k<n then _ else _)=_
   rw [Xc (by simp),Xc b,Xc c]
  unfold Zei;rw [e,XaI];exact ⟨rfl,rfl,rfl⟩
theorem ZqG {l:Xu} {b:Int} (h:Zs l=(0,0,b)) (c:b≠0) (a:Int):(Zah l a).1=[]/\(Zah l a).2.2=b/\Zei l a=[]:=by
 have e:Zah l a=([],0,b):=by
  unfold Zah;rw [h]
  show (if b≠0 then _ else _)=_
  rw [Xe c]
 unfold Zei;rw [e];exact ⟨rfl,rfl,Xc c⟩
end VG
namespace VP
open RowKit MM VM
variable {n:Int}
theorem ZrX (x:BitVec 64):(x ^^^ BitVec.allOnes 64).toNat=18446744073709551615 - x.toNat:=by
 rw [BitVec.xor_allOnes,BitVec.toNat_not]
theorem Zkc (x:Nat) (h:x<18446744073709551616):(BitVec.ofInt 64 (x:Int)).toNat=x:=by
 rw [BitVec.ofInt_natCast,BitVec.toNat_ofNat];exact Nat.mod_eq_of_lt (by omega)
theorem ZsT:BitVec.ofInt 64 18446744073709551615=BitVec.allOnes 64:=by decide
theorem ZsS:BitVec.ofInt 64 (-1)=BitVec.allOnes 64:=by decide
theorem ZB6 (n:Int) (h0 : -9223372036854775808<=n) (h1:n<=9223372036854775807) :
  bits .xor .u64 (IntKind.u64.wrap (IntKind.u64.wrap n*2)) (IntKind.u64.wrap (n / 9223372036854775808))=(zig n:Int):=by
 unfold zig
 by_cases h:0<=n
 ·obtain ⟨m,rfl⟩:=Xay h;have a:IntKind.u64.wrap ((m:Int) / 9223372036854775808)=((0:Nat):Int):=by rw [IntKind.wrap_u64];omega
  have c:IntKind.u64.wrap (IntKind.u64.wrap (m:Int)*2)=((2*m:Nat):Int):=by rw [IntKind.wrap_u64,IntKind.wrap_u64];omega
  rw [a,c,u64_xor_nat _ _ (by omega) (by omega),Nat.xor_zero,Xe h];omega
 ·have a:IntKind.u64.wrap (n / 9223372036854775808)=18446744073709551615:=by rw [IntKind.wrap_u64];omega
  obtain ⟨x,b,d⟩:∃x:Nat,IntKind.u64.wrap (IntKind.u64.wrap n*2)=(x:Int)/\(x:Int)=2*n+18446744073709551616:=⟨(2*n+18446744073709551616).toNat,by rw [IntKind.wrap_u64,IntKind.wrap_u64];omega,by omega⟩;rw [a,b,Xc h]
  show IntKind.u64.wrap ((BitVec.ofInt 64 (x:Int) ^^^ BitVec.ofInt 64 18446744073709551615).toNat:Int)=_
  rw [ZsT,ZrX,Zkc x (by omega),IntKind.wrap_u64];omega
theorem ZwB (n:Nat) (d:n<18446744073709551616):bits .xor .i64 ((n:Int) / 2) (wrap64 (-wrap64 (bits .and .u64 (n:Int) 1)))=zag n:=by
 have c:bits .and .u64 (n:Int) 1=((n%2:Nat):Int):=by
  have:=u64_and_nat n 1 d (by omega);rw [Nat.and_one_is_mod] at this;exact this
 have b:(n:Int) / 2=((n / 2:Nat):Int):=by omega
 rw [c,b];unfold zag
 by_cases h:n%2=0
 ·rw [Xe h,h];have a:wrap64 (-wrap64 ((0:Nat):Int))=0:=by unfold wrap64;omega
  rw [a]
  show IntKind.i64.wrap ((BitVec.ofInt 64 ((n / 2:Nat):Int) ^^^ BitVec.ofInt 64 0).toNat:Int)=_
  rw [show BitVec.ofInt 64 0=0#64 from by decide,BitVec.xor_zero,Zkc _ (by omega),IntKind.wrap_i64];omega
 ·have e:n%2=1:=by omega
  rw [Xc h,e];have a:wrap64 (-wrap64 ((1:Nat):Int)) = -1:=by unfold wrap64;omega
  rw [a]
  show IntKind.i64.wrap ((BitVec.ofInt 64 ((n / 2:Nat):Int) ^^^ BitVec.ofInt 64 (-1)).toNat:Int)=_
  rw [ZsS,ZrX,Zkc _ (by omega),IntKind.wrap_i64];omega
theorem Zuo {k:IntKind} {a b:Int} (h:a=b):Ending.returned (.int k a)=.returned (.int k b):=by rw [h]
theorem ZB5 (h:0<=n):2*n=(zig n:Int):=by unfold zig;rw [Xe h];omega
theorem ZB4 (h:¬ 0<=n):2*(-1 - n)+1=(zig n:Int):=by unfold zig;rw [Xc h];omega
theorem ZpQ (n:Int) (w:World) (c : -9223372036854775808<=n) (a:n<=9223372036854775807):Calls prog 202 #[.int .i64 n] w fun e w'=>e=.returned (.int .u64 (zig n))/\w=w':=by
 have b:=Y4 (ZB6 n c a);go_enter func202,ntmps202;go_wp2_with fail;go_ret;exact ⟨Zuo b.z,rfl⟩
theorem ZwA (n:Nat) (w:World) (a:n<18446744073709551616):Calls prog 286 #[.int .u64 n] w fun e w'=>e=.returned (.int .i64 (zag n))/\w=w':=by
 have b:=Y4 (ZwB n a);go_enter func286,ntmps286;go_wp2_with fail;go_ret;exact ⟨Zuo b.z,rfl⟩
theorem Zzy (n:Int) (w:World) (h0 : -9223372036854775808<=n) (h1:n<=9223372036854775807):Calls prog 149 #[.int .i64 n] w fun e w'=>e=.returned (.int .u64 (zig n))/\w=w':=by
 by_cases h:0<=n
 ·have a:=Y4 (ZB5 h);go_enter func149,ntmps149;go_wp2_with fail;go_ret;exact ⟨Zuo a.z,rfl⟩
 ·have a:=Y4 (ZB4 h);go_enter func149,ntmps149;go_wp2_with fail;go_ret;exact ⟨Zuo a.z,rfl⟩
theorem Zs6 (v:Value) (l:Xu) (n:Int) (w:World) (f : -9223372036854775808<=n) (i:n<=9223372036854775807) (d:Zv w v l) (b:l.length<=35184372088832) :
  Calls prog 265 #[v,.int .i64 n] w (ZV w.heap.size (l++ZaV n) w):=by
 have g:=fun W=>ZpQ n W f i;have j:=fun W (h:Zv W v l)=>Zdd v l (zig n) W (Znk f i) h b;unfold ZaV;generalize zig n=z at *;have k:=Y4 g;have o:=Y4 j;have m:=Y4 d;clear g j d;go_enter func265,ntmps265;go_wp2_with fail;refine (k.z _).mono ?_;rintro e q ⟨rfl,rfl⟩;go_wp2_with fail;refine (o.z _ m.z).mono ?_;rintro e q ⟨v1,rfl,a,c⟩;have p:=Y4 a;clear a;go_wp2_with fail;go_ret;exact ⟨_,rfl,p.z,c⟩
theorem ZmY (n:Int) (w:World) (d : -9223372036854775808<=n) (g:n<=9223372036854775807) :
  Calls prog 95 #[.int .i64 n] w (ZV w.heap.size (ZaV n) w):=by
 have c:=fun W=>Zzy n W d g;have f:=fun W=>ZcW (zig n) W (Znk d g);unfold ZaV;generalize zig n=z at *;have h:=Y4 c;have i:=Y4 f;clear c f;go_enter func95,ntmps95;go_wp2_with fail;refine (h.z _).mono ?_;rintro e k ⟨rfl,rfl⟩;go_wp2_with fail;refine (i.z _).mono ?_;rintro e k ⟨v1,rfl,a,b⟩;have j:=Y4 a;clear a;go_wp2_with fail;go_ret;exact ⟨_,rfl,j.z,b⟩
end VP
namespace VG
open RowKit MM VM VP
theorem Zmj (B:Nat) (v:Value) (l:Xu) (b:Int) (w:World) (L : -9223372036854775808<=b) (J:b<=9223372036854775807) (u:BIn B w v l) (I:B<=w.heap.size) :
  Calls prog 160 #[v,.int .i64 b] w (ZwW B (.string ⟨(Zah l b).1.toArray⟩) (Zah l b).2.2 (Zei l b) w):=by
 have m:=Zj4 B v l w u I;rcases ZeQ l with ⟨n,k,g,hb,F,G⟩|g|g
 ·rw [g,Zzn g] at m;have c:=ZAS g b;obtain ⟨R,C⟩:=Xn (l.drop k);rw [C] at m c;have q:=Y4 m;obtain ⟨M,hM⟩:=Xn (max b 0);have s:max 0 b=M:=by omega
  have E:0<=M/\M<=9223372036854775807:=by omega
  rw [s] at c;clear m u g C s L J
  by_cases A:M<(n:Int)
  ·obtain ⟨f,i,h⟩:=c.1 A;rw [f,i,h];clear c f i h;go_enter func160,ntmps160;go_wp2_with fail;refine q.z.mono ?_;rintro e o ⟨x,rfl,a,d⟩;clear a;go_wp2_with fail
   go_ret3
   exact ⟨_,rfl,BIn.nil_ _ o,d⟩
  ·by_cases hs:R.length<n
   ·obtain ⟨f,i,h⟩:=c.2.1 A hs;rw [f,i,h];clear c f i h;go_enter func160,ntmps160;go_wp2_with fail;refine q.z.mono ?_;rintro e o ⟨x,rfl,a,d⟩;obtain ⟨p,t,rfl,y,r⟩:=a.shape;unfold maxLen at r;clear a;go_wp2_with fail
    go_ret3
    exact ⟨_,rfl,BIn.nil_ _ o,d⟩
   ·obtain ⟨f,i,h⟩:=c.2.2 A hs;rw [f,i,h];obtain ⟨T,z⟩:∃T:ByteArray,(⟨(R.take n).toArray⟩:ByteArray)=T:=⟨_,rfl⟩;rw [z];have O:=Y4 z;clear c f i h z;go_enter func160,ntmps160;go_wp2_with fail;refine q.z.mono ?_;rintro e o ⟨x,rfl,a,d⟩;obtain ⟨p,t,rfl,y,r⟩:=a.shape;unfold maxLen at r;have j:=fun nq=>((a.take n (by omega)).drewN nq).conv;simp only [O.z] at j;have D:=Y4 (a.drop3 n (by omega));have N:(n:Int)<=(R.length:Int):=by omega
    have H:(R.length:Int)<=(t:Int):=by omega
    clear a;go_wp2_with fail;go_quiet (fail)
    clear j;go_wp2_with fail
    ·go_ret3
     exact ⟨_,rfl,(D.z.1 (by assumption)).drewN nq,MM.below_drewN d nq⟩
    ·go_ret3
     exact ⟨_,rfl,(D.z.2 (by assumption)).drewN nq,MM.below_drewN d nq⟩
 ·rw [g,Zrs g] at m;obtain ⟨f,i,h⟩:=ZqG g (by decide) b;rw [f,i,h];have q:=Y4 m;clear m u g f i h;go_enter func160,ntmps160;go_wp2_with fail;refine q.z.mono ?_;rintro e o ⟨x,rfl,a,d⟩;clear a;go_wp2_with fail
  go_ret3
  exact ⟨_,rfl,BIn.nil_ _ o,d⟩
 ·rw [g,Zv7 g] at m;obtain ⟨f,i,h⟩:=ZqG g (by decide) b;rw [f,i,h];have q:=Y4 m;clear m u g f i h;go_enter func160,ntmps160;go_wp2_with fail;refine q.z.mono ?_;rintro e o ⟨x,rfl,a,d⟩;clear a;go_wp2_with fail
  go_ret3
  exact ⟨_,rfl,BIn.nil_ _ o,d⟩
theorem Zvm (B:Nat) (v:Value) (l:Xu) (w:World) (c:BIn B w v l) (m:B<=w.heap.size) :
  Calls prog 282 #[v] w (ZwW B (.int .i64 (Za8 l).1) (Za8 l).2.2 (Zau l) w):=by
 have g:=(Zba l).1;have d:=Zj4 B v l w c m;have f:=fun W=>ZwA (Zs l).1 W g;unfold Za8;generalize (Zs l).1=n at *;generalize (Zs l).2.1=k at *;generalize (Zs l).2.2=e0 at *;generalize Zau l=R at *;have h:=Y4 d;have j:=Y4 f;clear d f c g;go_enter func282,ntmps282;go_wp2_with fail;refine h.z.mono ?_;rintro e w1 ⟨v1,rfl,a,b⟩;have i:=Y4 a;clear a;go_wp2_with fail;refine (j.z _).mono ?_;rintro e w2 ⟨rfl,rfl⟩;go_wp2_with fail
 go_ret3
 exact ⟨_,rfl,i.z,b⟩
def Fits (a:List Int):Prop:=∀k,k<a.length -> -9223372036854775808<=a.getD k 0/\a.getD k 0<=9223372036854775807
theorem ZlF (a:List Int) (k:Nat) (hn:a.length<=1000000):(Zcc (a.take k)).length<=10000000:=by
 have:=ZpX (a.take k);have h2:(a.take k).length<=a.length:=XaU _ _;omega
theorem ZmT (v u:Value) (l:Xu) (a:List Int) (w:World) (X:Zv w v l) (J:Zc6 w u a) (V:Fits a) (U:l.length<=1099511627776) (hn:a.length<=1000000) :
  Calls prog 138 #[v,u] w (ZV w.heap.size (l++Zcc a) w):=by
 obtain ⟨p,ab,rfl,aa,O⟩:=J.shape;unfold maxLen at O;have HR:=Y4 X;have Z:=Y4 J;have Y:=Y4 V;clear X J V;go_enter func138,ntmps138;go_wp2_with fail
 go_loop [5,12] (fun sz i=>∃k:Nat,k<=a.length/\i=.int .i64 k/\sz=.int .i64 ((Zcc (a.take k)).length:Int)) (fun _ i=>a.length - (intOf i).toNat)
 case atStart=>exact ⟨0,XX _,rfl,rfl⟩
 case round =>
  obtain ⟨k,hk,rfl,rfl⟩:=hrel;have d:=ZlF a k hn
  by_cases f:k<a.length
  ·obtain ⟨b,off,rfl,T,g⟩:=Z.z.at_ f;have hf:=Y.z k f;have c:=Xr List.length (ZjK a k f);rw [Xd] at c;obtain ⟨z,m⟩:=Xn (a.getD k 0);rw [m] at g hf c;have o:=fun W=>ZpQ z W hf.1 hf.2;have r:=fun W=>ZcN (zig z) W (Znk hf.1 hf.2);unfold ZaV at c;have s:=(Zc (zig z)).2;obtain ⟨q,B⟩:=Xn (zig z);simp only [B] at o r c s;obtain ⟨L,t⟩:=Xn ((Zcc (a.take k)).length);obtain ⟨M,E⟩:=Xn ((Zb q).length);simp only [E] at r s;rw [t,E] at c;rw [t] at d ⊢;have A:=Y4 o;have S:=Y4 r;have HS:=Y4 c;clear o r c m hf B t E;go_wp2_with fail;refine (A.z _).mono ?_;rintro e N ⟨rfl,rfl⟩;go_wp2_with fail;refine (S.z _).mono ?_;rintro e N ⟨rfl,rfl⟩;go_wp2_with fail
   go_round
   case rel=>exact ⟨k+1,by omega,by go_num,by rw [HS.z];go_num⟩
   case measure=>simp [intOf];omega
  ·obtain rfl:k=a.length:=by omega
   rw [XB] at d ⊢;have o:=fun W (h:Zv W v l)=>Zm0 v l ((Zcc a).length:Int) _ W rfl h (by omega);obtain ⟨L,t⟩:=Xn ((Zcc a).length);simp only [t] at o;rw [t];have A:=Y4 o;clear o t;go_wp2_with fail;refine (A.z _ HR.z).mono ?_;rintro e N ⟨v1,rfl,j,R⟩
   have C:Y5 (Zd w.heap.size N v1 (l++Zcc (a.take 0))):=by
    have e:l++Zcc (a.take 0)=l:=by simp [Zcc]
    rw [e];exact Y4 j
   clear j;go_wp2_with fail
   go_loopw [0,27] (fun bv i wr=>∃k:Nat,k<=a.length/\i=.int .i64 k/\Y5 (Zd w.heap.size wr bv (l++Zcc (a.take k)))/\Below w.heap.size w wr) (fun _ i _=>a.length - (intOf i).toNat)
   case atStart=>exact ⟨0,XX _,rfl,C,R⟩
   case round =>
    obtain ⟨k,hk,rfl,H,D⟩:=hrel;clear C;have F:=D.size
    by_cases f:k<a.length
    ·obtain ⟨b,off,rfl,T,g⟩:=(Z.z.below D).at_ f;have hf:=Y.z k f;have d:=ZlF a k hn;have c:=ZjK a k f;obtain ⟨z,m⟩:=Xn (a.getD k 0);rw [m] at g hf c;have o:=fun W=>ZpQ z W hf.1 hf.2;have r:=fun W x (h:Zd w.heap.size W x (l++Zcc (a.take k))) hB=>Zo4 w.heap.size x _ (zig z) W (Znk hf.1 hf.2) h (by rw [Xd];omega) hB;unfold ZaV at c;obtain ⟨q,B⟩:=Xn (zig z);simp only [B] at o r c;have y:l++Zcc (a.take k)++Zb q=l++Zcc (a.take (k+1)):=by rw [c,Xk]
     rw [y] at r;have A:=Y4 o;have S:=Y4 r;clear o r c m hf B y d;go_wp2_with fail;refine (A.z _).mono ?_;rintro e w2 ⟨rfl,rfl⟩;go_wp2_with fail;refine (S.z _ _ H.z F).mono ?_;rintro e w2 ⟨v2,rfl,n,G⟩;have I:=Y4 n;clear n;go_wp2_with fail;go_roundw
     case rel=>exact ⟨k+1,by omega,by go_num,I,D.trans G⟩
     case measure=>simp [intOf];omega
    ·obtain rfl:k=a.length:=by omega
     rw [XB] at H;go_wp2_with fail;go_ret;exact ⟨_,rfl,H.z,D⟩
theorem Zzj (u:Value) (a:List Int) (w:World) (B:Zc6 w u a) (I:Fits a) (V:a.length<=1000000) :
  Calls prog 44 #[u] w (ZV w.heap.size (Zcc a) w):=by
 obtain ⟨p,X,rfl,O,E⟩:=B.shape;unfold maxLen at E;have U:=Y4 B;have R:=Y4 I;have t:Y5 (Zd w.heap.size w (.slice none 0 0) (Zcc (a.take 0))):=Y4 (World.ownsRow_nil _ _ _ _);clear B I;go_enter func44,ntmps44;go_wp2_with fail
 go_loopw [3,4] (fun S i wr=>∃k:Nat,k<=a.length/\i=.int .i64 k/\Y5 (Zd w.heap.size wr S (Zcc (a.take k)))/\Below w.heap.size w wr) (fun _ i _=>a.length - (intOf i).toNat)
 case atStart=>exact ⟨0,XX _,rfl,t,Below.refl _ _⟩
 case round =>
  obtain ⟨k,hk,rfl,v,x⟩:=hrel;clear t;have L:=x.size
  by_cases h:k<a.length
  ·obtain ⟨b,off,rfl,Y,j⟩:=(U.z.below x).at_ h;have hf:=R.z k h;have g:=ZlF a k V;have c:=ZjK a k h;obtain ⟨z,s⟩:=Xn (a.getD k 0);rw [s] at j hf c;have G:=fun W=>ZmY z W hf.1 hf.2;have o:(ZaV z).length<=10:=(Zc (zig z)).2;obtain ⟨q,H⟩:=Xn (ZaV z);simp only [H] at G c o;obtain ⟨T,F⟩:=Xn (Zcc (a.take k));have l:T.length+q.length<=140737488355328:=by rw [<- F];omega
   rw [F] at c v;have J:=Y4 G;have N:=Y4 c;clear G c s hf H g F;go_wp2_with fail;refine (J.z _).mono ?_;rintro e w2 ⟨v2,rfl,d,m⟩;have A:=Y4 (v.z.keep m);have D:=Y4 d.brow;have n:=grow x m;have r:=n.size;clear d;go_wp2_with (at_builtin;refine Zh rfl _ _ rfl w.heap.size _ _ rfl A.z _ _ rfl D.z l r ?_)
   intro v3 M f C;have y:Y5 (Zd w.heap.size M v3 (Zcc (a.take (k+1)))):=by rw [N.z];exact Y4 f
   clear f;go_wp2_with fail;go_roundw
   case rel=>exact ⟨k+1,by omega,by go_num,y,n.trans C⟩
   case measure=>simp [intOf];omega
  ·obtain rfl:k=a.length:=by omega
   rw [XB] at v;go_wp2_with fail;go_ret;exact ⟨_,rfl,v.z,x⟩
end VG
namespace DT
open RowKit MM VM
variable {B g:Nat} {w w1:World} {l m:Xu} {o:Bool} {v:Value}
def Ze (m:Nat) (l:Xu) (o:Bool):Nat×Xu×Bool:=if (Zs l).2.2=0/\(Zs l).1<=m then ((Zs l).1,VG.Zau l,o) else (0,[],true)
def Z6 (m:Int) (l:Xu) (o:Bool):Xu×Xu×Bool:=((Zah l m).1,VG.Zei l m,o||(Zah l m).2.2 != 0)
def Rd (B:Nat) (w:World) (g:Nat) (l:Xu) (o:Bool):Prop:=∃v,w.heap[g]? = some (.cells #[v,.bool o] 166 (0,0))/\BIn B w v l
theorem Rd.lt (h:Rd B w g l o):g<w.heap.size:=by obtain ⟨v,h,_⟩:=h;exact (Xq.1 h).1
theorem Rd.keep {S:Nat->Prop} {w':World} (h:Rd B w g l o) (b:Kep S w w') (f:S g) (e:∀k,k<B->S k) (a:B<=w.heap.size):Rd B w' g l o:=by
 have d:=h.lt;obtain ⟨v,h,c⟩:=h;exact ⟨v,(b.block g d f).trans h,c.below (b.below a e)⟩
theorem Zgr (h:Rd B w g l o) (d:Below w.heap.size w w1) (c:B<=g) (e:BIn B w1 v m):Rd B (w1.setCell ⟨g,0,none⟩ v) g m o:=by
 obtain ⟨v0,h,_⟩:=h;have a:=(Xq.1 h).1;have b:=heap_setCell_same w1 g 0 _ _ v ((d.block g a).trans h);exact ⟨v,b,e.below ((Below.refl B w1).setCell (p:=⟨g,0,none⟩) c v)⟩
theorem Zju (h:Rd B w g l o) (e:Below w.heap.size w w1) (b:B<=g) (f:BIn B w1 v m):Rd B ((w1.setCell ⟨g,0,none⟩ v).setCell ⟨g,1,none⟩ (.bool true)) g m true:=by
 obtain ⟨v0,h,_⟩:=h;have a:=(Xq.1 h).1;have c:=heap_setCell_same w1 g 0 _ _ v ((e.block g a).trans h);have d:=heap_setCell_same _ g 1 _ _ (.bool true) c;exact ⟨v,d,(f.below ((Below.refl B w1).setCell (p:=⟨g,0,none⟩) b v)).below ((Below.refl B _).setCell (p:=⟨g,1,none⟩) b (.bool true))⟩
def ZfA (B g:Nat) (x:Value) (l:Xu) (o:Bool) (w:World) (e:Ending) (w':World):Prop:=e=.returned x/\Rd B w' g l o/\Kep (fun b=>b≠g) w w'
theorem Zbs (B g:Nat) (l m:Xu) (o:Bool) (v:Value) (b:Int) (w:World) (h:Rd B w g l o) (k:B<=g) (d:BIn B w v m) :
  Calls prog 159 #[.pointer (some ⟨g,0,none⟩),v,.int .i64 b] w (ZfA B g (.tuple #[]) m (o||b != 0) w):=by
 have e:=Y4 h;have p:=h.lt;obtain ⟨v0,a,_⟩:=h;have c:=Y4 d;have f0:=cell_of_row w g 0 _ _ _ a;have f1:=cell_of_row w g 1 _ _ _ a;have f2:=frozen_of_row w g 0 _ _ a;have f3:=frozen_of_row w g 1 _ _ a;obtain ⟨n,c1,rfl,_⟩:=d.shape
 by_cases j:b=0
 ·subst j;have i:(o||((0:Int) != 0))=o:=by simp
  rw [i];have f:=Y4 (show ZfA B g (.tuple #[]) m o w (.returned (.tuple #[])) (w.setCell ⟨g,0,none⟩ (.slice n m.length c1)) from ⟨rfl,Zgr e.z (Below.refl _ _) k c.z,Zy (by simp) _⟩);clear d c e a;go_enter func159,ntmps159;go_wp2_with fail;refine bodyPost_end (results_none rfl _ _ _) rfl ?_;exact f.z
 ·have t0:(b != 0)=true:=by rw [Xah];exact j
  have i:(o||(b != 0))=true:=by rw [t0];simp
  rw [i];have f:=Y4 (show ZfA B g (.tuple #[]) m true w (.returned (.tuple #[])) ((w.setCell ⟨g,0,none⟩ (.slice n m.length c1)).setCell ⟨g,1,none⟩ (.bool true)) from ⟨rfl,Zju e.z (Below.refl _ _) k c.z,(Zy (by simp) _).trans (Zy (by simp) _)⟩);clear d c e a;go_enter func159,ntmps159;go_wp2_with fail;refine bodyPost_end (results_none rfl _ _ _) rfl ?_;exact f.z
theorem Zhw (B g:Nat) (a:Int) (l:Xu) (o:Bool) (w:World) (h0:0<=a) (q:a<=9223372036854775807) (h:Rd B w g l o) (t:B<=g) :
  Calls prog 103 #[.pointer (some ⟨g,0,none⟩),.int .i64 a] w (ZfA B g (.string ⟨(Z6 a l o).1.toArray⟩) (Z6 a l o).2.1 (Z6 a l o).2.2 w):=by
 have D:=Y4 h;have c:=h.lt;obtain ⟨v,x,u⟩:=h;have f0:w.cell? ⟨g,0,none⟩=some v:=by rw [cell_of_row w g 0 _ _ _ x];rfl
 have y:=Y4 (VG.Zmj B v l a w (by omega) q u (Xal (Xbl t c)));have d:=Y4 (fun m v p w1 (q:Rd B w1 g l o) (j:BIn B w1 v m)=>Zbs B g l m o v p w1 q t j);unfold Z6;dsimp only;generalize (Zah l a).1=n at *;generalize (Zah l a).2.2=p at *;generalize VG.Zei l a=R at *;have k:=Y4 (show B<=w.heap.size by omega);clear u x c;go_enter func103,ntmps103;go_wp2_with fail;refine y.z.mono ?_;rintro e w1 ⟨A,rfl,i,b⟩;have f:=D.z.keep (S:=fun _=>True) (Za _ b) trivial (fun _ _=>trivial) k.z;have s:=Y4 (d.z R A p w1 f i);have r:=Y4 b;clear i b f y d;go_wp2_with fail;refine s.z.mono ?_;rintro e w2 ⟨rfl,j,z⟩;have C:=Y4 j;have E:=Y4 z;clear j z s;go_wp2_with fail;go_ret;exact ⟨rfl,C.z,(Za _ r.z).trans E.z⟩
theorem ZaQ (B g:Nat) (m:Nat) (l:Xu) (o:Bool) (w:World) (hm:m<=1099511627776) (h:Rd B w g l o) (G:B<=g) :
  Calls prog 102 #[.pointer (some ⟨g,0,none⟩),.int .i64 m] w (ZfA B g (.int .i64 (Ze m l o).1) (Ze m l o).2.1 (Ze m l o).2.2 w):=by
 have L:=Y4 h;have s:=h.lt;obtain ⟨v,I,H⟩:=h;have f0:w.cell? ⟨g,0,none⟩=some v:=by rw [cell_of_row w g 0 _ _ _ I];rfl
 have z:=Y4 (VG.Zj4 B v l w H (Xal (Xbl G s)));have f:=Y4 (fun m v j w1 (M:Rd B w1 g l o) (p:BIn B w1 v m)=>Zbs B g l m o v j w1 M G p);have A:=Zba l
 have b:(Zs l).2.2≠0->(Zs l).1=0/\VG.Zau l=[]:=fun E=>by
  refine ⟨?_,by unfold VG.Zau;rw [Xc E]⟩;rcases A.2.2.1 with e|e|e
  ·exact absurd e E
  ·rw [e]
  ·rw [e]
 have hn:=A.1;unfold Ze;generalize (Zs l).1=n at *;generalize (Zs l).2.2=j at *;generalize VG.Zau l=R at *;have q:=Y4 (show B<=w.heap.size by omega);clear H I s A
 by_cases x:n<=m
 ·have d:(if j=0/\n<=m then (n,R,o) else (0,[],true))=(n,R,o||j != 0):=by
   by_cases t:j=0
   ·subst t;rw [Xe ⟨rfl,x⟩];simp
   ·rw [Xc (fun h=>t h.1),(b t).1,(b t).2];have:(j != 0)=true:=by rw [Xah];exact t
    rw [this];simp
  rw [d];have N:decide ((n:Int)>(m:Int))=false:=Xz (by omega);have O:IntKind.u64.wrap (m:Int)=(m:Int):=by rw [IntKind.wrap_u64];omega
  have t3:IntKind.i64.wrap (n:Int)=(n:Int):=by rw [IntKind.wrap_i64];omega
  dsimp only;clear d b;go_enter func102,ntmps102;go_wp2_with fail;refine z.z.mono ?_;rintro e w1 ⟨F,rfl,i,a⟩;have c:=L.z.keep (S:=fun _=>True) (Za _ a) trivial (fun _ _=>trivial) q.z;have r:=Y4 (f.z R F j w1 c i);have k:=Y4 a;clear i a c z f;go_wp2_with fail;refine r.z.mono ?_;rintro e J ⟨rfl,p,y⟩;have C:=Y4 p;have D:=Y4 y;clear p y r;go_wp2_with fail;go_ret;exact ⟨rfl,C.z,(Za _ k.z).trans D.z⟩
 ·have d:(if j=0/\n<=m then (n,R,o) else (0,[],true))=(0,[],true):=by rw [Xc (fun h=>x h.2)]
  rw [d];have N:decide ((n:Int)>(m:Int))=true:=Xs (by omega);have O:IntKind.u64.wrap (m:Int)=(m:Int):=by rw [IntKind.wrap_u64];omega
  dsimp only;clear d b;go_enter func102,ntmps102;go_wp2_with fail;refine z.z.mono ?_;rintro e w1 ⟨F,rfl,i,a⟩;have c:=L.z.keep (S:=fun _=>True) (Za _ a) trivial (fun _ _=>trivial) q.z;have r:=Y4 (f.z [] (.slice none 0 0) 110 w1 c (BIn.nil_ _ _));have k:=Y4 a;clear i a c z f;go_wp2_with fail;refine r.z.mono ?_;rintro e J ⟨rfl,p,y⟩;have u:Rd B J g [] true:=by have:=p;simpa using this
  have C:=Y4 u;have D:=Y4 y;clear p u y r;go_wp2_with fail;go_ret;exact ⟨rfl,C.z,(Za _ k.z).trans D.z⟩
