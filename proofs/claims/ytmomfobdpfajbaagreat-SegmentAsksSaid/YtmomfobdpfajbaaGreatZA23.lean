import Derived.Test.YtmomfobdpfajbaaGreatZA5
import Derived.WalkSpells
set_option maxRecDepth 100000
set_option maxHeartbeats 0
set_option linter.unusedVariables false
set_option linter.unusedSimpArgs false
namespace Go.Proofs.YtmomfobdpfajbaaGreat
open Tryz
namespace BL
open RowKit MM BM
variable {w w':World} {g b cap j:Nat} {L:Xu}
theorem ZcN (p:Option Addr) (n cap:Nat) (w:World) (a:n<=131072):Calls prog 172 #[.slice p n cap] w fun e w'=>e=.returned (.int .i64 (8*(n:Int)))/\w=w':=by
 go_enter func172,ntmps172;go_wp2_with fail;go_ret;exact ⟨rfl,rfl⟩
structure FAt (w:World) (g b cap:Nat) (L:Xu):Prop where
 cell:w.cell? ⟨g,0,none⟩=some (.slice (some ⟨b,0,none⟩) L.length cap)
 own:Zd b w (.slice (some ⟨b,0,none⟩) L.length cap) L
 ne:g≠b
 lo:8<=L.length
 hi:L.length<=131072
theorem FAt.glt (h:FAt w g b cap L):g<w.heap.size:=by
 have c:=h.cell
 by_cases a:g<w.heap.size
 ·exact a
 ·simp [World.cell?,Xau (XaR a)] at c
theorem FAt.there (h:FAt w g b cap L) (a:j<L.length):w.cell? ⟨b,j,none⟩=some (.int .u8 (L[j].toNat:Int)):=Zd.cell h.own (XZ a)
theorem FAt.blt (h:FAt w g b cap L):b<w.heap.size:=by
 have c:=h.there (j:=0) (by have:=h.lo;omega)
 by_cases a:b<w.heap.size
 ·exact a
 ·simp [World.cell?,Xau (XaR a)] at c
theorem Zc2 {n:Nat} (h:Zd b w (.slice (some ⟨b,0,none⟩) n cap) L) (e:w'.heap[b]? = w.heap[b]?):Zd b w' (.slice (some ⟨b,0,none⟩) n cap) L:=by
 refine ⟨h.1,?_⟩;rcases h.2 with ⟨d,_⟩|⟨g,cap,a,c,f,i,rest⟩
 ·cases d
 ·refine .inr ⟨g,cap,a,c,f,?_,rest⟩;simp only [Value.slice.injEq,Xx,Addr.mk.injEq] at c;obtain ⟨⟨rfl,_⟩,_⟩:=c;rw [e];exact i
theorem FAt.keep {S:Nat->Prop} (h:FAt w g b cap L) (a:Kep S w w') (d:S g) (c:S b):FAt w' g b cap L :=
 ⟨(a.cell h.glt d 0).trans h.cell,Zc2 h.own (a.block b h.blt c),h.ne,h.lo,h.hi⟩
theorem FAt.below (h:FAt w g b cap L) (a:Below w.heap.size w w'):FAt w' g b cap L:=h.keep (Za (fun _=>True) a) trivial trivial
theorem FAt.brow (h:FAt w g b cap L):Zv w (.slice (some ⟨b,0,none⟩) L.length cap) L:=h.own.brow
theorem FAt.set (h:FAt w g b cap L) (j:Nat) (c:UInt8):FAt (w.setCell ⟨b,j,none⟩ (.int .u8 (c.toNat:Int))) g b cap (L.set j c):=by
 have a:(L.set j c).length=L.length:=Xav;refine ⟨?_,?_,h.ne,by rw [a];exact h.lo,by rw [a];exact h.hi⟩
 ·rw [a];exact ((Zy (S:=fun k=>k≠b) (fun d=>d rfl) _).cell h.glt h.ne 0).trans h.cell
 ·rw [a];exact Zd.set h.own c
theorem Zmy (g b cap:Nat) (L:Xu) (w:World) (h:FAt w g b cap L):Calls prog 141 #[.pointer (some ⟨g,0,none⟩)] w fun e w'=>e=.returned (.bool true)/\w=w':=by
 have hc:=h.cell;have hq:=fun (w:World) (a:Option Addr) (n c:Nat)=>run_neq_slice_nil_any (P:=prog) w 177 5 a n c 0 0 underlying177;clear h;go_enter func141,ntmps141;go_wp2_with fail;go_ret;exact ⟨rfl,rfl⟩
theorem ZBQ:∀c:Fin 256,∀j:Fin 8,(bits .and .u8 ((c.val:Int) / (2:Int)^j.val) 1 == 1)=Zo5 (UInt8.ofNat c.val) j.val:=by decide +kernel
theorem ZBR (c:UInt8) (a:j<8):(bits .and .u8 ((c.toNat:Int) / (2:Int)^j) 1 == 1)=Zo5 c j:=by
 have:=ZBQ ⟨c.toNat,c.toNat_lt⟩ ⟨j,a⟩;have e:UInt8.ofNat c.toNat=c:=by simp
 dsimp only at this;rw [e] at this;exact this
theorem ZCG:∀c:Fin 256,∀j:Fin 8,bits .or .u8 (c.val:Int) ((2:Int)^j.val%256)=((ZfS (UInt8.ofNat c.val) j.val).toNat:Int):=by decide +kernel
theorem ZCH (c:UInt8) (a:j<8):bits .or .u8 (c.toNat:Int) ((2:Int)^j%256)=((ZfS c j).toNat:Int):=by
 have:=ZCG ⟨c.toNat,c.toNat_lt⟩ ⟨j,a⟩;have e:UInt8.ofNat c.toNat=c:=by simp
 dsimp only at this;rw [e] at this;exact this
theorem ZCK {k:Nat} (a:k / 8<L.length):Znr L k=L.set (k / 8) (ZfS L[k / 8] (k%8)):=by
 unfold Znr;simp [List.getD,a]
theorem Zqb (g b cap:Nat) (L:Xu) (k:Nat) (w:World) (h:FAt w g b cap L) (hk:k<8*L.length) :
  Calls prog 173 #[.slice (some ⟨b,0,none⟩) L.length cap,.int .i64 k] w fun e w'=>e=.returned (.bool (Zh1 L k))/\w=w':=by
 have f:=h.hi;have c:k / 8<L.length:=by omega
 have d:=h.there c;have a:=ZBR L[k / 8] (j:=k%8) (XaM _ (by decide));rw [<- ZsF] at a;have i:=Y4 a;clear h a;go_enter func173,ntmps173;go_wp2_with fail;go_ret;exact ⟨Xr (fun z=>Ending.returned (.bool z)) i.z,rfl⟩
theorem Zi4 (g b cap:Nat) (L:Xu) (k:Nat) (w:World) (h:FAt w g b cap L) (hk:k<8*L.length) :
  Calls prog 204 #[.slice (some ⟨b,0,none⟩) L.length cap,.int .i64 k] w fun e w'=>e=.returned (.tuple #[])/\FAt w' g b cap (Znr L k)/\Kep (fun i=>i≠b) w w':=by
 have l:=h.hi;have a:k / 8<L.length:=by omega
 have d:=h.there a;have o:=Zd.free h.own (k / 8);have n:=Y4 (ZCH L[k / 8] (j:=k%8) (XaM _ (by decide)));have f:=Y4 ((h.set (k / 8) (ZfS L[k / 8] (k%8))).keep ((Zcg (fun _=>True) _)) trivial trivial);have m:=Y4 ((Zy (w:=w) (g:=b) (i:=k / 8) (S:=fun i=>i≠b) (fun c=>c rfl) (.int .u8 ((ZfS L[k / 8] (k%8)).toNat:Int))).drew);rw [<- ZCK a] at f;clear h;go_enter func204,ntmps204;go_region;rw [n.z];refine bodyPost_end (results_none rfl _ _ _) rfl ?_;exact ⟨rfl,f.z,m.z⟩
end BL
namespace BL
open RowKit MM BM
theorem Zmp (m:Nat) (s:Xu) (i:Nat) (hi:i<4) (W:World):(Instr.index 257 (.agg (plA m s)) (.int .i64 (i:Int))).run prog W=.ok (.int .i64 (ZT m s i:Nat)) W:=by
 unfold plA
 match i,hi with
 | 0,_=>generalize ZT m s 0=a;generalize ZT m s 1=b;generalize ZT m s 2=c;generalize ZT m s 3=d;rfl
 | 1,_=>generalize ZT m s 0=a;generalize ZT m s 1=b;generalize ZT m s 2=c;generalize ZT m s 3=d;rfl
 | 2,_=>generalize ZT m s 0=a;generalize ZT m s 1=b;generalize ZT m s 2=c;generalize ZT m s 3=d;rfl
 | 3,_=>generalize ZT m s 0=a;generalize ZT m s 1=b;generalize ZT m s 2=c;generalize ZT m s 3=d;rfl
theorem ZBh (g b a:Nat) (L s:Xu) (w:World) (h:FAt w g b a L) (hs:s.length<=1000000) :
  Calls prog 113 #[.pointer (some ⟨g,0,none⟩),.string ⟨s.toArray⟩] w fun e w'=>e=.returned (.bool (Zh2 L s))/\Below w.heap.size w w':=by
 have p:=h.lo;have m:=h.hi;have C:=Y4 (Zmy g b a L w h);have H:=h.cell;have E:=Y4 (fun W=>ZcN (some ⟨b,0,none⟩) L.length a W m);have y:=Y4 (fun W=>ZmO s L.length W (by omega) p m);have n:=Y4 (fun i hi W=>Zmp (8*L.length) s i hi W);obtain ⟨P,D⟩:=Xn (plA (8*L.length) s);rw [D] at y n;have S:=Y4 h;have t:Y5 (∀i,ZT (8*L.length) s i<8*L.length):=Y4 (fun i=>ZhQ s i (by omega));have N:=Y4 (Zol L s);have G:=Y4 (fun i (hi:i<4) M=>ZmA (L:=L) (s:=s) hi M);have B:Y5 (Zmz L s 4=Zh2 L s):=Y4 rfl;obtain ⟨R,I⟩:=Xn (Zh2 L s);rw [I] at G B ⊢;clear h I D;go_enter func113,ntmps113;go_wp2_with fail;refine C.z.mono ?_;rintro e x ⟨rfl,rfl⟩;go_wp2_with fail;refine (E.z _).mono ?_;rintro e x ⟨rfl,rfl⟩;go_wp2_with fail;refine (y.z _).mono ?_;rintro e x ⟨rfl,c⟩;have k:=Y4 c;have f:=Y4 (S.z.below c);have F:Y5 (Zmz L s 0=true):=Y4 rfl;clear c C E y H;go_wp2_with fail
 go_loopw [17] (fun q wr=>∃i:Nat,i<=4/\q=.int .i64 i/\Y5 (Zmz L s i=true)/\wr=x) (fun q _=>4 - (intOf q).toNat)
 case atStart=>exact ⟨0,by omega,rfl,F,rfl⟩
 case round =>
  obtain ⟨i,hi,rfl,J,rfl⟩:=hrel;clear F
  by_cases j:i<4
  ·have T:decide ((i:Int)<4)=true:=by simp;omega
   have v:=n.z i j;have H:=f.z.cell;have l:=Y4 (Zqb g b a L _ wr f.z (t.z i));have d:=N.z i;rw [J.z,Xac] at d;have o:=G.z i j;obtain ⟨X,u⟩:=Xn (ZT (8*L.length) s i);rw [u] at v l d o;cases hb:Zh1 L X with
   | true =>
     rw [hb] at d l;have z:=Y4 d;clear o hb d u;go_wp2_with fail;refine l.z.mono ?_;rintro e O ⟨rfl,rfl⟩;go_wp2_with fail;go_roundw
     case rel=>exact ⟨i+1,by omega,by go_num,z,trivial⟩
     case measure=>simp [intOf];omega
   | false =>
     rw [hb] at l;have A:=Y4 (o hb);clear o hb d u;go_wp2_with fail;refine l.z.mono ?_;rintro e O ⟨rfl,rfl⟩;go_wp2_with fail;go_ret;rw [A.z.symm];exact ⟨rfl,k.z⟩
  ·obtain rfl:i=4:=by omega
   have T:decide ((4:Int)<4)=false:=by simp
   have r:=B.z;rw [J.z] at r;have A:=Y4 r;clear r;go_wp2_with fail;go_ret;rw [A.z.symm];exact ⟨rfl,k.z⟩
variable {k:Nat}
def ZtD (g b a:Nat) (r:Xu×Nat) (w:World) (e:Ending) (w':World):Prop:=e=.returned (.int .i64 (r.2:Int))/\FAt w' g b a r.1/\Kep (fun i=>i≠b) w w'
theorem Zzd {st:Xu×Nat} (h:Zh1 st.1 k=true):Zjs st k=st:=by unfold Zjs;rw [Xe h]
theorem ZBB {st:Xu×Nat} (h:Zh1 st.1 k=false):Zjs st k=(Znr st.1 k,st.2+1):=by unfold Zjs;rw [Xc (by rw [h];exact Xbo)]
theorem ZAn (g b f:Nat) (L:Xu) (ts:Value) (a:List Xu) (w:World) (h:FAt w g b f L) (ht:∀w',Kep (fun i=>i≠b) w w'->ZcF w' ts a) (aw:a.length<=200000) (hs:∀s∈a,s.length<=1000000) :
  Calls prog 140 #[.pointer (some ⟨g,0,none⟩),ts] w (ZtD g b f (ZcG L a) w):=by
 have ab:=h.lo;have al:=h.hi;obtain ⟨p,ap,rfl,ar,aq⟩:=TIn.shape (ht w (Kep.refl _ _));have HM:=Y4 (Zmy g b f L w h);obtain ⟨n,hn⟩:=Xn L.length;have HS:=Y4 (fun W=>ZcN (some ⟨b,0,none⟩) n f W (by omega));have HP:=Y4 (fun s (h:List.length s<=1000000) W=>ZmO s n W (by omega) (by omega) (by omega));have am:=Y4 (fun s i hi W=>Zmp (8*n) s i hi W);have aa:=Y4 (fun k=>(Zly L a k).trans hn);have ai:=Y4 (Zlx L a);have ao:=Y4 (fun k (hk:k<a.length)=>ZhC (L:=L) hk);have ak:=Y4 hs;have HT:=Y4 ht;have ad:Y5 (∀s i,ZT (8*n) s i<8*n):=Y4 (fun s i=>ZhQ s i (by omega));have Y:Y5 (FAt w g b f (ZcG L (a.take 0)).1):=Y4 h;have I:Y5 (Kep (fun i=>i≠b) w w):=Y4 (Kep.refl _ _);obtain ⟨R,hR⟩:=Xn (ZcG L a);rw [hR];have HE:Y5 (ZcG L (a.take a.length)=R):=Y4 (by rw [XB];exact hR);clear h hR ht hs hn ab al;go_enter func140,ntmps140;go_wp2_with fail;refine HM.z.mono ?_;rintro e w1 ⟨rfl,rfl⟩;clear HM;go_wp2_with fail
 go_loopw [5,15] (fun av kv wr=>∃k:Nat,k<=a.length/\av=.int .i64 ((ZcG L (a.take k)).2:Int)/\kv=.int .i64 k/\Y5 (FAt wr g b f (ZcG L (a.take k)).1)/\Y5 (Kep (fun i=>i≠b) w wr)) (fun _ kv _=>a.length - (intOf kv).toNat)
 case atStart=>exact ⟨0,by omega,rfl,rfl,Y,I⟩
 case round =>
  obtain ⟨k,hk,rfl,rfl,m,v⟩:=hrel;clear Y I
  by_cases y:k<a.length
  ·have t1:decide ((k:Int)<(a.length:Int))=true:=by simp;omega
   obtain ⟨bt,off,rfl,au,t⟩:=TIn.at_ (HT.z wr v.z) y;have r:=ao.z k y;have V:=ai.z k;have o:=aa.z k;have B:=ak.z _ (XI y);obtain ⟨s,hs⟩:=Xn (a[k]);rw [hs] at t r B;obtain ⟨⟨M,c⟩,hM⟩:∃M,ZcG L (a.take k)=M:=⟨_,rfl⟩;rw [hM] at r V o m ⊢;dsimp only at r V o m ⊢;have Z:=m.z.cell;rw [o] at Z;have U:=Y4 (HP.z s B);have u:=Y4 (am.z s);have D:=Y4 (ad.z s);obtain ⟨P,hP⟩:=Xn (plA (8*n) s);rw [hP] at U u;have G:=Y4 (ZhD M s);rw [o] at G;have an:=Y4 (fun i=>(Zlz M s i).trans o);have ae:=Y4 (Zil M s);have ac:Y5 (ZfC M s 0=(M,0)):=Y4 rfl;have N:Y5 (ZcG L (a.take (k+1))=((ZfC M s 4).1,c+(ZfC M s 4).2)):=Y4 r;clear hs r hM hP B o;go_wp2_with fail;refine (HS.z _).mono ?_;rintro e w1 ⟨rfl,rfl⟩;go_wp2_with fail;refine (U.z _).mono ?_;rintro e w1 ⟨rfl,C⟩;have H:Y5 (FAt w1 g b f (ZfC M s 0).1):=Y4 (m.z.below C);have E:=Y4 (v.z.trans (Za _ C));clear C m v Z t;go_wp2_with fail
   go_loopw [5,26] (fun av iv S=>∃i:Nat,i<=4/\av=.int .i64 ((c:Int)+((ZfC M s i).2:Int))/\iv=.int .i64 i/\Y5 (FAt S g b f (ZfC M s i).1)/\Y5 (Kep (fun i=>i≠b) w S)) (fun _ iv _=>4 - (intOf iv).toNat)
   case atStart=>exact ⟨0,by omega,by rw [ac.z];simp,rfl,H,E⟩
   case round =>
    obtain ⟨i,hi,rfl,rfl,m,v⟩:=hrel;clear H E
    by_cases T:i<4
    ·have t2:decide ((i:Int)<4)=true:=by simp;omega
     have ah:=u.z i T;have l:=G.z i;have q:=an.z i;have J:=ae.z i;have x:=D.z i;obtain ⟨X,hX⟩:=Xn (ZT (8*n) s i);rw [hX] at ah l x;obtain ⟨⟨A,d⟩,hA⟩:∃A,ZfC M s i=A:=⟨_,rfl⟩;rw [hA] at l q J m ⊢;dsimp only at q J m ⊢;have Z:=m.z.cell;have z:=Zqb g b f A X _ m.z (by omega);rw [q] at Z z;have hp:=fun W (hF:FAt W g b f A)=>Zi4 g b f A X W hF (by omega);rw [q] at hp;have af:=Y4 hp;cases hb:Zh1 A X with
     | true =>
       rw [hb] at z;rw [Zzd (st:=(A,d)) hb] at l;have j:=Y4 l;have HH:=Y4 z;clear hb z hp hX hA l q x;go_wp2_with fail;refine HH.z.mono ?_;rintro e w2 ⟨rfl,rfl⟩;go_wp2_with fail;go_roundw
       case rel=>exact ⟨i+1,by omega,by rw [j.z],by go_num,by rw [j.z];exact m,v⟩
       case measure=>simp [intOf];omega
     | false =>
       rw [hb] at z;rw [ZBB (st:=(A,d)) hb] at l;have j:=Y4 l;have HH:=Y4 z;clear hb z hp hX hA l q x;go_wp2_with fail;refine HH.z.mono ?_;rintro e w2 ⟨rfl,rfl⟩;go_wp2_with fail;refine (af.z _ m.z).mono ?_;rintro e w2 ⟨rfl,O,F⟩;have ag:=Y4 O;have aj:=Y4 (v.z.trans F);clear O F;go_wp2_with fail;go_roundw
       case rel=>exact ⟨i+1,by omega,by rw [j.z];go_num,by go_num,by rw [j.z];exact ag,aj⟩
       case measure=>simp [intOf];omega
    ·obtain rfl:i=4:=by omega
     have t2:decide ((4:Int)<4)=false:=by simp
     go_wp2_with fail;go_roundw
     case rel=>exact ⟨k+1,by omega,by rw [N.z];go_num,by go_num,by rw [N.z];exact m,v⟩
     case measure=>simp [intOf];omega
  ·obtain rfl:k=a.length:=by omega
   have t1:decide ((a.length:Int)<(a.length:Int))=false:=by simp
   rw [HE.z] at m ⊢;go_wp2_with fail;go_ret;exact ⟨rfl,m.z,v.z⟩
end BL
namespace BL
open RowKit MM BM
theorem Zo1 {w:World} {B n:Nat} {v:Value} (h:w.ownsRow B 5 1 v n (madeCells #[Value.int .u8 0] n).toList):Zd B w v (List.replicate n 0):=by
 have e:(madeCells #[Value.int .u8 0] n).toList=Lib.byteCells (List.replicate n 0):=by
  rw [toList_madeCells_one];simp [Lib.byteCells]
 rw [e] at h;unfold Zd;rw [List.length_replicate];exact h
theorem Zq1 (z:Int) (m:Nat) (w:World) (i:z=(m:Int)) (hm:m<=1048576):Calls prog 203 #[.int .i64 z] w (ZV w.heap.size (List.replicate ((m+7) / 8) 0) w):=by
 obtain ⟨i0,hi,d,e,f⟩:=info_parts ZaI;obtain ⟨N,g⟩:∃N:Nat,(m+7) / 8=N:=⟨_,rfl⟩;have c:((m:Int)+7) / 8=(N:Int):=by omega
 have j:N<=131073:=by omega
 rw [g];subst i;clear g;go_enter func203,ntmps203;go_wp2_with (at_make;go_loud (refine wpList_make_full w rfl _ _ 177 rfl w.heap.size 5 i0 (.int .u8 0) 1 underlying177 hi d e .i64 .i64 _ _ N rfl rfl c c (by rw [f];omega) (by unfold maxLen;omega) (Xa _) ?_))
 intro w1 a b;have n:=Y4 ((Below.refl w.heap.size w).grown b (Xa _) (fun k h=>by cases h));have l:=Y4 (Zo1 a);clear a b;go_wp2_with fail;go_ret;exact ⟨_,rfl,l.z,n.z⟩
def Zlc (L:Xu) (w:World) (e:Ending) (w':World):Prop:=∃g b a,e=.returned (.tuple #[.pointer (some ⟨g,0,none⟩),.int .i64 0])/\FAt w' g b a L/\w.heap.size<=g/\w.heap.size<=b/\Below w.heap.size w w'
theorem ZBk (n:Nat) (w:World) (h:n<=262144):Calls prog 139 #[.int .i64 n] w (Zlc (Zfv n) w):=by
 have t1:decide ((n:Int)<0)=false:=Xf;have t2:decide ((n:Int)>262144)=false:=Xf
 have l:∀(z:Int) (m:Nat) (W:World),z=(m:Int)->m<=1048576->(m+7) / 8=ZeX n->Calls prog 203 #[.int .i64 z] W (ZV W.heap.size (Zfv n) W):=fun z m W I O M=>by
  have:=Zq1 z m W I O;rw [M] at this;exact this
 have A:ZeX n=(min (max (10*n) 64) 1048576+7) / 8:=rfl;have q:=Y4 A;have c:=Y4 l;have y:=Zjj n;obtain ⟨D,E⟩:=Zdf n;rw [<- y] at D E;have k:=Y4 D;have r:=Y4 E;obtain ⟨L,F⟩:=Xn (Zfv n);rw [F] at c k r ⊢
 have p:∀(v:Value) (d:World),Zd w.heap.size d v L->Below w.heap.size w d->Zlc L w (.returned (.tuple #[.pointer (some ⟨d.heap.size,0,none⟩),.int .i64 0])) (d.alloc (.cells #[v] 179)):=fun v d f j=>by
  have o:=k.z;obtain ⟨b,i,rfl,C,N,H⟩:=Zd.shape f (by omega);have t:=j.size;have R:Below d.heap.size d (d.alloc (.cells #[.slice (some ⟨b,0,none⟩) L.length i] 179)):=(Below.refl _ _).alloc (Xa _) _;have x:=f.keep R
  have S:b<d.heap.size:=by
   have J:=Zd.cell f (XZ (show 0<L.length by omega))
   by_cases j:b<d.heap.size
   ·exact j
   ·simp [World.cell?,Xau (XaR j)] at J
  refine ⟨d.heap.size,b,i,rfl,⟨?_,?_,by omega,o,r.z⟩,t,C,j.alloc t _⟩
  ·rw [cell_of_row _ d.heap.size 0 _ _ _ (heap_alloc_new _ _)];rfl
  ·refine ⟨x.1,?_⟩;rcases x.2 with ⟨o,_⟩|⟨g,i,B,G,hg,rest⟩
   ·cases o
   ·have u:=G;simp only [Value.slice.injEq,Xx,Addr.mk.injEq] at u;exact .inr ⟨g,i,B,G,by rw [u.1.1];exact Xa _,rest⟩
 have a:=Y4 p;clear l A y D E F p;go_enter func139,ntmps139;go_wp2_with fail
 ·refine (c.z _ 1048576 _ rfl (by omega) (by rw [q.z];omega)).mono ?_;rintro e d ⟨v,rfl,f,j⟩;have s:=Y4 (a.z v d f j);have o:=k.z;obtain ⟨b,i,rfl,_⟩:=Zd.shape f (by omega);clear f j a o;go_wp2_with fail;go_ret2;exact s.z
 ·refine (c.z _ 64 _ rfl (by omega) (by rw [q.z];omega)).mono ?_;rintro e d ⟨v,rfl,f,j⟩;have s:=Y4 (a.z v d f j);have o:=k.z;obtain ⟨b,i,rfl,_⟩:=Zd.shape f (by omega);clear f j a o;go_wp2_with fail;go_ret2;exact s.z
 ·refine (c.z _ (10*n) _ (by omega) (by omega) (by rw [q.z];omega)).mono ?_;rintro e d ⟨v,rfl,f,j⟩;have s:=Y4 (a.z v d f j);have o:=k.z;obtain ⟨b,i,rfl,_⟩:=Zd.shape f (by omega);clear f j a o;go_wp2_with fail;go_ret2;exact s.z
theorem ZsX (w:World) (B:Nat) (a:B<=w.heap.size):Zd B (w.alloc (.cells #[] 5)) (.slice (some ⟨w.heap.size,0,none⟩) 0 0) []:=ZdO w [] 5 B a (by unfold maxLen;simp)
theorem ZhH (v:Value) (l:Xu) (w:World) (h:Zv w v l) (hl:l.length<=1000000000000):Calls prog 106 #[v] w (ZV w.heap.size l w):=by
 obtain ⟨p,x,rfl,m,_⟩:=h.shape;have hq:=fun (w:World) (a:Option Addr) (n c:Nat)=>Lib.run_eql_slice_nil (P:=prog) w 23 5 a n c 0 0 underlying23;cases p with
 | none =>
   have d:l=[]:=by
    obtain ⟨p',cap',g,h1,h2,r,h4⟩:=h;simp only [Value.slice.injEq] at g;obtain ⟨rfl,j,t⟩:=g;have:=r rfl;exact XP (by omega)
   subst d;have e:=Y4 (show ZV w.heap.size [] w (.returned (.slice none 0 0)) w from ⟨_,rfl,World.ownsRow_nil _ _ _ _,Below.refl _ _⟩);clear h;go_enter func106,ntmps106;go_wp2_with fail;go_ret;exact e.z
 | some a =>
   have i:=Y4 (ZsX w w.heap.size (Xa _));have u:=Y4 (fun o=>Zv.below h ((Below.refl w.heap.size w).alloc (Xa _) o));have k:=Y4 (fun o=>(Below.refl w.heap.size w).alloc (Xa _) o);clear h;go_enter func106,ntmps106;go_wp2_with (at_builtin;go_loud (refine Zh rfl _ _ rfl w.heap.size _ [] rfl i.z _ l rfl (u.z _) (by simp;omega) (by simp) ?_))
   intro q s b f;have e:=Y4 (show ZV w.heap.size l w (.returned q) s from ⟨_,rfl,b,(k.z _).trans f⟩);clear b f;go_wp2_with fail;go_ret;exact e.z
theorem Zsf (g b a:Nat) (L:Xu) (w:World) (h:FAt w g b a L):Calls prog 83 #[.pointer (some ⟨g,0,none⟩)] w (ZV w.heap.size L w):=by
 have hc:=h.cell;have j:=h.hi;have l:=Y4 (Zmy g b a L w h);have i:=Y4 (ZhH _ L w h.brow (by omega));clear h;go_enter func83,ntmps83;go_wp2_with fail;refine l.z.mono ?_;rintro e f ⟨rfl,rfl⟩;go_wp2_with fail;refine i.z.mono ?_;rintro e f ⟨v,rfl,c,d⟩;have k:=Y4 (show ZV w.heap.size L w (.returned v) f from ⟨v,rfl,c,d⟩);clear c d;go_wp2_with fail;go_ret;exact k.z
theorem ZBg {w a:World} {v:Value} {L:Xu} (k:Zd w.heap.size a v L) (e:Below w.heap.size w a) (j:8<=L.length) (m:L.length<=131072) :
  Zlc L w (.returned (.tuple #[.pointer (some ⟨a.heap.size,0,none⟩),.int .i64 0])) (a.alloc (.cells #[v] 179)):=by
 obtain ⟨b,c,rfl,l,r,o⟩:=Zd.shape k (by omega);have d:=e.size;have s:Below a.heap.size a (a.alloc (.cells #[.slice (some ⟨b,0,none⟩) L.length c] 179)):=(Below.refl _ _).alloc (Xa _) _;have h:=k.keep s
 have t:b<a.heap.size:=by
  have p:=Zd.cell k (XZ (show 0<L.length by omega))
  by_cases e:b<a.heap.size
  ·exact e
  ·simp [World.cell?,Xau (XaR e)] at p
 refine ⟨a.heap.size,b,c,rfl,⟨?_,?_,by omega,j,m⟩,d,l,e.alloc d _⟩
 ·rw [cell_of_row _ a.heap.size 0 _ _ _ (heap_alloc_new _ _)];rfl
 ·refine ⟨h.1,?_⟩;rcases h.2 with ⟨q,_⟩|⟨g,c,i,n,hg,rest⟩
  ·cases q
  ·have f:=n;simp only [Value.slice.injEq,Xx,Addr.mk.injEq] at f;exact .inr ⟨g,c,i,n,by rw [f.1.1];exact Xa _,rest⟩
theorem ZuX (v:Value) (l:Xu) (w:World) (h:Zv w v l) (f:8<=l.length) (a:l.length<=131072):Calls prog 52 #[v] w (Zlc l w):=by
 have i:=Y4 (ZhH v l w h (by omega));obtain ⟨p,d,rfl,_,_⟩:=h.shape;have t1:decide ((l.length:Int)<8)=false:=Xf;have t2:decide ((l.length:Int)>131072)=false:=Xf;clear h;go_enter func52,ntmps52;go_wp2_with fail;refine i.z.mono ?_;rintro e w1 ⟨v,rfl,c,g⟩;have j:=Y4 (ZBg c g f a);obtain ⟨b,d,rfl,_⟩:=Zd.shape c (by omega);clear c g;go_wp2_with fail;go_ret2;exact j.z
def Zw0 (L:Xu) (w:World) (e:Ending) (w':World):Prop:=∃g b a,e=.returned (.pointer (some ⟨g,0,none⟩))/\FAt w' g b a L/\w.heap.size<=g/\w.heap.size<=b/\Below w.heap.size w w'
theorem ZAy (o:Value) (a:List Xu) (w:World) (l:ZcF w o a) (u:a.length<=200000) (hs:∀s∈a,s.length<=1000000):Calls prog 82 #[o] w (Zw0 (ZcG (Zfv a.length) a).1 w):=by
 have r:=Y4 (ZBk a.length w (by omega));have I:=Y4 l;have j:=Y4 (fun g b d W (h:FAt W g b d (Zfv a.length)) (l:∀w',Kep (fun i=>i≠b) W w'->ZcF w' o a)=>ZAn g b d (Zfv a.length) o a W h l u hs);obtain ⟨p,x,rfl,H,D⟩:=TIn.shape l;obtain ⟨⟨R,c⟩,y⟩:∃R,ZcG (Zfv a.length) a=R:=⟨_,rfl⟩;rw [y] at j ⊢;unfold ZtD at j;dsimp only at j ⊢;obtain ⟨N,A⟩:=Xn (Zfv a.length);rw [A] at r j;clear y A l;have t1:(min (a.length:Int) 262144)=(a.length:Int):=by omega
 go_enter func82,ntmps82;go_wp2_with fail;refine r.z.mono ?_;rintro e G ⟨g,b,d,rfl,hf,E,C,f⟩;have z:=j.z g b d G hf (fun w' t=>ZcF.below I.z (f.trans (t.below f.size (fun k t=>by omega))));have q:=Y4 z;have v:=Y4 f;clear z hf f r j;go_wp2_with fail;refine q.z.mono ?_;rintro e F ⟨rfl,n,m⟩;have B:=Y4 (show Zw0 R w (.returned (.pointer (some ⟨g,0,none⟩))) F from ⟨g,b,d,rfl,n,E,C,v.z.trans (m.below v.z.size (fun k t=>by omega))⟩);clear n m;go_wp2_with fail;go_ret;exact B.z
variable {w:World} {B b n cap j k g:Nat} {L:Xu}
theorem Zkd (w:World) (B:Nat) (a:B<=w.heap.size):Zd B (w.alloc (.cells #[] 5)) (.slice (some ⟨w.heap.size,0,none⟩) 0 0) []:=ZdO w [] 5 B a (by unfold maxLen;simp)
theorem ZiC (h:Zd B w (.slice (some ⟨b,0,none⟩) n cap) L):Zd b w (.slice (some ⟨b,0,none⟩) n cap) L:=by
 refine ⟨h.1,?_⟩;rcases h.2 with ⟨e,_⟩|⟨g,cap,c,d,hg,rest⟩
 ·cases e
 ·have a:=d;simp only [Value.slice.injEq,Xx,Addr.mk.injEq] at a;exact .inr ⟨g,cap,c,d,by rw [a.1.1];exact Xa _,rest⟩
theorem Zq7 (h:Zd b w (.slice (some ⟨b,0,none⟩) n cap) L) (a:B<=b):Zd B w (.slice (some ⟨b,0,none⟩) n cap) L:=h.weaken a
theorem ZBX:∀c:Fin 256,∀j:Fin 8,Zo5 (UInt8.ofNat c.val) j.val=false->((c.val:Int)+(2:Int)^j.val)%256=((ZfS (UInt8.ofNat c.val) j.val).toNat:Int):=by decide +kernel
theorem ZBY (c:UInt8) (a:j<8) (h:Zo5 c j=false):((c.toNat:Int)+(2:Int)^j)%256=((ZfS c j).toNat:Int):=by
 have:=ZBX ⟨c.toNat,c.toNat_lt⟩ ⟨j,a⟩;have e:UInt8.ofNat c.toNat=c:=by simp
 dsimp only at this;rw [e] at this;exact this h
def Zw2 (r:Xu×Nat) (w:World) (e:Ending) (w':World):Prop:=∃v,e=.returned (.tuple #[.agg #[v],.int .i64 (r.2:Int)])/\Zd w.heap.size w' v r.1/\Below w.heap.size w w'
theorem ZvZ {st:Xu×Nat} (h:Zh1 st.1 k=true):Zjs st k=st:=by unfold Zjs;rw [Xe h]
theorem Zzc {st:Xu×Nat} (h:Zh1 st.1 k=false):Zjs st k=(Znr st.1 k,st.2+1):=by unfold Zjs;rw [Xc (by rw [h];exact Xbo)]
theorem ZBC (a:k / 8<L.length):Znr L k=L.set (k / 8) (ZfS L[k / 8] (k%8)):=by
 unfold Znr;simp [List.getD,a]
theorem Zu9 {t:Nat} {old:Value} (e:Zd b w (.slice (some ⟨b,0,none⟩) L.length cap) L) (h:w.heap[g]? = some (.cells #[old] t (0,0))) (c:g≠b) (d:8<=L.length) (a:L.length<=131072) :
  FAt (w.setCell ⟨g,0,none⟩ (.slice (some ⟨b,0,none⟩) L.length cap)) g b cap L:=by
 have f:=heap_setCell_same w g 0 _ _ (.slice (some ⟨b,0,none⟩) L.length cap) h;refine ⟨?_,Zc2 e (heap_setCell_other w ⟨g,0,none⟩ b _ (by show b≠g;omega)),c,d,a⟩;rw [cell_of_row _ g 0 _ _ _ f];rfl
theorem Zt8:(prog.info? 44).map (·.size)=some 1:=by kernel_rfl
theorem Zee {fn:Func} {p u:Tmp} (h:fn.results=#[.cell p 44,.tmp u]) (tmps:Array Value) (w:World) (g:Nat) (x:Value)
  (c:tmps.getD p undef=.pointer (some ⟨g,0,none⟩)) (d:w.heap[g]? = some (.cells #[x] 44 (0,0))) :
  (results fn tmps).run prog w=.ok (.tuple #[.agg #[x],tmps.getD u undef]) w:=by
 have a:tmps[p]?.getD undef=.pointer (some ⟨g,0,none⟩):=by simpa using c
 simp [results,h,a,asAddr,run_loadVar_row w g 44 44 _ (0,0) _ d underlying44 rfl Zt8]
def Zfz (w:World) (g:Nat):Prop:=w.heap[g]? = some (.cells #[.slice none 0 0] 44 (0,0))
theorem Zfz.cell (h:Zfz w g):w.cell? ⟨g,0,none⟩=some (.slice none 0 0):=by rw [cell_of_row _ g 0 _ _ _ h];rfl
theorem Zfz.free (h:Zfz w g):w.frozen? ⟨g,0,none⟩=false:=frozen_of_row _ g 0 _ _ h
theorem Zfz.lt (h:Zfz w g):g<w.heap.size:=(Xq.1 h).1
theorem Zfz.keep {w':World} (h:Zfz w g) (a:Below B w w') (c:g<B):Zfz w' g:=(a.block g c).trans h
theorem Zfz.other {u:Value} (h:Zfz w g) (a:g≠b):Zfz (w.setCell ⟨b,j,none⟩ u) g:=(heap_setCell_other w ⟨b,j,none⟩ g _ (by show g≠b;exact a)).trans h
theorem Zay {i:Nat} {a:World} (v:Value) (h:Below B a w) (hg:B<=g):Below B a (w.setCell ⟨g,i,none⟩ v) :=
 ⟨h.os,h.tape,h.output,by simp only [World.setCell,Array.size_modify];exact h.size,fun j c=>by rw [heap_setCell_other w ⟨g,i,none⟩ j v (by show j≠g;omega)];exact h.block j c⟩
theorem Zzi (v:Value) (L s:Xu) (w:World) (h:Zv w v L) (hs:s.length<=1000000) (az:8<=L.length) (aD:L.length<=131072) :
  Calls prog 151 #[.agg #[v],.string ⟨s.toArray⟩] w (Zw2 (ZlB L s) w):=by
 obtain ⟨p,cap,rfl,aB,aS⟩:=h.shape;have C:Below w.heap.size w ((w.alloc (.cells #[.slice p L.length cap] 44)).alloc (.cells #[.slice none 0 0] 44)):=((Below.refl _ _).alloc (Xa _) _).alloc (by simp) _;have S:((w.alloc (.cells #[.slice p L.length cap] 44)).alloc (.cells #[.slice none 0 0] 44)).heap.size=w.heap.size+1+1:=by simp
 have ao:((w.alloc (.cells #[.slice p L.length cap] 44)).alloc (.cells #[.slice none 0 0] 44)).heap[w.heap.size]? = some (.cells #[.slice p L.length cap] 44 (0,0)):=by
  have e:=heap_alloc_new w (.cells #[.slice p L.length cap] 44);rw [((Below.refl (w.heap.size+1) (w.alloc (.cells #[.slice p L.length cap] 44))).alloc (by simp) _).block w.heap.size (by omega)];exact e
 have ad:Zfz ((w.alloc (.cells #[.slice p L.length cap] 44)).alloc (.cells #[.slice none 0 0] 44)) (w.heap.size+1):=by
  have e:=heap_alloc_new (w.alloc (.cells #[.slice p L.length cap] 44)) (.cells #[.slice none 0 0] 44);rw [show (w.alloc (.cells #[.slice p L.length cap] 44)).heap.size=w.heap.size+1 by simp] at e;exact e
 have ho:=Zkd ((w.alloc (.cells #[.slice p L.length cap] 44)).alloc (.cells #[.slice none 0 0] 44)) _ (Xa _);have r:=(Below.refl _ ((w.alloc (.cells #[.slice p L.length cap] 44)).alloc (.cells #[.slice none 0 0] 44))).alloc (Xa _) (.cells #[] 5);have ac:=h.below (C.trans (r.mono C.size));have Z:=C.trans (r.mono C.size);have E:(((w.alloc (.cells #[.slice p L.length cap] 44)).alloc (.cells #[.slice none 0 0] 44)).alloc (.cells #[] 5)).heap.size=w.heap.size+1+1+1:=by simp
 rw [S] at ho r;have y:=(r.block w.heap.size (by omega)).trans ao;have x:=ad.keep r (by omega);obtain ⟨n,hn⟩:=Xn L.length;rw [hn] at ho ac Z E y x aB az aD ⊢;have ah:=Y4 (fun p cap i (hi:i<4) W=>Zrn p n cap s i W (by omega) (by omega) (by omega) hi);have al:=Y4 (ZhD L s);rw [hn] at al;have ay:=Y4 (fun i=>(Zlz L s i).trans hn);have aI:=Y4 (Zil L s);have aA:Y5 (∀i,ZT (8*n) s i<8*n):=Y4 (fun i=>ZhQ s i (by omega));have HE:Y5 (ZfC L s 4=ZlB L s):=Y4 rfl;have aG:Y5 (ZfC L s 0=(L,0)):=Y4 rfl;obtain ⟨⟨R,rc⟩,hR⟩:∃R,ZlB L s=R:=⟨_,rfl⟩;rw [hR] at HE ⊢;have H:=Y4 hn;have HO:=Y4 ho;have ae:=Y4 ac;have au:=Y4 Z;have U:=Y4 E;have ar:=Y4 y;have aq:=Y4 x;clear h C ao ad S hR ho r ac Z E y x hn;go_enter func151,ntmps151;go_wp2_with (at_builtin;go_loud (refine Zh rfl _ _ rfl (w.heap.size+1+1) _ [] rfl HO.z _ L rfl ae.z (by simp [H.z];omega) (by rw [U.z];omega) ?_))
 intro v3 w3 M N;change Zd (w.heap.size+1+1) w3 v3 L at M;obtain ⟨b,a,rfl,aR,ag,aP⟩:=Zd.shape M (by rw [H.z];omega);have q:=(N.block w.heap.size (by omega)).trans ar.z;have Y:=aq.z.keep N (by omega);have aw:=Zu9 (ZiC M) q (by omega) (by rw [H.z];omega) (by rw [H.z];omega);have af:w3.cell? ⟨w.heap.size,0,none⟩=some (.slice p n cap):=by rw [cell_of_row _ w.heap.size 0 _ _ _ q];rfl
 have av:=frozen_of_row w3 w.heap.size 0 _ _ q;have D:=Y4 (Y.other (b:=w.heap.size) (j:=0) (u:=.slice (some ⟨b,0,none⟩) L.length a) (by omega));have m:=Y4 (Zay (i:=0) (.slice (some ⟨b,0,none⟩) L.length a) (au.z.trans (N.mono (by omega))) (Xa w.heap.size));have t:Y5 (FAt _ w.heap.size b a (ZfC L s 0).1):=Y4 aw;rw [H.z] at D m t ag ⊢;have aN:w.heap.size+1<b:=by omega
 clear M N q Y aw HO ae au U ar aq;go_wp2_with fail
 go_loopw [6,7] (fun nv iv wr=>∃i:Nat,i<=4/\nv=.int .i64 ((ZfC L s i).2:Int)/\iv=.int .i64 i/\Y5 (FAt wr w.heap.size b a (ZfC L s i).1)/\Y5 (Zfz wr (w.heap.size+1))/\Y5 (Below w.heap.size w wr)) (fun _ iv _=>4 - (intOf iv).toNat)
 case atStart=>exact ⟨0,by omega,by rw [aG.z];simp,rfl,t,D,m⟩
 case round =>
  obtain ⟨i,hi,rfl,rfl,I,HG,HB⟩:=hrel;clear t D m af av
  by_cases aJ:i<4
  ·have t2:decide ((i:Int)<4)=true:=by simp;omega
   have c:=al.z i;have f:=ay.z i;have am:=aI.z i;have aM:=aA.z i;have z:=ah.z (some ⟨b,0,none⟩) a i aJ;obtain ⟨X,hX⟩:=Xn (ZT (8*n) s i);rw [hX] at c aM;simp only [hX] at z;obtain ⟨⟨A,d⟩,hA⟩:∃A,ZfC L s i=A:=⟨_,rfl⟩;rw [hA] at c f am I ⊢;dsimp only at f am I ⊢;have hc:=I.z.cell;rw [f] at hc;have aC:=Y4 z;have o:=Y4 f;have T:=Y4 c;clear hX hA f c z;go_wp2_with fail;refine (aC.z _).mono ?_;rintro e w4 ⟨rfl,O⟩;have F:=I.z.below O;have ax:=F.cell;have aO:=I.z.glt;have hh:=Zru _ A X w4 F.brow F.hi (by rw [o.z];omega);have aa:=Y4 (HG.z.keep O HG.z.lt);have m:=Y4 (HB.z.trans (O.mono HB.z.size));have t:=Y4 F;rw [o.z] at ax hh;have HH:=Y4 hh;clear O F hh hc I HG HB;go_wp2_with fail;refine HH.z.mono ?_;rintro e w5 ⟨rfl,J⟩;have ap:=t.z.below J;have ak:=Y4 (aa.z.keep J aa.z.lt);have an:=Y4 (m.z.trans (J.mono m.z.size));have G:=Y4 ap;clear J ap HH aa m t ax;cases hb:Zh1 A X with
   | true =>
     have c:=T.z;rw [ZvZ (st:=(A,d)) hb] at c;have l:=Y4 c;clear hb c;go_wp2_with fail;go_roundw
     case rel=>exact ⟨i+1,by omega,by rw [l.z],by go_num,by rw [l.z];exact G,ak,an⟩
     case measure=>simp [intOf];omega
   | false =>
     have c:=T.z;rw [Zzc (st:=(A,d)) hb] at c;have l:=Y4 c;have ab:X / 8<A.length:=by rw [o.z];omega
     have aL:=G.z.cell;rw [o.z] at aL;have aK:=G.z.there ab;have av:=Zd.free G.z.own (X / 8);have V:=ZBY A[X / 8] (j:=X%8) (XaM _ (by decide)) (by rw [<- ZsF ab];exact hb);have ai:=Y4 V;have aj:=Y4 ((G.z.set (X / 8) (ZfS A[X / 8] (X%8))).keep (Zcg (fun _=>True) _) trivial trivial);rw [<- ZBC ab] at aj;have aE:Y5 (Zfz (w5.setCell ⟨b,X / 8,none⟩ (.int .u8 ((ZfS A[X / 8] (X%8)).toNat:Int))).drew (w.heap.size+1)):=Y4 (ak.z.other (b:=b) (j:=X / 8) (by omega));have aF:Y5 (Below w.heap.size w (w5.setCell ⟨b,X / 8,none⟩ (.int .u8 ((ZfS A[X / 8] (X%8)).toNat:Int))).drew):=Y4 ((Zay (i:=X / 8) _ an.z (by omega:w.heap.size<=b)).drew);clear hb c V;go_wp2_with fail;go_region;rw [ai.z];go_wp2_with fail;go_roundw
     case rel=>exact ⟨i+1,by omega,by rw [l.z];go_num,by go_num,by rw [l.z];exact aj,aE,aF⟩
     case measure=>simp [intOf];omega
  ·obtain rfl:i=4:=by omega
   have t2:decide ((4:Int)<4)=false:=by simp
   have he:=HE.z;rw [he] at I ⊢;dsimp only at I ⊢;have f:=ay.z 4;rw [he] at f;dsimp only at f;have hc:=I.z.cell;rw [f] at hc;have aQ:=HG.z.cell;have aT:=HG.z.free;have HX:=Y4 (heap_setCell_same wr (w.heap.size+1) 0 _ _ (.slice (some ⟨b,0,none⟩) n a) HG.z);have hk:Kep (fun k=>k≠w.heap.size+1) wr (wr.setCell ⟨w.heap.size+1,0,none⟩ (.slice (some ⟨b,0,none⟩) n a)):=Zy (fun h=>h rfl) _;have HO:=Y4 (Zq7 (I.z.keep hk (by omega) (by omega)).own (by omega:w.heap.size<=b));rw [f] at HO;have aH:=Y4 (Zay (i:=0) (.slice (some ⟨b,0,none⟩) n a) HB.z (by omega:w.heap.size<=w.heap.size+1));clear he hk;go_wp2_with fail;refine bodyPost_ret (Zee rfl _ _ (w.heap.size+1) _ rfl HX.z) rfl ⟨_,rfl,HO.z,aH.z⟩
end BL
namespace BL
open RowKit MM BM
theorem Zzp (n:Nat) (w:World) (h:n<=262144):Calls prog 150 #[.int .i64 n] w fun e w'=>e=.returned (.int .i64 (ZeX n:Nat))/\w=w':=by
 have a:Y5 (ZeX n=(min (max (10*n) 64) 1048576+7) / 8):=Y4 rfl;generalize ZeX n=R at *;go_enter func150,ntmps150;go_wp2_with fail
 all_goals
  go_ret;refine ⟨Xr (fun z=>Ending.returned (.int .i64 z)) ?_,rfl⟩;have:=a.z;omega
def Zw4 (L:Xu) (w:World) (e:Ending) (w':World):Prop:=∃v,e=.returned (.tuple #[.agg #[v],.int .i64 0])/\Zd w.heap.size w' v L/\Below w.heap.size w w'
theorem Zf2 {w:World} {g t:Nat} {u:Value} (h:w.heap[g]? = some (.cells #[u] t (0,0))) (a:Value) :
  w.cell? ⟨g,0,none⟩=some u/\w.frozen? ⟨g,0,none⟩=false/\(w.setCell ⟨g,0,none⟩ a).heap[g]? = some (.cells #[a] t (0,0))/\Kep (fun c=>c≠g) w (w.setCell ⟨g,0,none⟩ a):=by
 have b:=heap_setCell_same w g 0 _ _ a h;exact ⟨by rw [cell_of_row w _ 0 _ _ _ h];rfl,frozen_of_row w _ 0 _ _ h,b,Zy (by simp) _⟩
theorem Zzt (n:Nat) (w:World) (h:n<=262144):Calls prog 97 #[.int .i64 n] w (Zw4 (Zfv n) w):=by
 have t1:decide ((n:Int)<0)=false:=Xf;have t2:decide ((n:Int)>262144)=false:=Xf;have C:=Y4 (fun W=>Zzp n W h);obtain ⟨i0,hi,t,q,x⟩:=info_parts ZaI;have L:=(Zdf n).2;have e:Zfv n=List.replicate (ZeX n) 0:=rfl;have I:=(Zdf n).1;rw [e];obtain ⟨N,D⟩:=Xn (ZeX n);rw [D] at C L I ⊢;have s:=heap_alloc_new w (.cells #[.slice none 0 0] 44);have j:=(Below.refl w.heap.size w).alloc (Xa _) (.cells #[.slice none 0 0] 44);have c:(w.alloc (.cells #[.slice none 0 0] 44)).heap.size=w.heap.size+1:=by simp
 obtain ⟨a,g⟩:=Xn (w.alloc (.cells #[.slice none 0 0] 44));rw [g] at s j c;have J:=Y4 s;have y:=Y4 j;have f:=Y4 c;have v:=Y4 g;clear e D s j c g;go_enter func97,ntmps97;go_wp2_with fail;rw [v.z];refine (C.z _).mono ?_;rintro e w1 ⟨rfl,rfl⟩;go_wp2_with (at_make;go_loud (refine wpList_make_full a rfl _ _ 23 rfl a.heap.size 5 i0 (.int .u8 0) 1 underlying23 hi t q .i64 .i64 _ _ N rfl rfl rfl rfl (by rw [x];omega) (by unfold maxLen;omega) (Xa _) ?_))
 intro A b m;have d:=(Below.refl a.heap.size a).grown m (Xa _) (fun k h=>by cases h);have r:=Zo1 b;have p:=(d.block w.heap.size (by have:=f.z;omega)).trans J.z;obtain ⟨q1,q2,B,z⟩:=Zf2 p (.slice (some ⟨a.heap.size,0,none⟩) N N);have E:=Y4 B
 have l:a.heap.size<A.heap.size:=by
  have H:(List.replicate N (0:UInt8))[0]? = some 0:=by rw [List.getElem?_replicate,Xe (by omega)]
  have G:=Zd.cell r H
  by_cases j:a.heap.size<A.heap.size
  ·exact j
  ·simp [World.cell?,Xau (XaR j)] at G
 have o:=Zq7 (Zc2 (ZiC r) (z.block a.heap.size l (by have:=f.z;omega))) (by have:=f.z;omega:w.heap.size<=a.heap.size);have F:=Y4 o;have u:=Y4 (Zay (i:=0) (.slice (some ⟨a.heap.size,0,none⟩) N N) (y.z.trans (d.mono y.z.size)) (Xa w.heap.size));clear b m d r p B z o l;go_wp2_with fail;refine bodyPost_ret (Zee rfl _ _ w.heap.size _ rfl E.z) rfl ⟨_,rfl,F.z,u.z⟩
