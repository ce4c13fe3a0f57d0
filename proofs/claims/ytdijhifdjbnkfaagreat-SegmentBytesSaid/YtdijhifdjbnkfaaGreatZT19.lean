import Derived.Test.YtdijhifdjbnkfaaGreatZT2
import Derived.WalkSpells
set_option maxRecDepth 100000
set_option maxHeartbeats 0
set_option linter.unusedVariables false
set_option linter.unusedSimpArgs false
namespace Go.Proofs.YtdijhifdjbnkfaaGreat
open Lib (hid)
open Tryz
namespace BL
open RowKit MM BM
variable {w w':World} {g b cap j:Nat} {L:Xu}
theorem ZcN (p:Option Addr) (n cap:Nat) (w:World) (a:n<=131072):Calls prog 172 #[.slice p n cap] w fun e w'=>e=.returned (.int .i64 (8*(n:Int)))/\w=w':=by
 go_enter func172,ntmps172;go_wp2_with fail;go_ret;exact ⟨rfl,rfl⟩
structure FAt (w:World) (g b cap:Nat) (L:Xu):Prop where
 cell:w.cell? ⟨g,0,none⟩=some (.slice (some ⟨b,0,none⟩) L.length cap)
 own:Zd b w (.slice (some ⟨b,0,none⟩) L.length cap) L
 ne:g≠b
 lo:8<=L.length
 hi:L.length<=131072
theorem FAt.glt (h:FAt w g b cap L):g<w.heap.size:=by
 have c:=h.cell
 by_cases a:g<w.heap.size
 ·exact a
 ·simp [World.cell?,Xaw (XaS a)] at c
theorem FAt.there (h:FAt w g b cap L) (a:j<L.length):w.cell? ⟨b,j,none⟩=some (.int .u8 (L[j].toNat:Int)):=Zd.cell h.own (XW a)
theorem FAt.blt (h:FAt w g b cap L):b<w.heap.size:=by
 have c:=h.there (j:=0) (by have:=h.lo;omega)
 by_cases a:b<w.heap.size
 ·exact a
 ·simp [World.cell?,Xaw (XaS a)] at c
theorem Zc6 {n:Nat} (h:Zd b w (.slice (some ⟨b,0,none⟩) n cap) L) (i:w'.heap[b]? = w.heap[b]?):Zd b w' (.slice (some ⟨b,0,none⟩) n cap) L:=by
 refine ⟨h.1,?_⟩;rcases h.2 with ⟨f,_⟩|⟨g,cap,a,c,e,d,rest⟩
 ·cases f
 ·refine .inr ⟨g,cap,a,c,e,?_,rest⟩;simp only [Value.slice.injEq,Xv,Addr.mk.injEq] at c;obtain ⟨⟨rfl,_⟩,_⟩:=c;rw [i];exact d
theorem FAt.keep {S:Nat->Prop} (h:FAt w g b cap L) (a:Kep S w w') (c:S g) (d:S b):FAt w' g b cap L :=
 ⟨(a.cell h.glt c 0).trans h.cell,Zc6 h.own (a.block b h.blt d),h.ne,h.lo,h.hi⟩
theorem FAt.below (h:FAt w g b cap L) (a:Below w.heap.size w w'):FAt w' g b cap L:=h.keep (Za (fun _=>True) a) trivial trivial
theorem FAt.brow (h:FAt w g b cap L):Zq w (.slice (some ⟨b,0,none⟩) L.length cap) L:=h.own.brow
theorem FAt.set (h:FAt w g b cap L) (j:Nat) (c:UInt8):FAt (w.setCell ⟨b,j,none⟩ (.int .u8 (c.toNat:Int))) g b cap (L.set j c):=by
 have a:(L.set j c).length=L.length:=Xay;refine ⟨?_,?_,h.ne,by rw [a];exact h.lo,by rw [a];exact h.hi⟩
 ·rw [a];exact ((Zx (S:=fun k=>k≠b) (fun d=>d rfl) _).cell h.glt h.ne 0).trans h.cell
 ·rw [a];exact Zd.set h.own c
theorem Zmy (g b cap:Nat) (L:Xu) (w:World) (h:FAt w g b cap L):Calls prog 141 #[.pointer (some ⟨g,0,none⟩)] w fun e w'=>e=.returned (.bool true)/\w=w':=by
 have hc:=h.cell;have hq:=fun (w:World) (a:Option Addr) (n c:Nat)=>run_neq_slice_nil_any (P:=prog) w 177 5 a n c 0 0 underlying177;clear h;go_enter func141,ntmps141;go_wp2_with fail;go_ret;exact ⟨rfl,rfl⟩
theorem ZBw:∀c:Fin 256,∀j:Fin 8,(bits .and .u8 ((c.val:Int) / (2:Int)^j.val) 1 == 1)=ZoV (UInt8.ofNat c.val) j.val:=by decide +kernel
theorem ZBx (c:UInt8) (a:j<8):(bits .and .u8 ((c.toNat:Int) / (2:Int)^j) 1 == 1)=ZoV c j:=by
 have:=ZBw ⟨c.toNat,c.toNat_lt⟩ ⟨j,a⟩;have e:UInt8.ofNat c.toNat=c:=by simp
 dsimp only at this;rw [e] at this;exact this
theorem ZCs:∀c:Fin 256,∀j:Fin 8,bits .or .u8 (c.val:Int) ((2:Int)^j.val%256)=((ZfV (UInt8.ofNat c.val) j.val).toNat:Int):=by decide +kernel
theorem ZCt (c:UInt8) (a:j<8):bits .or .u8 (c.toNat:Int) ((2:Int)^j%256)=((ZfV c j).toNat:Int):=by
 have:=ZCs ⟨c.toNat,c.toNat_lt⟩ ⟨j,a⟩;have e:UInt8.ofNat c.toNat=c:=by simp
 dsimp only at this;rw [e] at this;exact this
theorem ZCv {k:Nat} (a:k / 8<L.length):Znl L k=L.set (k / 8) (ZfV L[k / 8] (k%8)):=by
 unfold Znl;simp [List.getD,a]
theorem ZpR (g b cap:Nat) (L:Xu) (k:Nat) (w:World) (h:FAt w g b cap L) (hk:k<8*L.length) :
  Calls prog 173 #[.slice (some ⟨b,0,none⟩) L.length cap,.int .i64 k] w fun e w'=>e=.returned (.bool (Zit L k))/\w=w':=by
 have i:=h.hi;have c:k / 8<L.length:=by omega
 have d:=h.there c;have a:=ZBx L[k / 8] (j:=k%8) (XaN _ (by decide));rw [<- Zsb] at a;have f:=hid a;clear h a;go_enter func173,ntmps173;go_wp2_with fail;go_ret;exact ⟨Xp (fun z=>Ending.returned (.bool z)) f.out,rfl⟩
theorem ZiX (g b cap:Nat) (L:Xu) (k:Nat) (w:World) (h:FAt w g b cap L) (hk:k<8*L.length) :
  Calls prog 204 #[.slice (some ⟨b,0,none⟩) L.length cap,.int .i64 k] w fun e w'=>e=.returned (.tuple #[])/\FAt w' g b cap (Znl L k)/\Kep (fun i=>i≠b) w w':=by
 have o:=h.hi;have a:k / 8<L.length:=by omega
 have d:=h.there a;have m:=Zd.free h.own (k / 8);have n:=hid (ZCt L[k / 8] (j:=k%8) (XaN _ (by decide)));have f:=hid ((h.set (k / 8) (ZfV L[k / 8] (k%8))).keep ((Zcl (fun _=>True) _)) trivial trivial);have l:=hid ((Zx (w:=w) (g:=b) (i:=k / 8) (S:=fun i=>i≠b) (fun c=>c rfl) (.int .u8 ((ZfV L[k / 8] (k%8)).toNat:Int))).drew);rw [<- ZCv a] at f;clear h;go_enter func204,ntmps204;go_region;rw [n.out];refine bodyPost_end (results_none rfl _ _ _) rfl ?_;exact ⟨rfl,f.out,l.out⟩
theorem Zmp (m:Nat) (s:Xu) (i:Nat) (hi:i<4) (W:World):(Instr.index 257 (.agg (plA m s)) (.int .i64 (i:Int))).run prog W=.ok (.int .i64 (ZX m s i:Nat)) W:=by
 unfold plA
 match i,hi with
 | 0,_=>generalize ZX m s 0=a;generalize ZX m s 1=b;generalize ZX m s 2=c;generalize ZX m s 3=d;rfl
 | 1,_=>generalize ZX m s 0=a;generalize ZX m s 1=b;generalize ZX m s 2=c;generalize ZX m s 3=d;rfl
 | 2,_=>generalize ZX m s 0=a;generalize ZX m s 1=b;generalize ZX m s 2=c;generalize ZX m s 3=d;rfl
 | 3,_=>generalize ZX m s 0=a;generalize ZX m s 1=b;generalize ZX m s 2=c;generalize ZX m s 3=d;rfl
theorem ZAU (g b a:Nat) (L s:Xu) (w:World) (h:FAt w g b a L) (hs:s.length<=1000000) :
  Calls prog 113 #[.pointer (some ⟨g,0,none⟩),.string ⟨s.toArray⟩] w fun e w'=>e=.returned (.bool (Zk3 L s))/\Below w.heap.size w w':=by
 have u:=h.lo;have k:=h.hi;have E:=hid (Zmy g b a L w h);have B:=h.cell;have F:=hid (fun W=>ZcN (some ⟨b,0,none⟩) L.length a W k);have z:=hid (fun W=>ZmK s L.length W (by omega) u k);have j:=hid (fun i hi W=>Zmp (8*L.length) s i hi W);obtain ⟨P,I⟩:=Xn (plA (8*L.length) s);rw [I] at z j;have S:=hid h;have q:Hid (∀i,ZX (8*L.length) s i<8*L.length):=hid (fun i=>Zj7 s i (by omega));have T:=hid (Zvc L s);have H:=hid (fun i (hi:i<4) M=>Zsm (L:=L) (s:=s) hi M);have D:Hid (ZqD L s 4=Zk3 L s):=hid rfl;obtain ⟨R,G⟩:=Xn (Zk3 L s);rw [G] at H D ⊢;clear h G I;go_enter func113,ntmps113;go_wp2_with fail;refine E.out.mono ?_;rintro e y ⟨rfl,rfl⟩;go_wp2_with fail;refine (F.out _).mono ?_;rintro e y ⟨rfl,rfl⟩;go_wp2_with fail;refine (z.out _).mono ?_;rintro e y ⟨rfl,c⟩;have n:=hid c;have l:=hid (S.out.below c);have C:Hid (ZqD L s 0=true):=hid rfl;clear c E F z B;go_wp2_with fail
 go_loopw [17] (fun p wr=>∃i:Nat,i<=4/\p=.int .i64 i/\Hid (ZqD L s i=true)/\wr=y) (fun p _=>4 - (intOf p).toNat)
 case atStart=>exact ⟨0,by omega,rfl,C,rfl⟩
 case round =>
  obtain ⟨i,hi,rfl,J,rfl⟩:=hrel;clear C
  by_cases f:i<4
  ·have O:decide ((i:Int)<4)=true:=by simp;omega
   have v:=j.out i f;have B:=l.out.cell;have m:=hid (ZpR g b a L _ wr l.out (q.out i));have d:=T.out i;rw [J.out,Xag] at d;have o:=H.out i f;obtain ⟨X,x⟩:=Xn (ZX (8*L.length) s i);rw [x] at v m d o;cases hb:Zit L X with
   | true =>
     rw [hb] at d m;have A:=hid d;clear o hb d x;go_wp2_with fail;refine m.out.mono ?_;rintro e N ⟨rfl,rfl⟩;go_wp2_with fail;go_roundw
     case rel=>exact ⟨i+1,by omega,by go_num,A,trivial⟩
     case measure=>simp [intOf];omega
   | false =>
     rw [hb] at m;have t:=hid (o hb);clear o hb d x;go_wp2_with fail;refine m.out.mono ?_;rintro e N ⟨rfl,rfl⟩;go_wp2_with fail;go_ret;rw [t.out.symm];exact ⟨rfl,n.out⟩
  ·obtain rfl:i=4:=by omega
   have O:decide ((4:Int)<4)=false:=by simp
   have r:=D.out;rw [J.out] at r;have t:=hid r;clear r;go_wp2_with fail;go_ret;rw [t.out.symm];exact ⟨rfl,n.out⟩
variable {k:Nat}
def Zs5 (g b a:Nat) (r:Xu×Nat) (w:World) (e:Ending) (w':World):Prop:=e=.returned (.int .i64 (r.2:Int))/\FAt w' g b a r.1/\Kep (fun i=>i≠b) w w'
theorem ZyL {st:Xu×Nat} (h:Zit st.1 k=true):Zjn st k=st:=by unfold Zjn;rw [Xe h]
theorem ZBe {st:Xu×Nat} (h:Zit st.1 k=false):Zjn st k=(Znl st.1 k,st.2+1):=by unfold Zjn;rw [Xa (by rw [h];exact Xbm)]
theorem Zz5 (g b f:Nat) (L:Xu) (ts:Value) (a:List Xu) (w:World) (h:FAt w g b f L) (ht:∀w',Kep (fun i=>i≠b) w w'->Ze4 w' ts a) (au:a.length<=200000) (hs:∀s∈a,s.length<=1000000) :
  Calls prog 140 #[.pointer (some ⟨g,0,none⟩),ts] w (Zs5 g b f (ZcQ L a) w):=by
 have af:=h.lo;have ai:=h.hi;obtain ⟨p,ap,rfl,ar,aw⟩:=TIn.shape (ht w (Kep.refl _ _));have HM:=hid (Zmy g b f L w h);obtain ⟨n,hn⟩:=Xn L.length;have HS:=hid (fun W=>ZcN (some ⟨b,0,none⟩) n f W (by omega));have HP:=hid (fun s (h:List.length s<=1000000) W=>ZmK s n W (by omega) (by omega) (by omega));have ag:=hid (fun s i hi W=>Zmp (8*n) s i hi W);have ak:=hid (fun k=>(ZlA L a k).trans hn);have ad:=hid (Zlz L a);have an:=hid (fun k (hk:k<a.length)=>ZhD (L:=L) hk);have aj:=hid hs;have HT:=hid ht;have aa:Hid (∀s i,ZX (8*n) s i<8*n):=hid (fun s i=>Zj7 s i (by omega));have N:Hid (FAt w g b f (ZcQ L (a.take 0)).1):=hid h;have T:Hid (Kep (fun i=>i≠b) w w):=hid (Kep.refl _ _);obtain ⟨R,hR⟩:=Xn (ZcQ L a);rw [hR];have HE:Hid (ZcQ L (a.take a.length)=R):=hid (by rw [XC];exact hR);clear h hR ht hs hn af ai;go_enter func140,ntmps140;go_wp2_with fail;refine HM.out.mono ?_;rintro e w1 ⟨rfl,rfl⟩;clear HM;go_wp2_with fail
 go_loopw [5,15] (fun av kv wr=>∃k:Nat,k<=a.length/\av=.int .i64 ((ZcQ L (a.take k)).2:Int)/\kv=.int .i64 k/\Hid (FAt wr g b f (ZcQ L (a.take k)).1)/\Hid (Kep (fun i=>i≠b) w wr)) (fun _ kv _=>a.length - (intOf kv).toNat)
 case atStart=>exact ⟨0,by omega,rfl,rfl,N,T⟩
 case round =>
  obtain ⟨k,hk,rfl,rfl,m,v⟩:=hrel;clear N T
  by_cases x:k<a.length
  ·have t1:decide ((k:Int)<(a.length:Int))=true:=by simp;omega
   obtain ⟨bt,off,rfl,aq,t⟩:=TIn.at_ (HT.out wr v.out) x;have r:=an.out k x;have O:=ad.out k;have q:=ak.out k;have z:=aj.out _ (XH x);obtain ⟨s,hs⟩:=Xn (a[k]);rw [hs] at t r z;obtain ⟨⟨M,c⟩,hM⟩:∃M,ZcQ L (a.take k)=M:=⟨_,rfl⟩;rw [hM] at r O q m ⊢;dsimp only at r O q m ⊢;have Z:=m.out.cell;rw [q] at Z;have V:=hid (HP.out s z);have u:=hid (ag.out s);have U:=hid (aa.out s);obtain ⟨P,hP⟩:=Xn (plA (8*n) s);rw [hP] at V u;have Y:=hid (ZhE M s);rw [q] at Y;have ae:=hid (fun i=>(ZlB M s i).trans q);have am:=hid (Zig M s);have ao:Hid (ZfH M s 0=(M,0)):=hid rfl;have E:Hid (ZcQ L (a.take (k+1))=((ZfH M s 4).1,c+(ZfH M s 4).2)):=hid r;clear hs r hM hP z q;go_wp2_with fail;refine (HS.out _).mono ?_;rintro e w1 ⟨rfl,rfl⟩;go_wp2_with fail;refine (V.out _).mono ?_;rintro e w1 ⟨rfl,B⟩;have J:Hid (FAt w1 g b f (ZfH M s 0).1):=hid (m.out.below B);have H:=hid (v.out.trans (Za _ B));clear B m v Z t;go_wp2_with fail
   go_loopw [5,26] (fun av iv F=>∃i:Nat,i<=4/\av=.int .i64 ((c:Int)+((ZfH M s i).2:Int))/\iv=.int .i64 i/\Hid (FAt F g b f (ZfH M s i).1)/\Hid (Kep (fun i=>i≠b) w F)) (fun _ iv _=>4 - (intOf iv).toNat)
   case atStart=>exact ⟨0,by omega,by rw [ao.out];simp,rfl,J,H⟩
   case round =>
    obtain ⟨i,hi,rfl,rfl,m,v⟩:=hrel;clear J H
    by_cases G:i<4
    ·have t2:decide ((i:Int)<4)=true:=by simp;omega
     have ah:=u.out i G;have j:=Y.out i;have o:=ae.out i;have I:=am.out i;have C:=U.out i;obtain ⟨X,hX⟩:=Xn (ZX (8*n) s i);rw [hX] at ah j C;obtain ⟨⟨A,d⟩,hA⟩:∃A,ZfH M s i=A:=⟨_,rfl⟩;rw [hA] at j o I m ⊢;dsimp only at o I m ⊢;have Z:=m.out.cell;have y:=ZpR g b f A X _ m.out (by omega);rw [o] at Z y;have hp:=fun W (hF:FAt W g b f A)=>ZiX g b f A X W hF (by omega);rw [o] at hp;have ac:=hid hp;cases hb:Zit A X with
     | true =>
       rw [hb] at y;rw [ZyL (st:=(A,d)) hb] at j;have l:=hid j;have HH:=hid y;clear hb y hp hX hA j o C;go_wp2_with fail;refine HH.out.mono ?_;rintro e w2 ⟨rfl,rfl⟩;go_wp2_with fail;go_roundw
       case rel=>exact ⟨i+1,by omega,by rw [l.out],by go_num,by rw [l.out];exact m,v⟩
       case measure=>simp [intOf];omega
     | false =>
       rw [hb] at y;rw [ZBe (st:=(A,d)) hb] at j;have l:=hid j;have HH:=hid y;clear hb y hp hX hA j o C;go_wp2_with fail;refine HH.out.mono ?_;rintro e w2 ⟨rfl,rfl⟩;go_wp2_with fail;refine (ac.out _ m.out).mono ?_;rintro e w2 ⟨rfl,S,D⟩;have ab:=hid S;have al:=hid (v.out.trans D);clear S D;go_wp2_with fail;go_roundw
       case rel=>exact ⟨i+1,by omega,by rw [l.out];go_num,by go_num,by rw [l.out];exact ab,al⟩
       case measure=>simp [intOf];omega
    ·obtain rfl:i=4:=by omega
     have t2:decide ((4:Int)<4)=false:=by simp
     go_wp2_with fail;go_roundw
     case rel=>exact ⟨k+1,by omega,by rw [E.out];go_num,by go_num,by rw [E.out];exact m,v⟩
     case measure=>simp [intOf];omega
  ·obtain rfl:k=a.length:=by omega
   have t1:decide ((a.length:Int)<(a.length:Int))=false:=by simp
   rw [HE.out] at m ⊢;go_wp2_with fail;go_ret;exact ⟨rfl,m.out,v.out⟩
theorem ZoQ {w:World} {B n:Nat} {v:Value} (h:w.ownsRow B 5 1 v n (madeCells #[Value.int .u8 0] n).toList):Zd B w v (List.replicate n 0):=by
 have e:(madeCells #[Value.int .u8 0] n).toList=Lib.byteCells (List.replicate n 0):=by
  rw [toList_madeCells_one];simp [Lib.byteCells]
 rw [e] at h;unfold Zd;rw [List.length_replicate];exact h
theorem ZqG (z:Int) (m:Nat) (w:World) (j:z=(m:Int)) (hm:m<=1048576):Calls prog 203 #[.int .i64 z] w (ZS w.heap.size (List.replicate ((m+7) / 8) 0) w):=by
 obtain ⟨i0,hi,e,f,d⟩:=info_parts ZaJ;obtain ⟨N,g⟩:∃N:Nat,(m+7) / 8=N:=⟨_,rfl⟩;have c:((m:Int)+7) / 8=(N:Int):=by omega
 have n:N<=131073:=by omega
 rw [g];subst j;clear g;go_enter func203,ntmps203;go_wp2_with (at_make;go_loud (refine wpList_make_full w rfl _ _ 177 rfl w.heap.size 5 i0 (.int .u8 0) 1 underlying177 hi e f .i64 .i64 _ _ N rfl rfl c c (by rw [d];omega) (by unfold maxLen;omega) (Xc _) ?_))
 intro w1 a b;have l:=hid ((Below.refl w.heap.size w).grown b (Xc _) (fun k h=>by cases h));have i:=hid (ZoQ a);clear a b;go_wp2_with fail;go_ret;exact ⟨_,rfl,i.out,l.out⟩
def Zk9 (L:Xu) (w:World) (e:Ending) (w':World):Prop:=∃g b a,e=.returned (.tuple #[.pointer (some ⟨g,0,none⟩),.int .i64 0])/\FAt w' g b a L/\w.heap.size<=g/\w.heap.size<=b/\Below w.heap.size w w'
theorem ZAX (n:Nat) (w:World) (h:n<=262144):Calls prog 139 #[.int .i64 n] w (Zk9 (ZfS n) w):=by
 have t1:decide ((n:Int)<0)=false:=Xf;have t2:decide ((n:Int)>262144)=false:=Xf
 have k:∀(z:Int) (m:Nat) (W:World),z=(m:Int)->m<=1048576->(m+7) / 8=ZeZ n->Calls prog 203 #[.int .i64 z] W (ZS W.heap.size (ZfS n) W):=fun z m W S M J=>by
  have:=ZqG z m W S M;rw [J] at this;exact this
 have y:ZeZ n=(min (max (10*n) 64) 1048576+7) / 8:=rfl;have q:=hid y;have c:=hid k;have t:=Zjd n;obtain ⟨D,C⟩:=Zd4 n;rw [<- t] at D C;have l:=hid D;have u:=hid C;obtain ⟨L,F⟩:=Xn (ZfS n);rw [F] at c l u ⊢
 have p:∀(v:Value) (d:World),Zd w.heap.size d v L->Below w.heap.size w d->Zk9 L w (.returned (.tuple #[.pointer (some ⟨d.heap.size,0,none⟩),.int .i64 0])) (d.alloc (.cells #[v] 179)):=fun v d f j=>by
  have o:=l.out;obtain ⟨b,i,rfl,E,O,N⟩:=Zd.shape f (by omega);have s:=j.size;have R:Below d.heap.size d (d.alloc (.cells #[.slice (some ⟨b,0,none⟩) L.length i] 179)):=(Below.refl _ _).alloc (Xc _) _;have x:=f.keep R
  have I:b<d.heap.size:=by
   have H:=Zd.cell f (XW (show 0<L.length by omega))
   by_cases j:b<d.heap.size
   ·exact j
   ·simp [World.cell?,Xaw (XaS j)] at H
  refine ⟨d.heap.size,b,i,rfl,⟨?_,?_,by omega,o,u.out⟩,s,E,j.alloc s _⟩
  ·rw [cell_of_row _ d.heap.size 0 _ _ _ (heap_alloc_new _ _)];rfl
  ·refine ⟨x.1,?_⟩;rcases x.2 with ⟨o,_⟩|⟨g,i,B,G,hg,rest⟩
   ·cases o
   ·have A:=G;simp only [Value.slice.injEq,Xv,Addr.mk.injEq] at A;exact .inr ⟨g,i,B,G,by rw [A.1.1];exact Xc _,rest⟩
 have a:=hid p;clear k y t D C F p;go_enter func139,ntmps139;go_wp2_with fail
 ·refine (c.out _ 1048576 _ rfl (by omega) (by rw [q.out];omega)).mono ?_;rintro e d ⟨v,rfl,f,j⟩;have r:=hid (a.out v d f j);have o:=l.out;obtain ⟨b,i,rfl,_⟩:=Zd.shape f (by omega);clear f j a o;go_wp2_with fail;go_ret2;exact r.out
 ·refine (c.out _ 64 _ rfl (by omega) (by rw [q.out];omega)).mono ?_;rintro e d ⟨v,rfl,f,j⟩;have r:=hid (a.out v d f j);have o:=l.out;obtain ⟨b,i,rfl,_⟩:=Zd.shape f (by omega);clear f j a o;go_wp2_with fail;go_ret2;exact r.out
 ·refine (c.out _ (10*n) _ (by omega) (by omega) (by rw [q.out];omega)).mono ?_;rintro e d ⟨v,rfl,f,j⟩;have r:=hid (a.out v d f j);have o:=l.out;obtain ⟨b,i,rfl,_⟩:=Zd.shape f (by omega);clear f j a o;go_wp2_with fail;go_ret2;exact r.out
theorem Zst (w:World) (B:Nat) (a:B<=w.heap.size):Zd B (w.alloc (.cells #[] 5)) (.slice (some ⟨w.heap.size,0,none⟩) 0 0) []:=ZdN w [] 5 B a (by unfold maxLen;simp)
theorem ZhK (v:Value) (l:Xu) (w:World) (h:Zq w v l) (hl:l.length<=1000000000000):Calls prog 106 #[v] w (ZS w.heap.size l w):=by
 obtain ⟨p,x,rfl,m,_⟩:=h.shape;have hq:=fun (w:World) (a:Option Addr) (n c:Nat)=>Lib.run_eql_slice_nil (P:=prog) w 23 5 a n c 0 0 underlying23;cases p with
 | none =>
   have e:l=[]:=by
    obtain ⟨p',cap',g,h1,h2,r,h4⟩:=h;simp only [Value.slice.injEq] at g;obtain ⟨rfl,u,j⟩:=g;have:=r rfl;exact XO (by omega)
   subst e;have d:=hid (show ZS w.heap.size [] w (.returned (.slice none 0 0)) w from ⟨_,rfl,World.ownsRow_nil _ _ _ _,Below.refl _ _⟩);clear h;go_enter func106,ntmps106;go_wp2_with fail;go_ret;exact d.out
 | some a =>
   have i:=hid (Zst w w.heap.size (Xc _));have k:=hid (fun o=>Zq.below h ((Below.refl w.heap.size w).alloc (Xc _) o));have q:=hid (fun o=>(Below.refl w.heap.size w).alloc (Xc _) o);clear h;go_enter func106,ntmps106;go_wp2_with (at_builtin;go_loud (refine Zg rfl _ _ rfl w.heap.size _ [] rfl i.out _ l rfl (k.out _) (by simp;omega) (by simp) ?_))
   intro t s b f;have d:=hid (show ZS w.heap.size l w (.returned t) s from ⟨_,rfl,b,(q.out _).trans f⟩);clear b f;go_wp2_with fail;go_ret;exact d.out
theorem ZrL (g b a:Nat) (L:Xu) (w:World) (h:FAt w g b a L):Calls prog 83 #[.pointer (some ⟨g,0,none⟩)] w (ZS w.heap.size L w):=by
 have hc:=h.cell;have j:=h.hi;have l:=hid (Zmy g b a L w h);have i:=hid (ZhK _ L w h.brow (by omega));clear h;go_enter func83,ntmps83;go_wp2_with fail;refine l.out.mono ?_;rintro e c ⟨rfl,rfl⟩;go_wp2_with fail;refine i.out.mono ?_;rintro e c ⟨v,rfl,f,d⟩;have k:=hid (show ZS w.heap.size L w (.returned v) c from ⟨v,rfl,f,d⟩);clear f d;go_wp2_with fail;go_ret;exact k.out
theorem ZAT {w a:World} {v:Value} {L:Xu} (l:Zd w.heap.size a v L) (d:Below w.heap.size w a) (j:8<=L.length) (k:L.length<=131072) :
  Zk9 L w (.returned (.tuple #[.pointer (some ⟨a.heap.size,0,none⟩),.int .i64 0])) (a.alloc (.cells #[v] 179)):=by
 obtain ⟨b,c,rfl,m,s,r⟩:=Zd.shape l (by omega);have e:=d.size;have t:Below a.heap.size a (a.alloc (.cells #[.slice (some ⟨b,0,none⟩) L.length c] 179)):=(Below.refl _ _).alloc (Xc _) _;have f:=l.keep t
 have p:b<a.heap.size:=by
  have o:=Zd.cell l (XW (show 0<L.length by omega))
  by_cases d:b<a.heap.size
  ·exact d
  ·simp [World.cell?,Xaw (XaS d)] at o
 refine ⟨a.heap.size,b,c,rfl,⟨?_,?_,by omega,j,k⟩,e,m,d.alloc e _⟩
 ·rw [cell_of_row _ a.heap.size 0 _ _ _ (heap_alloc_new _ _)];rfl
 ·refine ⟨f.1,?_⟩;rcases f.2 with ⟨q,_⟩|⟨g,c,i,n,hg,rest⟩
  ·cases q
  ·have h:=n;simp only [Value.slice.injEq,Xv,Addr.mk.injEq] at h;exact .inr ⟨g,c,i,n,by rw [h.1.1];exact Xc _,rest⟩
theorem Zuk (v:Value) (l:Xu) (w:World) (h:Zq w v l) (a:8<=l.length) (c:l.length<=131072):Calls prog 52 #[v] w (Zk9 l w):=by
 have i:=hid (ZhK v l w h (by omega));obtain ⟨p,f,rfl,_,_⟩:=h.shape;have t1:decide ((l.length:Int)<8)=false:=Xf;have t2:decide ((l.length:Int)>131072)=false:=Xf;clear h;go_enter func52,ntmps52;go_wp2_with fail;refine i.out.mono ?_;rintro e w1 ⟨v,rfl,d,g⟩;have j:=hid (ZAT d g a c);obtain ⟨b,f,rfl,_⟩:=Zd.shape d (by omega);clear d g;go_wp2_with fail;go_ret2;exact j.out
def Zwx (L:Xu) (w:World) (e:Ending) (w':World):Prop:=∃g b a,e=.returned (.pointer (some ⟨g,0,none⟩))/\FAt w' g b a L/\w.heap.size<=g/\w.heap.size<=b/\Below w.heap.size w w'
theorem ZAe (o:Value) (a:List Xu) (w:World) (n:Ze4 w o a) (t:a.length<=200000) (hs:∀s∈a,s.length<=1000000):Calls prog 82 #[o] w (Zwx (ZcQ (ZfS a.length) a).1 w):=by
 have r:=hid (ZAX a.length w (by omega));have J:=hid n;have j:=hid (fun g b d W (h:FAt W g b d (ZfS a.length)) (n:∀w',Kep (fun i=>i≠b) W w'->Ze4 w' o a)=>Zz5 g b d (ZfS a.length) o a W h n t hs);obtain ⟨p,z,rfl,G,I⟩:=TIn.shape n;obtain ⟨⟨R,c⟩,y⟩:∃R,ZcQ (ZfS a.length) a=R:=⟨_,rfl⟩;rw [y] at j ⊢;unfold Zs5 at j;dsimp only at j ⊢;obtain ⟨N,B⟩:=Xn (ZfS a.length);rw [B] at r j;clear y B n;have t1:(min (a.length:Int) 262144)=(a.length:Int):=by omega
 go_enter func82,ntmps82;go_wp2_with fail;refine r.out.mono ?_;rintro e H ⟨g,b,d,rfl,A,E,C,f⟩;have x:=j.out g b d H A (fun w' u=>Ze4.below J.out (f.trans (u.below f.size (fun k u=>by omega))));have q:=hid x;have v:=hid f;clear x A f r j;go_wp2_with fail;refine q.out.mono ?_;rintro e F ⟨rfl,m,l⟩;have D:=hid (show Zwx R w (.returned (.pointer (some ⟨g,0,none⟩))) F from ⟨g,b,d,rfl,m,E,C,v.out.trans (l.below v.out.size (fun k u=>by omega))⟩);clear m l;go_wp2_with fail;go_ret;exact D.out
variable {w:World} {B b n cap j k g:Nat} {L:Xu}
theorem ZhS (w:World) (B:Nat) (a:B<=w.heap.size):Zd B (w.alloc (.cells #[] 5)) (.slice (some ⟨w.heap.size,0,none⟩) 0 0) []:=ZdN w [] 5 B a (by unfold maxLen;simp)
theorem Zix (h:Zd B w (.slice (some ⟨b,0,none⟩) n cap) L):Zd b w (.slice (some ⟨b,0,none⟩) n cap) L:=by
 refine ⟨h.1,?_⟩;rcases h.2 with ⟨e,_⟩|⟨g,cap,c,d,hg,rest⟩
 ·cases e
 ·have a:=d;simp only [Value.slice.injEq,Xv,Addr.mk.injEq] at a;exact .inr ⟨g,cap,c,d,by rw [a.1.1];exact Xc _,rest⟩
theorem ZqM (h:Zd b w (.slice (some ⟨b,0,none⟩) n cap) L) (a:B<=b):Zd B w (.slice (some ⟨b,0,none⟩) n cap) L:=h.weaken a
theorem ZBC:∀c:Fin 256,∀j:Fin 8,ZoV (UInt8.ofNat c.val) j.val=false->((c.val:Int)+(2:Int)^j.val)%256=((ZfV (UInt8.ofNat c.val) j.val).toNat:Int):=by decide +kernel
theorem ZBD (c:UInt8) (a:j<8) (h:ZoV c j=false):((c.toNat:Int)+(2:Int)^j)%256=((ZfV c j).toNat:Int):=by
 have:=ZBC ⟨c.toNat,c.toNat_lt⟩ ⟨j,a⟩;have e:UInt8.ofNat c.toNat=c:=by simp
 dsimp only at this;rw [e] at this;exact this h
def Zwz (r:Xu×Nat) (w:World) (e:Ending) (w':World):Prop:=∃v,e=.returned (.tuple #[.agg #[v],.int .i64 (r.2:Int)])/\Zd w.heap.size w' v r.1/\Below w.heap.size w w'
theorem Zvp {st:Xu×Nat} (h:Zit st.1 k=true):Zjn st k=st:=by unfold Zjn;rw [Xe h]
theorem ZyK {st:Xu×Nat} (h:Zit st.1 k=false):Zjn st k=(Znl st.1 k,st.2+1):=by unfold Zjn;rw [Xa (by rw [h];exact Xbm)]
theorem ZBf (a:k / 8<L.length):Znl L k=L.set (k / 8) (ZfV L[k / 8] (k%8)):=by
 unfold Znl;simp [List.getD,a]
theorem Zuy {t:Nat} {old:Value} (f:Zd b w (.slice (some ⟨b,0,none⟩) L.length cap) L) (e:w.heap[g]? = some (.cells #[old] t (0,0))) (c:g≠b) (a:8<=L.length) (d:L.length<=131072) :
  FAt (w.setCell ⟨g,0,none⟩ (.slice (some ⟨b,0,none⟩) L.length cap)) g b cap L:=by
 have h:=heap_setCell_same w g 0 _ _ (.slice (some ⟨b,0,none⟩) L.length cap) e;refine ⟨?_,Zc6 f (heap_setCell_other w ⟨g,0,none⟩ b _ (by show b≠g;omega)),c,a,d⟩;rw [cell_of_row _ g 0 _ _ _ h];rfl
theorem Ztz:(prog.info? 44).map (·.size)=some 1:=by kernel_rfl
theorem Zef {fn:Func} {p u:Tmp} (h:fn.results=#[.cell p 44,.tmp u]) (tmps:Array Value) (w:World) (g:Nat) (x:Value)
  (d:tmps.getD p undef=.pointer (some ⟨g,0,none⟩)) (c:w.heap[g]? = some (.cells #[x] 44 (0,0))) :
  (results fn tmps).run prog w=.ok (.tuple #[.agg #[x],tmps.getD u undef]) w:=by
 have a:tmps[p]?.getD undef=.pointer (some ⟨g,0,none⟩):=by simpa using d
 simp [results,h,a,asAddr,run_loadVar_row w g 44 44 _ (0,0) _ c underlying44 rfl Ztz]
def ZfE (w:World) (g:Nat):Prop:=w.heap[g]? = some (.cells #[.slice none 0 0] 44 (0,0))
theorem ZfE.cell (h:ZfE w g):w.cell? ⟨g,0,none⟩=some (.slice none 0 0):=by rw [cell_of_row _ g 0 _ _ _ h];rfl
theorem ZfE.free (h:ZfE w g):w.frozen? ⟨g,0,none⟩=false:=frozen_of_row _ g 0 _ _ h
theorem ZfE.lt (h:ZfE w g):g<w.heap.size:=(Xo.1 h).1
theorem ZfE.keep {w':World} (h:ZfE w g) (c:Below B w w') (a:g<B):ZfE w' g:=(c.block g a).trans h
theorem ZfE.other {u:Value} (h:ZfE w g) (a:g≠b):ZfE (w.setCell ⟨b,j,none⟩ u) g:=(heap_setCell_other w ⟨b,j,none⟩ g _ (by show g≠b;exact a)).trans h
theorem Zay {i:Nat} {a:World} (v:Value) (h:Below B a w) (hg:B<=g):Below B a (w.setCell ⟨g,i,none⟩ v) :=
 ⟨h.os,h.tape,h.output,by simp only [World.setCell,Array.size_modify];exact h.size,fun j c=>by rw [heap_setCell_other w ⟨g,i,none⟩ j v (by show j≠g;omega)];exact h.block j c⟩
theorem ZyQ (v:Value) (L s:Xu) (w:World) (h:Zq w v L) (hs:s.length<=1000000) (aH:8<=L.length) (aA:L.length<=131072) :
  Calls prog 151 #[.agg #[v],.string ⟨s.toArray⟩] w (Zwz (ZlD L s) w):=by
 obtain ⟨p,cap,rfl,aD,aR⟩:=h.shape;have E:Below w.heap.size w ((w.alloc (.cells #[.slice p L.length cap] 44)).alloc (.cells #[.slice none 0 0] 44)):=((Below.refl _ _).alloc (Xc _) _).alloc (by simp) _;have U:((w.alloc (.cells #[.slice p L.length cap] 44)).alloc (.cells #[.slice none 0 0] 44)).heap.size=w.heap.size+1+1:=by simp
 have aj:((w.alloc (.cells #[.slice p L.length cap] 44)).alloc (.cells #[.slice none 0 0] 44)).heap[w.heap.size]? = some (.cells #[.slice p L.length cap] 44 (0,0)):=by
  have e:=heap_alloc_new w (.cells #[.slice p L.length cap] 44);rw [((Below.refl (w.heap.size+1) (w.alloc (.cells #[.slice p L.length cap] 44))).alloc (by simp) _).block w.heap.size (by omega)];exact e
 have av:ZfE ((w.alloc (.cells #[.slice p L.length cap] 44)).alloc (.cells #[.slice none 0 0] 44)) (w.heap.size+1):=by
  have e:=heap_alloc_new (w.alloc (.cells #[.slice p L.length cap] 44)) (.cells #[.slice none 0 0] 44);rw [show (w.alloc (.cells #[.slice p L.length cap] 44)).heap.size=w.heap.size+1 by simp] at e;exact e
 have ho:=ZhS ((w.alloc (.cells #[.slice p L.length cap] 44)).alloc (.cells #[.slice none 0 0] 44)) _ (Xc _);have t:=(Below.refl _ ((w.alloc (.cells #[.slice p L.length cap] 44)).alloc (.cells #[.slice none 0 0] 44))).alloc (Xc _) (.cells #[] 5);have aa:=h.below (E.trans (t.mono E.size));have Z:=E.trans (t.mono E.size);have F:(((w.alloc (.cells #[.slice p L.length cap] 44)).alloc (.cells #[.slice none 0 0] 44)).alloc (.cells #[] 5)).heap.size=w.heap.size+1+1+1:=by simp
 rw [U] at ho t;have C:=(t.block w.heap.size (by omega)).trans aj;have G:=av.keep t (by omega);obtain ⟨n,hn⟩:=Xn L.length;rw [hn] at ho aa Z F C G aD aH aA ⊢;have ap:=hid (fun p cap i (hi:i<4) W=>ZyT p n cap s i W (by omega) (by omega) (by omega) hi);have ao:=hid (ZhE L s);rw [hn] at ao;have ar:=hid (fun i=>(ZlB L s i).trans hn);have aB:=hid (Zig L s);have aK:Hid (∀i,ZX (8*n) s i<8*n):=hid (fun i=>Zj7 s i (by omega));have HE:Hid (ZfH L s 4=ZlD L s):=hid rfl;have aM:Hid (ZfH L s 0=(L,0)):=hid rfl;obtain ⟨⟨R,rc⟩,hR⟩:∃R,ZlD L s=R:=⟨_,rfl⟩;rw [hR] at HE ⊢;have y:=hid hn;have HO:=hid ho;have ax:=hid aa;have ak:=hid Z;have S:=hid F;have ai:=hid C;have aw:=hid G;clear h E aj av U hR ho t aa Z F C G hn;go_enter func151,ntmps151;go_wp2_with (at_builtin;go_loud (refine Zg rfl _ _ rfl (w.heap.size+1+1) _ [] rfl HO.out _ L rfl ax.out (by simp [y.out];omega) (by rw [S.out];omega) ?_))
 intro v3 w3 N M;change Zd (w.heap.size+1+1) w3 v3 L at N;obtain ⟨b,a,rfl,aQ,ad,aO⟩:=Zd.shape N (by rw [y.out];omega);have o:=(M.block w.heap.size (by omega)).trans ai.out;have Y:=aw.out.keep M (by omega);have ay:=Zuy (Zix N) o (by omega) (by rw [y.out];omega) (by rw [y.out];omega);have ah:w3.cell? ⟨w.heap.size,0,none⟩=some (.slice p n cap):=by rw [cell_of_row _ w.heap.size 0 _ _ _ o];rfl
 have aq:=frozen_of_row w3 w.heap.size 0 _ _ o;have x:=hid (Y.other (b:=w.heap.size) (j:=0) (u:=.slice (some ⟨b,0,none⟩) L.length a) (by omega));have m:=hid (Zay (i:=0) (.slice (some ⟨b,0,none⟩) L.length a) (ak.out.trans (M.mono (by omega))) (Xc w.heap.size));have r:Hid (FAt _ w.heap.size b a (ZfH L s 0).1):=hid ay;rw [y.out] at x m r ad ⊢;have aP:w.heap.size+1<b:=by omega
 clear N M o Y ay HO ax ak S ai aw;go_wp2_with fail
 go_loopw [6,7] (fun nv iv wr=>∃i:Nat,i<=4/\nv=.int .i64 ((ZfH L s i).2:Int)/\iv=.int .i64 i/\Hid (FAt wr w.heap.size b a (ZfH L s i).1)/\Hid (ZfE wr (w.heap.size+1))/\Hid (Below w.heap.size w wr)) (fun _ iv _=>4 - (intOf iv).toNat)
 case atStart=>exact ⟨0,by omega,by rw [aM.out];simp,rfl,r,x,m⟩
 case round =>
  obtain ⟨i,hi,rfl,rfl,I,HG,HB⟩:=hrel;clear r x m ah aq
  by_cases az:i<4
  ·have t2:decide ((i:Int)<4)=true:=by simp;omega
   have c:=ao.out i;have f:=ar.out i;have al:=aB.out i;have aJ:=aK.out i;have H:=ap.out (some ⟨b,0,none⟩) a i az;obtain ⟨X,hX⟩:=Xn (ZX (8*n) s i);rw [hX] at c aJ;simp only [hX] at H;obtain ⟨⟨A,d⟩,hA⟩:∃A,ZfH L s i=A:=⟨_,rfl⟩;rw [hA] at c f al I ⊢;dsimp only at f al I ⊢;have hc:=I.out.cell;rw [f] at hc;have aE:=hid H;have q:=hid f;have T:=hid c;clear hX hA f c H;go_wp2_with fail;refine (aE.out _).mono ?_;rintro e w4 ⟨rfl,J⟩;have D:=I.out.below J;have ae:=D.cell;have aN:=I.out.glt;have hh:=ZyY _ A X w4 D.brow D.hi (by rw [q.out];omega);have ab:=hid (HG.out.keep J HG.out.lt);have m:=hid (HB.out.trans (J.mono HB.out.size));have r:=hid D;rw [q.out] at ae hh;have HH:=hid hh;clear J D hh hc I HG HB;go_wp2_with fail;refine HH.out.mono ?_;rintro e w5 ⟨rfl,O⟩;have af:=r.out.below O;have au:=hid (ab.out.keep O ab.out.lt);have ag:=hid (m.out.trans (O.mono m.out.size));have z:=hid af;clear O af HH ab m r ae;cases hb:Zit A X with
   | true =>
     have c:=T.out;rw [Zvp (st:=(A,d)) hb] at c;have l:=hid c;clear hb c;go_wp2_with fail;go_roundw
     case rel=>exact ⟨i+1,by omega,by rw [l.out],by go_num,by rw [l.out];exact z,au,ag⟩
     case measure=>simp [intOf];omega
   | false =>
     have c:=T.out;rw [ZyK (st:=(A,d)) hb] at c;have l:=hid c;have ac:X / 8<A.length:=by rw [q.out];omega
     have aG:=z.out.cell;rw [q.out] at aG;have aF:=z.out.there ac;have aq:=Zd.free z.out.own (X / 8);have V:=ZBD A[X / 8] (j:=X%8) (XaN _ (by decide)) (by rw [<- Zsb ac];exact hb);have an:=hid V;have am:=hid ((z.out.set (X / 8) (ZfV A[X / 8] (X%8))).keep (Zcl (fun _=>True) _) trivial trivial);rw [<- ZBf ac] at am;have aL:Hid (ZfE (w5.setCell ⟨b,X / 8,none⟩ (.int .u8 ((ZfV A[X / 8] (X%8)).toNat:Int))).drew (w.heap.size+1)):=hid (au.out.other (b:=b) (j:=X / 8) (by omega));have aI:Hid (Below w.heap.size w (w5.setCell ⟨b,X / 8,none⟩ (.int .u8 ((ZfV A[X / 8] (X%8)).toNat:Int))).drew):=hid ((Zay (i:=X / 8) _ ag.out (by omega:w.heap.size<=b)).drew);clear hb c V;go_wp2_with fail;go_region;rw [an.out];go_wp2_with fail;go_roundw
     case rel=>exact ⟨i+1,by omega,by rw [l.out];go_num,by go_num,by rw [l.out];exact am,aL,aI⟩
     case measure=>simp [intOf];omega
  ·obtain rfl:i=4:=by omega
   have t2:decide ((4:Int)<4)=false:=by simp
   have he:=HE.out;rw [he] at I ⊢;dsimp only at I ⊢;have f:=ar.out 4;rw [he] at f;dsimp only at f;have hc:=I.out.cell;rw [f] at hc;have aT:=HG.out.cell;have aS:=HG.out.free;have HX:=hid (heap_setCell_same wr (w.heap.size+1) 0 _ _ (.slice (some ⟨b,0,none⟩) n a) HG.out);have hk:Kep (fun k=>k≠w.heap.size+1) wr (wr.setCell ⟨w.heap.size+1,0,none⟩ (.slice (some ⟨b,0,none⟩) n a)):=Zx (fun h=>h rfl) _;have HO:=hid (ZqM (I.out.keep hk (by omega) (by omega)).own (by omega:w.heap.size<=b));rw [f] at HO;have aC:=hid (Zay (i:=0) (.slice (some ⟨b,0,none⟩) n a) HB.out (by omega:w.heap.size<=w.heap.size+1));clear he hk;go_wp2_with fail;refine bodyPost_ret (Zef rfl _ _ (w.heap.size+1) _ rfl HX.out) rfl ⟨_,rfl,HO.out,aC.out⟩
theorem ZyX (n:Nat) (w:World) (h:n<=262144):Calls prog 150 #[.int .i64 n] w fun e w'=>e=.returned (.int .i64 (ZeZ n:Nat))/\w=w':=by
 have a:Hid (ZeZ n=(min (max (10*n) 64) 1048576+7) / 8):=hid rfl;generalize ZeZ n=R at *;go_enter func150,ntmps150;go_wp2_with fail
 all_goals
  go_ret;refine ⟨Xp (fun z=>Ending.returned (.int .i64 z)) ?_,rfl⟩;have:=a.out;omega
def ZwA (L:Xu) (w:World) (e:Ending) (w':World):Prop:=∃v,e=.returned (.tuple #[.agg #[v],.int .i64 0])/\Zd w.heap.size w' v L/\Below w.heap.size w w'
theorem ZhJ {w:World} {g t:Nat} {u:Value} (h:w.heap[g]? = some (.cells #[u] t (0,0))) (a:Value) :
  w.cell? ⟨g,0,none⟩=some u/\w.frozen? ⟨g,0,none⟩=false/\(w.setCell ⟨g,0,none⟩ a).heap[g]? = some (.cells #[a] t (0,0))/\Kep (fun c=>c≠g) w (w.setCell ⟨g,0,none⟩ a):=by
 have b:=heap_setCell_same w g 0 _ _ a h;exact ⟨by rw [cell_of_row w _ 0 _ _ _ h];rfl,frozen_of_row w _ 0 _ _ h,b,Zx (by simp) _⟩
theorem Zy1 (n:Nat) (w:World) (h:n<=262144):Calls prog 97 #[.int .i64 n] w (ZwA (ZfS n) w):=by
 have t1:decide ((n:Int)<0)=false:=Xf;have t2:decide ((n:Int)>262144)=false:=Xf;have A:=hid (fun W=>ZyX n W h);obtain ⟨i0,hi,v,t,s⟩:=info_parts ZaJ;have G:=(Zd4 n).2;have e:ZfS n=List.replicate (ZeZ n) 0:=rfl;have H:=(Zd4 n).1;rw [e];obtain ⟨N,D⟩:=Xn (ZeZ n);rw [D] at A G H ⊢;have q:=heap_alloc_new w (.cells #[.slice none 0 0] 44);have j:=(Below.refl w.heap.size w).alloc (Xc _) (.cells #[.slice none 0 0] 44);have c:(w.alloc (.cells #[.slice none 0 0] 44)).heap.size=w.heap.size+1:=by simp
 obtain ⟨a,g⟩:=Xn (w.alloc (.cells #[.slice none 0 0] 44));rw [g] at q j c;have L:=hid q;have z:=hid j;have d:=hid c;have x:=hid g;clear e D q j c g;go_enter func97,ntmps97;go_wp2_with fail;rw [x.out];refine (A.out _).mono ?_;rintro e w1 ⟨rfl,rfl⟩;go_wp2_with (at_make;go_loud (refine wpList_make_full a rfl _ _ 23 rfl a.heap.size 5 i0 (.int .u8 0) 1 underlying23 hi v t .i64 .i64 _ _ N rfl rfl rfl rfl (by rw [s];omega) (by unfold maxLen;omega) (Xc _) ?_))
 intro y b p;have f:=(Below.refl a.heap.size a).grown p (Xc _) (fun k h=>by cases h);have u:=ZoQ b;have o:=(f.block w.heap.size (by have:=d.out;omega)).trans L.out;obtain ⟨q1,q2,C,B⟩:=ZhJ o (.slice (some ⟨a.heap.size,0,none⟩) N N);have J:=hid C
 have l:a.heap.size<y.heap.size:=by
  have I:(List.replicate N (0:UInt8))[0]? = some 0:=by rw [List.getElem?_replicate,Xe (by omega)]
  have E:=Zd.cell u I
  by_cases j:a.heap.size<y.heap.size
  ·exact j
  ·simp [World.cell?,Xaw (XaS j)] at E
 have m:=ZqM (Zc6 (Zix u) (B.block a.heap.size l (by have:=d.out;omega))) (by have:=d.out;omega:w.heap.size<=a.heap.size);have F:=hid m;have r:=hid (Zay (i:=0) (.slice (some ⟨a.heap.size,0,none⟩) N N) (z.out.trans (f.mono z.out.size)) (Xc w.heap.size));clear b p f u o C B m l;go_wp2_with fail;refine bodyPost_ret (Zef rfl _ _ w.heap.size _ rfl J.out) rfl ⟨_,rfl,F.out,r.out⟩
