import Derived.Test.YtdijhifdjbnkfaaGreatZT8
import Derived.Test.YtdijhifdjbnkfaaGreatZT13
set_option maxRecDepth 100000
set_option maxHeartbeats 0
set_option linter.unusedVariables false
set_option linter.unusedSimpArgs false
namespace Go.Proofs.YtdijhifdjbnkfaaGreat
open Lib (hid)
open Tryz
namespace SG
open RowKit MM VM VP
open EV (ZA Z8 Zad)
open SM (Zo)
open GM (Z0 Zhw ZcI Zgn)
theorem i64_in (z:Int) : -9223372036854775808<=IntKind.i64.wrap z/\IntKind.i64.wrap z<=9223372036854775807:=by
 rw [IntWalk.i64_left];unfold wrap64;omega
theorem ZgD (l:List Zo):∀z,(Z0 z l).length<=10*l.length:=by
 induction l with
 | nil=>intro z;simp [Z0]
 | cons d r ih =>
   intro z;have h1:=ih d.2.1;have h2:(ZaY (IntKind.i64.wrap (d.2.1 - z))).length<=10:=(Zc _).2;rw [Z0,Xd,Xh];omega
theorem ZsL (v:Value) (l:List Zo) (w:World) (J:ZN ZA w v l) (D:l.length<=1000000000) :
  Calls prog 46 #[v] w fun e w'=>(∃u,e=.returned u/\Zd w.heap.size w' u (Z0 0 l))/\Below w.heap.size w w':=by
 obtain ⟨p,ab,rfl,ac,M,_⟩:=J.shape;unfold maxLen at M;have HV:=hid J.bel;have m:Hid (Z0 0 (l.take l.length)=Z0 0 l):=hid (by rw [XC]);have X:=hid (fun (n:Nat) (D:n<l.length)=>Zhw D 0);have r:=hid (fun (n:Nat) (D:n<l.length)=>Zgn D 0);have S:=hid (fun k=>ZgD (l.take k) 0);have H0:Hid (Zd w.heap.size w (.slice none 0 0) (Z0 0 (l.take 0))):=hid (World.ownsRow_nil _ _ _ _);clear J;go_enter func46,ntmps46;go_wp2_with fail
 go_loopw [3,4,5] (fun u av i wr=>∃(k:Nat) (A:Int),k<=l.length/\i=.int .i64 k/\av=.int .i64 A/\Hid (ZcI 0 (l.take k)=A)/\Hid (Zd w.heap.size wr u (Z0 0 (l.take k)))/\Hid (Below w.heap.size w wr)) (fun _ _ i _=>l.length - (intOf i).toNat)
 case atStart=>exact ⟨0,0,by omega,rfl,rfl,hid rfl,H0,hid (Below.refl _ _)⟩
 case round =>
  obtain ⟨k,A,hk,rfl,rfl,HA,F,E⟩:=hrel;clear H0
  by_cases g:k<l.length
  ·have t1:decide ((k:Int)<(l.length:Int))=true:=by simp;omega
   have t2:decide (k<l.length)=true:=Xw g;have t3:(k:Int)<(l.length:Int):=by omega
   obtain ⟨b,off,x,rfl,_,o,H,h,V,hx⟩:=Zad HV.out g;have c:=X.out k g;have f:=r.out k g;rw [HA.out] at c;obtain ⟨t,ht⟩:=Xn (l[k].2.1);rw [ht] at h c f;have B:=(E.out.cell (p:=⟨b,off+k*3+1,none⟩) o).trans h;have I:=E.out.size;have aa:=S.out k;have ad:(l.take k).length<=1000000000:=by rw [Xi];omega
   obtain ⟨O,Z⟩:=i64_in (t - A);have z:(ZaY (IntKind.i64.wrap (t - A))).length<=10:=(Zc _).2;rw [IntWalk.i64_left] at c O Z z;have K1:=hid (fun W=>ZmT (wrap64 (t - A)) W O Z);have R:=hid c;have G:=hid f;have HC:=hid (fun W (hW:Below w.heap.size w W)=>(hW.cell (p:=⟨b,off+k*3+1,none⟩) o).trans h);clear hx ht H V h c f O Z;go_wp2_with fail;refine (K1.out _).mono ?_;rintro e w2 ⟨v2,rfl,d,j⟩;have L:=hid (F.out.keep j);have Y:=hid d.brow;have y:=hid (E.out.trans (j.mono I));have C:=y.out.size;clear d B j;go_wp2_with (at_builtin;refine Zg rfl _ _ rfl w.heap.size _ _ rfl L.out _ _ rfl Y.out (by omega) C ?_)
   intro v3 w3 a q;rw [<- R.out] at a;have U:=hid a;have s:=hid (y.out.trans q);have B:=HC.out w3 s.out;clear a q;go_wp2_with fail;go_roundw
   case rel=>exact ⟨k+1,t,by omega,by go_num,rfl,G,U,s⟩
   case measure=>simp [intOf];omega
  ·obtain rfl:k=l.length:=by omega
   have t1:decide ((l.length:Int)<(l.length:Int))=false:=by simp
   have N:=F.out;rw [m.out] at N;have T:=hid N;clear F N;go_wp2_with fail;go_ret;exact ⟨⟨_,rfl,T.out⟩,E.out⟩
open RowKit MM VM VP VG
open EV (ZA Z8 Zad Zqv)
open GM (Z0 Zhw ZcI Zgn Ziv)
variable {zs:List Int}
def ZaZ:Int->List Zo->List Int
 | _,[]=>[]
 | a,d::r=>wrap64 (d.2.1 - a)::ZaZ d.2.1 r
theorem Zh7:∀(a b:List Zo) (z:Int),ZaZ z (a++b)=ZaZ z a++ZaZ (ZcI z a) b
 | [],b,z=>rfl
 | d::a,b,z=>by rw [XJ,ZaZ,ZaZ,Zh7 a b,ZcI,XJ]
theorem Zrg {l:List Zo} {k:Nat} (a:k<l.length) (z:Int):ZaZ z (l.take (k+1))=ZaZ z (l.take k)++[wrap64 (l[k].2.1 - ZcI z (l.take k))]:=by
 rw [XG a,Zh7,ZaZ,ZaZ]
theorem ZiJ:∀(l:List Zo) (z:Int),(ZaZ z l).length=l.length
 | [],_=>rfl
 | d::l,z=>by rw [ZaZ,Xh,Xh,ZiJ l]
theorem Zm3:∀(l:List Zo) (z:Int),Zce (ZaZ z l)=Z0 z l
 | [],_=>rfl
 | d::l,z=>by
   have e:Zce (ZaZ z (d::l))=ZaY (wrap64 (d.2.1 - z))++Zce (ZaZ d.2.1 l):=by simp [ZaZ,Zce]
   rw [e,Z0,Zm3 l,IntWalk.i64_left]
theorem Zqf (h:∀z∈zs, -9223372036854775808<=z/\z<=9223372036854775807):Fits zs:=fun k a=>by
 have e:zs.getD k 0=zs[k]:=by simp [List.getD,a]
 rw [e];exact h _ (XH a)
theorem ZkX:∀(l:List Zo) (z:Int),∀x∈ZaZ z l, -9223372036854775808<=x/\x<=9223372036854775807
 | d::l,z,x,h=>by
   rw [ZaZ,XS] at h;rcases h with rfl|h
   ·have:=i64_in (d.2.1 - z)
    rwa [IntWalk.i64_left] at this
   ·exact ZkX l d.2.1 x h
theorem Zqy {S:Nat->Prop} {w:World} {v:Value} (h:ZD Zbw S w v zs):Zej w v zs:=Zll (B:=w.heap.size) h fun b a _=>a
theorem ZvX (v:Value) (l:List Zo) (w:World) (O:ZN ZA w v l) (B:l.length<=1000000) :
  Calls prog 81 #[v] w fun e w'=>(∃u,e=.returned u/\Zd w.heap.size w' u (Z0 0 l))/\Below w.heap.size w w':=by
 obtain ⟨p,ah,rfl,ag,S,_⟩:=O.shape;unfold maxLen at S;have HV:=hid O;have x:Hid (ZaZ 0 (l.take l.length)=ZaZ 0 l):=hid (by rw [XC]);have ac:=hid (fun (n:Nat) (B:n<l.length)=>Zrg B 0);have z:=hid (fun (n:Nat) (B:n<l.length)=>Zgn B 0);have V:=hid (fun k=>ZiJ (l.take k) 0);have T:=hid (fun (u:Value) (W:World) (h:Zej W u (ZaZ 0 l))=>ZmP (.slice none 0 0) u [] (ZaZ 0 l) W (Zq.nil_ _) h (Zqf (ZkX l 0)) (by simp) (by rw [ZiJ];exact B));have s:=hid (Zm3 l 0);have H0:Hid (ZbI Zbw 3 w.heap.size w (.slice none 0 0) (ZaZ 0 (l.take 0))):=hid (ZbI.nil_ _ _ _);clear O;go_enter func81,ntmps81;go_wp2_with fail
 go_loopw [3,4,9] (fun u av i wr=>∃(k:Nat) (A:Int),k<=l.length/\i=.int .i64 k/\av=.int .i64 A/\Hid (ZcI 0 (l.take k)=A)/\Hid (ZbI Zbw 3 w.heap.size wr u (ZaZ 0 (l.take k)))/\Hid (Below w.heap.size w wr)) (fun _ _ i _=>l.length - (intOf i).toNat)
 case atStart=>exact ⟨0,0,by omega,rfl,rfl,hid rfl,H0,hid (Below.refl _ _)⟩
 case round =>
  obtain ⟨k,A,hk,rfl,rfl,HA,r,j⟩:=hrel;clear H0
  by_cases f:k<l.length
  ·have t1:decide ((k:Int)<(l.length:Int))=true:=by simp;omega
   have t2:decide (k<l.length)=true:=Xw f;have t3:(k:Int)<(l.length:Int):=by omega
   obtain ⟨b,off,vf,rfl,af,_,c1,c2,c3,J⟩:=Zad (HV.out.below j.out) f;have c:=ac.out k f;have a:=z.out k f;rw [HA.out] at c;obtain ⟨⟨G,⟨t,fs⟩⟩,hd⟩:∃d,l[k]=d:=⟨_,rfl⟩;rw [hd] at c1 c2 J c a;dsimp only at c1 c2 J c a;obtain ⟨F,I,rfl,_⟩:=J.shape;obtain ⟨pu,cu,rfl,_⟩:=ZbI.shape r.out;have T1:=hid (ZaE wr 59 (.int .i64 G) (.int .i64 t) (.slice F fs.length I));have m:Below wr.heap.size wr (wr.alloc (.cells #[.int .i64 G,.int .i64 t,.slice F fs.length I] 59)):=(Below.refl _ _).alloc (Xc _) _;have M:=j.out.size;have aa:=hid (j.out.trans (m.mono M));have R:=hid (r.out.keep m);have ab:=hid (fun g hg=>(ZbI.lt r.out g hg).2);have E:=V.out k;rw [Xi] at E;have ae:(ZaZ 0 (l.take k)).length<=1000000:=by omega
   have U:=hid c;have L:=hid a;have X:Hid (w.heap.size<=(wr.alloc (.cells #[.int .i64 G,.int .i64 t,.slice F fs.length I] 59)).heap.size):=hid (by simp;omega);clear J hd m c a E r j HA;go_wp2_with (at_builtin;go_loud (refine ZgN Zqv rfl _ _ rfl w.heap.size _ (ZaZ 0 (l.take k)) (wr.alloc (.cells #[.int .i64 G,.int .i64 t,.slice F fs.length I] 59)) [.int .i64 (wrap64 (t - A))] (wrap64 (t - A)) rfl rfl R.out rfl (by rw [World.size_alloc];rfl) (by unfold maxLen;omega) (by omega) X.out ?_))
   intro v3 w3 o y C;rw [<- U.out] at o;have Y:=hid o;have N:=hid (aa.out.trans y);have T3:=(T1.out.below ((Below.refl _ _).alloc (Xc _) _) T1.out.lt).keep C (fun e=>by have:=ab.out _ e;omega);obtain ⟨f0,f1,f2⟩:=T3.cells;clear o y C T3 c1 c2 c3;go_wp2_with fail;go_roundw
   case rel=>exact ⟨k+1,t,by omega,by go_num,rfl,L,Y,N⟩
   case measure=>simp [intOf];omega
  ·obtain rfl:k=l.length:=by omega
   have t1:decide ((l.length:Int)<(l.length:Int))=false:=by simp
   have H:=r.out;rw [x.out] at H;have HK:=hid (T.out _ _ (Zqy (ZbI.any H)));obtain ⟨pu,cu,rfl,_⟩:=ZbI.shape H;clear r H;go_wp2_with fail;refine HK.out.mono ?_;rintro e w4 ⟨v4,rfl,q,D⟩;rw [Xz,s.out] at q;have ad:=hid (Zd.weaken q j.out.size);have Z:=hid (j.out.trans (D.mono j.out.size));clear q D HK;go_wp2_with fail;go_ret;exact ⟨⟨_,rfl,ad.out⟩,Z.out⟩
open GM (Zdp ZiN)
theorem Zmr:(prog.info? 65).map (·.size)=some 7:=by kernel_rfl
theorem ZhI {B g:Nat} {a w:World} (b:Array Value) (h:Below B a w) (hg:B<=g):Below B a (w.setRow g b) :=
 h.trans ⟨rfl,rfl,rfl,by simp [World.setRow],fun k hk=>setRow_other _ _ k b (by omega)⟩
theorem Zzm (f0 f1 f i f4:Int) (w:World):Calls prog 67 #[.agg #[.int .i64 0,.int .i64 0,.int .i64 f0,.int .i64 f1,.int .i64 f,.int .i64 i,.int .i64 f4]] w fun e w'=>e=.returned (.agg #[.int .i64 0,.int .i64 0,.int .i64 f0,.int .i64 f1,.int .i64 f,.int .i64 i,.int .i64 f4])/\Below w.heap.size w w':=by
 obtain ⟨X,l⟩:∃X:Array Value,#[.int .i64 0,.int .i64 0,.int .i64 f0,.int .i64 f1,.int .i64 f,.int .i64 i,.int .i64 f4]=X:=⟨_,rfl⟩;have d:X.size=7:=by rw [<- l];rfl
 have j:X.all (·.oneCell')=true:=by rw [<- l];simp [Value.oneCell']
 obtain ⟨c,b⟩:=Xn ((w.alloc (.cells #[.int .i64 0,.int .i64 0,.int .i64 f0,.int .i64 f1,.int .i64 f,.int .i64 i,.int .i64 f4] 86)).alloc (.cells #[.int .i64 0,.int .i64 0,.int .i64 0,.int .i64 0,.int .i64 0,.int .i64 0,.int .i64 0] 65));have k:Below w.heap.size w c:=by rw [<- b];exact ((Below.refl _ _).alloc (Xc _) _).alloc (by simp) _
 have a:c.heap[w.heap.size]? = some (.cells #[.int .i64 0,.int .i64 0,.int .i64 f0,.int .i64 f1,.int .i64 f,.int .i64 i,.int .i64 f4] 86 (0,0)):=by
  rw [<- b];exact (((Below.refl _ _).alloc (Xc _) _).block w.heap.size (by simp)).trans (heap_alloc_new w _)
 have h:c.heap[w.heap.size+1]? = some (.cells #[.int .i64 0,.int .i64 0,.int .i64 0,.int .i64 0,.int .i64 0,.int .i64 0,.int .i64 0] 65 (0,0)):=by
  rw [<- b];have:=heap_alloc_new (w.alloc (.cells #[.int .i64 0,.int .i64 0,.int .i64 f0,.int .i64 f1,.int .i64 f,.int .i64 i,.int .i64 f4] 86)) (.cells #[.int .i64 0,.int .i64 0,.int .i64 0,.int .i64 0,.int .i64 0,.int .i64 0,.int .i64 0] 65);rw [World.size_alloc] at this;exact this
 have c0:c.cell? ⟨w.heap.size,0,none⟩=some (.int .i64 0):=Zh a 0;have c1:c.cell? ⟨w.heap.size,1,none⟩=some (.int .i64 0):=Zh a 1;have c2:c.cell? ⟨w.heap.size,2,none⟩=some (.int .i64 f0):=Zh a 2;have c3:c.cell? ⟨w.heap.size,3,none⟩=some (.int .i64 f1):=Zh a 3;have c4:c.cell? ⟨w.heap.size,4,none⟩=some (.int .i64 f):=Zh a 4;have c5:c.cell? ⟨w.heap.size,5,none⟩=some (.int .i64 i):=Zh a 5;have c6:c.cell? ⟨w.heap.size,6,none⟩=some (.int .i64 f4):=Zh a 6;have hi:(prog.info? 65).map (·.size)=some X.size:=by rw [d];exact Zmr
 have t:=hid (setRow_heap c (w.heap.size+1) _ X _ _ h);have r:=hid (ZhI (g:=w.heap.size+1) X k (by omega));have q:=hid hi;have o:Hid ((#[.int .i64 0,.int .i64 0,.int .i64 0,.int .i64 0,.int .i64 0,.int .i64 0,.int .i64 0]:Array Value).size=X.size):=hid (by rw [d];rfl);have n:=hid j;have s:=hid h;have p:=hid l;have m:=hid b;clear k a h l hi j d b;go_enter func67,ntmps67;go_wp2_with (first|(refine wpList_store_row rfl 65 (.tmp 2) (.tmp 4) rfl (w.heap.size+1) X rfl (by rw [<- p.out];rfl) 65 #[.int .i64 0,.int .i64 0,.int .i64 0,.int .i64 0,.int .i64 0,.int .i64 0,.int .i64 0] s.out q.out o.out n.out ?_)|(rw [m.out]))
 refine bodyPost_ret (v:=.agg X) (results_cell_row rfl _ _ (w.heap.size+1) 65 X (0,0) _ rfl t.out underlying65 rfl q.out) rfl ⟨by rw [p.out],r.out⟩
theorem Zr3 (p:ZiN) (w:World) (h:∀z∈[p.1,p.2.1,p.2.2.1,p.2.2.2.1,(p.2.2.2.2:Int)], -9223372036854775808<=z/\z<=9223372036854775807) :
  Calls prog 84 #[.agg #[.int .i64 0,.int .i64 0,.int .i64 p.1,.int .i64 p.2.1,.int .i64 p.2.2.1,.int .i64 p.2.2.2.1,.int .i64 (p.2.2.2.2:Int)]] w (ZS w.heap.size (Zdp p) w):=by
 obtain ⟨f0,f1,c,n⟩:=p;obtain ⟨d,n⟩:=n;dsimp only at h ⊢;obtain ⟨f4,k⟩:∃z:Int,(n:Int)=z:=⟨_,rfl⟩;have m:Zdp (f0,f1,c,d,n)=Zce [f0,f1,c,d,f4]:=by rw [<- k];simp [Zdp,Zce]
 rw [m];rw [k] at h ⊢;obtain ⟨b,f⟩:=Xn (w.alloc (.cells #[.int .i64 0,.int .i64 0,.int .i64 f0,.int .i64 f1,.int .i64 c,.int .i64 d,.int .i64 f4] 86));have g:Below w.heap.size w b:=by rw [<- f];exact (Below.refl _ _).alloc (Xc _) _
 have a:b.heap[w.heap.size]? = some (.cells #[.int .i64 0,.int .i64 0,.int .i64 f0,.int .i64 f1,.int .i64 c,.int .i64 d,.int .i64 f4] 86 (0,0)):=by rw [<- f];exact heap_alloc_new w _
 have c0:b.cell? ⟨w.heap.size,0,none⟩=some (.int .i64 0):=Zh a 0;have c1:b.cell? ⟨w.heap.size,1,none⟩=some (.int .i64 0):=Zh a 1;have c2:b.cell? ⟨w.heap.size,2,none⟩=some (.int .i64 f0):=Zh a 2;have c3:b.cell? ⟨w.heap.size,3,none⟩=some (.int .i64 f1):=Zh a 3;have c4:b.cell? ⟨w.heap.size,4,none⟩=some (.int .i64 c):=Zh a 4;have c5:b.cell? ⟨w.heap.size,5,none⟩=some (.int .i64 d):=Zh a 5;have c6:b.cell? ⟨w.heap.size,6,none⟩=some (.int .i64 f4):=Zh a 6;have i:=EV.ZxT b [f0,f1,c,d,f4] (by unfold maxLen;simp);have o:Below b.heap.size b (b.alloc (.cells #[.int .i64 f0,.int .i64 f1,.int .i64 c,.int .i64 d,.int .i64 f4] 3)):=(Below.refl _ _).alloc (Xc _) _;have u:=hid (ZmP (.slice none 0 0) (.slice (some ⟨b.heap.size,0,none⟩) 5 5) [] [f0,f1,c,d,f4] (b.alloc (.cells #[.int .i64 f0,.int .i64 f1,.int .i64 c,.int .i64 d,.int .i64 f4] 3)) (Zq.nil_ _) (Zqy i) (Zqf h) (by simp) (by simp));have v:=hid g;have j:=hid (g.trans (o.mono g.size));have r:=hid f;generalize Zce [f0,f1,c,d,f4]=L at *;clear g a f i o h m k;go_enter func84,ntmps84;go_wp2_with (rw [r.out])
 refine u.out.mono ?_;rintro e w4 ⟨v4,rfl,l,q⟩;rw [Xz] at l;have t:=hid (Zd.weaken l j.out.size);have s:=hid (j.out.trans (q.mono j.out.size));clear l q u;go_wp2_with fail;go_ret;exact ⟨_,rfl,t.out,s.out⟩
open RowKit MM
open GM (Zp ZiN)
variable {k:Nat}
theorem ZxP:(prog.info? 86).map (·.size)=some 7:=by kernel_rfl
def Zjc (a:Int) (l:List Zo):Int:=l.foldl (fun m d=>min m d.2.1) a
def Zfd (a:Int) (l:List Zo):Int:=l.foldl (fun m d=>max m d.2.1) a
theorem Zu1 {l:List Zo} (b:k<l.length) (a:Int):Zjc a (l.take (k+1))=min (Zjc a (l.take k)) l[k].2.1:=by
 unfold Zjc;rw [XG b,XaZ];rfl
theorem Zse {l:List Zo} (b:k<l.length) (a:Int):Zfd a (l.take (k+1))=max (Zfd a (l.take k)) l[k].2.1:=by
 unfold Zfd;rw [XG b,XaZ];rfl
theorem Zn3:∀(r:List Zo) (a b c e:Int) (n:Nat),r.foldl GM.ZgH (a,b,c,e,n+1)=(Zjc a r,Zfd b r,c,(r.map (·.1)).getLastD e,n+1+r.length)
 | [],a,b,c,e,n=>rfl
 | d::r,a,b,c,e,n=>by
   have h:GM.ZgH (a,b,c,e,n+1) d=(min a d.2.1,max b d.2.1,c,d.1,n+1+1):=rfl;rw [List.foldl_cons,h,Zn3 r,Xh];have f:n+1+1+r.length=n+1+(r.length+1):=by omega
   rw [f,XF,List.getLastD_cons];rfl
theorem Zqi {l:List Zo} {n:Nat} (h:l.length=n+1):Zp l=(Zjc (l[0]'(by omega)).2.1 l,Zfd (l[0]'(by omega)).2.1 l,(l[0]'(by omega)).1,(l[n]'(by omega)).1,n+1):=by
 match l,h with
 | d::r,h =>
   have a:r.length=n:=by simpa using h
   have b:Zp (d::r)=r.foldl GM.ZgH (d.2.1,d.2.1,d.1,d.1,0+1):=rfl;have f:Zjc d.2.1 (d::r)=Zjc d.2.1 r:=by unfold Zjc;rw [List.foldl_cons,Int.min_self]
   have e:Zfd d.2.1 (d::r)=Zfd d.2.1 r:=by unfold Zfd;rw [List.foldl_cons,Int.max_self]
   have c:(r.map (·.1)).getLastD d.1=((d::r)[n]'(by rw [h];omega)).1:=by
    rw [List.getLastD_eq_getLast?,List.getLast?_eq_getElem?];cases n with
    | zero =>
      have:r=[]:=XO a;subst this;rfl
    | succ n =>
      rw [XE,a,Nat.add_sub_cancel,Xa1,XW (by omega)];rfl
   rw [b,Zn3,Xbc,f,e,c,a];congr 4
   omega
theorem Zmc (v:Value) (l:List Zo) (w:World) (hv:ZN ZA w v l) (h0:l≠[]):Calls prog 53 #[v] w fun e w'=>e=.returned (.agg #[.int .i64 0,.int .i64 0,.int .i64 (Zp l).1,.int .i64 (Zp l).2.1,.int .i64 (Zp l).2.2.1,.int .i64 (Zp l).2.2.2.1,.int .i64 ((Zp l).2.2.2.2:Int)])/\Below w.heap.size w w':=by
 obtain ⟨p,a2,rfl,aH,aL,_⟩:=hv.shape;unfold maxLen at aL;have hn:=Xac.2 h0;obtain ⟨n,D⟩:∃n,l.length=n+1:=⟨l.length - 1,by omega⟩;obtain ⟨f,M⟩:=Xn (w.alloc (.cells #[.int .i64 0,.int .i64 0,.int .i64 0,.int .i64 0,.int .i64 0,.int .i64 0,.int .i64 0] 86));have L:Below w.heap.size w f:=by rw [<- M];exact (Below.refl _ _).alloc (Xc _) _
 obtain ⟨b,off,vf,rfl,a1,_,c1,c2,c3,hf⟩:=Zad (hv.below L) (k:=0) (by omega);obtain ⟨b2,aY,a5,aq,aX,_,e1,e2,e3,H⟩:=Zad (hv.below L) (k:=n) (by omega);simp only [Xv,Addr.mk.injEq,and_true] at aq;obtain ⟨rfl,rfl⟩:=aq;have hF:=Zqi D;have ad:=hid (fun k (hk:k<l.length)=>Zu1 hk (l[0]'(by omega)).2.1);have aa:=hid (fun k (hk:k<l.length)=>Zse hk (l[0]'(by omega)).2.1);have aS:Hid (l.take (n+1)=l):=hid (by rw [<- D,XC]);obtain ⟨⟨j,⟨t,fs⟩⟩,hd⟩:∃d,(l[0]'(by omega))=d:=⟨_,rfl⟩;obtain ⟨⟨c,⟨t2,y⟩⟩,ay⟩:∃d,(l[n]'(by omega))=d:=⟨_,rfl⟩;rw [hd] at c1 c2 hf hF ad aa;rw [ay] at e1 e2 H hF;dsimp only at c1 c2 hf e1 e2 H hF ad aa;obtain ⟨LO,Y⟩:=Xn (Zjc t l);obtain ⟨HI,Z⟩:=Xn (Zfd t l);rw [Y,Z] at hF;rw [hF];dsimp only;have aw:=hid Y;have aC:=hid Z;obtain ⟨pf,cf,rfl,_⟩:=hf.shape;obtain ⟨r,x,rfl,_⟩:=H.shape;rw [Nat.zero_mul,Xah] at c1 c2 c3;have HV:=hid hv.bel;rw [D] at aH HV ⊢;obtain ⟨N,hN⟩:∃N:Int,((n+1:Nat):Int)=N:=⟨_,rfl⟩;have i0:(0:Int)<((n+1:Nat):Int):=by omega
 have i1:IntKind.i64.wrap (((n+1:Nat):Int) - 1)=(n:Int):=by rw [IntWalk.i64_left];rw [IntWalk.wrap64_in _ ⟨by omega,by omega⟩];omega
 have i2:(n:Int)<((n+1:Nat):Int):=by omega
 have ae:f.heap[w.heap.size]? = some (.cells #[.int .i64 0,.int .i64 0,.int .i64 0,.int .i64 0,.int .i64 0,.int .i64 0,.int .i64 0] 86 (0,0)):=by rw [<- M];exact heap_alloc_new _ _
 have aJ:w.heap.size<f.heap.size:=(Xo.1 ae).1;have ai:=hid M;have al:=hid L;have aR:=hid ae;have aM:=hid D;have HN:=hid hN;clear hf H L M h0 hv hF Y Z ae D hd ay hN hn;go_enter func53,ntmps53;go_wp2_with (rw [ai.out])
 go_region
 all_goals (
  first
  | (
    obtain ⟨W,E⟩:=Xn (((f.alloc (.cells #[.int .i64 c,.int .i64 t2,.slice r y.length x] 59)).alloc (.cells #[.int .i64 j,.int .i64 t,.slice pf fs.length cf] 59)).drew);have O:Below f.heap.size f W:=by rw [<- E];exact (((Below.refl _ _).alloc (Xc _) _).alloc (by simp) _).drew
    have C:Three W (f.heap.size+1) 59 (.int .i64 j) (.int .i64 t) (.slice pf fs.length cf):=by
     rw [<- E];have:=ZaE (f.alloc (.cells #[.int .i64 c,.int .i64 t2,.slice r y.length x] 59)) 59 (.int .i64 j) (.int .i64 t) (.slice pf fs.length cf);rw [World.size_alloc] at this;exact this.keep (Zcl (fun _=>True) _) trivial
    have hY:Three W f.heap.size 59 (.int .i64 c) (.int .i64 t2) (.slice r y.length x):=by
     rw [<- E];exact ((ZaE f 59 _ _ _).keep (Zr (fun _=>True) _ _) trivial).keep (Zcl (fun _=>True) _) trivial
    obtain ⟨a3,z⟩:=Xn (f.heap.size+1);rw [E,z];rw [z] at C;obtain ⟨a4,s⟩:=Xn f.heap.size;rw [s];have G:=C;have J:=hY;rw [s] at J;clear E z C hY)
  | (
    obtain ⟨W,E⟩:=Xn (((f.alloc (.cells #[.int .i64 j,.int .i64 t,.slice pf fs.length cf] 59)).alloc (.cells #[.int .i64 c,.int .i64 t2,.slice r y.length x] 59)).drew);have O:Below f.heap.size f W:=by rw [<- E];exact (((Below.refl _ _).alloc (Xc _) _).alloc (by simp) _).drew
    have hY:Three W (f.heap.size+1) 59 (.int .i64 c) (.int .i64 t2) (.slice r y.length x):=by
     rw [<- E];have:=ZaE (f.alloc (.cells #[.int .i64 j,.int .i64 t,.slice pf fs.length cf] 59)) 59 (.int .i64 c) (.int .i64 t2) (.slice r y.length x);rw [World.size_alloc] at this;exact this.keep (Zcl (fun _=>True) _) trivial
    have C:Three W f.heap.size 59 (.int .i64 j) (.int .i64 t) (.slice pf fs.length cf):=by
     rw [<- E];exact ((ZaE f 59 _ _ _).keep (Zr (fun _=>True) _ _) trivial).keep (Zcl (fun _=>True) _) trivial
    obtain ⟨a4,s⟩:=Xn (f.heap.size+1);rw [E,s];rw [s] at hY;obtain ⟨a3,z⟩:=Xn f.heap.size;rw [z];have G:=C;have J:=hY;rw [z] at G;clear E s C hY)
  obtain ⟨x0,x1,x2⟩:=G.cells;obtain ⟨y0,y1,y2⟩:=J.cells;have a7:((n:Int)+1)=N:=by rw [<- HN.out];omega
  have ax:=hid (al.out.trans (O.mono al.out.size));have ag:=hid ((O.block _ aJ).trans aR.out);clear G J O c1 c2 c3 e1 e2 e3 ai;obtain ⟨a,aD⟩:=Xn W.heap.size;obtain ⟨W5,R⟩:=Xn (W.alloc (.cells #[.int .i64 0,.int .i64 0,.int .i64 t,.int .i64 t,.int .i64 j,.int .i64 c,.int .i64 N] 65));have aj:Hid (W5.heap[a]? = some (.cells #[.int .i64 0,.int .i64 0,.int .i64 t,.int .i64 t,.int .i64 j,.int .i64 c,.int .i64 N] 65 (0,0))):=hid (by rw [<- R,<- aD];exact heap_alloc_new _ _);have ah:Below W.heap.size W W5:=by rw [<- R];exact (Below.refl _ _).alloc (Xc _) _
  have ao:=hid (ax.out.trans (ah.mono ax.out.size));have az:=hid ((ah.block _ (Xo.1 ag.out).1).trans ag.out);have aU:Hid (w.heap.size<a):=hid (by rw [<- aD];exact (Xo.1 ag.out).1);have aT:=hid R;clear R ah;go_wp2_with (rw [aT.out])
  have H0:Hid (Zjc t (l.take 0)=t/\Zfd t (l.take 0)=t):=hid ⟨rfl,rfl⟩;have an:Hid (Below w.heap.size w W5):=ao
  go_loopw [32] (fun iv wr=>∃(k:Nat) (lo hi:Int),k<=n+1/\iv=.int .i64 k/\Hid (Zjc t (l.take k)=lo/\Zfd t (l.take k)=hi)/\Hid (wr.heap[a]? = some (.cells #[.int .i64 0,.int .i64 0,.int .i64 lo,.int .i64 hi,.int .i64 j,.int .i64 c,.int .i64 N] 65 (0,0)))/\Hid (wr.heap[w.heap.size]? = some (.cells #[.int .i64 0,.int .i64 0,.int .i64 0,.int .i64 0,.int .i64 0,.int .i64 0,.int .i64 0] 86 (0,0)))/\Hid (Below w.heap.size w wr)) (fun iv _=>n+1 - (intOf iv).toNat)
  case atStart=>exact ⟨0,t,t,by omega,rfl,H0,aj,az,an⟩
  case round =>
   obtain ⟨k,lo,hi,hk,rfl,B,HP,HG,HB⟩:=hrel;clear H0 an aj az ao x0 x1 x2 y0 y1 y2
   by_cases aE:k<n+1
   ·have q1:decide ((k:Int)<((n+1:Nat):Int))=true:=Xt;have q2:decide ((k:Int)<N)=true:=by rw [Xg,<- HN.out];omega
    have q3:decide (k<n+1)=true:=Xt;have q4:(k:Int)<((n+1:Nat):Int):=by omega
    have q5:(k:Int)<N:=by rw [<- HN.out];omega
    have af:k<l.length:=by rw [aM.out];omega
    obtain ⟨bk,ok,vk,am,a6,_,c1,c2,c3,I⟩:=Zad (ZD.keep HV.out (Ziu HB.out) fun _ _ h=>h) af;simp only [Xv,Addr.mk.injEq,and_true] at am;obtain ⟨rfl,rfl⟩:=am;have u:=ad.out k af;have m:=aa.out k af;rw [B.out.1] at u;rw [B.out.2] at m;obtain ⟨⟨sk,⟨F,fk⟩⟩,ak⟩:∃d,l[k]=d:=⟨_,rfl⟩;rw [ak] at c1 c2 I u m;dsimp only at c1 c2 I u m;obtain ⟨pk,ck,rfl,_⟩:=I.shape;obtain ⟨A,ar⟩:=Xn (min lo F);obtain ⟨m2,ap⟩:=Xn (max hi F);rw [ar] at u;rw [ap] at m;have aW:(if F<lo then F else lo)=A:=by rw [<- ar];split<;>omega
    have aZ:(if hi<F then F else hi)=m2:=by rw [<- ap];split<;>omega
    obtain ⟨q,hq⟩:=Xn wr.heap.size;obtain ⟨i,S⟩:=Xn (wr.alloc (.cells #[.int .i64 sk,.int .i64 F,.slice pk fk.length ck] 59));have o:Below wr.heap.size wr i:=by rw [<- S];exact (Below.refl _ _).alloc (Xc _) _
    have au:=(Xo.1 HP.out).1;have a0:=aU.out;have tb:Three i q 59 (.int .i64 sk) (.int .i64 F) (.slice pk fk.length ck):=by rw [<- S,<- hq];exact ZaE wr 59 _ _ _
    have p1:i.heap[a]? = some (.cells #[.int .i64 0,.int .i64 0,.int .i64 lo,.int .i64 hi,.int .i64 j,.int .i64 c,.int .i64 N] 65 (0,0)):=(o.block a au).trans HP.out;have d1:i.cell? ⟨a,2,none⟩=some (.int .i64 lo):=Zh p1 2;have d2:i.frozen? ⟨a,2,none⟩=false:=frozen_of_row i a 2 _ _ p1;have u1:i.cell? ⟨q,1,none⟩=some (.int .i64 F):=tb.c1;have p2:(i.setCell ⟨a,2,none⟩ (.int .i64 A)).heap[a]? = some (.cells #[.int .i64 0,.int .i64 0,.int .i64 A,.int .i64 hi,.int .i64 j,.int .i64 c,.int .i64 N] 65 (0,0)):=heap_setCell_same i a 2 _ _ _ p1;have d3:(i.setCell ⟨a,2,none⟩ (.int .i64 A)).cell? ⟨a,3,none⟩=some (.int .i64 hi):=Zh p2 3;have d4:(i.setCell ⟨a,2,none⟩ (.int .i64 A)).frozen? ⟨a,3,none⟩=false:=frozen_of_row _ a 3 _ _ p2;have V:Kep (fun b=>b≠a) i (i.setCell ⟨a,2,none⟩ (.int .i64 A)):=Zx (fun h=>h rfl) _;have aP:q≠a:=by omega
    have u2:(i.setCell ⟨a,2,none⟩ (.int .i64 A)).cell? ⟨q,1,none⟩=some (.int .i64 F):=(tb.keep V aP).c1;have ab:Kep (fun b=>b≠a) i ((i.setCell ⟨a,2,none⟩ (.int .i64 A)).setCell ⟨a,3,none⟩ (.int .i64 m2)):=V.trans (Zx (fun h=>h rfl) _);have aQ:Hid (((i.setCell ⟨a,2,none⟩ (.int .i64 A)).setCell ⟨a,3,none⟩ (.int .i64 m2)).heap[a]? = some (.cells #[.int .i64 0,.int .i64 0,.int .i64 A,.int .i64 m2,.int .i64 j,.int .i64 c,.int .i64 N] 65 (0,0))):=hid (heap_setCell_same _ a 3 _ _ _ p2);have U:=(Xo.1 HG.out).1;have aN:=hid ((ab.block w.heap.size (by have:=o.size;omega) (by omega)).trans ((o.block _ U).trans HG.out));have aI:=hid ((HB.out.trans (o.mono HB.out.size)).trans (ab.below (Xx HB.out.size o.size) fun b hb=>by omega));have aA:=hid (show Zjc t (l.take (k+1))=A/\Zfd t (l.take (k+1))=m2 from ⟨u,m⟩);have aV:=hid S;clear o S I ak p1 p2 V ab tb u m B HP HG HB au U;go_wp2_with (rw [aV.out])
    go_roundw
    case rel=>exact ⟨k+1,A,m2,by omega,by go_num,aA,aQ,aN,aI⟩
    case measure=>simp [intOf];omega
   ·obtain rfl:k=n+1:=by omega
    have q1:decide (((n+1:Nat):Int)<((n+1:Nat):Int))=false:=by simp
    have q2:decide (((n+1:Nat):Int)<N)=false:=by rw [Xk,<- HN.out];omega
    have aB:=B.out;rw [aS.out,aw.out,aC.out] at aB;obtain ⟨e1,e2⟩:=aB;have T:=HP.out;rw [<- e1,<- e2] at T;clear e1 e2;have c0:wr.cell? ⟨a,0,none⟩=some (.int .i64 0):=Zh T 0;have c1:wr.cell? ⟨a,1,none⟩=some (.int .i64 0):=Zh T 1;have c2:wr.cell? ⟨a,2,none⟩=some (.int .i64 LO):=Zh T 2;have c3:wr.cell? ⟨a,3,none⟩=some (.int .i64 HI):=Zh T 3;have c4:wr.cell? ⟨a,4,none⟩=some (.int .i64 j):=Zh T 4;have c5:wr.cell? ⟨a,5,none⟩=some (.int .i64 c):=Zh T 5;have c6:wr.cell? ⟨a,6,none⟩=some (.int .i64 N):=Zh T 6;obtain ⟨X,C⟩:∃X:Array Value,#[.int .i64 0,.int .i64 0,.int .i64 LO,.int .i64 HI,.int .i64 j,.int .i64 c,.int .i64 N]=X:=⟨_,rfl⟩;have ac:X.size=7:=by rw [<- C];rfl
    have aK:Hid (X.all (·.oneCell')=true):=hid (by rw [<- C];simp [Value.oneCell']);have av:Hid ((prog.info? 86).map (·.size)=some X.size):=hid (by rw [ac];exact ZxP);have aF:=hid (setRow_heap wr w.heap.size _ X _ _ HG.out);have aG:=hid (ZhI (g:=w.heap.size) X HB.out (Xc _));have aO:Hid ((#[.int .i64 0,.int .i64 0,.int .i64 0,.int .i64 0,.int .i64 0,.int .i64 0,.int .i64 0]:Array Value).size=X.size):=hid (by rw [ac];rfl);have HX:=hid C;clear C ac T B HP aE;go_wp2_with (refine wpList_store_row rfl 86 (.tmp 2) (.tmp 52) rfl w.heap.size X rfl (by rw [<- HX.out];rfl) 86 #[.int .i64 0,.int .i64 0,.int .i64 0,.int .i64 0,.int .i64 0,.int .i64 0,.int .i64 0] HG.out av.out aO.out aK.out ?_)
    refine bodyPost_ret (v:=.agg X) (results_cell_row rfl _ _ w.heap.size 86 X (0,0) _ rfl aF.out underlying86 rfl av.out) rfl ⟨by rw [<- HX.out,HN.out],aG.out⟩)
end SG
namespace DT
open RowKit MM DM VM
open EM (Zj Za9 ZaD ZaC Zex)
theorem Zhe {m:Nat} {l:Xu} (o:Bool) (h:(Zk l).2.2=0) (a:(Zk l).1<=m):Ze m l o=((Zk l).1,l.drop (Zk l).2.1,o):=by
 unfold Ze VG.Zab;rw [Xe ⟨h,a⟩,Xe h]
theorem ZbW (m:Nat) (l:Xu) (o:Bool):(Ze m l o).1<=m:=by
 unfold Ze
 split
 ·rename_i h;exact h.2
 ·exact XU _
theorem ZdM {n m:Nat} (h:n<=m) (a:n<18446744073709551616) (r:Xu) (o:Bool):Ze m (Zb n++r) o=(n,r,o):=by
 have e:=ZdW n a r;rw [Zhe o (by rw [e]) (by rw [e];exact h),e];dsimp only;rw [Xau]
theorem ZcJ {m:Nat} {l:Xu} {o:Bool} (h:(Ze m l o).2.2=false):o=false/\Zb (Ze m l o).1++(Ze m l o).2.1=l:=by
 by_cases a:(Zk l).2.2=0/\(Zk l).1<=m
 ·rw [Zhe o a.1 a.2] at h ⊢;exact ⟨h,Zc3 (XaL rfl (XaL rfl a.1))⟩
 ·unfold Ze at h;rw [Xa a] at h;cases h
theorem Zhy {m:Int} {l:Xu} (o:Bool) (h:(ZW l m).2.2=0):Z2 m l o=((ZW l m).1,l.drop (ZW l m).2.1,o):=by
 unfold Z2 VG.Zbd;rw [Xe h,h];simp
theorem ZtW {s:Xu} {m:Int} (h:(s.length:Int)<=m) (hs:s.length<18446744073709551616) (r:Xu) (o:Bool):Z2 m (Z1 s++r) o=(s,r,o):=by
 have e:=Zi4 s hs m h r;rw [Zhy o (by rw [e]),e];dsimp only;rw [Xau]
theorem Zrl {m:Int} {l:Xu} {o:Bool} (h:(Z2 m l o).2.2=false):o=false/\Z1 (Z2 m l o).1++(Z2 m l o).2.1=l:=by
 by_cases a:(ZW l m).2.2=0
 ·rw [Zhy o a] at h ⊢;exact ⟨h,(Zex (XaL rfl (XaL rfl a))).1⟩
 ·unfold Z2 at h;have:((ZW l m).2.2 != 0)=true:=by rw [Xaa];exact a
  rw [this] at h;simp at h
theorem Zps (m:Int) (l:Xu) (o:Bool):((Z2 m l o).1.length:Int)<=max 0 m:=by
 have:(Z2 m l o).1=(ZW l m).1:=rfl;rw [this]
 by_cases a:(ZW l m).2.2=0
 ·exact (Zex (XaL rfl (XaL rfl a))).2.1
 ·unfold ZW at a ⊢
  split
  ·simp;omega
  ·split
   ·simp;omega
   ·split
    ·simp;omega
    ·rename_i c b d;rw [Xa c,Xa b,Xa d] at a;exact absurd rfl a
def okW (x:ZQ):Prop:=x.1.length<=65/\(0<=x.2.1/\x.2.1<=67108864)/\(0<=x.2.2.1/\x.2.2.1<=67108864)/\(0<=x.2.2.2/\x.2.2.2<=67108864)
theorem Zyo {x:ZQ}:okX x=true↔1<=x.1.length/\okW x:=by
 rw [Zfe];unfold okW;constructor
 ·rintro ⟨⟨c,b⟩,a⟩;exact ⟨c,b,a⟩
 ·rintro ⟨c,b,a⟩;exact ⟨⟨c,b⟩,a⟩
def Zdj (a l:Xu) (o:Bool):Xu×Xu×Bool :=
 (a.take (Ze a.length l o).1++(Z2 (65 - ((Ze a.length l o).1:Int)) (Ze a.length l o).2.1 (Ze a.length l o).2.2).1,(Z2 (65 - ((Ze a.length l o).1:Int)) (Ze a.length l o).2.1 (Ze a.length l o).2.2).2)
def ZbU (a l:Xu) (o:Bool):Xu×Bool :=
 if ZJ a (Zdj a l o).1=(Ze a.length l o).1 then (Zdj a l o).2 else ([],true)
def Zct (l:Xu) (o:Bool):(Nat×Nat×Nat)×Xu×Bool :=
 (((Ze 67108864 l o).1,(Ze 67108864 (Ze 67108864 l o).2.1 (Ze 67108864 l o).2.2).1,(Ze 67108864 (Ze 67108864 (Ze 67108864 l o).2.1 (Ze 67108864 l o).2.2).2.1 (Ze 67108864 (Ze 67108864 l o).2.1 (Ze 67108864 l o).2.2).2.2).1),
   (Ze 67108864 (Ze 67108864 (Ze 67108864 l o).2.1 (Ze 67108864 l o).2.2).2.1 (Ze 67108864 (Ze 67108864 l o).2.1 (Ze 67108864 l o).2.2).2.2).2)
def Zci (a l:Xu) (o:Bool):ZQ×Xu×Bool :=
 (((Zdj a l o).1,((Zct (ZbU a l o).1 (ZbU a l o).2).1.1:Int),((Zct (ZbU a l o).1 (ZbU a l o).2).1.2.1:Int),((Zct (ZbU a l o).1 (ZbU a l o).2).1.2.2:Int)),(Zct (ZbU a l o).1 (ZbU a l o).2).2)
theorem Zzp {a b c:Nat} (e:a<=67108864) (f:b<=67108864) (d:c<=67108864) (r:Xu) (o:Bool):Zct (Zb a++(Zb b++(Zb c++r))) o=((a,b,c),r,o):=by
 unfold Zct;rw [ZdM e (by omega)];dsimp only;rw [ZdM f (by omega)];dsimp only;rw [ZdM d (by omega)]
theorem Zv0 {l:Xu} {o:Bool} (h:(Zct l o).2.2=false):o=false/\Zb (Zct l o).1.1++(Zb (Zct l o).1.2.1++(Zb (Zct l o).1.2.2++(Zct l o).2.1))=l:=by
 unfold Zct at h ⊢;dsimp only at h ⊢;obtain ⟨b,a⟩:=ZcJ h;obtain ⟨f,d⟩:=ZcJ b;obtain ⟨e,c⟩:=ZcJ f;refine ⟨e,?_⟩;rw [a,d,c]
theorem ZBG (l:Xu) (o:Bool):(Zct l o).1.1<=67108864/\(Zct l o).1.2.1<=67108864/\(Zct l o).1.2.2<=67108864:=⟨ZbW _ _ _,ZbW _ _ _,ZbW _ _ _⟩
theorem Zzj {a:Xu} (ha:a.length<=65) (l:Xu) (o:Bool):(Zdj a l o).1.length<=65:=by
 unfold Zdj;have h1:=ZbW a.length l o;generalize Ze a.length l o=s at *;have h2:=Zps (65 - (s.1:Int)) s.2.1 s.2.2;dsimp only;rw [Xd,Xi];omega
theorem ZBR {a:Xu} (b:a.length<=65) (l:Xu) (o:Bool):okW (Zci a l o).1:=by
 have h:=ZBG (ZbU a l o).1 (ZbU a l o).2;have h2:=Zzj b l o;unfold Zci okW;dsimp only;omega
theorem ZAm {a:Xu} {x:ZQ} (f:okW x) (ha:a.length<=65) (r:Xu) (o:Bool):Zci a (Zec a x++r) o=(x,r,o):=by
 obtain ⟨h1,h,e,d⟩:=f;have hs:=ZdJ a x.1
 have b:Ze a.length (Zec a x++r) o=(ZJ a x.1,(Z1 (x.1.drop (ZJ a x.1))++(Zb x.2.1.toNat++(Zb x.2.2.1.toNat++(Zb x.2.2.2.toNat++r)))),o):=by
  unfold Zec;simp only [Xl];exact ZdM hs.1 (by omega) _ _
 have c:Zdj a (Zec a x++r) o=(x.1,(Zb x.2.1.toNat++(Zb x.2.2.1.toNat++(Zb x.2.2.2.toNat++r))),o):=by
  unfold Zdj;rw [b];dsimp only;rw [ZtW (by rw [Xj];omega) (by rw [Xj];omega)];dsimp only;rw [ZgB,X6]
 have g:ZbU a (Zec a x++r) o=((Zb x.2.1.toNat++(Zb x.2.2.1.toNat++(Zb x.2.2.2.toNat++r))),o):=by
  unfold ZbU;rw [b,c];dsimp only;rw [Xe rfl]
 unfold Zci;rw [g,c];dsimp only;rw [Zzp (by omega) (by omega) (by omega)];obtain ⟨t,p,m,n⟩:=x;dsimp only at h e d ⊢;rw [show ((p.toNat:Nat):Int)=p by omega,show ((m.toNat:Nat):Int)=m by omega,show ((n.toNat:Nat):Int)=n by omega]
theorem Zxj {a l:Xu} {o:Bool} (h:(Zci a l o).2.2=false):o=false/\Zec a (Zci a l o).1++(Zci a l o).2.1=l:=by
 have d:(Zct (ZbU a l o).1 (ZbU a l o).2).2.2=false:=h;obtain ⟨b,c⟩:=Zv0 d;unfold ZbU at b
 by_cases hs:ZJ a (Zdj a l o).1=(Ze a.length l o).1
 ·rw [Xe hs] at b;have i:ZbU a l o=(Zdj a l o).2:=by unfold ZbU;rw [Xe hs]
  obtain ⟨k,j⟩:=Zrl (show (Z2 (65 - ((Ze a.length l o).1:Int)) (Ze a.length l o).2.1 (Ze a.length l o).2.2).2.2=false from b);obtain ⟨g,e⟩:=ZcJ k;refine ⟨g,?_⟩;unfold Zec Zci;dsimp only;rw [hs];simp only [Xl,XT];rw [c,i]
  have f:(Zdj a l o).1.drop (Ze a.length l o).1=(Z2 (65 - ((Ze a.length l o).1:Int)) (Ze a.length l o).2.1 (Ze a.length l o).2.2).1:=by
   unfold Zdj;dsimp only;have:=ZbW a.length l o;rw [List.drop_append,XaH (by rw [Xi];omega),Xz,Xi,Xao this,Xas,Xap]
  rw [f];rw [show (Zdj a l o).2.1=(Z2 (65 - ((Ze a.length l o).1:Int)) (Ze a.length l o).2.1 (Ze a.length l o).2.2).2.1 from rfl,j,e]
 ·rw [Xa hs] at b;cases b
def ZaO:Nat->Xu->List ZQ->Xu->Bool->List ZQ×Xu×Bool
 | 0,_,acc,l,o=>(acc,l,o)
 | f+1,a,acc,l,o=>if l=[] then (acc,l,o) else ZaO f (Zci a l o).1.1 (acc++[(Zci a l o).1]) (Zci a l o).2.1 (Zci a l o).2.2
theorem Zxi (a:Xu) (x:ZQ):Zec a x≠[]:=fun h=>by
 have b:=(Zc (ZJ a x.1)).1;have:=Xp List.length h;unfold Zec at this;simp at this;rw [this.1] at b;simp at b
theorem Zl7:∀(l:List ZQ) (f:Nat) (a:Xu) (acc:List ZQ) (o:Bool),(∀x∈l,okW x)->a.length<=65->l.length<=f->ZaO f a acc (ZE a l) o=(acc++l,[],o)
 | [],0,a,acc,o,_,_,_=>by simp [ZaO,ZE]
 | [],f+1,a,acc,o,_,_,_=>by simp [ZaO,ZE]
 | x::l,0,a,acc,o,_,_,h=>by simp at h
 | x::l,f+1,a,acc,o,h,ha,hf=>by
   have b:=h x (by simp);rw [ZaO,ZE,Xa (fun e=>Zxi a x (List.append_eq_nil_iff.1 e).1),ZAm b ha];dsimp only;rw [Zl7 l f x.1 (acc++[x]) o (fun y c=>h y (by simp [c])) b.1 (by simpa using hf),Xl];rfl
theorem ZjU:∀(f:Nat) (a:Xu) (acc:List ZQ) (l:Xu) (o:Bool),a.length<=65->(ZaO f a acc l o).2.1=[]->(ZaO f a acc l o).2.2=false ->
  o=false/\∃m,(ZaO f a acc l o).1=acc++m/\ZE a m=l/\m.length<=f/\∀x∈m,okW x
 | 0,a,acc,l,o,ha,h1,h2=>by
   rw [ZaO] at h1 h2 ⊢;exact ⟨h2,[],by simp,by rw [show l=[] from h1];rfl,by simp,by simp⟩
 | f+1,a,acc,l,o,ha,h1,h2=>by
   rw [ZaO] at h1 h2 ⊢
   by_cases c:l=[]
   ·rw [Xe c] at h1 h2 ⊢;exact ⟨h2,[],by simp,by rw [c];rfl,by simp,by simp⟩
   ·rw [Xa c] at h1 h2 ⊢;have d:=ZBR ha l o;obtain ⟨n,m,e,j,k,g⟩:=ZjU f _ _ _ _ d.1 h1 h2;obtain ⟨i,h⟩:=Zxj n;refine ⟨i,(Zci a l o).1::m,by rw [e];simp,by rw [ZE,j,h],by simpa using k,fun x b => ?_⟩;rcases XS.1 b with rfl|b
    ·exact d
    ·exact g x b
def Za6:Xu->List ZQ->Bool
 | _,[]=>true
 | t,x::r=>Zj t x.1&&Za6 x.1 r
theorem Zx1 {t:Xu} (h:1<=t.length):Zj [] t=true:=by
 cases t with
 | nil=>simp at h
 | cons a t=>rfl
theorem Zx2 {t u:Xu} (h:Zj t u=true):1<=u.length:=by
 cases u with
 | nil=>cases t<;>simp [Zj] at h
 | cons a u=>simp
theorem ZjJ:∀(l:List ZQ) (t:Xu),Zf2 (some t) l=true↔(∀x∈l,okW x)/\Za6 t l=true
 | [],t=>by simp [Zf2,Za6]
 | x::r,t=>by
   rw [Zds,Za6,Xy,Xy,Xy,ZjJ r x.1,Zyo];simp only [XS,forall_eq_or_imp];constructor
   ·rintro ⟨⟨⟨_,c⟩,a⟩,b,d⟩;exact ⟨⟨c,b⟩,a,d⟩
   ·rintro ⟨⟨c,b⟩,a,d⟩;exact ⟨⟨⟨Zx2 a,c⟩,a⟩,b,d⟩
theorem ZhH (l:List ZQ):Zf2 none l=true↔(∀x∈l,okW x)/\Za6 [] l=true:=by
 rw [<- ZjJ];cases l with
 | nil=>simp [Zf2]
 | cons x r =>
   rw [Zds,Zds]
   by_cases h:okX x=true
   ·have a:ZmU (some []) x.1=true:=Zx1 (Zyo.1 h).1;rw [a];rfl
   ·have:okX x=false:=by simpa using h
    rw [this];simp
theorem Zke:∀(l m:List ZQ) (t:Xu),Za6 t (l++m)=(Za6 t l&&Za6 ((l.getLast?.map (·.1)).getD t) m)
 | [],m,t=>by simp [Za6]
 | x::l,m,t=>by
   rw [XJ,Za6,Za6,Zke l m x.1,Xbh];cases l<;>simp [List.getLast?_cons]
def ZH (l:List ZQ):List (List ZQ):=(List.range (Zu l)).map (ZB l)
def Ze6 (c:List ZQ):Xu:=Z1 (ZE [] c)
theorem Zg0 (l:List ZQ):ZbJ l=Zb l.length++(ZH l).flatMap Ze6:=by
 unfold ZbJ ZbS ZH;rw [Xap,List.flatMap_map];rfl
theorem Zcu:ZH []=[]:=rfl
theorem Zh3 {c m:List ZQ} (h0:0<c.length) (h:c.length=16\/(c.length<=16/\m=[])):ZH (c++m)=c::ZH m:=by
 have a:Zu (c++m)=Zu m+1:=by
  unfold Zu;rw [Xd];rcases h with h|⟨h,rfl⟩
  ·omega
  ·simp only [Xm];omega
 unfold ZH;rw [a,List.range_succ_eq_map,XF,List.map_map]
 have d:ZB (c++m) 0=c:=by
  unfold ZB;rw [XaY,Xap];rcases h with h|⟨h,rfl⟩
  ·rw [<- h,Xbk]
  ·rw [XI,XM h]
 rw [d];congr 1
 apply List.map_congr_left;intro j b
 show ZB (c++m) (j+1)=ZB m j
 unfold ZB;rcases h with h|⟨h,rfl⟩
 ·rw [show 16*(j+1)=16+16*j by omega,<- h,<- XaM,Xau]
 ·simp [Zu] at b
theorem ZoX (l:List ZQ):(ZH l).length=Zu l:=by simp [ZH]
theorem ZpV {l:List ZQ} {j:Nat} (h:j<(ZH l).length):(ZH l)[j]=ZB l j:=by simp [ZH]
theorem Zcg (l:List ZQ) (j:Nat):(ZB l j).length=min 16 (l.length - 16*j):=by unfold ZB;rw [Xi,Xj]
theorem ZpT {l:List ZQ} {j k:Nat} (h:k<(ZB l j).length):(ZB l j)[k]=l[16*j+k]'(by rw [Zcg] at h;omega):=by
 simp [ZB]
def ZcI (t:Xu) (l:List ZQ):Xu:=(l.getLast?.map (·.1)).getD t
def ZlK (n at_:Nat) (a:Xu) (e:List ZQ×Xu×Bool):Bool := !e.2.2&&(decide (e.2.1=[])&&(decide (e.1.length=min 16 (n - at_))&&Za6 a e.1))
def ZaA:Nat->Nat->Nat->Xu->List (List ZQ)->Xu->Bool->Option (List (List ZQ)×Xu×Bool)
 | 0,_,_,_,acc,l,o=>some (acc,l,o)
 | f+1,n,at_,last,acc,l,o =>
   if at_<n then
    if ZlK n at_ last (ZaO 16 [] [] (Z2 l.length l o).1 false)=true then
     ZaA f n (at_+16) (ZcI last (ZaO 16 [] [] (Z2 l.length l o).1 false).1) (acc++[(ZaO 16 [] [] (Z2 l.length l o).1 false).1]) (Z2 l.length l o).2.1 (Z2 l.length l o).2.2
    else none
   else some (acc,l,o)
theorem ZnA {n at_:Nat} {a:Xu} {e:List ZQ×Xu×Bool}:ZlK n at_ a e=true↔e.2.2=false/\e.2.1=[]/\e.1.length=min 16 (n - at_)/\Za6 a e.1=true:=by
 unfold ZlK;rw [Xy,Xy,Xy,Xg,Xg];simp
theorem ZlV:∀(f:Nat) (m:List ZQ) (n at_:Nat) (a:Xu) (acc:List (List ZQ)) (o:Bool),m.length=n - at_->n<=at_+16*f->(∀x∈m,okW x)->Za6 a m=true ->
  ZaA f n at_ a acc ((ZH m).flatMap Ze6) o=some (acc++ZH m,[],o)
 | 0,m,n,at_,a,acc,o,hl,hf,hw,hr=>by
   have:m=[]:=XO (by omega);subst this;simp [ZaA,Zcu]
 | f+1,m,n,at_,a,acc,o,hl,hf,hw,hr=>by
   rw [ZaA]
   by_cases h:at_<n
   ·rw [Xe h];have j:m.take 16++m.drop 16=m:=X6 _ _;have d:(m.take 16).length=min 16 (n - at_):=by rw [Xi,hl]
    have c:∀x∈m.take 16,okW x:=fun x g=>hw x (Xaq g);have e:∀x∈m.drop 16,okW x:=fun x g=>hw x (XaX g)
    have i:ZH m=m.take 16::ZH (m.drop 16):=by
     conv=>lhs;rw [<- j]
     refine Zh3 (by omega) ?_
     by_cases p:16<=m.length
     ·left;rw [Xi];omega
     ·right;exact ⟨by omega,XaH (by omega)⟩
    rw [<- j,Zke,Xy] at hr
    have q:(ZE [] (m.take 16)).length<=1840+100000:=by
     by_cases b:∀x∈m.take 16,okX x=true
     ·have:=ZbQ (m.take 16) [] b;rw [d] at this;omega
     ·exfalso;exact b ((ZlI ((ZjJ _ _).2 ⟨c,hr.1⟩)))
    rw [i,XaQ]
    have l:Z2 (((Ze6 (m.take 16)++(ZH (m.drop 16)).flatMap Ze6).length:Nat):Int) (Ze6 (m.take 16)++(ZH (m.drop 16)).flatMap Ze6) o=(ZE [] (m.take 16),(ZH (m.drop 16)).flatMap Ze6,o):=by
     unfold Ze6;refine ZtW ?_ (by omega) _ _;unfold Z1;simp only [Xd];omega
    have k:=Zl7 (m.take 16) 16 [] [] false c (by simp) (by omega);rw [l];dsimp only;rw [k,Xe (ZnA.2 ⟨rfl,rfl,by simpa using d,by simpa using hr.1⟩)];dsimp only;rw [Xz];have:=ZlV f (m.drop 16) n (at_+16) (ZcI a (m.take 16)) (acc++[m.take 16]) o (by rw [Xj,hl];omega) (by omega) e hr.2;rw [this];simp
   ·rw [Xa h];have:m=[]:=XO (by omega);subst this;simp [Zcu]
theorem Zky:∀(f n at_:Nat) (a:Xu) (acc b:List (List ZQ)) (l:Xu) (o:Bool),n<=at_+16*f->ZaA f n at_ a acc l o=some (b,[],false) ->
  o=false/\∃m,b=acc++ZH m/\m.length=n - at_/\(ZH m).flatMap Ze6=l/\(∀x∈m,okW x)/\Za6 a m=true
 | 0,n,at_,a,acc,b,l,o,hf,h=>by
   rw [ZaA] at h;simp only [Xv,X8] at h;obtain ⟨rfl,rfl,rfl⟩:=h;exact ⟨rfl,[],by simp [Zcu],by simp;omega,by simp [Zcu],by simp,rfl⟩
 | f+1,n,at_,a,acc,b,l,o,hf,h=>by
   rw [ZaA] at h
   by_cases d:at_<n
   ·rw [Xe d] at h
    by_cases i:ZlK n at_ a (ZaO 16 [] [] (Z2 l.length l o).1 false)=true
    ·rw [Xe i] at h;obtain ⟨z,s,j,k⟩:=ZnA.1 i;obtain ⟨_,c,c1,c2,c3,B⟩:=ZjU 16 [] [] (Z2 l.length l o).1 false (by simp) s z;rw [Xz] at c1;rw [c1] at h j k;obtain ⟨w,m,r,v,y,p,A⟩:=Zky f n (at_+16) _ _ _ _ _ (by omega) h;obtain ⟨t,u⟩:=Zrl w
     have e:ZH (c++m)=c::ZH m:=by
      refine Zh3 (by omega) ?_
      by_cases q:16<=n - at_
      ·left;omega
      ·right;exact ⟨by omega,XO (by omega)⟩
     refine ⟨t,c++m,?_,?_,?_,?_,?_⟩
     ·rw [r,e];simp
     ·rw [Xd,j,v];omega
     ·rw [e,XaQ,y];unfold Ze6;rw [c2,u]
     ·intro x g;rcases Xak.1 g with g|g
      ·exact B x g
      ·exact p x g
     ·rw [Zke,k];exact A
    ·rw [Xa i] at h;cases h
   ·rw [Xa d] at h;simp only [Xv,X8] at h;obtain ⟨rfl,rfl,rfl⟩:=h;exact ⟨rfl,[],by simp [Zcu],by simp;omega,by simp [Zcu],by simp,rfl⟩
def Zhh (b:Xu):Option (Nat×List (List ZQ)) :=
 match ZaA 16384 (Ze 262144 b false).1 0 [] [] (Ze 262144 b false).2.1 (Ze 262144 b false).2.2 with
 | none=>none
 | some (cs,l,o)=>if o=true\/l≠[] then none else some ((Ze 262144 b false).1,cs)
theorem Zjj {l:List ZQ} (h:Zb7 l=true):Zhh (ZbJ l)=some (l.length,ZH l):=by
 unfold Zb7 at h;rw [Xy,Xg,ZhH] at h;unfold Zhh;rw [Zg0,ZdM h.1 (by omega)];dsimp only;rw [ZlV 16384 l l.length 0 [] [] false (by omega) (by omega) h.2.1 h.2.2];simp
theorem Zvh {b:Xu} {n:Nat} {i:List (List ZQ)} (h:Zhh b=some (n,i)):∃l,Zb7 l=true/\ZbJ l=b/\n=l.length/\i=ZH l:=by
 have q:=ZbW 262144 b false;have f:=@ZcJ 262144 b false;unfold Zhh at h;generalize Ze 262144 b false=s at *;cases hc:ZaA 16384 s.1 0 [] [] s.2.1 s.2.2 with
 | none=>rw [hc] at h;cases h
 | some p =>
   obtain ⟨d,j,g⟩:=p;rw [hc] at h;dsimp only at h
   by_cases c:g=true\/j≠[]
   ·rw [Xe c] at h;cases h
   ·rw [Xa c] at h;have v:g=false:=by simpa using fun e=>c (.inl e)
    have t:j=[]:=Xar fun e=>c (.inr e);subst v t;obtain ⟨k,m,u,k3,w,r,o⟩:=Zky 16384 s.1 0 [] [] d s.2.1 s.2.2 (by omega) hc;obtain ⟨_,e⟩:=f k;simp only [Xv,X8] at h;have a:m.length=s.1:=by omega
    refine ⟨m,?_,?_,by rw [<- h.1,a],by rw [<- h.2,u];rfl⟩
    ·unfold Zb7;rw [Xy,Xg,ZhH];exact ⟨by omega,r,o⟩
    ·rw [Zg0,a,w];exact e
theorem Zyv (b:Xu):Zhh b=(Zng b).map fun l=>(l.length,ZH l):=by
 cases h:Zhh b with
 | some p =>
   obtain ⟨n,cs⟩:=p;obtain ⟨l,a,c,e,d⟩:=Zvh h;rw [Zw0.2 ⟨a,c⟩,e,d];rfl
 | none =>
   cases hd:Zng b with
   | none=>rfl
   | some l =>
     obtain ⟨a,c⟩:=ZnK hd;rw [<- c,Zjj a] at h;cases h
end DT
namespace ST
open RowKit MM DM VM VP GB
theorem Zaz (n:Nat):Zb n≠[]:=fun h=>by
 have:=Zc n;rw [h] at this;simp at this
theorem Zcq (v:Value) (l:Xu) (n:Int) (w:World) (B:0<=n) (h1:n<=9223372036854775807) (a:Zd 0 w v l) (x:l.length<=1000000000000) :
  Calls prog 87 #[v,.int .i64 n] w (Zlp (l++Zb n.toNat) v w):=by
 obtain ⟨m,rfl⟩:=XaK B;rw [XT];have b:=VP.ZcX m w (by omega);have j:=Zc m;have d:=Zaz m;obtain ⟨M,y⟩:=Xn (Zb m);rw [y] at b j d ⊢;have z:=hid b;have u:=hid a;have r:=hid d;have hw:IntKind.u64.wrap (m:Int)=(m:Int):=by rw [IntKind.wrap_u64];omega
 obtain ⟨p,A,rfl,_⟩:=(Zd.brow a).shape;clear b a y d;go_enter func87,ntmps87;go_wp2_with fail;refine z.out.mono ?_;rintro e w1 ⟨v1,rfl,f,c⟩;have o:=hid (u.out.keep c);have t:=hid (Zd.brow f);have s:=hid c;have i:=hid (Zaw u.out);obtain ⟨p1,c1,rfl,_⟩:=(Zd.brow f).shape;clear f c z;go_wp2_with (at_builtin;refine Zl rfl _ _ rfl _ l rfl o.out _ M rfl t.out r.out (by omega) ?_)
 intro v2 w2 g h;have q:=hid g;have k:=hid (h.of_below s.out i.out);clear g h;go_wp2_with fail;go_ret;exact ⟨_,rfl,q.out,k.out⟩
def Zlt (B:Nat) (o:Option (Nat×Xu)) (w:World) (e:Ending) (w':World):Prop :=
 ∃v',e=.returned (.tuple #[.int .i64 ((o.map (·.1)).getD 0:Nat),v',.bool o.isSome])/\Z3 B w' v' ((o.map (·.2)).getD [])/\Below w.heap.size w w'
theorem Zq4 (B:Nat) (v:Value) (l:Xu) (a:Nat) (w:World) (m:Z3 B w v l) (y:B<=w.heap.size) (hm:a<=4611686018427387904):Calls prog 109 #[v,.int .i64 (a:Int)] w (Zlt B (Zc8 l a) w):=by
 have p:=VG.Zfj B v l w m y;have hb:=(ZaN l).1;have k:(Zk l).2.2=0->VG.Zab l=l.drop (Zk l).2.1:=fun h=>by unfold VG.Zab;exact Xe h
 have hu:IntKind.u64.wrap (a:Int)=(a:Int):=by rw [IntKind.wrap_u64];omega
 unfold Zc8;generalize (Zk l).1=n at *;generalize (Zk l).2.2=q at *;generalize l.drop (Zk l).2.1=d at *;generalize VG.Zab l=R at *;have f:=hid p;clear p m
 by_cases j:q=0
 ·subst j;have x:=k rfl;subst x
  by_cases g:a<n
  ·have o:decide ((n:Int)>(a:Int))=true:=Xt;have u:decide (a<n)=true:=Xw g;rw [Xe (.inr g)];clear g;go_enter func109,ntmps109;go_wp2_with fail;refine f.out.mono ?_;rintro e r ⟨s,rfl,b,c⟩;have i:=hid c;clear b c f;go_wp2_with fail
   go_ret3
   exact ⟨_,rfl,Z3.nil_ _ _,i.out⟩
  ·have o:decide ((n:Int)>(a:Int))=false:=Xf;have u:decide (a<n)=false:=XB g;have t3:IntKind.i64.wrap (n:Int)=(n:Int):=by rw [IntKind.wrap_i64];omega
   rw [Xa (fun h=>h.elim (fun h=>h rfl) g)];clear g;go_enter func109,ntmps109;go_wp2_with fail;refine f.out.mono ?_;rintro e r ⟨s,rfl,b,c⟩;have i:=hid c;have t:=hid b;clear b c f;go_wp2_with fail
   go_ret3
   exact ⟨_,rfl,t.out,i.out⟩
 ·have o:(q != 0)=true:=by rw [Xaa];exact j
  rw [Xe (.inl j)];clear j;go_enter func109,ntmps109;go_wp2_with fail;refine f.out.mono ?_;rintro e r ⟨s,rfl,b,c⟩;have i:=hid c;clear b c f;go_wp2_with fail
  go_ret3
  exact ⟨_,rfl,Z3.nil_ _ _,i.out⟩
theorem Zn8 {l r:Xu} {m n:Nat} (h:Zc8 l m=some (n,r)):n<=m:=by
 unfold Zc8 at h
 split at h
 ·cases h
 ·rename_i h1;simp only [Xv,X8] at h;omega
end ST
namespace EV
open RowKit MM EM VM GB
open VP
theorem Zaz (n:Nat):Zb n≠[]:=by
 intro h;have:=(Zc n).1;rw [h] at this;simp at this
theorem ZAF (z:Int):ZaY z≠[]:=Zaz _
theorem ZfZ (s:Xu):Z1 s≠[]:=by
 intro h;have:=(ZdL s).2;rw [h] at this;simp at this
theorem Zqw (z:Int):(ZaY z).length<=10:=(Zc _).2
theorem ZlO (w:World):Zq w (.slice none 0 0) []:=Z3.nil_ _ w
theorem Zon (t:Xu) (ht:t.length<=4096) (W:World):Calls prog 199 #[.slice none 0 0,.string ⟨t.toArray⟩] W (ZS W.heap.size (Z1 t) W):=by
 have h:=Zho (.slice none 0 0) [] ⟨t.toArray⟩ W (ZlO _) (by rw [Zbh];simp;omega);rw [Xz,Zd7] at h;exact h
theorem ZuQ {α:Type} {C:Codec α} {w w':World} {v v' u:Value} {a:List α} (h:ZD C (fun b=>v.ownBlock≠some b) w u a) (c:Grown w w' v v'):ZD C (fun b=>v.ownBlock≠some b) w' u a:=h.keep c.kep fun _ _ h=>h
theorem fits (m:Nat) (L:Xu) (fs:List Fld) (z:Int) (d:fs.length<=16) (i:∀f∈fs,f.1.length<=4096/\f.2.length<=4096) (hl:L.length<=1000000000):∀k,(L++ZaY z++Zb m++ZK (fs.take k)).length<=1001000000:=fun k=>by
 have c:=Zqw z;have l:=(Zc m).2;have h3:=Zih (fs.take k)
 have h4:Zao (fs.take k)<=8192*(fs.take k).length:=by
  have:∀a:List Fld,(∀f∈a,f.1.length<=4096/\f.2.length<=4096)->Zao a<=8192*a.length:=by
   intro a
   induction a with
   | nil=>simp [Zao]
   | cons f r ih =>
     intro h;have c:=h f (by simp);have l:=ih fun g b=>h g (by simp [b]);have e:Zao (f::r)=f.1.length+f.2.length+Zao r:=by simp [Zao]
     rw [e,Xh];omega
  exact this _ fun f j=>i f (Xaq j)
 have h5:(fs.take k).length<=fs.length:=XaU _ _;simp only [Xd];omega
theorem ZwF (v:Value) (l:Xu) (z:Int) (u:Value) (fs:List Fld) (w:World) (c:Zd 0 w v l) (hr:ZD Z8 (fun b=>v.ownBlock≠some b) w u fs) (h0 : -9223372036854775808<=z) (h1:z<=9223372036854775807) (aA:fs.length<=16) (hx:∀f∈fs,f.1.length<=4096/\f.2.length<=4096) (hl:l.length<=1000000000) :
  Calls prog 244 #[v,.agg #[.int .i64 z,u]] w (Zlp (l++ZZ (z,fs)) v w):=by
 obtain ⟨p,Z,rfl,aP,aH,_⟩:=hr.shape;unfold maxLen at aH;have ay:=ZbB w z (.slice p fs.length Z);have HP:=hid (ZsB (.slice none 0 0) [] z (Za1 w z (.slice p fs.length Z)) h0 h1 (ZlO _) (by simp));have E:=hid (fits fs.length l fs z aA hx hl);have HX:=hid hx;have HO:=hid c;have HR:=hid hr;have ax:=hid (Zaw c);have X:=hid ay;have aq:Hid (l++ZaY z++Zb fs.length++ZK (fs.take fs.length)=l++ZZ (z,fs)):=hid (by rw [XC];unfold ZZ;simp);clear c hr hx hl ay;go_enter func244,ntmps244;go_wp2_with fail;refine HP.out.mono ?_;rintro e w1 ⟨v1,rfl,H,q⟩;rw [Xz] at H;have n:Below w.heap.size w w1:=X.out.trans (q.mono X.out.size);have j:w.heap.size<w1.heap.size:=by have:=q.size;rw [ZbZ] at this;omega
 have x:=hid (HO.out.keep n);have ah:=hid H;have aG:=hid (ZcR q);have aD:=hid n;have aR:=hid (Zqw z);have az:v.ownBlock≠some w.heap.size:=fun e=>absurd (ax.out _ e) (Xbl _);clear H q n HP;go_wp2_with (at_builtin;go_loud (refine Zl rfl _ _ rfl v l rfl x.out _ (ZaY z) rfl ah.out.brow (ZAF z) (by have:=E.out 0;simp only [Xd] at this;omega) ?_;intro v2 w2 aj i;have d1:=(i.kep.cell j az 1).trans aG.out.2.1;have y:w.heap.size<w2.heap.size:=XK j i.1.size;have ad:v2.ownBlock≠some w.heap.size:=fun e=>(i.2 _ e).elim az fun h=>absurd j (Nat.not_lt.2 h);have av:=hid aj;have ag:=hid (Grown.of_below aD.out i ax.out);clear aj i))
 have HQ:=hid (Zdg (.slice none 0 0) [] fs.length w2 (by omega) (ZlO _) (by simp));refine HQ.out.mono ?_;rintro e w3 ⟨v3,rfl,N,m⟩;rw [Xz] at N;have aw:=hid N;have A:=hid (av.out.keep m);have e1:=(m.cell (p:=⟨w.heap.size,1,none⟩) y).trans d1;have al:=hid (Grown.below ag.out m);have ab:w.heap.size<w3.heap.size:=XK y m.size;clear N m HQ d1;go_wp2_with (at_builtin;go_loud (refine Zl rfl _ _ rfl v2 (l++ZaY z) rfl A.out _ (Zb fs.length) rfl aw.out.brow (Zaz _) (by have:=E.out 0;simp only [Xd] at this;simp only [Xd];omega) ?_;intro v4 w4 V O;have d1:=(O.kep.cell ab ad 1).trans e1;have an:Hid (Zd 0 w4 v4 (l++ZaY z++Zb fs.length++ZK (fs.take 0))):=hid (by rw [show l++ZaY z++Zb fs.length++ZK (fs.take 0)=l++ZaY z++Zb fs.length by simp [EM.ZK]];exact V);have ak:=hid (al.out.trans O);clear V O))
 go_loopw [0,22] (fun bv iv wr=>∃k:Nat,k<=fs.length/\iv=.int .i64 k/\Hid (Zd 0 wr bv (l++ZaY z++Zb fs.length++ZK (fs.take k)))/\Hid (Grown w wr v bv)) (fun _ iv _=>fs.length - (intOf iv).toNat)
 case atStart=>exact ⟨0,by omega,rfl,an,ak⟩
 case round =>
  obtain ⟨k,hk,rfl,HOk,o⟩:=hrel;clear an ak A aw al av ag x ah d1 e1
  by_cases a:k<fs.length
  ·have q1:decide ((k:Int)<(fs.length:Int))=true:=Xt;have q2:decide (k<fs.length)=true:=Xt;have q3:(k:Int)<(fs.length:Int):=by omega
   obtain ⟨b,off,rfl,aO,aQ,c1,c2⟩:=ZeR (ZuQ HR.out o.out) a;have U:=HX.out fs[k] (XH a);have B:=Zku a;have g:=E.out (k+1);rw [B] at g;generalize fs[k].1=M at *;generalize fs[k].2=R at *;have F:l++ZaY z++Zb fs.length++ZK (fs.take (k+1))=l++ZaY z++Zb fs.length++ZK (fs.take k)++Z1 M++Z1 R:=by rw [B];simp
   obtain ⟨L,hL⟩:=Xn (l++ZaY z++Zb fs.length++ZK (fs.take k));have s:(L++Z1 M++Z1 R).length<=1001000000:=by rw [<- hL];rw [<- Xl] at g;rw [<- Xl] at g;exact g
   rw [hL] at F;have t:=HOk.out;rw [hL] at t;have ap:=hid t;have aK:=hid F;have af:=hid (fun W=>Zon M U.1 W);have Y:=hid (fun W=>Zon R U.2 W);have aB:=hid a;have aC:=hid (Zaw t);clear B g hL t F HOk a;go_wp2_with fail;have J:Below wr.heap.size wr (wr.alloc (.cells #[.string ⟨M.toArray⟩,.string ⟨R.toArray⟩] 123)):=(Below.refl _ _).alloc (Xc _) _;have am:=(ZhR wr (.string ⟨M.toArray⟩) (.string ⟨R.toArray⟩) 123).2;refine (af.out _).mono ?_;rintro e w5 ⟨v5,rfl,au,r⟩;have d:Below wr.heap.size wr w5:=J.trans (r.mono J.size);have I:wr.heap.size<w5.heap.size:=by have:=r.size;rw [World.size_alloc] at this;omega
   have k1:=(r.cell (p:=⟨wr.heap.size,1,none⟩) (by rw [World.size_alloc];exact Nat.lt_succ_self _)).trans am;have T:=hid au;have ac:=hid (ap.out.keep d);have ar:=hid (Grown.below o.out d);have aN:u0.ownBlock≠some wr.heap.size:=fun e=>absurd (aC.out _ e) (Xbl _);clear J am au r d af c1 c2 o;go_wp2_with (at_builtin;go_loud (refine Zl rfl _ _ rfl u0 L rfl ac.out _ (Z1 M) rfl T.out.brow (ZfZ _) (by simp only [Xd] at s;omega) ?_;intro v6 w6 aa G;have k2:=(G.kep.cell I aN 1).trans k1;have S:=hid aa;have ai:=hid (ar.out.trans G);clear aa G))
   refine (Y.out _).mono ?_;rintro e w7 ⟨v7,rfl,ae,C⟩;have aL:=hid ae;have aJ:=hid (S.out.keep C);have aF:=hid (Grown.below ai.out C);clear ae C Y k1 k2 S ai T ac ar;go_wp2_with (at_builtin;go_loud (refine Zl rfl _ _ rfl v6 (L++Z1 M) rfl aJ.out _ (Z1 R) rfl aL.out.brow (ZfZ _) (by simp only [Xd] at s;simp only [Xd];omega) ?_;intro v8 w8 D ao;rw [<- aK.out] at D;have aM:=hid D;have aE:=hid (aF.out.trans ao);clear D ao))
   have a:=aB.out;go_roundw
   case rel=>exact ⟨k+1,by omega,by go_num,aM,aE⟩
   case measure=>simp [intOf];omega
  ·obtain rfl:k=fs.length:=by omega
   have q1:decide ((fs.length:Int)<(fs.length:Int))=false:=by simp
   have q2:decide (fs.length<fs.length)=false:=by simp
   have t:=HOk.out;rw [aq.out] at t;have aI:=hid t;clear HOk t a;go_wp2_with fail;go_ret;exact ⟨_,rfl,aI.out,o.out⟩
open RowKit MM EM VM
variable {B g:Nat} {w w1:World} {l m:Xu} {o:Bool} {v:Value}
def Ze (m:Nat) (l:Xu) (o:Bool):Nat×Xu×Bool:=if (Zk l).2.2=0/\(Zk l).1<=m then ((Zk l).1,VG.Zab l,o) else (0,[],true)
def Zbe (l:Xu) (o:Bool):Int×Xu×Bool:=((Zan l).1,VG.Zab l,o||(Zan l).2.2 != 0)
def Z2 (m:Int) (l:Xu) (o:Bool):Xu×Xu×Bool:=((ZW l m).1,VG.Zbd l m,o||(ZW l m).2.2 != 0)
def Rd (B:Nat) (w:World) (g:Nat) (l:Xu) (o:Bool):Prop:=∃v,w.heap[g]? = some (.cells #[v,.bool o] 326 (0,0))/\Z3 B w v l
theorem Rd.lt (h:Rd B w g l o):g<w.heap.size:=by obtain ⟨v,h,_⟩:=h;exact (Xo.1 h).1
theorem Rd.keep {S:Nat->Prop} {w':World} (h:Rd B w g l o) (b:Kep S w w') (c:S g) (f:∀k,k<B->S k) (a:B<=w.heap.size):Rd B w' g l o:=by
 have d:=h.lt;obtain ⟨v,h,e⟩:=h;exact ⟨v,(b.block g d c).trans h,e.below (b.below a f)⟩
theorem Zgw (h:Rd B w g l o) (b:Below w.heap.size w w1) (d:B<=g) (c:Z3 B w1 v m):Rd B (w1.setCell ⟨g,0,none⟩ v) g m o:=by
 obtain ⟨v0,h,_⟩:=h;have a:=(Xo.1 h).1;have e:=heap_setCell_same w1 g 0 _ _ v ((b.block g a).trans h);exact ⟨v,e,c.below ((Below.refl B w1).setCell (p:=⟨g,0,none⟩) d v)⟩
theorem Zjp (h:Rd B w g l o) (d:Below w.heap.size w w1) (b:B<=g) (e:Z3 B w1 v m):Rd B ((w1.setCell ⟨g,0,none⟩ v).setCell ⟨g,1,none⟩ (.bool true)) g m true:=by
 obtain ⟨v0,h,_⟩:=h;have a:=(Xo.1 h).1;have c:=heap_setCell_same w1 g 0 _ _ v ((d.block g a).trans h);have f:=heap_setCell_same _ g 1 _ _ (.bool true) c;exact ⟨v,f,(e.below ((Below.refl B w1).setCell (p:=⟨g,0,none⟩) b v)).below ((Below.refl B _).setCell (p:=⟨g,1,none⟩) b (.bool true))⟩
def ZfF (B g:Nat) (x:Value) (l:Xu) (o:Bool) (w:World) (e:Ending) (w':World):Prop:=e=.returned x/\Rd B w' g l o/\Kep (fun b=>b≠g) w w'
theorem Zbq (B g:Nat) (l m:Xu) (o:Bool) (v:Value) (b:Int) (w:World) (h:Rd B w g l o) (n:B<=g) (e:Z3 B w v m) :
  Calls prog 283 #[.pointer (some ⟨g,0,none⟩),v,.int .i64 b] w (ZfF B g (.tuple #[]) m (o||b != 0) w):=by
 have c:=hid h;have p:=h.lt;obtain ⟨v0,a,_⟩:=h;have d:=hid e;have f0:=cell_of_row w g 0 _ _ _ a;have f1:=cell_of_row w g 1 _ _ _ a;have f2:=frozen_of_row w g 0 _ _ a;have f3:=frozen_of_row w g 1 _ _ a;obtain ⟨j,c1,rfl,_⟩:=e.shape
 by_cases k:b=0
 ·subst k;have f:(o||((0:Int) != 0))=o:=by simp
  rw [f];have i:=hid (show ZfF B g (.tuple #[]) m o w (.returned (.tuple #[])) (w.setCell ⟨g,0,none⟩ (.slice j m.length c1)) from ⟨rfl,Zgw c.out (Below.refl _ _) n d.out,Zx (by simp) _⟩);clear e d c a;go_enter func283,ntmps283;go_wp2_with fail;refine bodyPost_end (results_none rfl _ _ _) rfl ?_;exact i.out
 ·have t0:(b != 0)=true:=by rw [Xaa];exact k
  have f:(o||(b != 0))=true:=by rw [t0];simp
  rw [f];have i:=hid (show ZfF B g (.tuple #[]) m true w (.returned (.tuple #[])) ((w.setCell ⟨g,0,none⟩ (.slice j m.length c1)).setCell ⟨g,1,none⟩ (.bool true)) from ⟨rfl,Zjp c.out (Below.refl _ _) n d.out,(Zx (by simp) _).trans (Zx (by simp) _)⟩);clear e d c a;go_enter func283,ntmps283;go_wp2_with fail;refine bodyPost_end (results_none rfl _ _ _) rfl ?_;exact i.out
theorem Zzl (B g:Nat) (l:Xu) (o:Bool) (w:World) (h:Rd B w g l o) (u:B<=g) :
  Calls prog 276 #[.pointer (some ⟨g,0,none⟩)] w (ZfF B g (.int .i64 (Zbe l o).1) (Zbe l o).2.1 (Zbe l o).2.2 w):=by
 have y:=hid h;have b:=h.lt;obtain ⟨v,q,s⟩:=h;have f0:w.cell? ⟨g,0,none⟩=some v:=by rw [cell_of_row w g 0 _ _ _ q];rfl
 have x:=hid (VG.ZuN B v l w s (Xam (Xbj u b)));have f:=hid (fun m v j w1 (D:Rd B w1 g l o) (i:Z3 B w1 v m)=>Zbq B g l m o v j w1 D u i);unfold Zbe;generalize (Zan l).1=n at *;generalize (Zan l).2.2=j at *;generalize VG.Zab l=R at *;have k:=hid (show B<=w.heap.size by omega);clear s q b;go_enter func276,ntmps276;go_wp2_with fail;refine x.out.mono ?_;rintro e w1 ⟨C,rfl,d,a⟩;have c:=y.out.keep (S:=fun _=>True) (Za _ a) trivial (fun _ _=>trivial) k.out;have t:=hid (f.out R C j w1 c d);have p:=hid a;clear d a c x f;go_wp2_with fail;refine t.out.mono ?_;rintro e w2 ⟨rfl,i,r⟩;have z:=hid i;have A:=hid r;clear i r t;go_wp2_with fail;go_ret;exact ⟨rfl,z.out,(Za _ p.out).trans A.out⟩
theorem Zhv (B g:Nat) (a:Int) (l:Xu) (o:Bool) (w:World) (h0:0<=a) (r:a<=9223372036854775807) (h:Rd B w g l o) (y:B<=g) :
  Calls prog 278 #[.pointer (some ⟨g,0,none⟩),.int .i64 a] w (ZfF B g (.string ⟨(Z2 a l o).1.toArray⟩) (Z2 a l o).2.1 (Z2 a l o).2.2 w):=by
 have A:=hid h;have c:=h.lt;obtain ⟨v,s,u⟩:=h;have f0:w.cell? ⟨g,0,none⟩=some v:=by rw [cell_of_row w g 0 _ _ _ s];rfl
 have z:=hid (VG.Zmj B v l a w (by omega) r u (Xam (Xbj y c)));have i:=hid (fun m v k w1 (r:Rd B w1 g l o) (j:Z3 B w1 v m)=>Zbq B g l m o v k w1 r y j);unfold Z2;dsimp only;generalize (ZW l a).1=n at *;generalize (ZW l a).2.2=k at *;generalize VG.Zbd l a=R at *;have p:=hid (show B<=w.heap.size by omega);clear u s c;go_enter func278,ntmps278;go_wp2_with fail;refine z.out.mono ?_;rintro e w1 ⟨E,rfl,f,b⟩;have d:=A.out.keep (S:=fun _=>True) (Za _ b) trivial (fun _ _=>trivial) p.out;have x:=hid (i.out R E k w1 d f);have q:=hid b;clear f b d z i;go_wp2_with fail;refine x.out.mono ?_;rintro e w2 ⟨rfl,j,t⟩;have C:=hid j;have D:=hid t;clear j t x;go_wp2_with fail;go_ret;exact ⟨rfl,C.out,(Za _ q.out).trans D.out⟩
theorem ZaT (B g:Nat) (m:Nat) (l:Xu) (o:Bool) (w:World) (hm:m<=1099511627776) (h:Rd B w g l o) (J:B<=g) :
  Calls prog 277 #[.pointer (some ⟨g,0,none⟩),.int .i64 m] w (ZfF B g (.int .i64 (Ze m l o).1) (Ze m l o).2.1 (Ze m l o).2.2 w):=by
 have F:=hid h;have r:=h.lt;obtain ⟨v,E,H⟩:=h;have f0:w.cell? ⟨g,0,none⟩=some v:=by rw [cell_of_row w g 0 _ _ _ E];rfl
 have z:=hid (VG.Zj0 B v l w H (Xam (Xbj J r)));have i:=hid (fun m v j w1 (O:Rd B w1 g l o) (k:Z3 B w1 v m)=>Zbq B g l m o v j w1 O J k);have A:=ZaN l
 have b:(Zk l).2.2≠0->(Zk l).1=0/\VG.Zab l=[]:=fun I=>by
  refine ⟨?_,by unfold VG.Zab;rw [Xa I]⟩;rcases A.2.2.1 with e|e|e
  ·exact absurd e I
  ·rw [e]
  ·rw [e]
 have hn:=A.1;unfold Ze;generalize (Zk l).1=n at *;generalize (Zk l).2.2=j at *;generalize VG.Zab l=R at *;have u:=hid (show B<=w.heap.size by omega);clear H E r A
 by_cases y:n<=m
 ·have d:(if j=0/\n<=m then (n,R,o) else (0,[],true))=(n,R,o||j != 0):=by
   by_cases s:j=0
   ·subst s;rw [Xe ⟨rfl,y⟩];simp
   ·rw [Xa (fun h=>s h.1),(b s).1,(b s).2];have:(j != 0)=true:=by rw [Xaa];exact s
    rw [this];simp
  rw [d];have M:decide ((n:Int)>(m:Int))=false:=XB (by omega);have N:IntKind.u64.wrap (m:Int)=(m:Int):=by rw [IntKind.wrap_u64];omega
  have t3:IntKind.i64.wrap (n:Int)=(n:Int):=by rw [IntKind.wrap_i64];omega
  dsimp only;clear d b;go_enter func277,ntmps277;go_wp2_with fail;refine z.out.mono ?_;rintro e w1 ⟨L,rfl,f,a⟩;have c:=F.out.keep (S:=fun _=>True) (Za _ a) trivial (fun _ _=>trivial) u.out;have t:=hid (i.out R L j w1 c f);have p:=hid a;clear f a c z i;go_wp2_with fail;refine t.out.mono ?_;rintro e G ⟨rfl,k,q⟩;have C:=hid k;have D:=hid q;clear k q t;go_wp2_with fail;go_ret;exact ⟨rfl,C.out,(Za _ p.out).trans D.out⟩
 ·have d:(if j=0/\n<=m then (n,R,o) else (0,[],true))=(0,[],true):=by rw [Xa (fun h=>y h.2)]
  rw [d];have M:decide ((n:Int)>(m:Int))=true:=Xw (by omega);have N:IntKind.u64.wrap (m:Int)=(m:Int):=by rw [IntKind.wrap_u64];omega
  dsimp only;clear d b;go_enter func277,ntmps277;go_wp2_with fail;refine z.out.mono ?_;rintro e w1 ⟨L,rfl,f,a⟩;have c:=F.out.keep (S:=fun _=>True) (Za _ a) trivial (fun _ _=>trivial) u.out;have t:=hid (i.out [] (.slice none 0 0) 100 w1 c (Z3.nil_ _ _));have p:=hid a;clear f a c z i;go_wp2_with fail;refine t.out.mono ?_;rintro e G ⟨rfl,k,q⟩;have x:Rd B G g [] true:=by have:=k;simpa using this
  have C:=hid x;have D:=hid q;clear k x q t;go_wp2_with fail;go_ret;exact ⟨rfl,C.out,(Za _ p.out).trans D.out⟩
variable {l:Xu}
theorem Zhe {m:Nat} (o:Bool) (h:(Zk l).2.2=0) (a:(Zk l).1<=m):Ze m l o=((Zk l).1,l.drop (Zk l).2.1,o):=by
 unfold Ze VG.Zab;rw [Xe ⟨h,a⟩,Xe h]
theorem ZCp {m:Nat} (o:Bool) (h:(Zk l).2.2≠0\/m<(Zk l).1):Ze m l o=(0,[],true):=by
 unfold Ze;rw [Xa (fun a=>h.elim (fun h=>h a.1) (fun h=>by omega))]
theorem ZbW (m:Nat) (l:Xu) (o:Bool):(Ze m l o).1<=m:=by
 unfold Ze
 split
 ·rename_i h;exact h.2
 ·exact XU _
theorem ZAZ (m:Nat) (l:Xu):(Ze m l true).2.2=true:=by
 unfold Ze
 split<;>rfl
theorem Zzk (o:Bool) (h:(Zan l).2.2=0):Zbe l o=((Zan l).1,l.drop (Zan l).2.1,o):=by
 unfold Zbe VG.Zab;have a:(Zk l).2.2=0:=h;rw [Xe a,h];simp [Zan]
theorem ZCC (o:Bool) (h:(Zan l).2.2≠0):(Zbe l o).2.2=true:=by
 unfold Zbe;have:((Zan l).2.2 != 0)=true:=by rw [Xaa];exact h
 simp [this]
theorem Zhy {m:Int} (o:Bool) (h:(ZW l m).2.2=0):Z2 m l o=((ZW l m).1,l.drop (ZW l m).2.1,o):=by
 unfold Z2 VG.Zbd;rw [Xe h,h];simp
theorem Zzt {m:Int} (o:Bool) (h:(ZW l m).2.2≠0):(Z2 m l o).2.2=true:=by
 unfold Z2;have:((ZW l m).2.2 != 0)=true:=by rw [Xaa];exact h
 simp [this]
theorem Zpt (m:Int) (l:Xu):(Z2 m l true).2.2=true:=by unfold Z2;simp
abbrev FSt:=List Fld×Xu×Bool
def ZgL (s:FSt):FSt :=
 (s.1++[((Z2 32 s.2.1 s.2.2).1,(Z2 4096 (Z2 32 s.2.1 s.2.2).2.1 (Z2 32 s.2.1 s.2.2).2.2).1)],(Z2 4096 (Z2 32 s.2.1 s.2.2).2.1 (Z2 32 s.2.1 s.2.2).2.2).2.1,(Z2 4096 (Z2 32 s.2.1 s.2.2).2.1 (Z2 32 s.2.1 s.2.2).2.2).2.2)
def ZbK:Nat->FSt->FSt
 | 0,s=>s
 | k+1,s=>ZgL (ZbK k s)
theorem Zg2:∀(k:Nat) (s:FSt),ZbK (k+1) s=ZbK k (ZgL s)
 | 0,s=>rfl
 | k+1,s=>by rw [ZbK,Zg2 k s,<- ZbK]
theorem ZvO {s:FSt} (h:s.2.2=true):(ZgL s).2.2=true:=by
 unfold ZgL;rw [h];have:=Zpt 32 s.2.1;rw [this];exact Zpt _ _
theorem ZfM:∀(k:Nat) {s:FSt},s.2.2=true->(ZbK k s).2.2=true
 | 0,_,h=>h
 | k+1,_,h=>ZvO (ZfM k h)
theorem ZjY:∀(k:Nat) (s:FSt),(ZbK k s).1.length=s.1.length+k
 | 0,s=>rfl
 | k+1,s=>by rw [ZbK];unfold ZgL;simp [ZjY k s];omega
theorem Zn0:∀(k:Nat) (acc:List Fld) (l:Xu) (o:Bool) (fs:List Fld) (r:Xu),ZbD k acc l=some (fs,r)->ZbK k (acc,l,o)=(fs,r,o)
 | 0,acc,l,o,fs,r,h=>by
   rw [ZbD] at h;simp only [Xv,X8] at h;rw [ZbK,h.1,h.2]
 | k+1,acc,l,o,fs,r,h=>by
   rw [ZbD] at h
   split at h
   ·cases h
   ·rename_i b;have c:(ZW l 32).2.2=0:=Xar fun a=>b (.inl a);have d:(ZW (l.drop (ZW l 32).2.1) 4096).2.2=0:=Xar fun a=>b (.inr a);rw [Zg2]
    have e:ZgL (acc,l,o)=(acc++[((ZW l 32).1,(ZW (l.drop (ZW l 32).2.1) 4096).1)],(l.drop (ZW l 32).2.1).drop (ZW (l.drop (ZW l 32).2.1) 4096).2.1,o):=by
     unfold ZgL;dsimp only;rw [Zhy o c];dsimp only;rw [Zhy o d]
    rw [e];exact Zn0 k _ _ _ _ _ h
theorem ZnZ:∀(k:Nat) (acc:List Fld) (l:Xu) (o:Bool),ZbD k acc l=none->(ZbK k (acc,l,o)).2.2=true
 | 0,acc,l,o,h=>by rw [ZbD] at h;cases h
 | k+1,acc,l,o,h=>by
   rw [ZbD] at h;rw [Zg2]
   by_cases a:(ZW l 32).2.2=0
   ·by_cases b:(ZW (l.drop (ZW l 32).2.1) 4096).2.2=0
    ·rw [Xa (fun c=>c.elim (fun h=>h a) (fun h=>h b))] at h
     have e:ZgL (acc,l,o)=(acc++[((ZW l 32).1,(ZW (l.drop (ZW l 32).2.1) 4096).1)],(l.drop (ZW l 32).2.1).drop (ZW (l.drop (ZW l 32).2.1) 4096).2.1,o):=by
      unfold ZgL;dsimp only;rw [Zhy o a];dsimp only;rw [Zhy o b]
     rw [e];exact ZnZ k _ _ _ h
    ·refine ZfM k ?_;unfold ZgL;dsimp only;rw [Zhy o a];dsimp only;exact Zzt o b
   ·refine ZfM k ?_;unfold ZgL;dsimp only;rw [Zzt o a];exact Zpt _ _
def Zfx (l:Xu) (o:Bool):Ev×Xu×Bool :=
 (((Zbe l o).1,(ZbK (Ze 16 (Zbe l o).2.1 (Zbe l o).2.2).1 ([],(Ze 16 (Zbe l o).2.1 (Zbe l o).2.2).2.1,(Ze 16 (Zbe l o).2.1 (Zbe l o).2.2).2.2)).1),
   (ZbK (Ze 16 (Zbe l o).2.1 (Zbe l o).2.2).1 ([],(Ze 16 (Zbe l o).2.1 (Zbe l o).2.2).2.1,(Ze 16 (Zbe l o).2.1 (Zbe l o).2.2).2.2)).2.1,
   (ZbK (Ze 16 (Zbe l o).2.1 (Zbe l o).2.2).1 ([],(Ze 16 (Zbe l o).2.1 (Zbe l o).2.2).2.1,(Ze 16 (Zbe l o).2.1 (Zbe l o).2.2).2.2)).2.2)
theorem Zxo (l:Xu) (o:Bool):(Zfx l o).1.2.length<=16:=by
 unfold Zfx;dsimp only;rw [ZjY];have:=ZbW 16 (Zbe l o).2.1 (Zbe l o).2.2;simp only [Xm];omega
theorem Ztl {r:Xu} {e:Ev} (o:Bool) (h:rdE l=some (e,r)):Zfx l o=(e,r,o):=by
 unfold rdE at h
 split at h
 ·cases h
 ·rename_i b
  split at h
  ·cases h
  ·rename_i c;have b:(Zan l).2.2=0:=by simpa using b
   have f:(Zk (l.drop (Zan l).2.1)).2.2=0:=Xar fun a=>c (.inl a);have d:(Zk (l.drop (Zan l).2.1)).1<=16:=Nat.not_lt.1 fun a=>c (.inr a);cases hg:ZbD (Zk (l.drop (Zan l).2.1)).1 [] ((l.drop (Zan l).2.1).drop (Zk (l.drop (Zan l).2.1)).2.1) with
   | none=>rw [hg] at h;cases h
   | some p =>
     obtain ⟨fs,r2⟩:=p;rw [hg] at h;simp only [Xv,X8] at h;obtain ⟨rfl,rfl⟩:=h;unfold Zfx;rw [Zzk o b];dsimp only;rw [Zhe o f d];dsimp only;rw [Zn0 _ _ _ o _ _ hg]
theorem ZAo (o:Bool) (h:rdE l=none):(Zfx l o).2.2=true:=by
 unfold Zfx;dsimp only
 by_cases c:(Zan l).2.2=0
 ·rw [Zzk o c];dsimp only
  by_cases a:(Zk (l.drop (Zan l).2.1)).2.2≠0\/16<(Zk (l.drop (Zan l).2.1)).1
  ·rw [ZCp o a];exact ZfM _ rfl
  ·have e:(Zk (l.drop (Zan l).2.1)).2.2=0:=Xar fun b=>a (.inl b);have d:(Zk (l.drop (Zan l).2.1)).1<=16:=Nat.not_lt.1 fun b=>a (.inr b);rw [Zhe o e d];dsimp only;unfold rdE at h;rw [Xa (by simpa using c),Xa a] at h;cases hg:ZbD (Zk (l.drop (Zan l).2.1)).1 [] ((l.drop (Zan l).2.1).drop (Zk (l.drop (Zan l).2.1)).2.1) with
   | none=>exact ZnZ _ _ _ _ hg
   | some p=>rw [hg] at h;cases h
 ·refine ZfM _ ?_;dsimp only;rw [ZCC o c];exact ZAZ _ _
