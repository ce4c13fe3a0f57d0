import Derived.Test.YtmomfobdpfajbaaGreatZA12
import Derived.Test.YtmomfobdpfajbaaGreatZA9
set_option maxRecDepth 100000
set_option maxHeartbeats 0
set_option linter.unusedVariables false
set_option linter.unusedSimpArgs false
namespace Go.Proofs.YtmomfobdpfajbaaGreat
open Tryz
namespace SG
open RowKit MM VM VP
open EV (ZD Zae Z2)
open SM (Zq)
open GM (Z3 Zhx ZcJ Zgh)
theorem i64_in (z:Int) : -9223372036854775808<=IntKind.i64.wrap z/\IntKind.i64.wrap z<=9223372036854775807:=by
 rw [IntWalk.i64_left];unfold wrap64;omega
theorem Zgy (l:List Zq):∀z,(Z3 z l).length<=10*l.length:=by
 induction l with
 | nil=>intro z;simp [Z3]
 | cons d r ih =>
   intro z;have h1:=ih d.2.1;have h2:(ZaV (IntKind.i64.wrap (d.2.1 - z))).length<=10:=(Zc _).2;rw [Z3,Xd,Xh];omega
theorem Zti (v:Value) (l:List Zq) (w:World) (R:ZF ZD w v l) (E:l.length<=1000000000) :
  Calls prog 46 #[v] w fun e w'=>(∃u,e=.returned u/\Zd w.heap.size w' u (Z3 0 l))/\Below w.heap.size w w':=by
 obtain ⟨p,ad,rfl,ab,V,_⟩:=R.shape;unfold maxLen at V;have HV:=Y4 R.bel;have y:Y5 (Z3 0 (l.take l.length)=Z3 0 l):=Y4 (by rw [XB]);have Z:=Y4 (fun (n:Nat) (E:n<l.length)=>Zhx E 0);have r:=Y4 (fun (n:Nat) (E:n<l.length)=>Zgh E 0);have G:=Y4 (fun k=>Zgy (l.take k) 0);have H0:Y5 (Zd w.heap.size w (.slice none 0 0) (Z3 0 (l.take 0))):=Y4 (World.ownsRow_nil _ _ _ _);clear R;go_enter func46,ntmps46;go_wp2_with fail
 go_loopw [3,4,5] (fun u av i wr=>∃(k:Nat) (A:Int),k<=l.length/\i=.int .i64 k/\av=.int .i64 A/\Y5 (ZcJ 0 (l.take k)=A)/\Y5 (Zd w.heap.size wr u (Z3 0 (l.take k)))/\Y5 (Below w.heap.size w wr)) (fun _ _ i _=>l.length - (intOf i).toNat)
 case atStart=>exact ⟨0,0,by omega,rfl,rfl,Y4 rfl,H0,Y4 (Below.refl _ _)⟩
 case round =>
  obtain ⟨k,A,hk,rfl,rfl,HA,J,D⟩:=hrel;clear H0
  by_cases h:k<l.length
  ·have t1:decide ((k:Int)<(l.length:Int))=true:=by simp;omega
   have t2:decide (k<l.length)=true:=Xs h;have t3:(k:Int)<(l.length:Int):=by omega
   obtain ⟨b,off,x,rfl,_,C,Y,g,X,hx⟩:=Z2 HV.z h;have d:=Z.z k h;have c:=r.z k h;rw [HA.z] at d;obtain ⟨t,ht⟩:=Xn (l[k].2.1);rw [ht] at g d c;have B:=(D.z.cell (p:=⟨b,off+k*3+1,none⟩) C).trans g;have H:=D.z.size;have ac:=G.z k;have aa:(l.take k).length<=1000000000:=by rw [Xi];omega
   obtain ⟨T,O⟩:=i64_in (t - A);have m:(ZaV (IntKind.i64.wrap (t - A))).length<=10:=(Zc _).2;rw [IntWalk.i64_left] at d T O m;have K1:=Y4 (fun W=>ZmY (wrap64 (t - A)) W T O);have U:=Y4 d;have L:=Y4 c;have HC:=Y4 (fun W (hW:Below w.heap.size w W)=>(hW.cell (p:=⟨b,off+k*3+1,none⟩) C).trans g);clear hx ht Y X g d c T O;go_wp2_with fail;refine (K1.z _).mono ?_;rintro e w2 ⟨v2,rfl,f,j⟩;have I:=Y4 (J.z.keep j);have S:=Y4 f.brow;have s:=Y4 (D.z.trans (j.mono H));have o:=s.z.size;clear f B j;go_wp2_with (at_builtin;refine Zh rfl _ _ rfl w.heap.size _ _ rfl I.z _ _ rfl S.z (by omega) o ?_)
   intro v3 w3 a q;rw [<- U.z] at a;have F:=Y4 a;have z:=Y4 (s.z.trans q);have B:=HC.z w3 z.z;clear a q;go_wp2_with fail;go_roundw
   case rel=>exact ⟨k+1,t,by omega,by go_num,rfl,L,F,z⟩
   case measure=>simp [intOf];omega
  ·obtain rfl:k=l.length:=by omega
   have t1:decide ((l.length:Int)<(l.length:Int))=false:=by simp
   have M:=J.z;rw [y.z] at M;have N:=Y4 M;clear J M;go_wp2_with fail;go_ret;exact ⟨⟨_,rfl,N.z⟩,D.z⟩
open RowKit MM VM VP VG
open EV (ZD Zae Z2 Zvw)
open GM (Z3 Zhx ZcJ Zgh ZiA)
variable {zs:List Int}
def ZaW:Int->List Zq->List Int
 | _,[]=>[]
 | a,d::r=>wrap64 (d.2.1 - a)::ZaW d.2.1 r
theorem Zic:∀(a b:List Zq) (z:Int),ZaW z (a++b)=ZaW z a++ZaW (ZcJ z a) b
 | [],b,z=>rfl
 | d::a,b,z=>by rw [XK,ZaW,ZaW,Zic a b,ZcJ,XK]
theorem ZrJ {l:List Zq} {k:Nat} (a:k<l.length) (z:Int):ZaW z (l.take (k+1))=ZaW z (l.take k)++[wrap64 (l[k].2.1 - ZcJ z (l.take k))]:=by
 rw [XG a,Zic,ZaW,ZaW]
theorem ZiP:∀(l:List Zq) (z:Int),(ZaW z l).length=l.length
 | [],_=>rfl
 | d::l,z=>by rw [ZaW,Xh,Xh,ZiP l]
theorem Zm9:∀(l:List Zq) (z:Int),Zcc (ZaW z l)=Z3 z l
 | [],_=>rfl
 | d::l,z=>by
   have e:Zcc (ZaW z (d::l))=ZaV (wrap64 (d.2.1 - z))++Zcc (ZaW d.2.1 l):=by simp [ZaW,Zcc]
   rw [e,Z3,Zm9 l,IntWalk.i64_left]
theorem Zqz (h:∀z∈zs, -9223372036854775808<=z/\z<=9223372036854775807):Fits zs:=fun k a=>by
 have e:zs.getD k 0=zs[k]:=by simp [List.getD,a]
 rw [e];exact h _ (XI a)
theorem Zk4:∀(l:List Zq) (z:Int),∀x∈ZaW z l, -9223372036854775808<=x/\x<=9223372036854775807
 | d::l,z,x,h=>by
   rw [ZaW,XT] at h;rcases h with rfl|h
   ·have:=i64_in (d.2.1 - z)
    rwa [IntWalk.i64_left] at this
   ·exact Zk4 l d.2.1 x h
theorem ZqT {S:Nat->Prop} {w:World} {v:Value} (h:ZB Zbk S w v zs):Zc6 w v zs:=Zpy (B:=w.heap.size) h fun b a _=>a
theorem Zwr (v:Value) (l:List Zq) (w:World) (V:ZF ZD w v l) (E:l.length<=1000000) :
  Calls prog 81 #[v] w fun e w'=>(∃u,e=.returned u/\Zd w.heap.size w' u (Z3 0 l))/\Below w.heap.size w w':=by
 obtain ⟨p,af,rfl,ae,Z,_⟩:=V.shape;unfold maxLen at Z;have HV:=Y4 V;have D:Y5 (ZaW 0 (l.take l.length)=ZaW 0 l):=Y4 (by rw [XB]);have ac:=Y4 (fun (n:Nat) (E:n<l.length)=>ZrJ E 0);have B:=Y4 (fun (n:Nat) (E:n<l.length)=>Zgh E 0);have N:=Y4 (fun k=>ZiP (l.take k) 0);have T:=Y4 (fun (u:Value) (W:World) (h:Zc6 W u (ZaW 0 l))=>ZmT (.slice none 0 0) u [] (ZaW 0 l) W (Zv.nil_ _) h (Zqz (Zk4 l 0)) (by simp) (by rw [ZiP];exact E));have x:=Y4 (Zm9 l 0);have H0:Y5 (ZbB Zbk 3 w.heap.size w (.slice none 0 0) (ZaW 0 (l.take 0))):=Y4 (ZbB.nil_ _ _ _);clear V;go_enter func81,ntmps81;go_wp2_with fail
 go_loopw [3,4,9] (fun u av i wr=>∃(k:Nat) (A:Int),k<=l.length/\i=.int .i64 k/\av=.int .i64 A/\Y5 (ZcJ 0 (l.take k)=A)/\Y5 (ZbB Zbk 3 w.heap.size wr u (ZaW 0 (l.take k)))/\Y5 (Below w.heap.size w wr)) (fun _ _ i _=>l.length - (intOf i).toNat)
 case atStart=>exact ⟨0,0,by omega,rfl,rfl,Y4 rfl,H0,Y4 (Below.refl _ _)⟩
 case round =>
  obtain ⟨k,A,hk,rfl,rfl,HA,r,m⟩:=hrel;clear H0
  by_cases f:k<l.length
  ·have t1:decide ((k:Int)<(l.length:Int))=true:=by simp;omega
   have t2:decide (k<l.length)=true:=Xs f;have t3:(k:Int)<(l.length:Int):=by omega
   obtain ⟨b,off,vf,rfl,ag,_,c1,c2,c3,hf⟩:=Z2 (HV.z.below m.z) f;have c:=ac.z k f;have a:=B.z k f;rw [HA.z] at c;obtain ⟨⟨I,⟨t,fs⟩⟩,hd⟩:∃d,l[k]=d:=⟨_,rfl⟩;rw [hd] at c1 c2 hf c a;dsimp only at c1 c2 hf c a;obtain ⟨F,H,rfl,_⟩:=hf.shape;obtain ⟨pu,cu,rfl,_⟩:=ZbB.shape r.z;have T1:=Y4 (Zaj wr 59 (.int .i64 I) (.int .i64 t) (.slice F fs.length H));have q:Below wr.heap.size wr (wr.alloc (.cells #[.int .i64 I,.int .i64 t,.slice F fs.length H] 59)):=(Below.refl _ _).alloc (Xa _) _;have O:=m.z.size;have U:=Y4 (m.z.trans (q.mono O));have R:=Y4 (r.z.keep q);have M:=Y4 (fun g hg=>(ZbB.lt r.z g hg).2);have z:=N.z k;rw [Xi] at z;have ad:(ZaW 0 (l.take k)).length<=1000000:=by omega
   have Y:=Y4 c;have S:=Y4 a;have L:Y5 (w.heap.size<=(wr.alloc (.cells #[.int .i64 I,.int .i64 t,.slice F fs.length H] 59)).heap.size):=Y4 (by simp;omega);clear hf hd q c a z r m HA;go_wp2_with (at_builtin;go_loud (refine ZgI Zvw rfl _ _ rfl w.heap.size _ (ZaW 0 (l.take k)) (wr.alloc (.cells #[.int .i64 I,.int .i64 t,.slice F fs.length H] 59)) [.int .i64 (wrap64 (t - A))] (wrap64 (t - A)) rfl rfl R.z rfl (by rw [World.size_alloc];rfl) (by unfold maxLen;omega) (by omega) L.z ?_))
   intro v3 w3 o y s;rw [<- Y.z] at o;have J:=Y4 o;have aa:=Y4 (U.z.trans y);have T3:=(T1.z.below ((Below.refl _ _).alloc (Xa _) _) T1.z.lt).keep s (fun e=>by have:=M.z _ e;omega);obtain ⟨f0,f1,f2⟩:=T3.cells;clear o y s T3 c1 c2 c3;go_wp2_with fail;go_roundw
   case rel=>exact ⟨k+1,t,by omega,by go_num,rfl,S,J,aa⟩
   case measure=>simp [intOf];omega
  ·obtain rfl:k=l.length:=by omega
   have t1:decide ((l.length:Int)<(l.length:Int))=false:=by simp
   have G:=r.z;rw [D.z] at G;have HK:=Y4 (T.z _ _ (ZqT (ZbB.any G)));obtain ⟨pu,cu,rfl,_⟩:=ZbB.shape G;clear r G;go_wp2_with fail;refine HK.z.mono ?_;rintro e w4 ⟨v4,rfl,j,C⟩;rw [XE,x.z] at j;have ab:=Y4 (Zd.weaken j m.z.size);have X:=Y4 (m.z.trans (C.mono m.z.size));clear j C HK;go_wp2_with fail;go_ret;exact ⟨⟨_,rfl,ab.z⟩,X.z⟩
end SG
namespace SG
open RowKit MM VM VP VG
open GM (Zdo ZiU)
theorem Zmq:(prog.info? 65).map (·.size)=some 7:=by kernel_rfl
theorem ZhG {B g:Nat} {a w:World} (b:Array Value) (h:Below B a w) (hg:B<=g):Below B a (w.setRow g b) :=
 h.trans ⟨rfl,rfl,rfl,by simp [World.setRow],fun k hk=>setRow_other _ _ k b (by omega)⟩
theorem ZzI (f0 f1 h i f4:Int) (w:World):Calls prog 67 #[.agg #[.int .i64 0,.int .i64 0,.int .i64 f0,.int .i64 f1,.int .i64 h,.int .i64 i,.int .i64 f4]] w fun e w'=>e=.returned (.agg #[.int .i64 0,.int .i64 0,.int .i64 f0,.int .i64 f1,.int .i64 h,.int .i64 i,.int .i64 f4])/\Below w.heap.size w w':=by
 obtain ⟨X,l⟩:∃X:Array Value,#[.int .i64 0,.int .i64 0,.int .i64 f0,.int .i64 f1,.int .i64 h,.int .i64 i,.int .i64 f4]=X:=⟨_,rfl⟩;have f:X.size=7:=by rw [<- l];rfl
 have k:X.all (·.oneCell')=true:=by rw [<- l];simp [Value.oneCell']
 obtain ⟨c,b⟩:=Xn ((w.alloc (.cells #[.int .i64 0,.int .i64 0,.int .i64 f0,.int .i64 f1,.int .i64 h,.int .i64 i,.int .i64 f4] 86)).alloc (.cells #[.int .i64 0,.int .i64 0,.int .i64 0,.int .i64 0,.int .i64 0,.int .i64 0,.int .i64 0] 65));have j:Below w.heap.size w c:=by rw [<- b];exact ((Below.refl _ _).alloc (Xa _) _).alloc (by simp) _
 have a:c.heap[w.heap.size]? = some (.cells #[.int .i64 0,.int .i64 0,.int .i64 f0,.int .i64 f1,.int .i64 h,.int .i64 i,.int .i64 f4] 86 (0,0)):=by
  rw [<- b];exact (((Below.refl _ _).alloc (Xa _) _).block w.heap.size (by simp)).trans (heap_alloc_new w _)
 have d:c.heap[w.heap.size+1]? = some (.cells #[.int .i64 0,.int .i64 0,.int .i64 0,.int .i64 0,.int .i64 0,.int .i64 0,.int .i64 0] 65 (0,0)):=by
  rw [<- b];have:=heap_alloc_new (w.alloc (.cells #[.int .i64 0,.int .i64 0,.int .i64 f0,.int .i64 f1,.int .i64 h,.int .i64 i,.int .i64 f4] 86)) (.cells #[.int .i64 0,.int .i64 0,.int .i64 0,.int .i64 0,.int .i64 0,.int .i64 0,.int .i64 0] 65);rw [World.size_alloc] at this;exact this
 have c0:c.cell? ⟨w.heap.size,0,none⟩=some (.int .i64 0):=Zf a 0;have c1:c.cell? ⟨w.heap.size,1,none⟩=some (.int .i64 0):=Zf a 1;have c2:c.cell? ⟨w.heap.size,2,none⟩=some (.int .i64 f0):=Zf a 2;have c3:c.cell? ⟨w.heap.size,3,none⟩=some (.int .i64 f1):=Zf a 3;have c4:c.cell? ⟨w.heap.size,4,none⟩=some (.int .i64 h):=Zf a 4;have c5:c.cell? ⟨w.heap.size,5,none⟩=some (.int .i64 i):=Zf a 5;have c6:c.cell? ⟨w.heap.size,6,none⟩=some (.int .i64 f4):=Zf a 6;have hi:(prog.info? 65).map (·.size)=some X.size:=by rw [f];exact Zmq
 have t:=Y4 (setRow_heap c (w.heap.size+1) _ X _ _ d);have r:=Y4 (ZhG (g:=w.heap.size+1) X j (by omega));have q:=Y4 hi;have n:Y5 ((#[.int .i64 0,.int .i64 0,.int .i64 0,.int .i64 0,.int .i64 0,.int .i64 0,.int .i64 0]:Array Value).size=X.size):=Y4 (by rw [f];rfl);have m:=Y4 k;have s:=Y4 d;have p:=Y4 l;have o:=Y4 b;clear j a d l hi k f b;go_enter func67,ntmps67;go_wp2_with (first|(refine wpList_store_row rfl 65 (.tmp 2) (.tmp 4) rfl (w.heap.size+1) X rfl (by rw [<- p.z];rfl) 65 #[.int .i64 0,.int .i64 0,.int .i64 0,.int .i64 0,.int .i64 0,.int .i64 0,.int .i64 0] s.z q.z n.z m.z ?_)|(rw [o.z]))
 refine bodyPost_ret (v:=.agg X) (results_cell_row rfl _ _ (w.heap.size+1) 65 X (0,0) _ rfl t.z underlying65 rfl q.z) rfl ⟨by rw [p.z],r.z⟩
theorem Zsy (p:ZiU) (w:World) (h:∀z∈[p.1,p.2.1,p.2.2.1,p.2.2.2.1,(p.2.2.2.2:Int)], -9223372036854775808<=z/\z<=9223372036854775807) :
  Calls prog 84 #[.agg #[.int .i64 0,.int .i64 0,.int .i64 p.1,.int .i64 p.2.1,.int .i64 p.2.2.1,.int .i64 p.2.2.2.1,.int .i64 (p.2.2.2.2:Int)]] w (ZV w.heap.size (Zdo p) w):=by
 obtain ⟨f0,f1,c,n⟩:=p;obtain ⟨d,n⟩:=n;dsimp only at h ⊢;obtain ⟨f4,k⟩:∃z:Int,(n:Int)=z:=⟨_,rfl⟩;have o:Zdo (f0,f1,c,d,n)=Zcc [f0,f1,c,d,f4]:=by rw [<- k];simp [Zdo,Zcc]
 rw [o];rw [k] at h ⊢;obtain ⟨b,f⟩:=Xn (w.alloc (.cells #[.int .i64 0,.int .i64 0,.int .i64 f0,.int .i64 f1,.int .i64 c,.int .i64 d,.int .i64 f4] 86));have g:Below w.heap.size w b:=by rw [<- f];exact (Below.refl _ _).alloc (Xa _) _
 have a:b.heap[w.heap.size]? = some (.cells #[.int .i64 0,.int .i64 0,.int .i64 f0,.int .i64 f1,.int .i64 c,.int .i64 d,.int .i64 f4] 86 (0,0)):=by rw [<- f];exact heap_alloc_new w _
 have c0:b.cell? ⟨w.heap.size,0,none⟩=some (.int .i64 0):=Zf a 0;have c1:b.cell? ⟨w.heap.size,1,none⟩=some (.int .i64 0):=Zf a 1;have c2:b.cell? ⟨w.heap.size,2,none⟩=some (.int .i64 f0):=Zf a 2;have c3:b.cell? ⟨w.heap.size,3,none⟩=some (.int .i64 f1):=Zf a 3;have c4:b.cell? ⟨w.heap.size,4,none⟩=some (.int .i64 c):=Zf a 4;have c5:b.cell? ⟨w.heap.size,5,none⟩=some (.int .i64 d):=Zf a 5;have c6:b.cell? ⟨w.heap.size,6,none⟩=some (.int .i64 f4):=Zf a 6;have i:=EV.Zyn b [f0,f1,c,d,f4] (by unfold maxLen;simp);have q:Below b.heap.size b (b.alloc (.cells #[.int .i64 f0,.int .i64 f1,.int .i64 c,.int .i64 d,.int .i64 f4] 3)):=(Below.refl _ _).alloc (Xa _) _;have u:=Y4 (ZmT (.slice none 0 0) (.slice (some ⟨b.heap.size,0,none⟩) 5 5) [] [f0,f1,c,d,f4] (b.alloc (.cells #[.int .i64 f0,.int .i64 f1,.int .i64 c,.int .i64 d,.int .i64 f4] 3)) (Zv.nil_ _) (ZqT i) (Zqz h) (by simp) (by simp));have v:=Y4 g;have l:=Y4 (g.trans (q.mono g.size));have s:=Y4 f;generalize Zcc [f0,f1,c,d,f4]=L at *;clear g a f i q h o k;go_enter func84,ntmps84;go_wp2_with (rw [s.z])
 refine u.z.mono ?_;rintro e w4 ⟨v4,rfl,j,m⟩;rw [XE] at j;have t:=Y4 (Zd.weaken j l.z.size);have r:=Y4 (l.z.trans (m.mono l.z.size));clear j m u;go_wp2_with fail;go_ret;exact ⟨_,rfl,t.z,r.z⟩
open RowKit MM
open EV (ZD Zae Z2)
open SM (Zq)
open GM (Zj ZiU)
variable {k:Nat}
theorem Zyh:(prog.info? 86).map (·.size)=some 7:=by kernel_rfl
def Zji (a:Int) (l:List Zq):Int:=l.foldl (fun m d=>min m d.2.1) a
def Zfa (a:Int) (l:List Zq):Int:=l.foldl (fun m d=>max m d.2.1) a
theorem ZvB {l:List Zq} (b:k<l.length) (a:Int):Zji a (l.take (k+1))=min (Zji a (l.take k)) l[k].2.1:=by
 unfold Zji;rw [XG b,XaZ];rfl
theorem ZsI {l:List Zq} (b:k<l.length) (a:Int):Zfa a (l.take (k+1))=max (Zfa a (l.take k)) l[k].2.1:=by
 unfold Zfa;rw [XG b,XaZ];rfl
theorem Zob:∀(r:List Zq) (a b c e:Int) (n:Nat),r.foldl GM.ZgD (a,b,c,e,n+1)=(Zji a r,Zfa b r,c,(r.map (·.1)).getLastD e,n+1+r.length)
 | [],a,b,c,e,n=>rfl
 | d::r,a,b,c,e,n=>by
   have h:GM.ZgD (a,b,c,e,n+1) d=(min a d.2.1,max b d.2.1,c,d.1,n+1+1):=rfl;rw [List.foldl_cons,h,Zob r,Xh];have f:n+1+1+r.length=n+1+(r.length+1):=by omega
   rw [f,XC,List.getLastD_cons];rfl
theorem ZqC {l:List Zq} {n:Nat} (h:l.length=n+1):Zj l=(Zji (l[0]'(by omega)).2.1 l,Zfa (l[0]'(by omega)).2.1 l,(l[0]'(by omega)).1,(l[n]'(by omega)).1,n+1):=by
 match l,h with
 | d::r,h =>
   have a:r.length=n:=by simpa using h
   have e:Zj (d::r)=r.foldl GM.ZgD (d.2.1,d.2.1,d.1,d.1,0+1):=rfl;have f:Zji d.2.1 (d::r)=Zji d.2.1 r:=by unfold Zji;rw [List.foldl_cons,Int.min_self]
   have c:Zfa d.2.1 (d::r)=Zfa d.2.1 r:=by unfold Zfa;rw [List.foldl_cons,Int.max_self]
   have b:(r.map (·.1)).getLastD d.1=((d::r)[n]'(by rw [h];omega)).1:=by
    rw [List.getLastD_eq_getLast?,List.getLast?_eq_getElem?];cases n with
    | zero =>
      have:r=[]:=XP a;subst this;rfl
    | succ n =>
      rw [XF,a,Nat.add_sub_cancel,Xa1,XZ (by omega)];rfl
   rw [e,Zob,Xbd,f,c,b,a];congr 4
   omega
theorem Zma (v:Value) (l:List Zq) (w:World) (hv:ZF ZD w v l) (h0:l≠[]):Calls prog 53 #[v] w fun e w'=>e=.returned (.agg #[.int .i64 0,.int .i64 0,.int .i64 (Zj l).1,.int .i64 (Zj l).2.1,.int .i64 (Zj l).2.2.1,.int .i64 (Zj l).2.2.2.1,.int .i64 ((Zj l).2.2.2.2:Int)])/\Below w.heap.size w w':=by
 obtain ⟨p,a1,rfl,aG,aJ,_⟩:=hv.shape;unfold maxLen at aJ;have hn:=Xaa.2 h0;obtain ⟨n,D⟩:∃n,l.length=n+1:=⟨l.length - 1,by omega⟩;obtain ⟨f,M⟩:=Xn (w.alloc (.cells #[.int .i64 0,.int .i64 0,.int .i64 0,.int .i64 0,.int .i64 0,.int .i64 0,.int .i64 0] 86));have I:Below w.heap.size w f:=by rw [<- M];exact (Below.refl _ _).alloc (Xa _) _
 obtain ⟨b,off,vf,rfl,a0,_,c1,c2,c3,hf⟩:=Z2 (hv.below I) (k:=0) (by omega);obtain ⟨b2,aX,a7,ay,aZ,_,e1,e2,e3,T⟩:=Z2 (hv.below I) (k:=n) (by omega);simp only [Xx,Addr.mk.injEq,and_true] at ay;obtain ⟨rfl,rfl⟩:=ay;have hF:=ZqC D;have ac:=Y4 (fun k (hk:k<l.length)=>ZvB hk (l[0]'(by omega)).2.1);have V:=Y4 (fun k (hk:k<l.length)=>ZsI hk (l[0]'(by omega)).2.1);have aR:Y5 (l.take (n+1)=l):=Y4 (by rw [<- D,XB]);obtain ⟨⟨j,⟨t,fs⟩⟩,hd⟩:∃d,(l[0]'(by omega))=d:=⟨_,rfl⟩;obtain ⟨⟨c,⟨t2,o⟩⟩,au⟩:∃d,(l[n]'(by omega))=d:=⟨_,rfl⟩;rw [hd] at c1 c2 hf hF ac V;rw [au] at e1 e2 T hF;dsimp only at c1 c2 hf e1 e2 T hF ac V;obtain ⟨LO,ag⟩:=Xn (Zji t l);obtain ⟨HI,af⟩:=Xn (Zfa t l);rw [ag,af] at hF;rw [hF];dsimp only;have aB:=Y4 ag;have aC:=Y4 af;obtain ⟨pf,cf,rfl,_⟩:=hf.shape;obtain ⟨u,s,rfl,_⟩:=T.shape;rw [Nat.zero_mul,Xad] at c1 c2 c3;have HV:=Y4 hv.bel;rw [D] at aG HV ⊢;obtain ⟨N,hN⟩:∃N:Int,((n+1:Nat):Int)=N:=⟨_,rfl⟩;have i0:(0:Int)<((n+1:Nat):Int):=by omega
 have i1:IntKind.i64.wrap (((n+1:Nat):Int) - 1)=(n:Int):=by rw [IntWalk.i64_left];rw [IntWalk.wrap64_in _ ⟨by omega,by omega⟩];omega
 have i2:(n:Int)<((n+1:Nat):Int):=by omega
 have ae:f.heap[w.heap.size]? = some (.cells #[.int .i64 0,.int .i64 0,.int .i64 0,.int .i64 0,.int .i64 0,.int .i64 0,.int .i64 0] 86 (0,0)):=by rw [<- M];exact heap_alloc_new _ _
 have aP:w.heap.size<f.heap.size:=(Xq.1 ae).1;have ax:=Y4 M;have aw:=Y4 I;have aT:=Y4 ae;have aV:=Y4 D;have HN:=Y4 hN;clear hf T I M h0 hv hF ag af ae D hd au hN hn;go_enter func53,ntmps53;go_wp2_with (rw [ax.z])
 go_region
 all_goals (
  first
  | (
    obtain ⟨W,C⟩:=Xn (((f.alloc (.cells #[.int .i64 c,.int .i64 t2,.slice u o.length s] 59)).alloc (.cells #[.int .i64 j,.int .i64 t,.slice pf fs.length cf] 59)).drew);have J:Below f.heap.size f W:=by rw [<- C];exact (((Below.refl _ _).alloc (Xa _) _).alloc (by simp) _).drew
    have B:Three W (f.heap.size+1) 59 (.int .i64 j) (.int .i64 t) (.slice pf fs.length cf):=by
     rw [<- C];have:=Zaj (f.alloc (.cells #[.int .i64 c,.int .i64 t2,.slice u o.length s] 59)) 59 (.int .i64 j) (.int .i64 t) (.slice pf fs.length cf);rw [World.size_alloc] at this;exact this.keep (Zcg (fun _=>True) _) trivial
    have hY:Three W f.heap.size 59 (.int .i64 c) (.int .i64 t2) (.slice u o.length s):=by
     rw [<- C];exact ((Zaj f 59 _ _ _).keep (Zu (fun _=>True) _ _) trivial).keep (Zcg (fun _=>True) _) trivial
    obtain ⟨a3,y⟩:=Xn (f.heap.size+1);rw [C,y];rw [y] at B;obtain ⟨a4,z⟩:=Xn f.heap.size;rw [z];have L:=B;have H:=hY;rw [z] at H;clear C y B hY)
  | (
    obtain ⟨W,C⟩:=Xn (((f.alloc (.cells #[.int .i64 j,.int .i64 t,.slice pf fs.length cf] 59)).alloc (.cells #[.int .i64 c,.int .i64 t2,.slice u o.length s] 59)).drew);have J:Below f.heap.size f W:=by rw [<- C];exact (((Below.refl _ _).alloc (Xa _) _).alloc (by simp) _).drew
    have hY:Three W (f.heap.size+1) 59 (.int .i64 c) (.int .i64 t2) (.slice u o.length s):=by
     rw [<- C];have:=Zaj (f.alloc (.cells #[.int .i64 j,.int .i64 t,.slice pf fs.length cf] 59)) 59 (.int .i64 c) (.int .i64 t2) (.slice u o.length s);rw [World.size_alloc] at this;exact this.keep (Zcg (fun _=>True) _) trivial
    have B:Three W f.heap.size 59 (.int .i64 j) (.int .i64 t) (.slice pf fs.length cf):=by
     rw [<- C];exact ((Zaj f 59 _ _ _).keep (Zu (fun _=>True) _ _) trivial).keep (Zcg (fun _=>True) _) trivial
    obtain ⟨a4,z⟩:=Xn (f.heap.size+1);rw [C,z];rw [z] at hY;obtain ⟨a3,y⟩:=Xn f.heap.size;rw [y];have L:=B;have H:=hY;rw [y] at L;clear C z B hY)
  obtain ⟨x0,x1,x2⟩:=L.cells;obtain ⟨y0,y1,y2⟩:=H.cells;have a2:((n:Int)+1)=N:=by rw [<- HN.z];omega
  have al:=Y4 (aw.z.trans (J.mono aw.z.size));have Z:=Y4 ((J.block _ aP).trans aT.z);clear L H J c1 c2 c3 e1 e2 e3 ax;obtain ⟨a,ak⟩:=Xn W.heap.size;obtain ⟨W5,S⟩:=Xn (W.alloc (.cells #[.int .i64 0,.int .i64 0,.int .i64 t,.int .i64 t,.int .i64 j,.int .i64 c,.int .i64 N] 65));have aA:Y5 (W5.heap[a]? = some (.cells #[.int .i64 0,.int .i64 0,.int .i64 t,.int .i64 t,.int .i64 j,.int .i64 c,.int .i64 N] 65 (0,0))):=Y4 (by rw [<- S,<- ak];exact heap_alloc_new _ _);have Y:Below W.heap.size W W5:=by rw [<- S];exact (Below.refl _ _).alloc (Xa _) _
  have ar:=Y4 (al.z.trans (Y.mono al.z.size));have ao:=Y4 ((Y.block _ (Xq.1 Z.z).1).trans Z.z);have aH:Y5 (w.heap.size<a):=Y4 (by rw [<- ak];exact (Xq.1 Z.z).1);have aU:=Y4 S;clear S Y;go_wp2_with (rw [aU.z])
  have H0:Y5 (Zji t (l.take 0)=t/\Zfa t (l.take 0)=t):=Y4 ⟨rfl,rfl⟩;have aq:Y5 (Below w.heap.size w W5):=ar
  go_loopw [32] (fun iv wr=>∃(k:Nat) (lo hi:Int),k<=n+1/\iv=.int .i64 k/\Y5 (Zji t (l.take k)=lo/\Zfa t (l.take k)=hi)/\Y5 (wr.heap[a]? = some (.cells #[.int .i64 0,.int .i64 0,.int .i64 lo,.int .i64 hi,.int .i64 j,.int .i64 c,.int .i64 N] 65 (0,0)))/\Y5 (wr.heap[w.heap.size]? = some (.cells #[.int .i64 0,.int .i64 0,.int .i64 0,.int .i64 0,.int .i64 0,.int .i64 0,.int .i64 0] 86 (0,0)))/\Y5 (Below w.heap.size w wr)) (fun iv _=>n+1 - (intOf iv).toNat)
  case atStart=>exact ⟨0,t,t,by omega,rfl,H0,aA,ao,aq⟩
  case round =>
   obtain ⟨k,lo,hi,hk,rfl,E,HP,HG,HB⟩:=hrel;clear H0 aq aA ao ar x0 x1 x2 y0 y1 y2
   by_cases aN:k<n+1
   ·have q1:decide ((k:Int)<((n+1:Nat):Int))=true:=Xt;have q2:decide ((k:Int)<N)=true:=by rw [Xg,<- HN.z];omega
    have q3:decide (k<n+1)=true:=Xt;have q4:(k:Int)<((n+1:Nat):Int):=by omega
    have q5:(k:Int)<N:=by rw [<- HN.z];omega
    have ah:k<l.length:=by rw [aV.z];omega
    obtain ⟨bk,ok,vk,az,a6,_,c1,c2,c3,G⟩:=Z2 (ZB.keep HV.z (Ziz HB.z) fun _ _ h=>h) ah;simp only [Xx,Addr.mk.injEq,and_true] at az;obtain ⟨rfl,rfl⟩:=az;have m:=ac.z k ah;have r:=V.z k ah;rw [E.z.1] at m;rw [E.z.2] at r;obtain ⟨⟨sk,⟨F,fk⟩⟩,ap⟩:∃d,l[k]=d:=⟨_,rfl⟩;rw [ap] at c1 c2 G m r;dsimp only at c1 c2 G m r;obtain ⟨pk,ck,rfl,_⟩:=G.shape;obtain ⟨A,ai⟩:=Xn (min lo F);obtain ⟨m2,aj⟩:=Xn (max hi F);rw [ai] at m;rw [aj] at r;have aW:(if F<lo then F else lo)=A:=by rw [<- ai];split<;>omega
    have aY:(if hi<F then F else hi)=m2:=by rw [<- aj];split<;>omega
    obtain ⟨q,hq⟩:=Xn wr.heap.size;obtain ⟨i,O⟩:=Xn (wr.alloc (.cells #[.int .i64 sk,.int .i64 F,.slice pk fk.length ck] 59));have x:Below wr.heap.size wr i:=by rw [<- O];exact (Below.refl _ _).alloc (Xa _) _
    have am:=(Xq.1 HP.z).1;have a5:=aH.z;have tb:Three i q 59 (.int .i64 sk) (.int .i64 F) (.slice pk fk.length ck):=by rw [<- O,<- hq];exact Zaj wr 59 _ _ _
    have p1:i.heap[a]? = some (.cells #[.int .i64 0,.int .i64 0,.int .i64 lo,.int .i64 hi,.int .i64 j,.int .i64 c,.int .i64 N] 65 (0,0)):=(x.block a am).trans HP.z;have d1:i.cell? ⟨a,2,none⟩=some (.int .i64 lo):=Zf p1 2;have d2:i.frozen? ⟨a,2,none⟩=false:=frozen_of_row i a 2 _ _ p1;have u1:i.cell? ⟨q,1,none⟩=some (.int .i64 F):=tb.c1;have p2:(i.setCell ⟨a,2,none⟩ (.int .i64 A)).heap[a]? = some (.cells #[.int .i64 0,.int .i64 0,.int .i64 A,.int .i64 hi,.int .i64 j,.int .i64 c,.int .i64 N] 65 (0,0)):=heap_setCell_same i a 2 _ _ _ p1;have d3:(i.setCell ⟨a,2,none⟩ (.int .i64 A)).cell? ⟨a,3,none⟩=some (.int .i64 hi):=Zf p2 3;have d4:(i.setCell ⟨a,2,none⟩ (.int .i64 A)).frozen? ⟨a,3,none⟩=false:=frozen_of_row _ a 3 _ _ p2;have ad:Kep (fun b=>b≠a) i (i.setCell ⟨a,2,none⟩ (.int .i64 A)):=Zy (fun h=>h rfl) _;have aM:q≠a:=by omega
    have u2:(i.setCell ⟨a,2,none⟩ (.int .i64 A)).cell? ⟨q,1,none⟩=some (.int .i64 F):=(tb.keep ad aM).c1;have ab:Kep (fun b=>b≠a) i ((i.setCell ⟨a,2,none⟩ (.int .i64 A)).setCell ⟨a,3,none⟩ (.int .i64 m2)):=ad.trans (Zy (fun h=>h rfl) _);have aF:Y5 (((i.setCell ⟨a,2,none⟩ (.int .i64 A)).setCell ⟨a,3,none⟩ (.int .i64 m2)).heap[a]? = some (.cells #[.int .i64 0,.int .i64 0,.int .i64 A,.int .i64 m2,.int .i64 j,.int .i64 c,.int .i64 N] 65 (0,0))):=Y4 (heap_setCell_same _ a 3 _ _ _ p2);have U:=(Xq.1 HG.z).1;have aQ:=Y4 ((ab.block w.heap.size (by have:=x.size;omega) (by omega)).trans ((x.block _ U).trans HG.z));have aS:=Y4 ((HB.z.trans (x.mono HB.z.size)).trans (ab.below (Xy HB.z.size x.size) fun b hb=>by omega));have an:=Y4 (show Zji t (l.take (k+1))=A/\Zfa t (l.take (k+1))=m2 from ⟨m,r⟩);have aL:=Y4 O;clear x O G ap p1 p2 ad ab tb m r E HP HG HB am U;go_wp2_with (rw [aL.z])
    go_roundw
    case rel=>exact ⟨k+1,A,m2,by omega,by go_num,an,aF,aQ,aS⟩
    case measure=>simp [intOf];omega
   ·obtain rfl:k=n+1:=by omega
    have q1:decide (((n+1:Nat):Int)<((n+1:Nat):Int))=false:=by simp
    have q2:decide (((n+1:Nat):Int)<N)=false:=by rw [Xj,<- HN.z];omega
    have av:=E.z;rw [aR.z,aB.z,aC.z] at av;obtain ⟨e1,e2⟩:=av;have R:=HP.z;rw [<- e1,<- e2] at R;clear e1 e2;have c0:wr.cell? ⟨a,0,none⟩=some (.int .i64 0):=Zf R 0;have c1:wr.cell? ⟨a,1,none⟩=some (.int .i64 0):=Zf R 1;have c2:wr.cell? ⟨a,2,none⟩=some (.int .i64 LO):=Zf R 2;have c3:wr.cell? ⟨a,3,none⟩=some (.int .i64 HI):=Zf R 3;have c4:wr.cell? ⟨a,4,none⟩=some (.int .i64 j):=Zf R 4;have c5:wr.cell? ⟨a,5,none⟩=some (.int .i64 c):=Zf R 5;have c6:wr.cell? ⟨a,6,none⟩=some (.int .i64 N):=Zf R 6;obtain ⟨X,B⟩:∃X:Array Value,#[.int .i64 0,.int .i64 0,.int .i64 LO,.int .i64 HI,.int .i64 j,.int .i64 c,.int .i64 N]=X:=⟨_,rfl⟩;have aa:X.size=7:=by rw [<- B];rfl
    have aI:Y5 (X.all (·.oneCell')=true):=Y4 (by rw [<- B];simp [Value.oneCell']);have aD:Y5 ((prog.info? 86).map (·.size)=some X.size):=Y4 (by rw [aa];exact Zyh);have aE:=Y4 (setRow_heap wr w.heap.size _ X _ _ HG.z);have aK:=Y4 (ZhG (g:=w.heap.size) X HB.z (Xa _));have aO:Y5 ((#[.int .i64 0,.int .i64 0,.int .i64 0,.int .i64 0,.int .i64 0,.int .i64 0,.int .i64 0]:Array Value).size=X.size):=Y4 (by rw [aa];rfl);have HX:=Y4 B;clear B aa R E HP aN;go_wp2_with (refine wpList_store_row rfl 86 (.tmp 2) (.tmp 52) rfl w.heap.size X rfl (by rw [<- HX.z];rfl) 86 #[.int .i64 0,.int .i64 0,.int .i64 0,.int .i64 0,.int .i64 0,.int .i64 0,.int .i64 0] HG.z aD.z aO.z aI.z ?_)
    refine bodyPost_ret (v:=.agg X) (results_cell_row rfl _ _ w.heap.size 86 X (0,0) _ rfl aE.z underlying86 rfl aD.z) rfl ⟨by rw [<- HX.z,HN.z],aK.z⟩)
end SG
namespace ST
open RowKit MM DM VM VP GB
theorem Zaz (n:Nat):Zb n≠[]:=fun h=>by
 have:=Zc n;rw [h] at this;simp at this
theorem Zcm (v:Value) (l:Xu) (n:Int) (w:World) (A:0<=n) (h1:n<=9223372036854775807) (b:Zd 0 w v l) (x:l.length<=1000000000000) :
  Calls prog 87 #[v,.int .i64 n] w (Zlp (l++Zb n.toNat) v w):=by
 obtain ⟨m,rfl⟩:=Xay A;rw [XY];have a:=VP.ZcW m w (by omega);have s:=Zc m;have c:=Zaz m;obtain ⟨M,u⟩:=Xn (Zb m);rw [u] at a s c ⊢;have z:=Y4 a;have y:=Y4 b;have r:=Y4 c;have hw:IntKind.u64.wrap (m:Int)=(m:Int):=by rw [IntKind.wrap_u64];omega
 obtain ⟨p,B,rfl,_⟩:=(Zd.brow b).shape;clear a b u c;go_enter func87,ntmps87;go_wp2_with fail;refine z.z.mono ?_;rintro e w1 ⟨v1,rfl,d,f⟩;have i:=Y4 (y.z.keep f);have o:=Y4 (Zd.brow d);have q:=Y4 f;have t:=Y4 (Zaw y.z);obtain ⟨p1,c1,rfl,_⟩:=(Zd.brow d).shape;clear d f z;go_wp2_with (at_builtin;refine Zn rfl _ _ rfl _ l rfl i.z _ M rfl o.z r.z (by omega) ?_)
 intro v2 w2 g h;have k:=Y4 g;have j:=Y4 (h.of_below q.z t.z);clear g h;go_wp2_with fail;go_ret;exact ⟨_,rfl,k.z,j.z⟩
end ST
namespace EV
open RowKit MM EM VM GB
open VP
theorem Zaz (n:Nat):Zb n≠[]:=by
 intro h;have:=(Zc n).1;rw [h] at this;simp at this
theorem ZA2 (z:Int):ZaV z≠[]:=Zaz _
theorem ZfW (s:Xu):Z5 s≠[]:=by
 intro h;have:=(ZdM s).2;rw [h] at this;simp at this
theorem ZqQ (z:Int):(ZaV z).length<=10:=(Zc _).2
theorem ZlM (w:World):Zv w (.slice none 0 0) []:=BIn.nil_ _ w
theorem Zov (t:Xu) (ht:t.length<=4096) (W:World):Calls prog 199 #[.slice none 0 0,.string ⟨t.toArray⟩] W (ZV W.heap.size (Z5 t) W):=by
 have h:=Zho (.slice none 0 0) [] ⟨t.toArray⟩ W (ZlM _) (by rw [ZaX];simp;omega);rw [XE,ZcO] at h;exact h
theorem Zvp {α:Type} {C:Codec α} {w w':World} {v v' u:Value} {a:List α} (h:ZB C (fun b=>v.ownBlock≠some b) w u a) (c:Grown w w' v v'):ZB C (fun b=>v.ownBlock≠some b) w' u a:=h.keep c.kep fun _ _ h=>h
theorem fits (m:Nat) (L:Xu) (fs:List Fld) (z:Int) (b:fs.length<=16) (c:∀f∈fs,f.1.length<=4096/\f.2.length<=4096) (hl:L.length<=1000000000):∀k,(L++ZaV z++Zb m++ZJ (fs.take k)).length<=1001000000:=fun k=>by
 have d:=ZqQ z;have j:=(Zc m).2;have h3:=Zim (fs.take k)
 have h4:Zap (fs.take k)<=8192*(fs.take k).length:=by
  have:∀a:List Fld,(∀f∈a,f.1.length<=4096/\f.2.length<=4096)->Zap a<=8192*a.length:=by
   intro a
   induction a with
   | nil=>simp [Zap]
   | cons f r ih =>
     intro h;have d:=h f (by simp);have j:=ih fun g i=>h g (by simp [i]);have e:Zap (f::r)=f.1.length+f.2.length+Zap r:=by simp [Zap]
     rw [e,Xh];omega
  exact this _ fun f hf=>c f (Xaq hf)
 have h5:(fs.take k).length<=fs.length:=XaU _ _;simp only [Xd];omega
theorem Zw9 (v:Value) (l:Xu) (z:Int) (u:Value) (fs:List Fld) (w:World) (n:Zd 0 w v l) (hr:ZB Zae (fun b=>v.ownBlock≠some b) w u fs) (h0 : -9223372036854775808<=z) (h1:z<=9223372036854775807) (aL:fs.length<=16) (hx:∀f∈fs,f.1.length<=4096/\f.2.length<=4096) (hl:l.length<=1000000000) :
  Calls prog 244 #[v,.agg #[.int .i64 z,u]] w (Zlp (l++Z0 (z,fs)) v w):=by
 obtain ⟨p,ag,rfl,aO,aD,_⟩:=hr.shape;unfold maxLen at aD;have ar:=Zbx w z (.slice p fs.length ag);have HP:=Y4 (Zs6 (.slice none 0 0) [] z (ZaZ w z (.slice p fs.length ag)) h0 h1 (ZlM _) (by simp));have O:=Y4 (fits fs.length l fs z aL hx hl);have HX:=Y4 hx;have HO:=Y4 n;have HR:=Y4 hr;have aw:=Y4 (Zaw n);have am:=Y4 ar;have U:Y5 (l++ZaV z++Zb fs.length++ZJ (fs.take fs.length)=l++Z0 (z,fs)):=Y4 (by rw [XB];unfold Z0;simp);clear n hr hx hl ar;go_enter func244,ntmps244;go_wp2_with fail;refine HP.z.mono ?_;rintro e w1 ⟨v1,rfl,J,q⟩;rw [XE] at J;have i:Below w.heap.size w w1:=am.z.trans (q.mono am.z.size);have c:w.heap.size<w1.heap.size:=by have:=q.size;rw [ZbX] at this;omega
 have s:=Y4 (HO.z.keep i);have T:=Y4 J;have aC:=Y4 (ZcR q);have aJ:=Y4 i;have aR:=Y4 (ZqQ z);have af:v.ownBlock≠some w.heap.size:=fun e=>absurd (aw.z _ e) (Nat.lt_irrefl _);clear J q i HP;go_wp2_with (at_builtin;go_loud (refine Zn rfl _ _ rfl v l rfl s.z _ (ZaV z) rfl T.z.brow (ZA2 z) (by have:=O.z 0;simp only [Xd] at this;omega) ?_;intro v2 w2 ay m;have d1:=(m.kep.cell c af 1).trans aC.z.2.1;have x:w.heap.size<w2.heap.size:=XJ c m.1.size;have S:v2.ownBlock≠some w.heap.size:=fun e=>(m.2 _ e).elim af fun h=>absurd c (Nat.not_lt.2 h);have az:=Y4 ay;have ae:=Y4 (Grown.of_below aJ.z m aw.z);clear ay m))
 have HQ:=Y4 (Zdd (.slice none 0 0) [] fs.length w2 (by omega) (ZlM _) (by simp));refine HQ.z.mono ?_;rintro e w3 ⟨v3,rfl,H,j⟩;rw [XE] at H;have ac:=Y4 H;have t:=Y4 (az.z.keep j);have e1:=(j.cell (p:=⟨w.heap.size,1,none⟩) x).trans d1;have ap:=Y4 (Grown.below ae.z j);have V:w.heap.size<w3.heap.size:=XJ x j.size;clear H j HQ d1;go_wp2_with (at_builtin;go_loud (refine Zn rfl _ _ rfl v2 (l++ZaV z) rfl t.z _ (Zb fs.length) rfl ac.z.brow (Zaz _) (by have:=O.z 0;simp only [Xd] at this;simp only [Xd];omega) ?_;intro v4 w4 an N;have d1:=(N.kep.cell V S 1).trans e1;have ab:Y5 (Zd 0 w4 v4 (l++ZaV z++Zb fs.length++ZJ (fs.take 0))):=Y4 (by rw [show l++ZaV z++Zb fs.length++ZJ (fs.take 0)=l++ZaV z++Zb fs.length by simp [EM.ZJ]];exact an);have Z:=Y4 (ap.z.trans N);clear an N))
 go_loopw [0,22] (fun bv iv wr=>∃k:Nat,k<=fs.length/\iv=.int .i64 k/\Y5 (Zd 0 wr bv (l++ZaV z++Zb fs.length++ZJ (fs.take k)))/\Y5 (Grown w wr v bv)) (fun _ iv _=>fs.length - (intOf iv).toNat)
 case atStart=>exact ⟨0,by omega,rfl,ab,Z⟩
 case round =>
  obtain ⟨k,hk,rfl,HOk,r⟩:=hrel;clear ab Z t ac ap az ae s T d1 e1
  by_cases a:k<fs.length
  ·have q1:decide ((k:Int)<(fs.length:Int))=true:=Xt;have q2:decide (k<fs.length)=true:=Xt;have q3:(k:Int)<(fs.length:Int):=by omega
   obtain ⟨b,off,rfl,aP,aQ,c1,c2⟩:=ZeN (Zvp HR.z r.z) a;have au:=HX.z fs[k] (XI a);have M:=ZkA a;have g:=O.z (k+1);rw [M] at g;generalize fs[k].1=G at *;generalize fs[k].2=R at *;have D:l++ZaV z++Zb fs.length++ZJ (fs.take (k+1))=l++ZaV z++Zb fs.length++ZJ (fs.take k)++Z5 G++Z5 R:=by rw [M];simp
   obtain ⟨L,hL⟩:=Xn (l++ZaV z++Zb fs.length++ZJ (fs.take k));have y:(L++Z5 G++Z5 R).length<=1001000000:=by rw [<- hL];rw [<- Xk] at g;rw [<- Xk] at g;exact g
   rw [hL] at D;have A:=HOk.z;rw [hL] at A;have X:=Y4 A;have aM:=Y4 D;have ao:=Y4 (fun W=>Zov G au.1 W);have al:=Y4 (fun W=>Zov R au.2 W);have aF:=Y4 a;have aK:=Y4 (Zaw A);clear M g hL A D HOk a;go_wp2_with fail;have I:Below wr.heap.size wr (wr.alloc (.cells #[.string ⟨G.toArray⟩,.string ⟨R.toArray⟩] 123)):=(Below.refl _ _).alloc (Xa _) _;have aq:=(ZhP wr (.string ⟨G.toArray⟩) (.string ⟨R.toArray⟩) 123).2;refine (ao.z _).mono ?_;rintro e w5 ⟨v5,rfl,ah,o⟩;have d:Below wr.heap.size wr w5:=I.trans (o.mono I.size);have B:wr.heap.size<w5.heap.size:=by have:=o.size;rw [World.size_alloc] at this;omega
   have k1:=(o.cell (p:=⟨wr.heap.size,1,none⟩) (by rw [World.size_alloc];exact Nat.lt_succ_self _)).trans aq;have ak:=Y4 ah;have aa:=Y4 (X.z.keep d);have ad:=Y4 (Grown.below r.z d);have aA:u0.ownBlock≠some wr.heap.size:=fun e=>absurd (aK.z _ e) (Nat.lt_irrefl _);clear I aq ah o d ao c1 c2 r;go_wp2_with (at_builtin;go_loud (refine Zn rfl _ _ rfl u0 L rfl aa.z _ (Z5 G) rfl ak.z.brow (ZfW _) (by simp only [Xd] at y;omega) ?_;intro v6 w6 ai F;have k2:=(F.kep.cell B aA 1).trans k1;have aj:=Y4 ai;have ax:=Y4 (ad.z.trans F);clear ai F))
   refine (al.z _).mono ?_;rintro e w7 ⟨v7,rfl,av,E⟩;have aN:=Y4 av;have aH:=Y4 (aj.z.keep E);have aG:=Y4 (Grown.below ax.z E);clear av E al k1 k2 aj ax ak aa ad;go_wp2_with (at_builtin;go_loud (refine Zn rfl _ _ rfl v6 (L++Z5 G) rfl aH.z _ (Z5 R) rfl aN.z.brow (ZfW _) (by simp only [Xd] at y;simp only [Xd];omega) ?_;intro v8 w8 C Y;rw [<- aM.z] at C;have aB:=Y4 C;have aE:=Y4 (aG.z.trans Y);clear C Y))
   have a:=aF.z;go_roundw
   case rel=>exact ⟨k+1,by omega,by go_num,aB,aE⟩
   case measure=>simp [intOf];omega
  ·obtain rfl:k=fs.length:=by omega
   have q1:decide ((fs.length:Int)<(fs.length:Int))=false:=by simp
   have q2:decide (fs.length<fs.length)=false:=by simp
   have A:=HOk.z;rw [U.z] at A;have aI:=Y4 A;clear HOk A a;go_wp2_with fail;go_ret;exact ⟨_,rfl,aI.z,r.z⟩
end EV
namespace GB
open RowKit MM
theorem Zdq {F:Fence} {n:Nat} {w:World} {ops:Array Oper} {rest:List Oper} {o:Oper} {a:Act} {Q:Exit->Act->World->Prop} (y:o.guard=none) (s x:Operand)
  (t:o.op=.call { callee:=.builtin .append,args:=#[s,x],argTypes:=#[23,23] }) (v:Value) (l:Xu) (hs:a.eval s=v) (f:Zd 0 w v l)
  (src:Value) (m:Xu) (A:a.eval x=src) (N:Zv w src m) (M:m≠[]\/src=.slice none 0 0) (I:l.length+m.length<=140737488355328)
  (h:∀v' w',Zd 0 w' v' (l++m)->Grown w w' v v'->wpListIn F n prog ops Q rest (a.put o.dst v') w'):wpListIn F n prog ops Q (o::rest) a w:=by
 obtain ⟨i0,hi,E,B,H⟩:=info_parts ZaI;obtain ⟨p,G,rfl,_,_,h3,z⟩:=N;rcases z with z|⟨b,off,rfl,_,z⟩
 ·have e:m=[]:=by
   have:=Zi m;rw [z] at this;exact XP (by simpa using this.symm)
  have i:=M.resolve_left fun h=>h e;subst e;refine wpListIn_plain y fun K r => ?_;have d:=run_append_owned_none (P:=prog) (w:=w) 0 23 o.type 5 i0 1 underlying23 hi v l.length (Lib.byteCells l) f;have D:=h v w (by rw [XH];exact f) (Grown.refl w v);rw [i] at A;unfold Oper.wpIn;refine ⟨?_,?_⟩
  ·simp [Oper.about,t,resolve,Target.leads,Sem.run_pure]
  ·rw [Oper.semAt_plain F _ _ (by rw [t];intro c q;cases q)];simp [execOp,t,resolve,invoke,builtin,hs,A,d,Result.andThen];exact r _ _ D
 ·by_cases e:m=[]
  ·have i:=M.resolve_left fun h=>h e;cases i
  ·have h0:=Xaa.2 e;refine wpListIn_plain y fun K r => ?_
   obtain ⟨g,cap',w',d,J,C,R,h5⟩:=run_append_lies (P:=prog) w 23 o.type 0 5 i0 (.int .u8 0) 1 1 underlying23 hi E B H rfl (by decide) v l.length (Lib.byteCells l) f ⟨b,off,none⟩ (Lib.byteCells m).length G (Lib.byteCells m) (by simp)
    (fun j u O=>by rw [ZZ];exact z j u O) (byteCells_one m) (by rw [Zi];omega) (by rw [Zi];unfold maxLen;omega) (by rw [Zi];omega) (XX _) w.heap.size rfl
   have D:=h _ w' (by
    unfold Zd;rw [Xd,byteCells_append];rw [Zi] at J
    exact J) ⟨C,fun k L=>by
     simp only [Value.ownBlock,Xx] at L;subst L;rcases R with h|h
     ·exact .inl h
     ·exact .inr (Nat.le_of_eq h.symm)⟩
   unfold Oper.wpIn;refine ⟨?_,?_⟩
   ·simp [Oper.about,t,resolve,Target.leads,Sem.run_pure]
   ·rw [Oper.semAt_plain F _ _ (by rw [t];intro c q;cases q)];rw [Zi] at d;rw [Zi] at A;simp [execOp,t,resolve,invoke,builtin,hs,A,d,Result.andThen];exact r _ _ D
end GB
namespace EV
open RowKit MM EM VM
variable {B g:Nat} {w w1:World} {l m:Xu} {o:Bool} {v:Value}
def Ze (m:Nat) (l:Xu) (o:Bool):Nat×Xu×Bool:=if (Zs l).2.2=0/\(Zs l).1<=m then ((Zs l).1,VG.Zau l,o) else (0,[],true)
def Zbi (l:Xu) (o:Bool):Int×Xu×Bool:=((Za8 l).1,VG.Zau l,o||(Za8 l).2.2 != 0)
def Z6 (m:Int) (l:Xu) (o:Bool):Xu×Xu×Bool:=((Zah l m).1,VG.Zei l m,o||(Zah l m).2.2 != 0)
def Rd (B:Nat) (w:World) (g:Nat) (l:Xu) (o:Bool):Prop:=∃v,w.heap[g]? = some (.cells #[v,.bool o] 326 (0,0))/\BIn B w v l
theorem Rd.lt (h:Rd B w g l o):g<w.heap.size:=by obtain ⟨v,h,_⟩:=h;exact (Xq.1 h).1
theorem Rd.keep {S:Nat->Prop} {w':World} (h:Rd B w g l o) (b:Kep S w w') (f:S g) (e:∀k,k<B->S k) (a:B<=w.heap.size):Rd B w' g l o:=by
 have d:=h.lt;obtain ⟨v,h,c⟩:=h;exact ⟨v,(b.block g d f).trans h,c.below (b.below a e)⟩
theorem Zgr (h:Rd B w g l o) (d:Below w.heap.size w w1) (c:B<=g) (e:BIn B w1 v m):Rd B (w1.setCell ⟨g,0,none⟩ v) g m o:=by
 obtain ⟨v0,h,_⟩:=h;have a:=(Xq.1 h).1;have b:=heap_setCell_same w1 g 0 _ _ v ((d.block g a).trans h);exact ⟨v,b,e.below ((Below.refl B w1).setCell (p:=⟨g,0,none⟩) c v)⟩
theorem Zju (h:Rd B w g l o) (e:Below w.heap.size w w1) (b:B<=g) (f:BIn B w1 v m):Rd B ((w1.setCell ⟨g,0,none⟩ v).setCell ⟨g,1,none⟩ (.bool true)) g m true:=by
 obtain ⟨v0,h,_⟩:=h;have a:=(Xq.1 h).1;have c:=heap_setCell_same w1 g 0 _ _ v ((e.block g a).trans h);have d:=heap_setCell_same _ g 1 _ _ (.bool true) c;exact ⟨v,d,(f.below ((Below.refl B w1).setCell (p:=⟨g,0,none⟩) b v)).below ((Below.refl B _).setCell (p:=⟨g,1,none⟩) b (.bool true))⟩
def ZfA (B g:Nat) (x:Value) (l:Xu) (o:Bool) (w:World) (e:Ending) (w':World):Prop:=e=.returned x/\Rd B w' g l o/\Kep (fun b=>b≠g) w w'
theorem Zbs (B g:Nat) (l m:Xu) (o:Bool) (v:Value) (b:Int) (w:World) (h:Rd B w g l o) (k:B<=g) (d:BIn B w v m) :
  Calls prog 283 #[.pointer (some ⟨g,0,none⟩),v,.int .i64 b] w (ZfA B g (.tuple #[]) m (o||b != 0) w):=by
 have e:=Y4 h;have p:=h.lt;obtain ⟨v0,a,_⟩:=h;have c:=Y4 d;have f0:=cell_of_row w g 0 _ _ _ a;have f1:=cell_of_row w g 1 _ _ _ a;have f2:=frozen_of_row w g 0 _ _ a;have f3:=frozen_of_row w g 1 _ _ a;obtain ⟨n,c1,rfl,_⟩:=d.shape
 by_cases j:b=0
 ·subst j;have i:(o||((0:Int) != 0))=o:=by simp
  rw [i];have f:=Y4 (show ZfA B g (.tuple #[]) m o w (.returned (.tuple #[])) (w.setCell ⟨g,0,none⟩ (.slice n m.length c1)) from ⟨rfl,Zgr e.z (Below.refl _ _) k c.z,Zy (by simp) _⟩);clear d c e a;go_enter func283,ntmps283;go_wp2_with fail;refine bodyPost_end (results_none rfl _ _ _) rfl ?_;exact f.z
 ·have t0:(b != 0)=true:=by rw [Xah];exact j
  have i:(o||(b != 0))=true:=by rw [t0];simp
  rw [i];have f:=Y4 (show ZfA B g (.tuple #[]) m true w (.returned (.tuple #[])) ((w.setCell ⟨g,0,none⟩ (.slice n m.length c1)).setCell ⟨g,1,none⟩ (.bool true)) from ⟨rfl,Zju e.z (Below.refl _ _) k c.z,(Zy (by simp) _).trans (Zy (by simp) _)⟩);clear d c e a;go_enter func283,ntmps283;go_wp2_with fail;refine bodyPost_end (results_none rfl _ _ _) rfl ?_;exact f.z
theorem ZzH (B g:Nat) (l:Xu) (o:Bool) (w:World) (h:Rd B w g l o) (r:B<=g) :
  Calls prog 276 #[.pointer (some ⟨g,0,none⟩)] w (ZfA B g (.int .i64 (Zbi l o).1) (Zbi l o).2.1 (Zbi l o).2.2 w):=by
 have C:=Y4 h;have b:=h.lt;obtain ⟨v,t,s⟩:=h;have f0:w.cell? ⟨g,0,none⟩=some v:=by rw [cell_of_row w g 0 _ _ _ t];rfl
 have u:=Y4 (VG.Zvm B v l w s (Xal (Xbl r b)));have c:=Y4 (fun m v k w1 (z:Rd B w1 g l o) (i:BIn B w1 v m)=>Zbs B g l m o v k w1 z r i);unfold Zbi;generalize (Za8 l).1=n at *;generalize (Za8 l).2.2=k at *;generalize VG.Zau l=R at *;have j:=Y4 (show B<=w.heap.size by omega);clear s t b;go_enter func276,ntmps276;go_wp2_with fail;refine u.z.mono ?_;rintro e w1 ⟨y,rfl,f,a⟩;have d:=C.z.keep (S:=fun _=>True) (Za _ a) trivial (fun _ _=>trivial) j.z;have q:=Y4 (c.z R y k w1 d f);have p:=Y4 a;clear f a d u c;go_wp2_with fail;refine q.z.mono ?_;rintro e w2 ⟨rfl,i,x⟩;have A:=Y4 i;have D:=Y4 x;clear i x q;go_wp2_with fail;go_ret;exact ⟨rfl,A.z,(Za _ p.z).trans D.z⟩
theorem Zhw (B g:Nat) (a:Int) (l:Xu) (o:Bool) (w:World) (h0:0<=a) (q:a<=9223372036854775807) (h:Rd B w g l o) (t:B<=g) :
  Calls prog 278 #[.pointer (some ⟨g,0,none⟩),.int .i64 a] w (ZfA B g (.string ⟨(Z6 a l o).1.toArray⟩) (Z6 a l o).2.1 (Z6 a l o).2.2 w):=by
 have D:=Y4 h;have c:=h.lt;obtain ⟨v,x,u⟩:=h;have f0:w.cell? ⟨g,0,none⟩=some v:=by rw [cell_of_row w g 0 _ _ _ x];rfl
 have y:=Y4 (VG.Zmj B v l a w (by omega) q u (Xal (Xbl t c)));have d:=Y4 (fun m v p w1 (q:Rd B w1 g l o) (j:BIn B w1 v m)=>Zbs B g l m o v p w1 q t j);unfold Z6;dsimp only;generalize (Zah l a).1=n at *;generalize (Zah l a).2.2=p at *;generalize VG.Zei l a=R at *;have k:=Y4 (show B<=w.heap.size by omega);clear u x c;go_enter func278,ntmps278;go_wp2_with fail;refine y.z.mono ?_;rintro e w1 ⟨A,rfl,i,b⟩;have f:=D.z.keep (S:=fun _=>True) (Za _ b) trivial (fun _ _=>trivial) k.z;have s:=Y4 (d.z R A p w1 f i);have r:=Y4 b;clear i b f y d;go_wp2_with fail;refine s.z.mono ?_;rintro e w2 ⟨rfl,j,z⟩;have C:=Y4 j;have E:=Y4 z;clear j z s;go_wp2_with fail;go_ret;exact ⟨rfl,C.z,(Za _ r.z).trans E.z⟩
theorem ZaQ (B g:Nat) (m:Nat) (l:Xu) (o:Bool) (w:World) (hm:m<=1099511627776) (h:Rd B w g l o) (G:B<=g) :
  Calls prog 277 #[.pointer (some ⟨g,0,none⟩),.int .i64 m] w (ZfA B g (.int .i64 (Ze m l o).1) (Ze m l o).2.1 (Ze m l o).2.2 w):=by
 have L:=Y4 h;have s:=h.lt;obtain ⟨v,I,H⟩:=h;have f0:w.cell? ⟨g,0,none⟩=some v:=by rw [cell_of_row w g 0 _ _ _ I];rfl
 have z:=Y4 (VG.Zj4 B v l w H (Xal (Xbl G s)));have f:=Y4 (fun m v j w1 (M:Rd B w1 g l o) (p:BIn B w1 v m)=>Zbs B g l m o v j w1 M G p);have A:=Zba l
 have b:(Zs l).2.2≠0->(Zs l).1=0/\VG.Zau l=[]:=fun E=>by
  refine ⟨?_,by unfold VG.Zau;rw [Xc E]⟩;rcases A.2.2.1 with e|e|e
  ·exact absurd e E
  ·rw [e]
  ·rw [e]
 have hn:=A.1;unfold Ze;generalize (Zs l).1=n at *;generalize (Zs l).2.2=j at *;generalize VG.Zau l=R at *;have q:=Y4 (show B<=w.heap.size by omega);clear H I s A
 by_cases x:n<=m
 ·have d:(if j=0/\n<=m then (n,R,o) else (0,[],true))=(n,R,o||j != 0):=by
   by_cases t:j=0
   ·subst t;rw [Xe ⟨rfl,x⟩];simp
   ·rw [Xc (fun h=>t h.1),(b t).1,(b t).2];have:(j != 0)=true:=by rw [Xah];exact t
    rw [this];simp
  rw [d];have N:decide ((n:Int)>(m:Int))=false:=Xz (by omega);have O:IntKind.u64.wrap (m:Int)=(m:Int):=by rw [IntKind.wrap_u64];omega
  have t3:IntKind.i64.wrap (n:Int)=(n:Int):=by rw [IntKind.wrap_i64];omega
  dsimp only;clear d b;go_enter func277,ntmps277;go_wp2_with fail;refine z.z.mono ?_;rintro e w1 ⟨F,rfl,i,a⟩;have c:=L.z.keep (S:=fun _=>True) (Za _ a) trivial (fun _ _=>trivial) q.z;have r:=Y4 (f.z R F j w1 c i);have k:=Y4 a;clear i a c z f;go_wp2_with fail;refine r.z.mono ?_;rintro e J ⟨rfl,p,y⟩;have C:=Y4 p;have D:=Y4 y;clear p y r;go_wp2_with fail;go_ret;exact ⟨rfl,C.z,(Za _ k.z).trans D.z⟩
 ·have d:(if j=0/\n<=m then (n,R,o) else (0,[],true))=(0,[],true):=by rw [Xc (fun h=>x h.2)]
  rw [d];have N:decide ((n:Int)>(m:Int))=true:=Xs (by omega);have O:IntKind.u64.wrap (m:Int)=(m:Int):=by rw [IntKind.wrap_u64];omega
  dsimp only;clear d b;go_enter func277,ntmps277;go_wp2_with fail;refine z.z.mono ?_;rintro e w1 ⟨F,rfl,i,a⟩;have c:=L.z.keep (S:=fun _=>True) (Za _ a) trivial (fun _ _=>trivial) q.z;have r:=Y4 (f.z [] (.slice none 0 0) 100 w1 c (BIn.nil_ _ _));have k:=Y4 a;clear i a c z f;go_wp2_with fail;refine r.z.mono ?_;rintro e J ⟨rfl,p,y⟩;have u:Rd B J g [] true:=by have:=p;simpa using this
  have C:=Y4 u;have D:=Y4 y;clear p u y r;go_wp2_with fail;go_ret;exact ⟨rfl,C.z,(Za _ k.z).trans D.z⟩
