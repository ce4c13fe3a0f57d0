import Derived.Test.YtdijhifdjbnkfaaGreatZT14
import Derived.Test.YtdijhifdjbnkfaaGreatZT17
import Derived.Test.YtdijhifdjbnkfaaGreatZT11
import Derived.Test.YtdijhifdjbnkfaaGreatZT43
import Derived.Test.YtdijhifdjbnkfaaGreatZT44
import Derived.Test.YtdijhifdjbnkfaaGreatZT9
set_option maxRecDepth 100000
set_option maxHeartbeats 0
set_option linter.unusedVariables false
set_option linter.unusedSimpArgs false
namespace Go.Proofs.YtdijhifdjbnkfaaGreat
open Lib (hid)
open Tryz
namespace EV
open RowKit MM EM VM
variable {w:World} {b:Nat}
theorem Zcz:(prog.info? 57).map (·.size)=some 2:=by kernel_rfl
def IsF (w:World) (b:Nat):Prop:=∃a fr,w.heap[b]? = some (.cells a 123 fr)
def ZcG (w w':World) (b:Nat):Prop:=w.heap.size<=b/\IsF w' b
theorem IsF.keep {S:Nat->Prop} {w':World} (h:IsF w b) (c:Kep S w w') (d:S b):IsF w' b:=by
 obtain ⟨a,fr,h⟩:=h;exact ⟨a,fr,(c.block b (Xo.1 h).1 d).trans h⟩
theorem IsF.lt (h:IsF w b):b<w.heap.size:=by obtain ⟨_,_,h⟩:=h;exact (Xo.1 h).1
def Zlr (B g:Nat) (s:Ev×Xu×Bool) (w:World) (e:Ending) (w':World):Prop :=
 ∃u,e=.returned (.agg #[.int .i64 s.1.1,u])/\ZD Z8 (ZcG w w') w' u s.1.2/\Rd B w' g s.2.1 s.2.2/\Kep (fun b=>b≠g) w w'
theorem ZjW (B g:Nat) (l:Xu) (o:Bool) (w:World) (h:Rd B w g l o) (hB:B<=g):Calls prog 267 #[.pointer (some ⟨g,0,none⟩)] w (Zlr B g (Zfx l o) w):=by
 have aR:prog.follows .mixedOrders=true:=by kernel_rfl
 have hg:=h.lt;have a7:=Zxo l o;obtain ⟨z,l1,o1,ht⟩:∃z l1 o1,Zbe l o=(z,l1,o1):=⟨_,_,_,rfl⟩;obtain ⟨N,m,j,hn⟩:∃N m j,Ze 16 l1 o1=(N,m,j):=⟨_,_,_,rfl⟩;have hN:N<=16:=by have:=ZbW 16 l1 o1;rw [hn] at this;exact this
 have aI:Zfx l o=((z,(ZbK N ([],m,j)).1),(ZbK N ([],m,j)).2.1,(ZbK N ([],m,j)).2.2):=by
  unfold Zfx;rw [ht];dsimp only;rw [hn]
 have aB:=hid aI;have ac:Below w.heap.size w (w.alloc (.cells #[.int .i64 0,.slice none 0 0] 57)):=(Below.refl _ _).alloc (Xc _) _;have L:(w.alloc (.cells #[.int .i64 0,.slice none 0 0] 57)).heap.size=w.heap.size+1:=by simp
 have au:=h.keep (S:=fun _=>True) (Za _ ac) trivial (fun _ _=>trivial) (by omega);have HT:=hid (Zzl B g l o _ au hB);rw [ht] at HT;have HN:=hid (fun W (h:Rd B W g l1 o1)=>(show Calls prog 277 #[.pointer (some ⟨g,0,none⟩),.int .i64 16] W (ZfF B g (.int .i64 N) m j W) from by have:=ZaT B g 16 l1 o1 W (by omega) h hB;rw [hn] at this;exact this));have n0:=heap_alloc_new w (.cells #[.int .i64 0,.slice none 0 0] 57);clear h aI ht hn au;go_enter func267,ntmps267;go_wp2_with fail;refine HT.out.mono ?_;rintro e X ⟨rfl,aA,E⟩;have a4:=E.size;have a0:=(E.block w.heap.size (by simp) (by omega)).trans n0;have I:Kep (fun b=>b≠g) w X:=(Za _ ac).trans E;have aP:=hid aA;have ah:=hid I;have A0:=hid a0;rw [L] at a4;clear aA E n0 a0 I ac L HT;go_wp2_with fail;obtain ⟨q,hq⟩:=Xn X.heap.size;rw [hq];have ba:w.heap.size<q:=by omega
 have n1:=heap_alloc_new X (.cells #[.int .i64 z,.slice none 0 0] 57);rw [hq] at n1;have a:Kep (fun b=>b≠g) X (X.alloc (.cells #[.int .i64 z,.slice none 0 0] 57)):=Zr _ _ _;have aE:=hid (HN.out (X.alloc (.cells #[.int .i64 z,.slice none 0 0] 57)) (aP.out.keep (S:=fun _=>True) (Zr _ _ _) trivial (fun _ _=>trivial) (by omega)));have aD:(X.alloc (.cells #[.int .i64 z,.slice none 0 0] 57)).heap.size=q+1:=by simp [hq]
 refine aE.out.mono ?_;rintro e w3 ⟨rfl,ai,t⟩;have b0:=(t.block q (by omega) (by omega)).trans n1;have a3:=((a.trans t).block w.heap.size (by omega) (by omega)).trans A0.out;have aV:=t.size;rw [aD] at aV;have aN:=hid ai;have ao:=hid (ah.out.trans (a.trans t));have ag:=hid a3;have an:=hid b0;have aM:=hid (Zz.nil_ (C:=Z8) 123 (q+1) (fun _=>False) w3);clear ai t a n1 b0 a3 HN aE A0 ah aP aD hq;go_wp2_with fail
 go_loopw [4,10] (fun _ iv wr=>∃(i:Nat) (u:Value),i<=N/\iv=.int .i64 i/\Hid (Zz Z8 123 (q+1) (fun _=>False) wr u (ZbK i ([],m,j)).1)/\Hid (wr.heap[q]? = some (.cells #[.int .i64 z,u] 57 (0,0)))/\Hid (wr.heap[w.heap.size]? = some (.cells #[.int .i64 0,.slice none 0 0] 57 (0,0)))/\Hid (Rd B wr g (ZbK i ([],m,j)).2.1 (ZbK i ([],m,j)).2.2)/\Hid (Kep (fun b=>b≠g) w wr)) (fun _ iv _=>N - (intOf iv).toNat)
 case atStart=>exact ⟨0,_,by omega,rfl,aM,an,ag,aN,ao⟩
 case round =>
  obtain ⟨i,u,hi,rfl,H,v,HA,HR,HK⟩:=hrel;clear aM an ag aN ao;have a1:q<wr.heap.size:=(Xo.1 v.out).1;have r:=ZjY i ([],m,j)
  by_cases D:i<N
  ·have q1:decide ((i:Int)<(N:Int))=true:=Xt;obtain ⟨fs,li,oi,Z⟩:∃fs li oi,ZbK i ([],m,j)=(fs,li,oi):=⟨_,_,_,rfl⟩;obtain ⟨s1,l3,o3,U⟩:∃s1 l3 o3,Z2 32 li oi=(s1,l3,o3):=⟨_,_,_,rfl⟩;obtain ⟨s2,l4,o4,ab⟩:∃s2 l4 o4,Z2 4096 l3 o3=(s2,l4,o4):=⟨_,_,_,rfl⟩
   have ad:ZbK (i+1) ([],m,j)=(fs++[(s1,s2)],l4,o4):=by
    rw [ZbK,Z];unfold ZgL;dsimp only;rw [U];dsimp only;rw [ab]
   rw [Z] at H HR r;have bb:fs.length<=16:=by simp at r;omega
   have aa:=hid ad;have Y:=hid (Zhv B g 32 li oi wr (by omega) (by omega) HR.out hB);rw [U] at Y;have ak:=hid (fun W (h:Rd B W g l3 o3)=>(show Calls prog 278 #[.pointer (some ⟨g,0,none⟩),.int .i64 4096] W (ZfF B g (.string ⟨s2.toArray⟩) l4 o4 W) from by have:=Zhv B g 4096 l3 o3 W (by omega) (by omega) h hB;rw [ab] at this;exact this));have aS:=hid D;clear Z U ab ad D r HR;go_wp2_with fail;refine Y.out.mono ?_;rintro e w4 ⟨rfl,aO,s⟩;have a8:=s.size;have y:=hid (H.out.keep s (fun _ _ h=>h.elim) (fun k f=>by have:=(H.out.cells f).1;omega));have x:=hid ((s.block q a1 (by omega)).trans v.out);have ax:=hid ((s.block w.heap.size (by omega) (by omega)).trans HA.out);have ae:=hid aO;have af:=hid (HK.out.trans s);clear aO s Y H v HA HK;go_wp2_with fail;refine RS.ZaF (T:=fun b=>b≠g/\u.ownBlock≠some b) [(0,true),(1,true),(2,true),(3,true),(4,false),(5,true),(6,false),(7,false),(8,true)] aR (by kernel_rfl) (fun _ _ d _ _ h=>by cases d<;>exact h) ?_;simp only [RS.Zy,XF,XV,XZ,X4,XX];have aQ:u.ownBlock≠some q:=fun e=>by have:=(y.out.cells e).1;omega
   have aT:u.ownBlock≠some g:=fun e=>by have:=(y.out.cells e).1;omega
   have aY:u.ownBlock≠some w.heap.size:=fun e=>by have:=(y.out.cells e).1;omega
   obtain ⟨wd,F⟩:=Xn w4.drew;have n:Kep (fun _=>True) w4 wd:=by rw [<- F];exact Zcl _ _
   have bd:w4.heap.size=wd.heap.size:=by rw [<- F];rfl
   have c1:wd.cell? ⟨q,1,none⟩=some u:=by rw [cell_of_row wd q 1 _ _ _ ((n.block q (by omega) trivial).trans x.out)];rfl
   have G:=hid (fun W (hW:Kep (fun b=>b≠g/\u.ownBlock≠some b) wd W)=>(show W.cell? ⟨q,1,none⟩=some u from (hW.cell (by omega) ⟨by omega,aQ⟩ 1).trans c1));have V:=hid (y.out.keep n (fun _ _ _=>trivial) (fun _ _=>trivial));have ap:=hid ((n.block q (by omega) trivial).trans x.out);have aK:=hid ((n.block w.heap.size (by omega) trivial).trans ax.out);have aw:=hid (ae.out.keep n trivial (fun _ _=>trivial) (by omega));have az:=hid (af.out.trans (n.mono fun _ _=>trivial));rw [F];clear F n c1 y x ax ae af;repeat (refine RS.take (by rfl) (by intro W hW;have f1:=G.out W hW;go_simp;with_reducible rfl) ?_;simp only [Act.put,Xr,Xs,Xq])
   refine RS.alone (by rfl) (fun K J => ?_);go_simp;refine (ak.out wd aw.out).mono ?_;rintro e w5 ⟨rfl,aG,p⟩;go_simp;refine J.out _ _ (p.mono fun _ h=>h.1) ?_;clear J K;have a9:=p.size;have A:=hid (V.out.keep p (fun _ _ h=>h.elim) (fun k f=>by have:=(V.out.cells f).1;omega));have av:=hid ((p.block q (by omega) (by omega)).trans ap.out);have aj:=hid ((p.block w.heap.size (by omega) (by omega)).trans aK.out);have ay:=hid aG;have am:=hid (az.out.trans p);clear aG p G V ap aK aw az ak;repeat (refine RS.take (by rfl) (by intro W hW;go_simp;with_reducible rfl) ?_;simp only [Act.put,Xr,Xs,Xq])
   refine RS.alone (by rfl) (fun K J => ?_);go_simp;refine J.out _ _ (Zr _ _ _) ?_;clear J K;refine RS.alone (by rfl) (fun K J => ?_);refine ZgF ZuH _ _ rfl (q+1) u fs w5 [.string ⟨s1.toArray⟩,.string ⟨s2.toArray⟩] (s1,s2) rfl rfl A.out (fun _ _ h=>h.elim) (Zgd.2 rfl) rfl (by unfold maxLen;omega) (by omega) (by omega) ?_;intro v6 M aq aW R aU;obtain ⟨g6,c6,rfl⟩:=aU;refine J.out _ _ (R.mono fun _ h=>h.2) ?_;clear J K;have a:Kep (fun b=>u.ownBlock≠some b) w5 M:=(Zr _ _ _).trans R;have O:=hid aq;have B6:=(a.block q (by omega) aQ).trans av.out;have aL:=hid B6;have aJ:=hid ((a.block w.heap.size (by omega) aY).trans aj.out);have aC:=hid (ay.out.keep a aT (fun k f e=>by have:=(A.out.cells e).1;omega) (by omega));have ar:=hid (am.out.andThen a (fun k f _ e=>by have:=(A.out.cells e).1;omega));have bc:=a.size;clear a aq aW R A av aj ay am;repeat (refine RS.take (by rfl) (by intro W hW;go_simp;with_reducible rfl) ?_;simp only [Act.put,Xr,Xs,Xq])
   refine RS.done ?_;simp only [Xh,Xm,XaW,Xap,XL,Nat.reduceAdd];obtain ⟨k0,k1,k2,k3,_,_⟩:=Two.all (show Two M q 57 (.int .i64 z) u from B6) (.int .i64 z);have c:Kep (fun b=>b≠q) M (M.setCell ⟨q,1,none⟩ (.slice (some ⟨g6,0,none⟩) (fs.length+1) c6)):=ZbE _;have aF:=hid (O.out.keep c (fun _ _ h=>h.elim) (fun k f=>by have:=(O.out.cells f).1;omega));have a6:=hid (show (M.setCell ⟨q,1,none⟩ (.slice (some ⟨g6,0,none⟩) (fs.length+1) c6)).heap[q]? = some (.cells #[.int .i64 z,.slice (some ⟨g6,0,none⟩) (fs.length+1) c6] 57 (0,0)) from heap_setCell_same M q 1 _ _ _ aL.out);have aZ:=hid ((c.block w.heap.size (by omega) (by omega)).trans aJ.out);have al:=hid (aC.out.keep c (by omega) (fun k f=>by omega) (by omega));have a2:=hid (ar.out.andThen c (fun k f _=>by omega));have aX:Hid (Zz Z8 123 (q+1) (fun _=>False) (M.setCell ⟨q,1,none⟩ (.slice (some ⟨g6,0,none⟩) (fs.length+1) c6)) (.slice (some ⟨g6,0,none⟩) (fs.length+1) c6) (ZbK (i+1) ([],m,j)).1):=hid (by rw [aa.out];exact aF.out);have a5:Hid (Rd B (M.setCell ⟨q,1,none⟩ (.slice (some ⟨g6,0,none⟩) (fs.length+1) c6)) g (ZbK (i+1) ([],m,j)).2.1 (ZbK (i+1) ([],m,j)).2.2):=hid (by rw [aa.out];exact al.out);clear c B6 O aL aJ aC ar aF al aa;go_wp2_with fail;have D:=aS.out;go_roundw
   case rel=>exact ⟨i+1,_,by omega,by go_num,aX,a6,aZ,a5,a2⟩
   case measure=>simp [intOf];omega
  ·obtain rfl:i=N:=by omega
   have q1:decide ((i:Int)<(i:Int))=false:=by simp
   obtain ⟨k0,k1,_,_,_,_⟩:=Two.all (show Two wr q 57 (.int .i64 z) u from v.out) (.int .i64 z);obtain ⟨m0,m1,m2,m3,m4,m5⟩:=Two.all (show Two wr w.heap.size 57 (.int .i64 0) (.slice none 0 0) from HA.out) (.int .i64 z);have HX:=hid (Two.s01 (show Two wr w.heap.size 57 (.int .i64 0) (.slice none 0 0) from HA.out) (.int .i64 z) u);have c:Kep (fun b=>b≠w.heap.size) wr ((wr.setCell ⟨w.heap.size,0,none⟩ (.int .i64 z)).setCell ⟨w.heap.size,1,none⟩ u):=ZdC _ _
   have HQ:Hid (Zlr B g (Zfx l o) w (.returned (.agg #[.int .i64 z,u])) ((wr.setCell ⟨w.heap.size,0,none⟩ (.int .i64 z)).setCell ⟨w.heap.size,1,none⟩ u)):=hid (by
    rw [aB.out];refine ⟨u,rfl,?_,HR.out.keep c (by omega) (fun k f=>by omega) (by omega),HK.out.andThen c (fun k f _=>by omega)⟩;have aH:=H.out.keep c (fun _ _ h=>h.elim) (fun k f=>by have:=(H.out.cells f).1;omega);exact aH.ron (fun k f=>⟨by have:=(H.out.cells f).1;omega,(aH.cells f).2.2⟩) (fun _ _ h=>h.elim))
   obtain ⟨pu,cu,hu,_⟩:=(Zz.any H.out).shape;rw [hu] at k1 HX HQ;clear c H v HA HR HK D aB r;go_wp2_with fail;refine bodyPost_ret (Zjr rfl underlying57 rfl Zcz _ _ w.heap.size _ _ rfl HX.out) rfl HQ.out
open VP
variable {l:Xu}
def ZaP (l:Xu):Ev×Xu×Int:=match ZcV l with
 | some (e,r)=>(e,r,0)
 | none=>((0,[]),[],100)
theorem Zcy {r:Xu} {e:Ev} (h:ZcV l=some (e,r)):ZaP l=(e,r,0):=by unfold ZaP;rw [h]
theorem Zc4 (h:ZcV l=none):ZaP l=((0,[]),[],100):=by unfold ZaP;rw [h]
theorem ZAz (h:(Zfx l false).2.2=true):ZcV l=none:=by
 unfold ZcV;cases hr:rdE l with
 | none=>rfl
 | some p =>
   obtain ⟨e,r⟩:=p;rw [Ztl false hr] at h;cases h
theorem Zqm (h:(Zfx l false).2.2=false):rdE l=some ((Zfx l false).1,(Zfx l false).2.1):=by
 cases hr:rdE l with
 | none=>rw [ZAo false hr] at h;cases h
 | some p =>
   obtain ⟨e,r⟩:=p;rw [Ztl false hr]
theorem ZAx (h:(Zfx l false).2.2=false) (a:ZG (Zfx l false).1≠0):ZcV l=none:=by
 unfold ZcV;rw [Zqm h];dsimp only;rw [Xa a]
theorem ZxJ (h:(Zfx l false).2.2=false) (a:ZG (Zfx l false).1=0):ZcV l=some ((Zfx l false).1,(Zfx l false).2.1):=by
 unfold ZcV;rw [Zqm h];dsimp only;rw [Xe a]
theorem Zba {T:Nat->Prop} {e a d:World} {u:Value} {fs:List Fld} (h:ZD Z8 (ZcG e a) a u fs) (i:Kep T a d) (g:∀b,e.heap.size<=b->T b):ZD Z8 (ZcG e d) d u fs :=
 ZD.keep h (i.mono fun b f=>g b f.1) fun b f c=>⟨c.1,c.2.keep i (g b c.1)⟩
def Zwn (s:Ev×Xu×Int) (w:World) (e:Ending) (w':World):Prop :=
 ∃u v,e=.returned (.tuple #[.agg #[.int .i64 s.1.1,u],v,.int .i64 s.2.2])/\ZD Z8 (ZcG w w') w' u s.1.2/\Zd w.heap.size w' v s.2.1/\Below w.heap.size w w'
theorem ZnG (v:Value) (l:Xu) (w:World) (hv:Zq w v l) (hl:l.length<=1000000000000):Calls prog 246 #[v] w (Zwn (ZaP l) w):=by
 have aq:prog.follows .mixedOrders=true:=by kernel_rfl
 obtain ⟨pv,cv,rfl,_⟩:=hv.shape;obtain ⟨z,fs,l1,o1,ah⟩:∃z fs l1 o1,Zfx l false=((z,fs),l1,o1):=⟨_,_,_,_,rfl⟩;have A:=ZAz (l:=l);have D:=ZAx (l:=l);have o:=ZxJ (l:=l);rw [ah] at A D o;have q:=hid A;have j:=hid D;have f:=hid o;obtain ⟨wa,y⟩:=Xn ((w.alloc (.cells #[.int .i64 0,.slice none 0 0] 57)).alloc (.cells #[.slice pv l.length cv,.bool false] 326));have af:Below w.heap.size w wa:=by rw [<- y];exact ((Below.refl _ _).alloc (Xc _) _).alloc (by simp) _
 have aB:wa.heap.size=w.heap.size+2:=by rw [<- y];simp
 have t0:Two wa w.heap.size 57 (.int .i64 0) (.slice none 0 0):=by
  rw [<- y];exact (ZdP w 57 _ _).keep (Zr (fun _=>True) _ _) trivial
 have ao:Rd w.heap.size wa (w.heap.size+1) l false:=by
  refine ⟨.slice pv l.length cv,?_,Z3.below hv af⟩;rw [<- y];have:=heap_alloc_new (w.alloc (.cells #[.int .i64 0,.slice none 0 0] 57)) (.cells #[.slice pv l.length cv,.bool false] 326);simp only [World.size_alloc] at this;exact this
 have HE:=hid (ZjW w.heap.size (w.heap.size+1) l false wa ao (by omega));rw [ah] at HE
 have g:Hid (∀W a b,Two W w.heap.size 57 a b->Below w.heap.size w W->ZcV l=none ->
   Zwn (ZaP l) w (.returned (.tuple #[.agg #[.int .i64 0,.slice none 0 0],.slice none 0 0,.int .i64 100])) ((W.setCell ⟨w.heap.size,0,none⟩ (.int .i64 0)).setCell ⟨w.heap.size,1,none⟩ (.slice none 0 0))):=hid (fun W a b ht hb hn=>by
  rw [Zc4 hn];exact ⟨_,_,rfl,ZD.nil_ _ _,World.ownsRow_nil _ _ _ _,hb.trans ((ZdC (.int .i64 0) (.slice none 0 0)).below (B:=w.heap.size) (Xam ht.lt) (fun k hk=>by omega))⟩)
 have T0:=hid t0;have av:=hid af;have ap:=hid y;clear A D o ah ao t0 af hv y;go_enter func246,ntmps246;go_wp2_with fail;rw [ap.out];refine HE.out.mono ?_;rintro e w1 ⟨u,rfl,hu,L,H⟩;have L:Rd w.heap.size w1 (w.heap.size+1) l1 o1:=L;have aA:=H.size;have t1:Two w1 w.heap.size 57 (.int .i64 0) (.slice none 0 0):=T0.out.keep H (by omega);have i:=hid (t1.s01 (.int .i64 z) u);have r:Kep (fun b=>b≠w.heap.size) w1 ((w1.setCell ⟨w.heap.size,0,none⟩ (.int .i64 z)).setCell ⟨w.heap.size,1,none⟩ u):=ZdC _ _;obtain ⟨a0,a1,a2,a3,a4,a5⟩:=t1.all (.int .i64 z);obtain ⟨O,ae⟩:=Xn ((w1.setCell ⟨w.heap.size,0,none⟩ (.int .i64 z)).setCell ⟨w.heap.size,1,none⟩ u);rw [ae] at i r;have aC:=r.size;have t:=hid ae;have ai:Below w.heap.size w O:=av.out.trans ((H.below (B:=w.heap.size) (by omega) (fun k hk=>by omega)).trans (r.below (by omega) (fun k hk=>by omega)));have aa:ZD Z8 (ZcG wa O) O u fs:=Zba hu r (fun b hb=>by omega);have au:Rd w.heap.size O (w.heap.size+1) l1 o1:=L.keep r (by omega) (fun k hk=>by omega) (by omega);have ad:=hid ai;have C:=hid aa;obtain ⟨vl,J,aj⟩:=au;have M:=hid aj;have g0:=cell_of_row O (w.heap.size+1) 0 _ _ _ J;have g1:=cell_of_row O (w.heap.size+1) 1 _ _ _ J;obtain ⟨pu,cu,aw,_⟩:=aa.shape;subst aw;have e0:=i.out.c0;have e1:=i.out.c1;have F:=hid J;rw [<- t.out] at g0 g1 e0 e1;clear hu L H t1 r ae ai aa aj J HE;cases o1 with
 | true =>
   have HQ:=hid (g.out O _ _ i.out ad.out (q.out rfl));have HX:=hid (i.out.s01 (.int .i64 0) (.slice none 0 0));obtain ⟨_,_,b2,b3,b4,b5⟩:=i.out.all (.int .i64 0);rw [<- t.out] at HQ HX b2 b3 b4 b5;clear C M F g q j f t i;go_wp2_with fail;refine bodyPost_ret (ZaX (p:=2) (u:=3) (v:=4) rfl underlying57 rfl Zcz _ _ w.heap.size _ _ rfl HX.out) rfl HQ.out
 | false =>
   go_wp2_with fail;rw [t.out];rw [t.out] at g0 g1 e0 e1;refine (Zet z _ fs O C.out.any).mono ?_;rintro e R ⟨rfl,m⟩;have ag:=i.out.keep (Za (fun _=>True) m) trivial;have I:=hid (ad.out.trans (m.mono ad.out.size));have s:=hid ag;have az:=m.size;have Z:=(m.block (w.heap.size+1) (by omega)).trans F.out;have ac:=hid (M.out.below (m.mono (by omega)));have X:=hid (Zba C.out (Za (fun _=>True) m) fun _ _=>trivial);obtain ⟨c,hc⟩:=Xn (ZG (z,fs));rw [hc] at j f ⊢
   by_cases hz:c=0
   ·subst hz;have U:=f.out (by trivial) rfl;have an:=hid (Zcy U);have k0:=cell_of_row R (w.heap.size+1) 0 _ _ _ Z
    have ar:l1.length<=1000000000000:=by
     have:=Xp List.length (Zc2 U).1;rw [Xd] at this;omega
    clear m ag Z U hc q j f C M F i g g0 g1 e0 e1 a0 a1 a2 a3 a4 a5;go_wp2_with fail;refine RS.ZaF (T:=fun b=>b<R.heap.size) [(0,true),(1,true),(2,true),(3,false)] aq (by kernel_rfl) (fun _ _ d _ _ h=>by cases d<;>exact h) ?_;simp only [RS.Zy,XF,XV,XZ,X4,XX];obtain ⟨wd,Y⟩:=Xn R.drew;have n:Below R.heap.size R wd:=by rw [<- Y];exact (Below.refl _ _).drew
    have E:=s.out.below n s.out.lt
    have G:=hid (fun W (hW:Kep (fun b=>b<R.heap.size) wd W)=>(show W.cell? ⟨w.heap.size,0,none⟩=some (.int .i64 z)/\W.cell? ⟨w.heap.size,1,none⟩=some (.slice pu fs.length cu)/\W.cell? ⟨w.heap.size+1,0,none⟩=some vl from
     ⟨(E.keep hW (by omega)).c0,(E.keep hW (by omega)).c1,(hW.cell (by have:=n.size;omega) (by omega) 0).trans ((n.cell (p:=⟨w.heap.size+1,0,none⟩) (show w.heap.size+1<R.heap.size by omega)).trans k0)⟩))
    have ak:=hid (ZrE vl l1 wd (Zq.below (Z3.row ac.out (by omega)) n) ar);have S:=hid E;have am:=hid n;have al:=hid (Zba X.out (Za (fun _=>True) n) fun _ _=>trivial);rw [Y];have ax:=n.size;clear Y n E s X ac k0;repeat (refine RS.take (by rfl) (by intro W hW;obtain ⟨f1,f2,f3⟩:=G.out W hW;go_simp;with_reducible rfl) ?_;simp only [Act.put,Xr,Xs,Xq])
    refine RS.alone (by rfl) (fun K hK => ?_);go_simp;refine ak.out.mono ?_;rintro e w4 ⟨v4,rfl,V,x⟩;go_simp;refine hK.out _ _ (Za _ x) ?_;clear hK K;have ab:=S.out.below x S.out.lt;obtain ⟨_,_,b2,b3,b4,b5⟩:=ab.all (.int .i64 z);have HX:=hid (ab.s01 (.int .i64 z) (.slice pu fs.length cu));have ay:=x.size;have N:Kep (fun b=>b≠w.heap.size) w4 ((w4.setCell ⟨w.heap.size,0,none⟩ (.int .i64 z)).setCell ⟨w.heap.size,1,none⟩ (.slice pu fs.length cu)):=ZdC _ _
    have HQ:Hid (Zwn (ZaP l) w (.returned (.tuple #[.agg #[.int .i64 z,.slice pu fs.length cu],v4,.int .i64 0])) ((w4.setCell ⟨w.heap.size,0,none⟩ (.int .i64 z)).setCell ⟨w.heap.size,1,none⟩ (.slice pu fs.length cu))):=hid (by
     rw [an.out];refine ⟨_,_,rfl,?_,?_,?_⟩
     ·have h1:=Zba al.out (Za (fun _=>True) x) fun _ _=>trivial;exact (Zba h1 N (fun b hb=>by omega)).weak fun b _ hb=>⟨by have:=hb.1;omega,hb.2⟩
     ·exact Zd.weaken (GB.Zd.kepOwn V N (fun k hk=>by have:=(World.ownsRow.lt V k hk).1;omega)) (by omega)
     ·exact (I.out.trans ((am.out.trans (x.mono ax)).mono I.out.size)).trans (N.below (by omega) (fun k hk=>by omega)))
    clear ab V x N S am al G ak an I;refine RS.done ?_;simp only [Xh,Xm,XaW,Xap,XL,Nat.reduceAdd];go_wp2_with fail;refine bodyPost_ret (ZaX (p:=2) (u:=3) (v:=4) rfl underlying57 rfl Zcz _ _ w.heap.size _ _ rfl HX.out) rfl HQ.out
   ·have q1:(c != 0)=true:=by rw [Xaa];exact hz
    have HQ:=hid (g.out R _ _ s.out I.out (j.out (by trivial) hz));have HX:=hid (s.out.s01 (.int .i64 0) (.slice none 0 0));obtain ⟨_,_,b2,b3,b4,b5⟩:=s.out.all (.int .i64 0);clear C M F g q j f t i m ag Z X ac;go_wp2_with fail;refine bodyPost_ret (ZaX (p:=2) (u:=3) (v:=4) rfl underlying57 rfl Zcz _ _ w.heap.size _ _ rfl HX.out) rfl HQ.out
end EV
namespace SR
open RowKit MM VM
open EM (Fld Ev)
open EV (Z8 ZaP ZnG Zcz ZcG IsF Zba)
variable {S T S':Nat->Prop} {w w':World} {g b:Nat} {l m:Xu} {o:Bool} {v:Value}
def Ze (m:Nat) (l:Xu) (o:Bool):Nat×Xu×Bool:=if (Zk l).2.2=0/\(Zk l).1<=m then ((Zk l).1,VG.Zab l,o) else (0,[],true)
def evS (l:Xu) (o:Bool):Ev×Xu×Bool:=((ZaP l).1,(ZaP l).2.1,o||(ZaP l).2.2 != 0)
def Rd (S:Nat->Prop) (w:World) (g:Nat) (l:Xu) (o:Bool):Prop:=∃v,w.heap[g]? = some (.cells #[v,.bool o] 230 (0,0))/\BOn S w v l
theorem Rd.lt (h:Rd S w g l o):g<w.heap.size:=by obtain ⟨v,h,_⟩:=h;exact (Xo.1 h).1
theorem Rd.keep (h:Rd S w g l o) (a:Kep T w w') (c:T g) (e:∀b,b<w.heap.size->S b->T b):Rd S w' g l o:=by
 have f:=h.lt;obtain ⟨v,h,d⟩:=h;exact ⟨v,(a.block g f c).trans h,d.keep (a.mono' fun k a hs=>e k a hs) fun _ _ h=>h⟩
theorem Rd.below (h:Rd S w g l o) (a:Below w.heap.size w w'):Rd S w' g l o:=h.keep (Za (fun _=>True) a) trivial fun _ _ _=>trivial
theorem Rd.weak (h:Rd S w g l o) (c:∀b,b<w.heap.size->S b->T b):Rd T w g l o:=by
 obtain ⟨v,h,a⟩:=h;exact ⟨v,h,a.weak c⟩
theorem Zgw (h:Rd S w g l o) (a:¬S' g) (c:BOn S' w v m):Rd S' (w.setCell ⟨g,0,none⟩ v) g m o:=by
 obtain ⟨v0,h,_⟩:=h;exact ⟨v,heap_setCell_same w g 0 _ _ v h,c.keep (Zx a v) fun _ _ h=>h⟩
theorem Zjp (h:Rd S w g l o) (a:¬S' g) (c:BOn S' w v m):Rd S' ((w.setCell ⟨g,0,none⟩ v).setCell ⟨g,1,none⟩ (.bool true)) g m true:=by
 obtain ⟨v0,h,_⟩:=h;exact ⟨v,heap_setCell_same _ g 1 _ _ (.bool true) (heap_setCell_same w g 0 _ _ v h),(c.keep (Zx a v) fun _ _ h=>h).keep (Zx a (.bool true)) fun _ _ h=>h⟩
def ZfF (S:Nat->Prop) (g:Nat) (x:Value) (l:Xu) (o:Bool) (w:World) (e:Ending) (w':World):Prop:=e=.returned x/\Rd S w' g l o/\Kep (fun b=>b≠g) w w'
def IsU (w:World) (b:Nat):Prop:=∃a fr,w.heap[b]? = some (.cells a 5 fr)
theorem IsU.keep (h:IsU w b) (c:Kep T w w') (d:T b):IsU w' b:=by
 obtain ⟨a,fr,h⟩:=h;exact ⟨a,fr,(c.block b (Xo.1 h).1 d).trans h⟩
theorem IsU.lt (h:IsU w b):b<w.heap.size:=by obtain ⟨_,_,h⟩:=h;exact (Xo.1 h).1
def Zlr (g:Nat) (s:Ev×Xu×Bool) (w:World) (e:Ending) (w':World):Prop :=
 ∃u,e=.returned (.agg #[.int .i64 s.1.1,u])/\ZD Z8 (ZcG w w') w' u s.1.2/\Rd (fun b=>w.heap.size<=b/\IsU w' b) w' g s.2.1 s.2.2/\Kep (fun b=>b≠g) w w'
theorem Zbq (S S':Nat->Prop) (g:Nat) (l m:Xu) (o:Bool) (v:Value) (c:Int) (w:World) (h:Rd S w g l o) (n:¬S' g) (f:BOn S' w v m) :
  Calls prog 207 #[.pointer (some ⟨g,0,none⟩),v,.int .i64 c] w (ZfF S' g (.tuple #[]) m (o||c != 0) w):=by
 have d:=hid h;obtain ⟨v0,a,_⟩:=h;have e:=hid f;have f0:=cell_of_row w g 0 _ _ _ a;have f1:=cell_of_row w g 1 _ _ _ a;have f2:=frozen_of_row w g 0 _ _ a;have f3:=frozen_of_row w g 1 _ _ a;obtain ⟨k,c1,rfl,_⟩:=f.shape
 by_cases p:c=0
 ·subst p;have i:(o||((0:Int) != 0))=o:=by simp
  rw [i];have j:=hid (show ZfF S' g (.tuple #[]) m o w (.returned (.tuple #[])) (w.setCell ⟨g,0,none⟩ (.slice k m.length c1)) from ⟨rfl,Zgw d.out n e.out,Zx (by simp) _⟩);clear f e d a;go_enter func207,ntmps207;go_wp2_with fail;refine bodyPost_end (results_none rfl _ _ _) rfl ?_;exact j.out
 ·have t0:(c != 0)=true:=by rw [Xaa];exact p
  have i:(o||(c != 0))=true:=by rw [t0];simp
  rw [i];have j:=hid (show ZfF S' g (.tuple #[]) m true w (.returned (.tuple #[])) ((w.setCell ⟨g,0,none⟩ (.slice k m.length c1)).setCell ⟨g,1,none⟩ (.bool true)) from ⟨rfl,Zjp d.out n e.out,(Zx (by simp) _).trans (Zx (by simp) _)⟩);clear f e d a;go_enter func207,ntmps207;go_wp2_with fail;refine bodyPost_end (results_none rfl _ _ _) rfl ?_;exact j.out
theorem ZaT (S:Nat->Prop) (g:Nat) (m:Nat) (l:Xu) (o:Bool) (w:World) (hm:m<=1099511627776) (h:Rd S w g l o) (J:¬S g) :
  Calls prog 206 #[.pointer (some ⟨g,0,none⟩),.int .i64 m] w (ZfF S g (.int .i64 (Ze m l o).1) (Ze m l o).2.1 (Ze m l o).2.2 w):=by
 have E:=hid h;obtain ⟨v,D,G⟩:=h;have f0:w.cell? ⟨g,0,none⟩=some v:=by rw [cell_of_row w g 0 _ _ _ D];rfl
 have z:=hid (VG.ZCm S v l w G);have j:=hid (fun m v k q (N:Rd S q g l o) (p:BOn S q v m)=>Zbq S S g l m o v k q N J p);have A:=ZaN l
 have c:(Zk l).2.2≠0->(Zk l).1=0/\VG.Zab l=[]:=fun H=>by
  refine ⟨?_,by unfold VG.Zab;rw [Xa H]⟩;rcases A.2.2.1 with e|e|e
  ·exact absurd e H
  ·rw [e]
  ·rw [e]
 have hn:=A.1;unfold Ze;generalize (Zk l).1=n at *;generalize (Zk l).2.2=k at *;generalize VG.Zab l=R at *;clear G D A
 by_cases y:n<=m
 ·have f:(if k=0/\n<=m then (n,R,o) else (0,[],true))=(n,R,o||k != 0):=by
   by_cases t:k=0
   ·subst t;rw [Xe ⟨rfl,y⟩];simp
   ·rw [Xa (fun h=>t h.1),(c t).1,(c t).2];have:(k != 0)=true:=by rw [Xaa];exact t
    rw [this];simp
  rw [f];have L:decide ((n:Int)>(m:Int))=false:=XB (by omega);have M:IntKind.u64.wrap (m:Int)=(m:Int):=by rw [IntKind.wrap_u64];omega
  have t3:IntKind.i64.wrap (n:Int)=(n:Int):=by rw [IntKind.wrap_i64];omega
  dsimp only;clear f c;go_enter func206,ntmps206;go_wp2_with fail;refine z.out.mono ?_;rintro e q ⟨I,rfl,i,a⟩;have d:=E.out.below a;have u:=hid (j.out R I k q d i);have r:=hid a;clear i a d z j;go_wp2_with fail;refine u.out.mono ?_;rintro e F ⟨rfl,p,s⟩;have B:=hid p;have C:=hid s;clear p s u;go_wp2_with fail;go_ret;exact ⟨rfl,B.out,(Za _ r.out).trans C.out⟩
 ·have f:(if k=0/\n<=m then (n,R,o) else (0,[],true))=(0,[],true):=by rw [Xa (fun h=>y h.2)]
  rw [f];have L:decide ((n:Int)>(m:Int))=true:=Xw (by omega);have M:IntKind.u64.wrap (m:Int)=(m:Int):=by rw [IntKind.wrap_u64];omega
  dsimp only;clear f c;go_enter func206,ntmps206;go_wp2_with fail;refine z.out.mono ?_;rintro e q ⟨I,rfl,i,a⟩;have d:=E.out.below a;have u:=hid (j.out [] (.slice none 0 0) 120 q d (BOn.nil_ _ _));have r:=hid a;clear i a d z j;go_wp2_with fail;refine u.out.mono ?_;rintro e F ⟨rfl,p,s⟩;have x:Rd S F g [] true:=by have:=p;simpa using this
  have B:=hid x;have C:=hid s;clear p x s u;go_wp2_with fail;go_ret;exact ⟨rfl,B.out,(Za _ r.out).trans C.out⟩
theorem ZjW (S:Nat->Prop) (g:Nat) (l:Xu) (o:Bool) (w:World) (hl:l.length<=1000000000000) (h:Rd S w g l o) :
  Calls prog 208 #[.pointer (some ⟨g,0,none⟩)] w (Zlr g (evS l o) w):=by
 obtain ⟨R,hR⟩:=Xn w.heap.size;have ad:g<R:=by rw [<- hR];exact h.lt
 obtain ⟨s,k⟩:=Xn (w.alloc (.cells #[.int .i64 0,.slice none 0 0] 57));have y:Below w.heap.size w s:=by rw [<- k];exact (Below.refl _ _).alloc (Xc _) _
 have T0:Hid (Two s R 57 (.int .i64 0) (.slice none 0 0)):=hid (by rw [<- k,<- hR];exact ZdP w 57 _ _);have af:s.heap.size=R+1:=by rw [<- k,<- hR];simp
 have I:=h.below y;have J:=hid I;obtain ⟨v,hc,X⟩:=I;have f0:s.cell? ⟨g,0,none⟩=some v:=by rw [cell_of_row s g 0 _ _ _ hc];rfl
 have HG:=hid (ZnG v l s X.brow hl);obtain ⟨z,fs,rest,N,F⟩:∃z fs rest N,ZaP l=((z,fs),rest,N):=⟨_,_,_,_,rfl⟩;unfold evS;rw [F] at HG ⊢;dsimp only;have U:=hid k;have W:=hid y;rw [<- k] at f0;obtain ⟨pv,cv,rfl,_⟩:=X.shape;clear X hc h k y F;go_enter func208,ntmps208;go_wp2_with fail;rw [U.out];refine HG.out.mono ?_;rintro e E ⟨u,v1,rfl,M,f,x⟩;dsimp only at M f ⊢;obtain ⟨A,B,rfl,_⟩:=M.shape;obtain ⟨p1,c1,rfl,_⟩:=(Zd.brow f).shape;have ac:=x.size;obtain ⟨q,hq⟩:=Xn E.heap.size;obtain ⟨t,r⟩:=Xn (E.alloc (.cells #[.int .i64 z,.slice A fs.length B] 57));have j:Below E.heap.size E t:=by rw [<- r];exact (Below.refl _ _).alloc (Xc _) _
 have ag:=j.size;have d:Below s.heap.size s t:=grow x j;have X2:Hid (Two t q 57 (.int .i64 z) (.slice A fs.length B)):=hid (by rw [<- r,<- hq];exact ZdP E 57 _ _);have T2:=hid (T0.out.below d (by omega))
 have L:BOn (fun b=>R+1<=b/\IsU t b) t (.slice p1 rest.length c1) rest:=(BOn.of_own (Zd.keep f j)).weak fun b _ c=>by
  have h1:=(World.ownsRow.lt f b c).1;exact ⟨by omega,(Zbk (Zd.keep f j) c).2⟩
 have HQ:=hid (Zbq S (fun b=>R+1<=b/\IsU t b) g l rest o _ N t (J.out.below d) (fun h=>by have:=h.1;omega) L);have H:=hid (Zba M (Za (fun _=>True) j) fun _ _=>trivial);have Z:=hid d;have Y:=hid r;clear M f x j L d r HG J;go_wp2_with fail;rw [Y.out];refine HQ.out.mono ?_;rintro e w3 ⟨rfl,D,a⟩;have ae:=a.size;have aa:g≠q:=by omega
 have V:=X2.out.keep a (fun e=>aa e.symm);have t3:=T2.out.keep a (by omega);obtain ⟨x0,x1⟩:=And.intro V.c0 V.c1;obtain ⟨a0,a1,a2,a3,a4,a5⟩:=t3.all (.int .i64 z);have HX:=hid (t3.s01 (.int .i64 z) (.slice A fs.length B));have n:Kep (fun b=>b≠R) w3 ((w3.setCell ⟨R,0,none⟩ (.int .i64 z)).setCell ⟨R,1,none⟩ (.slice A fs.length B)):=ZdC _ _;have C:Kep (fun b=>b≠g) w t:=(Za _ W.out).trans (Za _ Z.out)
 have G:Hid (Zlr g ((z,fs),rest,o||N != 0) w (.returned (.agg #[.int .i64 z,.slice A fs.length B])) ((w3.setCell ⟨R,0,none⟩ (.int .i64 z)).setCell ⟨R,1,none⟩ (.slice A fs.length B))):=hid (by
  have ab:=Zba H.out a (fun b c=>by omega);have O:=Zba ab n (fun b c=>by omega);refine ⟨_,rfl,O.weak fun b _ c=>⟨by have:=c.1;omega,c.2⟩,?_,(C.trans a).andThen n fun i hi _=>by omega⟩;exact (D.keep n (by omega) (fun b _ c=>by have:=c.1;omega)).weak fun b _ c=>⟨by have:=c.1;omega,(c.2.keep a (by have:=c.1;omega)).keep n (by have:=c.1;omega)⟩)
 clear V t3 a n D C H X2 T2 HQ;go_wp2_with fail;refine bodyPost_ret (Zjr (p:=2) rfl underlying57 rfl Zcz _ _ R _ _ rfl HX.out) rfl G.out
open RowKit MM VM SM
open EM (Fld Ev ZG Zid ZZ Zcf ZcV Zg4 Zc2)
open EV (ZaP Zcy Zc4)
variable {m n:Nat} {o:Bool} {a:Int} {b:Xu}
theorem Zhe {l:Xu} (o:Bool) (h:(Zk l).2.2=0) (c:(Zk l).1<=m):Ze m l o=((Zk l).1,l.drop (Zk l).2.1,o):=by
 unfold Ze VG.Zab;rw [Xe ⟨h,c⟩,Xe h]
theorem ZbW (m:Nat) (l:Xu) (o:Bool):(Ze m l o).1<=m:=by
 unfold Ze
 split
 ·rename_i h;exact h.2
 ·exact XU _
theorem Zcn (m:Nat) (l:Xu) (o:Bool):(Ze m l o).2.1.length<=l.length:=by
 unfold Ze VG.Zab
 split
 ·dsimp only
  split
  ·rw [Xj];omega
  ·simp
 ·simp
theorem ZdM (h:n<=m) (c:n<18446744073709551616) (r:Xu) (o:Bool):Ze m (Zb n++r) o=(n,r,o):=by
 have e:=ZdW n c r;rw [Zhe o (by rw [e]) (by rw [e];exact h),e];dsimp only;rw [Xau]
theorem ZcJ {l:Xu} (h:(Ze m l o).2.2=false):o=false/\Zb (Ze m l o).1++(Ze m l o).2.1=l:=by
 by_cases c:(Zk l).2.2=0/\(Zk l).1<=m
 ·rw [Zhe o c.1 c.2] at h ⊢;exact ⟨h,Zc3 (XaL rfl (XaL rfl c.1))⟩
 ·unfold Ze at h;rw [Xa c] at h;cases h
theorem ZCh {e:Ev} (c:Zid e) (h:ZG e=0) (r:Xu) (o:Bool):evS (ZZ e++r) o=(e,r,o):=by
 unfold evS;rw [Zcy (Zg4 c h r)];simp
theorem ZAn {l:Xu} (h:(evS l o).2.2=false):o=false/\ZZ (evS l o).1++(evS l o).2.1=l/\Zid (evS l o).1/\ZG (evS l o).1=0:=by
 unfold evS at h ⊢;cases hg:ZcV l with
 | none=>rw [Zc4 hg] at h;simp at h
 | some p =>
   obtain ⟨e,r⟩:=p;rw [Zcy hg] at h ⊢;dsimp only at h ⊢;obtain ⟨f,d,c⟩:=Zc2 hg;exact ⟨by simpa using h,f,d,c⟩
theorem ZAp (l:Xu) (o:Bool):(evS l o).2.1.length<=l.length:=by
 unfold evS;cases hg:ZcV l with
 | none=>rw [Zc4 hg];simp
 | some p =>
   obtain ⟨e,r⟩:=p;rw [Zcy hg];have:=Xp List.length (Zc2 hg).1;rw [Xd] at this;dsimp only;omega
abbrev Zf0:=Int×(Int×Int)
def ZT:Nat->Nat->Xu->Bool->List Zf0×Xu×Bool
 | 0,_,l,o=>([],l,o)
 | f+1,n,l,o=>if n=0 then ([],l,o) else
   let a:=Ze 1099511627776 l o
   let b:=Ze a.2.1.length a.2.1 a.2.2
   let r:=ZT f (n - 16) b.2.1 b.2.2
   (((min n 16:Nat),((a.1:Int),(b.1:Int)))::r.1,r.2)
def Zaf:Nat->Int->Xu->Bool->List Zo×Int×Xu×Bool
 | 0,a,l,o=>([],a,l,o)
 | f+1,a,l,o =>
   let k:=Ze 1099511627776 l o
   let e:=evS k.2.1 k.2.2
   let r:=Zaf f (a+(1+(k.1:Int))) e.2.1 e.2.2
   ((a+(1+(k.1:Int)),e.1)::r.1,r.2)
def Za7 (h:Zf0) (a:Int) (l:Xu) (o:Bool):List Zo×Xu×Bool :=
 if (l.length:Int)<h.2.2 then ([],[],true) else
 let s:=Zaf h.1.toNat a (l.take h.2.2.toNat) false
 if s.2.2.2=true\/s.2.2.1≠[]\/s.2.1≠h.2.1 then (s.1,[],true) else (s.1,l.drop h.2.2.toNat,o)
def ZbO:List Zf0->Int->Xu->Bool->List (List Zo)×Xu×Bool
 | [],_,l,o=>([],l,o)
 | h::r,a,l,o =>
   let b:=Za7 h a l o
   if b.2.2=true then ([],b.2.1,true) else
   let q:=ZbO r h.2.1 b.2.1 b.2.2
   (b.1::q.1,q.2)
def Zc0 (b:Xu):List (List Zo)×Xu×Bool :=
 let n:=Ze 65536 b false
 let h:=ZT 4096 n.1 n.2.1 n.2.2
 ZbO h.1 0 h.2.1 h.2.2
def Zl1 (b:Xu):Option (List Zo):=if (Zc0 b).2.2=true\/(Zc0 b).2.1≠[] then none else some (Zc0 b).1.flatten
def ZaQ:Int->List (List Zo)->List Zf0
 | _,[]=>[]
 | a,c::r=>((c.length:Int),(Za5 a c,((ZbY a c).length:Int)))::ZaQ (Za5 a c) r
def ZdA (hs:List Zf0):Xu:=hs.flatMap fun h=>Zb h.2.1.toNat++Zb h.2.2.toNat
def ZeI:Int->List (List Zo)->Xu
 | _,[]=>[]
 | a,c::r=>ZbY a c++ZeI (Za5 a c) r
def Six:Nat->List (List Zo)->Prop
 | n,[]=>n=0
 | n,c::r=>0<n/\c.length=min n 16/\Six (n - 16) r
theorem ZpI:∀(a:Int) (c d:List Zo),ZbY a (c++d)=ZbY a c++ZbY (Za5 a c) d
 | _,[],_=>rfl
 | a,x::r,d=>by rw [XJ,ZbY,ZpI x.1 r d,ZbY,Za5,Xl (Zb (x.1 - a - 1).toNat++ZZ x.2)]
theorem Zqc:∀(a:Int) (c d:List Zo),Za5 a (c++d)=Za5 (Za5 a c) d
 | _,[],_=>rfl
 | a,x::r,d=>Zqc x.1 r d
theorem Zks:∀(a:Int) (d:List (List Zo)),ZeI a d=ZbY a d.flatten
 | _,[]=>rfl
 | a,c::r=>by rw [ZeI,Zks,Xaj,ZpI]
theorem Zfn:∀{n:Nat} {d:List (List Zo)},Six n d->d.flatten.length=n
 | n,[],h=>by have h:n=0:=h;simp [h]
 | n,c::r,h=>by
   obtain ⟨h1,f,e⟩:=h;have:=Zfn e;rw [Xaj,Xd,this,f];omega
theorem ZhW:∀{n:Nat} {d:List (List Zo)},Six n d->d.length=(n+15) / 16
 | n,[],h=>by have h:n=0:=h;simp [h]
 | n,c::r,h=>by
   obtain ⟨h1,h2,e⟩:=h;have:=ZhW e;rw [Xh,this];omega
theorem Zp8:∀{c:List Zo} {a:Int} (r:Xu),isR a c=true->ZaH c->0<=a->Zaf c.length a (ZbY a c++r) false=(c,Za5 a c,r,false)
 | [],_,_,_,_,_=>rfl
 | d::c,a,r,h,hf,h0=>by
   rw [isR,Xy] at h;obtain ⟨h1,h2,f⟩:=Zgq.1 h.1;have e:a+(1+((d.1 - a - 1).toNat:Int))=d.1:=by omega
   rw [Xh,Zaf,ZbY];simp only [Xl];rw [ZdM (by omega) (by omega)];dsimp only;rw [ZCh (hf d (by simp)) f];dsimp only;rw [e,Zp8 r h.2 (fun x g=>hf x (by simp [g])) (by omega)];rfl
theorem ZAb {c:List Zo} (r:Xu) (h:isR a c=true) (d:ZaH c) (e:0<=a):Za7 ((c.length:Int),(Za5 a c,((ZbY a c).length:Int))) a (ZbY a c++r) false=(c,r,false):=by
 have:=Zp8 [] h d e;rw [XI] at this;unfold Za7;dsimp only;rw [Xa (by rw [Xd];omega),XT,XT,Xbk,Xau,this];simp
theorem ZtR:∀{d:List (List Zo)} {a:Int} (r:Xu),isR a d.flatten=true->ZaH d.flatten->0<=a->ZbO (ZaQ a d) a (ZeI a d++r) false=(d,r,false)
 | [],_,_,_,_,_=>rfl
 | c::d,a,r,h,hf,h0=>by
   rw [Xaj] at h hf;rw [ZhQ,Xy] at h;have h1:=Zle h.1;rw [ZaQ,ZbO,ZeI,Xl,ZAb _ h.1 (fun x e=>hf x (List.mem_append_left _ e)) h0];dsimp only;rw [Xa (by simp),ZtR r h.2 (fun x e=>hf x (List.mem_append_right _ e)) (by omega)]
theorem Zoa:∀{f n:Nat} {d:List (List Zo)} {a:Int} (r:Xu),Six n d->d.length<=f->isR a d.flatten=true->0<=a->a<=1099511627776->(ZeI a d).length<=r.length->r.length<18446744073709551616->ZT f n (ZdA (ZaQ a d)++r) false=(ZaQ a d,r,false)
 | 0,n,d,a,r,h,hl,_,_,_,_,_=>by
   obtain rfl:d=[]:=XO (by omega);rfl
 | f+1,n,[],a,r,h,_,_,_,_,_,_=>by
   have h:n=0:=h;rw [ZT,Xe h];rfl
 | f+1,n,c::d,a,r,h,hl,hr,h0,h9,hb,hm=>by
   obtain ⟨s1,s2,s3⟩:=h;rw [Xaj,ZhQ,Xy] at hr;have g1:=Zle hr.1;have g:=Ztj hr.1 h9;rw [ZeI,Xd] at hb
   have e:ZdA (ZaQ a (c::d))++r=Zb (Za5 a c).toNat++(Zb (ZbY a c).length++(ZdA (ZaQ (Za5 a c) d)++r)):=by
    rw [ZaQ];unfold ZdA;rw [XaQ];simp only [XT,Xl]
   rw [e,ZT,Xa (by omega),ZdM (by omega) (by omega)];dsimp only;rw [ZdM (by simp only [Xd];omega) (by omega)];dsimp only;rw [Zoa r s3 (by rw [Xh] at hl;omega) hr.2 (by omega) g (by omega) hm,ZaQ,s2];simp only [show ((Za5 a c).toNat:Int)=Za5 a c by omega]
def upR:Int->List Zo->Prop
 | _,[]=>True
 | a,d::r=>a<d.1/\ZG d.2=0/\Zid d.2/\upR d.1 r
theorem ZBW:∀{a:Int} {c:List Zo},upR a c->a<=Za5 a c
 | _,[],_=>Xa7 _
 | a,d::r,h=>by
   have:=ZBW h.2.2.2;rw [Za5];have:=h.1;omega
theorem ZBX:∀{a:Int} {c:List Zo},upR a c->Za5 a c<=1099511627776->isR a c=true/\ZaH c
 | _,[],_,_=>⟨rfl,fun d g=>by simp at g⟩
 | a,d::r,h,h9=>by
   rw [Za5] at h9;have h1:=ZBW h.2.2.2;have f:=ZBX h.2.2.2 h9;rw [isR,Xy,Zgq];refine ⟨⟨⟨h.1,by omega,h.2.1⟩,f.1⟩,fun x e => ?_⟩;rcases XS.1 e with rfl|e
   ·exact h.2.2.1
   ·exact f.2 x e
theorem ZjQ:∀(f:Nat) (a:Int) (l:Xu) (o:Bool),(Zaf f a l o).2.2.2=false->o=false/\(Zaf f a l o).1.length=f/\ZbY a (Zaf f a l o).1++(Zaf f a l o).2.2.1=l/\upR a (Zaf f a l o).1/\Za5 a (Zaf f a l o).1=(Zaf f a l o).2.1
 | 0,_,_,_,h=>⟨h,rfl,rfl,trivial,rfl⟩
 | f+1,a,l,o,h=>by
   rw [Zaf] at h ⊢;dsimp only at h ⊢;obtain ⟨s,e,q,j,i⟩:=ZjQ f _ _ _ h;obtain ⟨g,d,r,p⟩:=ZAn s;obtain ⟨c,k⟩:=ZcJ g;refine ⟨c,by rw [Xh,e],?_,⟨by show a<a+(1+_);omega,p,r,j⟩,i⟩;rw [ZbY];dsimp only;rw [show (a+(1+((Ze 1099511627776 l o).1:Int)) - a - 1).toNat=(Ze 1099511627776 l o).1 by omega];rw [Xl,Xl,q,d,k]
theorem ZpK {h:Zf0} {l:Xu} (h0:0<=h.2.2) (hn:0<=h.1) (c:(Za7 h a l o).2.2=false) (q:h.2.1<=1099511627776) :
  o=false/\((Za7 h a l o).1.length:Int)=h.1/\ZbY a (Za7 h a l o).1++(Za7 h a l o).2.1=l/\isR a (Za7 h a l o).1=true/\ZaH (Za7 h a l o).1/\Za5 a (Za7 h a l o).1=h.2.1/\((ZbY a (Za7 h a l o).1).length:Int)=h.2.2:=by
 unfold Za7 at c ⊢
 by_cases i:(l.length:Int)<h.2.2
 ·rw [Xe i] at c;cases c
 ·rw [Xa i] at c ⊢;dsimp only at c ⊢
  by_cases e:(Zaf h.1.toNat a (l.take h.2.2.toNat) false).2.2.2=true\/(Zaf h.1.toNat a (l.take h.2.2.toNat) false).2.2.1≠[]\/(Zaf h.1.toNat a (l.take h.2.2.toNat) false).2.1≠h.2.1
  ·rw [Xe e] at c;cases c
  ·rw [Xa e] at c ⊢;dsimp only at c ⊢
   have p:(Zaf h.1.toNat a (l.take h.2.2.toNat) false).2.2.2=false:=by
    cases d:(Zaf h.1.toNat a (l.take h.2.2.toNat) false).2.2.2 with
    | false=>rfl
    | true=>exact absurd (.inl d) e
   have s:(Zaf h.1.toNat a (l.take h.2.2.toNat) false).2.2.1=[]:=Xar fun d=>e (.inr (.inl d));have k:(Zaf h.1.toNat a (l.take h.2.2.toNat) false).2.1=h.2.1:=Xar fun d=>e (.inr (.inr d));obtain ⟨_,r,f,t,j⟩:=ZjQ _ _ _ _ p;rw [s,XI] at f;have g:=ZBX t (by rw [j,k];exact q);refine ⟨c,by rw [r];omega,by rw [f,X6],g.1,g.2,by rw [j,k],?_⟩;rw [f,Xi];omega
theorem Zq7:∀(hs:List Zf0) (a:Int) (l:Xu) (o:Bool),(∀h∈hs,0<=h.1/\0<=h.2.2/\h.2.1<=1099511627776)->(ZbO hs a l o).2.2=false ->
  o=false/\ZaQ a (ZbO hs a l o).1=hs/\ZeI a (ZbO hs a l o).1++(ZbO hs a l o).2.1=l/\isR a (ZbO hs a l o).1.flatten=true/\ZaH (ZbO hs a l o).1.flatten
 | [],_,_,_,_,h=>⟨h,rfl,rfl,rfl,fun d c=>by simp [ZbO] at c⟩
 | h::hs,a,l,o,hh,hr=>by
   rw [ZbO] at hr ⊢;dsimp only at hr ⊢
   by_cases e:(Za7 h a l o).2.2=true
   ·rw [Xe e] at hr;cases hr
   ·rw [Xa e] at hr ⊢;dsimp only at hr ⊢;obtain ⟨u,j,r⟩:=hh h (by simp);have e:(Za7 h a l o).2.2=false:=by simpa using e
    obtain ⟨i,z,k,y,w,f,s⟩:=ZpK j u e r;obtain ⟨_,q,t,p,g⟩:=Zq7 hs h.2.1 _ _ (fun x v=>hh x (by simp [v])) hr;refine ⟨i,?_,?_,?_,?_⟩
    ·rw [ZaQ,z,f,s,q]
    ·rw [ZeI,f,Xl,t,k]
    ·rw [Xaj,ZhQ,f,y,p];rfl
    ·intro d c;rw [Xaj] at c;rcases Xak.1 c with c|c
     ·exact w d c
     ·exact g d c
theorem Zmn:∀(f n:Nat) (l:Xu) (o:Bool),(n+15) / 16<=f->(ZT f n l o).2.2=false ->
  o=false/\ZdA (ZT f n l o).1++(ZT f n l o).2.1=l
 | 0,n,l,o,hf,h=>⟨h,rfl⟩
 | f+1,n,l,o,hf,h=>by
   rw [ZT] at h ⊢
   by_cases d:n=0
   ·rw [Xe d] at h ⊢;exact ⟨h,rfl⟩
   ·rw [Xa d] at h ⊢;dsimp only at h ⊢;obtain ⟨k,c⟩:=Zmn f (n - 16) _ _ (by omega) h;obtain ⟨j,g⟩:=ZcJ k;obtain ⟨e,i⟩:=ZcJ j;refine ⟨e,?_⟩;unfold ZdA at c ⊢;rw [XaQ];dsimp only;rw [XT,XT,Xl,Xl,c,g,i]
theorem Zj2:∀(f n:Nat) (l:Xu) (o:Bool),∀h∈(ZT f n l o).1,1<=h.1/\0<=h.2.2/\(0<=h.2.1/\h.2.1<=1099511627776)/\h.1<=16/\h.2.2<=l.length
 | 0,n,l,o,h,c=>by simp [ZT] at c
 | f+1,n,l,o,h,c=>by
   rw [ZT] at c
   by_cases d:n=0
   ·rw [Xe d] at c;simp at c
   ·rw [Xa d] at c;dsimp only at c;have e1:=Zcn 1099511627776 l o;have e2:=Zcn (Ze 1099511627776 l o).2.1.length (Ze 1099511627776 l o).2.1 (Ze 1099511627776 l o).2.2;have e3:=ZbW 1099511627776 l o;have e4:=ZbW (Ze 1099511627776 l o).2.1.length (Ze 1099511627776 l o).2.1 (Ze 1099511627776 l o).2.2;rcases XS.1 c with rfl|c
    ·dsimp only;omega
    ·have:=Zj2 f _ _ _ h c;omega
theorem Zob:∀{f n:Nat} {l:Xu} {o:Bool} {e:List (List Zo)} {a:Int},(n+15) / 16<=f->ZaQ a e=(ZT f n l o).1->Six n e
 | 0,n,l,o,[],a,hf,h=>by show n=0;omega
 | 0,n,l,o,c::r,a,hf,h=>by rw [ZaQ,ZT] at h;cases h
 | f+1,n,l,o,[],a,hf,h=>by
   rw [ZT] at h
   by_cases d:n=0
   ·exact d
   ·rw [Xa d,ZaQ] at h;cases h
 | f+1,n,l,o,c::r,a,hf,h=>by
   rw [ZT] at h
   by_cases d:n=0
   ·rw [Xe d,ZaQ] at h;cases h
   ·rw [Xa d,ZaQ] at h;dsimp only at h;simp only [Xa6,X8] at h;exact ⟨by omega,by omega,Zob (by omega) h.2⟩
theorem Zi7:∀(a:Int) (d:List (List Zo)) (c:List Zo),ZaQ a (d++[c])=ZaQ a d++[((c.length:Int),(Za5 (Za5 a d.flatten) c,((ZbY (Za5 a d.flatten) c).length:Int)))]
 | _,[],_=>rfl
 | a,b::d,c=>by rw [XJ,ZaQ,Zi7,ZaQ,Xaj,Zqc];rfl
theorem ZgX (l:List Zo):∀{k:Nat},k<=Zv l.length->((List.range k).map (ZaG l)).flatten=l.take (16*k)
 | 0,_=>by simp
 | k+1,h=>by
   rw [XaV,XN,XaO,ZgX l (by omega),show 16*(k+1)=16*k+16 by omega,List.take_add];simp [ZaG]
theorem ZkF (l:List Zo):∀{k:Nat},k<=Zv l.length->ZdA (ZaQ 0 ((List.range k).map (ZaG l)))=Zas l 0 k
 | 0,_=>rfl
 | k+1,h=>by
   have c:16*k<=l.length:=by unfold Zv at h;omega
   rw [XaV,XN,Xbs,Zi7,ZgX l (by omega),Zev l c,ZnH c,Zkx c,Zfb,<- ZkF l (k:=k) (by omega)];unfold ZdA Zg8;rw [XaR];simp
theorem ZnO (l:List Zo) {c:List (List Zo)} (h:c=(List.range (Zv l.length)).map (ZaG l)):SM.encS l=Zb l.length++(ZdA (ZaQ 0 c)++ZeI 0 c)/\c.flatten=l:=by
 have d:c.flatten=l:=by
  rw [h,ZgX l (Xc _),XM (by unfold Zv;omega)]
 refine ⟨?_,d⟩;rw [Zks,d,h,ZkF l (Xc _)];unfold SM.encS;have:=ZjK (l:=l) 0 (m:=l.length) (by omega);rw [Xap,XC,XL] at this;rw [<- this];rfl
theorem Zm1 (l:List Zo):∀(m k:Nat),k+m=Zv l.length->Six (l.length - 16*k) ((List.range' k m).map (ZaG l))
 | 0,k,h=>by show l.length - 16*k=0;unfold Zv at h;omega
 | m+1,k,h=>by
   have hk:16*k<l.length:=by unfold Zv at h;omega
   rw [List.range'_succ,XF];refine ⟨by omega,?_,?_⟩
   ·rw [Zeu (by omega)];unfold Zbt;omega
   ·have:=Zm1 l m (k+1) (by omega);rw [show l.length - 16*(k+1)=l.length - 16*k - 16 by omega] at this;exact this
theorem ZCB (l:List Zo):Six l.length ((List.range (Zv l.length)).map (ZaG l)):=by
 have:=Zm1 l (Zv l.length) 0 (by omega);rw [List.range_eq_range'];exact this
theorem ZtT:∀{n:Nat} {f:List (List Zo)},Six n f->∀k,k<f.length->ZaG f.flatten k=f.getD k []
 | n,[],_,k,hk=>by simp at hk
 | n,c::r,h,0,_=>by
   obtain ⟨l,j,g⟩:=h;have hl:=Zfn g;unfold ZaG;rw [Xaj,XaY,Xap]
   by_cases d:16<=n
   ·rw [Xbu (by omega),XM (by omega)];rfl
   ·have:r.flatten=[]:=XO (by omega);rw [this,XI,XM (by omega)];rfl
 | n,c::r,h,k+1,hk=>by
   obtain ⟨l,j,g⟩:=h;have i:k<r.length:=by simpa using hk
   have d:c.length=16:=by
    by_cases d:16<=n
    ·omega
    ·have:=ZhW g;omega
   have ih:=ZtT g k i;have e:(c::r).getD (k+1) []=r.getD k []:=by simp
   rw [e,<- ih];unfold ZaG;rw [Xaj,List.drop_append,XaH (by omega),d,Xz,show 16*(k+1) - 16=16*k by omega]
theorem ZsQ {c:List (List Zo)} (h:Six n c):c=(List.range (Zv c.flatten.length)).map (ZaG c.flatten):=by
 have f:=Zfn h;have d:=ZhW h;refine List.ext_getElem (by rw [XE,List.length_range,f,d];rfl) fun i hi e => ?_;rw [XaA,List.getElem_range,ZtT h i hi,XaP,XW hi];rfl
theorem ZwZ {l:List Zo} (h:isS l=true) (r:ZaH l) (k:(SM.encS l).length<18446744073709551616):Zl1 (SM.encS l)=some l:=by
 obtain ⟨p,j⟩:=Zbx.1 h;obtain ⟨c,d⟩:∃c,c=(List.range (Zv l.length)).map (ZaG l):=⟨_,rfl⟩;obtain ⟨g,e⟩:=ZnO l d;have hs:Six l.length c:=by rw [d];exact ZCB l
 have hc:=ZhW hs;rw [g,Xd,Xd] at k;have q:=Zoa (f:=4096) (a:=0) (ZeI 0 c) hs (by omega) (by rw [e];exact j) (Xa7 _) (by omega) (Xc _) (by omega);have i:=ZtR (a:=0) [] (by rw [e];exact j) (by rw [e];exact r) (Xa7 _);rw [XI] at i
 have:Zc0 (SM.encS l)=(c,[],false):=by
  unfold Zc0;rw [g,ZdM p (by omega)];dsimp only;rw [q];exact i
 unfold Zl1;rw [this];simp [e]
theorem Zum {l:List Zo} (h:Zl1 b=some l):isS l=true/\ZaH l/\SM.encS l=b:=by
 unfold Zl1 at h
 by_cases d:(Zc0 b).2.2=true\/(Zc0 b).2.1≠[]
 ·rw [Xe d] at h;cases h
 ·rw [Xa d] at h;obtain rfl:=XP h
  have e:(Zc0 b).2.2=false:=by
   cases i:(Zc0 b).2.2 with
   | false=>rfl
   | true=>exact absurd (.inl i) d
  have f:(Zc0 b).2.1=[]:=Xar fun i=>d (.inr i);unfold Zc0 at e f ⊢;dsimp only at e f ⊢;have s:=ZbW 65536 b false;obtain ⟨n,w⟩:=Xn ((Ze 65536 b false).1);have c:=Zj2 4096 (Ze 65536 b false).1 (Ze 65536 b false).2.1 (Ze 65536 b false).2.2;obtain ⟨y,j,k,t,p⟩:=Zq7 _ _ _ _ (fun x g=>⟨by have:=(c x g).1;omega,(c x g).2.1,(c x g).2.2.1.2⟩) e;obtain ⟨r,u⟩:=Zmn 4096 _ _ _ (by omega) y;obtain ⟨_,q⟩:=ZcJ r;have hs:=Zob (by omega) j;rw [f,XI] at k;obtain ⟨v,_⟩:=ZnO _ (ZsQ hs);refine ⟨Zbx.2 ⟨by rw [Zfn hs];exact s,t⟩,p,?_⟩;rw [v,Zfn hs,j,k,u,q]
theorem Zun (f:b.length<18446744073709551616):Zl1 b=Zek b:=by
 cases h:Zek b with
 | some l =>
   obtain ⟨e,d,c⟩:=Zcv h;rw [<- c];exact ZwZ e d (by rw [c];exact f)
 | none =>
   cases hc:Zl1 b with
   | none=>rfl
   | some l =>
     obtain ⟨e,d,c⟩:=Zum hc;rw [<- c,ZgY e d] at h;cases h
open EV (Z8 ZuH Ztq ZA Zim Zch Zad IsF ZcG Zba)
theorem Zmq:(prog.info? 59).map (·.size)=some 3:=by kernel_rfl
def ZCI (fs:List Fld) (w:World) (e:Ending) (w':World):Prop:=∃u,e=.returned u/\ZD Z8 (ZcG w w') w' u fs/\Below w.heap.size w w'
theorem Zl9 (v:Value) (fs:List Fld) (w:World) (j:ZN Z8 w v fs) (hl:fs.length<=100000):Calls prog 116 #[v] w (ZCI fs w):=by
 obtain ⟨p,z,rfl,s,u,t⟩:=j.shape;have hq:=fun (w:World) (a:Option Addr) (n c:Nat)=>Lib.run_eql_slice_nil (P:=prog) w 55 123 a n c 0 0 underlying55;cases p with
 | none =>
   have x:=t rfl;subst x;have y:fs=[]:=XO (by omega);subst y;clear j;go_enter func116,ntmps116;go_wp2_with fail;go_ret;exact ⟨_,rfl,ZD.nil_ _ _,Below.refl _ _⟩
 | some ad =>
   have f:Below w.heap.size w (w.alloc (.cells #[] 123)):=(Below.refl _ _).alloc (Xc _) _;have k:=hid (Zz.lit0 (C:=Z8) 123 (fun _=>False) w (Xc _));have r:=hid (Ztq (S':=fun _=>False) (ZN.below j f));have l:=hid f;clear j f;go_enter func116,ntmps116;go_wp2_with (at_builtin;go_loud (refine Zf ZuH rfl _ _ rfl w.heap.size _ [] rfl k.out (fun b _ q=>q.elim) _ fs rfl r.out (by unfold maxLen;simp;omega) (by simp;omega) (by simp) ?_;intro v' w4 d i _;rw [Xz] at d;obtain ⟨q4,c4,rfl,_⟩:=d.any.shape;have e:=hid d;have m:=hid (l.out.trans i);clear d i))
   go_ret;exact ⟨_,rfl,e.out.ron (fun g o=>⟨(e.out.cells o).1,(e.out.cells o).2.2⟩) (fun _ _ h=>h.elim),m.out⟩
end SR
namespace SG
open RowKit MM
open EM (Fld Ev)
open EV (Z8 ZA Zad ZcG Zba)
open SM (Zo Zhc)
open SR (Zl9 Zmq)
def Zrv (o:Option Zo) (w:World) (e:Ending) (w':World):Prop :=
 ∃u,e=.returned (.tuple #[.agg #[.int .i64 (o.getD Zhc).1,.int .i64 (o.getD Zhc).2.1,u],.bool o.isSome])/\ZD Z8 (ZcG w w') w' u (o.getD Zhc).2.2/\Below w.heap.size w w'
def Zz4 (l:List Zo):Prop:=∀d∈l,d.2.2.length<=100000
theorem Zz7 (v:Value) (l:List Zo) (k:Nat) (w:World) (I:ZN ZA w v l) (O:Zz4 l) (N:k<l.length):Calls prog 65 #[v,.int .i64 k] w (Zrv (some l[k]) w):=by
 obtain ⟨p,aa,rfl,Y,J,_⟩:=I.shape;unfold maxLen at J;have F:=O _ (XH N);have r:Below w.heap.size w (w.alloc (.cells #[.int .i64 0,.int .i64 0,.slice none 0 0] 59)):=(Below.refl _ _).alloc (Xc _) _;obtain ⟨b,off,vf,rfl,X,_,c1,c2,c3,C⟩:=Zad (I.below r) N;obtain ⟨⟨i,⟨t,fs⟩⟩,S⟩:∃d,l[k]=d:=⟨_,rfl⟩;rw [S] at c1 c2 C F ⊢;dsimp only at c1 c2 C F;obtain ⟨D,G,rfl,_⟩:=C.shape;have t0:decide ((k:Int)<0)=false:=Xf;have t1:decide ((k:Int)>=(l.length:Int))=false:=Xf;have t2:decide ((l.length:Int)<=(k:Int))=false:=Xf;have t3:(k:Int)<(l.length:Int):=by omega
 have t4:decide (l.length<=k)=false:=Xf;obtain ⟨R,M⟩:=Xn w.heap.size;obtain ⟨y,a⟩:=Xn ((w.alloc (.cells #[.int .i64 0,.int .i64 0,.slice none 0 0] 59)).alloc (.cells #[.int .i64 i,.int .i64 t,.slice D fs.length G] 59));have z:Below w.heap.size w y:=by rw [<- a];exact r.alloc (by simp) _
 have n:y.heap.size=R+2:=by rw [<- a,<- M];simp
 have T:Hid (Three y R 59 (.int .i64 0) (.int .i64 0) (.slice none 0 0)):=hid (by rw [<- a,<- M];exact (ZaE w 59 _ _ _).keep (Zr (fun _=>True) _ _) trivial)
 have U:Hid (Three y (R+1) 59 (.int .i64 i) (.int .i64 t) (.slice D fs.length G)):=hid (by
  have:=ZaE (w.alloc (.cells #[.int .i64 0,.int .i64 0,.slice none 0 0] 59)) 59 (.int .i64 i) (.int .i64 t) (.slice D fs.length G);rw [a,World.size_alloc,M] at this;exact this)
 have V:=hid (Zl9 (.slice D fs.length G) fs y (C.any.below (by rw [<- a];exact (Below.refl _ _).alloc (Xc _) _)) F);have x:=hid z;have s:=hid a;have B:=hid n;clear I C z a n r S O F;go_enter func65,ntmps65;go_wp2_with fail;rw [s.out];refine V.out.mono ?_;rintro e m ⟨u,rfl,L,g⟩;obtain ⟨c,f,rfl,_⟩:=L.shape;have n:=B.out;have a0:=T.out.below g (by omega);have H:=U.out.below g (by omega);have f1:=H.fr 2;have g1:=H.c2;have W:=H.s2 (.slice c fs.length f);have o:Kep (fun b=>b≠R+1) m (m.setCell ⟨R+1,2,none⟩ (.slice c fs.length f)):=Zx (fun h=>h rfl) _;have E:=a0.keep o (by omega);obtain ⟨x0,x1,x2⟩:=W.cells;obtain ⟨y0,y1,y2⟩:=E.cells;obtain ⟨m1,m2,m3,⟨k1,k2⟩,k3,k4⟩:=E.all (.int .i64 i) (.int .i64 t);have Z:=hid (E.set (.int .i64 i) (.int .i64 t) (.slice c fs.length f));have A:Kep (fun b=>b≠R) (m.setCell ⟨R+1,2,none⟩ (.slice c fs.length f)) (Zza (m.setCell ⟨R+1,2,none⟩ (.slice c fs.length f)) R (.int .i64 i) (.int .i64 t) (.slice c fs.length f)):=ZxZ _ _ _;have q:Kep (fun b=>b≠R/\b≠R+1) m (Zza (m.setCell ⟨R+1,2,none⟩ (.slice c fs.length f)) R (.int .i64 i) (.int .i64 t) (.slice c fs.length f)):=(o.mono fun b j=>j.2).trans (A.mono fun b j=>j.1)
 have HQ:Hid (Zrv (some (i,(t,fs))) w (.returned (.tuple #[.agg #[.int .i64 i,.int .i64 t,.slice c fs.length f],.bool true])) (Zza (m.setCell ⟨R+1,2,none⟩ (.slice c fs.length f)) R (.int .i64 i) (.int .i64 t) (.slice c fs.length f))):=hid
  ⟨_,rfl,(Zba L q (fun b j=>⟨by omega,by omega⟩)).weak fun b _ j=>⟨by have:=j.1;omega,j.2⟩,
   ((x.out.trans (g.mono (by omega))).trans (q.below (by have:=g.size;omega) fun k N=>⟨by omega,by omega⟩))⟩
 clear L g a0 H W o A q E V T U x s B c1 c2 c3;go_wp2_with fail;refine bodyPost_ret (ZmS (p:=4) (u:=5) rfl underlying59 rfl Zmq _ _ R _ _ _ rfl Z.out) rfl HQ.out
