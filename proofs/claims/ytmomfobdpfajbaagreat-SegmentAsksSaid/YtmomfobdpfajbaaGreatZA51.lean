import Derived.Test.YtmomfobdpfajbaaGreatZA19
import Derived.Deep.DeepCutAuto
set_option maxRecDepth 100000
set_option maxHeartbeats 0
set_option linter.unusedVariables false
set_option linter.unusedSimpArgs false
namespace Go.Proofs.YtmomfobdpfajbaaGreat
open Tryz
namespace SG
open RowKit MM
open EV (ZD Zae Z2)
open SM (Zq)
open GM (ZiU Zj ZgD Ziv Zg1)
variable {sq t:Int}
def ZkT (F:ZiU):Array Value:=#[.int .i64 0,.int .i64 0,.int .i64 F.1,.int .i64 F.2.1,.int .i64 F.2.2.1,.int .i64 F.2.2.2.1,.int .i64 (F.2.2.2.2:Int)]
theorem Zay {B k:Nat} {a w:World} (h:Below B a w) (v:Value):Below B a (w.setCell ⟨B,k,none⟩ v) :=
 h.trans ⟨rfl,rfl,rfl,by simp,fun j hj=>heap_setCell_other _ _ _ _ (show j≠B by omega)⟩
theorem Zvk {F:ZiU} {fs:List EM.Fld} (h:F.2.2.2.2≠0):ZgD F (sq,(t,fs))=(min F.1 t,max F.2.1 t,F.2.2.1,sq,F.2.2.2.2+1):=by unfold ZgD;rw [Xc h]
theorem ZsE {F:ZiU} {fs:List EM.Fld} (h:F.2.2.2.2=0):ZgD F (sq,(t,fs))=(t,t,sq,sq,1):=by unfold ZgD;rw [Xe h]
theorem ZoC (v:Value) (l:List Zq) (w:World) (hv:ZF ZD w v l):Calls prog 30 #[v] w fun e w'=>e=.returned (.agg (ZkT (Zj l)))/\Below w.heap.size w w':=by
 obtain ⟨p,aE,rfl,aC,an,_⟩:=hv.shape;unfold maxLen at an;obtain ⟨R,hR⟩:=Xn w.heap.size;obtain ⟨Z,o⟩:=Xn (w.alloc (.cells #[.int .i64 0,.int .i64 0,.int .i64 0,.int .i64 0,.int .i64 0,.int .i64 0,.int .i64 0] 65));obtain ⟨q,j⟩:=Xn (Z.alloc (.cells #[.int .i64 0,.int .i64 0,.int .i64 0,.int .i64 0,.int .i64 0,.int .i64 0,.int .i64 0] 65));have B:Z.heap.size=R+1:=by rw [<- o,<- hR];simp
 have Y:Below w.heap.size w Z:=by rw [<- o];exact (Below.refl _ _).alloc (Xa _) _
 have n:Below Z.heap.size Z q:=by rw [<- j];exact (Below.refl _ _).alloc (Xa _) _
 have h:q.heap[R]? = some (.cells #[.int .i64 0,.int .i64 0,.int .i64 0,.int .i64 0,.int .i64 0,.int .i64 0,.int .i64 0] 65 (0,0)):=(n.block R (by omega)).trans (by rw [<- o,<- hR];exact heap_alloc_new _ _);have W:q.heap[R+1]? = some (.cells (ZkT (Zj (l.take 0))) 65 (0,0)):=by rw [<- j,<- B];exact heap_alloc_new _ _
 have ag:q.heap.size=R+2:=by rw [<- j];simp [B]
 have M:Below w.heap.size w q:=Y.trans (n.mono (by omega));have HV:=Y4 (show Ze0 ZD R q _ l from by have:=Ze0.below hv.bel M;rwa [hR] at this);have aa:=Y4 M;have ae:=Y4 h;have ac:=Y4 W;have aG:=Y4 ag;have av:=Y4 o;have ar:=Y4 j;have az:=Y4 B;clear hv B Y n h W ag M o j;go_enter func30,ntmps30;go_wp2_with (first|(rw [ar.z])|(rw [av.z]))
 rw [az.z]
 go_loopw [4] (fun iv wr=>∃i:Nat,i<=l.length/\iv=.int .i64 i/\Y5 (wr.heap[R+1]? = some (.cells (ZkT (Zj (l.take i))) 65 (0,0)))/\Y5 (Below (R+1) q wr)) (fun iv _=>l.length - (intOf iv).toNat)
 case atStart=>exact ⟨0,by omega,by go_simp,ac,Y4 (Below.refl _ _)⟩
 case round =>
  obtain ⟨i,hi,rfl,HG,E⟩:=hrel;clear ac
  by_cases x:i<l.length
  ·have t1:decide ((i:Int)<(l.length:Int))=true:=Xt;have t2:(i:Int)<(l.length:Int):=by omega
   obtain ⟨b,off,vf,rfl,aD,_,c1,c2,c3,hf⟩:=Z2 (Ze0.below HV.z (E.z.mono (Nat.le_succ R))) x;have y:=GM.Ziv x;have N:=GM.Zg1 l (k:=i) (by omega);obtain ⟨⟨sq,t,fs⟩,hd⟩:∃d,l[i]=d:=⟨_,rfl⟩;rw [hd] at c1 c2 hf y;change wr.cell? ⟨b,off+i*3,none⟩=some (.int .i64 sq) at c1;change wr.cell? ⟨b,off+i*3+1,none⟩=some (.int .i64 t) at c2;change ZB Zae _ wr vf fs at hf;obtain ⟨pf,cf,rfl,_⟩:=hf.shape;have aw:R+1<wr.heap.size:=(Xq.1 HG.z).1;obtain ⟨D,hD⟩:=Xn wr.heap.size;obtain ⟨f,u⟩:=Xn (wr.alloc (.cells #[.int .i64 sq,.int .i64 t,.slice pf fs.length cf] 59));have S:Below wr.heap.size wr f:=by rw [<- u];exact (Below.refl _ _).alloc (Xa _) _
   have hT:Three f D 59 (.int .i64 sq) (.int .i64 t) (.slice pf fs.length cf):=by rw [<- u,<- hD];exact Zaj _ _ _ _ _
   have a:=(S.block _ aw).trans HG.z;obtain ⟨⟨f0,f1,V,r,f4⟩,hF⟩:∃F,GM.Zj (l.take i)=F:=⟨_,rfl⟩;rw [hF] at a y N;have H:=Y4 hT;obtain ⟨x0,x1,x2⟩:=hT.cells;have y2:f.cell? ⟨R+1,2,none⟩=some (.int .i64 f0):=Zf a 2;have y3:f.cell? ⟨R+1,3,none⟩=some (.int .i64 f1):=Zf a 3;have y4:f.cell? ⟨R+1,4,none⟩=some (.int .i64 V):=Zf a 4;have y5:f.cell? ⟨R+1,5,none⟩=some (.int .i64 r):=Zf a 5;have y6:f.cell? ⟨R+1,6,none⟩=some (.int .i64 (f4:Int)):=Zf a 6;have z:=frozen_of_row f (R+1) 2 _ _ a;have aA:=Y4 y;have ai:=Y4 u;have ao:=Y4 x;have G:=Y4 a;have O:=Y4 S;clear hf hd y hF a S u hT;have L:=Y4 (show f4=i from N);clear HG N
   go_upto_if 17 with (rw [ai.z])
   go_cut [] from 6 to 49 (fun wx=>∃a0 m U:Int,Y5 ((min a0 t,max m t,U,sq,f4+1)=GM.ZgD (f0,f1,V,r,f4) (sq,(t,fs)))/\Y5 (wx.heap[R+1]? = some (.cells #[.int .i64 0,.int .i64 0,.int .i64 a0,.int .i64 m,.int .i64 U,.int .i64 r,.int .i64 (f4:Int)] 65 (0,0)))/\Y5 (Three wx D 59 (.int .i64 sq) (.int .i64 t) (.slice pf fs.length cf))/\Y5 (Below (R+1) q wx))
   case first =>
    by_cases h0:i=0
    ·have e0:((i:Int) == 0)=true:=by rw [Xaj];omega
     have ad:Y5 (f4=0):=Y4 (by rw [L.z];exact h0);have a:=G.z;have A:(f.setCell ⟨R+1,2,none⟩ (.int .i64 t)).heap[R+1]? = some (.cells #[.int .i64 0,.int .i64 0,.int .i64 t,.int .i64 f1,.int .i64 V,.int .i64 r,.int .i64 (f4:Int)] 65 (0,0)):=heap_setCell_same f (R+1) 2 _ _ _ a;have s:((f.setCell ⟨R+1,2,none⟩ (.int .i64 t)).setCell ⟨R+1,3,none⟩ (.int .i64 t)).heap[R+1]? = some (.cells #[.int .i64 0,.int .i64 0,.int .i64 t,.int .i64 t,.int .i64 V,.int .i64 r,.int .i64 (f4:Int)] 65 (0,0)):=heap_setCell_same _ (R+1) 3 _ _ _ A;have a3:(f.setCell ⟨R+1,2,none⟩ (.int .i64 t)).cell? ⟨R+1,3,none⟩=some (.int .i64 f1):=Zf A 3;have a4:((f.setCell ⟨R+1,2,none⟩ (.int .i64 t)).setCell ⟨R+1,3,none⟩ (.int .i64 t)).cell? ⟨R+1,4,none⟩=some (.int .i64 V):=Zf s 4;have r1:=frozen_of_row _ (R+1) 3 _ _ A;have r2:=frozen_of_row _ (R+1) 4 _ _ s;have g:=Y4 s;clear A s a h0;go_wp2_with fail;go_region;obtain ⟨C,c⟩:=Xn ((((f.setCell ⟨R+1,2,none⟩ (.int .i64 t)).setCell ⟨R+1,3,none⟩ (.int .i64 t)).setCell ⟨R+1,4,none⟩ (.int .i64 sq)).drew);have T:C.heap[R+1]? = some (.cells #[.int .i64 0,.int .i64 0,.int .i64 t,.int .i64 t,.int .i64 sq,.int .i64 r,.int .i64 (f4:Int)] 65 (0,0)):=by rw [<- c];exact heap_setCell_same _ (R+1) 4 _ _ _ g.z
     have b3:Below (R+1) q C:=by rw [<- c];exact (Zay (Zay (Zay (E.z.trans (O.z.mono (by omega))) _) _) _).drew
     have J:D≠R+1:=by omega
     have am:Three C D 59 (.int .i64 sq) (.int .i64 t) (.slice pf fs.length cf):=by
      rw [<- c];exact (heap_setCell_other _ _ _ _ J).trans ((heap_setCell_other _ _ _ _ J).trans ((heap_setCell_other _ _ _ _ J).trans H.z))
     rw [c];go_wp2_with fail;go_meet;exact ⟨t,t,sq,Y4 (by rw [ZsE (by exact ad.z),ad.z,show min t t=t by omega,show max t t=t by omega]),Y4 T,Y4 am,Y4 b3⟩
    ·have e0:((i:Int) == 0)=false:=Xb;have ay:Y5 (f4≠0):=Y4 (by rw [L.z];exact h0);clear h0;go_wp2_with fail;go_meet;exact ⟨f0,f1,V,Y4 (by rw [Zvk (by exact ay.z)]),G,H,Y4 (E.z.trans (O.z.mono (by omega)))⟩
   case rest =>
    obtain ⟨a0,m,U,HN,ah,aB,ap⟩:=hcut;clear x0 x1 x2 y2 y3 y4 y5 y6 z G H E O c1 c2 c3;obtain ⟨x0,x1,x2⟩:=aB.z.cells;have a:=ah.z;have y2:wc.cell? ⟨R+1,2,none⟩=some (.int .i64 a0):=Zf a 2;have y3:wc.cell? ⟨R+1,3,none⟩=some (.int .i64 m):=Zf a 3;have y5:wc.cell? ⟨R+1,5,none⟩=some (.int .i64 r):=Zf a 5;have z:=frozen_of_row wc (R+1) 2 _ _ a;have A:(wc.setCell ⟨R+1,2,none⟩ (.int .i64 (min a0 t))).heap[R+1]? = some (.cells #[.int .i64 0,.int .i64 0,.int .i64 (min a0 t),.int .i64 m,.int .i64 U,.int .i64 r,.int .i64 (f4:Int)] 65 (0,0)):=heap_setCell_same wc (R+1) 2 _ _ _ a;have s:((wc.setCell ⟨R+1,2,none⟩ (.int .i64 (min a0 t))).setCell ⟨R+1,3,none⟩ (.int .i64 (max m t))).heap[R+1]? = some (.cells #[.int .i64 0,.int .i64 0,.int .i64 (min a0 t),.int .i64 (max m t),.int .i64 U,.int .i64 r,.int .i64 (f4:Int)] 65 (0,0)):=heap_setCell_same _ (R+1) 3 _ _ _ A;have a3:(wc.setCell ⟨R+1,2,none⟩ (.int .i64 (min a0 t))).cell? ⟨R+1,3,none⟩=some (.int .i64 m):=Zf A 3;have a5:((wc.setCell ⟨R+1,2,none⟩ (.int .i64 (min a0 t))).setCell ⟨R+1,3,none⟩ (.int .i64 (max m t))).cell? ⟨R+1,5,none⟩=some (.int .i64 r):=Zf s 5;have r1:=frozen_of_row _ (R+1) 3 _ _ A;have r2:=frozen_of_row _ (R+1) 5 _ _ s;have g:=Y4 s;clear A s a;go_wp2_with fail;go_region;obtain ⟨C,c⟩:=Xn ((((wc.setCell ⟨R+1,2,none⟩ (.int .i64 (min a0 t))).setCell ⟨R+1,3,none⟩ (.int .i64 (max m t))).setCell ⟨R+1,5,none⟩ (.int .i64 sq)).drew);have T:C.heap[R+1]? = some (.cells #[.int .i64 0,.int .i64 0,.int .i64 (min a0 t),.int .i64 (max m t),.int .i64 U,.int .i64 sq,.int .i64 (f4:Int)] 65 (0,0)):=by rw [<- c];exact heap_setCell_same _ (R+1) 5 _ _ _ g.z
    have b3:Below (R+1) q C:=by rw [<- c];exact (Zay (Zay (Zay ap.z _) _) _).drew
    have b6:C.cell? ⟨R+1,6,none⟩=some (.int .i64 (f4:Int)):=Zf T 6;have r3:=frozen_of_row _ (R+1) 6 _ _ T;have aq:f4=i:=L.z;have aF:IntKind.i64.wrap ((f4:Int)+1)=((f4+1:Nat):Int):=by rw [IntWalk.i64_left,IntWalk.wrap64_in _ ⟨by omega,by omega⟩];omega
    have ak:Y5 ((C.setCell ⟨R+1,6,none⟩ (.int .i64 ((i:Int)+1))).heap[R+1]? = some (.cells (ZkT (GM.Zj (l.take (i+1)))) 65 (0,0))):=Y4 (by
     rw [aA.z,<- HN.z,<- aq];exact heap_setCell_same _ (R+1) 6 _ _ _ T)
    have aj:=Y4 (Zay (k:=6) b3 (.int .i64 ((i:Int)+1)));rw [c];clear c T b3 g a3 a5 r1 r2;go_wp2_with fail;have x:=ao.z;go_roundw
    case rel=>exact ⟨i+1,by omega,by go_num,ak,aj⟩
    case measure=>simp [intOf];omega
  ·obtain rfl:i=l.length:=by omega
   have t1:decide ((l.length:Int)<(l.length:Int))=false:=by simp
   have a:=HG.z;rw [XB] at a;have h:=(E.z.block R (Nat.lt_succ_self R)).trans ae.z;obtain ⟨X,hX⟩:=Xn (ZkT (GM.Zj l));have I:X.size=7:=by rw [<- hX];rfl
   have ab:X.all (·.oneCell')=true:=by rw [<- hX];simp [ZkT,Value.oneCell']
   have af:(prog.info? 65).map (·.size)=some X.size:=by rw [I];exact Zmq
   have c0:wr.cell? ⟨R+1,0,none⟩=some (.int .i64 0):=Zf a 0;have c1:wr.cell? ⟨R+1,1,none⟩=some (.int .i64 0):=Zf a 1;have c2:wr.cell? ⟨R+1,2,none⟩=some (.int .i64 (GM.Zj l).1):=Zf a 2;have c3:wr.cell? ⟨R+1,3,none⟩=some (.int .i64 (GM.Zj l).2.1):=Zf a 3;have c4:wr.cell? ⟨R+1,4,none⟩=some (.int .i64 (GM.Zj l).2.2.1):=Zf a 4;have c5:wr.cell? ⟨R+1,5,none⟩=some (.int .i64 (GM.Zj l).2.2.2.1):=Zf a 5;have c6:wr.cell? ⟨R+1,6,none⟩=some (.int .i64 ((GM.Zj l).2.2.2.2:Int)):=Zf a 6;have g:=Y4 (setRow_heap wr R _ X _ _ h);have ax:Y5 (Below w.heap.size w (wr.setRow R X)):=Y4 (ZhG X (aa.z.trans (E.z.mono (by omega))) (by omega));have HI:=Y4 af;have au:Y5 ((#[.int .i64 0,.int .i64 0,.int .i64 0,.int .i64 0,.int .i64 0,.int .i64 0,.int .i64 0]:Array Value).size=X.size):=Y4 (by rw [I];rfl);have al:=Y4 ab;have HZ:=Y4 h;have HX:=Y4 hX;clear a h hX I ab af HG E ae aa;go_wp2_with (go_loud (refine wpList_store_row rfl 65 (.tmp 2) (.tmp 50) rfl R X rfl (by rw [<- HX.z];rfl) 65 #[.int .i64 0,.int .i64 0,.int .i64 0,.int .i64 0,.int .i64 0,.int .i64 0,.int .i64 0] HZ.z HI.z au.z al.z ?_))
   refine bodyPost_ret (v:=.agg X) (results_cell_row rfl _ _ R 65 X (0,0) _ rfl g.z underlying65 rfl HI.z) rfl ⟨by rw [HX.z],ax.z⟩
