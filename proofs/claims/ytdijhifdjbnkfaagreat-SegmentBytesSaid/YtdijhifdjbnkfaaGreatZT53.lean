import Derived.Test.YtdijhifdjbnkfaaGreatZT14
import Derived.Deep.DeepCutAuto
set_option maxRecDepth 100000
set_option maxHeartbeats 0
set_option linter.unusedVariables false
set_option linter.unusedSimpArgs false
namespace Go.Proofs.YtdijhifdjbnkfaaGreat
open Lib (hid)
open Tryz
namespace SG
open RowKit MM
open EV (ZA Z8 Zad)
open SM (Zo)
open GM (ZiN Zp ZgH Zir Zg3)
variable {sq t:Int}
def ZmJ (F:ZiN):Array Value:=#[.int .i64 0,.int .i64 0,.int .i64 F.1,.int .i64 F.2.1,.int .i64 F.2.2.1,.int .i64 F.2.2.2.1,.int .i64 (F.2.2.2.2:Int)]
theorem Zay {B k:Nat} {a w:World} (h:Below B a w) (v:Value):Below B a (w.setCell ⟨B,k,none⟩ v) :=
 h.trans ⟨rfl,rfl,rfl,by simp,fun j hj=>heap_setCell_other _ _ _ _ (show j≠B by omega)⟩
theorem ZuL {F:ZiN} {fs:List EM.Fld} (h:F.2.2.2.2≠0):ZgH F (sq,(t,fs))=(min F.1 t,max F.2.1 t,F.2.2.1,sq,F.2.2.2.2+1):=by unfold ZgH;rw [Xa h]
theorem Zr9 {F:ZiN} {fs:List EM.Fld} (h:F.2.2.2.2=0):ZgH F (sq,(t,fs))=(t,t,sq,sq,1):=by unfold ZgH;rw [Xe h]
theorem Zvz (v:Value) (l:List Zo) (w:World) (hv:ZN ZA w v l):Calls prog 30 #[v] w fun e w'=>e=.returned (.agg (ZmJ (Zp l)))/\Below w.heap.size w w':=by
 obtain ⟨p,aD,rfl,aE,aq,_⟩:=hv.shape;unfold maxLen at aq;obtain ⟨R,hR⟩:=Xn w.heap.size;obtain ⟨w0,j⟩:=Xn (w.alloc (.cells #[.int .i64 0,.int .i64 0,.int .i64 0,.int .i64 0,.int .i64 0,.int .i64 0,.int .i64 0] 65));obtain ⟨r,n⟩:=Xn (w0.alloc (.cells #[.int .i64 0,.int .i64 0,.int .i64 0,.int .i64 0,.int .i64 0,.int .i64 0,.int .i64 0] 65));have y:w0.heap.size=R+1:=by rw [<- j,<- hR];simp
 have af:Below w.heap.size w w0:=by rw [<- j];exact (Below.refl _ _).alloc (Xc _) _
 have m:Below w0.heap.size w0 r:=by rw [<- n];exact (Below.refl _ _).alloc (Xc _) _
 have h:r.heap[R]? = some (.cells #[.int .i64 0,.int .i64 0,.int .i64 0,.int .i64 0,.int .i64 0,.int .i64 0,.int .i64 0] 65 (0,0)):=(m.block R (by omega)).trans (by rw [<- j,<- hR];exact heap_alloc_new _ _);have ad:r.heap[R+1]? = some (.cells (ZmJ (Zp (l.take 0))) 65 (0,0)):=by rw [<- n,<- y];exact heap_alloc_new _ _
 have ac:r.heap.size=R+2:=by rw [<- n];simp [y]
 have M:Below w.heap.size w r:=af.trans (m.mono (by omega));have HV:=hid (show ZgP ZA R r _ l from by have:=ZgP.below hv.bel M;rwa [hR] at this);have Y:=hid M;have aa:=hid h;have ae:=hid ad;have aF:=hid ac;have az:=hid j;have ag:=hid n;have av:=hid y;clear hv y af m h ad ac M j n;go_enter func30,ntmps30;go_wp2_with (first|(rw [ag.out])|(rw [az.out]))
 rw [av.out]
 go_loopw [4] (fun iv wr=>∃i:Nat,i<=l.length/\iv=.int .i64 i/\Hid (wr.heap[R+1]? = some (.cells (ZmJ (Zp (l.take i))) 65 (0,0)))/\Hid (Below (R+1) r wr)) (fun iv _=>l.length - (intOf iv).toNat)
 case atStart=>exact ⟨0,by omega,by go_simp,ae,hid (Below.refl _ _)⟩
 case round =>
  obtain ⟨i,hi,rfl,HG,I⟩:=hrel;clear ae
  by_cases u:i<l.length
  ·have t1:decide ((i:Int)<(l.length:Int))=true:=Xt;have t2:(i:Int)<(l.length:Int):=by omega
   obtain ⟨b,off,vf,rfl,aB,_,c1,c2,c3,hf⟩:=Zad (ZgP.below HV.out (I.out.mono (Nat.le_succ R))) u;have s:=GM.Zir u;have N:=GM.Zg3 l (k:=i) (by omega);obtain ⟨⟨sq,t,fs⟩,hd⟩:∃d,l[i]=d:=⟨_,rfl⟩;rw [hd] at c1 c2 hf s;change wr.cell? ⟨b,off+i*3,none⟩=some (.int .i64 sq) at c1;change wr.cell? ⟨b,off+i*3+1,none⟩=some (.int .i64 t) at c2;change ZD Z8 _ wr vf fs at hf;obtain ⟨pf,cf,rfl,_⟩:=hf.shape;have ak:R+1<wr.heap.size:=(Xo.1 HG.out).1;obtain ⟨D,hD⟩:=Xn wr.heap.size;obtain ⟨f,x⟩:=Xn (wr.alloc (.cells #[.int .i64 sq,.int .i64 t,.slice pf fs.length cf] 59));have O:Below wr.heap.size wr f:=by rw [<- x];exact (Below.refl _ _).alloc (Xc _) _
   have hT:Three f D 59 (.int .i64 sq) (.int .i64 t) (.slice pf fs.length cf):=by rw [<- x,<- hD];exact ZaE _ _ _ _ _
   have a:=(O.block _ ak).trans HG.out;obtain ⟨⟨f0,f1,U,q,f4⟩,hF⟩:∃F,GM.Zp (l.take i)=F:=⟨_,rfl⟩;rw [hF] at a s N;have E:=hid hT;obtain ⟨x0,x1,x2⟩:=hT.cells;have y2:f.cell? ⟨R+1,2,none⟩=some (.int .i64 f0):=Zh a 2;have y3:f.cell? ⟨R+1,3,none⟩=some (.int .i64 f1):=Zh a 3;have y4:f.cell? ⟨R+1,4,none⟩=some (.int .i64 U):=Zh a 4;have y5:f.cell? ⟨R+1,5,none⟩=some (.int .i64 q):=Zh a 5;have y6:f.cell? ⟨R+1,6,none⟩=some (.int .i64 (f4:Int)):=Zh a 6;have z:=frozen_of_row f (R+1) 2 _ _ a;have aw:=hid s;have an:=hid x;have ah:=hid u;have S:=hid a;have J:=hid O;clear hf hd s hF a O x hT;have H:=hid (show f4=i from N);clear HG N
   go_upto_if 17 with (rw [an.out])
   go_cut [] from 6 to 49 (fun wx=>∃a0 o V:Int,Hid ((min a0 t,max o t,V,sq,f4+1)=GM.ZgH (f0,f1,U,q,f4) (sq,(t,fs)))/\Hid (wx.heap[R+1]? = some (.cells #[.int .i64 0,.int .i64 0,.int .i64 a0,.int .i64 o,.int .i64 V,.int .i64 q,.int .i64 (f4:Int)] 65 (0,0)))/\Hid (Three wx D 59 (.int .i64 sq) (.int .i64 t) (.slice pf fs.length cf))/\Hid (Below (R+1) r wx))
   case first =>
    by_cases h0:i=0
    ·have e0:((i:Int) == 0)=true:=by rw [Xan];omega
     have W:Hid (f4=0):=hid (by rw [H.out];exact h0);have a:=S.out;have B:(f.setCell ⟨R+1,2,none⟩ (.int .i64 t)).heap[R+1]? = some (.cells #[.int .i64 0,.int .i64 0,.int .i64 t,.int .i64 f1,.int .i64 U,.int .i64 q,.int .i64 (f4:Int)] 65 (0,0)):=heap_setCell_same f (R+1) 2 _ _ _ a;have A:((f.setCell ⟨R+1,2,none⟩ (.int .i64 t)).setCell ⟨R+1,3,none⟩ (.int .i64 t)).heap[R+1]? = some (.cells #[.int .i64 0,.int .i64 0,.int .i64 t,.int .i64 t,.int .i64 U,.int .i64 q,.int .i64 (f4:Int)] 65 (0,0)):=heap_setCell_same _ (R+1) 3 _ _ _ B;have a3:(f.setCell ⟨R+1,2,none⟩ (.int .i64 t)).cell? ⟨R+1,3,none⟩=some (.int .i64 f1):=Zh B 3;have a4:((f.setCell ⟨R+1,2,none⟩ (.int .i64 t)).setCell ⟨R+1,3,none⟩ (.int .i64 t)).cell? ⟨R+1,4,none⟩=some (.int .i64 U):=Zh A 4;have r1:=frozen_of_row _ (R+1) 3 _ _ B;have r2:=frozen_of_row _ (R+1) 4 _ _ A;have g:=hid A;clear B A a h0;go_wp2_with fail;go_region;obtain ⟨C,c⟩:=Xn ((((f.setCell ⟨R+1,2,none⟩ (.int .i64 t)).setCell ⟨R+1,3,none⟩ (.int .i64 t)).setCell ⟨R+1,4,none⟩ (.int .i64 sq)).drew);have T:C.heap[R+1]? = some (.cells #[.int .i64 0,.int .i64 0,.int .i64 t,.int .i64 t,.int .i64 sq,.int .i64 q,.int .i64 (f4:Int)] 65 (0,0)):=by rw [<- c];exact heap_setCell_same _ (R+1) 4 _ _ _ g.out
     have b3:Below (R+1) r C:=by rw [<- c];exact (Zay (Zay (Zay (I.out.trans (J.out.mono (by omega))) _) _) _).drew
     have L:D≠R+1:=by omega
     have ax:Three C D 59 (.int .i64 sq) (.int .i64 t) (.slice pf fs.length cf):=by
      rw [<- c];exact (heap_setCell_other _ _ _ _ L).trans ((heap_setCell_other _ _ _ _ L).trans ((heap_setCell_other _ _ _ _ L).trans E.out))
     rw [c];go_wp2_with fail;go_meet;exact ⟨t,t,sq,hid (by rw [Zr9 (by exact W.out),W.out,show min t t=t by omega,show max t t=t by omega]),hid T,hid ax,hid b3⟩
    ·have e0:((i:Int) == 0)=false:=Xb;have am:Hid (f4≠0):=hid (by rw [H.out];exact h0);clear h0;go_wp2_with fail;go_meet;exact ⟨f0,f1,U,hid (by rw [ZuL (by exact am.out)]),S,E,hid (I.out.trans (J.out.mono (by omega)))⟩
   case rest =>
    obtain ⟨a0,o,V,HN,ap,aA,aj⟩:=hcut;clear x0 x1 x2 y2 y3 y4 y5 y6 z S E I J c1 c2 c3;obtain ⟨x0,x1,x2⟩:=aA.out.cells;have a:=ap.out;have y2:wc.cell? ⟨R+1,2,none⟩=some (.int .i64 a0):=Zh a 2;have y3:wc.cell? ⟨R+1,3,none⟩=some (.int .i64 o):=Zh a 3;have y5:wc.cell? ⟨R+1,5,none⟩=some (.int .i64 q):=Zh a 5;have z:=frozen_of_row wc (R+1) 2 _ _ a;have B:(wc.setCell ⟨R+1,2,none⟩ (.int .i64 (min a0 t))).heap[R+1]? = some (.cells #[.int .i64 0,.int .i64 0,.int .i64 (min a0 t),.int .i64 o,.int .i64 V,.int .i64 q,.int .i64 (f4:Int)] 65 (0,0)):=heap_setCell_same wc (R+1) 2 _ _ _ a;have A:((wc.setCell ⟨R+1,2,none⟩ (.int .i64 (min a0 t))).setCell ⟨R+1,3,none⟩ (.int .i64 (max o t))).heap[R+1]? = some (.cells #[.int .i64 0,.int .i64 0,.int .i64 (min a0 t),.int .i64 (max o t),.int .i64 V,.int .i64 q,.int .i64 (f4:Int)] 65 (0,0)):=heap_setCell_same _ (R+1) 3 _ _ _ B;have a3:(wc.setCell ⟨R+1,2,none⟩ (.int .i64 (min a0 t))).cell? ⟨R+1,3,none⟩=some (.int .i64 o):=Zh B 3;have a5:((wc.setCell ⟨R+1,2,none⟩ (.int .i64 (min a0 t))).setCell ⟨R+1,3,none⟩ (.int .i64 (max o t))).cell? ⟨R+1,5,none⟩=some (.int .i64 q):=Zh A 5;have r1:=frozen_of_row _ (R+1) 3 _ _ B;have r2:=frozen_of_row _ (R+1) 5 _ _ A;have g:=hid A;clear B A a;go_wp2_with fail;go_region;obtain ⟨C,c⟩:=Xn ((((wc.setCell ⟨R+1,2,none⟩ (.int .i64 (min a0 t))).setCell ⟨R+1,3,none⟩ (.int .i64 (max o t))).setCell ⟨R+1,5,none⟩ (.int .i64 sq)).drew);have T:C.heap[R+1]? = some (.cells #[.int .i64 0,.int .i64 0,.int .i64 (min a0 t),.int .i64 (max o t),.int .i64 V,.int .i64 sq,.int .i64 (f4:Int)] 65 (0,0)):=by rw [<- c];exact heap_setCell_same _ (R+1) 5 _ _ _ g.out
    have b3:Below (R+1) r C:=by rw [<- c];exact (Zay (Zay (Zay aj.out _) _) _).drew
    have b6:C.cell? ⟨R+1,6,none⟩=some (.int .i64 (f4:Int)):=Zh T 6;have r3:=frozen_of_row _ (R+1) 6 _ _ T;have al:f4=i:=H.out;have aC:IntKind.i64.wrap ((f4:Int)+1)=((f4+1:Nat):Int):=by rw [IntWalk.i64_left,IntWalk.wrap64_in _ ⟨by omega,by omega⟩];omega
    have au:Hid ((C.setCell ⟨R+1,6,none⟩ (.int .i64 ((i:Int)+1))).heap[R+1]? = some (.cells (ZmJ (GM.Zp (l.take (i+1)))) 65 (0,0))):=hid (by
     rw [aw.out,<- HN.out,<- al];exact heap_setCell_same _ (R+1) 6 _ _ _ T)
    have ai:=hid (Zay (k:=6) b3 (.int .i64 ((i:Int)+1)));rw [c];clear c T b3 g a3 a5 r1 r2;go_wp2_with fail;have u:=ah.out;go_roundw
    case rel=>exact ⟨i+1,by omega,by go_num,au,ai⟩
    case measure=>simp [intOf];omega
  ·obtain rfl:i=l.length:=by omega
   have t1:decide ((l.length:Int)<(l.length:Int))=false:=by simp
   have a:=HG.out;rw [XC] at a;have h:=(I.out.block R (Nat.lt_succ_self R)).trans aa.out;obtain ⟨X,hX⟩:=Xn (ZmJ (GM.Zp l));have G:X.size=7:=by rw [<- hX];rfl
   have Z:X.all (·.oneCell')=true:=by rw [<- hX];simp [ZmJ,Value.oneCell']
   have ab:(prog.info? 65).map (·.size)=some X.size:=by rw [G];exact Zmr
   have c0:wr.cell? ⟨R+1,0,none⟩=some (.int .i64 0):=Zh a 0;have c1:wr.cell? ⟨R+1,1,none⟩=some (.int .i64 0):=Zh a 1;have c2:wr.cell? ⟨R+1,2,none⟩=some (.int .i64 (GM.Zp l).1):=Zh a 2;have c3:wr.cell? ⟨R+1,3,none⟩=some (.int .i64 (GM.Zp l).2.1):=Zh a 3;have c4:wr.cell? ⟨R+1,4,none⟩=some (.int .i64 (GM.Zp l).2.2.1):=Zh a 4;have c5:wr.cell? ⟨R+1,5,none⟩=some (.int .i64 (GM.Zp l).2.2.2.1):=Zh a 5;have c6:wr.cell? ⟨R+1,6,none⟩=some (.int .i64 ((GM.Zp l).2.2.2.2:Int)):=Zh a 6;have g:=hid (setRow_heap wr R _ X _ _ h);have ar:Hid (Below w.heap.size w (wr.setRow R X)):=hid (ZhI X (Y.out.trans (I.out.mono (by omega))) (by omega));have HI:=hid ab;have ay:Hid ((#[.int .i64 0,.int .i64 0,.int .i64 0,.int .i64 0,.int .i64 0,.int .i64 0,.int .i64 0]:Array Value).size=X.size):=hid (by rw [G];rfl);have ao:=hid Z;have HZ:=hid h;have HX:=hid hX;clear a h hX G Z ab HG I aa Y;go_wp2_with (go_loud (refine wpList_store_row rfl 65 (.tmp 2) (.tmp 50) rfl R X rfl (by rw [<- HX.out];rfl) 65 #[.int .i64 0,.int .i64 0,.int .i64 0,.int .i64 0,.int .i64 0,.int .i64 0,.int .i64 0] HZ.out HI.out ay.out ao.out ?_))
   refine bodyPost_ret (v:=.agg X) (results_cell_row rfl _ _ R 65 X (0,0) _ rfl g.out underlying65 rfl HI.out) rfl ⟨by rw [HX.out],ar.out⟩
