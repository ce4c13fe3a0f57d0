import Derived.Test.YtdijhifdjbnkfaaGreatZT15
import Derived.Test.YtdijhifdjbnkfaaGreatZT14
import Derived.Test.YtdijhifdjbnkfaaGreatZT16
import Derived.Test.YtdijhifdjbnkfaaGreatZT17
set_option maxRecDepth 100000
set_option maxHeartbeats 0
set_option linter.unusedVariables false
set_option linter.unusedSimpArgs false
namespace Go.Proofs.YtdijhifdjbnkfaaGreat
open Lib (hid)
open Tryz
namespace DT
open RowKit MM DM VM VP GB
variable {i:Nat}
theorem Zaz (n:Nat):Zb n≠[]:=fun h=>by
 have:=Zc n;rw [h] at this;simp at this
theorem ZfZ (s:Xu):Z1 s≠[]:=fun h=>Zaz _ (List.append_eq_nil_iff.1 h).1
theorem wp_append_own {B:Nat} {w:World} {o:Oper} {a:Act} {K:Act->World->Prop} {Q:Exit->Act->World->Prop} (s x:Operand)
  (t:o.op=.call { callee:=.builtin .append,args:=#[s,x],argTypes:=#[23,23] }) (v:Value) (l:Xu) (hs:a.eval s=v) (b:Zd B w v l) (r:B<=w.heap.size)
  (src:Value) (m:Xu) (q:a.eval x=src) (n:Zq w src m) (j:m≠[]) (d:l.length+m.length<=140737488355328)
  (h:∀v' w',Zd B w' v' (l++m)->Below B w w'->Kep (fun k=>k<B) w w'->K (a.put o.dst v') w'):o.wp prog a w K Q:=by
 refine Zeg s x t v l hs (Zd.zero b) src m q n j d fun v' w' p g => ?_;have f:∀k,v.ownBlock=some k->B<=k:=fun k c=>(World.ownsRow.lt b k c).1;have c:Kep (fun k=>k<B) w w':=g.kep.mono fun k c e=>by have:=f k e;omega
 refine h v' w' (Zd.from p fun k c => ?_) (c.below r fun k h=>h) c;rcases g.2 k c with e|e
 ·exact f k e
 ·omega
theorem Zd3 (z:Int) (w:World) (c:0<=z) (h1:z<=9223372036854775807):Calls prog 93 #[.int .i64 z] w (ZS w.heap.size (Zb z.toNat) w):=by
 obtain ⟨n,rfl⟩:=XaK c;have K:=hid (ZcX n w (by omega));have e:IntKind.u64.wrap (n:Int)=(n:Int):=by rw [IntKind.wrap_u64];omega
 rw [XT];go_enter func93,ntmps93;go_wp2_with fail;refine K.out.mono ?_;rintro e w1 ⟨v1,rfl,a,b⟩;have d:=hid a;clear a;go_wp2_with fail;go_ret;exact ⟨_,rfl,d.out,b⟩
theorem ZBv (t:Xu) (ht:t.length<=4096) (W:World):Calls prog 145 #[.string ⟨t.toArray⟩] W (ZS W.heap.size (Z1 t) W):=by
 have h:=Zoz ⟨t.toArray⟩ W (by rw [Zbh];omega);rw [Zd7] at h;exact h
theorem Zoj (l:Xu) (k:Nat):(⟨l.toArray⟩:ByteArray).extract k l.length=⟨(l.drop k).toArray⟩:=by
 rw [Zkk,XM (by rw [Xj];exact Xc _)]
def Zml (l:List ZQ) (i:Nat):Xu:=((l.take i).getLast?.map (·.1)).getD []
theorem Zmm {l:List ZQ} (hi:i<l.length):Zml l (i+1)=l[i].1:=by
 unfold Zml;rw [XG hi,List.getLast?_append,List.getLast?_singleton];rfl
theorem ZuR {l:List ZQ} (h:∀x∈l,okX x=true) (i:Nat):(Zml l i).length<=65:=by
 unfold Zml;cases e:(l.take i).getLast? with
 | none=>simp
 | some x=>exact ((Zfe.1 (h x (Xaq (List.mem_of_getLast? e)))).1.2)
theorem ZlL {l:List ZQ} (hi:i<l.length):ZE [] (l.take (i+1))=ZE [] (l.take i)++Zec (Zml l i) l[i]:=by
 rw [XG hi,Zkq];rfl
theorem ZiB (v:Value) (l:List ZQ) (w:World) (hv:ZN ZbT w v l) (hx:∀x∈l,okX x=true) (hn:l.length<=262144):Calls prog 94 #[v] w (ZS w.heap.size (ZE [] l) w):=by
 obtain ⟨p,bj,rfl,bk,bb,_⟩:=hv.shape;unfold maxLen at bb;have bh:prog.follows .mixedOrders=true:=by kernel_rfl
 have HV:=hid hv;have HX:=hid hx;have aU:Hid (ZE [] (l.take l.length)=ZE [] l):=hid (by rw [XC]);have a8:=hid (fun i=>ZbQ (l.take i) [] (fun x h=>hx x (Xaq h)));have an:Hid (Zd w.heap.size w (.slice none 0 0) (ZE [] (l.take 0))):=hid (World.ownsRow_nil _ _ _ _);clear hv hx;go_enter func94,ntmps94;go_wp2_with fail
 go_loopw [3,4,5] (fun bv av iv wr=>∃(i:Nat) (A:Xu),i<=l.length/\iv=.int .i64 i/\av=.string ⟨A.toArray⟩/\Hid (A=Zml l i)/\Hid (Zd w.heap.size wr bv (ZE [] (l.take i)))/\Hid (Below w.heap.size w wr)) (fun _ _ iv _=>l.length - (intOf iv).toNat)
 case atStart=>exact ⟨0,[],by omega,rfl,rfl,hid rfl,an,hid (Below.refl _ _)⟩
 case round =>
  obtain ⟨i,A,hi,rfl,rfl,HA,HO,HB⟩:=hrel;clear an
  by_cases r:i<l.length
  ·have q1:decide ((i:Int)<(l.length:Int))=true:=Xt;have q2:decide (i<l.length)=true:=Xt;have q3:(i:Int)<(l.length:Int):=by omega
   obtain ⟨b,off,a5,f,_,c1,c2,c3,c4⟩:=Zdx HV.out r;subst a5;have c:=ZlL r;have ar:=Zmm r;have bo:=Zfe.1 (HX.out l[i] (XH r));have bn:A.length<=65:=by rw [HA.out];exact ZuR HX.out i
   have E:=a8.out (i+1);rw [<- HA.out] at c;rw [Xi] at E;generalize l[i]=X at *;obtain ⟨j,z1,z2,z3⟩:=X;dsimp only at *;unfold Zec at c;dsimp only at c;have a9:=ZdJ A j;have bg:=Zbh j;have af:=fun W=>Zra A j W (by omega) (by omega);obtain ⟨k,hk⟩:=Xn (ZJ A j);rw [hk] at c a9 af;obtain ⟨L,hL⟩:=Xn (ZE [] (l.take i));rw [hL] at c HO
   have u:Hid ((L++Zb k++Z1 (j.drop k)++Zb z1.toNat++Zb z2.toNat++Zb z3.toNat).length<=140737488355328):=hid (by
    rw [c] at E;simp only [Xd] at E ⊢;omega)
   have HN:Hid (ZE [] (l.take (i+1))=L++Zb k++Z1 (j.drop k)++Zb z1.toNat++Zb z2.toNat++Zb z3.toNat):=hid (by rw [c];simp only [Xl]);have a4:=hid ar;have be:=hid af;have a6:((k:Nat):Int)<=9223372036854775807:=by omega
   have G:=hid (fun W (n:Below w.heap.size w W)=>(show W.cell? ⟨b,off+i*4,none⟩=some (.string ⟨j.toArray⟩)/\W.cell? ⟨b,off+i*4+1,none⟩=some (.int .i64 z1)/\W.cell? ⟨b,off+i*4+2,none⟩=some (.int .i64 z2)/\W.cell? ⟨b,off+i*4+3,none⟩=some (.int .i64 z3) from
    ⟨(n.cell (p:=⟨b,_,none⟩) f).trans c1,(n.cell (p:=⟨b,_,none⟩) f).trans c2,(n.cell (p:=⟨b,_,none⟩) f).trans c3,(n.cell (p:=⟨b,_,none⟩) f).trans c4⟩))
   have ae:=Zoj j k;have bd:(j.drop k).length<=4096:=by rw [Xj];omega
   have bm:(k:Int)<=(j.length:Int):=by omega
   obtain ⟨g1,g2,g3,g4⟩:=G.out wr HB.out;clear c ar E hk af hL c1 c2 c3 c4;go_wp2_with fail;refine (be.out _).mono ?_;rintro e ws ⟨rfl,m,hm⟩;have aF:Below w.heap.size w ws:=by rw [hm];exact MM.below_drewN HB.out m
   have aP:Zd w.heap.size ws u3 L:=by rw [hm];exact Zd.keep HO.out (MM.below_drewN (Below.refl _ _) m)
   clear hm;obtain ⟨wd,F⟩:=Xn ws.drew;have D:Hid (Below w.heap.size w wd):=hid (by rw [<- F];exact aF.drew);have aK:Hid (Zd w.heap.size wd u3 L):=hid (by rw [<- F];exact Zd.keep aP (Below.refl _ _).drew);have aM:=D.out.size;have a7:=hid F;clear F aP aF g1 g2 g3 g4;go_wp2_with fail;refine RK.ZaF (T:=fun k=>k<w.heap.size) [(0,true),(1,true),(4,true),(5,true),(6,true),(7,true),(8,true),(9,true),(10,true),(2,false),(3,false),(11,false),(12,false),(13,true)] (by kernel_rfl) (by kernel_rfl) rfl (by kernel_rfl) (fun _ _ d _ _ h=>by cases d<;>exact h) ?_;simp only [RK.Zy,XF,XV,XZ,X4,XX];rw [a7.out];have f1:=fun W (n:Kep (fun k=>k<w.heap.size) wd W)=>(n.cell (show b<wd.heap.size by omega) f (off+i*4)).trans (G.out wd D.out).1;repeat ((first|(refine RK.take (by rfl) (by intro W n;go_simp;with_reducible rfl) ?_));simp only [Act.put,Xr,Xs,Xq])
   refine RK.alone (by rfl) (fun K a => ?_);go_simp;refine (Zd3 (k:Int) wd (by omega) a6).mono ?_;rintro e w2 ⟨v2,rfl,aL,z⟩;go_simp;refine a.out _ _ (Za _ z) ?_;clear a K;have aZ:w.heap.size<=w2.heap.size:=Xx aM z.size;have a1:=hid (aK.out.keep z);have ag:=hid aL;have aN:=hid (D.out.trans (z.mono aM));clear aL z aK D;rw [XT] at ag;refine RK.alone (by rfl) (fun K a => ?_);refine wp_append_own _ _ rfl u3 (L) rfl a1.out aZ _ (Zb k) rfl ag.out.brow (Zaz _) (by have:=u.out;simp only [Xd] at this ⊢;omega) ?_;intro v3 w3 aX ah ax;refine a.out _ _ ax ?_;clear a K;have au:w.heap.size<=w3.heap.size:=Xx aZ ah.size;have a2:=hid aX;have aD:=hid (aN.out.trans ah);clear aX ah ax a1 aN ag;try rw [ae]
   refine RK.alone (by rfl) (fun K a => ?_);go_simp;refine (ZBv (j.drop k) bd w3).mono ?_;rintro e w4 ⟨v4,rfl,aA,B⟩;go_simp;refine a.out _ _ (Za _ B) ?_;clear a K;have am:w.heap.size<=w4.heap.size:=Xx au B.size;have aQ:=hid (a2.out.keep B);have aO:=hid aA;have ay:=hid (aD.out.trans (B.mono au));clear aA B a2 aD;refine RK.alone (by rfl) (fun K a => ?_);refine wp_append_own _ _ rfl v3 (L++Zb k) rfl aQ.out am _ (Z1 (j.drop k)) rfl aO.out.brow (ZfZ _) (by have:=u.out;simp only [Xd] at this ⊢;omega) ?_;intro v5 w5 aW aj a3;refine a.out _ _ a3 ?_;clear a K;have bi:w.heap.size<=w5.heap.size:=Xx am aj.size;have aq:=hid aW;have aH:=hid (ay.out.trans aj);clear aW aj a3 aQ ay aO;repeat ((first|(refine RK.take (by rfl) (by intro W n;go_simp;with_reducible rfl) ?_));simp only [Act.put,Xr,Xs,Xq])
   refine RK.done ?_;clear f1;go_wp2_with fail;obtain ⟨q,ad⟩:=Xn w5.drew;have o:Hid (Below w.heap.size w q):=hid (by rw [<- ad];exact aH.out.drew);have al:Hid (Zd w.heap.size q v5 (L++Zb k++Z1 (j.drop k))):=hid (by rw [<- ad];exact Zd.keep aq.out (Below.refl _ _).drew);have aV:=o.out.size;clear aH aq;refine RK.ZaF (T:=fun k=>k<w.heap.size) [(0,true),(1,true),(2,true),(3,true),(4,true),(5,true),(8,true),(9,true),(10,true),(11,true),(12,true),(15,true),(16,true),(17,true),(18,true),(19,true),(6,false),(7,false),(13,false),(14,false),(20,false),(21,false),(22,true)] (by kernel_rfl) (by kernel_rfl) rfl (by kernel_rfl) (fun _ _ d _ _ h=>by cases d<;>exact h) ?_;simp only [RK.Zy,XF,XV,XZ,X4,XX];rw [ad];have f1:=fun W (n:Kep (fun k=>k<w.heap.size) q W)=>(n.cell (show b<q.heap.size by omega) f (off+i*4+1)).trans (G.out q o.out).2.1;have f2:=fun W (n:Kep (fun k=>k<w.heap.size) q W)=>(n.cell (show b<q.heap.size by omega) f (off+i*4+2)).trans (G.out q o.out).2.2.1;have f3:=fun W (n:Kep (fun k=>k<w.heap.size) q W)=>(n.cell (show b<q.heap.size by omega) f (off+i*4+3)).trans (G.out q o.out).2.2.2;repeat ((first|(refine RK.take (by rfl) (by intro W n;go_simp;with_reducible rfl) ?_));simp only [Act.put,Xr,Xs,Xq])
   refine RK.alone (by rfl) (fun K a => ?_);go_simp;refine (Zd3 z1 q (by omega) (by omega)).mono ?_;rintro e w7 ⟨v7,rfl,aG,t⟩;go_simp;refine a.out _ _ (Za _ t) ?_;clear a K;have ak:w.heap.size<=w7.heap.size:=Xx aV t.size;have aR:=hid (al.out.keep t);have ao:=hid aG;have aS:=hid (o.out.trans (t.mono aV));clear aG t al o;refine RK.alone (by rfl) (fun K a => ?_);refine wp_append_own _ _ rfl v5 (L++Zb k++Z1 (j.drop k)) rfl aR.out ak _ (Zb z1.toNat) rfl ao.out.brow (Zaz _) (by have:=u.out;simp only [Xd] at this ⊢;omega) ?_;intro v8 w8 aw ai aY;refine a.out _ _ aY ?_;clear a K;have ap:w.heap.size<=w8.heap.size:=Xx ak ai.size;have aT:=hid aw;have aJ:=hid (aS.out.trans ai);clear aw ai aY aR aS ao;refine RK.alone (by rfl) (fun K a => ?_);go_simp;refine (Zd3 z2 w8 (by omega) (by omega)).mono ?_;rintro e w9 ⟨v9,rfl,aI,y⟩;go_simp;refine a.out _ _ (Za _ y) ?_;clear a K;have az:w.heap.size<=w9.heap.size:=Xx ap y.size;have H:=hid (aT.out.keep y);have aC:=hid aI;have aB:=hid (aJ.out.trans (y.mono ap));clear aI y aT aJ;refine RK.alone (by rfl) (fun K a => ?_);refine wp_append_own _ _ rfl v8 (L++Zb k++Z1 (j.drop k)++Zb z1.toNat) rfl H.out az _ (Zb z2.toNat) rfl aC.out.brow (Zaz _) (by have:=u.out;simp only [Xd] at this ⊢;omega) ?_;intro ba a0 M s Y;refine a.out _ _ Y ?_;clear a K;have aa:w.heap.size<=a0.heap.size:=Xx az s.size;have V:=hid M;have N:=hid (aB.out.trans s);clear M s Y H aB aC;refine RK.alone (by rfl) (fun K a => ?_);go_simp;refine (Zd3 z3 a0 (by omega) (by omega)).mono ?_;rintro e bc ⟨bp,rfl,I,g⟩;go_simp;refine a.out _ _ (Za _ g) ?_;clear a K;have U:w.heap.size<=bc.heap.size:=Xx aa g.size;have ac:=hid (V.out.keep g);have J:=hid I;have ab:=hid (N.out.trans (g.mono aa));clear I g V N;refine RK.alone (by rfl) (fun K a => ?_);refine wp_append_own _ _ rfl ba (L++Zb k++Z1 (j.drop k)++Zb z1.toNat++Zb z2.toNat) rfl ac.out U _ (Zb z3.toNat) rfl J.out.brow (Zaz _) (by have:=u.out;simp only [Xd] at this ⊢;omega) ?_;intro bl aE S C Z;refine a.out _ _ Z ?_;clear a K;have bf:w.heap.size<=aE.heap.size:=Xx U C.size;have O:=hid S;have R:=hid (ab.out.trans C);clear S C Z ac ab J;rw [<- HN.out] at O;repeat ((first|(refine RK.take (by rfl) (by intro W n;go_simp;with_reducible rfl) ?_));simp only [Act.put,Xr,Xs,Xq])
   refine RK.done ?_;clear f1 f2 f3;obtain ⟨g1,g2,g3,g4⟩:=G.out aE R.out;go_wp2_with fail;go_roundw
   case rel=>exact ⟨i+1,j,by omega,by go_num,rfl,hid a4.out.symm,O,R⟩
   case measure=>simp [intOf];omega
  ·obtain rfl:i=l.length:=by omega
   have q1:decide ((l.length:Int)<(l.length:Int))=false:=by simp
   have q2:decide (l.length<l.length)=false:=by simp
   have ho:=HO.out;rw [aU.out] at ho;have H:=hid ho;clear HO ho r;go_wp2_with fail;go_ret;exact ⟨_,rfl,H.out,HB.out⟩
theorem chunk_ok {l:List ZQ} (h:∀x∈l,okX x=true) (j:Nat):∀x∈ZB l j,okX x=true:=fun x a=>h x (XaX (Xaq a))
theorem Zeu (l:List ZQ) (j:Nat):(ZB l j).length<=16:=by unfold ZB;rw [Xi];omega
theorem Zik {l:List ZQ} (h:∀x∈l,okX x=true) (j:Nat):(Zfv l j).length<=1860:=by
 unfold Zfv;rw [Xd];have h1:=ZbQ (ZB l j) [] (chunk_ok h j);have h2:=Zeu l j;have h3:=Zc (ZE [] (ZB l j)).length;omega
theorem Zxc {l:List ZQ} (h:Zb7 l=true):(ZbJ l).length<=1000000000:=by
 obtain ⟨h1,b⟩:=ZgU h
 have c:∀a:List Nat,(a.flatMap (Zfv l)).length<=1860*a.length:=fun a=>by
  induction a with
  | nil=>simp
  | cons j a ih =>
    rw [XaQ,Xd,Xh];have:=Zik b j;omega
 unfold ZbJ ZbS;rw [Xd];have h4:=c ((List.range (Zu l)).drop 0);have h5:=Zc l.length;have h6:((List.range (Zu l)).drop 0).length=Zu l:=by simp
 have h7:Zu l<=16384:=by unfold Zu;omega
 omega
def Zwo (l:Xu) (x:Int) (w:World) (e:Ending) (w':World):Prop:=∃v,e=.returned (.tuple #[v,.int .i64 x])/\Zd w.heap.size w' v l/\Below w.heap.size w w'
theorem Zdh (v:Value) (l:List ZQ) (w:World) (hv:ZN ZbT w v l):Calls prog 43 #[v] w (Zwo (if Zb7 l then ZbJ l else []) (if Zb7 l then 0 else 110) w):=by
 obtain ⟨p,aq,rfl,aE,au,_⟩:=hv.shape;unfold maxLen at au;have HV:=hid hv;have G:=hid (ZyS _ l w hv)
 by_cases m:Zb7 l=true
 ·rw [m] at G;rw [Xe m,Xe m];have HX:=hid (ZgU m).2;have hn:=(ZgU m).1;have V:=hid (Zxc m);obtain ⟨E,hE⟩:=Xn (ZbJ l);have ag:Hid (Zb l.length++ZbS l 0=E):=hid hE;rw [hE] at V ⊢;have y:=fun W=>hid (Zd3 (l.length:Int) W (by omega) (by omega));simp only [XT] at y;have f:=hid y;clear m hE hv y;go_enter func43,ntmps43;go_wp2_with fail;refine G.out.mono ?_;rintro e w1 ⟨rfl,i⟩;have c:=hid i;clear i G;go_wp2_with fail;refine (f.out w1).out.mono ?_;rintro e w2 ⟨v2,rfl,Z,S⟩;have ae:Hid (Zd w.heap.size w2 v2 (Zb l.length)):=hid (Zd.weaken Z c.out.size);have aa:=hid (c.out.trans (S.mono c.out.size));clear Z S c f;go_wp2_with fail
  go_loopw [4,5] (fun bv iv wr=>∃(a j:Nat) (L:Xu),iv=.int .i64 a/\Hid (a=16*j/\j<=Zu l/\a<=l.length+15)/\Hid (L++ZbS l j=E)/\Hid (Zd w.heap.size wr bv L)/\Hid (Below w.heap.size w wr)) (fun _ iv _=>l.length+16 - (intOf iv).toNat)
  case atStart=>exact ⟨0,0,Zb l.length,rfl,hid ⟨rfl,XU _,by omega⟩,ag,ae,aa⟩
  case round =>
   obtain ⟨a,j,L,rfl,F,HL,HO,Y⟩:=hrel;clear ag ae aa
   by_cases H:a<l.length
   ·have q1:decide ((a:Int)<(l.length:Int))=true:=Xt;have q2:decide (a<l.length)=true:=Xt;obtain ⟨e,he⟩:=Xn (min l.length (a+16));have aG:a<e:=by omega
    have aF:e<=l.length:=by omega
    have az:min (l.length:Int) ((a:Int)+16)=(e:Int):=by omega
    have aA:IntKind.i64.wrap ((a:Int)+16)=(a:Int)+16:=by rw [IntKind.wrap_i64];omega
    have q3:(a:Int)<=(e:Int):=by omega
    have q4:(e:Int)<=(aq:Int):=by omega
    have X:(l.drop a).take (e - a)=ZB l j:=by
     unfold ZB;rw [<- F.out.1,<- he]
     by_cases h:a+16<=l.length
     ·rw [show min l.length (a+16) - a=16 by omega]
     ·rw [XM (by rw [Xj];omega),XM (by rw [Xj];omega)]
    have t:j<Zu l:=by unfold Zu;have:=F.out.1;omega
    have d:=HL.out;rw [ZiV t] at d;have r:=ZN.below HV.out Y.out;obtain ⟨b,off,ao,aB,_⟩:=Zdx r H;subst ao;have n:=(ZD.drop r a (by omega)).take (e - a) (by omega);rw [X,Xa (by omega),Xai,ZY,Zqd] at n;have aj:=hid (fun W (h:Below w.heap.size wr W)=>h);have q:=hid (ZiB _ (ZB l j) wr n (chunk_ok HX.out j) (by have:=Zeu l j;omega));have T:=ZbQ (ZB l j) [] (chunk_ok HX.out j);have ab:=Zeu l j;have aH:L.length<=E.length:=by rw [<- HL.out,Xd];omega
    have aD:=V.out;unfold Zfv at d;obtain ⟨C,hC⟩:=Xn (ZE [] (ZB l j));rw [hC] at d q T;have HN:Hid ((L++Zb C.length++C)++ZbS l (j+1)=E):=hid (by rw [<- d];simp only [Xl]);have aC:C.length<=2000:=by omega
    have aI:=Zc C.length;have ar:Hid (a+16=16*(j+1)/\j+1<=Zu l/\a+16<=l.length+15):=hid ⟨by have:=F.out.1;omega,t,by omega⟩;have y:=fun W=>Zd3 (C.length:Int) W (by omega) (by omega);simp only [XT] at y;have f:=hid y;clear d r n T ab hC X t HL F y aj he;go_wp2_with fail;refine q.out.mono ?_;rintro e w3 ⟨v3,rfl,z,x⟩;have am:w.heap.size<=wr.heap.size:=Y.out.size;have ap:∀g,u4.ownBlock=some g->g<wr.heap.size:=fun g hg=>(World.ownsRow.lt HO.out g hg).2;have af:=hid (HO.out.keep x);have s:=hid (Y.out.trans (x.mono am));obtain ⟨px,cx,rfl,ay,ac⟩:=z.brow.shape;unfold maxLen at ac;have N:=hid z;clear z HO Y q;go_wp2_with fail;refine (f.out w3).mono ?_;rintro e w4 ⟨v4,rfl,M,o⟩;have ai:w.heap.size<=w3.heap.size:=s.out.size;have av:=hid M;have u:=hid (af.out.keep o);have R:=hid (N.out.keep o);have J:=hid (s.out.trans (o.mono ai));have al:w.heap.size<=w4.heap.size:=J.out.size;clear M o x af N s f;go_wp2_with (at_builtin;first|(go_loud (refine Zl rfl _ _ rfl u4 L rfl (Zd.zero u.out) _ (Zb C.length) rfl av.out.brow (Zaz _) (by omega) ?_;intro v5 w5 ad D;have A:=D.kep;have an:=hid (show Zd wr.heap.size w5 (.slice px C.length cx) C from Zd0 R.out A (fun g hg e=>by have:=ap g e;have:=(World.ownsRow.lt R.out g hg).1;omega));have ak:=hid (Zd.from (B:=w.heap.size) ad (fun k hk=>by rcases D.2 k hk with e|e;exact (World.ownsRow.lt u.out k e).1;omega));have U:=hid (J.out.trans (A.below (B:=w.heap.size) al (fun k hk e=>by have:=(World.ownsRow.lt u.out k e).1;omega)));clear ad D A))|(go_loud (refine Zg rfl _ _ rfl w.heap.size v5 (L++Zb C.length) rfl ak.out _ C rfl an.out.brow (by rw [Xd];omega) U.out.size ?_;intro v6 w6 O I;have ah:=hid O;have ax:=hid (U.out.trans I);clear O I)))
    go_roundw
    case rel=>exact ⟨a+16,j+1,L++Zb C.length++C,by go_num,ar,HN,ah,ax⟩
    case measure=>simp [intOf];omega
   ·have q1:decide ((a:Int)<(l.length:Int))=false:=Xf;have q2:decide (a<l.length)=false:=Xf;have hj:Zu l<=j:=by unfold Zu;have:=F.out.1;omega
    have hl:=HL.out;rw [ZpU hj,XI] at hl;have ho:=HO.out;rw [hl] at ho;have aw:=hid ho;clear hl ho HO HL F hj H;go_wp2_with fail;go_ret2;exact ⟨_,rfl,aw.out,Y.out⟩
 ·have m:Zb7 l=false:=by simpa using m
  rw [m] at G ⊢;clear m hv;go_enter func43,ntmps43;go_wp2_with fail;refine G.out.mono ?_;rintro e w1 ⟨rfl,i⟩;have c:=hid i;clear i G;go_wp2_with fail;go_ret2;exact ⟨_,rfl,World.ownsRow_nil _ _ _ _,c.out⟩
open RowKit MM DM VM VP
theorem ZvW (a b:Xu):(⟨a.toArray⟩:ByteArray)++⟨b.toArray⟩=⟨(a++b).toArray⟩:=by
 apply ByteArray.ext;rw [ByteArray.data_append];simp
theorem ZvV (l:Xu) (k:Nat):(⟨l.toArray⟩:ByteArray).extract 0 k=⟨(l.take k).toArray⟩:=by rw [Zkk];rfl
open RowKit MM DM VM
theorem Zxl (B g:Nat) (A l:Xu) (o:Bool) (w:World) (hA:A.length<=65) (h:Rd B w g l o) (hB:B<=g) :
  Calls prog 161 #[.pointer (some ⟨g,0,none⟩),.string ⟨A.toArray⟩] w (ZfF B g (Zl6 (Zci A l o).1) (Zci A l o).2.1 (Zci A l o).2.2 w):=by
 have ay:prog.follows .mixedOrders=true:=by kernel_rfl
 obtain ⟨R,hR⟩:=Xn w.heap.size;have ae:g<R:=by rw [<- hR];exact h.lt
 obtain ⟨wa,u⟩:=Xn (w.alloc (.cells #[.string ⟨#[]⟩,.int .i64 0,.int .i64 0,.int .i64 0] 102));have ah:Hid (Kep (fun b=>b≠g) w wa):=hid (by rw [<- u];exact Zr _ _ _);have ak:Hid (Za3 wa R 102 (.string ⟨#[]⟩) (.int .i64 0) (.int .i64 0) (.int .i64 0)):=hid (by rw [<- u,<- hR];exact ZeS w 102 _ _ _ _);have aa:Rd B wa g l o:=h.keep (S:=fun _=>True) (by rw [<- u];exact Zr _ _ _) trivial (fun _ _=>trivial) (by omega);have aq:Hid (wa.heap.size=R+1):=hid (by rw [<- u,<- hR];simp);obtain ⟨⟨k,Y,o1⟩,e1⟩:∃s,Ze A.length l o=s:=⟨_,rfl⟩;have hk:k<=A.length:=by have:=ZbW A.length l o;rw [e1] at this;exact this
 obtain ⟨⟨t,l2,o2⟩,e2⟩:∃s,Z2 (65 - (k:Int)) Y o1=s:=⟨_,rfl⟩;have ht:(t.length:Int)<=65 - (k:Int):=by have:=Zps (65 - (k:Int)) Y o1;rw [e2] at this;dsimp only at this;omega
 obtain ⟨T,hT⟩:=Xn (A.take k++t);have aC:T.length<=65:=by rw [<- hT,Xd,Xi];omega
 have e3:Zdj A l o=(T,l2,o2):=by unfold Zdj;rw [e1];dsimp only;rw [e2];dsimp only;rw [hT]
 obtain ⟨⟨l3,o3⟩,e4⟩:∃s,ZbU A l o=s:=⟨_,rfl⟩;have e5:(if ZJ A T=k then (l2,o2) else ([],true))=(l3,o3):=by rw [<- e4];unfold ZbU;rw [e3,e1]
 obtain ⟨⟨a,l4,o4⟩,e6⟩:∃s,Ze 67108864 l3 o3=s:=⟨_,rfl⟩;obtain ⟨⟨b,l5,o5⟩,e7⟩:∃s,Ze 67108864 l4 o4=s:=⟨_,rfl⟩;obtain ⟨⟨c,l6,o6⟩,e8⟩:∃s,Ze 67108864 l5 o5=s:=⟨_,rfl⟩
 have hE:Zci A l o=((T,((a:Int),((b:Int),(c:Int)))),l6,o6):=by
  unfold Zci Zct;rw [e4,e3];dsimp only;rw [e6];dsimp only;rw [e7];dsimp only;rw [e8]
 rw [hE];have q:=hid (fun m l o W (E:m<=1099511627776) (h:Rd B W g l o)=>ZaT B g m l o W E h hB);have z:=hid (fun W (h:Rd B W g Y o1)=>Zhv B g (65 - (k:Int)) Y o1 W (by omega) (by omega) h hB);have ap:=hid (fun W (h:Rd B W g l2 o2)=>Zbq B g l2 [] o2 (.slice none 0 0) 110 W h hB (Z3.nil_ _ _));rw [e2] at z;have O:=q.out A.length l o wa (by omega) aa;rw [e1] at O;have O:=hid O;have v:=hid e5;have az:=Zbh A;have aB:=Zbh T;have G:=hid (fun W=>Zm0 A T W (by omega) (by omega));have D:=ZvW (A.take k) t;have am:=ZvV A k;have ag:=fun W=>run_string_add_sum (P:=prog) W ⟨(A.take k).toArray⟩ ⟨t.toArray⟩ (by rw [Zbh,Zbh,Xi];omega);rw [hT] at D;simp only [D] at ag;have av:(k:Int)<=(A.length:Int):=by omega
 have au:IntKind.i64.wrap (65 - (k:Int))=65 - (k:Int):=by rw [IntKind.wrap_i64];omega
 have U:=hid u;have HB:=hid hB;have f:=hid ae;have H6:=hid e6;have H7:=hid e7;have H8:=hid e8;clear u h aa e1 e2 e3 e4 e5 e6 e7 e8 hE hT hB ae;go_enter func161,ntmps161;go_wp2_with fail;rw [U.out];refine O.out.mono ?_;rintro e w1 ⟨rfl,h1,k1⟩;have aj:R+1<=w1.heap.size:=by have:=k1.size;have:=aq.out;omega
 have ab:=hid (ak.out.keep k1 (by have:=f.out;omega));have K1:=hid (ah.out.trans k1);obtain ⟨wd,r⟩:=Xn w1.drew;have R1:Hid (Rd B wd g Y o1):=hid (by rw [<- r];exact Rd.keep h1 (S:=fun _=>True) (Za _ (Below.refl _ _).drew) trivial (fun _ _=>trivial) (by have:=HB.out;have:=f.out;omega));have ac:Hid (Za3 wd R 102 (.string ⟨#[]⟩) (.int .i64 0) (.int .i64 0) (.int .i64 0)):=hid (by rw [<- r];exact ab.out.below (Below.refl w1.heap.size _).drew (by omega));have KD:Hid (Kep (fun b=>b≠g) w wd):=hid (by rw [<- r];exact K1.out.trans (Za _ (Below.refl _ _).drew));have ar:R+1<=wd.heap.size:=by rw [<- r];simpa using aj
 have ao:=hid r;clear r h1 k1 O ak ab K1 aj ah U;go_wp2_with fail;refine RK.ZaF (T:=fun b=>b≠g) [(0,true),(1,true),(2,true),(3,true),(4,true),(5,true),(6,false),(7,true),(8,true)] (by kernel_rfl) (by kernel_rfl) rfl (by kernel_rfl) (fun _ _ d _ _ h=>by cases d<;>exact h) ?_;simp only [RK.Zy,XF,XV,XZ,X4,XX];rw [ao.out];repeat ((first|(refine RK.take (by rfl) (by intro W hW;go_simp;with_reducible rfl) ?_));simp only [Act.put,Xr,Xs,Xq])
 refine RK.alone (by rfl) (fun K hK => ?_);go_simp;refine (z.out wd R1.out).mono ?_;rintro e w2 ⟨rfl,h2,L⟩;go_simp;refine hK.out _ _ L ?_;clear hK K;have al:R+1<=w2.heap.size:=by have:=L.size;omega
 have x:=hid (ac.out.keep L (by have:=f.out;omega));have K2:=hid (KD.out.trans L);have R2:=hid h2;clear h2 L ac KD R1 ar;repeat ((first|(refine RK.take (by rfl) (by intro W hW;go_simp;with_reducible rfl) ?_));simp only [Act.put,Xr,Xs,Xq])
 refine RK.done ?_;obtain ⟨n,hn⟩:=Xn (ZJ A T);rw [hn] at G v;have an:=(ZdJ A T).1;rw [hn] at an;clear hn;rcases Classical.em (n=k) with hs|hs
 case' inl =>
  subst hs;have H:=v.out;rw [Xe rfl] at H;obtain ⟨rfl,rfl⟩:=X7 H;clear H v;go_wp2_with fail;refine (G.out _).mono ?_;rintro e M ⟨rfl,m,E⟩;have j:Kep (fun _=>True) w2 M:=by rw [E];exact Za _ (MM.below_drewN (Below.refl _ _) m)
  have X:R+1<=M.heap.size:=by have:=j.size;omega
  have F:=hid (x.out.keep j trivial);have K3:=hid (K2.out.trans (j.mono' fun _ _ _=>trivial));have R3:=hid (R2.out.keep j trivial (fun _ _=>trivial) (by have:=HB.out;have:=f.out;omega));clear E j al x K2 R2
 case' inr =>
  have t0:((n:Int) != (k:Int))=true:=by rw [Xaa];omega
  have H:=v.out;rw [Xa hs] at H;obtain ⟨rfl,rfl⟩:=X7 H;clear H v hs;go_wp2_with fail;refine (G.out _).mono ?_;rintro e I ⟨rfl,m,E⟩;have j:Kep (fun _=>True) w2 I:=by rw [E];exact Za _ (MM.below_drewN (Below.refl _ _) m)
  have X:R+1<=I.heap.size:=by have:=j.size;omega
  have C:=hid (x.out.keep j trivial);have af:=hid (K2.out.trans (j.mono' fun _ _ _=>trivial));have HQ:=hid (ap.out I (R2.out.keep j trivial (fun _ _=>trivial) (by have:=HB.out;have:=f.out;omega)));clear E j al x K2 R2;go_wp2_with fail;refine HQ.out.mono ?_;rintro e M ⟨rfl,h3,k3⟩;have aw:R+1<=M.heap.size:=by have:=k3.size;omega
  have F:=hid (C.out.keep k3 (by have:=f.out;omega));have K3:=hid (af.out.trans k3);have ad:Rd B M g [] true:=by have:=h3;simpa using this
  have R3:=hid ad;clear h3 ad k3 X C af HQ
 all_goals
  have N4:=q.out 67108864 _ _ M (by omega) R3.out;rw [H6.out] at N4;have N4:=hid N4;go_wp2_with fail;refine N4.out.mono ?_;rintro e w4 ⟨rfl,h4,k4⟩;have ax:R+1<=w4.heap.size:=by have:=k4.size;omega
  have N:=hid (F.out.keep k4 (by have:=f.out;omega));have K4:=hid (K3.out.trans k4);have R4:=hid h4;clear h4 k4 F K3 R3 N4;have V:=q.out 67108864 _ _ w4 (by omega) R4.out;rw [H7.out] at V;have V:=hid V;go_wp2_with fail;refine V.out.mono ?_;rintro e w5 ⟨rfl,h5,k5⟩;have aD:R+1<=w5.heap.size:=by have:=k5.size;omega
  have ai:=hid (N.out.keep k5 (by have:=f.out;omega));have K5:=hid (K4.out.trans k5);have R5:=hid h5;clear h5 k5 N K4 R4 V;have N6:=q.out 67108864 _ _ w5 (by omega) R5.out;rw [H8.out] at N6;have N6:=hid N6;go_wp2_with fail;refine N6.out.mono ?_;rintro e w6 ⟨rfl,h6,Z⟩;have aA:R+1<=w6.heap.size:=by have:=Z.size;omega
  have y:=hid (ai.out.keep Z (by have:=f.out;omega));have K6:=hid (K5.out.trans Z);have R6:=hid h6;clear h6 Z ai K5 R5 N6;obtain ⟨m1,m2,m3,m4,⟨k1,L⟩,⟨k3,k4⟩,k5,Z⟩:=y.out.all (.string ⟨T.toArray⟩) (.int .i64 (a:Int)) (.int .i64 (b:Int));have n0:=y.out.c0;have HX:=hid (y.out.set (.string ⟨T.toArray⟩) (.int .i64 (a:Int)) (.int .i64 (b:Int)) (.int .i64 (c:Int)));have J:Kep (fun b=>b≠R) w6 _:=ZfR (g:=R) (.string ⟨T.toArray⟩) (.int .i64 (a:Int)) (.int .i64 (b:Int)) (.int .i64 (c:Int));have K7:=hid (K6.out.andThen J fun i hi _=>by omega);have R7:=hid (R6.out.keep J (by have:=f.out;omega) (fun k hk=>by have:=HB.out;have:=f.out;omega) (by have:=HB.out;have:=f.out;omega));clear J y K6 R6;go_wp2_with fail;refine bodyPost_ret (Znm (p:=4) rfl underlying102 rfl Zgh _ _ R _ _ _ _ rfl HX.out) rfl ?_;exact ⟨rfl,R7.out,K7.out⟩
variable {w:World}
def Zws (s:List ZQ×Xu×Bool) (w:World) (e:Ending) (w':World):Prop :=
 ∃v',e=.returned (.tuple #[v',.bool (!s.2.2&&decide (s.2.1=[]))])/\Zz ZbT 102 w.heap.size (fun _=>False) w' v' s.1/\Below w.heap.size w w'
theorem ZfU {α:Type} {C:Codec α} {e:TypeId} {B B':Nat} {S:Nat->Prop} {v:Value} {es:List α} (h:Zz C e B S w v es) (k:B'<=B):Zz C e B' S w v es:=by
 obtain ⟨b,d,l⟩:=h;refine ⟨b,⟨d.1,?_⟩,l⟩;rcases d.2 with i|⟨g,c,a,j,f,rest⟩
 ·exact .inl i
 ·exact .inr ⟨g,c,a,j,Xx k f,rest⟩
def Zsi:Value->Nat | .slice _ n _=>n|_=>0
theorem Zxn (f:Nat) (A:Xu) (acc:List ZQ) (o:Bool):ZaO f A acc [] o=(acc,[],o):=by cases f<;>simp [ZaO]
theorem Zuw {f:Nat} {A L:Xu} {acc:List ZQ} {o:Bool} (a:L≠[]) (hf:0<f):ZaO f A acc L o=ZaO (f - 1) (Zci A L o).1.1 (acc++[(Zci A L o).1]) (Zci A L o).2.1 (Zci A L o).2.2:=by
 obtain ⟨f,rfl⟩:∃g,f=g+1:=⟨f - 1,by omega⟩;rw [ZaO,Xa a];rfl
theorem ZiZ {wr:World} {s:List ZQ×Xu×Bool} {a:Value} {b:Bool} (c:Zz ZbT 102 w.heap.size (fun _=>False) wr a s.1) (d:Below w.heap.size w wr) (h:(!s.2.2&&decide (s.2.1=[]))=b) (m:Nat):Zws s w (.returned (.tuple #[a,.bool b])) (wr.drewN m) :=
 ⟨a,by rw [h],c.keep (Za (fun _=>True) (MM.below_drewN (Below.refl _ _) m)) (fun _ _ h=>trivial) (fun _ _=>trivial),MM.below_drewN d m⟩
theorem Zl8 (B:Nat) (v:Value) (l:Xu) (w:World) (hv:Z3 B w v l) (hB:B<=w.heap.size):Calls prog 104 #[v] w (Zws (ZaO 16 [] [] l false) w):=by
 obtain ⟨R,hR⟩:=Xn w.heap.size;obtain ⟨p0,c0,rfl,_⟩:=hv.shape;obtain ⟨wa,u⟩:=Xn (w.alloc (.cells #[.slice p0 l.length c0,.bool false] 166));have ab:Below w.heap.size w wa:=by rw [<- u];exact (Below.refl _ _).alloc (Xc _) _
 have al:Hid (Rd B wa R l false):=hid (by
  refine ⟨.slice p0 l.length c0,?_,hv.below (ab.mono hB)⟩;rw [<- u,<- hR];exact heap_alloc_new _ _)
 have ak:Hid (Below w.heap.size w wa):=hid ab;have ay:Hid (wa.heap.size=R+1):=hid (by rw [<- u,<- hR];simp);obtain ⟨am,hF⟩:=Xn (ZaO 16 [] [] l false);have ar:=hid hF;rw [hF];have af:=hid (Zz.nil_ (C:=ZbT) 102 (R+1) (fun _=>False) wa);have i:=hid (fun A l o W (hA:A.length<=65) (h:Rd B W R l o)=>Zxl B R A l o W hA h (by omega));have H:Hid (B<=R):=hid (by omega);have ae:=hid u;clear u ab hv hB hF;go_enter func104,ntmps104;go_wp2_with fail;rw [ae.out]
 go_loopw [2,5] (fun lv av wr=>∃(acc:List ZQ) (A:Xu) (L:Xu) (o:Bool),av=.string ⟨A.toArray⟩/\A.length<=65/\acc.length<=16/\Hid (ZaO (16 - acc.length) A acc L o=am)/\Hid (Rd B wr R L o)/\Hid (Zz ZbT 102 (R+1) (fun _=>False) wr lv acc)/\Hid (Below w.heap.size w wr)/\Hid (R+1<=wr.heap.size)) (fun lv _ _=>16 - (Zsi lv))
 case atStart=>exact ⟨[],[],l,false,rfl,by simp,by simp,ar,al,af,ak,hid (by have:=ay.out;omega)⟩
 case round =>
  obtain ⟨acc,A,L,o,rfl,hA,aI,O,j,I,p,T⟩:=hrel;clear ar al af ak ay ae;obtain ⟨pl,cl,rfl,aM,aN,_⟩:=I.out.any.shape;obtain ⟨v0,aa,an⟩:=j.out;obtain ⟨p1,c1,rfl,_⟩:=an.shape;have f0:wr.cell? ⟨R,0,none⟩=some (.slice p1 L.length c1):=by rw [cell_of_row wr R 0 _ _ _ aa];rfl
  have f1:wr.cell? ⟨R,1,none⟩=some (.bool o):=by rw [cell_of_row wr R 1 _ _ _ aa];rfl
  clear aa an;obtain ⟨n,N⟩:=Xn L.length;rw [N] at f0;have HN:=hid N;have aB:=I
  by_cases hL:n=0
  ·have f:L=[]:=XO (by omega);have a:=O.out;rw [f,Zxn] at a;have q1:decide ((n:Int)>0)=false:=Xf;have q2:decide (0<n)=false:=Xf;have q3:((n:Int) == 0)=true:=by rw [Xan];omega
   subst a;cases o with
   | true =>
     clear N hL f HN O i j;go_wp2_with fail;go_quiet (fail)
     go_wp2_with fail;go_ret2;exact ZiZ (ZfU I.out (by omega)) p.out (by rfl) _
   | false =>
     clear N hL f HN O i j;go_wp2_with fail;go_quiet (fail)
     go_wp2_with fail;go_ret2;exact ZiZ (ZfU I.out (by omega)) p.out (by rfl) _
  ·have f:L≠[]:=fun e=>hL (by rw [<- N,e];rfl);have q1:decide ((n:Int)>0)=true:=Xt;have q2:decide (0<n)=true:=Xt;have q5:((n:Int) == 0)=false:=Xb
   by_cases F:acc.length=16
   ·have q3:decide ((acc.length:Int)<16)=false:=Xf;have q4:decide (acc.length<16)=false:=Xf;have a:=O.out;rw [F,Xas] at a;rw [show ZaO 0 A acc L o=(acc,L,o) from rfl] at a;subst a;have ah:=hid f;cases o with
    | true =>
      clear N hL f F HN O i j;go_wp2_with fail;go_quiet (fail)
      go_wp2_with fail;go_ret2;exact ZiZ (ZfU I.out (by omega)) p.out (by have:=ah.out;simp [this]) _
    | false =>
      clear N hL f F HN O i j;go_wp2_with fail;go_quiet (fail)
      go_wp2_with fail;go_ret2;exact ZiZ (ZfU I.out (by omega)) p.out (by have:=ah.out;simp [this]) _
   ·have q3:decide ((acc.length:Int)<16)=true:=Xt;have q4:decide (acc.length<16)=true:=Xt;have a:=O.out;rw [Zuw f (by omega),show 16 - acc.length - 1=16 - (acc.length+1) by omega] at a;have c:=i.out A L o wr hA j.out;have Y:=ZBR hA L o;obtain ⟨⟨⟨m,z,D,E⟩,L4,o4⟩,hX⟩:∃s,Zci A L o=s:=⟨_,rfl⟩;rw [hX] at a c Y;dsimp only at a c;unfold Zl6 at c;dsimp only at c;have HC:=hid c;have aC:=hid a;have aE:Hid (m.length<=65):=hid Y.1;have U:Hid (acc.length<16):=hid (by omega);clear a c Y hX f N hL F HN O j;go_wp2_with fail;refine HC.out.mono ?_;rintro e w4 ⟨rfl,h4,k4⟩;have aK:=k4.size;obtain ⟨q,hq⟩:=Xn w4.heap.size;have aO:R+1<=q:=by have:=T.out;omega
    have ac:∀g,(Value.slice pl acc.length cl).ownBlock=some g->R+1<=g/\g<wr.heap.size:=fun g hg=>by have:=I.out.cells hg;omega
    have aA:=I.out.keep k4 (fun _ _ h=>h.elim) (fun g hg=>by have:=ac g hg;omega);have ap:Below w.heap.size w w4:=p.out.trans (k4.below (B:=w.heap.size) (by have:=T.out;omega) (fun b hb=>by omega));obtain ⟨X,x⟩:=Xn (w4.alloc (.cells #[.string ⟨m.toArray⟩,.int .i64 z,.int .i64 D,.int .i64 E] 102));have J:Below w4.heap.size w4 X:=by rw [<- x];exact (Below.refl _ _).alloc (Xc _) _
    have F5:Hid (Za3 X q 102 (.string ⟨m.toArray⟩) (.int .i64 z) (.int .i64 D) (.int .i64 E)):=hid (by rw [<- x,<- hq];exact ZeS w4 102 _ _ _ _);have ai:X.heap.size=q+1:=by rw [<- x,<- hq];simp
    obtain ⟨w6,t⟩:=Xn (X.alloc (.cells #[.string ⟨m.toArray⟩,.int .i64 z,.int .i64 D,.int .i64 E] 102));have r:Below X.heap.size X w6:=by rw [<- t];exact (Below.refl _ _).alloc (Xc _) _
    have aw:w6.heap.size=q+2:=by rw [<- t];simp [ai]
    have V:=Zby (C:=ZbT) (S:=fun _=>False) (w:=X) (vs:=[.string ⟨m.toArray⟩,.int .i64 z,.int .i64 D,.int .i64 E]) (d:=(m,(z,(D,E)))) 102 (Zio.2 rfl);rw [t,ai] at V;have ag:=hid V;have ad:=hid ((aA.keep (Za (fun _=>True) J) (fun _ _ h=>h.elim) (fun _ _=>trivial)).keep (Za (fun _=>True) r) (fun _ _ h=>h.elim) (fun _ _=>trivial));have ax:=hid ((ap.trans (J.mono (by omega))).trans (r.mono (by omega)));have aq:=hid (Rd.keep (Rd.keep h4 (S:=fun _=>True) (Za _ J) trivial (fun _ _=>trivial) (by have:=H.out;omega)) (S:=fun _=>True) (Za _ r) trivial (fun _ _=>trivial) (by have:=H.out;omega));have F6:=hid (F5.out.below r (by omega));have G:=hid ac;have az:=hid x;have ao:=hid t;have y:=hid aw;clear V x t J r h4 k4 aA ap ac I aB p HC T F5 aw;go_wp2_with (at_builtin;go_loud (rw [az.out,ao.out];refine Zf Zuv rfl _ _ rfl (R+1) (.slice pl acc.length cl) acc rfl ad.out (fun _ _ h=>h.elim) _ [(m,(z,(D,E)))] rfl ag.out (by unfold maxLen;have:=U.out;simp;omega) (by have:=U.out;simp;omega) (by have:=y.out;omega) ?_;intro v7 w7 Z aj M;obtain ⟨p7,c7,rfl,_⟩:=Z.any.shape;have g7:=F6.out.keep M (fun e=>by have:=G.out q e;omega);have e0:=g7.c0;have au:=hid Z;have aG:=hid (ax.out.trans (aj.mono (by omega)));have aD:=hid (aq.out.keep M (fun e=>by have:=G.out R e;omega) (fun k hk e=>by have:=G.out k e;have:=H.out;omega) (by have:=H.out;have:=y.out;omega));have aJ:=M.size;have aF:Hid (R+1<=w7.heap.size):=hid (by have:=y.out;omega);clear Z aj M g7 ad ag ax aq F6 az ao G))
    have aL:=U.out;rw [show (acc++[(m,(z,(D,E)))]).length=acc.length+1 by simp] at au;have aH:Hid (ZaO (16 - (acc++[(m,(z,(D,E)))]).length) m (acc++[(m,(z,(D,E)))]) L4 o4=am):=hid (by rw [Xd];exact aC.out);go_roundw
    case rel=>exact ⟨acc++[(m,(z,(D,E)))],m,L4,o4,rfl,aE.out,by simp;omega,aH,aD,au,aG,aF⟩
    case measure=>simp [Zsi];omega
variable {S T:Nat->Prop} {w w':World} {v:Value} {p:Option Addr}
abbrev Blk:=Xu×Xu
def Zt7:Codec Blk:=ZeJ Zij (Zfu cU8)
theorem ZwM {e:List Value} {x:Blk}:Zt7.on S w e x↔∃v,e=[.string ⟨x.1.toArray⟩,v]/\ZD cU8 S w v x.2:=by
 constructor
 ·rintro ⟨a,b,rfl,d,v,rfl,c⟩;have d:a=[.string ⟨x.1.toArray⟩]:=d;exact ⟨v,by rw [d];rfl,c⟩
 ·rintro ⟨v,rfl,c⟩;exact ⟨[_],[v],rfl,rfl,v,rfl,c⟩
def ZeF (c:List ZQ):Blk:=((c.headD Zo9).1,ZE [] c)
def Zf6 (l:List ZQ):List Blk:=(ZH l).map ZeF
theorem ZeG (l:List ZQ):(Zf6 l).length=Zu l:=by unfold Zf6;rw [XE,ZoX]
theorem Zt9 {l:List ZQ} {j:Nat} (h:j<(Zf6 l).length):(Zf6 l)[j]=ZeF (ZB l j):=by
 unfold Zf6 at h ⊢;rw [XaA,ZpV]
theorem ZwP {B:Nat} {l:Xu} (h:ZD cU8 S w v l) (a:∀b,b<w.heap.size->S b->b<B):Z3 B w v l:=Zll h a
theorem ZnF {l:Xu} (h:ZN cU8 w v l):Z3 w.heap.size w v l:=ZwP h fun b a _=>a
theorem ZrG {n f:Nat} {l:List ZQ} (h:ZN Zt7 w (.slice p n f) (Zf6 l)) {k:Nat} (i:k<Zu l) :
  ∃b off v,p=some ⟨b,off,none⟩/\b<w.heap.size/\w.cell? ⟨b,off+k*2,none⟩=some (.string ⟨((ZB l k).headD Zo9).1.toArray⟩)/\w.cell? ⟨b,off+k*2+1,none⟩=some v/\Z3 w.heap.size w v (ZE [] (ZB l k)):=by
 have d:k<(Zf6 l).length:=by rw [ZeG];exact i
 obtain ⟨b,off,vs,j,e,_,a,c⟩:=h.at_ d;rw [ZwM] at a;obtain ⟨v,rfl,g⟩:=a;rw [Zt9] at g c;exact ⟨b,off,v,j,e,c 0 _ rfl,c 1 _ rfl,ZnF g⟩
def Zfr (S:Nat->Prop) (w:World) (g:Nat) (l:List ZQ):Prop:=∃v,Two w g 170 (.int .i64 (l.length:Int)) v/\S g/\ZD Zt7 S w v (Zf6 l)
theorem Zfr.keep {g:Nat} {l:List ZQ} (h:Zfr S w g l) (d:Kep S w w') (c:∀b,b<w.heap.size->S b->T b):Zfr T w' g l:=by
 obtain ⟨v,e,a,f⟩:=h;exact ⟨v,e.keep d a,c g e.lt a,f.keep d c⟩
def Zdm (S:Nat->Prop) (w:World) (p:Option Addr) (l:List ZQ):Prop:=(p=none/\l=[])\/∃g,p=some ⟨g,0,none⟩/\Zfr S w g l
theorem Zdm.keep {l:List ZQ} (h:Zdm S w p l) (a:Kep S w w') (c:∀b,b<w.heap.size->S b->T b):Zdm T w' p l:=by
 rcases h with h|⟨g,e,d⟩
 ·exact .inl h
 ·exact .inr ⟨g,e,d.keep a c⟩
theorem Zdm.below {l:List ZQ} (h:Zdm (fun _=>True) w p l) (a:Below w.heap.size w w'):Zdm (fun _=>True) w' p l:=h.keep (Za _ a) fun _ _ h=>h
theorem Zlf (p:Option Addr) (l:List ZQ) (w:World) (h:Zdm (fun _=>True) w p l):Calls prog 117 #[.pointer p] w fun e w'=>e=.returned (.int .i64 (l.length:Int))/\w=w':=by
 rcases h with ⟨rfl,rfl⟩|⟨g,rfl,v,a,_⟩
 ·go_enter func117,ntmps117;go_wp2_with fail;go_ret;exact ⟨rfl,rfl⟩
 ·have c0:=a.c0;clear a;go_enter func117,ntmps117;go_wp2_with fail;go_ret;exact ⟨rfl,rfl⟩
def Zwr (l:List ZQ) (w:World) (e:Ending) (w':World):Prop:=∃v',e=.returned v'/\Zz ZbT 102 w.heap.size (fun _=>False) w' v' l/\Below w.heap.size w w'
theorem Zkp (f:ByteArray) (v:Value) (c:List ZQ) (w:World) (n:∀x∈c,okW x) (r:c.length<=16) (h:Z3 w.heap.size w v (ZE [] c)):Calls prog 211 #[.agg #[.string f,v]] w (Zwr c w):=by
 obtain ⟨j,a⟩:=Xn (w.alloc (.cells #[.string f,v] 176));have b:Below w.heap.size w j:=by rw [<- a];exact (Below.refl _ _).alloc (Xc _) _
 have g:Two j w.heap.size 176 (.string f) v:=by rw [<- a];exact ZdP w 176 _ _
 have c0:=g.c0;have c1:=g.c1;have hs:=b.size;have H:=Zl8 w.heap.size v (ZE [] c) j (h.below b) hs;rw [Zl7 c 16 [] [] false n (by simp) r] at H;have k:=hid H;have i:=hid b;have d:=hid a;obtain ⟨p,cp,rfl,_⟩:=h.shape;clear H b a h g;go_enter func211,ntmps211;go_wp2_with fail;rw [d.out];go_wp2_with fail;refine k.out.mono ?_;rintro e w1 ⟨v1,rfl,m,l⟩;have o:=hid m;have q:=hid (i.out.trans (l.mono hs));clear m l k;go_wp2_with fail;go_ret;exact ⟨_,rfl,ZfU o.out hs,q.out⟩
def atD (l:List ZQ) (i:Int):Option ZQ:=if 0<=i/\i<(l.length:Int) then l[i.toNat]? else none
theorem Zlc {l:List ZQ} (h:∀x∈l,okW x) (j:Nat):∀x∈ZB l j,okW x:=fun x a=>h x (XaX (Xaq a))
theorem ZB5 (p:Option Addr) (l:List ZQ) (i:Int) (w:World) (h:Zdm (fun _=>True) w p l) (hw:∀x∈l,okW x) (hn:l.length<=262144) (h0 : -9223372036854775808<=i) (h1:i<=9223372036854775807):Calls prog 165 #[.pointer p,.int .i64 i] w (Found (atD l i) w):=by
 obtain ⟨R,hR⟩:=Xn w.heap.size;obtain ⟨D,j⟩:=Xn (w.alloc (.cells #[.string ⟨#[]⟩,.int .i64 0,.int .i64 0,.int .i64 0] 102));have z:Below w.heap.size w D:=by rw [<- j];exact (Below.refl _ _).alloc (Xc _) _
 have c:Hid (Za3 D R 102 (.string ⟨#[]⟩) (.int .i64 0) (.int .i64 0) (.int .i64 0)):=hid (by rw [<- j,<- hR];exact ZeS w 102 _ _ _ _);have aj:D.heap.size=R+1:=by rw [<- j,<- hR];simp
 have I:=h.below z;have d:=hid (Zlf p l D I);have t:=hid z;have q:=hid j;clear j z h
 by_cases hi:0<=i/\i<(l.length:Int)
 ·obtain ⟨k,rfl⟩:=XaK hi.1;have Z:k<l.length:=by omega
  have C:atD l (k:Int)=some l[k]:=by unfold atD;rw [Xe hi,XT,XW Z]
  rw [C];clear C;have q1:decide ((k:Int)<0)=false:=Xf;have q2:decide ((k:Int)>=(l.length:Int))=false:=Xf;have q3:decide (k>=l.length)=false:=Xf;have q4:decide (l.length<=k)=false:=Xf;rcases I with ⟨_,rfl⟩|⟨g,rfl,v,h2,_,L⟩
  ·simp at Z
  have hj:k / 16<Zu l:=by unfold Zu;omega
  obtain ⟨pb,cb,rfl,aa,ai,_⟩:=L.shape;rw [ZeG] at L h2 aa;obtain ⟨bb,off,vb,rfl,ae,b0,b1,a⟩:=ZrG L hj;obtain ⟨J,hJ⟩:=Xn (k / 16);obtain ⟨M,hM⟩:=Xn (k%16);have d1:(k:Int) / 16=(J:Int):=by omega
  have d2:(k:Int).tdiv 16=(J:Int):=by rw [Int.tdiv_eq_ediv_of_nonneg (by omega)];omega
  have d3:(k:Int)%16=(M:Int):=by omega
  have d4:(k:Int).tmod 16=(M:Int):=by rw [Int.tmod_eq_emod_of_nonneg (by omega)];omega
  rw [hJ] at b0 b1 a hj;have V:(ZB l J).length=min 16 (l.length - 16*J):=Zcg l J;have F:M<(ZB l J).length:=by omega
  have E:l[k]=(ZB l J)[M]:=by rw [ZpT F];congr 1;omega
  rw [E];obtain ⟨FT,G⟩:∃s:ByteArray,(⟨((ZB l J).headD Zo9).1.toArray⟩:ByteArray)=s:=⟨_,rfl⟩;rw [G] at b0;clear G;have f:=hid (Zkp FT vb (ZB l J) D (Zlc hw J) (by omega) a);obtain ⟨pv,cv,rfl,_⟩:=a.shape;have c1:=h2.c1;have ak:(J:Int)<(Zu l:Int):=by omega
  obtain ⟨X,hX⟩:=Xn ((ZB l J)[M]);rw [hX];obtain ⟨O,U,x3,x4⟩:=X;have HX:=hid hX;have ab:=hid F;have af:Hid (Zu l<=16384):=hid (by unfold Zu;omega);generalize Zu l=N at *;have ah:(M:Int)<((ZB l J).length:Int):=by omega
  clear hi Z hJ hM h2 L a E V hX;go_enter func165,ntmps165;go_wp2_with fail;rw [q.out];refine d.out.mono ?_;rintro e w1 ⟨rfl,rfl⟩;go_wp2_with fail;refine f.out.mono ?_;rintro e w2 ⟨v2,rfl,y,n⟩;obtain ⟨p2,c2,rfl,ag,_⟩:=y.any.shape;have H:=y.any;obtain ⟨b2,ac,rfl,ad,_,e0,e1,e2,e3⟩:=Zdx H ab.out;rw [HX.out] at e0 e1 e2 e3;have m:=c.out.below n (by omega);have al:=n.size;obtain ⟨m1,m2,m3,m4,⟨k1,k2⟩,⟨k3,k4⟩,k5,k6⟩:=m.all (.string ⟨O.toArray⟩) (.int .i64 U) (.int .i64 x3);have n0:=m.c0;have A:=hid (m.set (.string ⟨O.toArray⟩) (.int .i64 U) (.int .i64 x3) (.int .i64 x4));have r:=hid ((t.out.trans (n.mono (by omega))).trans ((ZfR (g:=R) (w:=w2) (.string ⟨O.toArray⟩) (.int .i64 U) (.int .i64 x3) (.int .i64 x4)).below (B:=w.heap.size) (by omega) (fun b hb=>by omega)));clear y n H m f d c;go_wp2_with fail;refine bodyPost_ret (Zb4 (p:=4) (u:=5) rfl underlying102 rfl Zgh _ _ R _ _ _ _ rfl A.out) rfl ?_;exact ⟨rfl,r.out⟩
 ·have C:atD l i=none:=by unfold atD;rw [Xa hi]
  rw [C];have f0:=c.out;obtain ⟨m1,m2,m3,m4,⟨k1,k2⟩,⟨k3,k4⟩,k5,k6⟩:=f0.all (.string ⟨#[]⟩) (.int .i64 0) (.int .i64 0);obtain ⟨n0,n1,n2,n3⟩:=f0.cells;have A:=c;have r:=t;have Y:=hid (f0.set (.string ⟨#[]⟩) (.int .i64 0) (.int .i64 0) (.int .i64 0));have W:=hid (t.out.trans ((ZfR (g:=R) (w:=D) (.string ⟨#[]⟩) (.int .i64 0) (.int .i64 0) (.int .i64 0)).below (B:=w.heap.size) (by omega) (fun b hb=>by omega)))
  by_cases o:i<0
  ·have q1:decide (i<0)=true:=Xt;clear hi C I f0 o c;go_enter func165,ntmps165;go_wp2_with fail;rw [q.out];go_wp2_with fail;refine bodyPost_ret (Zb4 (p:=4) (u:=5) rfl underlying102 rfl Zgh _ _ R _ _ _ _ rfl A.out) rfl ?_;exact ⟨rfl,r.out⟩
  ·have q1:decide (i<0)=false:=Xf;have q2:decide (i>=(l.length:Int))=true:=Xt;have q3:decide ((l.length:Int)<=i)=true:=Xt;clear hi C I f0 o c;go_enter func165,ntmps165;go_wp2_with fail;rw [q.out];refine d.out.mono ?_;rintro e w1 ⟨rfl,rfl⟩;go_wp2_with fail;refine bodyPost_ret (Zb4 (p:=4) (u:=5) rfl underlying102 rfl Zgh _ _ R _ _ _ _ rfl Y.out) rfl ?_;exact ⟨rfl,W.out⟩
open RowKit MM DM
open EM (Zj Zaq Za9 Zmx ZaC)
theorem ZAL (x t:Xu):(Zj x t||(x == t)) = !Zj t x:=by
 by_cases e:x=t
 ·subst e;simp [Za9]
 ·have a:(x == t)=false:=by rw [Xab];exact e
  rw [a,Bool.or_false];cases h:Zj x t with
  | true=>rw [Zmx h];rfl
  | false=>rw [ZaC h e];rfl
theorem ZsF {l:List ZQ} {i:Nat} (hi:i<l.length) (t:Xu):Za6 t (l.drop i)=(Zj t l[i].1&&Za6 l[i].1 (l.drop (i+1))):=by
 rw [X9 hi,Za6]
theorem ZdH (v:Value) (l:List ZQ) (t0:Xu) (w:World) (x:ZN ZbT w v l):Calls prog 105 #[v,.string ⟨t0.toArray⟩] w fun e w'=>e=.returned (.bool (Za6 t0 l))/\Below w.heap.size w w':=by
 obtain ⟨p,R,rfl,G,y,_⟩:=x.shape;unfold maxLen at y;obtain ⟨h,d⟩:=Xn (Za6 t0 l);have z:Hid (Za6 t0 (l.drop 0)=h):=hid d;rw [d];have M:=hid x;clear x d;go_enter func105,ntmps105;go_wp2_with fail
 go_loopw [1,9] (fun F u wr=>∃(i:Nat) (t:Xu),i<=l.length/\F=.string ⟨t.toArray⟩/\u=.int .i64 i/\Hid (Za6 t (l.drop i)=h)/\Hid (Below w.heap.size w wr)) (fun _ u _=>l.length - (intOf u).toNat)
 case atStart=>exact ⟨0,t0,by omega,rfl,rfl,z,hid (Below.refl _ _)⟩
 case round =>
  obtain ⟨i,t,hi,rfl,rfl,s,q⟩:=hrel;clear z
  by_cases j:i<l.length
  ·have J:decide ((i:Int)<(l.length:Int))=true:=Xt;have L:decide (i<l.length)=true:=Xt;have q3:(i:Int)<(l.length:Int):=by omega
   obtain ⟨b,off,rfl,E,_,c1,c2,c3,c4⟩:=Zdx (ZN.below M.out q.out) j;have a:=s.out;rw [ZsF j] at a;generalize l[i]=X at *;obtain ⟨f,A,B,C⟩:=X;dsimp only at *;have c:=ZAL f t;have D:=Zaq f t;generalize Zj f t=r at *;obtain ⟨o,n⟩:=Xn ((f == t));rw [n] at c;obtain ⟨W,N⟩:=Xn (wr.alloc (.cells #[.string ⟨f.toArray⟩,.int .i64 A,.int .i64 B,.int .i64 C] 102));have k:Hid (Below w.heap.size w (wr.alloc (.cells #[.string ⟨f.toArray⟩,.int .i64 A,.int .i64 B,.int .i64 C] 102))):=hid (q.out.trans ((Below.refl _ _).alloc q.out.size _));clear s N;obtain ⟨I,m⟩:=Xn (Zj t f);rw [m] at c a;clear m;cases I with
   | true =>
     rw [Xag] at a;have H:=hid a;obtain ⟨rfl,rfl⟩:r=false/\o=false:=by cases r<;>cases o<;>simp_all
     clear a c;go_wp2_with fail;go_roundw
     case rel=>exact ⟨i+1,f,by omega,rfl,by go_num,H,k⟩
     case measure=>simp [intOf];omega
   | false =>
     rw [Xad] at a;subst a;have g:Hid ((r||o)=true):=hid c;clear c;cases r with
     | true =>
       clear g n;go_wp2_with fail;go_ret;exact ⟨rfl,k.out⟩
     | false =>
       obtain rfl:o=true:=by have:=g.out;simpa using this
       clear g;go_wp2_with fail;go_ret;exact ⟨rfl,k.out⟩
  ·obtain rfl:i=l.length:=by omega
   have J:decide ((l.length:Int)<(l.length:Int))=false:=by simp
   have L:decide (l.length<l.length)=false:=by simp
   have O:h=true:=by rw [<- s.out,Xae];rfl
   subst O;clear s j;go_wp2_with fail;go_ret;exact ⟨rfl,q.out⟩
instance (x:ZQ):Decidable (okW x):=by unfold okW;exact inferInstance
theorem Zj4 (x:ZQ) (w:World):Calls prog 131 #[Zl6 x] w fun e w'=>e=.returned (.bool (!decide (okW x)))/\Below w.heap.size w w':=by
 obtain ⟨d,a,b,c⟩:=x;unfold Zl6;dsimp only;have hz:=Zbh d;have g:Hid (Below w.heap.size w (w.alloc (.cells #[.string ⟨d.toArray⟩,.int .i64 a,.int .i64 b,.int .i64 c] 102))):=hid ((Below.refl _ _).alloc (Xc _) _);have f:Hid (decide (okW (d,a,b,c))=decide (d.length<=65/\(0<=a/\a<=67108864)/\(0<=b/\b<=67108864)/\(0<=c/\c<=67108864))):=hid (by simp only [okW]);go_enter func131,ntmps131;go_wp2_with fail
 all_goals go_ret
 all_goals refine ⟨Xp (fun b=>Ending.returned (.bool b)) ?_,g.out⟩
 all_goals rw [f.out,Bool.eq_iff_iff]
 all_goals simp only [Bool.or_eq_true,Bool.not_eq_true',Xg,Xk,true_iff]
 all_goals omega
def Zh0 (x:ZQ):Bool := !decide (okW x)
theorem ZwE {l:List ZQ} {i:Nat} (hi:i<l.length):(l.drop i).any Zh0=(Zh0 l[i]||(l.drop (i+1)).any Zh0):=by
 rw [X9 hi,List.any_cons]
theorem ZAJ (v:Value) (l:List ZQ) (w:World) (s:ZN ZbT w v l):Calls prog 192 #[v,.func (.func 131) #[] #[]] w fun e w'=>∃r:Int,e=.returned (.int .i64 r)/\decide (r>=0)=l.any Zh0/\Below w.heap.size w w':=by
 obtain ⟨p,G,rfl,z,t,_⟩:=s.shape;unfold maxLen at t;obtain ⟨f,d⟩:=Xn (l.any Zh0);have u:Hid ((l.drop 0).any Zh0=f):=hid d;rw [d];have E:=hid s;clear s d;go_enter func192,ntmps192;go_wp2_with fail
 go_loopw [8] (fun q wr=>∃i:Nat,i<=l.length/\q=.int .i64 i/\Hid ((l.drop i).any Zh0=f)/\Hid (Below w.heap.size w wr)) (fun q _=>l.length - (intOf q).toNat)
 case atStart=>exact ⟨0,by omega,rfl,u,hid (Below.refl _ _)⟩
 case round =>
  obtain ⟨i,hi,rfl,n,j⟩:=hrel;clear u
  by_cases g:i<l.length
  ·have C:decide ((i:Int)<(l.length:Int))=true:=Xt;have D:decide (i<l.length)=true:=Xt;have q3:(i:Int)<(l.length:Int):=by omega
   obtain ⟨b,off,rfl,y,_,c1,c2,c3,c4⟩:=Zdx (ZN.below E.out j.out) g;have a:=n.out;rw [ZwE g] at a;generalize l[i]=X at *;have k:=Zj4 X wr;have x:Zh0 X = !decide (okW X):=rfl;rw [<- x] at k;generalize Zh0 X=o at *;obtain ⟨X1,x2,x3,x4⟩:=X;unfold Zl6 at k;dsimp only at *;have m:=hid k;clear k x n;cases o with
   | true =>
     rw [Bool.true_or] at a;subst a;go_wp2_with fail;refine m.out.mono ?_;rintro e B ⟨rfl,c⟩;have h:=hid (j.out.trans (c.mono j.out.size));clear c m;go_wp2_with fail;go_ret;exact ⟨_,rfl,Xw (by omega),h.out⟩
   | false =>
     rw [Bool.false_or] at a;have A:=hid a;clear a;go_wp2_with fail;refine m.out.mono ?_;rintro e B ⟨rfl,c⟩;have h:=hid (j.out.trans (c.mono j.out.size));clear c m;go_wp2_with fail;go_roundw
     case rel=>exact ⟨i+1,by omega,by go_num,A,h⟩
     case measure=>simp [intOf];omega
  ·obtain rfl:i=l.length:=by omega
   have C:decide ((l.length:Int)<(l.length:Int))=false:=by simp
   have D:decide (l.length<l.length)=false:=by simp
   have F:f=false:=by rw [<- n.out,Xae];rfl
   subst F;clear n g;go_wp2_with fail;go_ret;exact ⟨_,rfl,by decide,j.out⟩
theorem ZwR (v:Value) (l:List ZQ) (w:World) (b:ZN ZbT w v l):Calls prog 130 #[v,.func (.func 131) #[] #[]] w fun e w'=>e=.returned (.bool (l.any Zh0))/\Below w.heap.size w w':=by
 have c:=hid (ZAJ v l w b);generalize l.any Zh0=g at *;clear b;go_enter func130,ntmps130;go_wp2_with fail;refine c.out.mono ?_;rintro e w1 ⟨r,rfl,d,a⟩;have f:=hid a;clear a c;go_wp2_with fail;go_ret;exact ⟨by rw [<- d];rfl,f.out⟩
open RowKit MM DM VM GB
variable {B q:Nat} {w W W':World} {v:Value} {l:Xu}
theorem Za4 (v:Value) (l:Xu) (n:Int) (w:World) (D:0<=n) (h1:n<=9223372036854775807) (b:Zd 0 w v l) (y:l.length<=1000000000000) :
  Calls prog 198 #[v,.int .i64 n] w (Zlp (l++Zb n.toNat) v w):=by
 obtain ⟨m,rfl⟩:=XaK D;rw [XT];have a:=VP.Zdg (.slice none 0 0) [] m w (by omega) (Zq.nil_ w) (by simp);rw [Xz] at a;have j:=Zc m;have d:=Zaz m;obtain ⟨M,z⟩:=Xn (Zb m);rw [z] at a j d ⊢;have A:=hid a;have x:=hid b;have s:=hid d;have hw:IntKind.u64.wrap (m:Int)=(m:Int):=by rw [IntKind.wrap_u64];omega
 obtain ⟨p,C,rfl,_⟩:=(Zd.brow b).shape;clear a b z d;go_enter func198,ntmps198;go_wp2_with fail;refine A.out.mono ?_;rintro e w1 ⟨v1,rfl,f,c⟩;have o:=hid (x.out.keep c);have u:=hid (Zd.brow f);have t:=hid c;have i:=hid (Zaw x.out);obtain ⟨p1,c1,rfl,_⟩:=(Zd.brow f).shape;clear f c A;go_wp2_with (at_builtin;refine Zl rfl _ _ rfl _ l rfl o.out _ M rfl u.out s.out (by omega) ?_)
 intro v2 w2 g h;have r:=hid g;have k:=hid (h.of_below t.out i.out);clear g h;go_wp2_with fail;go_ret;exact ⟨_,rfl,r.out,k.out⟩
def Zb6 (B q:Nat) (w W:World) (v:Value) (l:Xu):Prop:=Zd B W v l/\Below B w W/\B<=W.heap.size/\q<W.heap.size/\∀g,v.ownBlock=some g->g≠q
theorem Zb6.grown {v':Value} {m:Xu} (h:Zb6 B q w W v l) (n:Zd 0 W' v' m) (a:Grown W W' v v'):Zb6 B q w W' v' m/\W'.heap[q]? = W.heap[q]? := by
 obtain ⟨p,i,o,j,f⟩:=h;have hs:=a.1.size;have b:∀k,v.ownBlock=some k->B<=k:=fun k c=>(World.ownsRow.lt p k c).1;refine ⟨⟨Zd.from n fun k c => ?_,i.trans (a.kep.below o fun k c e=>by have:=b k e;omega),by omega,by omega,fun g d => ?_⟩,a.1.block q j fun e=>f q e.symm rfl⟩
 ·rcases a.2 k c with e|e
  ·exact b k e
  ·omega
 ·rcases a.2 g d with e|e
  ·exact f g e
  ·omega
theorem Zb6.below (h:Zb6 B q w W v l) (a:Below W.heap.size W W'):Zb6 B q w W' v l:=by
 obtain ⟨e,b,d,h4,c⟩:=h;have hs:=a.size;exact ⟨e.keep a,b.trans (a.mono d),by omega,by omega,c⟩
def ZdY (a:List Int):Xu:=a.flatMap fun z=>Zb z.toNat
theorem Zsn {a:List Int} {j:Nat} (h:j<a.length):ZdY (a.take (j+1))=ZdY (a.take j)++Zb a[j].toNat:=by
 unfold ZdY;rw [XG h,XaR];simp
theorem Zxk (a:Xu) (x:ZQ):Zec a x=Zb (ZJ a x.1)++Z1 (x.1.drop (ZJ a x.1))++ZdY [x.2.1,x.2.2.1,x.2.2.2]:=by
 unfold Zec ZdY;simp
theorem ZgV:∀(l:List ZQ) (a:Xu),(∀x∈l,okW x)->(ZE a l).length<=115*l.length
 | [],_,_=>by simp [ZE]
 | x::r,a,h=>by
   have c:=h x (by simp);have h2:=ZgV r x.1 fun y b=>h y (by simp [b]);have b1:=Zc (ZJ a x.1);have b2:=Zc x.2.1.toNat;have b3:=Zc x.2.2.1.toNat;have b4:=Zc x.2.2.2.toNat;have d:=(EM.ZdL (x.1.drop (ZJ a x.1))).1;rw [Xj] at d;have:=c.1;rw [ZE,Xd,Xh];unfold Zec;simp only [Xd];omega
theorem ZrC (v u:Value) (L:Xu) (c:List ZQ) (w:World) (ae:Zd 0 w v L) (hu:ZN ZbT w u c) (hc:∀x∈c,okW x) (hn:c.length<=16) (ba:L.length<=1000000000) :
  Calls prog 134 #[v,u] w (Zlp (L++Ze6 c) v w):=by
 obtain ⟨p,be,rfl,bf,aY,_⟩:=hu.shape;unfold maxLen at aY;have HU:=hid hu;have HX:=hid hc;have HV:=hid ae;have R:Hid (ZE [] (c.take c.length)=ZE [] c):=hid (by rw [XC]);have Z:=hid (fun i=>ZgV (c.take i) [] (fun x h=>hc x (Xaq h)));have ar:Hid (Zd w.heap.size w (.slice none 0 0) (ZE [] (c.take 0))):=hid (World.ownsRow_nil _ _ _ _);clear hu hc ae;go_enter func134,ntmps134;go_wp2_with fail
 go_loopw [5,6,14] (fun bv av iv wr=>∃(i:Nat) (A:Xu),i<=c.length/\iv=.int .i64 i/\av=.string ⟨A.toArray⟩/\Hid (A=Zml c i)/\A.length<=65/\Hid (Zd w.heap.size wr bv (ZE [] (c.take i)))/\Hid (Below w.heap.size w wr)) (fun _ _ iv _=>c.length - (intOf iv).toNat)
 case atStart=>exact ⟨0,[],by omega,rfl,rfl,hid rfl,by simp,ar,hid (Below.refl _ _)⟩
 case round =>
  obtain ⟨i,A,hi,rfl,rfl,HA,hA,HO,HB⟩:=hrel;clear ar
  by_cases H:i<c.length
  ·have q1:decide ((i:Int)<(c.length:Int))=true:=Xt;have q2:decide (i<c.length)=true:=Xt;have q3:(i:Int)<(c.length:Int):=by omega
   obtain ⟨b,off,rfl,bd,_,c1,c2,c3,c4⟩:=Zdx (ZN.below HU.out HB.out) H;have f:=ZlL H;have au:=Zmm H;have a8:=HX.out c[i] (XH H);have ay:=Z.out (i+1);rw [<- HA.out] at f;rw [Xi] at ay;generalize c[i]=X at *;rw [Zxk] at f;obtain ⟨t,V,U,z3⟩:=X;dsimp only at *;obtain ⟨aD,O,o,s⟩:=a8;dsimp only at aD O o s;have aU:=ZdJ A t;have bc:=Zbh t;have ap:=fun W=>Zm0 A t W (by omega) (by omega);obtain ⟨k,hk⟩:=Xn (ZJ A t);rw [hk] at f aU ap;obtain ⟨L0,aI⟩:=Xn (ZE [] (c.take i));rw [aI] at f HO;have HN:Hid (ZE [] (c.take (i+1))=L0++Zb k++Z1 (t.drop k)++ZdY [V,U,z3]):=hid (by rw [f];simp only [Xl]);have D:Hid ((L0++Zb k++Z1 (t.drop k)++ZdY [V,U,z3]).length<=2000):=hid (by rw [<- HN.out];omega);have aR:=hid au;have aK:=hid ap;have aV:=Zoj t k;have E:=hid (fun W=>VP.Zho (.slice none 0 0) [] ⟨(t.drop k).toArray⟩ W (Zq.nil_ W) (by rw [Zbh,Xj];simp;omega));simp only [Xz] at E;have bg:(k:Int)<=(t.length:Int):=by omega
   have aO:0<=(k:Int):=by omega
   obtain ⟨q,hq⟩:=Xn wr.heap.size;obtain ⟨pb,cb,rfl,_⟩:=(Zd.brow HO.out).shape;obtain ⟨w0,N⟩:=Xn (wr.alloc (.cells #[.string ⟨t.toArray⟩,.int .i64 V,.int .i64 U,.int .i64 z3] 102));have ad:Below wr.heap.size wr w0:=by rw [<- N];exact (Below.refl _ _).alloc (Xc _) _
   have aM:Hid (Zb6 w.heap.size q w w0 (.slice pb L0.length cb) L0):=hid (by
    have h1:Zb6 w.heap.size q w w0 (.slice pb L0.length cb) L0:=⟨HO.out.keep ad,HB.out.trans (ad.mono HB.out.size),by have:=HB.out.size;have:=ad.size;omega,by rw [<- N,<- hq];simp,fun g hg=>by have:=(World.ownsRow.lt HO.out g hg).2;omega⟩;exact h1)
   have T0:Hid (Za3 w0 q 102 (.string ⟨t.toArray⟩) (.int .i64 V) (.int .i64 U) (.int .i64 z3)):=hid (by rw [<- N,<- hq];exact ZeS wr 102 _ _ _ _);have a5:=hid N;clear f au ay hk ap aI N ad HO HB Z;go_wp2_with fail;rw [a5.out];refine (aK.out _).mono ?_;rintro e w1 ⟨rfl,m,hm⟩;have al:Below w0.heap.size w0 w1:=by rw [hm];exact MM.below_drewN (Below.refl _ _) m
   have an:=hid (aM.out.below al);have T1:=hid (T0.out.below al T0.out.lt);have aj:=hid (Za4 (.slice pb L0.length cb) L0 (k:Int) w1 aO (by omega) (Zd.zero an.out.1) (by have:=D.out;simp only [Xd] at this;omega));rw [XT] at aj;clear hm al aM T0 aK;go_wp2_with fail;refine aj.out.mono ?_;rintro e w2 ⟨v2,rfl,O,aF⟩;obtain ⟨af,aL⟩:=an.out.grown O aF;have ak:=hid af;have t2:Za3 w2 q 102 (.string ⟨t.toArray⟩) (.int .i64 V) (.int .i64 U) (.int .i64 z3):=aL.trans T1.out;have T2:=hid t2;obtain ⟨f0,f1,f2,f3⟩:=t2.cells;obtain ⟨p2,c2,rfl,_⟩:=(Zd.brow O).shape;clear O aF af aL t2 an T1 aj;have aa:=HN;obtain ⟨L1,az⟩:=Xn (L0++Zb k);rw [az] at ak aa D ⊢;have bb:True:=trivial;have ah:=hid (E.out w2);obtain ⟨G,n⟩:=Xn (Z1 (t.drop k));have ab:Hid (G≠[]):=hid (by rw [<- n];exact ZfZ _);rw [n] at ah aa D;clear az n E HN;go_wp2_with fail;refine ah.out.mono ?_;rintro e w3 ⟨v3,rfl,o,F⟩;have ao:=hid (ak.out.below F);have T3:=hid (T2.out.below F T2.out.lt);have ac:=hid (Zd.brow o);have ax:Hid (L1.length+G.length<=2000):=hid (by have:=D.out;simp only [Xd] at this;omega);obtain ⟨p3,c3,rfl,_⟩:=(Zd.brow o).shape;clear o F ak T2 ah f0 f1 f2 f3;go_wp2_with (at_builtin;go_loud (refine Zl rfl _ _ rfl _ L1 rfl (Zd.zero ao.out.1) _ G rfl ac.out ab.out (by have:=ax.out;omega) ?_;intro v4 w4 s T;have a:=ao.out.grown s T;have ai:=hid a.1;have T4:Hid (Za3 w4 q 102 (.string ⟨t.toArray⟩) (.int .i64 V) (.int .i64 U) (.int .i64 z3)):=hid (a.2.trans T3.out);clear a s T ao T3;obtain ⟨f0,f1,f2,f3⟩:=T4.out.cells))
   obtain ⟨r,hr⟩:=Xn w4.heap.size;obtain ⟨w5,S⟩:=Xn (w4.alloc (.cells #[.int .i64 V,.int .i64 U,.int .i64 z3] 3));rw [S];have aq:Below w4.heap.size w4 w5:=by rw [<- S];exact (Below.refl _ _).alloc (Xc _) _
   obtain ⟨d,M⟩:∃d:List Int,[V,U,z3]=d:=⟨_,rfl⟩;have aA:d.length=3:=by rw [<- M];rfl
   have HZ:Hid (w5.heap[r]? = some (.cells (d.map fun z=>Value.int .i64 z).toArray 3 (0,0))):=hid (by rw [<- M,<- S,<- hr];exact heap_alloc_new w4 _);have a2:Hid (∀z∈d,0<=z/\z<=67108864):=hid (by rw [<- M];intro z hz;simp only [XS,Xbi,or_false] at hz;rcases hz with rfl|rfl|rfl<;>assumption);rw [M] at aa D;have aN:=hid aA;have aB:Hid (Zb6 w.heap.size q w w5 v4 (L1++G++ZdY (d.take 0))):=hid (by have:=ai.out.below aq;simpa [ZdY] using this);have T5:=hid (T4.out.below aq T4.out.lt);have aG:Hid (∀g,v4.ownBlock=some g->g≠r):=hid (fun g hg=>by have:=(World.ownsRow.lt ai.out.1 g hg).2;omega);have aC:Hid (r<w5.heap.size):=hid (by rw [<- S,<- hr];simp)
   have a6:Hid (∀j,(L1++G++ZdY (d.take j)).length<=3000):=hid (fun j=>by
    have h1:=D.out
    have h2:(ZdY (d.take j)).length<=(ZdY d).length:=by
     unfold ZdY
     conv=>rhs;rw [<- X6 j d]
     rw [XaR,Xd];omega
    simp only [Xd] at h1 ⊢;omega)
   rw [hr];clear S aq M aA hr ai T4 ac ax ab D f0 f1 f2 f3 c1 c4
   go_loopw [5,40] (fun bv jv W=>∃(j:Nat),j<=3/\jv=.int .i64 (j:Int)/\Hid (Zb6 w.heap.size q w W bv (L1++G++ZdY (d.take j)))/\Hid (Za3 W q 102 (.string ⟨t.toArray⟩) (.int .i64 V) (.int .i64 U) (.int .i64 z3))/\Hid (W.heap[r]? = some (.cells (d.map fun z=>Value.int .i64 z).toArray 3 (0,0)))/\Hid (∀g,bv.ownBlock=some g->g≠r)/\Hid (r<W.heap.size)) (fun _ jv _=>3 - (intOf jv).toNat)
   case atStart=>exact ⟨0,by omega,rfl,aB,T5,HZ,aG,aC⟩
   case round =>
    obtain ⟨j,hj,rfl,BS,TT,HC,HG,HS⟩:=hrel;clear aB T5 HZ aG aC
    by_cases J:j<3
    ·have j1:decide ((j:Int)<3)=true:=Xt;have j2:decide (j<3)=true:=Xt;have j3:(j:Int)<3:=by omega
     have Y:j<d.length:=by rw [aN.out];exact J
     have fz:wr.cell? ⟨r,j,none⟩=some (.int .i64 d[j]):=by
      rw [cell_of_row wr r j _ _ _ HC.out];simp [Y]
     have aE:=a2.out d[j] (XH Y);have f:=Zsn Y;generalize d[j]=z at *;have HA:=hid (Za4 u5 (L1++G++ZdY (d.take j)) z wr aE.1 (by omega) (Zd.zero BS.out.1) (by have:=a6.out j;omega));have a3:Hid (L1++G++ZdY (d.take (j+1))=L1++G++ZdY (d.take j)++Zb z.toNat):=hid (by rw [f];simp only [Xl]);have HJ:=hid J;clear f Y aE J;go_wp2_with fail;refine HA.out.mono ?_;rintro e w6 ⟨v6,rfl,am,I⟩;rw [<- a3.out] at am;obtain ⟨a,aH⟩:=BS.out.grown am I;have a7:=hid a;have T6:Hid (Za3 w6 q 102 (.string ⟨t.toArray⟩) (.int .i64 V) (.int .i64 U) (.int .i64 z3)):=hid (aH.trans TT.out);have aZ:Hid (w6.heap[r]? = some (.cells (d.map fun z=>Value.int .i64 z).toArray 3 (0,0))):=hid ((I.1.block r HS.out (fun e=>HG.out r e.symm rfl)).trans HC.out)
     have aX:Hid (∀g,v6.ownBlock=some g->g≠r):=hid (fun g hg=>by
      rcases I.2 g hg with e|e
      ·exact HG.out g e
      ·have:=HS.out;omega)
     have aP:Hid (r<w6.heap.size):=hid (by have:=HS.out;have:=I.1.size;omega);clear a aH am I BS TT HC HG HS HA;go_wp2_with fail;have J:=HJ.out;go_roundw
     case rel=>exact ⟨j+1,by omega,by go_num,a7,T6,aZ,aX,aP⟩
     case measure=>simp [intOf];omega
    ·obtain rfl:j=3:=by omega
     have j1:decide (((3:Nat):Int)<3)=false:=by decide
     have j2:decide ((3:Nat)<3)=false:=by decide
     obtain ⟨f0,f1,f2,f3⟩:=TT.out.cells;have a:=BS.out;rw [XM (by rw [aN.out];exact Xc _),<- aa.out] at a;have a0:=hid a.1;have aS:=hid a.2.1;clear a BS TT HC HG HS J;go_wp2_with fail;go_roundw
     case rel=>exact ⟨i+1,t,by omega,by go_num,rfl,hid aR.out.symm,aD,a0,aS⟩
     case measure=>simp [intOf];omega
  ·obtain rfl:i=c.length:=by omega
   have q1:decide ((c.length:Int)<(c.length:Int))=false:=by simp
   have q2:decide (c.length<c.length)=false:=by simp
   have ho:=HO.out;rw [R.out] at ho;obtain ⟨C,hC⟩:=Xn (ZE [] c);have aw:=Z.out c.length;rw [R.out,XC] at aw;have ag:Ze6 c=Z1 C:=by unfold Ze6;rw [hC]
   rw [hC] at ho aw;have hs:=HB.out.size;have y:=Zd.brow ho;have bh:=y.conv;obtain ⟨pb,cb,rfl,_⟩:=y.shape;have E:=VP.Zho (.slice none 0 0) [] ⟨C.toArray⟩ wr (Zq.nil_ wr) (by rw [Zbh];simp;omega);simp only [Xz] at E;have HP:=hid E;obtain ⟨G,n⟩:=Xn (Z1 C);have a9:Hid (Ze6 c=G):=hid (ag.trans n);have ab:Hid (G≠[]):=hid (by rw [<- n];exact ZfZ _)
   have bi:G.length<=3000:=by
    rw [<- n];have:=(EM.ZdL C).1;omega
   rw [n] at HP;have aQ:=hid (Zaw HV.out);have aJ:=hid (HV.out.keep HB.out);obtain ⟨pv,cv,rfl,_⟩:=(Zd.brow HV.out).shape;clear ho y E n hC ag HO R Z H HA HV;go_wp2_with fail;refine HP.out.mono ?_;rintro e w3 ⟨v3,rfl,o,F⟩;have aW:=hid (aJ.out.keep F);have aT:=hid (HB.out.trans (F.mono hs));have ac:=hid (Zd.brow o);obtain ⟨p3,c3,rfl,_⟩:=(Zd.brow o).shape;clear o F HP aJ HB;go_wp2_with (at_builtin;refine Zl rfl _ _ rfl _ L rfl aW.out _ G rfl ac.out ab.out (by omega) ?_)
   intro v4 w4 s T;rw [<- a9.out] at s;have a4:=hid s;have a1:=hid (T.of_below aT.out aQ.out);clear s T;go_wp2_with fail;go_ret;exact ⟨_,rfl,a4.out,a1.out⟩
variable {k j:Nat}
def tK (l:List ZQ) (k:Nat):Xu:=(l.getD k Zo9).1
theorem ZkZ {l:List ZQ} (h:k<l.length):tK l k=l[k].1:=by unfold tK;rw [XaP,XW h];rfl
theorem Zjz {l:List ZQ} (h:k<(ZB l j).length):tK (ZB l j) k=tK l (16*j+k):=by
 have h2:=Zcg l j;rw [ZkZ h,ZkZ (by omega),ZpT h]
theorem Zxw {l:List ZQ} (h:j<Zu l):((ZB l j).headD Zo9).1=tK l (16*j):=by
 have h2:=Zcg l j;unfold Zu at h;have a:0<(ZB l j).length:=by omega
 rw [<- Xah (16*j),<- Zjz a,ZkZ a];obtain ⟨c,b⟩:=Xn (ZB l j);simp only [b] at a ⊢;cases c with
 | nil=>simp at a
 | cons x r=>rfl
def Zly (H:Nat) (a:Array Value) (q:Xu->Bool) (w:World):Prop :=
 (∀args W,(callFunc H args).run prog W=.ok (.enter H args) W)/\∀(W:World) (t:Xu),Below w.heap.size w W->Calls prog H (#[.string ⟨t.toArray⟩]++a) W fun e w'=>e=.returned (.bool (q t))/\Below W.heap.size W w'
theorem Zly.below {H:Nat} {b:Array Value} {q:Xu->Bool} {w w':World} (h:Zly H b q w) (a:Below w.heap.size w w'):Zly H b q w':=⟨h.1,fun W t c=>h.2 W t (a.trans (c.mono a.size))⟩
theorem ZB8 (H:Nat) (Y:Array Value) (q:Xu->Bool) (I Z g:Nat) (l:List ZQ) (j:Nat) (w:World) (x:Zly H Y q w) (B:w.cell? ⟨I,0,none⟩=some (.func (.func H) #[] Y)) (z:w.cell? ⟨Z,0,none⟩=some (.pointer (some ⟨g,0,none⟩)))
  (hD:Zfr (fun _=>True) w g l) (L:j<Zu l) (hn:l.length<=262144):Calls prog 217 (#[.int .i64 (j:Int)]++#[.pointer (some ⟨I,0,none⟩),.pointer (some ⟨Z,0,none⟩)]) w fun e w'=>e=.returned (.bool (!q (tK l (16*j))))/\Below w.heap.size w w':=by
 have ab:prog.follows .mixedOrders=true:=by kernel_rfl
 have eg:=x.1;obtain ⟨v,u,_,s⟩:=hD;obtain ⟨pb,ae,rfl,C,ad,_⟩:=s.shape;rw [ZeG] at s u C;obtain ⟨bb,off,vb,rfl,A,r,b1,i⟩:=ZrG s L;rw [Zxw L] at r;have c1:=u.c1;have E:=u.lt;obtain ⟨t,M⟩:=Xn (tK l (16*j));rw [M] at r ⊢;obtain ⟨n,m⟩:=Xn w.drew;have b:Below w.heap.size w n:=by rw [<- m];exact (Below.refl _ _).drew
 have D:=World.block_lt_of_cell? _ _ B;have y:=World.block_lt_of_cell? _ _ z;have U:=x.2 n t b;have X:=hid U;have o:=hid b;have aa:Zu l<=16384:=by unfold Zu;omega
 have ac:(j:Int)<(Zu l:Int):=by omega
 generalize Zu l=N at *;have R:=fun W (a:Kep (fun _=>True) w W)=>(a.cell D trivial 0).trans B;have V:=fun W (a:Kep (fun _=>True) w W)=>(a.cell y trivial 0).trans z;have O:=fun W (a:Kep (fun _=>True) w W)=>(a.cell E trivial 1).trans c1;have S:=fun W (a:Kep (fun _=>True) w W)=>(a.cell A trivial (off+j*2)).trans r;have p:Kep (fun _=>True) w n:=Za _ b;have c:=hid p;have F:=hid m;clear x B z u s i r b1 c1 M m b U p;go_enter func217,ntmps217;go_wp2_with fail;refine RK.ZaF (T:=fun _=>True) [(0,true),(1,true),(2,true),(3,true),(4,true),(5,true),(6,true),(7,true),(8,true),(9,false),(10,true),(11,true)] (by kernel_rfl) (by kernel_rfl) rfl (by kernel_rfl) (fun _ _ d _ _ h=>by cases d<;>exact h) ?_;simp only [RK.Zy,XF,XV,XZ,X4,XX];rw [F.out];have f1:=fun W (a:Kep (fun _=>True) n W)=>R W (c.out.trans a);have f2:=fun W (a:Kep (fun _=>True) n W)=>V W (c.out.trans a);have f3:=fun W (a:Kep (fun _=>True) n W)=>O W (c.out.trans a);have f4:=fun W (a:Kep (fun _=>True) n W)=>S W (c.out.trans a);clear R V O S;repeat ((first|(refine RK.take (by rfl) (by intro W a;go_simp;with_reducible rfl) ?_));simp only [Act.put,Xr,Xs,Xq])
 refine RK.alone (by rfl) (fun K J => ?_);go_simp;refine X.out.mono ?_;rintro e w1 ⟨rfl,f⟩;go_simp;refine J.out _ _ (Za _ f) ?_;clear J K;have G:=hid (o.out.trans (f.mono o.out.size));clear f X;repeat ((first|(refine RK.take (by rfl) (by intro W a;go_simp;with_reducible rfl) ?_));simp only [Act.put,Xr,Xs,Xq])
 refine RK.done ?_;go_wp2_with fail;go_ret;exact ⟨rfl,G.out⟩
theorem ZB9 (H:Nat) (U:Array Value) (q:Xu->Bool) (I R:Nat) (p:Option Addr) (n o:Nat) (l:List ZQ) (j:Nat) (w:World) (u:Zly H U q w) (B:w.cell? ⟨I,0,none⟩=some (.func (.func H) #[] U)) (s:w.cell? ⟨R,0,none⟩=some (.slice p n o))
  (x:ZN ZbT w (.slice p n o) l) (C:j<l.length) (Y:l.length<=262144):Calls prog 218 (#[.int .i64 (j:Int)]++#[.pointer (some ⟨I,0,none⟩),.pointer (some ⟨R,0,none⟩)]) w fun e w'=>e=.returned (.bool (!q (tK l j)))/\Below w.heap.size w w':=by
 have X:prog.follows .mixedOrders=true:=by kernel_rfl
 have eg:=u.1;obtain ⟨p',cap',M,D,Z,_⟩:=x.shape;simp only [Value.slice.injEq] at M;obtain ⟨rfl,rfl,rfl⟩:=M;obtain ⟨bb,off,rfl,y,_,r,xa,xb,V⟩:=Zdx x C;clear xa xb V;rw [<- ZkZ C] at r;obtain ⟨t,L⟩:=Xn (tK l j);rw [L] at r ⊢;obtain ⟨i,f⟩:=Xn w.drew;have a:Below w.heap.size w i:=by rw [<- f];exact (Below.refl _ _).drew
 have E:=World.block_lt_of_cell? _ _ B;have v:=World.block_lt_of_cell? _ _ s;have O:=hid (u.2 i t a);have m:=hid a;have A:(j:Int)<(l.length:Int):=by omega
 obtain ⟨N,S⟩:=Xn l.length;rw [S] at s Y D A;clear x C S;have c:Hid (Kep (fun _=>True) w i):=hid (Za _ a);have f1:=fun W (g:Kep (fun _=>True) i W)=>((c.out.trans g).cell E trivial 0).trans B;have z:=fun W (g:Kep (fun _=>True) i W)=>((c.out.trans g).cell v trivial 0).trans s;have f4:=fun W (g:Kep (fun _=>True) i W)=>((c.out.trans g).cell y trivial (off+j*4)).trans r;have F:=hid f;have HF:=hid (And.intro f1 (And.intro z f4));clear u B s r L f a f1 z f4;go_enter func218,ntmps218;go_wp2_with fail;refine RK.ZaF (T:=fun _=>True) [(0,true),(1,true),(2,true),(3,true),(4,true),(5,true),(6,false),(7,true),(8,true)] (by kernel_rfl) (by kernel_rfl) rfl (by kernel_rfl) (fun _ _ d _ _ h=>by cases d<;>exact h) ?_;simp only [RK.Zy,XF,XV,XZ,X4,XX];rw [F.out];obtain ⟨f1,z,f4⟩:=HF.out;repeat ((first|(refine RK.take (by rfl) (by intro W g;go_simp;with_reducible rfl) ?_));simp only [Act.put,Xr,Xs,Xq])
 refine RK.alone (by rfl) (fun K J => ?_);go_simp;refine O.out.mono ?_;rintro e w1 ⟨rfl,b⟩;go_simp;refine J.out _ _ (Za _ b) ?_;clear J K;have G:=hid (m.out.trans (b.mono m.out.size));clear b O;repeat ((first|(refine RK.take (by rfl) (by intro W g;go_simp;with_reducible rfl) ?_));simp only [Act.put,Xr,Xs,Xq])
 refine RK.done ?_;go_wp2_with fail;go_ret;exact ⟨rfl,G.out⟩
theorem Zv4 (p:Nat->Bool):Zc9 p 0 0:=⟨Xc _,fun h=>by omega,fun h=>by omega⟩
theorem Zv5 {l:List ZQ} {q:Xu->Bool} {r s:Nat} (n:Zc9 (fun j => !q (tK l (16*j))) (Zu l) r) (i:0<r) (g:Zc9 (fun k => !q (tK (ZB l (r - 1)) k)) (ZB l (r - 1)).length s):Zc9 (fun k => !q (tK l k)) l.length ((r - 1)*16+s):=by
 obtain ⟨a1,b,a3⟩:=n;obtain ⟨b1,f,c⟩:=g;have hs:=Zcg l (r - 1);have hN:Zu l=(l.length+15) / 16:=rfl;have b:=b i;dsimp only at b a3 f c ⊢
 have d:0<s:=by
  refine Nat.pos_of_ne_zero fun e => ?_;subst e;have h:=c (by omega);rw [Zjz (by omega),Xah,b] at h;cases h
 refine ⟨by omega,fun _ => ?_,fun m => ?_⟩
 ·have h:=f d;rw [Zjz (by omega)] at h;rw [show (r - 1)*16+s - 1=16*(r - 1)+(s - 1) by omega];exact h
 ·by_cases a:s<(ZB l (r - 1)).length
  ·have h:=c a;rw [Zjz a] at h;rw [show (r - 1)*16+s=16*(r - 1)+s by omega];exact h
  ·have h:=a3 (by omega);rw [show (r - 1)*16+s=16*r by omega];exact h
theorem Zs1 {l:List ZQ} {q:Xu->Bool} (b:Zc9 (fun j => !q (tK l (16*j))) (Zu l) 0):Zc9 (fun k => !q (tK l k)) l.length 0:=by
 obtain ⟨_,_,a3⟩:=b;exact ⟨by omega,fun h=>by omega,fun a=>a3 (by unfold Zu;omega)⟩
def Znr (l:List ZQ) (q:Xu->Bool) (w:World) (e:Ending) (w':World):Prop:=∃c:Nat,e=.returned (.int .i64 (c:Int))/\Zc9 (fun k => !q (tK l k)) l.length c/\Below w.heap.size w w'
theorem ZjO (p:Option Addr) (l:List ZQ) (H:Nat) (n:Array Value) (q:Xu->Bool) (w:World) (hp:Zdm (fun _=>True) w p l) (hq:Zly H n q w) (hw:∀x∈l,okW x) (hn:l.length<=262144) :
  Calls prog 175 #[.pointer p,.func (.func H) #[] n] w (Znr l q w):=by
 rcases hp with ⟨rfl,rfl⟩|⟨g,rfl,hD⟩
 ·have H0:=hid (show ∀w',Below w.heap.size w w'->Znr [] q w (.returned (.int .i64 0)) w' from fun w' hb=>⟨0,rfl,Zv4 _,hb⟩);have HB:Hid (Below w.heap.size w ((w.alloc (.cells #[.pointer none] 81)).alloc (.cells #[.func (.func H) #[] n] 50))):=hid (((Below.refl _ _).alloc (Xc _) _).alloc (by simp) _);clear hq;go_enter func175,ntmps175;go_wp2_with fail;go_ret;exact H0.out _ HB.out
 ·obtain ⟨R,hR⟩:=Xn w.heap.size;obtain ⟨I,d⟩:=Xn (w.alloc (.cells #[.pointer (some ⟨g,0,none⟩)] 81));obtain ⟨G,c⟩:=Xn (I.alloc (.cells #[.func (.func H) #[] n] 50));have aa:Below w.heap.size w I:=by rw [<- d];exact (Below.refl _ _).alloc (Xc _) _
  have ab:I.heap.size=R+1:=by rw [<- d,<- hR];simp
  have A:Below I.heap.size I G:=by rw [<- c];exact (Below.refl _ _).alloc (Xc _) _
  have aP:G.heap.size=R+2:=by rw [<- c];simp [ab]
  have x2:G.cell? ⟨R,0,none⟩=some (.pointer (some ⟨g,0,none⟩)):=by rw [A.cell (p:=⟨R,0,none⟩) (by show R<_;omega),<- d,<- hR,cell_of_row _ _ 0 _ _ _ (heap_alloc_new w _)];rfl
  have x3:G.cell? ⟨R+1,0,none⟩=some (.func (.func H) #[] n):=by rw [<- c,<- ab,cell_of_row _ _ 0 _ _ _ (heap_alloc_new I _)];rfl
  have y:=aa.trans (A.mono (by omega));have D:Zfr (fun _=>True) G g l:=hD.keep (Za _ y) fun _ _ h=>h;have B:=hq.below y;have ao:∀args W,(callFunc 217 args).run prog W=.ok (.enter 217 args) W:=enters_of func217 (by kernel_rfl) rfl;have ag:∀args W,(callFunc 218 args).run prog W=.ok (.enter 218 args) W:=enters_of func218 (by kernel_rfl) rfl;have aF:Zu l<=16384:=by unfold Zu;omega
  have HS:=hid (ZmZ 217 #[.pointer (some ⟨R+1,0,none⟩),.pointer (some ⟨R,0,none⟩)] (Zu l) (fun j => !q (tK l (16*j))) G ao (by omega)
   (fun W j hj u=>ZB8 H n q (R+1) R g l j W (B.below u) ((u.cell (p:=⟨R+1,0,none⟩) (by show R+1<_;omega)).trans x3) ((u.cell (p:=⟨R,0,none⟩) (by show R<_;omega)).trans x2) (D.keep (Za _ u) fun _ _ h=>h) hj hn))
  have ar:=hid B;have am:=hid D;have aj:=hid y;have ae:=hid d;have ah:=hid c;obtain ⟨v,t2,_,t3⟩:=D;obtain ⟨pb,aE,rfl,au,aK,_⟩:=t3.shape;rw [ZeG] at t2 au;have c1:=t2.c1;have X:=c1;rw [<- c,<- d] at X;have X2:=hid x2;have X3:=hid x3;clear d c aa A hD hq B y t2 t3 x3;go_enter func175,ntmps175;go_wp2_with fail;rw [ae.out,ah.out];go_wp2_with fail;refine HS.out.mono ?_;rintro e S ⟨r,rfl,hT,b⟩;have aL:=b.size;have L:=hid (aj.out.trans (b.mono (by omega)))
  by_cases C:r=0
  ·subst C;have HT:=hid (Zs1 hT);clear hT b HS;go_wp2_with fail;go_ret;exact ⟨0,rfl,HT.out,L.out⟩
  ·have q1:((r:Int) == 0)=false:=Xb;have aJ:r<=Zu l:=hT.1;have HT:=hid hT;obtain ⟨v1,t1,_,t3⟩:=am.out.keep (T:=fun _=>True) (Za _ b) fun _ _ h=>h;obtain ⟨aN,az,rfl,O,ax,_⟩:=t3.shape;rw [ZeG] at t3 t1 O;obtain ⟨bb,off,vb,rfl,aC,b0,b1,a⟩:=ZrG t3 (k:=r - 1) (by omega);have y2:S.cell? ⟨R,0,none⟩=some (.pointer (some ⟨g,0,none⟩)):=(b.cell (p:=⟨R,0,none⟩) (by show R<_;omega)).trans X2.out;have d1:=t1.c1;obtain ⟨J,hJ⟩:=Xn (r - 1);rw [hJ] at b0 b1 a;have aG:(r:Int) - 1=(J:Int):=by omega
   have aM:(J:Int)<(Zu l:Int):=by omega
   obtain ⟨Z,hZ⟩:∃Z:Nat,(r - 1)*16=Z:=⟨_,rfl⟩;have aw:(J:Int)*16=(Z:Int):=by omega
   have HZ:=hid hZ;have aQ:Z<=262144:=by omega
   clear hZ;have an:=Zcg l J;obtain ⟨FT,ac⟩:∃s:ByteArray,(⟨((ZB l J).headD Zo9).1.toArray⟩:ByteArray)=s:=⟨_,rfl⟩;rw [ac] at b0;have f:=hid (Zkp FT vb (ZB l J) S (Zlc hw J) (by omega) a);obtain ⟨pv,cv,rfl,_⟩:=a.shape;have Y3:Hid (S.cell? ⟨R+1,0,none⟩=some (.func (.func H) #[] n)):=hid ((b.cell (p:=⟨R+1,0,none⟩) (by show R+1<_;omega)).trans X3.out);have aq:=hid (ar.out.below b);have HJ:=hid hJ;have ak:=hid C;clear hT b HS ac t1 t3 a hJ C c1 X x2;go_wp2_with fail;refine f.out.mono ?_;rintro e z ⟨v2,rfl,E,m⟩;obtain ⟨p2,c2,rfl,aH,aI,_⟩:=E.any.shape;have av:=m.size;obtain ⟨N,i⟩:=Xn (z.alloc (.cells #[.slice p2 (ZB l J).length c2] 97));have t:Below z.heap.size z N:=by rw [<- i];exact (Below.refl _ _).alloc (Xc _) _
   have z1:N.cell? ⟨z.heap.size,0,none⟩=some (.slice p2 (ZB l J).length c2):=by rw [<- i,cell_of_row _ _ 0 _ _ _ (heap_alloc_new z _)];rfl
   have z2:N.cell? ⟨R+1,0,none⟩=some (.func (.func H) #[] n):=(t.cell (p:=⟨R+1,0,none⟩) (by show R+1<_;omega)).trans ((m.cell (p:=⟨R+1,0,none⟩) (by show R+1<_;omega)).trans Y3.out);have o:Below S.heap.size S N:=m.trans (t.mono av);have aD:=o.size;have ad:=ZN.below E.any t
   have V:=hid (ZmZ 218 #[.pointer (some ⟨R+1,0,none⟩),.pointer (some ⟨z.heap.size,0,none⟩)] (ZB l J).length (fun k => !q (tK (ZB l J) k)) N ag (by omega)
    (fun W j hj u=>ZB9 H n q (R+1) z.heap.size p2 _ c2 (ZB l J) j W ((aq.out.below o).below u) ((u.cell (p:=⟨R+1,0,none⟩) (by show R+1<_;omega)).trans z2) ((u.cell (p:=⟨z.heap.size,0,none⟩) (World.block_lt_of_cell? _ _ z1)).trans z1) (ad.below u) hj (by omega)))
   have ai:=hid (L.out.trans (o.mono (by omega)));have al:=hid i;have ap:Hid ((ZB l J).length<=16):=hid (by omega);clear E m i t z2 o ad f b0 b1 an;go_wp2_with fail;rw [al.out];go_wp2_with fail;refine V.out.mono ?_;rintro e w4 ⟨s,rfl,F,U⟩;have af:=hid (ai.out.trans (U.mono (by omega)));have aO:=F.1;have aB:=ap.out;obtain ⟨Y,hY⟩:∃Y:Nat,Z+s=Y:=⟨_,rfl⟩;have aA:(Z:Int)+(s:Int)=(Y:Int):=by omega
   have M:=hid (Zv5 HT.out (Nat.pos_of_ne_zero ak.out) (by rw [HJ.out];exact F));rw [HZ.out,hY] at M;have ay:Y<=300000:=by omega
   clear F U V hY;go_wp2_with fail;go_ret;exact ⟨Y,rfl,M.out,af.out⟩
open EM (Zj Za9 ZaD ZaC)
variable {c:Nat} {t u:Xu}
theorem Zoy:∀{l:List ZQ} {t:Xu},Za6 t l=true->∀{j:Nat},j<l.length->Zj t (tK l j)=true
 | [],_,_,j,h=>by simp at h
 | x::r,t,h,j,hj=>by
   rw [Za6,Xy] at h
   match j,hj with
   | 0,_=>simpa [tK] using h.1
   | j+1,hj =>
     have a:tK (x::r) (j+1)=tK r j:=by simp [tK]
     rw [a];exact ZaD h.1 (Zoy h.2 (by simpa using hj))
theorem Zjt:∀{l:List ZQ} {t:Xu},Za6 t l=true->∀{i j:Nat},i<j->j<l.length->Zj (tK l i) (tK l j)=true
 | [],_,_,i,j,_,h=>by simp at h
 | x::r,t,h,i,j,hij,hj=>by
   rw [Za6,Xy] at h;obtain ⟨j,rfl⟩:∃k,j=k+1:=⟨j - 1,by omega⟩;have a:j<r.length:=by simpa using hj
   have d:tK (x::r) (j+1)=tK r j:=by simp [tK]
   rw [d]
   match i,hij with
   | i+1,hij =>
     have b:tK (x::r) (i+1)=tK r i:=by simp [tK]
     rw [b];exact Zjt h.2 (by omega) a
   | 0,_ =>
     have b:tK (x::r) 0=x.1:=by simp [tK]
     rw [b];exact Zoy h.2 a
theorem ZeO:∀(p:ZQ->Bool) (l:List ZQ) (a b:Nat),(∀k (h:k<l.length),k<a->p l[k]=false)->(∀k (h:k<l.length),a<=k->k<b->p l[k]=true)->(∀k (h:k<l.length),b<=k->p l[k]=false)->l.filter p=(l.take b).drop a
 | p,[],a,b,_,_,_=>by simp
 | p,x::r,0,0,h1,h2,h3=>by
   have ih:=ZeO p r 0 0 (fun k h d=>by omega) (fun k h _ d=>by omega) (fun k h d=>h3 (k+1) (XaI h) (by omega));have e:p x=false:=h3 0 (by simp) (by omega);simp only [List.filter_cons,e,ih];simp
 | p,x::r,0,b+1,h1,h2,h3=>by
   have ih:=ZeO p r 0 b (fun k h d=>by omega) (fun k h _ d=>h2 (k+1) (XaI h) (by omega) (by omega)) (fun k h d=>h3 (k+1) (XaI h) (by omega));have e:p x=true:=h2 0 (by simp) (by omega) (by omega);simp only [List.filter_cons,e,ih];simp
 | p,x::r,a+1,0,h1,h2,h3=>by
   have ih:=ZeO p r a 0 (fun k h d=>h1 (k+1) (XaI h) (by omega)) (fun k h _ d=>by omega) (fun k h d=>h3 (k+1) (XaI h) (by omega));have e:p x=false:=h3 0 (by simp) (by omega);simp only [List.filter_cons,e,ih];simp
 | p,x::r,a+1,b+1,h1,h2,h3=>by
   have ih:=ZeO p r a b (fun k h d=>h1 (k+1) (XaI h) (by omega)) (fun k h f d=>h2 (k+1) (XaI h) (by omega) (by omega)) (fun k h d=>h3 (k+1) (XaI h) (by omega));have e:p x=false:=h1 0 (by simp) (by omega);simp only [List.filter_cons,e,ih];simp
def ZCK (q:Xu->Bool):Prop:=∀s t,Zj s t=true->q t=true->q s=true
theorem Zv2 {l:List ZQ} {q:Xu->Bool} (f:Za6 t l=true) (d:ZCK q) (h:Zc9 (fun k => !q (tK l k)) l.length c):(∀k,k<c->q (tK l k)=true)/\(∀k,c<=k->k<l.length->q (tK l k)=false):=by
 obtain ⟨h1,i,g⟩:=h;dsimp only at i g;refine ⟨fun k j => ?_,fun k j b => ?_⟩
 ·have a:q (tK l (c - 1))=true:=by simpa using i (by omega)
  by_cases e:k=c - 1
  ·rw [e];exact a
  ·exact d _ _ (Zjt f (show k<c - 1 by omega) (by omega)) a
 ·have a:q (tK l c)=false:=by simpa using g (by omega)
  by_cases e:k=c
  ·rw [e];exact a
  ·cases hq2:q (tK l k) with
   | false=>rfl
   | true =>
     have:=d _ _ (Zjt f (show c<k by omega) b) hq2;rw [a] at this;cases this
theorem Zur (u:Xu):ZCK fun t=>Zj t u:=fun s t a b=>ZaD a b
theorem ZkB {l:List ZQ} (d:Za6 t l=true) (h:Zc9 (fun k => !Zj (tK l k) u) l.length c):ZcU l u=c:=by
 obtain ⟨f,e⟩:=Zv2 d (Zur u) h;have hc:=h.1;unfold ZcU;rw [ZeO (fun x=>Zj x.1 u) l 0 c (fun k _ b=>by omega) (fun k b _ a=>by rw [<- ZkZ b];exact f k a) (fun k b a=>by rw [<- ZkZ b];exact e k a b),Xap,Xi];omega
theorem Zr6 {l:List ZQ} (g:Za6 t l=true):ZfL l u=match atD l (ZcU l u:Int) with
  | none=>none
  | some x=>if x.1=u then some x else none:=by
 have j:=Zn1 l u
 have f:∀k:Nat,atD l (k:Int)=l[k]? := fun k=>by
  unfold atD
  by_cases h:k<l.length
  ·rw [Xe ⟨by omega,by omega⟩,XT]
  ·rw [Xa (by omega),List.getElem?_eq_none (by omega)]
 rw [f]
 have b:∀k (a:k<l.length),l[k].1=u->ZcU l u=k:=fun k a d=>by
  refine ZkB g ⟨by omega,fun h0 => ?_,fun _ => ?_⟩
  ·have:=Zjt g (show k - 1<k by omega) a;rw [ZkZ a,d] at this;dsimp only;rw [this];rfl
  ·dsimp only;rw [ZkZ a,d,Za9];rfl
 cases hf:ZfL l u with
 | some x =>
   have m:=List.find?_some hf;have i:=List.mem_of_find?_eq_some hf;obtain ⟨k,a,rfl⟩:=Xbn i;have d:l[k].1=u:=by simpa using m
   rw [b k a d,XW a];simp [d]
 | none =>
   cases hg:l[ZcU l u]? with
   | none=>rfl
   | some x =>
     obtain ⟨a,rfl⟩:=Xal.1 hg;have:=List.find?_eq_none.1 hf l[ZcU l u] (XH a);have e:l[ZcU l u].1≠u:=by simpa using this
     simp [e]
open EM (Zj Zaq)
theorem Zmk {l:List ZQ} (h:Zb7 l=true):(∀x∈l,okW x)/\Za6 [] l=true/\l.length<=262144:=by
 unfold Zb7 at h;rw [Xy,Xg,ZhH] at h;exact ⟨h.2.1,h.2.2,h.1⟩
theorem ZCi (a:Nat) (t u:Xu) (w:World) (h:w.cell? ⟨a,0,none⟩=some (.string ⟨u.toArray⟩)):Calls prog 212 (#[.string ⟨t.toArray⟩]++#[.pointer (some ⟨a,0,none⟩)]) w fun e w'=>e=.returned (.bool (Zj t u))/\Below w.heap.size w w':=by
 have c:=Zaq t u;generalize Zj t u=b at *;go_enter func212,ntmps212;go_wp2_with fail;go_ret;exact ⟨rfl,Below.refl _ _⟩
theorem Zxt (R:Nat) (u:Xu) (w:World) (h:w.cell? ⟨R,0,none⟩=some (.string ⟨u.toArray⟩)):Zly 212 #[.pointer (some ⟨R,0,none⟩)] (fun t=>Zj t u) w :=
 ⟨enters_of func212 (by kernel_rfl) rfl,fun W t a=>ZCi R t u W ((a.cell (p:=⟨R,0,none⟩) (World.block_lt_of_cell? _ _ h)).trans h)⟩
theorem ZuI (p:Option Addr) (l:List ZQ) (u:Xu) (w:World) (n:Zdm (fun _=>True) w p l) (q:Zb7 l=true):Calls prog 166 #[.pointer p,.string ⟨u.toArray⟩] w fun e w'=>e=.returned (.int .i64 (ZcU l u:Int))/\Zc9 (fun k => !Zj (tK l k) u) l.length (ZcU l u)/\Below w.heap.size w w':=by
 obtain ⟨y,r,s⟩:=Zmk q;obtain ⟨R,v⟩:=Xn w.heap.size;obtain ⟨g,a⟩:=Xn (w.alloc (.cells #[.string ⟨u.toArray⟩] 9));have b:Below w.heap.size w g:=by rw [<- a];exact (Below.refl _ _).alloc (Xc _) _
 have j:g.cell? ⟨R,0,none⟩=some (.string ⟨u.toArray⟩):=by rw [<- a,<- v,cell_of_row _ _ 0 _ _ _ (heap_alloc_new w _)];rfl
 have m:=hid (ZjO p l 212 _ _ g (n.below b) (Zxt R u g j) y s);have d:=hid b;have h:=hid a;clear b a j n;go_enter func166,ntmps166;go_wp2_with fail;rw [h.out];go_wp2_with fail;refine m.out.mono ?_;rintro e w1 ⟨c,rfl,i,f⟩;have o:=ZkB r i;subst o;have x:=hid i;have t:=hid (d.out.trans (f.mono d.out.size));clear i f m;go_wp2_with fail;go_ret;exact ⟨rfl,x.out,t.out⟩
end DT
namespace GM
open EM (Tr Zs)
open PM (Zm)
open DM (ZQ)
open DT (ZfL)
theorem ZkN (r:Tr Zm) (rows:List (Tr Zm)):Zn (r::rows)=PM.ZV r.2++Zn rows:=by simp [Zn]
theorem ZjV:∀(rows:List (Tr Zm)) (off:Int) (u:Xu),(ZfL (Z9 off rows) u=none/\Zs rows u=[]) \/
  ∃(k:Nat) (b:k<rows.length),ZfL (Z9 off rows) u=some (u,(off+((Zn (rows.take k)).length:Int),(((PM.ZV rows[k].2).length:Int),(rows[k].2.length:Int))))/\Zs rows u=rows[k].2/\rows[k].1=u
 | [],off,u=>.inl ⟨rfl,rfl⟩
 | r::rows,off,u=>by
   by_cases h:r.1=u
   ·refine .inr ⟨0,by simp,?_,?_,h⟩
    ·unfold ZfL;rw [Z9,List.find?_cons];simp [h,Zn]
    ·rw [Zs,Xe h];rfl
   ·have e:ZfL (Z9 off (r::rows)) u=ZfL (Z9 (off+((PM.ZV r.2).length:Int)) rows) u:=by
     unfold ZfL;rw [Z9,List.find?_cons];simp [h]
    rw [e,Zs,Xa h];rcases ZjV rows (off+((PM.ZV r.2).length:Int)) u with a|⟨k,b,a,d,c⟩
    ·exact .inl a
    ·refine .inr ⟨k+1,by simpa using b,?_,d,c⟩;rw [a,Xaz,ZkN,Xd];simp only [Xbv,Xv,X8,true_and,and_true];omega
theorem ZkO {rows:List (Tr Zm)} {k:Nat} (a:k<rows.length):((Zn rows).drop (Zn (rows.take k)).length).take (PM.ZV rows[k].2).length=PM.ZV rows[k].2/\(Zn (rows.take k)).length+(PM.ZV rows[k].2).length<=(Zn rows).length:=by
 have e:Zn rows=Zn (rows.take k)++(PM.ZV rows[k].2++Zn (rows.drop (k+1))):=by
  rw [<- ZkN,<- X9 a];unfold Zn;rw [<- XaR,X6]
 constructor
 ·rw [e,Xau,Xbk]
 ·have h:=Xp List.length e;simp only [Xd] at h;omega
end GM
namespace DT
open RowKit MM DM
open EM (Zj Zaq)
def ZyC (u:Xu):Option ZQ->Option ZQ
 | none=>none
 | some x=>if x.1=u then some x else none
theorem ZAw (p:Option Addr) (l:List ZQ) (u:Xu) (w:World) (hp:Zdm (fun _=>True) w p l) (hl:Zb7 l=true):Calls prog 111 #[.pointer p,.string ⟨u.toArray⟩] w (Found (ZfL l u) w):=by
 obtain ⟨hw,hr,hn⟩:=Zmk hl;have f:ZfL l u=ZyC u (atD l (ZcU l u:Int)):=by rw [Zr6 hr];cases atD l (ZcU l u:Int)<;>rfl
 have J:=Zn1 l u;obtain ⟨R,hR⟩:=Xn w.heap.size;obtain ⟨I,t⟩:=Xn (w.alloc (.cells #[.string ⟨#[]⟩,.int .i64 0,.int .i64 0,.int .i64 0] 102));have G:Below w.heap.size w I:=by rw [<- t];exact (Below.refl _ _).alloc (Xc _) _
 have L:Hid (Za3 I R 102 (.string ⟨#[]⟩) (.int .i64 0) (.int .i64 0) (.int .i64 0)):=hid (by rw [<- t,<- hR];exact ZeS w 102 _ _ _ _);have ab:I.heap.size=R+1:=by rw [<- t,<- hR];simp
 have S:=hp.below G;have V:=hid (ZuI p l u I S hl);have A:=hid (fun W (hW:Below I.heap.size I W)=>ZB5 p l (ZcU l u:Int) W (S.below hW) hw hn (by omega) (by omega));have T:=hid G;have O:=hid t;obtain ⟨o,U⟩:=Xn (atD l (ZcU l u:Int));obtain ⟨c,hc⟩:=Xn (ZcU l u);rw [hc] at U f V A;rw [U] at f A;obtain ⟨F,D⟩:=Xn (ZfL l u);rw [D] at f ⊢;have d:=hid f;clear t G hp S f U hc J D;go_enter func111,ntmps111;go_wp2_with fail;rw [O.out];refine V.out.mono ?_;rintro e w1 ⟨rfl,_,r⟩;have aa:=r.size;have N:=hid (A.out w1 r);have y:=hid (L.out.below r (by omega));have v:=hid (T.out.trans (r.mono (by omega)));clear r A V L;go_wp2_with fail;refine N.out.mono ?_;rintro e n ⟨rfl,j⟩;have ac:=j.size;obtain ⟨q,hq⟩:=Xn n.heap.size;cases o with
 | none =>
   obtain rfl:F=none:=d.out;dsimp only [Option.getD_none,Option.isSome_none];clear d;have m:=y.out.below j (by omega);have i:Below n.heap.size n (n.alloc (.cells #[.string ⟨#[]⟩,.int .i64 0,.int .i64 0,.int .i64 0] 102)):=(Below.refl _ _).alloc (Xc _) _;have a:=m.below i (by omega);obtain ⟨m1,m2,m3,m4,⟨k1,k2⟩,⟨k3,k4⟩,k5,k6⟩:=a.all (.string ⟨#[]⟩) (.int .i64 0) (.int .i64 0);obtain ⟨n0,n1,n2,n3⟩:=a.cells;have Z:=hid a;have s:=hid (a.set (.string ⟨#[]⟩) (.int .i64 0) (.int .i64 0) (.int .i64 0));have h:=(v.out.trans (j.mono (by omega))).trans (i.mono (by omega));have Y:=hid h;have x:=hid (h.trans ((ZfR (g:=R) (w:=n.alloc (.cells #[.string ⟨#[]⟩,.int .i64 0,.int .i64 0,.int .i64 0] 102)) (.string ⟨#[]⟩) (.int .i64 0) (.int .i64 0) (.int .i64 0)).below (B:=w.heap.size) (by simp;omega) (fun b hb=>by omega)));unfold Zl6 Zo9;clear m i a h j N y v;go_wp2_with fail;refine bodyPost_ret (Zb4 (p:=4) (u:=5) rfl underlying102 rfl Zgh _ _ R _ _ _ _ rfl s.out) rfl ?_;exact ⟨rfl,x.out⟩
 | some X =>
   obtain ⟨k,C,E,H⟩:=X;dsimp only [Option.getD_some,Option.isSome_some];unfold Zl6;dsimp only;have m:=y.out.below j (by omega);have i:Below n.heap.size n (n.alloc (.cells #[.string ⟨k.toArray⟩,.int .i64 C,.int .i64 E,.int .i64 H] 102)):=(Below.refl _ _).alloc (Xc _) _;have a:=m.below i (by omega);have z:=ZeS n 102 (.string ⟨k.toArray⟩) (.int .i64 C) (.int .i64 E) (.int .i64 H);rw [hq] at z;obtain ⟨n0,n1,n2,n3⟩:=a.cells;obtain ⟨e0,e1,e2,e3⟩:=z.cells;have h:=(v.out.trans (j.mono (by omega))).trans (i.mono (by omega));have Y:=hid h;have Z:=hid a
   by_cases M:k=u
   ·have t0:(k == u)=true:=by rw [M];simp
    obtain ⟨m1,m2,m3,m4,⟨k1,k2⟩,⟨k3,k4⟩,k5,k6⟩:=a.all (.string ⟨k.toArray⟩) (.int .i64 C) (.int .i64 E);have s:=hid (a.set (.string ⟨k.toArray⟩) (.int .i64 C) (.int .i64 E) (.int .i64 H));have x:=hid (h.trans ((ZfR (g:=R) (w:=n.alloc (.cells #[.string ⟨k.toArray⟩,.int .i64 C,.int .i64 E,.int .i64 H] 102)) (.string ⟨k.toArray⟩) (.int .i64 C) (.int .i64 E) (.int .i64 H)).below (B:=w.heap.size) (by simp;omega) (fun b hb=>by omega)));subst M;have t0:(k == k)=true:=by simp
    obtain rfl:F=some (k,C,E,H):=by have:=d.out;unfold ZyC at this;dsimp only at this;rw [Xe rfl] at this;exact this
    clear m i a z h j N y v d;go_wp2_with fail;refine bodyPost_ret (Zb4 (p:=4) (u:=5) rfl underlying102 rfl Zgh _ _ R _ _ _ _ rfl s.out) rfl ?_;exact ⟨rfl,x.out⟩
   ·have t0:(k == u)=false:=by rw [Xab];exact M
    obtain ⟨m1,m2,m3,m4,⟨k1,k2⟩,⟨k3,k4⟩,k5,k6⟩:=a.all (.string ⟨#[]⟩) (.int .i64 0) (.int .i64 0);have s:=hid (a.set (.string ⟨#[]⟩) (.int .i64 0) (.int .i64 0) (.int .i64 0));have x:=hid (h.trans ((ZfR (g:=R) (w:=n.alloc (.cells #[.string ⟨k.toArray⟩,.int .i64 C,.int .i64 E,.int .i64 H] 102)) (.string ⟨#[]⟩) (.int .i64 0) (.int .i64 0) (.int .i64 0)).below (B:=w.heap.size) (by simp;omega) (fun b hb=>by omega)));obtain rfl:F=none:=by have:=d.out;unfold ZyC at this;dsimp only at this;rw [Xa M] at this;exact this
    clear m i a z h j N y v d M;go_wp2_with fail;refine bodyPost_ret (Zb4 (p:=4) (u:=5) rfl underlying102 rfl Zgh _ _ R _ _ _ _ rfl s.out) rfl ?_;exact ⟨rfl,x.out⟩
end DT
namespace SG
open RowKit MM
open EM (Tr)
open DM (ZQ Zb7 ZgU)
open DT (Zdm ZbT Zdx)
open PM (Zm)
open GM (Z9)
open EV (ZA Z8 Zad)
open SM (Zo)
