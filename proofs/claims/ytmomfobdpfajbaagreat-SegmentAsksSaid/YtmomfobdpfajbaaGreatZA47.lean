import Derived.Lib.ConvBytes
import Derived.Test.YtmomfobdpfajbaaGreatZA22
import Derived.Test.YtmomfobdpfajbaaGreatZA44
set_option maxRecDepth 100000
set_option maxHeartbeats 0
set_option linter.unusedVariables false
set_option linter.unusedSimpArgs false
namespace Go.Proofs.YtmomfobdpfajbaaGreat
open Tryz
namespace MM
open RowKit
theorem Zxs (w:World) (l:Xu) (h:l.length<=1000000000000) :
  ∃g W,(convert 9 23 (.string ⟨l.toArray⟩)).run prog w=.ok (.slice (some ⟨w.heap.size,0,none⟩) l.length g) W/\ZB cU8 (fun b=>b=w.heap.size) W (.slice (some ⟨w.heap.size,0,none⟩) l.length g) l/\Below w.heap.size w W/\W.heap.size=w.heap.size+1/\∃m fr,W.heap[w.heap.size]? = some (.cells m 5 fr):=by
 have f:(⟨l.toArray⟩:ByteArray).size=l.length:=by rw [Lib.size_eq]
 have n:=grownCap_ge w l.length 0 5;have o:=grownCap_le_maxLen w l.length 0 5 (by unfold maxLen;omega);have a:=Lib.run_convert_string_bytes w 9 23 5 ⟨l.toArray⟩ underlying9 underlying23 underlying5;rw [f] at a;refine ⟨_,_,a,?_,⟨rfl,rfl,rfl,by rw [Lib.bytesWorld_size];omega,fun k p=>Lib.bytesWorld_at_old w 5 _ k p⟩,Lib.bytesWorld_size _ _ _,_,_,Lib.bytesWorld_at_new _ _ _⟩;refine ⟨some ⟨w.heap.size,0,none⟩,_,l.map fun c=>[.int .u8 (c.toNat:Int)],rfl,n,o,fun h=>(Option.some_ne_none _ h).elim,⟨by simp,fun i hi q=>by simp [cU8,Zp9]⟩,.inr ⟨w.heap.size,0,rfl,by rw [Lib.bytesWorld_size];omega,rfl,fun j u e => ?_⟩⟩;rw [Zc8] at e;have d:j<l.length:=by have:=(Xak.1 e).1;simpa using this
 rw [XL,Lib.bytesWorld_cell w 5 ⟨l.toArray⟩ j (by rw [f];exact d)];rw [Xa1,XZ d] at e;simp at e;rw [<- e];simp [d]
end MM
namespace DT
open RowKit MM DM VM
variable {f n a B R0 R1:Nat} {t L:Xu} {o:Bool} {w:World} {u:Value}
theorem ZDb:Elem ZuI prog 168 176 40:=⟨underlying168,by
 have h:(prog.info? 176).map (fun i=>(i.zero,i.size,i.bytes))=some (some (.agg #[.string ⟨#[]⟩,.slice none 0 0]),2,40):=by kernel_rfl
 obtain ⟨i,b,e,d,c⟩:=info_parts h;exact ⟨i,_,b,e,d,c,rfl⟩⟩
theorem Zqg {b:List (List ZN)} (h:a<n) (hf:0<f):ZaA f n a t b L o =
  if ZlI n a t (ZaM 16 [] [] (Z6 L.length L o).1 false)=true then ZaA (f - 1) n (a+16) (ZcJ t (ZaM 16 [] [] (Z6 L.length L o).1 false).1) (b++[(ZaM 16 [] [] (Z6 L.length L o).1 false).1]) (Z6 L.length L o).2.1 (Z6 L.length L o).2.2 else none:=by
 obtain ⟨f,rfl⟩:∃g,f=g+1:=⟨f - 1,by omega⟩;rw [ZaA,Xe h];rfl
theorem Zsi {b:List (List ZN)} (h:¬a<n):ZaA f n a t b L o=some (b,L,o):=by
 cases f with
 | zero=>rfl
 | succ f=>rw [ZaA,Xc h]
def ZAQ (n:Nat):Option (List (List ZN)×Xu×Bool)->Option (Nat×List (List ZN))
 | none=>none
 | some (cs,l,o)=>if o=true\/l≠[] then none else some (n,cs)
theorem ZsV (b:Xu):Zhg b=ZAQ (Ze 262144 b false).1 (ZaA 16384 (Ze 262144 b false).1 0 [] [] (Ze 262144 b false).2.1 (Ze 262144 b false).2.2):=by
 unfold Zhg ZAQ
 split<;>rename_i h<;>rw [h]
theorem last_at {l:List ZN} {m:Nat} (b:l.length=m) (h:0<m):ZcJ t l=(l[m - 1]'(by omega)).1:=by
 subst b;unfold ZcJ;rw [List.getLast?_eq_getElem?,XZ (by omega)];rfl
theorem ZzQ (m:Int) (l:Xu) (o:Bool):(Z6 m l o).2.1.length<=l.length:=by
 unfold Z6 VG.Zei;dsimp only
 split
 ·rw [Xp];omega
 ·simp
theorem Zci (m:Nat) (l:Xu) (o:Bool):(Ze m l o).2.1.length<=l.length:=by
 unfold Ze VG.Zau
 split
 ·dsimp only
  split
  ·rw [Xp];omega
  ·simp
 ·simp
def Opn (B R0 R1:Nat) (w:World) (u:Value) (d:List Blk):Prop :=
 ∃S:Nat->Prop,(∀b,S b->b<w.heap.size/\B<=b/\b≠R0/\b≠R1/\∃c fr,w.heap[b]? = some (.cells c 5 fr))/\ZC ZuI 176 B S w u d/\∀g,u.ownBlock=some g->g≠R0/\g≠R1
theorem Opn.keep {T:Nat->Prop} {w':World} {m:List Blk} (h:Opn B R0 R1 w u m) (i:Kep T w w') (j:∀b,B<=b->b≠R0->b≠R1->T b):Opn B R0 R1 w' u m:=by
 obtain ⟨S,d,r,k⟩:=h;refine ⟨S,fun b c => ?_,r.keep i (fun b _ c=>j b (d b c).2.1 (d b c).2.2.1 (d b c).2.2.2.1) (fun g l=>j g (r.cells l).1 (k g l).1 (k g l).2),k⟩;obtain ⟨p,q,a3,a4,e,fr,a5⟩:=d b c;exact ⟨XJ p i.size,q,a3,a4,e,fr,(i.block b p (j b q a3 a4)).trans a5⟩
theorem Opn.ron {c:List Blk} (h:Opn B R0 R1 w u c):ZB ZuI (fun b=>B<=b) w u c:=by
 obtain ⟨S,e,d,h3⟩:=h;exact d.ron (fun g j=>(d.cells j).1) (fun b _ i=>(e b i).2.1)
def Zw1 (o:Option (List ZN)) (w:World) (e:Ending) (w':World):Prop :=
 ∃p,e=.returned (.tuple #[.pointer p,.int .i64 (if o.isSome then 0 else 110)])/\(o=none->p=none)/\(∀l,o=some l->∃g,p=some ⟨g,0,none⟩/\Zfm (fun b=>w.heap.size<=b) w' g l)/\Below w.heap.size w w'
theorem ZmE (v:Value) (bs:Xu) (w:World) (hr:Zv w v bs) (cJ:bs.length<=1000000000000):Calls prog 51 #[v] w (Zw1 (Znl bs) w):=by
 have cw:prog.follows .mixedOrders=true:=by kernel_rfl
 obtain ⟨R,hR⟩:=Xn w.heap.size;obtain ⟨p0,c0,rfl,_⟩:=hr.shape;obtain ⟨wa,ak⟩:=Xn (w.alloc (.cells #[.slice p0 bs.length c0,.bool false] 166));have aW:Below w.heap.size w wa:=by rw [<- ak];exact (Below.refl _ _).alloc (Xa _) _
 have c4:wa.heap.size=R+1:=by rw [<- ak,<- hR];simp
 have b4:Rd w.heap.size wa R bs false:=by
  refine ⟨.slice p0 bs.length c0,?_,BIn.below hr aW⟩;rw [<- ak,<- hR];exact heap_alloc_new _ _
 have Y:=Y4 (ZaQ w.heap.size R 262144 bs false wa (by omega) b4 (by omega));have bk:=ZbS 262144 bs false;have bi:=Zci 262144 bs false;have ac:=ZsV bs;rw [ZyY] at ac;obtain ⟨⟨n,L0,o0⟩,hn⟩:∃s,Ze 262144 bs false=s:=⟨_,rfl⟩;rw [hn] at Y bk ac bi;dsimp only at Y bk ac bi;obtain ⟨D,hD⟩:=Xn (Znl bs);rw [hD] at ac ⊢;have bu:Y5 (∀f,ZaA 16384 n 0 [] [] L0 o0=f->D.map (fun l=>(l.length,ZG l))=ZAQ n f):=Y4 (fun f hf=>by rw [ac,hf]);obtain ⟨al,an⟩:=Xn (ZaA 16384 n 0 [] [] L0 o0);have p:=Y4 (bu.z al an);have bq:Y5 (ZaA (16384 - 0) n (16*0) [] [] L0 o0=al):=Y4 an;have bG:=Y4 aW;have bL:=Y4 ak;have aF:=Y4 (fun (L:Xu) o W (h:Rd w.heap.size W R L o) (hl:(L.length:Int)<=9223372036854775807)=>Zhw w.heap.size R (L.length:Int) L o W (by omega) hl h (by omega));clear ak aW b4 hn ac hD an bu hr;go_enter func51,ntmps51;go_wp2_with fail;rw [bL.z];refine Y.z.mono ?_;rintro e w1 ⟨rfl,h1,k1⟩;have ch:=k1.size;obtain ⟨R1,cn⟩:=Xn w1.heap.size;obtain ⟨w2,ar⟩:=Xn (w1.alloc (.cells #[.int .i64 (n:Int),.slice none 0 0] 170));have aO:Below w1.heap.size w1 w2:=by rw [<- ar];exact (Below.refl _ _).alloc (Xa _) _
 have aC:Y5 (Rd w.heap.size w2 R L0 o0):=Y4 (h1.keep (S:=fun _=>True) (Za _ aO) trivial (fun _ _=>trivial) (by omega));have aY:Y5 (Two w2 R1 170 (.int .i64 (n:Int)) (.slice none 0 0)):=Y4 (by rw [<- ar,<- cn];exact ZgA w1 170 _ _);have bX:Y5 (Opn w.heap.size R R1 w2 (.slice none 0 0) (([]:List (List ZN)).map ZeE)):=Y4 ⟨fun _=>False,fun _ h=>h.elim,ZC.nil_ _ _ _ _,fun g hg=>by cases hg⟩;have bP:Y5 (Below w.heap.size w w2):=Y4 ((bG.z.trans (k1.below (B:=w.heap.size) (by omega) (fun b hb=>by omega))).trans (aO.mono (by omega)));have cB:Y5 (R1<w2.heap.size):=Y4 aY.z.lt;have cQ:R<R1:=by omega
 have bY:=Y4 ar;clear ar aO h1 k1 Y bG bL ch;go_wp2_with fail;rw [bY.z]
 go_loopw [6,7] (fun tv av wr=>∃(j:Nat) (t L:Xu) (o:Bool) (cs:List (List ZN)) (u:Value),tv=.string ⟨t.toArray⟩/\av=.int .i64 ((16*j:Nat):Int)/\j<=16384/\cs.length=j/\L.length<=1000000000000/\Y5 (ZaA (16384 - j) n (16*j) t cs L o=al)/\Y5 (Rd w.heap.size wr R L o)/\Y5 (Two wr R1 170 (.int .i64 (n:Int)) u)/\Y5 (Opn w.heap.size R R1 wr u (cs.map ZeE))/\Y5 (Below w.heap.size w wr)) (fun _ av _=>n+16 - (intOf av).toNat)
 case atStart=>exact ⟨0,[],L0,o0,[],_,rfl,rfl,by omega,rfl,by omega,bq,aC,aY,bX,bP⟩
 case round =>
  obtain ⟨j,t,L,o,cs,u,rfl,rfl,hj,aN,cY,HF,U,HT,HO,HB⟩:=hrel;clear bq aC aY bX bP cB bY;obtain ⟨a,ha⟩:=Xn (16*j);rw [ha] at HF ⊢;have t0:=HT.z.c0
  by_cases bM:a<n
  ·have q1:decide ((a:Int)<(n:Int))=true:=Xt;have q2:decide (a<n)=true:=Xt;obtain ⟨vL,G,O⟩:=U.z;obtain ⟨pL,cL,rfl,ct,bp⟩:=O.shape;unfold maxLen at bp;have f0:wr.cell? ⟨R,0,none⟩=some (.slice pL L.length cL):=by rw [cell_of_row wr R 0 _ _ _ G];rfl
   have i:=HF.z;rw [Zqg bM (by omega)] at i;have au:=aF.z L o wr U.z (by omega);have bT:=ZpL (L.length:Int) L o;have bh:=ZzQ (L.length:Int) L o;obtain ⟨⟨s1,L1,o1⟩,az⟩:∃s,Z6 (L.length:Int) L o=s:=⟨_,rfl⟩;rw [az] at i au bT bh;dsimp only at i au bT bh;obtain ⟨E,hE⟩:=Xn (ZaM 16 [] [] s1 false);rw [hE] at i;have bx:=Y4 i;have bV:=Y4 au;have HE:=Y4 hE;clear i au az hE G O HF U;go_wp2_with fail;refine bV.z.mono ?_;rintro e w3 ⟨rfl,h3,k3⟩;have cP:=k3.size;have cI:=HT.z.lt;obtain ⟨q,hq⟩:=Xn w3.heap.size;obtain ⟨aH,w4,be,y,am,bg,cG,cR,z⟩:=Zxs w3 s1 (by omega);rw [hq] at be y bg z;have a8:Below w.heap.size w w3:=HB.z.trans (k3.below (B:=w.heap.size) (by have:=HB.z.size;omega) (fun b hb=>by omega));have cy:w.heap.size<=q:=by have:=a8.size;omega
   have aB:Rd w.heap.size w4 R L1 o1:=h3.keep (S:=fun _=>True) (Za _ am) trivial (fun _ _=>trivial) (by omega);have aU:Two w4 R1 170 (.int .i64 (n:Int)) u:=(HT.z.keep k3 (by omega)).below am (by omega);have bK:Opn w.heap.size R R1 w4 u (cs.map ZeE):=(HO.z.keep k3 (fun b _ h _=>h)).keep (Za (fun _=>True) am) (fun _ _ _ _=>trivial);have bj:Below w.heap.size w w4:=a8.trans (am.mono (by omega));have ah:=Zl6 w4.heap.size _ s1 w4 (ZnK y.any) (Xa _);rw [HE.z] at ah;have aM:=Y4 ah;have aG:=Y4 aB;have a9:=Y4 aU;have bA:=aU.lt;have aS:=Y4 bK;have aq:=Y4 bj;have bW:=Y4 y;have bF:=Y4 z;clear ah aB aU bK bj a8 y z h3 k3 am HT HO HB bV aF t0 f0;go_wp2_with fail;refine aM.z.mono ?_;rintro e w5 ⟨v5,rfl,ai,F⟩;have cp:=F.size
   obtain ⟨aE,aZ,b0,bt,bH⟩:Rd w.heap.size w5 R L1 o1/\Two w5 R1 170 (.int .i64 (n:Int)) u/\Opn w.heap.size R R1 w5 u (cs.map ZeE)/\Below w.heap.size w w5/\ZB cU8 (fun b=>b=q) w5 (.slice (some ⟨q,0,none⟩) s1.length aH) s1 :=
    ⟨aG.z.keep (S:=fun _=>True) (Za _ F) trivial (fun _ _=>trivial) (by have:=aq.z.size;omega),a9.z.below F a9.z.lt,aS.z.keep (Za (fun _=>True) F) (fun _ _ _ _=>trivial),aq.z.trans (F.mono aq.z.size),bW.z.keep (Za _ F) (fun _ _ h=>h)⟩
   have bw:=(F.block q (by omega)).trans bF.z;obtain ⟨p5,c5,rfl,cT,c6,_⟩:=ai.any.shape;have bS:=Y4 (ai.ron (T:=fun b=>w4.heap.size<=b) (fun g hg=>(ai.cells hg).1) (fun b _ h=>h.elim))
   have ax:Y5 (∀g,u.ownBlock=some g->w.heap.size<=g/\g<w4.heap.size/\g≠R/\g≠R1):=Y4 (fun g hg=>by
    obtain ⟨S,h1,h2,h3⟩:=aS.z;exact ⟨(h2.cells hg).1,(h2.cells hg).2.1,h3 g hg⟩)
   have cS:Y5 (w4.heap.size=q+1):=Y4 bg;have H:=Y4 (ZdH _ E.1 t w5 ai.any);have t5:=aZ.c0;have aJ:=Y4 aE;have bd:=Y4 aZ;have bI:=Y4 b0;have A:=Y4 bt;have bl:=Y4 bH;have aX:=Y4 bw;obtain ⟨m,hm⟩:=Xn (min 16 (n - a));have cz:(n:Int) - (a:Int)=((n - a:Nat):Int):=by omega
   have cb:min (16:Int) ((n:Int) - (a:Int))=(m:Int):=by omega
   have cj:min (16:Int) ((n - a:Nat):Int)=(m:Int):=by omega
   have ce:(if n - a<16 then ((n - a:Nat):Int) else 16)=(m:Int):=by split<;>omega
   have Z:ZlI n a t E=(!E.2.2&&(decide (E.2.1=[])&&(decide (E.1.length=m)&&Za2 t E.1))):=by unfold ZlI;rw [hm]
   obtain ⟨cg,X⟩:=Xn ((!E.2.2&&decide (E.2.1=[])));rw [<- Xbj,X] at Z;have co:=Y4 X;obtain ⟨cD,aI⟩:=Xn (Za2 t E.1);rw [aI] at Z H;have i:=bx.z;rw [Z] at i;have V:=Y4 i;rw [X];have cc:Y5 (0<m/\m<=16/\min 16 (n - a)=m):=Y4 (by omega)
   have M:Y5 (al=none->D=none):=Y4 (fun h=>by
    have:=p.z;rw [h] at this;cases D with
    | none=>rfl
    | some l=>cases this)
   clear aE aZ b0 bt bH bw ai F aG a9 aS aq bW bF aM hm Z X aI i bx cp;cases cg with
   | false =>
     have hf:=V.z;rw [Xab,Xc (by simp)] at hf;obtain rfl:=M.z hf.symm;clear hf V p M;go_wp2_with fail;go_ret2;exact ⟨none,rfl,fun _=>rfl,fun l h=>(by cases h),A.z⟩
   | true =>
     by_cases ad:E.1.length=m
     ·have z1:(((E.1.length:Int)) != (m:Int))=false:=by simp [ad]
      cases cD with
      | false =>
        have hf:=V.z;rw [Xa5,Xa5,Xc (by simp)] at hf;obtain rfl:=M.z hf.symm;clear hf V p M ad;go_wp2_with fail;refine H.z.mono ?_;rintro e w6 ⟨rfl,ae⟩;have cr:=Y4 (A.z.trans (ae.mono A.z.size));clear ae H A;go_wp2_with fail;go_ret2;exact ⟨none,rfl,fun _=>rfl,fun l h=>(by cases h),cr.z⟩
      | true =>
        have cv:=Y4 ad;clear ad M;go_wp2_with fail;refine H.z.mono ?_;rintro e w6 ⟨rfl,ae⟩;have cO:=ae.size;have cV:=cc.z;have ay:=cv.z;have hf:=V.z;rw [Xs ay,Xac,Xac,Xe rfl] at hf;obtain ⟨b1,bm⟩:E.2.2=false/\E.2.1=[]:=by have:=co.z;simpa using this
        obtain ⟨_,mE,e1,e2,_,_⟩:=ZjW 16 [] [] s1 false (by simp) (by rw [HE.z];exact bm) (by rw [HE.z];exact b1);rw [HE.z,XE] at e1;rw [<- e1] at e2
        have ao:ZeE E.1=(E.1[0].1,s1):=by
         unfold ZeE;rw [e2];congr 2
         obtain ⟨c,J⟩:=Xn E.1;simp only [J] at ay ⊢;cases c with
         | nil=>simp at ay;omega
         | cons x r=>rfl
        have af:ZcJ t E.1=(E.1[m - 1]'(by omega)).1:=last_at ay (by omega);rw [af] at hf;have b2:=Y4 hf;obtain ⟨wd,aT⟩:=Xn w6.drew;have C:Below w5.heap.size w5 wd:=by rw [<- aT];exact ae.drew
        have cW:=C.size;have ab:=Y4 (aJ.z.keep (S:=fun _=>True) (Za _ C) trivial (fun _ _=>trivial) (by have:=A.z.size;omega));have t7:=bd.z.below C bd.z.lt;have bJ:=Y4 t7;have bZ:=Y4 (bI.z.keep (Za (fun _=>True) C) (fun _ _ _ _=>trivial));have a0:=Y4 (A.z.trans (C.mono A.z.size));have bB:=Y4 (bl.z.keep (Za _ C) (fun _ _ h=>h));have a6:=Y4 ((C.block q (by have:=(Xq.1 aX.z).1;omega)).trans aX.z);have a7:=ZB.keep bS.z (Za _ C) (fun _ _ h=>h);obtain ⟨b5,aa,rfl,aA,cH,x0,_⟩:=ZcU a7 (k:=0) (by omega);obtain ⟨cN,cF,aK,_,_,x1,_⟩:=ZcU a7 (k:=m - 1) (by omega);simp only [Xx,Addr.mk.injEq,and_true] at aK;obtain ⟨rfl,rfl⟩:=aK;rw [Nat.zero_mul,Xad] at x0;obtain ⟨X0,bf⟩:=Xn (E.1[0].1);obtain ⟨X1,bO⟩:=Xn ((E.1[m - 1]'(by omega)).1);rw [bf] at x0 ao;rw [bO] at x1 b2;have cA:=Y4 ao;obtain ⟨K,hK⟩:=Xn (m - 1);rw [hK] at x1;have cM:(m:Int) - 1=(K:Int):=by omega
        have bv:Y5 (wd.cell? ⟨b5,aa+K*4,none⟩=some (.string ⟨X1.toArray⟩)):=Y4 x1;have cd:Y5 (Two wd R1 170 (.int .i64 (n:Int)) u):=bJ;obtain ⟨NE,cC⟩:=Xn E.1.length;have bQ:NE=m:=by omega
        subst bQ;rw [cC];have aD:u.ownBlock≠some b5:=fun e=>by have:=(ax.z _ e).2.1;omega
        have aL:u.ownBlock≠some R1:=fun e=>(ax.z _ e).2.2.2 rfl;have bb:b5≠R1:=fun e=>by have:=bA;omega
        have f1:=fun W (hW:Kep (fun b=>u.ownBlock≠some b) wd W)=>(hW.cell t7.lt aL 1).trans t7.c1;have f2:=fun W (hW:Kep (fun b=>u.ownBlock≠some b) wd W)=>(hW.cell aA aD aa).trans x0;have b6:=Y4 aT;clear aT C ae a7 x0 x1 ao bf bO af hf e1 e2 t5 aJ bd bI A bl aX H bS hK b1 bm;go_wp2_with fail;refine RS.Zal (T:=fun b=>u.ownBlock≠some b) [(0,true),(1,true),(2,true),(3,true),(4,true),(5,true),(6,true),(7,true),(8,true),(9,true),(10,true),(11,false),(12,false),(13,true),(14,true)] cw (by kernel_rfl) (fun _ _ d _ _ h=>by cases d<;>exact h) ?_;simp only [RS.Zt,XC,XN,XU,XV,XS];rw [b6.z];repeat (refine RS.take (by rfl) (by intro W hW;go_simp;with_reducible rfl) ?_;simp only [Act.put,Xm,Xo,Xl])
        refine RS.alone (by rfl) (fun K hK => ?_);go_simp;refine hK.z _ _ (Zu _ _ _) ?_;clear hK K;refine RS.alone (by rfl) (fun K hK => ?_);obtain ⟨S,bR,ba,ca⟩:=bZ.z;have b8:q<wd.heap.size:=(Xq.1 a6.z).1
        have aP:∀b,(S b\/b=q)->b<wd.heap.size/\w.heap.size<=b/\b≠R/\b≠R1/\∃aj fr,wd.heap[b]? = some (.cells aj 5 fr):=fun b hb=>by
         rcases hb with hb|rfl
         ·exact bR b hb
         ·exact ⟨b8,cy,by omega,by omega,_,_,a6.z⟩
        have hO:=ba.weak (T:=fun b=>S b\/b=q) fun b _ h=>.inl h;have aV:w.heap.size<=wd.heap.size:=a0.z.size
        refine ZgB ZDb _ _ rfl w.heap.size u (cs.map ZeE) wd [.string ⟨X0.toArray⟩,.slice (some ⟨q,0,none⟩) s1.length aH] (X0,s1) rfl rfl hO (fun b _ hb=>.inr fun aj fr J=>by
          obtain ⟨_,_,_,_,b3,ci,I⟩:=aP b hb;rw [J] at I;simp only [Xx,Obj.cells.injEq] at I;exact absurd I.2.1 (by decide)) (Zxf.2 ⟨_,rfl,bB.z.weak fun b _ h=>.inr h⟩) rfl (by rw [XF,aN];unfold maxLen;omega) (by rw [XF,aN];omega) aV ?_
        intro v8 w8 aQ bz bc b7;obtain ⟨g8,c8,rfl⟩:=b7;refine hK.z _ _ bc ?_;clear hK K;have N:Kep (fun b=>u.ownBlock≠some b) wd w8:=(Zu _ _ _).trans bc;have cK:=N.size;have bE:u.ownBlock≠some R:=fun e=>(ax.z _ e).2.2.1 rfl;have cl:R<wd.heap.size:=ab.z.lt;have T8:Two w8 R1 170 (.int .i64 (n:Int)) u:=(N.block R1 t7.lt aL).trans t7
        have bn:∃vv,w8.heap[R]? = some (.cells #[vv,.bool o1] 166 (0,0)):=by
         obtain ⟨vv,h1,_⟩:=ab.z;exact ⟨vv,(N.block R cl bE).trans h1⟩
        have b9:g8≠R/\g8≠R1:=by
         obtain ⟨_,_,aj,fr,J⟩:=aQ.cells (g:=g8) rfl;refine ⟨fun e => ?_,fun e => ?_⟩
         ·obtain ⟨vv,I⟩:=bn;rw [e,I] at J;simp only [Xx,Obj.cells.injEq] at J;exact absurd J.2.1 (by decide)
         ·rw [e] at J;have I:=T8;unfold Two at I;rw [I] at J;simp only [Xx,Obj.cells.injEq] at J;exact absurd J.2.1 (by decide)
        have aw:Opn w.heap.size R R1 w8 (.slice (some ⟨g8,0,none⟩) ((cs.map ZeE).length+1) c8) ((cs.map ZeE)++[(X0,s1)]):=⟨fun b=>S b\/b=q,fun b hb=>by
          obtain ⟨a1,a2,a3,a4,aj,fr,a5⟩:=aP b hb
          have cf:u.ownBlock≠some b:=fun e=>by
           obtain ⟨_,_,b3,ci,J⟩:=ba.cells e;rw [a5] at J;simp only [Xx,Obj.cells.injEq] at J;exact absurd J.2.1 (by decide)
          exact ⟨by omega,a2,a3,a4,aj,fr,(N.block b a1 cf).trans a5⟩,aQ,fun g hg=>by cases hg;exact b9⟩
        have bC:Rd w.heap.size w8 R L1 o1:=ab.z.keep N bE (fun k hk e=>by have:=(ax.z k e).1;omega) (by omega);have x8:w8.cell? ⟨b5,aa+K*4,none⟩=some (.string ⟨X1.toArray⟩):=(N.cell aA aD _).trans bv.z;have bo:Below w.heap.size w w8:=a0.z.trans bz;rw [<- cA.z,show cs.map ZeE++[ZeE E.1]=(cs++[E.1]).map ZeE by simp] at aw;obtain ⟨NB,cx⟩:=Xn ((cs.map ZeE).length);rw [cx] at aw ⊢;repeat (refine RS.take (by rfl) (by intro W hW;go_simp;with_reducible rfl) ?_;simp only [Act.put,Xm,Xo,Xl])
        refine RS.done ?_;simp only [Xh,Xv,XaW,Xap,XL,Nat.reduceAdd];have cU:=T8.c1;have cX:=T8.f1;have ag:Kep (fun b=>b≠R1) w8 (w8.setCell ⟨R1,1,none⟩ (.slice (some ⟨g8,0,none⟩) (NB+1) c8)):=ZbY _;have ck:=Y4 (T8.s1 (.slice (some ⟨g8,0,none⟩) (NB+1) c8));have cq:=Y4 (aw.keep ag (fun b _ _ h=>h));have bU:=Y4 (bC.keep ag (by omega) (fun k hk=>by omega) (by omega));have cm:=Y4 (bo.trans (ag.below (B:=w.heap.size) (by omega) (fun b hb=>by omega)));have x9:(w8.setCell ⟨R1,1,none⟩ (.slice (some ⟨g8,0,none⟩) (NB+1) c8)).cell? ⟨b5,aa+K*4,none⟩=some (.string ⟨X1.toArray⟩):=(ag.cell (by omega) bb _).trans x8;have cZ:(K:Int)<(NE:Int):=by omega
        clear ag aw bC x8 bo T8 N aQ bz bc hO bR ba ca aP bJ bZ a0 bB a6 ab f1 f2 t7 bv cd bn;go_wp2_with fail
        have cu:Y5 (ZaA (16384 - (j+1)) n (16*(j+1)) X1 (cs++[E.1]) L1 o1=al):=Y4 (by
         have:=b2.z;rw [show 16384 - j - 1=16384 - (j+1) by omega,show a+16=16*(j+1) by omega] at this;exact this)
        go_roundw
        case rel=>exact ⟨j+1,X1,L1,o1,cs++[E.1],_,rfl,by rw [show ((16*(j+1):Nat):Int)=(a:Int)+16 by omega],by omega,by rw [Xd,aN];rfl,by omega,cu,bU,ck,cq,cm⟩
        case measure=>simp [intOf];omega
     ·have z1:(((E.1.length:Int)) != (m:Int))=true:=by rw [Xah];omega
      have hf:=V.z;rw [Xz ad,Xab,Xa5,Xc (by simp)] at hf;obtain rfl:=M.z hf.symm;clear hf V p M ad;go_wp2_with fail;go_ret2;exact ⟨none,rfl,fun _=>rfl,fun l h=>(by cases h),A.z⟩
  ·have q1:decide ((a:Int)<(n:Int))=false:=Xf;have q2:decide (a<n)=false:=Xf;have i:=HF.z;rw [Zsi bM] at i;have hd:=p.z;rw [<- i] at hd;unfold ZAQ at hd;dsimp only at hd;obtain ⟨vL,G,O⟩:=U.z;obtain ⟨pL,cL,rfl,ct,bp⟩:=O.shape;have f0:wr.cell? ⟨R,0,none⟩=some (.slice pL L.length cL):=by rw [cell_of_row wr R 0 _ _ _ G];rfl
   have f1:wr.cell? ⟨R,1,none⟩=some (.bool o):=by rw [cell_of_row wr R 1 _ _ _ G];rfl
   obtain ⟨NL,ap⟩:=Xn L.length;rw [ap] at f0;cases o with
   | true =>
     rw [Xe (.inl rfl)] at hd
     obtain rfl:D=none:=by cases D with
      | none=>rfl
      | some l=>cases hd
     clear hd i p HF G O U HT HO;go_wp2_with fail;go_ret2;exact ⟨none,rfl,fun _=>rfl,fun l h=>(by cases h),HB.z⟩
   | false =>
     by_cases aR:NL=0
     ·have br:L=[]:=XP (by omega);have z1:decide ((NL:Int)>0)=false:=Xf;have z2:decide (0<NL)=false:=Xf;rw [Xc (by rw [br];simp)] at hd;cases D with
      | none=>cases hd
      | some l =>
        simp only [Xae,Xx,X9] at hd;obtain ⟨bN,bD⟩:=hd;have cE:Y5 (Zfm (fun b=>w.heap.size<=b) wr R1 l):=Y4 ⟨u,by rw [bN];exact HT.z,by omega,by unfold Zf1;rw [bD];exact HO.z.ron⟩;clear bN bD i p HF G O U HT HO br aR ap;go_wp2_with fail;go_ret2;exact ⟨some ⟨R1,0,none⟩,rfl,fun h=>(by cases h),fun l' h=>(by cases h;exact ⟨R1,rfl,cE.z⟩),HB.z⟩
     ·have z1:decide ((NL:Int)>0)=true:=Xt;have z2:decide (0<NL)=true:=Xt;rw [Xe (.inr (fun e=>aR (by rw [<- ap,e];rfl)))] at hd
      obtain rfl:D=none:=by cases D with
       | none=>rfl
       | some l=>cases hd
      clear hd i p HF G O U HT HO aR ap;go_wp2_with fail;go_ret2;exact ⟨none,rfl,fun _=>rfl,fun l h=>(by cases h),HB.z⟩
