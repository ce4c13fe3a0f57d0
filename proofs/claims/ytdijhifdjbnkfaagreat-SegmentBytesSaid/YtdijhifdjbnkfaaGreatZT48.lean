import Derived.Lib.ConvBytes
import Derived.Test.YtdijhifdjbnkfaaGreatZT18
import Derived.Test.YtdijhifdjbnkfaaGreatZT43
set_option maxRecDepth 100000
set_option maxHeartbeats 0
set_option linter.unusedVariables false
set_option linter.unusedSimpArgs false
namespace Go.Proofs.YtdijhifdjbnkfaaGreat
open Lib (hid)
open Tryz
namespace MM
open RowKit
theorem ZwX (w:World) (l:Xu) (h:l.length<=1000000000000) :
  ∃g W,(convert 9 23 (.string ⟨l.toArray⟩)).run prog w=.ok (.slice (some ⟨w.heap.size,0,none⟩) l.length g) W/\ZD cU8 (fun b=>b=w.heap.size) W (.slice (some ⟨w.heap.size,0,none⟩) l.length g) l/\Below w.heap.size w W/\W.heap.size=w.heap.size+1/\∃m fr,W.heap[w.heap.size]? = some (.cells m 5 fr):=by
 have f:(⟨l.toArray⟩:ByteArray).size=l.length:=by rw [Lib.size_eq]
 have n:=grownCap_ge w l.length 0 5;have o:=grownCap_le_maxLen w l.length 0 5 (by unfold maxLen;omega);have a:=Lib.run_convert_string_bytes w 9 23 5 ⟨l.toArray⟩ underlying9 underlying23 underlying5;rw [f] at a;refine ⟨_,_,a,?_,⟨rfl,rfl,rfl,by rw [Lib.bytesWorld_size];omega,fun k q=>Lib.bytesWorld_at_old w 5 _ k q⟩,Lib.bytesWorld_size _ _ _,_,_,Lib.bytesWorld_at_new _ _ _⟩;refine ⟨some ⟨w.heap.size,0,none⟩,_,l.map fun c=>[.int .u8 (c.toNat:Int)],rfl,n,o,fun h=>(Option.some_ne_none _ h).elim,⟨by simp,fun i hi p=>by simp [cU8,ZpP]⟩,.inr ⟨w.heap.size,0,rfl,by rw [Lib.bytesWorld_size];omega,rfl,fun j u e => ?_⟩⟩;rw [Zdb] at e;have d:j<l.length:=by have:=(Xal.1 e).1;simpa using this
 rw [XL,Lib.bytesWorld_cell w 5 ⟨l.toArray⟩ j (by rw [f];exact d)];rw [Xa1,XW d] at e;simp at e;rw [<- e];simp [d]
end MM
namespace DT
open RowKit MM DM VM
variable {f n a B R0 R1:Nat} {t L:Xu} {o:Bool} {w:World} {u:Value}
theorem ZCW:Elem Zt7 prog 168 176 40:=⟨underlying168,by
 have h:(prog.info? 176).map (fun i=>(i.zero,i.size,i.bytes))=some (some (.agg #[.string ⟨#[]⟩,.slice none 0 0]),2,40):=by kernel_rfl
 obtain ⟨i,c,d,b,e⟩:=info_parts h;exact ⟨i,_,c,d,b,e,rfl⟩⟩
theorem ZpW {b:List (List ZQ)} (h:a<n) (hf:0<f):ZaA f n a t b L o =
  if ZlK n a t (ZaO 16 [] [] (Z2 L.length L o).1 false)=true then ZaA (f - 1) n (a+16) (ZcI t (ZaO 16 [] [] (Z2 L.length L o).1 false).1) (b++[(ZaO 16 [] [] (Z2 L.length L o).1 false).1]) (Z2 L.length L o).2.1 (Z2 L.length L o).2.2 else none:=by
 obtain ⟨f,rfl⟩:∃g,f=g+1:=⟨f - 1,by omega⟩;rw [ZaA,Xe h];rfl
theorem ZrO {b:List (List ZQ)} (h:¬a<n):ZaA f n a t b L o=some (b,L,o):=by
 cases f with
 | zero=>rfl
 | succ f=>rw [ZaA,Xa h]
def ZAv (n:Nat):Option (List (List ZQ)×Xu×Bool)->Option (Nat×List (List ZQ))
 | none=>none
 | some (cs,l,o)=>if o=true\/l≠[] then none else some (n,cs)
theorem Zsr (b:Xu):Zhh b=ZAv (Ze 262144 b false).1 (ZaA 16384 (Ze 262144 b false).1 0 [] [] (Ze 262144 b false).2.1 (Ze 262144 b false).2.2):=by
 unfold Zhh ZAv
 split<;>rename_i h<;>rw [h]
theorem last_at {l:List ZQ} {m:Nat} (b:l.length=m) (h:0<m):ZcI t l=(l[m - 1]'(by omega)).1:=by
 subst b;unfold ZcI;rw [List.getLast?_eq_getElem?,XW (by omega)];rfl
theorem Zzu (m:Int) (l:Xu) (o:Bool):(Z2 m l o).2.1.length<=l.length:=by
 unfold Z2 VG.Zbd;dsimp only
 split
 ·rw [Xj];omega
 ·simp
theorem Zcn (m:Nat) (l:Xu) (o:Bool):(Ze m l o).2.1.length<=l.length:=by
 unfold Ze VG.Zab
 split
 ·dsimp only
  split
  ·rw [Xj];omega
  ·simp
 ·simp
def Opn (B R0 R1:Nat) (w:World) (u:Value) (d:List Blk):Prop :=
 ∃S:Nat->Prop,(∀b,S b->b<w.heap.size/\B<=b/\b≠R0/\b≠R1/\∃c fr,w.heap[b]? = some (.cells c 5 fr))/\Zz Zt7 176 B S w u d/\∀g,u.ownBlock=some g->g≠R0/\g≠R1
theorem Opn.keep {T:Nat->Prop} {w':World} {q:List Blk} (h:Opn B R0 R1 w u q) (k:Kep T w w') (j:∀b,B<=b->b≠R0->b≠R1->T b):Opn B R0 R1 w' u q:=by
 obtain ⟨S,d,r,l⟩:=h;refine ⟨S,fun b c => ?_,r.keep k (fun b _ c=>j b (d b c).2.1 (d b c).2.2.1 (d b c).2.2.2.1) (fun g e=>j g (r.cells e).1 (l g e).1 (l g e).2),l⟩;obtain ⟨m,p,a3,a4,i,fr,a5⟩:=d b c;exact ⟨XK m k.size,p,a3,a4,i,fr,(k.block b m (j b p a3 a4)).trans a5⟩
theorem Opn.ron {c:List Blk} (h:Opn B R0 R1 w u c):ZD Zt7 (fun b=>B<=b) w u c:=by
 obtain ⟨S,i,d,h3⟩:=h;exact d.ron (fun g e=>(d.cells e).1) (fun b _ j=>(i b j).2.1)
def Zwy (o:Option (List ZQ)) (w:World) (e:Ending) (w':World):Prop :=
 ∃p,e=.returned (.tuple #[.pointer p,.int .i64 (if o.isSome then 0 else 110)])/\(o=none->p=none)/\(∀l,o=some l->∃g,p=some ⟨g,0,none⟩/\Zfr (fun b=>w.heap.size<=b) w' g l)/\Below w.heap.size w w'
theorem Zji (v:Value) (bs:Xu) (w:World) (hr:Zq w v bs) (cI:bs.length<=1000000000000):Calls prog 51 #[v] w (Zwy (Zng bs) w):=by
 have b8:prog.follows .mixedOrders=true:=by kernel_rfl
 obtain ⟨R,hR⟩:=Xn w.heap.size;obtain ⟨p0,c0,rfl,_⟩:=hr.shape;obtain ⟨wa,an⟩:=Xn (w.alloc (.cells #[.slice p0 bs.length c0,.bool false] 166));have a7:Below w.heap.size w wa:=by rw [<- an];exact (Below.refl _ _).alloc (Xc _) _
 have cX:wa.heap.size=R+1:=by rw [<- an,<- hR];simp
 have bu:Rd w.heap.size wa R bs false:=by
  refine ⟨.slice p0 bs.length c0,?_,Z3.below hr a7⟩;rw [<- an,<- hR];exact heap_alloc_new _ _
 have ac:=hid (ZaT w.heap.size R 262144 bs false wa (by omega) bu (by omega));have bC:=ZbW 262144 bs false;have bv:=Zcn 262144 bs false;have ae:=Zsr bs;rw [Zyv] at ae;obtain ⟨⟨n,L0,o0⟩,hn⟩:∃s,Ze 262144 bs false=s:=⟨_,rfl⟩;rw [hn] at ac bC ae bv;dsimp only at ac bC ae bv;obtain ⟨D,hD⟩:=Xn (Zng bs);rw [hD] at ae ⊢;have bz:Hid (∀f,ZaA 16384 n 0 [] [] L0 o0=f->D.map (fun l=>(l.length,ZH l))=ZAv n f):=hid (fun f F=>by rw [ae,F]);obtain ⟨al,ah⟩:=Xn (ZaA 16384 n 0 [] [] L0 o0);have p:=hid (bz.out al ah);have bT:Hid (ZaA (16384 - 0) n (16*0) [] [] L0 o0=al):=hid ah;have bD:=hid a7;have bi:=hid an;have aC:=hid (fun (L:Xu) o W (h:Rd w.heap.size W R L o) (hl:(L.length:Int)<=9223372036854775807)=>Zhv w.heap.size R (L.length:Int) L o W (by omega) hl h (by omega));clear an a7 bu hn ae hD ah bz hr;go_enter func51,ntmps51;go_wp2_with fail;rw [bi.out];refine ac.out.mono ?_;rintro e w1 ⟨rfl,h1,k1⟩;have cu:=k1.size;obtain ⟨R1,cy⟩:=Xn w1.heap.size;obtain ⟨w2,ax⟩:=Xn (w1.alloc (.cells #[.int .i64 (n:Int),.slice none 0 0] 170));have aY:Below w1.heap.size w1 w2:=by rw [<- ax];exact (Below.refl _ _).alloc (Xc _) _
 have aM:Hid (Rd w.heap.size w2 R L0 o0):=hid (h1.keep (S:=fun _=>True) (Za _ aY) trivial (fun _ _=>trivial) (by omega));have aS:Hid (Two w2 R1 170 (.int .i64 (n:Int)) (.slice none 0 0)):=hid (by rw [<- ax,<- cy];exact ZdP w1 170 _ _);have b4:Hid (Opn w.heap.size R R1 w2 (.slice none 0 0) (([]:List (List ZQ)).map ZeF)):=hid ⟨fun _=>False,fun _ h=>h.elim,Zz.nil_ _ _ _ _,fun g hg=>by cases hg⟩;have bQ:Hid (Below w.heap.size w w2):=hid ((bD.out.trans (k1.below (B:=w.heap.size) (by omega) (fun b hb=>by omega))).trans (aY.mono (by omega)));have cr:Hid (R1<w2.heap.size):=hid aS.out.lt;have cT:R<R1:=by omega
 have bG:=hid ax;clear ax aY h1 k1 ac bD bi cu;go_wp2_with fail;rw [bG.out]
 go_loopw [6,7] (fun tv av wr=>∃(j:Nat) (t L:Xu) (o:Bool) (cs:List (List ZQ)) (u:Value),tv=.string ⟨t.toArray⟩/\av=.int .i64 ((16*j:Nat):Int)/\j<=16384/\cs.length=j/\L.length<=1000000000000/\Hid (ZaA (16384 - j) n (16*j) t cs L o=al)/\Hid (Rd w.heap.size wr R L o)/\Hid (Two wr R1 170 (.int .i64 (n:Int)) u)/\Hid (Opn w.heap.size R R1 wr u (cs.map ZeF))/\Hid (Below w.heap.size w wr)) (fun _ av _=>n+16 - (intOf av).toNat)
 case atStart=>exact ⟨0,[],L0,o0,[],_,rfl,rfl,by omega,rfl,by omega,bT,aM,aS,b4,bQ⟩
 case round =>
  obtain ⟨j,t,L,o,cs,u,rfl,rfl,hj,aT,cS,HF,O,HT,HO,HB⟩:=hrel;clear bT aM aS b4 bQ cr bG;obtain ⟨a,ha⟩:=Xn (16*j);rw [ha] at HF ⊢;have t0:=HT.out.c0
  by_cases bn:a<n
  ·have q1:decide ((a:Int)<(n:Int))=true:=Xt;have q2:decide (a<n)=true:=Xt;obtain ⟨vL,H,U⟩:=O.out;obtain ⟨pL,cL,rfl,ce,b6⟩:=U.shape;unfold maxLen at b6;have f0:wr.cell? ⟨R,0,none⟩=some (.slice pL L.length cL):=by rw [cell_of_row wr R 0 _ _ _ H];rfl
   have i:=HF.out;rw [ZpW bn (by omega)] at i;have ar:=aC.out L o wr O.out (by omega);have bL:=Zps (L.length:Int) L o;have bH:=Zzu (L.length:Int) L o;obtain ⟨⟨s1,L1,o1⟩,aG⟩:∃s,Z2 (L.length:Int) L o=s:=⟨_,rfl⟩;rw [aG] at i ar bL bH;dsimp only at i ar bL bH;obtain ⟨E,hE⟩:=Xn (ZaO 16 [] [] s1 false);rw [hE] at i;have bg:=hid i;have b0:=hid ar;have HE:=hid hE;clear i ar aG hE H U HF O;go_wp2_with fail;refine b0.out.mono ?_;rintro e w3 ⟨rfl,h3,k3⟩;have cR:=k3.size;have cH:=HT.out.lt;obtain ⟨q,hq⟩:=Xn w3.heap.size;obtain ⟨aB,w4,bf,y,ak,bh,cJ,cQ,z⟩:=ZwX w3 s1 (by omega);rw [hq] at bf y bh z;have bc:Below w.heap.size w w3:=HB.out.trans (k3.below (B:=w.heap.size) (by have:=HB.out.size;omega) (fun b hb=>by omega));have cf:w.heap.size<=q:=by have:=bc.size;omega
   have aA:Rd w.heap.size w4 R L1 o1:=h3.keep (S:=fun _=>True) (Za _ ak) trivial (fun _ _=>trivial) (by omega);have a0:Two w4 R1 170 (.int .i64 (n:Int)) u:=(HT.out.keep k3 (by omega)).below ak (by omega);have bt:Opn w.heap.size R R1 w4 u (cs.map ZeF):=(HO.out.keep k3 (fun b _ h _=>h)).keep (Za (fun _=>True) ak) (fun _ _ _ _=>trivial);have bo:Below w.heap.size w w4:=bc.trans (ak.mono (by omega));have ag:=Zl8 w4.heap.size _ s1 w4 (ZnF y.any) (Xc _);rw [HE.out] at ag;have aF:=hid ag;have aD:=hid aA;have aU:=hid a0;have b2:=a0.lt;have a9:=hid bt;have aq:=hid bo;have bj:=hid y;have bN:=hid z;clear ag aA a0 bt bo bc y z h3 k3 ak HT HO HB b0 aC t0 f0;go_wp2_with fail;refine aF.out.mono ?_;rintro e w5 ⟨v5,rfl,ap,J⟩;have ca:=J.size
   obtain ⟨aN,aX,bq,bJ,bS⟩:Rd w.heap.size w5 R L1 o1/\Two w5 R1 170 (.int .i64 (n:Int)) u/\Opn w.heap.size R R1 w5 u (cs.map ZeF)/\Below w.heap.size w w5/\ZD cU8 (fun b=>b=q) w5 (.slice (some ⟨q,0,none⟩) s1.length aB) s1 :=
    ⟨aD.out.keep (S:=fun _=>True) (Za _ J) trivial (fun _ _=>trivial) (by have:=aq.out.size;omega),aU.out.below J aU.out.lt,a9.out.keep (Za (fun _=>True) J) (fun _ _ _ _=>trivial),aq.out.trans (J.mono aq.out.size),bj.out.keep (Za _ J) (fun _ _ h=>h)⟩
   have bw:=(J.block q (by omega)).trans bN.out;obtain ⟨p5,c5,rfl,cV,cO,_⟩:=ap.any.shape;have bk:=hid (ap.ron (T:=fun b=>w4.heap.size<=b) (fun g hg=>(ap.cells hg).1) (fun b _ h=>h.elim))
   have ay:Hid (∀g,u.ownBlock=some g->w.heap.size<=g/\g<w4.heap.size/\g≠R/\g≠R1):=hid (fun g hg=>by
    obtain ⟨S,h1,h2,h3⟩:=a9.out;exact ⟨(h2.cells hg).1,(h2.cells hg).2.1,h3 g hg⟩)
   have c6:Hid (w4.heap.size=q+1):=hid bh;have G:=hid (ZdH _ E.1 t w5 ap.any);have t5:=aX.c0;have aH:=hid aN;have aV:=hid aX;have bl:=hid bq;have A:=hid bJ;have bM:=hid bS;have aO:=hid bw;obtain ⟨m,hm⟩:=Xn (min 16 (n - a));have cl:(n:Int) - (a:Int)=((n - a:Nat):Int):=by omega
   have cb:min (16:Int) ((n:Int) - (a:Int))=(m:Int):=by omega
   have cc:min (16:Int) ((n - a:Nat):Int)=(m:Int):=by omega
   have b9:(if n - a<16 then ((n - a:Nat):Int) else 16)=(m:Int):=by split<;>omega
   have ab:ZlK n a t E=(!E.2.2&&(decide (E.2.1=[])&&(decide (E.1.length=m)&&Za6 t E.1))):=by unfold ZlK;rw [hm]
   obtain ⟨cz,Y⟩:=Xn ((!E.2.2&&decide (E.2.1=[])));rw [<- Xbh,Y] at ab;have cB:=hid Y;obtain ⟨co,aK⟩:=Xn (Za6 t E.1);rw [aK] at ab G;have i:=bg.out;rw [ab] at i;have X:=hid i;rw [Y];have cq:Hid (0<m/\m<=16/\min 16 (n - a)=m):=hid (by omega)
   have V:Hid (al=none->D=none):=hid (fun h=>by
    have:=p.out;rw [h] at this;cases D with
    | none=>rfl
    | some l=>cases this)
   clear aN aX bq bJ bS bw ap J aD aU a9 aq bj bN aF hm ab Y aK i bg ca;cases cz with
   | false =>
     have F:=X.out;rw [Xad,Xa (by simp)] at F;obtain rfl:=V.out F.symm;clear F X p V;go_wp2_with fail;go_ret2;exact ⟨none,rfl,fun _=>rfl,fun l h=>(by cases h),A.out⟩
   | true =>
     by_cases af:E.1.length=m
     ·have z1:(((E.1.length:Int)) != (m:Int))=false:=by simp [af]
      cases co with
      | false =>
        have F:=X.out;rw [Xa4,Xa4,Xa (by simp)] at F;obtain rfl:=V.out F.symm;clear F X p V af;go_wp2_with fail;refine G.out.mono ?_;rintro e w6 ⟨rfl,ad⟩;have cF:=hid (A.out.trans (ad.mono A.out.size));clear ad G A;go_wp2_with fail;go_ret2;exact ⟨none,rfl,fun _=>rfl,fun l h=>(by cases h),cF.out⟩
      | true =>
        have ch:=hid af;clear af V;go_wp2_with fail;refine G.out.mono ?_;rintro e w6 ⟨rfl,ad⟩;have c4:=ad.size;have cU:=cq.out;have au:=ch.out;have F:=X.out;rw [Xw au,Xag,Xag,Xe rfl] at F;obtain ⟨bZ,bR⟩:E.2.2=false/\E.2.1=[]:=by have:=cB.out;simpa using this
        obtain ⟨_,mE,e1,e2,_,_⟩:=ZjU 16 [] [] s1 false (by simp) (by rw [HE.out];exact bR) (by rw [HE.out];exact bZ);rw [HE.out,Xz] at e1;rw [<- e1] at e2
        have ai:ZeF E.1=(E.1[0].1,s1):=by
         unfold ZeF;rw [e2];congr 2
         obtain ⟨c,M⟩:=Xn E.1;simp only [M] at au ⊢;cases c with
         | nil=>simp at au;omega
         | cons x r=>rfl
        have aj:ZcI t E.1=(E.1[m - 1]'(by omega)).1:=last_at au (by omega);rw [aj] at F;have bU:=hid F;obtain ⟨wd,aZ⟩:=Xn w6.drew;have C:Below w5.heap.size w5 wd:=by rw [<- aZ];exact ad.drew
        have c7:=C.size;have aa:=hid (aH.out.keep (S:=fun _=>True) (Za _ C) trivial (fun _ _=>trivial) (by have:=A.out.size;omega));have t7:=aV.out.below C aV.out.lt;have bY:=hid t7;have bW:=hid (bl.out.keep (Za (fun _=>True) C) (fun _ _ _ _=>trivial));have bb:=hid (A.out.trans (C.mono A.out.size));have bA:=hid (bM.out.keep (Za _ C) (fun _ _ h=>h));have aR:=hid ((C.block q (by have:=(Xo.1 aO.out).1;omega)).trans aO.out);have aW:=ZD.keep bk.out (Za _ C) (fun _ _ h=>h);obtain ⟨b5,Z,rfl,aE,cK,x0,_⟩:=Zdx aW (k:=0) (by omega);obtain ⟨cY,cG,aL,_,_,x1,_⟩:=Zdx aW (k:=m - 1) (by omega);simp only [Xv,Addr.mk.injEq,and_true] at aL;obtain ⟨rfl,rfl⟩:=aL;rw [Nat.zero_mul,Xah] at x0;obtain ⟨X0,bK⟩:=Xn (E.1[0].1);obtain ⟨X1,bE⟩:=Xn ((E.1[m - 1]'(by omega)).1);rw [bK] at x0 ai;rw [bE] at x1 bU;have ct:=hid ai;obtain ⟨K,hK⟩:=Xn (m - 1);rw [hK] at x1;have cZ:(m:Int) - 1=(K:Int):=by omega
        have bI:Hid (wd.cell? ⟨b5,Z+K*4,none⟩=some (.string ⟨X1.toArray⟩)):=hid x1;have cn:Hid (Two wd R1 170 (.int .i64 (n:Int)) u):=bY;obtain ⟨NE,cC⟩:=Xn E.1.length;have br:NE=m:=by omega
        subst br;rw [cC];have aJ:u.ownBlock≠some b5:=fun e=>by have:=(ay.out _ e).2.1;omega
        have aI:u.ownBlock≠some R1:=fun e=>(ay.out _ e).2.2.2 rfl;have a8:b5≠R1:=fun e=>by have:=b2;omega
        have f1:=fun W (hW:Kep (fun b=>u.ownBlock≠some b) wd W)=>(hW.cell t7.lt aI 1).trans t7.c1;have f2:=fun W (hW:Kep (fun b=>u.ownBlock≠some b) wd W)=>(hW.cell aE aJ Z).trans x0;have cj:=hid aZ;clear aZ C ad aW x0 x1 ai bK bE aj F e1 e2 t5 aH aV bl A bM aO G bk hK bZ bR;go_wp2_with fail;refine RS.ZaF (T:=fun b=>u.ownBlock≠some b) [(0,true),(1,true),(2,true),(3,true),(4,true),(5,true),(6,true),(7,true),(8,true),(9,true),(10,true),(11,false),(12,false),(13,true),(14,true)] b8 (by kernel_rfl) (fun _ _ d _ _ h=>by cases d<;>exact h) ?_;simp only [RS.Zy,XF,XV,XZ,X4,XX];rw [cj.out];repeat (refine RS.take (by rfl) (by intro W hW;go_simp;with_reducible rfl) ?_;simp only [Act.put,Xr,Xs,Xq])
        refine RS.alone (by rfl) (fun K hK => ?_);go_simp;refine hK.out _ _ (Zr _ _ _) ?_;clear hK K;refine RS.alone (by rfl) (fun K hK => ?_);obtain ⟨S,bF,be,cd⟩:=bW.out;have cD:q<wd.heap.size:=(Xo.1 aR.out).1
        have aP:∀b,(S b\/b=q)->b<wd.heap.size/\w.heap.size<=b/\b≠R/\b≠R1/\∃ao fr,wd.heap[b]? = some (.cells ao 5 fr):=fun b hb=>by
         rcases hb with hb|rfl
         ·exact bF b hb
         ·exact ⟨cD,cf,by omega,by omega,_,_,aR.out⟩
        have hO:=be.weak (T:=fun b=>S b\/b=q) fun b _ h=>.inl h;have ba:w.heap.size<=wd.heap.size:=bb.out.size
        refine ZgF ZCW _ _ rfl w.heap.size u (cs.map ZeF) wd [.string ⟨X0.toArray⟩,.slice (some ⟨q,0,none⟩) s1.length aB] (X0,s1) rfl rfl hO (fun b _ hb=>.inr fun ao fr M=>by
          obtain ⟨_,_,_,_,bp,b7,I⟩:=aP b hb;rw [M] at I;simp only [Xv,Obj.cells.injEq] at I;exact absurd I.2.1 (by decide)) (ZwM.2 ⟨_,rfl,bA.out.weak fun b _ h=>.inr h⟩) rfl (by rw [XE,aT];unfold maxLen;omega) (by rw [XE,aT];omega) ba ?_
        intro v8 w8 aQ b1 bd cm;obtain ⟨g8,c8,rfl⟩:=cm;refine hK.out _ _ bd ?_;clear hK K;have N:Kep (fun b=>u.ownBlock≠some b) wd w8:=(Zr _ _ _).trans bd;have cM:=N.size;have bx:u.ownBlock≠some R:=fun e=>(ay.out _ e).2.2.1 rfl;have cp:R<wd.heap.size:=aa.out.lt;have T8:Two w8 R1 170 (.int .i64 (n:Int)) u:=(N.block R1 t7.lt aI).trans t7
        have bB:∃vv,w8.heap[R]? = some (.cells #[vv,.bool o1] 166 (0,0)):=by
         obtain ⟨vv,h1,_⟩:=aa.out;exact ⟨vv,(N.block R cp bx).trans h1⟩
        have cA:g8≠R/\g8≠R1:=by
         obtain ⟨_,_,ao,fr,M⟩:=aQ.cells (g:=g8) rfl;refine ⟨fun e => ?_,fun e => ?_⟩
         ·obtain ⟨vv,I⟩:=bB;rw [e,I] at M;simp only [Xv,Obj.cells.injEq] at M;exact absurd M.2.1 (by decide)
         ·rw [e] at M;have I:=T8;unfold Two at I;rw [I] at M;simp only [Xv,Obj.cells.injEq] at M;exact absurd M.2.1 (by decide)
        have az:Opn w.heap.size R R1 w8 (.slice (some ⟨g8,0,none⟩) ((cs.map ZeF).length+1) c8) ((cs.map ZeF)++[(X0,s1)]):=⟨fun b=>S b\/b=q,fun b hb=>by
          obtain ⟨a1,a2,a3,a4,ao,fr,a5⟩:=aP b hb
          have cx:u.ownBlock≠some b:=fun e=>by
           obtain ⟨_,_,bp,b7,M⟩:=be.cells e;rw [a5] at M;simp only [Xv,Obj.cells.injEq] at M;exact absurd M.2.1 (by decide)
          exact ⟨by omega,a2,a3,a4,ao,fr,(N.block b a1 cx).trans a5⟩,aQ,fun g hg=>by cases hg;exact cA⟩
        have bP:Rd w.heap.size w8 R L1 o1:=aa.out.keep N bx (fun k hk e=>by have:=(ay.out k e).1;omega) (by omega);have x8:w8.cell? ⟨b5,Z+K*4,none⟩=some (.string ⟨X1.toArray⟩):=(N.cell aE aJ _).trans bI.out;have b3:Below w.heap.size w w8:=bb.out.trans b1;rw [<- ct.out,show cs.map ZeF++[ZeF E.1]=(cs++[E.1]).map ZeF by simp] at az;obtain ⟨NB,cE⟩:=Xn ((cs.map ZeF).length);rw [cE] at az ⊢;repeat (refine RS.take (by rfl) (by intro W hW;go_simp;with_reducible rfl) ?_;simp only [Act.put,Xr,Xs,Xq])
        refine RS.done ?_;simp only [Xh,Xm,XaW,Xap,XL,Nat.reduceAdd];have cW:=T8.c1;have cN:=T8.f1;have am:Kep (fun b=>b≠R1) w8 (w8.setCell ⟨R1,1,none⟩ (.slice (some ⟨g8,0,none⟩) (NB+1) c8)):=ZbE _;have ci:=hid (T8.s1 (.slice (some ⟨g8,0,none⟩) (NB+1) c8));have cv:=hid (az.keep am (fun b _ _ h=>h));have bO:=hid (bP.keep am (by omega) (fun k hk=>by omega) (by omega));have cg:=hid (b3.trans (am.below (B:=w.heap.size) (by omega) (fun b hb=>by omega)));have x9:(w8.setCell ⟨R1,1,none⟩ (.slice (some ⟨g8,0,none⟩) (NB+1) c8)).cell? ⟨b5,Z+K*4,none⟩=some (.string ⟨X1.toArray⟩):=(am.cell (by omega) a8 _).trans x8;have cP:(K:Int)<(NE:Int):=by omega
        clear am az bP x8 b3 T8 N aQ b1 bd hO bF be cd aP bY bW bb bA aR aa f1 f2 t7 bI cn bB;go_wp2_with fail
        have cw:Hid (ZaA (16384 - (j+1)) n (16*(j+1)) X1 (cs++[E.1]) L1 o1=al):=hid (by
         have:=bU.out;rw [show 16384 - j - 1=16384 - (j+1) by omega,show a+16=16*(j+1) by omega] at this;exact this)
        go_roundw
        case rel=>exact ⟨j+1,X1,L1,o1,cs++[E.1],_,rfl,by rw [show ((16*(j+1):Nat):Int)=(a:Int)+16 by omega],by omega,by rw [Xd,aT];rfl,by omega,cw,bO,ci,cv,cg⟩
        case measure=>simp [intOf];omega
     ·have z1:(((E.1.length:Int)) != (m:Int))=true:=by rw [Xaa];omega
      have F:=X.out;rw [XB af,Xad,Xa4,Xa (by simp)] at F;obtain rfl:=V.out F.symm;clear F X p V af;go_wp2_with fail;go_ret2;exact ⟨none,rfl,fun _=>rfl,fun l h=>(by cases h),A.out⟩
  ·have q1:decide ((a:Int)<(n:Int))=false:=Xf;have q2:decide (a<n)=false:=Xf;have i:=HF.out;rw [ZrO bn] at i;have hd:=p.out;rw [<- i] at hd;unfold ZAv at hd;dsimp only at hd;obtain ⟨vL,H,U⟩:=O.out;obtain ⟨pL,cL,rfl,ce,b6⟩:=U.shape;have f0:wr.cell? ⟨R,0,none⟩=some (.slice pL L.length cL):=by rw [cell_of_row wr R 0 _ _ _ H];rfl
   have f1:wr.cell? ⟨R,1,none⟩=some (.bool o):=by rw [cell_of_row wr R 1 _ _ _ H];rfl
   obtain ⟨NL,aw⟩:=Xn L.length;rw [aw] at f0;cases o with
   | true =>
     rw [Xe (.inl rfl)] at hd
     obtain rfl:D=none:=by cases D with
      | none=>rfl
      | some l=>cases hd
     clear hd i p HF H U O HT HO;go_wp2_with fail;go_ret2;exact ⟨none,rfl,fun _=>rfl,fun l h=>(by cases h),HB.out⟩
   | false =>
     by_cases a6:NL=0
     ·have bV:L=[]:=XO (by omega);have z1:decide ((NL:Int)>0)=false:=Xf;have z2:decide (0<NL)=false:=Xf;rw [Xa (by rw [bV];simp)] at hd;cases D with
      | none=>cases hd
      | some l =>
        simp only [Xai,Xv,X8] at hd;obtain ⟨bm,bX⟩:=hd;have ck:Hid (Zfr (fun b=>w.heap.size<=b) wr R1 l):=hid ⟨u,by rw [bm];exact HT.out,by omega,by unfold Zf6;rw [bX];exact HO.out.ron⟩;clear bm bX i p HF H U O HT HO bV a6 aw;go_wp2_with fail;go_ret2;exact ⟨some ⟨R1,0,none⟩,rfl,fun h=>(by cases h),fun l' h=>(by cases h;exact ⟨R1,rfl,ck.out⟩),HB.out⟩
     ·have z1:decide ((NL:Int)>0)=true:=Xt;have z2:decide (0<NL)=true:=Xt;rw [Xe (.inr (fun e=>a6 (by rw [<- aw,e];rfl)))] at hd
      obtain rfl:D=none:=by cases D with
       | none=>rfl
       | some l=>cases hd
      clear hd i p HF H U O HT HO a6 aw;go_wp2_with fail;go_ret2;exact ⟨none,rfl,fun _=>rfl,fun l h=>(by cases h),HB.out⟩
end DT
namespace GM
open VM
open SM (Zo isS ZaH)
open EM (Zs)
def exA:List Zo:=[(1,(7,[([109,115,103],[120])]))]
def exC:List Zo:=[(4,(0,[]))]
theorem Zr2:isS exA=true:=by decide +kernel
theorem Zxq:isS exC=true:=by decide +kernel
theorem ZjX:ZbA exA:=fun _=>by decide +kernel
theorem ZnT:ZbA exC:=fun _=>by decide +kernel
theorem Ztm:ZaH exA:=fun d a=>by
 obtain rfl:=XaF.1 a;exact ⟨by decide,by decide⟩
theorem Ztn:ZaH exC:=fun d a=>by
 obtain rfl:=XaF.1 a;exact ⟨by decide,by decide⟩
theorem ZCd {l:List Zo} (a:isS l=true) (hs:ZbA l) (b:l≠[]):Zdw l=(Zbg l,0):=by rw [ZeM hs,Xe ⟨a,b⟩]
theorem Zux:Zs (Zt exA) [109,115,103,58,120]=[(0,[0])]:=by decide +kernel
theorem Zxp:Zp exA=(7,7,1,1,1):=by decide +kernel
theorem ZAr:(!exA.isEmpty&&BM.Zk3 (Zak (Zt exA)) [109,115,103,58,120])=true:=by decide +kernel
theorem Zxr:(Zt exC).length=0:=by decide +kernel
theorem ZAs:(!exC.isEmpty&&BM.Zk3 (Zak (Zt exC)) [109,115,103,58,120])=false:=by decide +kernel
