import Derived.Test.YtdijhifdjbnkfaaGreatZT5
import Derived.Test.YtdijhifdjbnkfaaGreatZT8
import Derived.Test.YtdijhifdjbnkfaaGreatZT9
import Derived.Lib.SmallJoins
set_option maxRecDepth 100000
set_option maxHeartbeats 0
set_option linter.unusedVariables false
set_option linter.unusedSimpArgs false
namespace Go.Proofs.YtdijhifdjbnkfaaGreat
open Lib (hid)
open Tryz
namespace SG
open RowKit MM
open FM (ZaP ZgK Zg7 Zbl)
open GM (Six Some6 ZkE)
variable {B b C:Nat} {w w' W:World} {v:Value} {es:List Xu}
theorem ZZ:Elem (Zfu cU8) prog 92 23 24:=⟨underlying92,by
 have h:(prog.info? 23).map (fun i=>(i.zero,i.size,i.bytes))=some (some (.slice none 0 0),1,24):=by kernel_rfl
 obtain ⟨i,c,d,a,e⟩:=info_parts h;exact ⟨i,_,c,d,a,e,rfl⟩⟩
def U8S (B:Nat) (w:World) (b:Nat):Prop:=B<=b/\∃a fr,w.heap[b]? = some (.cells a 5 fr)
theorem U8S.keep {T:Nat->Prop} (h:U8S B w b) (f:Kep T w w') (e:T b):U8S B w' b:=by
 obtain ⟨d,a,fr,c⟩:=h;exact ⟨d,a,fr,(f.block b (Xo.1 c).1 e).trans c⟩
theorem ZCE (h:U8S C w b):Apt 23 B w b:=.inr fun c fr a=>by
 obtain ⟨_,c2,f2,d⟩:=h;rw [d] at a;simp only [Xv,Obj.cells.injEq] at a;exact absurd a.2.1 (by decide)
theorem ZCF {S:Nat->Prop} (h:Zz (Zfu cU8) 23 B S w v es) (c:U8S C w b):v.ownBlock≠some b:=fun e=>by
 obtain ⟨_,_,c1,f1,a⟩:=h.cells e;obtain ⟨_,c2,f2,d⟩:=c;rw [d] at a;simp only [Xv,Obj.cells.injEq] at a;exact absurd a.2.1 (by decide)
theorem ZA6 {l:Xu} (h:Zd B w v l) (c:C<=B):ZD cU8 (U8S C w) w v l :=
 ZD.weak (BOn.of_own h) fun b _ a=>⟨Xx c (World.ownsRow.lt h b a).1,(Zbk h a).2⟩
abbrev Zt1 (B:Nat) (w:World) (v:Value) (L:List Xu):Prop:=Zz (Zfu cU8) 23 B (U8S B w) w v L
theorem ZmD {d:World} {L:List Xu} (h:Zt1 B W v L) (c:Below W.heap.size W d):Zt1 B d v L:=by
 have e:=Za (fun _=>True) c;obtain ⟨a,i,f⟩:=h;exact ⟨a,Zd0 i e (fun _ _=>trivial),f.keep (Za _ c) fun b g hs=>hs.keep e trivial⟩
theorem Zvl {v':Value} {d:Xu} (a:Zt1 B W v es) (f:Zz (Zfu cU8) 23 B (U8S B W) w' v' (es++[d])) (e:Kep (fun k=>v.ownBlock≠some k) W w'):Zt1 B w' v' (es++[d]) :=
 Zz.weak f fun b _ c=>c.keep e (ZCF a c)
def Zz2 (b:Xu) (w:World) (e:Ending) (w':World):Prop :=
 Below w.heap.size w w'/\((∃v,e=.returned (.tuple #[v,.bool false])/\v.oneCell'=true/\∀L,¬Six b L)\/∃v L,e=.returned (.tuple #[v,.bool true])/\Six b L/\ZD (Zfu cU8) (fun k=>w.heap.size<=k) w' v L)
theorem ZBy (v:Value) (b:Xu) (w:World) (hr:Zq w v b):Calls prog 48 #[v] w (Zz2 b w):=by
 obtain ⟨d,o⟩:=Xn (w.alloc (.cells #[.int .u8 76,.int .u8 83,.int .u8 69,.int .u8 71] 5 (4,5)));have s:Below w.heap.size w d:=by rw [<- o];exact (Below.refl _ _).alloc (Xc _) _
 have hk:=Joins.run_convert_bytes_const_at (P:=prog) w 23 5 #[.int .u8 76,.int .u8 83,.int .u8 69,.int .u8 71] 4 4 w.heap.size rfl underlying23 underlying5;simp only [Xat,Xh,Xm,Nat.reduceAdd] at hk;rw [o] at hk;have X:d.heap[w.heap.size]? = some (.cells #[.int .u8 76,.int .u8 83,.int .u8 69,.int .u8 71] 5 (4,5)):=by rw [<- o];exact heap_alloc_new _ _
 have I:Zq d (.slice (some ⟨w.heap.size,0,none⟩) 4 4) ZkE:=by
  refine ⟨some ⟨w.heap.size,0,none⟩,4,rfl,Xc _,by unfold maxLen;omega,(fun h=>by cases h),.inr ⟨w.heap.size,0,rfl,(Xo.1 X).1,fun i u hi => ?_⟩⟩;rw [XL,Zh X i];simpa [ZkE,Lib.byteCells] using hi
 have an:Z3 w.heap.size d v b:=Z3.below hr s;have Z:=hid (ZwY w.heap.size v _ b ZkE d an s.size I);obtain ⟨p,aJ,rfl,aK,aC⟩:=hr.shape;unfold maxLen at aC;have l:=hid s;have aM:=hid o;clear hr s o X I an;go_enter func48,ntmps48;go_wp2_with fail;refine Z.out.mono ?_;rintro e w2 ⟨u,rfl,hu,am,rfl⟩;have V:ZkE.length=4:=rfl;rw [V] at hu ⊢
 by_cases N:b.take 4=ZkE
 ·rw [Xw N];have y:=hu N;obtain ⟨R0,t⟩:=Xn (b.drop 4);rw [t] at y;have HU:=hid y;have HH:=hid N;have aL:=hid t;obtain ⟨pu,cu,ax,_⟩:=y.shape;subst ax;have aa:Hid (Zt1 d.heap.size d (.slice none 0 0) []):=hid (Zz.nil_ _ _ _ _);have ao:Hid (Some6 (b.drop 4) [] R0):=hid (by rw [t];exact Some6.start _);clear hu y t N am Z hk V;go_wp2_with fail
  go_loopw [2,3,4,17] (fun lv bv rv iv wr=>∃(k:Nat) (q:List Xu) (rest:Xu),k<=6/\iv=.int .i64 k/\bv=.bool true/\q.length=k/\Hid (Some6 (b.drop 4) q rest)/\Hid (Zt1 d.heap.size wr lv q)/\Hid (Z3 w.heap.size wr rv rest)/\Hid (Below d.heap.size d wr)) (fun _ _ _ iv _=>6 - (intOf iv).toNat)
  case atStart=>exact ⟨0,[],R0,by omega,by go_simp,by go_simp,rfl,ao,aa,HU,hid (Below.refl _ _)⟩
  case round =>
   obtain ⟨k,q,rest,aI,rfl,rfl,r,O,U,HR,H⟩:=hrel;clear ao aa HU
   by_cases M:k<6
   ·have t1:decide ((k:Int)<6)=true:=Xt;have S:w.heap.size<=wr.heap.size:=by have:=H.out.size;have:=l.out.size;omega
    have Z:=hid (FG.ZAy w.heap.size u4 _ wr HR.out S);obtain ⟨pr,cr,rfl,_⟩:=HR.out.shape;obtain ⟨pl,cl,ag,_⟩:=U.out.any.shape;rw [r] at ag;subst ag;have ab:=hid M;have aD:=hid S;clear S M;go_wp2_with fail;refine Z.out.mono ?_;rintro e D ⟨vp,vr,rfl,a,j,f⟩;have R:=H.out.size;have c:=l.out.size;rcases Zg7 rest with ⟨A,k3,F⟩|F|F
    ·have J:=O.out.next F;rw [F] at a ⊢;dsimp only at a ⊢;obtain ⟨R3,av⟩:=Xn (ZgK rest);rw [av] at J j;obtain ⟨pp,cp,rfl,_⟩:=(Zd.brow a).shape;obtain ⟨pq,cq,rfl,_⟩:=j.shape;have hx:=ZmD U.out f;have al:=ZA6 (C:=d.heap.size) a R;have aj:(Zfu cU8).on (U8S d.heap.size D) D [.slice pp A.length cp] A:=⟨_,rfl,al⟩;have G:=Zby 23 aj;have m:Below D.heap.size D (D.alloc (.cells #[.slice pp A.length cp] 23)):=(Below.refl _ _).alloc (Xc _) _;have ah:=ZmD hx m;have ar:=Za (fun _=>True) m
     have n:Zdk (Zfu cU8) (U8S d.heap.size (D.alloc (.cells #[.slice pp A.length cp] 23))) (D.alloc (.cells #[.slice pp A.length cp] 23)) (.slice (some ⟨D.heap.size,0,none⟩) 1 1) [A]:=by
      obtain ⟨p',cap',aq,aF,aG,ay,aH,az⟩:=G;exact ⟨p',cap',aq,aF,aG,ay,aH.keep (Kep.refl _ _) fun x _ hx=>hx.keep ar trivial,az⟩
     have ai:=hid ah;have ak:=hid n;have aE:=hid J;have aB:=hid (Z3.below j (m.mono (by have:=f.size;have:=aD.out;omega)));have af:=hid ((H.out.trans (f.mono R)).trans (m.mono (by have:=f.size;omega)));have ae:Hid (d.heap.size<=(D.alloc (.cells #[.slice pp A.length cp] 23)).heap.size):=hid af.out.size;have T:=hid r;clear a j f F J hx al aj G m ah ar n av Z O U HR H;go_wp2_with (at_builtin;go_loud (refine Zf ZZ rfl _ _ rfl d.heap.size _ q rfl ai.out (fun b _ hb=>ZCE hb) _ [A] rfl ak.out (by have:=T.out;unfold maxLen;simp only [Xaf];omega) (by have:=T.out;simp only [Xaf];omega) ae.out ?_;intro v5 w5 ap Y au;have aw:=hid (Zvl ai.out ap au);have ac:=hid (Z3.below aB.out (Y.mono c));have aA:=hid (af.out.trans Y);clear ap Y au))
     have M:=ab.out;go_roundw
     case rel=>exact ⟨k+1,q++[A],R3,by omega,by go_num,rfl,by rw [Xd,Xaf,T.out],aE,aw,ac,aA⟩
     case measure=>simp [intOf];omega
    all_goals
     have HQ:Hid (∀L,¬Six b L):=hid (O.out.odd (by have:=ab.out;omega) (by rw [F];dsimp only;omega));have z:=hid ((l.out.trans (H.out.mono c)).trans (f.mono (by omega)));rw [F] at a ⊢;dsimp only at a ⊢;obtain ⟨pp,cp,rfl,_⟩:=(Zd.brow a).shape;obtain ⟨pq,cq,rfl,_⟩:=j.shape;clear a j f F Z O U HR H R c;go_wp2_with fail;go_ret2;exact ⟨z.out,.inl ⟨_,rfl,rfl,HQ.out⟩⟩
   ·have e6:k=6:=by omega
    subst e6;have c:=l.out.size;have z:=hid (l.out.trans (H.out.mono c));have ad:Hid (ZD (Zfu cU8) (fun k=>w.heap.size<=k) wr u2 q):=hid (U.out.ron (fun g e=>Xx c (U.out.cells e).1) (fun _ _ h=>Xx c h.1))
    have HF:Hid (if rest.length=0 then Six b q else ∀L,¬Six b L):=hid (by
     by_cases E:rest.length=0
     ·rw [Xe E];have e0:=XO E;have:=O.out;subst e0;exact this.all HH.out r
     ·rw [Xa E];exact O.out.more r (fun e=>E (by rw [e];rfl)))
    obtain ⟨pr,cr,rfl,_⟩:=HR.out.shape;clear O U HR H;go_wp2_with fail;go_ret2
    by_cases E:rest.length=0
    ·rw [Xe E] at HF;have e1:((rest.length:Int) == 0)=true:=by rw [E];rfl
     refine ⟨z.out,.inr ⟨u2,q,?_,HF.out,ad.out⟩⟩
     show Ending.returned (.tuple #[u2,.bool ((rest.length:Int) == 0)])=_
     rw [e1]
    ·rw [Xa E] at HF
     have e1:((rest.length:Int) == 0)=false:=by
      rw [Xab];omega
     refine ⟨z.out,.inl ⟨u2,?_,ad.out.oneCell,HF.out⟩⟩
     show Ending.returned (.tuple #[u2,.bool ((rest.length:Int) == 0)])=_
     rw [e1]
 ·rw [XB N];have HQ:Hid (∀L,¬Six b L):=hid (fun L hL=>N hL.head);clear hu N Z hk V;go_wp2_with fail;go_ret2;exact ⟨l.out,.inl ⟨_,rfl,rfl,HQ.out⟩⟩
