import Derived.Test.YtmomfobdpfajbaaGreatZA9
import Derived.Test.YtmomfobdpfajbaaGreatZA12
import Derived.Lib.SmallJoins
set_option maxRecDepth 100000
set_option maxHeartbeats 0
set_option linter.unusedVariables false
set_option linter.unusedSimpArgs false
namespace Go.Proofs.YtmomfobdpfajbaaGreat
open Tryz
namespace SG
open RowKit MM
open FM (Zbv Zia Zja ZdG)
open GM (Six Some6 ZkL)
variable {B b C:Nat} {w w' W:World} {v:Value} {es:List Xu}
theorem Z0:Elem (Zfq cU8) prog 92 23 24:=⟨underlying92,by
 have h:(prog.info? 23).map (fun i=>(i.zero,i.size,i.bytes))=some (some (.slice none 0 0),1,24):=by kernel_rfl
 obtain ⟨i,a,e,d,c⟩:=info_parts h;exact ⟨i,_,a,e,d,c,rfl⟩⟩
def U8S (B:Nat) (w:World) (b:Nat):Prop:=B<=b/\∃a fr,w.heap[b]? = some (.cells a 5 fr)
theorem U8S.keep {T:Nat->Prop} (h:U8S B w b) (d:Kep T w w') (e:T b):U8S B w' b:=by
 obtain ⟨f,a,fr,c⟩:=h;exact ⟨f,a,fr,(d.block b (Xq.1 c).1 e).trans c⟩
theorem ZCU (h:U8S C w b):Apt 23 B w b:=.inr fun c fr a=>by
 obtain ⟨_,c2,f2,d⟩:=h;rw [d] at a;simp only [Xx,Obj.cells.injEq] at a;exact absurd a.2.1 (by decide)
theorem ZCV {S:Nat->Prop} (h:ZC (Zfq cU8) 23 B S w v es) (c:U8S C w b):v.ownBlock≠some b:=fun e=>by
 obtain ⟨_,_,c1,f1,a⟩:=h.cells e;obtain ⟨_,c2,f2,d⟩:=c;rw [d] at a;simp only [Xx,Obj.cells.injEq] at a;exact absurd a.2.1 (by decide)
theorem ZBt {l:Xu} (h:Zd B w v l) (c:C<=B):ZB cU8 (U8S C w) w v l :=
 ZB.weak (BOn.of_own h) fun b _ a=>⟨Xy c (World.ownsRow.lt h b a).1,(Zbn h a).2⟩
abbrev ZuA (B:Nat) (w:World) (v:Value) (L:List Xu):Prop:=ZC (Zfq cU8) 23 B (U8S B w) w v L
theorem ZmH {e:World} {L:List Xu} (h:ZuA B W v L) (d:Below W.heap.size W e):ZuA B e v L:=by
 have c:=Za (fun _=>True) d;obtain ⟨a,g,i⟩:=h;exact ⟨a,ZdY g c (fun _ _=>trivial),i.keep (Za _ d) fun b f hs=>hs.keep c trivial⟩
theorem ZvU {v':Value} {d:Xu} (a:ZuA B W v es) (f:ZC (Zfq cU8) 23 B (U8S B W) w' v' (es++[d])) (e:Kep (fun k=>v.ownBlock≠some k) W w'):ZuA B w' v' (es++[d]) :=
 ZC.weak f fun b _ c=>c.keep e (ZCV a c)
def ZAk (b:Xu) (w:World) (e:Ending) (w':World):Prop :=
 Below w.heap.size w w'/\((∃v,e=.returned (.tuple #[v,.bool false])/\v.oneCell'=true/\∀L,¬Six b L)\/∃v L,e=.returned (.tuple #[v,.bool true])/\Six b L/\ZB (Zfq cU8) (fun k=>w.heap.size<=k) w' v L)
theorem ZBS (v:Value) (b:Xu) (w:World) (hr:Zv w v b):Calls prog 48 #[v] w (ZAk b w):=by
 obtain ⟨c,m⟩:=Xn (w.alloc (.cells #[.int .u8 76,.int .u8 83,.int .u8 69,.int .u8 71] 5 (4,5)));have s:Below w.heap.size w c:=by rw [<- m];exact (Below.refl _ _).alloc (Xa _) _
 have hk:=Joins.run_convert_bytes_const_at (P:=prog) w 23 5 #[.int .u8 76,.int .u8 83,.int .u8 69,.int .u8 71] 4 4 w.heap.size rfl underlying23 underlying5;simp only [Xar,Xh,Xv,Nat.reduceAdd] at hk;rw [m] at hk;have M:c.heap[w.heap.size]? = some (.cells #[.int .u8 76,.int .u8 83,.int .u8 69,.int .u8 71] 5 (4,5)):=by rw [<- m];exact heap_alloc_new _ _
 have H:Zv c (.slice (some ⟨w.heap.size,0,none⟩) 4 4) ZkL:=by
  refine ⟨some ⟨w.heap.size,0,none⟩,4,rfl,Xa _,by unfold maxLen;omega,(fun h=>by cases h),.inr ⟨w.heap.size,0,rfl,(Xq.1 M).1,fun i u hi => ?_⟩⟩;rw [XL,Zf M i];simpa [ZkL,Lib.byteCells] using hi
 have am:BIn w.heap.size c v b:=BIn.below hr s;have O:=Y4 (Zxu w.heap.size v _ b ZkL c am s.size H);obtain ⟨p,aJ,rfl,aI,aD⟩:=hr.shape;unfold maxLen at aD;have l:=Y4 s;have aK:=Y4 m;clear hr s m M H am;go_enter func48,ntmps48;go_wp2_with fail;refine O.z.mono ?_;rintro e w2 ⟨u,rfl,hu,ac,rfl⟩;have X:ZkL.length=4:=rfl;rw [X] at hu ⊢
 by_cases S:b.take 4=ZkL
 ·rw [Xs S];have r:=hu S;obtain ⟨R0,y⟩:=Xn (b.drop 4);rw [y] at r;have HU:=Y4 r;have HH:=Y4 S;have aL:=Y4 y;obtain ⟨pu,cu,aF,_⟩:=r.shape;subst aF;have ar:Y5 (ZuA c.heap.size c (.slice none 0 0) []):=Y4 (ZC.nil_ _ _ _ _);have al:Y5 (Some6 (b.drop 4) [] R0):=Y4 (by rw [y];exact Some6.start _);clear hu r y S ac O hk X;go_wp2_with fail
  go_loopw [2,3,4,17] (fun lv bv rv iv wr=>∃(k:Nat) (q:List Xu) (rest:Xu),k<=6/\iv=.int .i64 k/\bv=.bool true/\q.length=k/\Y5 (Some6 (b.drop 4) q rest)/\Y5 (ZuA c.heap.size wr lv q)/\Y5 (BIn w.heap.size wr rv rest)/\Y5 (Below c.heap.size c wr)) (fun _ _ _ iv _=>6 - (intOf iv).toNat)
  case atStart=>exact ⟨0,[],R0,by omega,by go_simp,by go_simp,rfl,al,ar,HU,Y4 (Below.refl _ _)⟩
  case round =>
   obtain ⟨k,q,rest,aM,rfl,rfl,t,N,Z,HR,E⟩:=hrel;clear al ar HU
   by_cases U:k<6
   ·have t1:decide ((k:Int)<6)=true:=Xt;have T:w.heap.size<=wr.heap.size:=by have:=E.z.size;have:=l.z.size;omega
    have O:=Y4 (FG.ZAV w.heap.size u4 _ wr HR.z T);obtain ⟨pr,cr,rfl,_⟩:=HR.z.shape;obtain ⟨pl,cl,ad,_⟩:=Z.z.any.shape;rw [t] at ad;subst ad;have aj:=Y4 U;have aA:=Y4 T;clear T U;go_wp2_with fail;refine O.z.mono ?_;rintro e z ⟨vp,vr,rfl,a,j,f⟩;have R:=E.z.size;have d:=l.z.size;rcases Zja rest with ⟨D,k3,I⟩|I|I
    ·have V:=N.z.next I;rw [I] at a ⊢;dsimp only at a ⊢;obtain ⟨R3,ak⟩:=Xn (Zia rest);rw [ak] at V j;obtain ⟨pp,cp,rfl,_⟩:=(Zd.brow a).shape;obtain ⟨pq,cq,rfl,_⟩:=j.shape;have hx:=ZmH Z.z f;have av:=ZBt (C:=c.heap.size) a R;have aq:(Zfq cU8).on (U8S c.heap.size z) z [.slice pp D.length cp] D:=⟨_,rfl,av⟩;have G:=Zdh 23 aq;have n:Below z.heap.size z (z.alloc (.cells #[.slice pp D.length cp] 23)):=(Below.refl _ _).alloc (Xa _) _;have aa:=ZmH hx n;have ap:=Za (fun _=>True) n
     have o:Zds (Zfq cU8) (U8S c.heap.size (z.alloc (.cells #[.slice pp D.length cp] 23))) (z.alloc (.cells #[.slice pp D.length cp] 23)) (.slice (some ⟨z.heap.size,0,none⟩) 1 1) [D]:=by
      obtain ⟨p',cap',ae,ay,ax,aB,aw,aH⟩:=G;exact ⟨p',cap',ae,ay,ax,aB,aw.keep (Kep.refl _ _) fun x _ hx=>hx.keep ap trivial,aH⟩
     have ai:=Y4 aa;have au:=Y4 o;have aG:=Y4 V;have az:=Y4 (BIn.below j (n.mono (by have:=f.size;have:=aA.z;omega)));have ab:=Y4 ((E.z.trans (f.mono R)).trans (n.mono (by have:=f.size;omega)));have ah:Y5 (c.heap.size<=(z.alloc (.cells #[.slice pp D.length cp] 23)).heap.size):=Y4 ab.z.size;have Y:=Y4 t;clear a j f I V hx av aq G n aa ap o ak O N Z HR E;go_wp2_with (at_builtin;go_loud (refine Zo Z0 rfl _ _ rfl c.heap.size _ q rfl ai.z (fun b _ hb=>ZCU hb) _ [D] rfl au.z (by have:=Y.z;unfold maxLen;simp only [Xai];omega) (by have:=Y.z;simp only [Xai];omega) ah.z ?_;intro v5 w5 ag J af;have aE:=Y4 (ZvU ai.z ag af);have an:=Y4 (BIn.below az.z (J.mono d));have aC:=Y4 (ab.z.trans J);clear ag J af))
     have U:=aj.z;go_roundw
     case rel=>exact ⟨k+1,q++[D],R3,by omega,by go_num,rfl,by rw [Xd,Xai,Y.z],aG,aE,an,aC⟩
     case measure=>simp [intOf];omega
    all_goals
     have HQ:Y5 (∀L,¬Six b L):=Y4 (N.z.odd (by have:=aj.z;omega) (by rw [I];dsimp only;omega));have A:=Y4 ((l.z.trans (E.z.mono d)).trans (f.mono (by omega)));rw [I] at a ⊢;dsimp only at a ⊢;obtain ⟨pp,cp,rfl,_⟩:=(Zd.brow a).shape;obtain ⟨pq,cq,rfl,_⟩:=j.shape;clear a j f I O N Z HR E R d;go_wp2_with fail;go_ret2;exact ⟨A.z,.inl ⟨_,rfl,rfl,HQ.z⟩⟩
   ·have e6:k=6:=by omega
    subst e6;have d:=l.z.size;have A:=Y4 (l.z.trans (E.z.mono d));have ao:Y5 (ZB (Zfq cU8) (fun k=>w.heap.size<=k) wr u2 q):=Y4 (Z.z.ron (fun g e=>Xy d (Z.z.cells e).1) (fun _ _ h=>Xy d h.1))
    have HF:Y5 (if rest.length=0 then Six b q else ∀L,¬Six b L):=Y4 (by
     by_cases F:rest.length=0
     ·rw [Xe F];have e0:=XP F;have:=N.z;subst e0;exact this.all HH.z t
     ·rw [Xc F];exact N.z.more t (fun e=>F (by rw [e];rfl)))
    obtain ⟨pr,cr,rfl,_⟩:=HR.z.shape;clear N Z HR E;go_wp2_with fail;go_ret2
    by_cases F:rest.length=0
    ·rw [Xe F] at HF;have e1:((rest.length:Int) == 0)=true:=by rw [F];rfl
     refine ⟨A.z,.inr ⟨u2,q,?_,HF.z,ao.z⟩⟩
     show Ending.returned (.tuple #[u2,.bool ((rest.length:Int) == 0)])=_
     rw [e1]
    ·rw [Xc F] at HF
     have e1:((rest.length:Int) == 0)=false:=by
      rw [X6];omega
     refine ⟨A.z,.inl ⟨u2,?_,ao.z.oneCell,HF.z⟩⟩
     show Ending.returned (.tuple #[u2,.bool ((rest.length:Int) == 0)])=_
     rw [e1]
 ·rw [Xz S];have HQ:Y5 (∀L,¬Six b L):=Y4 (fun L hL=>S hL.head);clear hu S O hk X;go_wp2_with fail;go_ret2;exact ⟨l.z,.inl ⟨_,rfl,rfl,HQ.z⟩⟩
