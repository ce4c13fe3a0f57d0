import Derived.Test.YtmomfobdpfajbaaGreatZA19
import Derived.Deep.MidRow
import Derived.Test.YtmomfobdpfajbaaGreatZA14
import Derived.Test.YtmomfobdpfajbaaGreatZA44
import Derived.Test.YtmomfobdpfajbaaGreatZA43
set_option maxRecDepth 100000
set_option maxHeartbeats 0
set_option linter.unusedVariables false
set_option linter.unusedSimpArgs false
namespace Go.Proofs.YtmomfobdpfajbaaGreat
open Tryz
namespace EV
open RowKit MM EM VM
variable {l:Xu}
theorem Zhd {m:Nat} (o:Bool) (h:(Zs l).2.2=0) (a:(Zs l).1<=m):Ze m l o=((Zs l).1,l.drop (Zs l).2.1,o):=by
 unfold Ze VG.Zau;rw [Xe ⟨h,a⟩,Xe h]
theorem ZCD {m:Nat} (o:Bool) (h:(Zs l).2.2≠0\/m<(Zs l).1):Ze m l o=(0,[],true):=by
 unfold Ze;rw [Xc (fun a=>h.elim (fun h=>h a.1) (fun h=>by omega))]
theorem ZbS (m:Nat) (l:Xu) (o:Bool):(Ze m l o).1<=m:=by
 unfold Ze
 split
 ·rename_i h;exact h.2
 ·exact XX _
theorem ZBm (m:Nat) (l:Xu):(Ze m l true).2.2=true:=by
 unfold Ze
 split<;>rfl
theorem ZzG (o:Bool) (h:(Za8 l).2.2=0):Zbi l o=((Za8 l).1,l.drop (Za8 l).2.1,o):=by
 unfold Zbi VG.Zau;have a:(Zs l).2.2=0:=h;rw [Xe a,h];simp [Za8]
theorem ZCS (o:Bool) (h:(Za8 l).2.2≠0):(Zbi l o).2.2=true:=by
 unfold Zbi;have:((Za8 l).2.2 != 0)=true:=by rw [Xah];exact h
 simp [this]
theorem Zhz {m:Int} (o:Bool) (h:(Zah l m).2.2=0):Z6 m l o=((Zah l m).1,l.drop (Zah l m).2.1,o):=by
 unfold Z6 VG.Zei;rw [Xe h,h];simp
theorem ZzP {m:Int} (o:Bool) (h:(Zah l m).2.2≠0):(Z6 m l o).2.2=true:=by
 unfold Z6;have:((Zah l m).2.2 != 0)=true:=by rw [Xah];exact h
 simp [this]
theorem ZpM (m:Int) (l:Xu):(Z6 m l true).2.2=true:=by unfold Z6;simp
abbrev FSt:=List Fld×Xu×Bool
def ZgG (s:FSt):FSt :=
 (s.1++[((Z6 32 s.2.1 s.2.2).1,(Z6 4096 (Z6 32 s.2.1 s.2.2).2.1 (Z6 32 s.2.1 s.2.2).2.2).1)],(Z6 4096 (Z6 32 s.2.1 s.2.2).2.1 (Z6 32 s.2.1 s.2.2).2.2).2.1,(Z6 4096 (Z6 32 s.2.1 s.2.2).2.1 (Z6 32 s.2.1 s.2.2).2.2).2.2)
def ZbE:Nat->FSt->FSt
 | 0,s=>s
 | k+1,s=>ZgG (ZbE k s)
theorem Zg0:∀(k:Nat) (s:FSt),ZbE (k+1) s=ZbE k (ZgG s)
 | 0,s=>rfl
 | k+1,s=>by rw [ZbE,Zg0 k s,<- ZbE]
theorem Zwj {s:FSt} (h:s.2.2=true):(ZgG s).2.2=true:=by
 unfold ZgG;rw [h];have:=ZpM 32 s.2.1;rw [this];exact ZpM _ _
theorem ZfI:∀(k:Nat) {s:FSt},s.2.2=true->(ZbE k s).2.2=true
 | 0,_,h=>h
 | k+1,_,h=>Zwj (ZfI k h)
theorem Zj0:∀(k:Nat) (s:FSt),(ZbE k s).1.length=s.1.length+k
 | 0,s=>rfl
 | k+1,s=>by rw [ZbE];unfold ZgG;simp [Zj0 k s];omega
theorem Zn7:∀(k:Nat) (a:List Fld) (l:Xu) (o:Bool) (fs:List Fld) (r:Xu),ZdT k a l=some (fs,r)->ZbE k (a,l,o)=(fs,r,o)
 | 0,a,l,o,fs,r,h=>by
   rw [ZdT] at h;simp only [Xx,X9] at h;rw [ZbE,h.1,h.2]
 | k+1,a,l,o,fs,r,h=>by
   rw [ZdT] at h
   split at h
   ·cases h
   ·rename_i c;have d:(Zah l 32).2.2=0:=Xaz fun b=>c (.inl b);have f:(Zah (l.drop (Zah l 32).2.1) 4096).2.2=0:=Xaz fun b=>c (.inr b);rw [Zg0]
    have e:ZgG (a,l,o)=(a++[((Zah l 32).1,(Zah (l.drop (Zah l 32).2.1) 4096).1)],(l.drop (Zah l 32).2.1).drop (Zah (l.drop (Zah l 32).2.1) 4096).2.1,o):=by
     unfold ZgG;dsimp only;rw [Zhz o d];dsimp only;rw [Zhz o f]
    rw [e];exact Zn7 k _ _ _ _ _ h
theorem Zn6:∀(k:Nat) (a:List Fld) (l:Xu) (o:Bool),ZdT k a l=none->(ZbE k (a,l,o)).2.2=true
 | 0,a,l,o,h=>by rw [ZdT] at h;cases h
 | k+1,a,l,o,h=>by
   rw [ZdT] at h;rw [Zg0]
   by_cases b:(Zah l 32).2.2=0
   ·by_cases c:(Zah (l.drop (Zah l 32).2.1) 4096).2.2=0
    ·rw [Xc (fun d=>d.elim (fun h=>h b) (fun h=>h c))] at h
     have e:ZgG (a,l,o)=(a++[((Zah l 32).1,(Zah (l.drop (Zah l 32).2.1) 4096).1)],(l.drop (Zah l 32).2.1).drop (Zah (l.drop (Zah l 32).2.1) 4096).2.1,o):=by
      unfold ZgG;dsimp only;rw [Zhz o b];dsimp only;rw [Zhz o c]
     rw [e];exact Zn6 k _ _ _ h
    ·refine ZfI k ?_;unfold ZgG;dsimp only;rw [Zhz o b];dsimp only;exact ZzP o c
   ·refine ZfI k ?_;unfold ZgG;dsimp only;rw [ZzP o b];exact ZpM _ _
def Zft (l:Xu) (o:Bool):Ev×Xu×Bool :=
 (((Zbi l o).1,(ZbE (Ze 16 (Zbi l o).2.1 (Zbi l o).2.2).1 ([],(Ze 16 (Zbi l o).2.1 (Zbi l o).2.2).2.1,(Ze 16 (Zbi l o).2.1 (Zbi l o).2.2).2.2)).1),
   (ZbE (Ze 16 (Zbi l o).2.1 (Zbi l o).2.2).1 ([],(Ze 16 (Zbi l o).2.1 (Zbi l o).2.2).2.1,(Ze 16 (Zbi l o).2.1 (Zbi l o).2.2).2.2)).2.1,
   (ZbE (Ze 16 (Zbi l o).2.1 (Zbi l o).2.2).1 ([],(Ze 16 (Zbi l o).2.1 (Zbi l o).2.2).2.1,(Ze 16 (Zbi l o).2.1 (Zbi l o).2.2).2.2)).2.2)
theorem ZxS (l:Xu) (o:Bool):(Zft l o).1.2.length<=16:=by
 unfold Zft;dsimp only;rw [Zj0];have:=ZbS 16 (Zbi l o).2.1 (Zbi l o).2.2;simp only [Xv];omega
theorem ZtW {r:Xu} {e:Ev} (o:Bool) (h:rdE l=some (e,r)):Zft l o=(e,r,o):=by
 unfold rdE at h
 split at h
 ·cases h
 ·rename_i b
  split at h
  ·cases h
  ·rename_i c;have b:(Za8 l).2.2=0:=by simpa using b
   have f:(Zs (l.drop (Za8 l).2.1)).2.2=0:=Xaz fun a=>c (.inl a);have d:(Zs (l.drop (Za8 l).2.1)).1<=16:=Nat.not_lt.1 fun a=>c (.inr a);cases hg:ZdT (Zs (l.drop (Za8 l).2.1)).1 [] ((l.drop (Za8 l).2.1).drop (Zs (l.drop (Za8 l).2.1)).2.1) with
   | none=>rw [hg] at h;cases h
   | some p =>
     obtain ⟨fs,r2⟩:=p;rw [hg] at h;simp only [Xx,X9] at h;obtain ⟨rfl,rfl⟩:=h;unfold Zft;rw [ZzG o b];dsimp only;rw [Zhd o f d];dsimp only;rw [Zn7 _ _ _ o _ _ hg]
theorem ZAJ (o:Bool) (h:rdE l=none):(Zft l o).2.2=true:=by
 unfold Zft;dsimp only
 by_cases c:(Za8 l).2.2=0
 ·rw [ZzG o c];dsimp only
  by_cases a:(Zs (l.drop (Za8 l).2.1)).2.2≠0\/16<(Zs (l.drop (Za8 l).2.1)).1
  ·rw [ZCD o a];exact ZfI _ rfl
  ·have e:(Zs (l.drop (Za8 l).2.1)).2.2=0:=Xaz fun b=>a (.inl b);have d:(Zs (l.drop (Za8 l).2.1)).1<=16:=Nat.not_lt.1 fun b=>a (.inr b);rw [Zhd o e d];dsimp only;unfold rdE at h;rw [Xc (by simpa using c),Xc a] at h;cases hg:ZdT (Zs (l.drop (Za8 l).2.1)).1 [] ((l.drop (Za8 l).2.1).drop (Zs (l.drop (Za8 l).2.1)).2.1) with
   | none=>exact Zn6 _ _ _ _ hg
   | some p=>rw [hg] at h;cases h
 ·refine ZfI _ ?_;dsimp only;rw [ZCS o c];exact ZBm _ _
end EV
namespace MM
open RowKit
section
variable {α : Type} (C : Codec α)
variable {C}
end
end MM
namespace EV
open RowKit MM EM VM
variable {w:World} {b:Nat}
theorem ZhK:(prog.info? 57).map (·.size)=some 2:=by kernel_rfl
def IsF (w:World) (b:Nat):Prop:=∃a fr,w.heap[b]? = some (.cells a 123 fr)
def Zej (w w':World) (b:Nat):Prop:=w.heap.size<=b/\IsF w' b
theorem IsF.keep {S:Nat->Prop} {w':World} (h:IsF w b) (d:Kep S w w') (c:S b):IsF w' b:=by
 obtain ⟨a,fr,h⟩:=h;exact ⟨a,fr,(d.block b (Xq.1 h).1 c).trans h⟩
theorem IsF.lt (h:IsF w b):b<w.heap.size:=by obtain ⟨_,_,h⟩:=h;exact (Xq.1 h).1
def Zls (B g:Nat) (s:Ev×Xu×Bool) (w:World) (e:Ending) (w':World):Prop :=
 ∃u,e=.returned (.agg #[.int .i64 s.1.1,u])/\ZB Zae (Zej w w') w' u s.1.2/\Rd B w' g s.2.1 s.2.2/\Kep (fun b=>b≠g) w w'
theorem ZjY (B g:Nat) (l:Xu) (o:Bool) (w:World) (h:Rd B w g l o) (hB:B<=g):Calls prog 267 #[.pointer (some ⟨g,0,none⟩)] w (Zls B g (Zft l o) w):=by
 have a5:prog.follows .mixedOrders=true:=by kernel_rfl
 have hg:=h.lt;have a6:=ZxS l o;obtain ⟨z,l1,o1,ht⟩:∃z l1 o1,Zbi l o=(z,l1,o1):=⟨_,_,_,rfl⟩;obtain ⟨N,m,p,hn⟩:∃N m p,Ze 16 l1 o1=(N,m,p):=⟨_,_,_,rfl⟩;have hN:N<=16:=by have:=ZbS 16 l1 o1;rw [hn] at this;exact this
 have aF:Zft l o=((z,(ZbE N ([],m,p)).1),(ZbE N ([],m,p)).2.1,(ZbE N ([],m,p)).2.2):=by
  unfold Zft;rw [ht];dsimp only;rw [hn]
 have aL:=Y4 aF;have O:Below w.heap.size w (w.alloc (.cells #[.int .i64 0,.slice none 0 0] 57)):=(Below.refl _ _).alloc (Xa _) _;have M:(w.alloc (.cells #[.int .i64 0,.slice none 0 0] 57)).heap.size=w.heap.size+1:=by simp
 have aM:=h.keep (S:=fun _=>True) (Za _ O) trivial (fun _ _=>trivial) (by omega);have HT:=Y4 (ZzH B g l o _ aM hB);rw [ht] at HT;have HN:=Y4 (fun W (h:Rd B W g l1 o1)=>(show Calls prog 277 #[.pointer (some ⟨g,0,none⟩),.int .i64 16] W (ZfA B g (.int .i64 N) m p W) from by have:=ZaQ B g 16 l1 o1 W (by omega) h hB;rw [hn] at this;exact this));have n0:=heap_alloc_new w (.cells #[.int .i64 0,.slice none 0 0] 57);clear h aF ht hn aM;go_enter func267,ntmps267;go_wp2_with fail;refine HT.z.mono ?_;rintro e w1 ⟨rfl,av,H⟩;have aV:=H.size;have a0:=(H.block w.heap.size (by simp) (by omega)).trans n0;have L:Kep (fun b=>b≠g) w w1:=(Za _ O).trans H;have ag:=Y4 av;have aI:=Y4 L;have A0:=Y4 a0;rw [M] at aV;clear av H n0 a0 L O M HT;go_wp2_with fail;obtain ⟨q,hq⟩:=Xn w1.heap.size;rw [hq];have bb:w.heap.size<q:=by omega
 have n1:=heap_alloc_new w1 (.cells #[.int .i64 z,.slice none 0 0] 57);rw [hq] at n1;have c:Kep (fun b=>b≠g) w1 (w1.alloc (.cells #[.int .i64 z,.slice none 0 0] 57)):=Zu _ _ _;have aH:=Y4 (HN.z (w1.alloc (.cells #[.int .i64 z,.slice none 0 0] 57)) (ag.z.keep (S:=fun _=>True) (Zu _ _ _) trivial (fun _ _=>trivial) (by omega)));have aO:(w1.alloc (.cells #[.int .i64 z,.slice none 0 0] 57)).heap.size=q+1:=by simp [hq]
 refine aH.z.mono ?_;rintro e w3 ⟨rfl,aw,v⟩;have b0:=(v.block q (by omega) (by omega)).trans n1;have a3:=((c.trans v).block w.heap.size (by omega) (by omega)).trans A0.z;have aS:=v.size;rw [aO] at aS;have aj:=Y4 aw;have aE:=Y4 (aI.z.trans (c.trans v));have aA:=Y4 a3;have aG:=Y4 b0;have al:=Y4 (ZC.nil_ (C:=Zae) 123 (q+1) (fun _=>False) w3);clear aw v c n1 b0 a3 HN aH A0 aI ag aO hq;go_wp2_with fail
 go_loopw [4,10] (fun _ iv wr=>∃(i:Nat) (u:Value),i<=N/\iv=.int .i64 i/\Y5 (ZC Zae 123 (q+1) (fun _=>False) wr u (ZbE i ([],m,p)).1)/\Y5 (wr.heap[q]? = some (.cells #[.int .i64 z,u] 57 (0,0)))/\Y5 (wr.heap[w.heap.size]? = some (.cells #[.int .i64 0,.slice none 0 0] 57 (0,0)))/\Y5 (Rd B wr g (ZbE i ([],m,p)).2.1 (ZbE i ([],m,p)).2.2)/\Y5 (Kep (fun b=>b≠g) w wr)) (fun _ iv _=>N - (intOf iv).toNat)
 case atStart=>exact ⟨0,_,by omega,rfl,al,aG,aA,aj,aE⟩
 case round =>
  obtain ⟨i,u,hi,rfl,F,x,HA,HR,HK⟩:=hrel;clear al aG aA aj aE;have aT:q<wr.heap.size:=(Xq.1 x.z).1;have r:=Zj0 i ([],m,p)
  by_cases E:i<N
  ·have q1:decide ((i:Int)<(N:Int))=true:=Xt;obtain ⟨fs,li,oi,R⟩:∃fs li oi,ZbE i ([],m,p)=(fs,li,oi):=⟨_,_,_,rfl⟩;obtain ⟨s1,l3,o3,Z⟩:∃s1 l3 o3,Z6 32 li oi=(s1,l3,o3):=⟨_,_,_,rfl⟩;obtain ⟨s2,l4,o4,V⟩:∃s2 l4 o4,Z6 4096 l3 o3=(s2,l4,o4):=⟨_,_,_,rfl⟩
   have aC:ZbE (i+1) ([],m,p)=(fs++[(s1,s2)],l4,o4):=by
    rw [ZbE,R];unfold ZgG;dsimp only;rw [Z];dsimp only;rw [V]
   rw [R] at F HR r;have bc:fs.length<=16:=by simp at r;omega
   have aa:=Y4 aC;have X:=Y4 (Zhw B g 32 li oi wr (by omega) (by omega) HR.z hB);rw [Z] at X;have aB:=Y4 (fun W (h:Rd B W g l3 o3)=>(show Calls prog 278 #[.pointer (some ⟨g,0,none⟩),.int .i64 4096] W (ZfA B g (.string ⟨s2.toArray⟩) l4 o4 W) from by have:=Zhw B g 4096 l3 o3 W (by omega) (by omega) h hB;rw [V] at this;exact this));have aY:=Y4 E;clear R Z V aC E r HR;go_wp2_with fail;refine X.z.mono ?_;rintro e w4 ⟨rfl,ac,s⟩;have a7:=s.size;have t:=Y4 (F.z.keep s (fun _ _ h=>h.elim) (fun k f=>by have:=(F.z.cells f).1;omega));have y:=Y4 ((s.block q aT (by omega)).trans x.z);have ah:=Y4 ((s.block w.heap.size (by omega) (by omega)).trans HA.z);have aK:=Y4 ac;have aN:=Y4 (HK.z.trans s);clear ac s X F x HA HK;go_wp2_with fail;refine RS.Zal (T:=fun b=>b≠g/\u.ownBlock≠some b) [(0,true),(1,true),(2,true),(3,true),(4,false),(5,true),(6,false),(7,false),(8,true)] a5 (by kernel_rfl) (fun _ _ d _ _ h=>by cases d<;>exact h) ?_;simp only [RS.Zt,XC,XN,XU,XV,XS];have ak:u.ownBlock≠some q:=fun e=>by have:=(t.z.cells e).1;omega
   have aU:u.ownBlock≠some g:=fun e=>by have:=(t.z.cells e).1;omega
   have aW:u.ownBlock≠some w.heap.size:=fun e=>by have:=(t.z.cells e).1;omega
   obtain ⟨wd,A⟩:=Xn w4.drew;have j:Kep (fun _=>True) w4 wd:=by rw [<- A];exact Zcg _ _
   have ba:w4.heap.size=wd.heap.size:=by rw [<- A];rfl
   have c1:wd.cell? ⟨q,1,none⟩=some u:=by rw [cell_of_row wd q 1 _ _ _ ((j.block q (by omega) trivial).trans y.z)];rfl
   have G:=Y4 (fun W (hW:Kep (fun b=>b≠g/\u.ownBlock≠some b) wd W)=>(show W.cell? ⟨q,1,none⟩=some u from (hW.cell (by omega) ⟨by omega,ak⟩ 1).trans c1));have Y:=Y4 (t.z.keep j (fun _ _ _=>trivial) (fun _ _=>trivial));have aJ:=Y4 ((j.block q (by omega) trivial).trans y.z);have an:=Y4 ((j.block w.heap.size (by omega) trivial).trans ah.z);have am:=Y4 (aK.z.keep j trivial (fun _ _=>trivial) (by omega));have ax:=Y4 (aN.z.trans (j.mono fun _ _=>trivial));rw [A];clear A j c1 t y ah aK aN;repeat (refine RS.take (by rfl) (by intro W hW;have f1:=G.z W hW;go_simp;with_reducible rfl) ?_;simp only [Act.put,Xm,Xo,Xl])
   refine RS.alone (by rfl) (fun K I => ?_);go_simp;refine (aB.z wd am.z).mono ?_;rintro e w5 ⟨rfl,af,n⟩;go_simp;refine I.z _ _ (n.mono fun _ h=>h.1) ?_;clear I K;have a9:=n.size;have D:=Y4 (Y.z.keep n (fun _ _ h=>h.elim) (fun k f=>by have:=(Y.z.cells f).1;omega));have aq:=Y4 ((n.block q (by omega) (by omega)).trans aJ.z);have ae:=Y4 ((n.block w.heap.size (by omega) (by omega)).trans an.z);have ai:=Y4 af;have ay:=Y4 (ax.z.trans n);clear af n G Y aJ an am ax aB;repeat (refine RS.take (by rfl) (by intro W hW;go_simp;with_reducible rfl) ?_;simp only [Act.put,Xm,Xo,Xl])
   refine RS.alone (by rfl) (fun K I => ?_);go_simp;refine I.z _ _ (Zu _ _ _) ?_;clear I K;refine RS.alone (by rfl) (fun K I => ?_);refine ZgB Zx1 _ _ rfl (q+1) u fs w5 [.string ⟨s1.toArray⟩,.string ⟨s2.toArray⟩] (s1,s2) rfl rfl D.z (fun _ _ h=>h.elim) (ZgZ.2 rfl) rfl (by unfold maxLen;omega) (by omega) (by omega) ?_;intro v6 J az a1 ab aX;obtain ⟨g6,c6,rfl⟩:=aX;refine I.z _ _ (ab.mono fun _ h=>h.2) ?_;clear I K;have c:Kep (fun b=>u.ownBlock≠some b) w5 J:=(Zu _ _ _).trans ab;have U:=Y4 az;have B6:=(c.block q (by omega) ak).trans aq.z;have aD:=Y4 B6;have ad:=Y4 ((c.block w.heap.size (by omega) aW).trans ae.z);have ar:=Y4 (ai.z.keep c aU (fun k f e=>by have:=(D.z.cells e).1;omega) (by omega));have ao:=Y4 (ay.z.andThen c (fun k f _ e=>by have:=(D.z.cells e).1;omega));have a8:=c.size;clear c az a1 ab D aq ae ai ay;repeat (refine RS.take (by rfl) (by intro W hW;go_simp;with_reducible rfl) ?_;simp only [Act.put,Xm,Xo,Xl])
   refine RS.done ?_;simp only [Xh,Xv,XaW,Xap,XL,Nat.reduceAdd];obtain ⟨k0,k1,k2,k3,_,_⟩:=Two.all (show Two J q 57 (.int .i64 z) u from B6) (.int .i64 z);have a:Kep (fun b=>b≠q) J (J.setCell ⟨q,1,none⟩ (.slice (some ⟨g6,0,none⟩) (fs.length+1) c6)):=ZbY _;have aP:=Y4 (U.z.keep a (fun _ _ h=>h.elim) (fun k f=>by have:=(U.z.cells f).1;omega));have a2:=Y4 (show (J.setCell ⟨q,1,none⟩ (.slice (some ⟨g6,0,none⟩) (fs.length+1) c6)).heap[q]? = some (.cells #[.int .i64 z,.slice (some ⟨g6,0,none⟩) (fs.length+1) c6] 57 (0,0)) from heap_setCell_same J q 1 _ _ _ aD.z);have aQ:=Y4 ((a.block w.heap.size (by omega) (by omega)).trans ad.z);have au:=Y4 (ar.z.keep a (by omega) (fun k f=>by omega) (by omega));have aR:=Y4 (ao.z.andThen a (fun k f _=>by omega));have aZ:Y5 (ZC Zae 123 (q+1) (fun _=>False) (J.setCell ⟨q,1,none⟩ (.slice (some ⟨g6,0,none⟩) (fs.length+1) c6)) (.slice (some ⟨g6,0,none⟩) (fs.length+1) c6) (ZbE (i+1) ([],m,p)).1):=Y4 (by rw [aa.z];exact aP.z);have a4:Y5 (Rd B (J.setCell ⟨q,1,none⟩ (.slice (some ⟨g6,0,none⟩) (fs.length+1) c6)) g (ZbE (i+1) ([],m,p)).2.1 (ZbE (i+1) ([],m,p)).2.2):=Y4 (by rw [aa.z];exact au.z);clear a B6 U aD ad ar ao aP au aa;go_wp2_with fail;have E:=aY.z;go_roundw
   case rel=>exact ⟨i+1,_,by omega,by go_num,aZ,a2,aQ,a4,aR⟩
   case measure=>simp [intOf];omega
  ·obtain rfl:i=N:=by omega
   have q1:decide ((i:Int)<(i:Int))=false:=by simp
   obtain ⟨k0,k1,_,_,_,_⟩:=Two.all (show Two wr q 57 (.int .i64 z) u from x.z) (.int .i64 z);obtain ⟨m0,m1,m2,m3,m4,m5⟩:=Two.all (show Two wr w.heap.size 57 (.int .i64 0) (.slice none 0 0) from HA.z) (.int .i64 z);have HX:=Y4 (Two.s01 (show Two wr w.heap.size 57 (.int .i64 0) (.slice none 0 0) from HA.z) (.int .i64 z) u);have a:Kep (fun b=>b≠w.heap.size) wr ((wr.setCell ⟨w.heap.size,0,none⟩ (.int .i64 z)).setCell ⟨w.heap.size,1,none⟩ u):=ZfP _ _
   have HQ:Y5 (Zls B g (Zft l o) w (.returned (.agg #[.int .i64 z,u])) ((wr.setCell ⟨w.heap.size,0,none⟩ (.int .i64 z)).setCell ⟨w.heap.size,1,none⟩ u)):=Y4 (by
    rw [aL.z];refine ⟨u,rfl,?_,HR.z.keep a (by omega) (fun k f=>by omega) (by omega),HK.z.andThen a (fun k f _=>by omega)⟩;have ap:=F.z.keep a (fun _ _ h=>h.elim) (fun k f=>by have:=(F.z.cells f).1;omega);exact ap.ron (fun k f=>⟨by have:=(F.z.cells f).1;omega,(ap.cells f).2.2⟩) (fun _ _ h=>h.elim))
   obtain ⟨pu,cu,hu,_⟩:=(ZC.any F.z).shape;rw [hu] at k1 HX HQ;clear a F x HA HR HK E aL r;go_wp2_with fail;refine bodyPost_ret (Zjv rfl underlying57 rfl ZhK _ _ w.heap.size _ _ rfl HX.z) rfl HQ.z
end EV
namespace EV
open RowKit MM EM VM
open VP
variable {l:Xu}
def Zbv (l:Xu):Ev×Xu×Int:=match ZfK l with
 | some (e,r)=>(e,r,0)
 | none=>((0,[]),[],100)
theorem Zev {r:Xu} {e:Ev} (h:ZfK l=some (e,r)):Zbv l=(e,r,0):=by unfold Zbv;rw [h]
theorem ZfM (h:ZfK l=none):Zbv l=((0,[]),[],100):=by unfold Zbv;rw [h]
theorem ZAW (h:(Zft l false).2.2=true):ZfK l=none:=by
 unfold ZfK;cases hr:rdE l with
 | none=>rfl
 | some p =>
   obtain ⟨e,r⟩:=p;rw [ZtW false hr] at h;cases h
theorem ZqH (h:(Zft l false).2.2=false):rdE l=some ((Zft l false).1,(Zft l false).2.1):=by
 cases hr:rdE l with
 | none=>rw [ZAJ false hr] at h;cases h
 | some p =>
   obtain ⟨e,r⟩:=p;rw [ZtW false hr]
theorem ZAU (h:(Zft l false).2.2=false) (a:ZH (Zft l false).1≠0):ZfK l=none:=by
 unfold ZfK;rw [ZqH h];dsimp only;rw [Xc a]
theorem Zya (h:(Zft l false).2.2=false) (a:ZH (Zft l false).1=0):ZfK l=some ((Zft l false).1,(Zft l false).2.1):=by
 unfold ZfK;rw [ZqH h];dsimp only;rw [Xe a]
end EV
namespace EV
open RowKit MM EM VM
open VP
theorem Za0 {T:Nat->Prop} {d e a:World} {u:Value} {fs:List Fld} (h:ZB Zae (Zej d e) e u fs) (f:Kep T e a) (g:∀b,d.heap.size<=b->T b):ZB Zae (Zej d a) a u fs :=
 ZB.keep h (f.mono fun b i=>g b i.1) fun b i c=>⟨c.1,c.2.keep f (g b c.1)⟩
def ZwQ (s:Ev×Xu×Int) (w:World) (e:Ending) (w':World):Prop :=
 ∃u v,e=.returned (.tuple #[.agg #[.int .i64 s.1.1,u],v,.int .i64 s.2.2])/\ZB Zae (Zej w w') w' u s.1.2/\Zd w.heap.size w' v s.2.1/\Below w.heap.size w w'
theorem ZnL (v:Value) (l:Xu) (w:World) (hv:Zv w v l) (hl:l.length<=1000000000000):Calls prog 246 #[v] w (ZwQ (Zbv l) w):=by
 have aw:prog.follows .mixedOrders=true:=by kernel_rfl
 obtain ⟨pv,cv,rfl,_⟩:=hv.shape;obtain ⟨z,fs,l1,o1,ad⟩:∃z fs l1 o1,Zft l false=((z,fs),l1,o1):=⟨_,_,_,_,rfl⟩;have D:=ZAW (l:=l);have C:=ZAU (l:=l);have o:=Zya (l:=l);rw [ad] at D C o;have q:=Y4 D;have m:=Y4 C;have g:=Y4 o;obtain ⟨wa,r⟩:=Xn ((w.alloc (.cells #[.int .i64 0,.slice none 0 0] 57)).alloc (.cells #[.slice pv l.length cv,.bool false] 326));have aa:Below w.heap.size w wa:=by rw [<- r];exact ((Below.refl _ _).alloc (Xa _) _).alloc (by simp) _
 have aC:wa.heap.size=w.heap.size+2:=by rw [<- r];simp
 have t0:Two wa w.heap.size 57 (.int .i64 0) (.slice none 0 0):=by
  rw [<- r];exact (ZgA w 57 _ _).keep (Zu (fun _=>True) _ _) trivial
 have am:Rd w.heap.size wa (w.heap.size+1) l false:=by
  refine ⟨.slice pv l.length cv,?_,BIn.below hv aa⟩;rw [<- r];have:=heap_alloc_new (w.alloc (.cells #[.int .i64 0,.slice none 0 0] 57)) (.cells #[.slice pv l.length cv,.bool false] 326);simp only [World.size_alloc] at this;exact this
 have HE:=Y4 (ZjY w.heap.size (w.heap.size+1) l false wa am (by omega));rw [ad] at HE
 have f:Y5 (∀W a b,Two W w.heap.size 57 a b->Below w.heap.size w W->ZfK l=none ->
   ZwQ (Zbv l) w (.returned (.tuple #[.agg #[.int .i64 0,.slice none 0 0],.slice none 0 0,.int .i64 100])) ((W.setCell ⟨w.heap.size,0,none⟩ (.int .i64 0)).setCell ⟨w.heap.size,1,none⟩ (.slice none 0 0))):=Y4 (fun W a b ht hb hn=>by
  rw [ZfM hn];exact ⟨_,_,rfl,ZB.nil_ _ _,World.ownsRow_nil _ _ _ _,hb.trans ((ZfP (.int .i64 0) (.slice none 0 0)).below (B:=w.heap.size) (Xal ht.lt) (fun k hk=>by omega))⟩)
 have T0:=Y4 t0;have ar:=Y4 aa;have au:=Y4 r;clear D C o ad am t0 aa hv r;go_enter func246,ntmps246;go_wp2_with fail;rw [au.z];refine HE.z.mono ?_;rintro e w1 ⟨u,rfl,hu,F,N⟩;have F:Rd w.heap.size w1 (w.heap.size+1) l1 o1:=F;have aB:=N.size;have t1:Two w1 w.heap.size 57 (.int .i64 0) (.slice none 0 0):=T0.z.keep N (by omega);have i:=Y4 (t1.s01 (.int .i64 z) u);have t:Kep (fun b=>b≠w.heap.size) w1 ((w1.setCell ⟨w.heap.size,0,none⟩ (.int .i64 z)).setCell ⟨w.heap.size,1,none⟩ u):=ZfP _ _;obtain ⟨a0,a1,a2,a3,a4,a5⟩:=t1.all (.int .i64 z);obtain ⟨O,U⟩:=Xn ((w1.setCell ⟨w.heap.size,0,none⟩ (.int .i64 z)).setCell ⟨w.heap.size,1,none⟩ u);rw [U] at i t;have aA:=t.size;have y:=Y4 U;have aj:Below w.heap.size w O:=ar.z.trans ((N.below (B:=w.heap.size) (by omega) (fun k hk=>by omega)).trans (t.below (by omega) (fun k hk=>by omega)));have Z:ZB Zae (Zej wa O) O u fs:=Za0 hu t (fun b hb=>by omega);have aq:Rd w.heap.size O (w.heap.size+1) l1 o1:=F.keep t (by omega) (fun k hk=>by omega) (by omega);have ac:=Y4 aj;have A:=Y4 Z;obtain ⟨vl,I,ai⟩:=aq;have J:=Y4 ai;have g0:=cell_of_row O (w.heap.size+1) 0 _ _ _ I;have g1:=cell_of_row O (w.heap.size+1) 1 _ _ _ I;obtain ⟨pu,cu,ax,_⟩:=Z.shape;subst ax;have e0:=i.z.c0;have e1:=i.z.c1;have E:=Y4 I;rw [<- y.z] at g0 g1 e0 e1;clear hu F N t1 t U aj Z ai I HE;cases o1 with
 | true =>
   have HQ:=Y4 (f.z O _ _ i.z ac.z (q.z rfl));have HX:=Y4 (i.z.s01 (.int .i64 0) (.slice none 0 0));obtain ⟨_,_,b2,b3,b4,b5⟩:=i.z.all (.int .i64 0);rw [<- y.z] at HQ HX b2 b3 b4 b5;clear A J E f q m g y i;go_wp2_with fail;refine bodyPost_ret (Zgs (p:=2) (u:=3) (v:=4) rfl underlying57 rfl ZhK _ _ w.heap.size _ _ rfl HX.z) rfl HQ.z
 | false =>
   go_wp2_with fail;rw [y.z];rw [y.z] at g0 g1 e0 e1;refine (Zer z _ fs O A.z.any).mono ?_;rintro e R ⟨rfl,j⟩;have S:=i.z.keep (Za (fun _=>True) j) trivial;have M:=Y4 (ac.z.trans (j.mono ac.z.size));have s:=Y4 S;have az:=j.size;have ah:=(j.block (w.heap.size+1) (by omega)).trans E.z;have ag:=Y4 (J.z.below (j.mono (by omega)));have ae:=Y4 (Za0 A.z (Za (fun _=>True) j) fun _ _=>trivial);obtain ⟨c,hc⟩:=Xn (ZH (z,fs));rw [hc] at m g ⊢
   by_cases hz:c=0
   ·subst hz;have af:=g.z (by trivial) rfl;have al:=Y4 (Zev af);have k0:=cell_of_row R (w.heap.size+1) 0 _ _ _ ah
    have ap:l1.length<=1000000000000:=by
     have:=Xr List.length (ZdB af).1;rw [Xd] at this;omega
    clear j S ah af hc q m g A J E i f g0 g1 e0 e1 a0 a1 a2 a3 a4 a5;go_wp2_with fail;refine RS.Zal (T:=fun b=>b<R.heap.size) [(0,true),(1,true),(2,true),(3,false)] aw (by kernel_rfl) (fun _ _ d _ _ h=>by cases d<;>exact h) ?_;simp only [RS.Zt,XC,XN,XU,XV,XS];obtain ⟨wd,X⟩:=Xn R.drew;have n:Below R.heap.size R wd:=by rw [<- X];exact (Below.refl _ _).drew
    have L:=s.z.below n s.z.lt
    have G:=Y4 (fun W (hW:Kep (fun b=>b<R.heap.size) wd W)=>(show W.cell? ⟨w.heap.size,0,none⟩=some (.int .i64 z)/\W.cell? ⟨w.heap.size,1,none⟩=some (.slice pu fs.length cu)/\W.cell? ⟨w.heap.size+1,0,none⟩=some vl from
     ⟨(L.keep hW (by omega)).c0,(L.keep hW (by omega)).c1,(hW.cell (by have:=n.size;omega) (by omega) 0).trans ((n.cell (p:=⟨w.heap.size+1,0,none⟩) (show w.heap.size+1<R.heap.size by omega)).trans k0)⟩))
    have an:=Y4 (Zr9 vl l1 wd (Zv.below (BIn.row ag.z (by omega)) n) ap);have V:=Y4 L;have ao:=Y4 n;have ak:=Y4 (Za0 ae.z (Za (fun _=>True) n) fun _ _=>trivial);rw [X];have av:=n.size;clear X n L s ae ag k0;repeat (refine RS.take (by rfl) (by intro W hW;obtain ⟨f1,f2,f3⟩:=G.z W hW;go_simp;with_reducible rfl) ?_;simp only [Act.put,Xm,Xo,Xl])
    refine RS.alone (by rfl) (fun K hK => ?_);go_simp;refine an.z.mono ?_;rintro e w4 ⟨v4,rfl,ab,x⟩;go_simp;refine hK.z _ _ (Za _ x) ?_;clear hK K;have Y:=V.z.below x V.z.lt;obtain ⟨_,_,b2,b3,b4,b5⟩:=Y.all (.int .i64 z);have HX:=Y4 (Y.s01 (.int .i64 z) (.slice pu fs.length cu));have ay:=x.size;have H:Kep (fun b=>b≠w.heap.size) w4 ((w4.setCell ⟨w.heap.size,0,none⟩ (.int .i64 z)).setCell ⟨w.heap.size,1,none⟩ (.slice pu fs.length cu)):=ZfP _ _
    have HQ:Y5 (ZwQ (Zbv l) w (.returned (.tuple #[.agg #[.int .i64 z,.slice pu fs.length cu],v4,.int .i64 0])) ((w4.setCell ⟨w.heap.size,0,none⟩ (.int .i64 z)).setCell ⟨w.heap.size,1,none⟩ (.slice pu fs.length cu))):=Y4 (by
     rw [al.z];refine ⟨_,_,rfl,?_,?_,?_⟩
     ·have h1:=Za0 ak.z (Za (fun _=>True) x) fun _ _=>trivial;exact (Za0 h1 H (fun b hb=>by omega)).weak fun b _ hb=>⟨by have:=hb.1;omega,hb.2⟩
     ·exact Zd.weaken (GB.Zd.kepOwn ab H (fun k hk=>by have:=(World.ownsRow.lt ab k hk).1;omega)) (by omega)
     ·exact (M.z.trans ((ao.z.trans (x.mono av)).mono M.z.size)).trans (H.below (by omega) (fun k hk=>by omega)))
    clear Y ab x H V ao ak G an al M;refine RS.done ?_;simp only [Xh,Xv,XaW,Xap,XL,Nat.reduceAdd];go_wp2_with fail;refine bodyPost_ret (Zgs (p:=2) (u:=3) (v:=4) rfl underlying57 rfl ZhK _ _ w.heap.size _ _ rfl HX.z) rfl HQ.z
   ·have q1:(c != 0)=true:=by rw [Xah];exact hz
    have HQ:=Y4 (f.z R _ _ s.z M.z (m.z (by trivial) hz));have HX:=Y4 (s.z.s01 (.int .i64 0) (.slice none 0 0));obtain ⟨_,_,b2,b3,b4,b5⟩:=s.z.all (.int .i64 0);clear A J E f q m g y i j S ah ae ag;go_wp2_with fail;refine bodyPost_ret (Zgs (p:=2) (u:=3) (v:=4) rfl underlying57 rfl ZhK _ _ w.heap.size _ _ rfl HX.z) rfl HQ.z
end EV
namespace SR
open RowKit MM VM
open EM (Fld Ev)
open EV (Zae Zbv ZnL ZhK Zej IsF Za0)
variable {S T S':Nat->Prop} {w w':World} {g b:Nat} {l m:Xu} {o:Bool} {v:Value}
def Ze (m:Nat) (l:Xu) (o:Bool):Nat×Xu×Bool:=if (Zs l).2.2=0/\(Zs l).1<=m then ((Zs l).1,VG.Zau l,o) else (0,[],true)
def evS (l:Xu) (o:Bool):Ev×Xu×Bool:=((Zbv l).1,(Zbv l).2.1,o||(Zbv l).2.2 != 0)
def Rd (S:Nat->Prop) (w:World) (g:Nat) (l:Xu) (o:Bool):Prop:=∃v,w.heap[g]? = some (.cells #[v,.bool o] 230 (0,0))/\BOn S w v l
theorem Rd.lt (h:Rd S w g l o):g<w.heap.size:=by obtain ⟨v,h,_⟩:=h;exact (Xq.1 h).1
theorem Rd.keep (h:Rd S w g l o) (a:Kep T w w') (e:T g) (c:∀b,b<w.heap.size->S b->T b):Rd S w' g l o:=by
 have d:=h.lt;obtain ⟨v,h,f⟩:=h;exact ⟨v,(a.block g d e).trans h,f.keep (a.mono' fun k a hs=>c k a hs) fun _ _ h=>h⟩
theorem Rd.below (h:Rd S w g l o) (a:Below w.heap.size w w'):Rd S w' g l o:=h.keep (Za (fun _=>True) a) trivial fun _ _ _=>trivial
theorem Rd.weak (h:Rd S w g l o) (c:∀b,b<w.heap.size->S b->T b):Rd T w g l o:=by
 obtain ⟨v,h,a⟩:=h;exact ⟨v,h,a.weak c⟩
theorem Zgr (h:Rd S w g l o) (a:¬S' g) (c:BOn S' w v m):Rd S' (w.setCell ⟨g,0,none⟩ v) g m o:=by
 obtain ⟨v0,h,_⟩:=h;exact ⟨v,heap_setCell_same w g 0 _ _ v h,c.keep (Zy a v) fun _ _ h=>h⟩
theorem Zju (h:Rd S w g l o) (a:¬S' g) (c:BOn S' w v m):Rd S' ((w.setCell ⟨g,0,none⟩ v).setCell ⟨g,1,none⟩ (.bool true)) g m true:=by
 obtain ⟨v0,h,_⟩:=h;exact ⟨v,heap_setCell_same _ g 1 _ _ (.bool true) (heap_setCell_same w g 0 _ _ v h),(c.keep (Zy a v) fun _ _ h=>h).keep (Zy a (.bool true)) fun _ _ h=>h⟩
def ZfA (S:Nat->Prop) (g:Nat) (x:Value) (l:Xu) (o:Bool) (w:World) (e:Ending) (w':World):Prop:=e=.returned x/\Rd S w' g l o/\Kep (fun b=>b≠g) w w'
def IsU (w:World) (b:Nat):Prop:=∃a fr,w.heap[b]? = some (.cells a 5 fr)
theorem IsU.keep (h:IsU w b) (d:Kep T w w') (c:T b):IsU w' b:=by
 obtain ⟨a,fr,h⟩:=h;exact ⟨a,fr,(d.block b (Xq.1 h).1 c).trans h⟩
theorem IsU.lt (h:IsU w b):b<w.heap.size:=by obtain ⟨_,_,h⟩:=h;exact (Xq.1 h).1
def Zls (g:Nat) (s:Ev×Xu×Bool) (w:World) (e:Ending) (w':World):Prop :=
 ∃u,e=.returned (.agg #[.int .i64 s.1.1,u])/\ZB Zae (Zej w w') w' u s.1.2/\Rd (fun b=>w.heap.size<=b/\IsU w' b) w' g s.2.1 s.2.2/\Kep (fun b=>b≠g) w w'
theorem Zbs (S S':Nat->Prop) (g:Nat) (l m:Xu) (o:Bool) (v:Value) (c:Int) (w:World) (h:Rd S w g l o) (n:¬S' g) (e:BOn S' w v m) :
  Calls prog 207 #[.pointer (some ⟨g,0,none⟩),v,.int .i64 c] w (ZfA S' g (.tuple #[]) m (o||c != 0) w):=by
 have f:=Y4 h;obtain ⟨v0,a,_⟩:=h;have d:=Y4 e;have f0:=cell_of_row w g 0 _ _ _ a;have f1:=cell_of_row w g 1 _ _ _ a;have f2:=frozen_of_row w g 0 _ _ a;have f3:=frozen_of_row w g 1 _ _ a;obtain ⟨p,c1,rfl,_⟩:=e.shape
 by_cases k:c=0
 ·subst k;have j:(o||((0:Int) != 0))=o:=by simp
  rw [j];have i:=Y4 (show ZfA S' g (.tuple #[]) m o w (.returned (.tuple #[])) (w.setCell ⟨g,0,none⟩ (.slice p m.length c1)) from ⟨rfl,Zgr f.z n d.z,Zy (by simp) _⟩);clear e d f a;go_enter func207,ntmps207;go_wp2_with fail;refine bodyPost_end (results_none rfl _ _ _) rfl ?_;exact i.z
 ·have t0:(c != 0)=true:=by rw [Xah];exact k
  have j:(o||(c != 0))=true:=by rw [t0];simp
  rw [j];have i:=Y4 (show ZfA S' g (.tuple #[]) m true w (.returned (.tuple #[])) ((w.setCell ⟨g,0,none⟩ (.slice p m.length c1)).setCell ⟨g,1,none⟩ (.bool true)) from ⟨rfl,Zju f.z n d.z,(Zy (by simp) _).trans (Zy (by simp) _)⟩);clear e d f a;go_enter func207,ntmps207;go_wp2_with fail;refine bodyPost_end (results_none rfl _ _ _) rfl ?_;exact i.z
theorem ZaQ (S:Nat->Prop) (g:Nat) (m:Nat) (l:Xu) (o:Bool) (w:World) (hm:m<=1099511627776) (h:Rd S w g l o) (L:¬S g) :
  Calls prog 206 #[.pointer (some ⟨g,0,none⟩),.int .i64 m] w (ZfA S g (.int .i64 (Ze m l o).1) (Ze m l o).2.1 (Ze m l o).2.2 w):=by
 have I:=Y4 h;obtain ⟨v,G,F⟩:=h;have f0:w.cell? ⟨g,0,none⟩=some v:=by rw [cell_of_row w g 0 _ _ _ G];rfl
 have z:=Y4 (VG.ZCA S v l w F);have i:=Y4 (fun m v k q (J:Rd S q g l o) (r:BOn S q v m)=>Zbs S S g l m o v k q J L r);have A:=Zba l
 have c:(Zs l).2.2≠0->(Zs l).1=0/\VG.Zau l=[]:=fun D=>by
  refine ⟨?_,by unfold VG.Zau;rw [Xc D]⟩;rcases A.2.2.1 with e|e|e
  ·exact absurd e D
  ·rw [e]
  ·rw [e]
 have hn:=A.1;unfold Ze;generalize (Zs l).1=n at *;generalize (Zs l).2.2=k at *;generalize VG.Zau l=R at *;clear F G A
 by_cases x:n<=m
 ·have f:(if k=0/\n<=m then (n,R,o) else (0,[],true))=(n,R,o||k != 0):=by
   by_cases t:k=0
   ·subst t;rw [Xe ⟨rfl,x⟩];simp
   ·rw [Xc (fun h=>t h.1),(c t).1,(c t).2];have:(k != 0)=true:=by rw [Xah];exact t
    rw [this];simp
  rw [f];have M:decide ((n:Int)>(m:Int))=false:=Xz (by omega);have N:IntKind.u64.wrap (m:Int)=(m:Int):=by rw [IntKind.wrap_u64];omega
  have t3:IntKind.i64.wrap (n:Int)=(n:Int):=by rw [IntKind.wrap_i64];omega
  dsimp only;clear f c;go_enter func206,ntmps206;go_wp2_with fail;refine z.z.mono ?_;rintro e q ⟨E,rfl,j,a⟩;have d:=I.z.below a;have s:=Y4 (i.z R E k q d j);have p:=Y4 a;clear j a d z i;go_wp2_with fail;refine s.z.mono ?_;rintro e H ⟨rfl,r,y⟩;have B:=Y4 r;have C:=Y4 y;clear r y s;go_wp2_with fail;go_ret;exact ⟨rfl,B.z,(Za _ p.z).trans C.z⟩
 ·have f:(if k=0/\n<=m then (n,R,o) else (0,[],true))=(0,[],true):=by rw [Xc (fun h=>x h.2)]
  rw [f];have M:decide ((n:Int)>(m:Int))=true:=Xs (by omega);have N:IntKind.u64.wrap (m:Int)=(m:Int):=by rw [IntKind.wrap_u64];omega
  dsimp only;clear f c;go_enter func206,ntmps206;go_wp2_with fail;refine z.z.mono ?_;rintro e q ⟨E,rfl,j,a⟩;have d:=I.z.below a;have s:=Y4 (i.z [] (.slice none 0 0) 120 q d (BOn.nil_ _ _));have p:=Y4 a;clear j a d z i;go_wp2_with fail;refine s.z.mono ?_;rintro e H ⟨rfl,r,y⟩;have u:Rd S H g [] true:=by have:=r;simpa using this
  have B:=Y4 u;have C:=Y4 y;clear r u y s;go_wp2_with fail;go_ret;exact ⟨rfl,B.z,(Za _ p.z).trans C.z⟩
theorem ZjY (S:Nat->Prop) (g:Nat) (l:Xu) (o:Bool) (w:World) (hl:l.length<=1000000000000) (h:Rd S w g l o) :
  Calls prog 208 #[.pointer (some ⟨g,0,none⟩)] w (Zls g (evS l o) w):=by
 obtain ⟨R,hR⟩:=Xn w.heap.size;have ag:g<R:=by rw [<- hR];exact h.lt
 obtain ⟨t,f⟩:=Xn (w.alloc (.cells #[.int .i64 0,.slice none 0 0] 57));have x:Below w.heap.size w t:=by rw [<- f];exact (Below.refl _ _).alloc (Xa _) _
 have T0:Y5 (Two t R 57 (.int .i64 0) (.slice none 0 0)):=Y4 (by rw [<- f,<- hR];exact ZgA w 57 _ _);have ae:t.heap.size=R+1:=by rw [<- f,<- hR];simp
 have L:=h.below x;have C:=Y4 L;obtain ⟨v,hc,Y⟩:=L;have f0:t.cell? ⟨g,0,none⟩=some v:=by rw [cell_of_row t g 0 _ _ _ hc];rfl
 have HG:=Y4 (ZnL v l t Y.brow hl);obtain ⟨z,fs,rest,N,G⟩:∃z fs rest N,Zbv l=((z,fs),rest,N):=⟨_,_,_,_,rfl⟩;unfold evS;rw [G] at HG ⊢;dsimp only;have V:=Y4 f;have ab:=Y4 x;rw [<- f] at f0;obtain ⟨pv,cv,rfl,_⟩:=Y.shape;clear Y hc h f x G;go_enter func208,ntmps208;go_wp2_with fail;rw [V.z];refine HG.z.mono ?_;rintro e I ⟨u,v1,rfl,M,k,y⟩;dsimp only at M k ⊢;obtain ⟨B,A,rfl,_⟩:=M.shape;obtain ⟨p1,c1,rfl,_⟩:=(Zd.brow k).shape;have ad:=y.size;obtain ⟨q,hq⟩:=Xn I.heap.size;obtain ⟨s,r⟩:=Xn (I.alloc (.cells #[.int .i64 z,.slice B fs.length A] 57));have j:Below I.heap.size I s:=by rw [<- r];exact (Below.refl _ _).alloc (Xa _) _
 have ac:=j.size;have d:Below t.heap.size t s:=grow y j;have X2:Y5 (Two s q 57 (.int .i64 z) (.slice B fs.length A)):=Y4 (by rw [<- r,<- hq];exact ZgA I 57 _ _);have T2:=Y4 (T0.z.below d (by omega))
 have E:BOn (fun b=>R+1<=b/\IsU s b) s (.slice p1 rest.length c1) rest:=(BOn.of_own (Zd.keep k j)).weak fun b _ c=>by
  have h1:=(World.ownsRow.lt k b c).1;exact ⟨by omega,(Zbn (Zd.keep k j) c).2⟩
 have HQ:=Y4 (Zbs S (fun b=>R+1<=b/\IsU s b) g l rest o _ N s (C.z.below d) (fun h=>by have:=h.1;omega) E);have J:=Y4 (Za0 M (Za (fun _=>True) j) fun _ _=>trivial);have aa:=Y4 d;have W:=Y4 r;clear M k y j E d r HG C;go_wp2_with fail;rw [W.z];refine HQ.z.mono ?_;rintro e U ⟨rfl,H,a⟩;have af:=a.size;have Z:g≠q:=by omega
 have X3:=X2.z.keep a (fun e=>Z e.symm);have t3:=T2.z.keep a (by omega);obtain ⟨x0,x1⟩:=And.intro X3.c0 X3.c1;obtain ⟨a0,a1,a2,a3,a4,a5⟩:=t3.all (.int .i64 z);have HX:=Y4 (t3.s01 (.int .i64 z) (.slice B fs.length A));have n:Kep (fun b=>b≠R) U ((U.setCell ⟨R,0,none⟩ (.int .i64 z)).setCell ⟨R,1,none⟩ (.slice B fs.length A)):=ZfP _ _;have F:Kep (fun b=>b≠g) w s:=(Za _ ab.z).trans (Za _ aa.z)
 have D:Y5 (Zls g ((z,fs),rest,o||N != 0) w (.returned (.agg #[.int .i64 z,.slice B fs.length A])) ((U.setCell ⟨R,0,none⟩ (.int .i64 z)).setCell ⟨R,1,none⟩ (.slice B fs.length A))):=Y4 (by
  have O:=Za0 J.z a (fun b c=>by omega);have X:=Za0 O n (fun b c=>by omega);refine ⟨_,rfl,X.weak fun b _ c=>⟨by have:=c.1;omega,c.2⟩,?_,(F.trans a).andThen n fun i hi _=>by omega⟩;exact (H.keep n (by omega) (fun b _ c=>by have:=c.1;omega)).weak fun b _ c=>⟨by have:=c.1;omega,(c.2.keep a (by have:=c.1;omega)).keep n (by have:=c.1;omega)⟩)
 clear X3 t3 a n H F J X2 T2 HQ;go_wp2_with fail;refine bodyPost_ret (Zjv (p:=2) rfl underlying57 rfl ZhK _ _ R _ _ rfl HX.z) rfl D.z
end SR
namespace SR
open RowKit MM VM SM
open EM (Fld Ev ZH ZiS Z0 Zcd ZfK Zg3 ZdB)
open EV (Zbv Zev ZfM)
variable {m n:Nat} {o:Bool} {a:Int} {b:Xu}
theorem Zhd {l:Xu} (o:Bool) (h:(Zs l).2.2=0) (c:(Zs l).1<=m):Ze m l o=((Zs l).1,l.drop (Zs l).2.1,o):=by
 unfold Ze VG.Zau;rw [Xe ⟨h,c⟩,Xe h]
theorem ZbS (m:Nat) (l:Xu) (o:Bool):(Ze m l o).1<=m:=by
 unfold Ze
 split
 ·rename_i h;exact h.2
 ·exact XX _
theorem Zci (m:Nat) (l:Xu) (o:Bool):(Ze m l o).2.1.length<=l.length:=by
 unfold Ze VG.Zau
 split
 ·dsimp only
  split
  ·rw [Xp];omega
  ·simp
 ·simp
theorem ZdN (h:n<=m) (c:n<18446744073709551616) (r:Xu) (o:Bool):Ze m (Zb n++r) o=(n,r,o):=by
 have e:=ZdU n c r;rw [Zhd o (by rw [e]) (by rw [e];exact h),e];dsimp only;rw [Xas]
theorem ZcK {l:Xu} (h:(Ze m l o).2.2=false):o=false/\Zb (Ze m l o).1++(Ze m l o).2.1=l:=by
 by_cases c:(Zs l).2.2=0/\(Zs l).1<=m
 ·rw [Zhd o c.1 c.2] at h ⊢;exact ⟨h,ZdC (XaL rfl (XaL rfl c.1))⟩
 ·unfold Ze at h;rw [Xc c] at h;cases h
theorem ZCy {e:Ev} (hf:ZiS e) (h:ZH e=0) (r:Xu) (o:Bool):evS (Z0 e++r) o=(e,r,o):=by
 unfold evS;rw [Zev (Zg3 hf h r)];simp
theorem ZAI {l:Xu} (h:(evS l o).2.2=false):o=false/\Z0 (evS l o).1++(evS l o).2.1=l/\ZiS (evS l o).1/\ZH (evS l o).1=0:=by
 unfold evS at h ⊢;cases hg:ZfK l with
 | none=>rw [ZfM hg] at h;simp at h
 | some p =>
   obtain ⟨e,r⟩:=p;rw [Zev hg] at h ⊢;dsimp only at h ⊢;obtain ⟨c,f,d⟩:=ZdB hg;exact ⟨by simpa using h,c,f,d⟩
theorem ZAK (l:Xu) (o:Bool):(evS l o).2.1.length<=l.length:=by
 unfold evS;cases hg:ZfK l with
 | none=>rw [ZfM hg];simp
 | some p =>
   obtain ⟨e,r⟩:=p;rw [Zev hg];have:=Xr List.length (ZdB hg).1;rw [Xd] at this;dsimp only;omega
abbrev ZfX:=Int×(Int×Int)
def ZW:Nat->Nat->Xu->Bool->List ZfX×Xu×Bool
 | 0,_,l,o=>([],l,o)
 | f+1,n,l,o=>if n=0 then ([],l,o) else
   let a:=Ze 1099511627776 l o
   let b:=Ze a.2.1.length a.2.1 a.2.2
   let r:=ZW f (n - 16) b.2.1 b.2.2
   (((min n 16:Nat),((a.1:Int),(b.1:Int)))::r.1,r.2)
def Zad:Nat->Int->Xu->Bool->List Zq×Int×Xu×Bool
 | 0,a,l,o=>([],a,l,o)
 | f+1,a,l,o =>
   let k:=Ze 1099511627776 l o
   let e:=evS k.2.1 k.2.2
   let r:=Zad f (a+(1+(k.1:Int))) e.2.1 e.2.2
   ((a+(1+(k.1:Int)),e.1)::r.1,r.2)
def Za9 (h:ZfX) (a:Int) (l:Xu) (o:Bool):List Zq×Xu×Bool :=
 if (l.length:Int)<h.2.2 then ([],[],true) else
 let s:=Zad h.1.toNat a (l.take h.2.2.toNat) false
 if s.2.2.2=true\/s.2.2.1≠[]\/s.2.1≠h.2.1 then (s.1,[],true) else (s.1,l.drop h.2.2.toNat,o)
def ZbI:List ZfX->Int->Xu->Bool->List (List Zq)×Xu×Bool
 | [],_,l,o=>([],l,o)
 | h::r,a,l,o =>
   let b:=Za9 h a l o
   if b.2.2=true then ([],b.2.1,true) else
   let q:=ZbI r h.2.1 b.2.1 b.2.2
   (b.1::q.1,q.2)
def ZcY (b:Xu):List (List Zq)×Xu×Bool :=
 let n:=Ze 65536 b false
 let h:=ZW 4096 n.1 n.2.1 n.2.2
 ZbI h.1 0 h.2.1 h.2.2
def ZlZ (b:Xu):Option (List Zq):=if (ZcY b).2.2=true\/(ZcY b).2.1≠[] then none else some (ZcY b).1.flatten
def ZaN:Int->List (List Zq)->List ZfX
 | _,[]=>[]
 | a,c::r=>((c.length:Int),(Za6 a c,((ZbW a c).length:Int)))::ZaN (Za6 a c) r
def ZdD (hs:List ZfX):Xu:=hs.flatMap fun h=>Zb h.2.1.toNat++Zb h.2.2.toNat
def ZeG:Int->List (List Zq)->Xu
 | _,[]=>[]
 | a,c::r=>ZbW a c++ZeG (Za6 a c) r
def Six:Nat->List (List Zq)->Prop
 | n,[]=>n=0
 | n,c::r=>0<n/\c.length=min n 16/\Six (n - 16) r
theorem Zp2:∀(a:Int) (c d:List Zq),ZbW a (c++d)=ZbW a c++ZbW (Za6 a c) d
 | _,[],_=>rfl
 | a,x::r,d=>by rw [XK,ZbW,Zp2 x.1 r d,ZbW,Za6,Xk (Zb (x.1 - a - 1).toNat++Z0 x.2)]
theorem Zqw:∀(a:Int) (c d:List Zq),Za6 a (c++d)=Za6 (Za6 a c) d
 | _,[],_=>rfl
 | a,x::r,d=>Zqw x.1 r d
theorem Zky:∀(a:Int) (d:List (List Zq)),ZeG a d=ZbW a d.flatten
 | _,[]=>rfl
 | a,c::r=>by rw [ZeG,Zky,Xag,Zp2]
theorem ZjB:∀{n:Nat} {d:List (List Zq)},Six n d->d.flatten.length=n
 | n,[],h=>by have h:n=0:=h;simp [h]
 | n,c::r,h=>by
   obtain ⟨h1,f,e⟩:=h;have:=ZjB e;rw [Xag,Xd,this,f];omega
theorem ZhV:∀{n:Nat} {d:List (List Zq)},Six n d->d.length=(n+15) / 16
 | n,[],h=>by have h:n=0:=h;simp [h]
 | n,c::r,h=>by
   obtain ⟨h1,h2,e⟩:=h;have:=ZhV e;rw [Xh,this];omega
theorem Zqs:∀{c:List Zq} {a:Int} (r:Xu),isR a c=true->ZaS c->0<=a->Zad c.length a (ZbW a c++r) false=(c,Za6 a c,r,false)
 | [],_,_,_,_,_=>rfl
 | d::c,a,r,h,hf,h0=>by
   rw [isR,Xw] at h;obtain ⟨h1,h2,g⟩:=Zgk.1 h.1;have e:a+(1+((d.1 - a - 1).toNat:Int))=d.1:=by omega
   rw [Xh,Zad,ZbW];simp only [Xk];rw [ZdN (by omega) (by omega)];dsimp only;rw [ZCy (hf d (by simp)) g];dsimp only;rw [e,Zqs r h.2 (fun x f=>hf x (by simp [f])) (by omega)];rfl
theorem ZAv {c:List Zq} (r:Xu) (h:isR a c=true) (hf:ZaS c) (d:0<=a):Za9 ((c.length:Int),(Za6 a c,((ZbW a c).length:Int))) a (ZbW a c++r) false=(c,r,false):=by
 have:=Zqs [] h hf d;rw [XH] at this;unfold Za9;dsimp only;rw [Xc (by rw [Xd];omega),XY,XY,Xbm,Xas,this];simp
theorem Zuq:∀{d:List (List Zq)} {a:Int} (r:Xu),isR a d.flatten=true->ZaS d.flatten->0<=a->ZbI (ZaN a d) a (ZeG a d++r) false=(d,r,false)
 | [],_,_,_,_,_=>rfl
 | c::d,a,r,h,hf,h0=>by
   rw [Xag] at h hf;rw [ZhO,Xw] at h;have h1:=Zlh h.1;rw [ZaN,ZbI,ZeG,Xk,ZAv _ h.1 (fun x e=>hf x (List.mem_append_left _ e)) h0];dsimp only;rw [Xc (by simp),Zuq r h.2 (fun x e=>hf x (List.mem_append_right _ e)) (by omega)]
theorem Zoh:∀{f n:Nat} {d:List (List Zq)} {a:Int} (r:Xu),Six n d->d.length<=f->isR a d.flatten=true->0<=a->a<=1099511627776->(ZeG a d).length<=r.length->r.length<18446744073709551616->ZW f n (ZdD (ZaN a d)++r) false=(ZaN a d,r,false)
 | 0,n,d,a,r,h,hl,_,_,_,_,_=>by
   obtain rfl:d=[]:=XP (by omega);rfl
 | f+1,n,[],a,r,h,_,_,_,_,_,_=>by
   have h:n=0:=h;rw [ZW,Xe h];rfl
 | f+1,n,c::d,a,r,h,hl,hr,h0,h9,hb,hm=>by
   obtain ⟨s1,s2,s3⟩:=h;rw [Xag,ZhO,Xw] at hr;have g1:=Zlh hr.1;have g:=ZtU hr.1 h9;rw [ZeG,Xd] at hb
   have e:ZdD (ZaN a (c::d))++r=Zb (Za6 a c).toNat++(Zb (ZbW a c).length++(ZdD (ZaN (Za6 a c) d)++r)):=by
    rw [ZaN];unfold ZdD;rw [XaP];simp only [XY,Xk]
   rw [e,ZW,Xc (by omega),ZdN (by omega) (by omega)];dsimp only;rw [ZdN (by simp only [Xd];omega) (by omega)];dsimp only;rw [Zoh r s3 (by rw [Xh] at hl;omega) hr.2 (by omega) g (by omega) hm,ZaN,s2];simp only [show ((Za6 a c).toNat:Int)=Za6 a c by omega]
def upR:Int->List Zq->Prop
 | _,[]=>True
 | a,d::r=>a<d.1/\ZH d.2=0/\ZiS d.2/\upR d.1 r
theorem ZCd:∀{a:Int} {c:List Zq},upR a c->a<=Za6 a c
 | _,[],_=>Xa7 _
 | a,d::r,h=>by
   have:=ZCd h.2.2.2;rw [Za6];have:=h.1;omega
theorem ZCe:∀{a:Int} {c:List Zq},upR a c->Za6 a c<=1099511627776->isR a c=true/\ZaS c
 | _,[],_,_=>⟨rfl,fun d g=>by simp at g⟩
 | a,d::r,h,h9=>by
   rw [Za6] at h9;have h1:=ZCd h.2.2.2;have f:=ZCe h.2.2.2 h9;rw [isR,Xw,Zgk];refine ⟨⟨⟨h.1,by omega,h.2.1⟩,f.1⟩,fun x e => ?_⟩;rcases XT.1 e with rfl|e
   ·exact h.2.2.1
   ·exact f.2 x e
theorem ZjT:∀(f:Nat) (a:Int) (l:Xu) (o:Bool),(Zad f a l o).2.2.2=false->o=false/\(Zad f a l o).1.length=f/\ZbW a (Zad f a l o).1++(Zad f a l o).2.2.1=l/\upR a (Zad f a l o).1/\Za6 a (Zad f a l o).1=(Zad f a l o).2.1
 | 0,_,_,_,h=>⟨h,rfl,rfl,trivial,rfl⟩
 | f+1,a,l,o,h=>by
   rw [Zad] at h ⊢;dsimp only at h ⊢;obtain ⟨r,s,k,j,g⟩:=ZjT f _ _ _ h;obtain ⟨e,d,p,c⟩:=ZAI r;obtain ⟨i,q⟩:=ZcK e;refine ⟨i,by rw [Xh,s],?_,⟨by show a<a+(1+_);omega,c,p,j⟩,g⟩;rw [ZbW];dsimp only;rw [show (a+(1+((Ze 1099511627776 l o).1:Int)) - a - 1).toNat=(Ze 1099511627776 l o).1 by omega];rw [Xk,Xk,k,d,q]
theorem Zp4 {h:ZfX} {l:Xu} (h0:0<=h.2.2) (hn:0<=h.1) (c:(Za9 h a l o).2.2=false) (q:h.2.1<=1099511627776) :
  o=false/\((Za9 h a l o).1.length:Int)=h.1/\ZbW a (Za9 h a l o).1++(Za9 h a l o).2.1=l/\isR a (Za9 h a l o).1=true/\ZaS (Za9 h a l o).1/\Za6 a (Za9 h a l o).1=h.2.1/\((ZbW a (Za9 h a l o).1).length:Int)=h.2.2:=by
 unfold Za9 at c ⊢
 by_cases i:(l.length:Int)<h.2.2
 ·rw [Xe i] at c;cases c
 ·rw [Xc i] at c ⊢;dsimp only at c ⊢
  by_cases e:(Zad h.1.toNat a (l.take h.2.2.toNat) false).2.2.2=true\/(Zad h.1.toNat a (l.take h.2.2.toNat) false).2.2.1≠[]\/(Zad h.1.toNat a (l.take h.2.2.toNat) false).2.1≠h.2.1
  ·rw [Xe e] at c;cases c
  ·rw [Xc e] at c ⊢;dsimp only at c ⊢
   have p:(Zad h.1.toNat a (l.take h.2.2.toNat) false).2.2.2=false:=by
    cases d:(Zad h.1.toNat a (l.take h.2.2.toNat) false).2.2.2 with
    | false=>rfl
    | true=>exact absurd (.inl d) e
   have s:(Zad h.1.toNat a (l.take h.2.2.toNat) false).2.2.1=[]:=Xaz fun d=>e (.inr (.inl d));have j:(Zad h.1.toNat a (l.take h.2.2.toNat) false).2.1=h.2.1:=Xaz fun d=>e (.inr (.inr d));obtain ⟨_,r,f,t,k⟩:=ZjT _ _ _ _ p;rw [s,XH] at f;have g:=ZCe t (by rw [k,j];exact q);refine ⟨c,by rw [r];omega,by rw [f,X8],g.1,g.2,by rw [k,j],?_⟩;rw [f,Xi];omega
theorem Zrw:∀(hs:List ZfX) (a:Int) (l:Xu) (o:Bool),(∀h∈hs,0<=h.1/\0<=h.2.2/\h.2.1<=1099511627776)->(ZbI hs a l o).2.2=false ->
  o=false/\ZaN a (ZbI hs a l o).1=hs/\ZeG a (ZbI hs a l o).1++(ZbI hs a l o).2.1=l/\isR a (ZbI hs a l o).1.flatten=true/\ZaS (ZbI hs a l o).1.flatten
 | [],_,_,_,_,h=>⟨h,rfl,rfl,rfl,fun d c=>by simp [ZbI] at c⟩
 | h::hs,a,l,o,hh,hr=>by
   rw [ZbI] at hr ⊢;dsimp only at hr ⊢
   by_cases e:(Za9 h a l o).2.2=true
   ·rw [Xe e] at hr;cases hr
   ·rw [Xc e] at hr ⊢;dsimp only at hr ⊢;obtain ⟨y,q,k⟩:=hh h (by simp);have e:(Za9 h a l o).2.2=false:=by simpa using e
    obtain ⟨i,p,v,g,r,f,s⟩:=Zp4 q y e k;obtain ⟨_,w,u,z,j⟩:=Zrw hs h.2.1 _ _ (fun x t=>hh x (by simp [t])) hr;refine ⟨i,?_,?_,?_,?_⟩
    ·rw [ZaN,p,f,s,w]
    ·rw [ZeG,f,Xk,u,v]
    ·rw [Xag,ZhO,f,g,z];rfl
    ·intro d c;rw [Xag] at c;rcases Xam.1 c with c|c
     ·exact r d c
     ·exact j d c
theorem Zmn:∀(f n:Nat) (l:Xu) (o:Bool),(n+15) / 16<=f->(ZW f n l o).2.2=false ->
  o=false/\ZdD (ZW f n l o).1++(ZW f n l o).2.1=l
 | 0,n,l,o,hf,h=>⟨h,rfl⟩
 | f+1,n,l,o,hf,h=>by
   rw [ZW] at h ⊢
   by_cases c:n=0
   ·rw [Xe c] at h ⊢;exact ⟨h,rfl⟩
   ·rw [Xc c] at h ⊢;dsimp only at h ⊢;obtain ⟨k,d⟩:=Zmn f (n - 16) _ _ (by omega) h;obtain ⟨g,e⟩:=ZcK k;obtain ⟨i,j⟩:=ZcK g;refine ⟨i,?_⟩;unfold ZdD at d ⊢;rw [XaP];dsimp only;rw [XY,XY,Xk,Xk,d,e,j]
theorem Zj7:∀(f n:Nat) (l:Xu) (o:Bool),∀h∈(ZW f n l o).1,1<=h.1/\0<=h.2.2/\(0<=h.2.1/\h.2.1<=1099511627776)/\h.1<=16/\h.2.2<=l.length
 | 0,n,l,o,h,c=>by simp [ZW] at c
 | f+1,n,l,o,h,c=>by
   rw [ZW] at c
   by_cases d:n=0
   ·rw [Xe d] at c;simp at c
   ·rw [Xc d] at c;dsimp only at c;have e1:=Zci 1099511627776 l o;have e2:=Zci (Ze 1099511627776 l o).2.1.length (Ze 1099511627776 l o).2.1 (Ze 1099511627776 l o).2.2;have e3:=ZbS 1099511627776 l o;have e4:=ZbS (Ze 1099511627776 l o).2.1.length (Ze 1099511627776 l o).2.1 (Ze 1099511627776 l o).2.2;rcases XT.1 c with rfl|c
    ·dsimp only;omega
    ·have:=Zj7 f _ _ _ h c;omega
theorem Zoi:∀{f n:Nat} {l:Xu} {o:Bool} {e:List (List Zq)} {a:Int},(n+15) / 16<=f->ZaN a e=(ZW f n l o).1->Six n e
 | 0,n,l,o,[],a,hf,h=>by show n=0;omega
 | 0,n,l,o,c::r,a,hf,h=>by rw [ZaN,ZW] at h;cases h
 | f+1,n,l,o,[],a,hf,h=>by
   rw [ZW] at h
   by_cases d:n=0
   ·exact d
   ·rw [Xc d,ZaN] at h;cases h
 | f+1,n,l,o,c::r,a,hf,h=>by
   rw [ZW] at h
   by_cases d:n=0
   ·rw [Xe d,ZaN] at h;cases h
   ·rw [Xc d,ZaN] at h;dsimp only at h;simp only [XaV,X9] at h;exact ⟨by omega,by omega,Zoi (by omega) h.2⟩
theorem Zje:∀(a:Int) (d:List (List Zq)) (c:List Zq),ZaN a (d++[c])=ZaN a d++[((c.length:Int),(Za6 (Za6 a d.flatten) c,((ZbW (Za6 a d.flatten) c).length:Int)))]
 | _,[],_=>rfl
 | a,b::d,c=>by rw [XK,ZaN,Zje,ZaN,Xag,Zqw];rfl
theorem ZgV (l:List Zq):∀{k:Nat},k<=ZK l.length->((List.range k).map (ZaF l)).flatten=l.take (16*k)
 | 0,_=>by simp
 | k+1,h=>by
   rw [XaS,XM,XaN,ZgV l (by omega),show 16*(k+1)=16*k+16 by omega,List.take_add];simp [ZaF]
theorem ZkM (l:List Zq):∀{k:Nat},k<=ZK l.length->ZdD (ZaN 0 ((List.range k).map (ZaF l)))=Zas l 0 k
 | 0,_=>rfl
 | k+1,h=>by
   have c:16*k<=l.length:=by unfold ZK at h;omega
   rw [XaS,XM,Xbu,Zje,ZgV l (by omega),Zet l c,ZnM c,ZkD c,Ze8,<- ZkM l (k:=k) (by omega)];unfold ZdD Zg8;rw [XaQ];simp
theorem ZnV (l:List Zq) {c:List (List Zq)} (h:c=(List.range (ZK l.length)).map (ZaF l)):SM.encS l=Zb l.length++(ZdD (ZaN 0 c)++ZeG 0 c)/\c.flatten=l:=by
 have hf:c.flatten=l:=by
  rw [h,ZgV l (Xa _),XO (by unfold ZK;omega)]
 refine ⟨?_,hf⟩;rw [Zky,hf,h,ZkM l (Xa _)];unfold SM.encS;have:=ZjM (l:=l) 0 (m:=l.length) (by omega);rw [Xap,XB,XL] at this;rw [<- this];rfl
theorem Zm7 (l:List Zq):∀(m k:Nat),k+m=ZK l.length->Six (l.length - 16*k) ((List.range' k m).map (ZaF l))
 | 0,k,h=>by show l.length - 16*k=0;unfold ZK at h;omega
 | m+1,k,h=>by
   have hk:16*k<l.length:=by unfold ZK at h;omega
   rw [List.range'_succ,XC];refine ⟨by omega,?_,?_⟩
   ·rw [Zes (by omega)];unfold Zbu;omega
   ·have:=Zm7 l m (k+1) (by omega);rw [show l.length - 16*(k+1)=l.length - 16*k - 16 by omega] at this;exact this
theorem ZCR (l:List Zq):Six l.length ((List.range (ZK l.length)).map (ZaF l)):=by
 have:=Zm7 l (ZK l.length) 0 (by omega);rw [List.range_eq_range'];exact this
theorem Zus:∀{n:Nat} {g:List (List Zq)},Six n g->∀k,k<g.length->ZaF g.flatten k=g.getD k []
 | n,[],_,k,hk=>by simp at hk
 | n,c::r,h,0,_=>by
   obtain ⟨j,l,f⟩:=h;have hl:=ZjB f;unfold ZaF;rw [Xag,XaY,Xap]
   by_cases d:16<=n
   ·rw [Xbx (by omega),XO (by omega)];rfl
   ·have:r.flatten=[]:=XP (by omega);rw [this,XH,XO (by omega)];rfl
 | n,c::r,h,k+1,hk=>by
   obtain ⟨j,l,f⟩:=h;have i:k<r.length:=by simpa using hk
   have d:c.length=16:=by
    by_cases d:16<=n
    ·omega
    ·have:=ZhV f;omega
   have ih:=Zus f k i;have e:(c::r).getD (k+1) []=r.getD k []:=by simp
   rw [e,<- ih];unfold ZaF;rw [Xag,List.drop_append,Xao (by omega),d,XE,show 16*(k+1) - 16=16*k by omega]
theorem Zto {c:List (List Zq)} (h:Six n c):c=(List.range (ZK c.flatten.length)).map (ZaF c.flatten):=by
 have d:=ZjB h;have e:=ZhV h;refine List.ext_getElem (by rw [XF,List.length_range,d,e];rfl) fun i hi f => ?_;rw [Xax,List.getElem_range,Zus h i hi,XaO,XZ hi];rfl
theorem Zxv {l:List Zq} (h:isS l=true) (hf:ZaS l) (p:(SM.encS l).length<18446744073709551616):ZlZ (SM.encS l)=some l:=by
 obtain ⟨q,j⟩:=Zcv.1 h;obtain ⟨d,c⟩:∃d,d=(List.range (ZK l.length)).map (ZaF l):=⟨_,rfl⟩;obtain ⟨i,e⟩:=ZnV l c;have hs:Six l.length d:=by rw [c];exact ZCR l
 have hc:=ZhV hs;rw [i,Xd,Xd] at p;have k:=Zoh (f:=4096) (a:=0) (ZeG 0 d) hs (by omega) (by rw [e];exact j) (Xa7 _) (by omega) (Xa _) (by omega);have g:=Zuq (a:=0) [] (by rw [e];exact j) (by rw [e];exact hf) (Xa7 _);rw [XH] at g
 have:ZcY (SM.encS l)=(d,[],false):=by
  unfold ZcY;rw [i,ZdN q (by omega)];dsimp only;rw [k];exact g
 unfold ZlZ;rw [this];simp [e]
theorem ZuZ {l:List Zq} (h:ZlZ b=some l):isS l=true/\ZaS l/\SM.encS l=b:=by
 unfold ZlZ at h
 by_cases d:(ZcY b).2.2=true\/(ZcY b).2.1≠[]
 ·rw [Xe d] at h;cases h
 ·rw [Xc d] at h;obtain rfl:=XW h
  have e:(ZcY b).2.2=false:=by
   cases i:(ZcY b).2.2 with
   | false=>rfl
   | true=>exact absurd (.inl i) d
  have g:(ZcY b).2.1=[]:=Xaz fun i=>d (.inr i);unfold ZcY at e g ⊢;dsimp only at e g ⊢;have t:=ZbS 65536 b false;obtain ⟨n,r⟩:=Xn ((Ze 65536 b false).1);have c:=Zj7 4096 (Ze 65536 b false).1 (Ze 65536 b false).2.1 (Ze 65536 b false).2.2;obtain ⟨v,k,j,y,p⟩:=Zrw _ _ _ _ (fun x f=>⟨by have:=(c x f).1;omega,(c x f).2.1,(c x f).2.2.1.2⟩) e;obtain ⟨s,u⟩:=Zmn 4096 _ _ _ (by omega) v;obtain ⟨_,q⟩:=ZcK s;have hs:=Zoi (by omega) k;rw [g,XH] at j;obtain ⟨w,_⟩:=ZnV _ (Zto hs);refine ⟨Zcv.2 ⟨by rw [ZjB hs];exact t,y⟩,p,?_⟩;rw [w,ZjB hs,k,j,u,q]
theorem Zu0 (f:b.length<18446744073709551616):ZlZ b=ZgL b:=by
 cases h:ZgL b with
 | some l =>
   obtain ⟨d,e,c⟩:=Zdx h;rw [<- c];exact Zxv d e (by rw [c];exact f)
 | none =>
   cases hc:ZlZ b with
   | none=>rfl
   | some l =>
     obtain ⟨d,e,c⟩:=ZuZ hc;rw [<- c,ZgW d e] at h;cases h
end SR
namespace SR
open RowKit MM VM SM
variable {S:Nat->Prop} {w:World} {n:Nat}
def ZkK:Codec ZfX:=ZeH Zbk (ZeH Zbk Zbk)
theorem Zt5 {h:List Value} {x:ZfX}:ZkK.on S w h x↔h=[.int .i64 x.1,.int .i64 x.2.1,.int .i64 x.2.2]:=by
 constructor
 ·rintro ⟨a,b,rfl,f,c,d,rfl,e,g⟩;have f:a=[.int .i64 x.1]:=f;have e:c=[.int .i64 x.2.1]:=e;have g:d=[.int .i64 x.2.2]:=g;rw [f,e,g];rfl
 ·rintro rfl;exact ⟨[_],[_,_],rfl,rfl,[_],[_],rfl,rfl,rfl⟩
theorem ZC2:Elem ZkK prog 231 234 24:=⟨underlying231,by
 have h:(prog.info? 234).map (fun i=>(i.zero,i.size,i.bytes))=some (some (.agg #[.int .i64 0,.int .i64 0,.int .i64 0]),3,24):=by kernel_rfl
 obtain ⟨i,a,d,c,b⟩:=info_parts h;exact ⟨i,_,a,d,c,b,rfl⟩⟩
theorem ZAY {p:Option Addr} {e:Nat} {hs:List ZfX} (h:ZB ZkK S w (.slice p n e) hs) {k:Nat} (f:k<hs.length) :
  ∃b off,p=some ⟨b,off,none⟩/\b<w.heap.size/\S b/\w.cell? ⟨b,off+k*3,none⟩=some (.int .i64 hs[k].1)/\w.cell? ⟨b,off+k*3+1,none⟩=some (.int .i64 hs[k].2.1)/\w.cell? ⟨b,off+k*3+2,none⟩=some (.int .i64 hs[k].2.2):=by
 obtain ⟨b,off,vs,i,d,g,a,c⟩:=h.at_ f;rw [Zt5] at a;subst a;exact ⟨b,off,i,d,g,c 0 _ rfl,c 1 _ rfl,c 2 _ rfl⟩
def ZhA (S:Nat->Prop) (g:Nat) (s:List ZfX×Xu×Bool) (w:World) (e:Ending) (w':World):Prop :=
 ∃u,e=.returned u/\ZC ZkK 234 w.heap.size (fun _=>False) w' u s.1/\Rd S w' g s.2.1 s.2.2/\Kep (fun b=>b≠g) w w'
theorem ZsH (f:Nat) (l:Xu) (o:Bool):ZW f 0 l o=([],l,o):=by cases f<;>simp [ZW]
theorem ZsG {f:Nat} {l:Xu} {o:Bool} (c:n≠0):ZW (f+1) n l o =
  let a:=Ze 1099511627776 l o
  let b:=Ze a.2.1.length a.2.1 a.2.2
  let r:=ZW f (n - 16) b.2.1 b.2.2
  (((((min n 16:Nat):Int),((a.1:Int),(b.1:Int))):ZfX)::r.1,r.2):=by
 rw [ZW,Xc c]
theorem Zj6 (S:Nat->Prop) (g:Nat) (l:Xu) (o:Bool) (w:World) (h:Rd S w g l o) (hg:¬S g) (hS:∀b,S b->b<w.heap.size) (hl:l.length<=1099511627776) :
  Calls prog 157 #[.pointer (some ⟨g,0,none⟩)] w (ZhA S g (ZW 4096 (Ze 65536 l o).1 (Ze 65536 l o).2.1 (Ze 65536 l o).2.2) w):=by
 have aE:=h.lt;have q:=Y4 (fun m l o W (hm:m<=1099511627776) (h:Rd S W g l o)=>ZaQ S g m l o W hm h hg);have I:=q.z 65536 l o w (by omega) h;have ag:=Zci 65536 l o;have ad:=ZbS 65536 l o;obtain ⟨⟨n,l1,t⟩,V⟩:∃s,Ze 65536 l o=s:=⟨_,rfl⟩;rw [V] at I ag ad ⊢;dsimp only at I ag ad ⊢;have I:=Y4 I;obtain ⟨D,hF⟩:=Xn (ZW 4096 n l1 t);have Y:Y5 ((([]:List ZfX)++(ZW 4096 ((n:Int).toNat) l1 t).1,(ZW 4096 ((n:Int).toNat) l1 t).2)=D):=Y4 (by rw [<- hF];rfl);rw [hF];have aw:=Y4 hS;clear V hF h hS;go_enter func157,ntmps157;go_wp2_with fail;refine I.z.mono ?_;rintro e w1 ⟨rfl,h1,k1⟩;have X:=Y4 h1;have ae:=Y4 k1;have R:=Y4 (ZC.nil_ (C:=ZkK) 234 w.heap.size (fun _=>False) w1);clear h1 k1 I;go_wp2_with fail
 go_loopw [3,4] (fun lv nv wr=>∃(z:Int) (j:List ZfX) (L:Xu) (o:Bool) (f:Nat),nv=.int .i64 z /\ -16<=z/\z<=65536/\(z.toNat+15) / 16<=f/\j.length+f=4096/\L.length<=1099511627776/\Y5 ((j++(ZW f z.toNat L o).1,(ZW f z.toNat L o).2)=D)/\Y5 (Rd S wr g L o)/\Y5 (ZC ZkK 234 w.heap.size (fun _=>False) wr lv j)/\Y5 (Kep (fun b=>b≠g) w wr)) (fun _ nv _=>(intOf nv).toNat)
 case atStart=>exact ⟨n,[],l1,t,4096,rfl,by omega,by omega,by omega,rfl,by omega,Y,X,R,ae⟩
 case round =>
  obtain ⟨z,j,L,o,f,rfl,aF,aA,hf,ax,hL,HF,F,HO,HK⟩:=hrel;clear Y X R ae;have aH:=HK.z.size;obtain ⟨pl,cl,rfl,aB,aG,_⟩:=HO.z.any.shape
  by_cases hz:0<z
  ·have q1:decide (z>0)=true:=Xt;have q2:decide (0<z)=true:=Xt;obtain ⟨f,rfl⟩:∃k,f=k+1:=⟨f - 1,by omega⟩;have c:=HF.z;rw [ZsG (by omega)] at c;dsimp only at c;have J:=q.z 1099511627776 L o wr (by omega) F.z;have y:=Zci 1099511627776 L o;have ab:=ZbS 1099511627776 L o;obtain ⟨⟨a,G,t⟩,V⟩:∃s,Ze 1099511627776 L o=s:=⟨_,rfl⟩;rw [V] at c J y ab;dsimp only at c J y ab;obtain ⟨m,hm⟩:=Xn G.length;have M:=fun W (h:Rd S W g G t)=>q.z m G t W (by omega) h;have A:=Zci m G t;have O:=ZbS m G t;rw [hm] at c;obtain ⟨⟨b,L2,o2⟩,e2⟩:∃s,Ze m G t=s:=⟨_,rfl⟩;rw [e2] at c M A O;dsimp only at c M A O;obtain ⟨k,hk⟩:∃k:Nat,min z.toNat 16=k:=⟨_,rfl⟩;rw [hk] at c;have an:min z 16=(k:Int):=by omega
   have ar:(if (16:Int)<z then 16 else z)=(k:Int):=by split<;>omega
   have J:=Y4 J;have M:=Y4 M
   have av:Y5 ((j++[(((k:Nat):Int),((a:Int),(b:Int)))]++(ZW f ((z - 16).toNat) L2 o2).1,(ZW f ((z - 16).toNat) L2 o2).2)=D):=Y4 (by
    rw [<- c,show (z - 16).toNat=z.toNat - 16 by omega];simp only [Xk,Xa8])
   have au:=Y4 hm;have ao:L2.length<=1099511627776:=by omega
   have ay:IntKind.i64.wrap (z - 16)=z - 16:=by rw [IntKind.wrap_i64];omega
   clear V e2 c hm HF F hk y A hL;go_wp2_with fail;refine J.z.mono ?_;rintro e w2 ⟨rfl,h2,k2⟩;have aD:=k2.size;have aa:=Y4 (M.z w2 h2);obtain ⟨v0,U,ak⟩:=h2;obtain ⟨p0,c0,rfl,_⟩:=ak.shape;have f0:w2.cell? ⟨g,0,none⟩=some (.slice p0 G.length c0):=by rw [cell_of_row w2 g 0 _ _ _ U];rfl
   rw [au.z] at f0;have H:=Y4 (HO.z.keep k2 (fun _ _ h=>h.elim) (fun b T e=>by have:=(HO.z.cells T).1;omega));have aj:=Y4 (HK.z.trans k2);clear U ak k2 J M HO HK;go_wp2_with fail;refine aa.z.mono ?_;rintro e w3 ⟨rfl,h3,k3⟩;have aC:=k3.size;have o3:=H.z.keep k3 (fun _ _ h=>h.elim) (fun b T e=>by have:=(H.z.cells T).1;omega);have N:=aj.z.trans k3;obtain ⟨w4,u⟩:=Xn (w3.alloc (.cells #[.int .i64 (k:Int),.int .i64 (a:Int),.int .i64 (b:Int)] 234));have r:Below w3.heap.size w3 w4:=by rw [<- u];exact (Below.refl _ _).alloc (Xa _) _
   have az:=r.size;have v:=Y4 (o3.keep (Za (fun _=>True) r) (fun _ _ h=>h.elim) (fun _ _=>trivial));have x:=Zdh (C:=ZkK) (S:=fun _=>False) (w:=w3) (vs:=[.int .i64 (k:Int),.int .i64 (a:Int),.int .i64 (b:Int)]) (d:=((k:Int),((a:Int),(b:Int)))) 234 (Zt5.2 rfl);rw [u] at x;have Z:=Y4 x;have af:=Y4 (h3.below r);have ah:=Y4 (N.trans (Za _ r));have ap:=Y4 u;have ac:Y5 (j.length+1<=4096):=Y4 (by omega);clear u r x h3 k3 o3 N H aj aa f0;go_wp2_with (at_builtin;go_loud (rw [ap.z];refine Zo ZC2 rfl _ _ rfl w.heap.size (.slice pl j.length cl) j rfl v.z (fun _ _ h=>h.elim) _ [((k:Int),((a:Int),(b:Int)))] rfl Z.z (by unfold maxLen;have:=ac.z;simp;omega) (by have:=ac.z;simp;omega) (by omega) ?_;intro v7 w7 E al B;obtain ⟨p7,c7,rfl,_⟩:=E.any.shape;have ai:=Y4 E;have p:∀b,(Value.slice pl j.length cl).ownBlock=some b->w.heap.size<=b:=fun b T=>(v.z.cells T).1;have aq:=Y4 (af.z.keep B (fun e=>by have:=p _ e;omega) (fun b _ hs e=>by have:=p _ e;have:=aw.z b hs;omega));have am:=Y4 (ah.z.andThen B fun i hi _ e=>by have:=p _ e;omega);clear E al B v Z af ah p))
   rw [show (j++[((k:Int),((a:Int),(b:Int)))]).length=j.length+1 by simp] at ai;go_roundw
   case rel=>exact ⟨z - 16,j++[((k:Int),((a:Int),(b:Int)))],L2,o2,f,rfl,by omega,by omega,by omega,by simp;omega,ao,av,aq,ai,am⟩
   case measure=>simp [intOf];omega
  ·have q1:decide (z>0)=false:=Xf;have q2:decide (0<z)=false:=Xf;have c:=HF.z;rw [show z.toNat=0 by omega,ZsH,XH] at c;subst c;clear HF hz;go_wp2_with fail;go_ret;exact ⟨_,rfl,HO.z,F.z,HK.z⟩
end SR
namespace SR
open RowKit MM VM SM
open EM (Fld Ev)
open EV (Zae ZD ZjR ZcB IsF Zej)
variable {B b:Nat} {w:World} {S:Nat->Prop} {v:Value}
theorem Zu2 {f:Nat} {a:Int} {l:Xu} {o:Bool}:Zad (f+1) a l o =
  let k:=Ze 1099511627776 l o
  let e:=evS k.2.1 k.2.2
  let r:=Zad f (a+(1+(k.1:Int))) e.2.1 e.2.2
  ((a+(1+(k.1:Int)),e.1)::r.1,r.2):=rfl
theorem ZhM (h:IsF w b):Apt 59 B w b:=.inr fun c fr a=>by
 obtain ⟨c2,f2,d⟩:=h;rw [d] at a;simp only [Xx,Obj.cells.injEq] at a;exact absurd a.2.1 (by decide)
theorem ZhN {es:List Zq} (h:ZC ZD 59 B S w v es) (c:IsF w b):v.ownBlock≠some b:=fun e=>by
 obtain ⟨_,_,c1,f1,a⟩:=h.cells e;obtain ⟨c2,f2,d⟩:=c;rw [d] at a;simp only [Xx,Obj.cells.injEq] at a;exact absurd a.2.1 (by decide)
def Zaa (B:Nat) (w:World) (v:Value) (a:List Zq):Prop:=∃S:Nat->Prop,(∀b,S b->B<=b/\IsF w b)/\ZC ZD 59 B S w v a
theorem Zaa.nil_ (B:Nat) (w:World):Zaa B w (.slice none 0 0) []:=⟨fun _=>False,fun _ h=>h.elim,ZC.nil_ _ _ _ _⟩
theorem Zaa.keep {T:Nat->Prop} {w':World} {j:List Zq} (h:Zaa B w v j) (i:Kep T w w') (d:∀b,B<=b->b<w.heap.size->T b):Zaa B w' v j:=by
 obtain ⟨S,c,f⟩:=h;exact ⟨S,fun b a=>⟨(c b a).1,(c b a).2.keep i (d b (c b a).1 (c b a).2.lt)⟩,f.keep i (fun b e a=>d b (c b a).1 e) (fun g k=>d g (f.cells k).1 (f.cells k).2.1)⟩
theorem Zaa.cells {d:List Zq} (h:Zaa B w v d) {g:Nat} (c:v.ownBlock=some g):B<=g/\g<w.heap.size:=by
 obtain ⟨S,h1,a⟩:=h;exact ⟨(a.cells c).1,(a.cells c).2.1⟩
theorem Zaa.any {a:List Zq} (h:Zaa B w v a):ZF ZD w v a:=by
 obtain ⟨S,h1,c⟩:=h;exact c.any
theorem Zaa.base {B':Nat} {e:List Zq} (h:Zaa B w v e) (i:B'<=B):Zaa B' w v e:=by
 obtain ⟨S,f,d,j,m⟩:=h;refine ⟨S,fun b k=>⟨Xy i (f b k).1,(f b k).2⟩,d,⟨j.1,?_⟩,m⟩;rcases j.2 with l|⟨g,c,a,o,n,rest⟩
 ·exact .inl l
 ·exact .inr ⟨g,c,a,o,Xy i n,rest⟩
def Zlb (S:Nat->Prop) (g:Nat) (s:List Zq×Xu×Bool) (w:World) (e:Ending) (w':World):Prop :=
 ∃u,e=.returned u/\Zaa w.heap.size w' u s.1/\Rd S w' g s.2.1 s.2.2/\Kep (fun b=>b≠g) w w'
def ZrZ (S:Nat->Prop) (q:Nat) (v:Value) (w:World):Prop:=∀b,S b->b<w.heap.size/\b≠q/\v.ownBlock≠some b
theorem ZA3 {es:List Zq} (h:ZC ZD 59 B S w v es) (c:IsU w b):v.ownBlock≠some b:=fun e=>by
 obtain ⟨_,_,c1,f1,a⟩:=h.cells e;obtain ⟨c2,f2,d⟩:=c;rw [d] at a;simp only [Xx,Obj.cells.injEq] at a;exact absurd a.2.1 (by decide)
theorem ZuL (S:Nat->Prop) (g n r:Nat) (t a:Int) (l:Xu) (o:Bool) (w:World) (h:Rd S w g l o) (hg:¬S g) (hS:∀b,S b->b<w.heap.size) (hl:l.length<=1000000000000) (hn:n<=16) (b5:r<=1000000000000) (h0:0<=a) (h9:a<=1099511627776) (b0:0<=t) (b3:t<=1099511627776) :
  Calls prog 158 #[.pointer (some ⟨g,0,none⟩),.agg #[.int .i64 n,.int .i64 t,.int .i64 r],.int .i64 a] w (Zlb S g (Za9 ((n:Int),(t,(r:Int))) a l o) w):=by
 have bx:prog.follows .mixedOrders=true:=by kernel_rfl
 obtain ⟨R,hR⟩:=Xn w.heap.size;have cc:g<R:=by rw [<- hR];exact h.lt
 obtain ⟨wa,aa⟩:=Xn (w.alloc (.cells #[.int .i64 (n:Int),.int .i64 t,.int .i64 (r:Int)] 234));have am:Below w.heap.size w wa:=by rw [<- aa];exact (Below.refl _ _).alloc (Xa _) _
 have bV:wa.heap.size=R+1:=by rw [<- aa,<- hR];simp
 have XA:Y5 (Three wa R 234 (.int .i64 (n:Int)) (.int .i64 t) (.int .i64 (r:Int))):=Y4 (by rw [<- aa,<- hR];exact Zaj w 234 _ _ _);have a0:=Y4 (h.below am);have aB:=Y4 am;have aE:=Y4 aa;have a4:=Y4 hS;obtain ⟨vr,aS,aP⟩:=h.below am;obtain ⟨pr,Y,rfl,bG,bP⟩:=aP.shape;have f0:wa.cell? ⟨g,0,none⟩=some (.slice pr l.length Y):=by rw [cell_of_row wa g 0 _ _ _ aS];rfl
 obtain ⟨x0,x1,x2⟩:=XA.z.cells;rw [<- aa] at f0 x0 x1 x2;obtain ⟨X,a9⟩:=Xn l.length;have b7:=Y4 a9;rw [a9] at f0 hl bG;unfold maxLen at bP;have bC:=Y4 (fun W o' (h:Rd S W g (l.drop r) o')=>Zbs S S g (l.drop r) [] o' (.slice none 0 0) 120 W h hg (BOn.nil_ _ _))
 by_cases an:X<r
 ·have q1:decide ((r:Int)>(X:Int))=true:=Xt;have q2:decide (X<r)=true:=Xs an;have ar:Za9 ((n:Int),(t,(r:Int))) a l o=([],[],true):=by unfold Za9;rw [Xe (by dsimp only;omega)]
  rw [ar];have bq:=Y4 (fun W (h:Rd S W g l o)=>Zbs S S g l [] o (.slice none 0 0) 120 W h hg (BOn.nil_ _ _));clear ar an aP aS h am aa;go_enter func158,ntmps158;go_wp2_with fail;go_quiet (fail)
  go_wp2_with fail;rw [aE.z];have f:Below wa.heap.size wa (wa.drewN nq):=MM.below_drewN (Below.refl _ _) nq;refine (bq.z _ (a0.z.below f)).mono ?_;rintro e w1 ⟨rfl,h1,k1⟩;have a7:Rd S w1 g [] true:=by have:=h1;simpa using this
  have HQ:Y5 (Zlb S g ([],[],true) w (.returned (.slice none 0 0)) w1):=Y4 ⟨_,rfl,Zaa.nil_ _ _,a7,((Za _ aB.z).trans (Za _ f)).trans k1⟩;clear h1 a7 k1 f;go_wp2_with fail;go_ret;exact HQ.z
 ·have q1:decide ((r:Int)>(X:Int))=false:=Xf;have q2:decide (X<r)=false:=Xz an;have q3:(r:Int)<=(Y:Int):=by omega
  have bl:¬((l.length:Int)<(r:Int)):=by omega
  have ar:Za9 ((n:Int),(t,(r:Int))) a l o=if (Zad n a (l.take r) false).2.2.2=true\/(Zad n a (l.take r) false).2.2.1≠[]\/(Zad n a (l.take r) false).2.1≠t then ((Zad n a (l.take r) false).1,[],true) else ((Zad n a (l.take r) false).1,l.drop r,o):=by
   unfold Za9;dsimp only;rw [Xc bl,XY,XY]
  rw [ar];clear ar;obtain ⟨O,hF⟩:=Xn (Zad n a (l.take r) false);rw [hF];have bd:Y5 ((([]:List Zq)++(Zad n a (l.take r) false).1,(Zad n a (l.take r) false).2)=O):=Y4 (by rw [<- hF];rfl);obtain ⟨b6,al⟩:=Xn ((if O.2.2.2=true\/O.2.2.1≠[]\/O.2.1≠t then (O.1,[],true) else (O.1,l.drop r,o)));rw [al];have aJ:=Y4 al;clear aP aS h am aa bl hF al;go_enter func158,ntmps158;go_wp2_with fail;go_quiet (fail)
  go_wp2_with fail;refine RS.Zal (T:=fun _=>True) [(0,true),(1,true),(2,true),(3,true),(4,true),(5,true),(6,true),(7,true),(8,false)] bx (by kernel_rfl) (fun _ _ d _ _ h=>by cases d<;>exact h) ?_;simp only [RS.Zt,XC,XN,XU,XV,XS];rw [aE.z];obtain ⟨wd,ax⟩:=Xn ((wa.drewN nq).drew);have f:Below wa.heap.size wa wd:=by rw [<- ax];exact (MM.below_drewN (Below.refl _ _) nq).drew
  have bs:wd.heap.size=R+1:=by rw [<- ax];exact bV
  have XD:=Y4 (XA.z.below f XA.z.lt);have RD:=Y4 (a0.z.below f);have KD:Y5 (Below w.heap.size w wd):=Y4 (aB.z.trans (f.mono aB.z.size));have c0:wd.cell? ⟨g,0,none⟩=some (.slice pr X Y):=(f.cell (p:=⟨g,0,none⟩) (show g<wa.heap.size by omega)).trans (by rw [<- aE.z];exact f0);have G:=Y4 (fun W (hW:Kep (fun _=>True) wd W)=>(show W.cell? ⟨g,0,none⟩=some (.slice pr X Y)/\W.cell? ⟨R,2,none⟩=some (.int .i64 (r:Int)) from ⟨(hW.cell (by omega) trivial 0).trans c0,(XD.z.keep hW trivial).c2⟩));rw [ax];clear ax f c0 f0 x0 x1 x2 XA a0 aB aE;repeat (refine RS.take (by rfl) (by intro W hW;obtain ⟨f1,f2⟩:=G.z W hW;go_simp;with_reducible rfl) ?_;simp only [Act.put,Xm,Xo,Xl])
  refine RS.alone (by rfl) (fun K hK => ?_);go_simp;refine hK.z _ _ (Zu _ _ _) ?_;clear hK K;refine RS.done ?_;simp only [Xh,Xv,XaW,Xap,XL,Nat.reduceAdd];obtain ⟨q,hq⟩:=Xn (R+1);obtain ⟨wq,af⟩:=Xn (wd.alloc (.cells #[.slice pr r Y,.bool false] 230));have ac:Below wd.heap.size wd wq:=by rw [<- af];exact (Below.refl _ _).alloc (Xa _) _
  have b9:wq.heap.size=q+1:=by rw [<- af];simp [bs,hq]
  have XQ:=Y4 (XD.z.below ac XD.z.lt);have RQ:=Y4 (RD.z.below ac);have KQ:Y5 (Below w.heap.size w wq):=Y4 (KD.z.trans (ac.mono (by omega)))
  have be:Y5 (Rd S wq q (l.take r) false):=Y4 (by
   obtain ⟨v9,aj,ai⟩:=RD.z;have e9:=cell_of_row wd g 0 _ _ _ aj;rw [(G.z wd (Kep.refl _ _)).1] at e9;have e9:(Value.slice pr X Y)=v9:=by simpa using e9
   refine ⟨.slice pr r Y,by rw [<- af,<- hq,<- bs];exact heap_alloc_new _ _,?_⟩;rw [<- e9] at ai;exact (ai.take r (by omega)).below ac)
  have C0:Y5 (wq.cell? ⟨g,0,none⟩=some (.slice pr X Y)):=Y4 ((ac.cell (p:=⟨g,0,none⟩) (show g<wd.heap.size by omega)).trans (G.z wd (Kep.refl _ _)).1);have bD:Y5 (ZrZ S q (.slice none 0 0) wq):=Y4 (fun b E=>⟨by have:=a4.z b E;omega,by have:=a4.z b E;omega,fun e=>by cases e⟩);have br:=Y4 (Zaa.nil_ (q+1) wq);have bg:Y5 (Kep (fun b=>b≠q) wq wq):=Y4 (Kep.refl _ _);have aK:Y5 ((l.take r).length<=1000000000000):=Y4 (by rw [Xi];omega);obtain ⟨y0,y1,y2⟩:=XQ.z.cells;rw [<- af] at y0 y1 y2;have bM:=Y4 af;obtain ⟨k0,k1,k2,k3,k4,k5⟩:=(ZgA wd 230 (.slice none 0 0) (.bool false)).all (.slice pr r Y);clear af ac XD RD KD G;go_wp2_with fail;rw [bM.z,hq];clear k0 k1 k2 k3 k4 k5 y0 y1 y2
  go_loopw [2,8,29] (fun av dv iv wr=>∃(i:Nat) (A:Int) (y:List Zq) (L:Xu) (oi:Bool) (S':Nat->Prop),iv=.int .i64 i/\av=.int .i64 A/\i<=n/\Y5 (y.length=i)/\0<=A/\A<=1099511627777*((i:Int)+1)/\Y5 (L.length<=1000000000000)/\Y5 ((y++(Zad (n - i) A L oi).1,(Zad (n - i) A L oi).2)=O)/\Y5 (Rd S' wr q L oi)/\Y5 (ZrZ S' q dv wr)/\Y5 (Zaa (q+1) wr dv y)/\Y5 (Kep (fun b=>b≠q) wq wr)) (fun _ _ iv _=>n - (intOf iv).toNat)
  case atStart=>exact ⟨0,a,[],l.take r,false,S,rfl,rfl,by omega,Y4 rfl,h0,by omega,aK,bd,be,bD,br,bg⟩
  case round =>
   obtain ⟨i,A,y,L,oi,S',rfl,rfl,hi,ao,cf,b8,HL,HF,aH,aO,ah,HK⟩:=hrel;clear bd be bD br bg aK;have ch:=HK.z.size;obtain ⟨pd,cd,rfl,_⟩:=ah.z.any.shape
   by_cases aF:i<n
   ·have t1:decide ((i:Int)<(n:Int))=true:=Xt;have t2:decide (i<n)=true:=Xs aF;have m:=HF.z;rw [show n - i=(n - (i+1))+1 by omega,Zu2] at m;dsimp only at m;have bN:¬S' q:=fun h=>(aO.z q h).2.1 rfl;have C1:=ZaQ S' q 1099511627776 L oi wr (by omega) aH.z bN;have aX:=Zci 1099511627776 L oi;have bo:=ZbS 1099511627776 L oi;obtain ⟨⟨k,L1,o1⟩,e1⟩:∃s,Ze 1099511627776 L oi=s:=⟨_,rfl⟩;rw [e1] at m C1 aX bo;dsimp only at m C1 aX bo;have bu:L1.length<=1000000000000:=by have:=HL.z;omega
    have C2:=fun W (h:Rd S' W q L1 o1)=>ZjY S' q L1 o1 W bu h;have aZ:=ZAK L1 o1;obtain ⟨z,fs,L2,o2,e2⟩:∃z fs L2 o2,evS L1 o1=((z,fs),L2,o2):=⟨_,_,_,_,rfl⟩;rw [e2] at m C2 aZ;dsimp only at m aZ;obtain ⟨A',bW⟩:=Xn (A+(1+(k:Int)));rw [bW] at m;have cb:IntKind.i64.wrap (1+(k:Int))=1+(k:Int):=by rw [IntKind.wrap_i64];omega
    have b1:IntKind.i64.wrap (A+(1+(k:Int)))=A':=by rw [IntKind.wrap_i64];omega
    have bS:0<=A':=by omega
    have bK:A'<=1099511627777*(((i+1:Nat):Int)+1):=by omega
    have C1:=Y4 C1;have C2:=Y4 C2
    have bT:Y5 ((y++[(A',((z,fs):Ev))]++(Zad (n - (i+1)) A' L2 o2).1,(Zad (n - (i+1)) A' L2 o2).2)=O):=Y4 (by
     rw [<- m];simp only [Xk,Xa8])
    have bU:Y5 (L2.length<=1000000000000):=Y4 (by omega);have bQ:=Y4 aF;clear e1 e2 m HF aH aX aZ HL bu aF;go_wp2_with fail;refine C1.z.mono ?_;rintro e w2 ⟨rfl,h2,k2⟩;have b4:=k2.size;have bn:=Y4 (C2.z w2 h2);have bk:=Y4 (ah.z.keep k2 (fun b E _=>by omega));have bE:=Y4 (HK.z.trans k2);have aL:∀b,(Value.slice pd y.length cd).ownBlock=some b->q+1<=b/\b<wr.heap.size:=fun b E=>ah.z.cells E;have U:=Y4 aL;clear h2 k2 C1 C2 ah HK aL;go_wp2_with fail;refine bn.z.mono ?_;rintro e w3 ⟨u,rfl,hu,aY,k3⟩;dsimp only at hu aY ⊢;obtain ⟨pe,ce,rfl,_⟩:=hu.shape;have b2:=k3.size;have d3:=bk.z.keep k3 (fun b E _=>by omega);obtain ⟨w4,ay⟩:=Xn (w3.alloc (.cells #[.int .i64 A',.int .i64 z,.slice pe fs.length ce] 59));have ab:Below w3.heap.size w3 w4:=by rw [<- ay];exact (Below.refl _ _).alloc (Xa _) _
    have bZ:=ab.size;obtain ⟨S1,bv,az⟩:=d3;have az:=az.weak (T:=fun b=>S1 b\/Zej w2 w3 b) fun b _ E=>.inl E;have aT:Y5 (∀b,(S1 b\/Zej w2 w3 b)->q+1<=b/\IsF w3 b):=Y4 (fun b E=>E.elim (bv b) fun h=>⟨by have:=h.1;omega,h.2⟩);have aR:=Zdh (C:=ZD) (S:=fun b=>S1 b\/Zej w2 w3 b) (w:=w3) (vs:=[.int .i64 A',.int .i64 z,.slice pe fs.length ce]) (d:=(A',((z,fs):Ev))) 59 (ZcB.2 ⟨_,rfl,hu.weak fun b _ h=>.inr h⟩);rw [ay] at aR;have bm:=Y4 aR;have aQ:=Y4 (az.keep (Za (fun _=>True) ab) (fun _ _ _=>trivial) (fun _ _=>trivial));have ap:Y5 (∀b,(S1 b\/Zej w2 w3 b)->q+1<=b/\IsF w4 b):=Y4 (fun b E=>⟨(aT.z b E).1,(aT.z b E).2.keep (Za (fun _=>True) ab) trivial⟩);have a8:=aY.below ab;have bz:Y5 (Rd (fun b=>w2.heap.size<=b/\IsU w4 b) w4 q L2 o2):=Y4 (a8.weak fun b _ E=>⟨E.1,E.2.keep (Za (fun _=>True) ab) trivial⟩);have bA:=Y4 ((bE.z.trans k3).trans (Za _ ab));have bJ:=Y4 ay;clear ay ab aR aY a8 k3 az bv aT bk bE bn hu aO;go_wp2_with (at_builtin;go_loud (rw [bJ.z];refine Zo ZjR rfl _ _ rfl (q+1) (.slice pd y.length cd) y rfl aQ.z (fun b _ E=>ZhM (ap.z b E).2) _ [(A',((z,fs):Ev))] rfl bm.z (by unfold maxLen;have:=ao.z;simp;omega) (by have:=ao.z;simp;omega) (by omega) ?_;intro v7 w7 aG bH ad;have bY:=ad.size;have bj:∀b,(S1 b\/Zej w2 w3 b)->q+1<=b/\IsF w7 b:=fun b E=>⟨(ap.z b E).1,(ap.z b E).2.keep ad (ZhN aQ.z (ap.z b E).2)⟩;have bi:Y5 (Zaa (q+1) w7 v7 (y++[(A',((z,fs):Ev))])):=Y4 ⟨_,bj,aG⟩;have bO:=Y4 (bz.z.keep ad (fun e=>by have:=U.z _ e;omega) (fun b _ hs e=>by have:=U.z _ e;have:=hs.1;omega));have ba:Y5 (ZrZ (fun b=>w2.heap.size<=b/\IsU w4 b) q v7 w7):=Y4 (fun b E=>⟨by have:=E.2.lt;omega,by have:=E.1;omega,ZA3 aG (E.2.keep ad (fun e=>by have:=U.z _ e;have:=E.1;omega))⟩);have bI:=Y4 (bA.z.andThen ad fun j hj _ e=>by have:=U.z _ e;omega);obtain ⟨p7,c7,rfl,_⟩:=aG.any.shape;clear aG bH ad aQ bm bz bA ap bj U))
    rw [show (y++[(A',((z,fs):Ev))]).length=y.length+1 by simp] at ba bi;have aF:=bQ.z;go_roundw
    case rel=>exact ⟨i+1,A',y++[(A',((z,fs):Ev))],L2,o2,_,by go_num,rfl,by omega,Y4 (by have:=ao.z;simp;omega),bS,bK,bU,bT,bO,ba,bi,bI⟩
    case measure=>simp [intOf];omega
   ·obtain rfl:i=n:=by omega
    have t1:decide ((i:Int)<(i:Int))=false:=by simp
    have t2:decide (i<i)=false:=by simp
    have m:=HF.z;rw [Xaw] at m;have m:(y,(A,(L,oi)))=O:=by rw [<- m,Zad];simp
    subst m;have c:=aJ.z;dsimp only at c;have bF:=Y4 c;clear c;have a5:g≠q:=by omega
    have bL:R≠q:=by omega
    have bR:=(RQ.z.keep HK.z a5 (fun b _ hs=>by have:=a4.z b hs;omega));obtain ⟨v9,aj,ai⟩:=bR;have e9:=cell_of_row wr g 0 _ _ _ aj;have cg:wr.cell? ⟨g,0,none⟩=some (.slice pr X Y):=(HK.z.cell (by omega) a5 0).trans C0.z;rw [cg] at e9;obtain rfl:(Value.slice pr X Y)=v9:=by simpa using e9
    have XR:=XQ.z.keep HK.z bL;have a3:=ai.drop r (by omega);obtain ⟨PX,aW⟩:=Xn ((if Y=r then pr else Option.map (fun x=>x.add r) pr));obtain ⟨NX,a2⟩:=Xn (X - r);obtain ⟨CX,aV⟩:=Xn (Y - r);rw [aW,a2,aV] at a3;have bb:=Y4 aW;have bw:=Y4 a2;have bp:=Y4 aV;have bf:=Y4 aj;have aw:=Y4 XR;have a1:=Y4 a3;clear HF aJ aW a2 aV aj ai XR a3 e9;go_wp2_with fail;refine RS.Zal (T:=fun _=>True) [(0,true),(1,true),(2,true),(3,true),(4,true),(5,true),(6,true),(7,true),(8,true),(9,true)] bx (by kernel_rfl) (fun _ _ d _ _ h=>by cases d<;>exact h) ?_;simp only [RS.Zt,XC,XN,XU,XV,XS];obtain ⟨I,V⟩:=Xn wr.drew;have f:Below wr.heap.size wr I:=by rw [<- V];exact (Below.refl _ _).drew
    have G:=Y4 (fun W (hW:Kep (fun _=>True) I W)=>(show W.cell? ⟨g,0,none⟩=some (.slice pr X Y)/\W.cell? ⟨R,2,none⟩=some (.int .i64 (r:Int)) from ⟨(hW.cell (by rw [<- V];show g<wr.heap.size;omega) trivial 0).trans ((f.cell (p:=⟨g,0,none⟩) (show g<wr.heap.size by omega)).trans cg),((aw.z.below f aw.z.lt).keep hW trivial).c2⟩));have bB:=Y4 f;have aU:wr.heap.size=I.heap.size:=by rw [<- V];rfl
    rw [V];have z1:(r:Int)<=(X:Int):=by omega
    have z2:(X:Int)<=(Y:Int):=by omega
    clear V f cg;repeat (refine RS.take (by rfl) (by intro W hW;obtain ⟨f1,f2⟩:=G.z W hW;go_simp;with_reducible rfl) ?_;simp only [Act.put,Xm,Xo,Xl])
    refine RS.done ?_;simp only [Xh,Xv,XaW,Xap,XL,Nat.reduceAdd];rw [bb.z,bw.z,bp.z];have f:=bB.z;have aA:I.heap[g]? = some (.cells #[.slice pr X Y,.bool o] 230 (0,0)):=(f.block g (by omega)).trans bf.z;obtain ⟨L2,bc⟩:=Xn (l.drop r);rw [bc] at a1 bC;have aI:BOn S I (.slice PX NX CX) L2:=a1.z.below f;have ca:=frozen_of_row I g 0 _ _ aA;have bX:I.cell? ⟨g,0,none⟩=some (.slice pr X Y):=by rw [cell_of_row I g 0 _ _ _ aA];rfl
    obtain ⟨w9,aq⟩:=Xn (I.setCell ⟨g,0,none⟩ (.slice PX NX CX));have ak:Kep (fun b=>b≠g) I w9:=by rw [<- aq];exact ZbY _
    have aN:Rd S w9 g L2 o:=by rw [<- aq];exact ⟨_,heap_setCell_same I g 0 _ _ _ aA,aI.keep (Zy hg _) fun _ _ h=>h⟩
    have x9:=(aw.z.below f aw.z.lt).keep ak (by omega);obtain ⟨vi,aC,bh⟩:=aH.z;obtain ⟨pi,ci,rfl,_⟩:=bh.shape;have au:=(ak.block q (by rw [<- aU];exact (Xq.1 aC).1) (fun e=>a5 e.symm)).trans ((f.block q (Xq.1 aC).1).trans aC);have aM:Zaa (q+1) w9 (.slice pd y.length cd) y:=(ah.z.keep (Za (fun _=>True) f) (fun _ _ _=>trivial)).keep ak (fun b E _=>by omega);have k9:Kep (fun b=>b≠g) w w9:=(((Za _ KQ.z).andThen HK.z fun j hj _=>by omega).trans (Za _ f)).trans ak;have i0:w9.cell? ⟨q,0,none⟩=some (.slice pi L.length ci):=by rw [cell_of_row w9 q 0 _ _ _ au];rfl
    have i1:w9.cell? ⟨q,1,none⟩=some (.bool oi):=by rw [cell_of_row w9 q 1 _ _ _ au];rfl
    have i2:=x9.c1;obtain ⟨NI,a6⟩:=Xn L.length;rw [a6] at i0;have Z:=Y4 (bC.z w9 o aN);have D:Y5 (∀M,Rd S M g [] (o||((120:Int) != 0))->Kep (fun b=>b≠g) w9 M->Zlb S g (y,[],true) w (.returned (.slice pd y.length cd)) M):=Y4 (fun M N J=>⟨_,rfl,(aM.keep J (fun b E _=>by omega)).base (by omega),by simpa using N,k9.trans J⟩);have H:Y5 (Zlb S g (y,L2,o) w (.returned (.slice pd y.length cd)) w9):=Y4 ⟨_,rfl,aM.base (by omega),aN,k9⟩;have ae:Y5 (L≠[]↔0<NI):=Y4 (by rw [<- a6,Xaa]);rw [<- aq] at i0 i1 i2;have aD:=Y4 aq;have c:=bF.z;rw [bc] at c;have F:=Y4 c;clear c bF aM k9 aN x9 ak aq aI aA au aC bh a6 bB bf aw a1 f bb bw bp ah aH HK aO HL G C0 XQ RQ KQ;cases oi with
    | true =>
      have c:=F.z;rw [Xe (.inl rfl)] at c;subst c;clear F H ae;go_wp2_with fail;rw [aD.z];refine Z.z.mono ?_;rintro e M ⟨rfl,N,J⟩;have HQ:=Y4 (D.z M N J);clear N J Z D;go_wp2_with fail;go_ret;exact HQ.z
    | false =>
      by_cases bt:0<NI
      ·have u1:decide ((NI:Int)>0)=true:=Xt;have c:=F.z;rw [Xe (.inr (.inl (ae.z.2 bt)))] at c;subst c;clear F H ae;go_wp2_with fail;rw [aD.z];refine Z.z.mono ?_;rintro e M ⟨rfl,N,J⟩;have HQ:=Y4 (D.z M N J);clear N J Z D;go_wp2_with fail;go_ret;exact HQ.z
      ·have u1:decide ((NI:Int)>0)=false:=Xf;have u2:decide (0<NI)=false:=Xf
       by_cases ag:A=t
       ·have u3:(A != t)=false:=by simp [ag]
        have c:=F.z;rw [Xc (fun h=>h.elim (fun h=>by cases h) fun h=>h.elim (fun h=>bt (ae.z.1 h)) fun h=>h ag)] at c;subst c;clear F D ae ag Z;go_wp2_with fail;rw [aD.z];go_ret;exact H.z
       ·have u3:(A != t)=true:=by rw [Xah];exact ag
        have c:=F.z;rw [Xe (.inr (.inr ag))] at c;subst c;clear F H ae ag;go_wp2_with fail;rw [aD.z];refine Z.z.mono ?_;rintro e M ⟨rfl,N,J⟩;have HQ:=Y4 (D.z M N J);clear N J Z D;go_wp2_with fail;go_ret;exact HQ.z
end SR
namespace SR
open RowKit MM VM SM
open EM (Fld Ev)
open EV (Zae Zx1 Zt1 ZD ZjR ZcB Z2 IsF Zej Za0)
theorem ZfO:(prog.info? 59).map (·.size)=some 3:=by kernel_rfl
def ZCY (fs:List Fld) (w:World) (e:Ending) (w':World):Prop:=∃u,e=.returned u/\ZB Zae (Zej w w') w' u fs/\Below w.heap.size w w'
theorem Zl7 (v:Value) (fs:List Fld) (w:World) (j:ZF Zae w v fs) (hl:fs.length<=100000):Calls prog 116 #[v] w (ZCY fs w):=by
 obtain ⟨p,y,rfl,s,u,x⟩:=j.shape;have hq:=fun (w:World) (a:Option Addr) (n c:Nat)=>Lib.run_eql_slice_nil (P:=prog) w 55 123 a n c 0 0 underlying55;cases p with
 | none =>
   have t:=x rfl;subst t;have hf:fs=[]:=XP (by omega);subst hf;clear j;go_enter func116,ntmps116;go_wp2_with fail;go_ret;exact ⟨_,rfl,ZB.nil_ _ _,Below.refl _ _⟩
 | some ad =>
   have e:Below w.heap.size w (w.alloc (.cells #[] 123)):=(Below.refl _ _).alloc (Xa _) _;have k:=Y4 (ZC.lit0 (C:=Zae) 123 (fun _=>False) w (Xa _));have r:=Y4 (Zt1 (S':=fun _=>False) (ZF.below j e));have m:=Y4 e;clear j e;go_enter func116,ntmps116;go_wp2_with (at_builtin;go_loud (refine Zo Zx1 rfl _ _ rfl w.heap.size _ [] rfl k.z (fun b _ q=>q.elim) _ fs rfl r.z (by unfold maxLen;simp;omega) (by simp;omega) (by simp) ?_;intro v' w4 d i _;rw [XE] at d;obtain ⟨q4,c4,rfl,_⟩:=d.any.shape;have f:=Y4 d;have l:=Y4 (m.z.trans i);clear d i))
   go_ret;exact ⟨_,rfl,f.z.ron (fun g o=>⟨(f.z.cells o).1,(f.z.cells o).2.2⟩) (fun _ _ h=>h.elim),l.z⟩
end SR
namespace SG
open RowKit MM
open EM (Fld Ev)
open EV (Zae ZD Z2 Zej Za0)
open SM (Zq ZcA)
open SR (Zl7 ZfO)
def Zig (o:Option Zq) (w:World) (e:Ending) (w':World):Prop :=
 ∃u,e=.returned (.tuple #[.agg #[.int .i64 (o.getD ZcA).1,.int .i64 (o.getD ZcA).2.1,u],.bool o.isSome])/\ZB Zae (Zej w w') w' u (o.getD ZcA).2.2/\Below w.heap.size w w'
def atG (l:List Zq) (i:Int):Option Zq:=if 0<=i/\i<(l.length:Int) then l[i.toNat]? else none
def ZAm (l:List Zq):Prop:=∀d∈l,d.2.2.length<=100000
theorem ZCn (v:Value) (l:List Zq) (i:Int) (w:World) (f:ZF ZD w v l) (hi:¬(0<=i/\i<(l.length:Int))):Calls prog 65 #[v,.int .i64 i] w (Zig none w):=by
 obtain ⟨p,h,rfl,g,b,_⟩:=f.shape;unfold maxLen at b;have e:=Y4 (Zaj w 59 (.int .i64 0) (.int .i64 0) (.slice none 0 0));have d:Y5 (Zig none w (.returned (.tuple #[.agg #[.int .i64 0,.int .i64 0,.slice none 0 0],.bool false])) (w.alloc (.cells #[.int .i64 0,.int .i64 0,.slice none 0 0] 59))):=Y4 ⟨_,rfl,ZB.nil_ _ _,(Below.refl _ _).alloc (Xa _) _⟩;clear f
 by_cases a:i<0
 ·have t0:decide (i<0)=true:=Xs a;clear hi a;go_enter func65,ntmps65;go_wp2_with fail;refine bodyPost_ret (Zde (p:=4) (u:=5) rfl underlying59 rfl ZfO _ _ w.heap.size _ _ _ rfl e.z) rfl d.z
 ·have t0:decide (i<0)=false:=Xz a;have c:(l.length:Int)<=i:=by omega
  have t1:decide (i>=(l.length:Int))=true:=Xs c;have t2:decide ((l.length:Int)<=i)=true:=Xs c;clear hi a c;go_enter func65,ntmps65;go_wp2_with fail;refine bodyPost_ret (Zde (p:=4) (u:=5) rfl underlying59 rfl ZfO _ _ w.heap.size _ _ _ rfl e.z) rfl d.z
theorem ZAr (v:Value) (l:List Zq) (k:Nat) (w:World) (I:ZF ZD w v l) (O:ZAm l) (M:k<l.length):Calls prog 65 #[v,.int .i64 k] w (Zig (some l[k]) w):=by
 obtain ⟨p,Z,rfl,X,L,_⟩:=I.shape;unfold maxLen at L;have E:=O _ (XI M);have o:Below w.heap.size w (w.alloc (.cells #[.int .i64 0,.int .i64 0,.slice none 0 0] 59)):=(Below.refl _ _).alloc (Xa _) _;obtain ⟨b,off,vf,rfl,aa,_,c1,c2,c3,hf⟩:=Z2 (I.below o) M;obtain ⟨⟨i,⟨t,fs⟩⟩,S⟩:∃d,l[k]=d:=⟨_,rfl⟩;rw [S] at c1 c2 hf E ⊢;dsimp only at c1 c2 hf E;obtain ⟨D,G,rfl,_⟩:=hf.shape;have t0:decide ((k:Int)<0)=false:=Xf;have t1:decide ((k:Int)>=(l.length:Int))=false:=Xf;have t2:decide ((l.length:Int)<=(k:Int))=false:=Xf;have t3:(k:Int)<(l.length:Int):=by omega
 have t4:decide (l.length<=k)=false:=Xf;obtain ⟨R,J⟩:=Xn w.heap.size;obtain ⟨B,a⟩:=Xn ((w.alloc (.cells #[.int .i64 0,.int .i64 0,.slice none 0 0] 59)).alloc (.cells #[.int .i64 i,.int .i64 t,.slice D fs.length G] 59));have y:Below w.heap.size w B:=by rw [<- a];exact o.alloc (by simp) _
 have n:B.heap.size=R+2:=by rw [<- a,<- J];simp
 have V:Y5 (Three B R 59 (.int .i64 0) (.int .i64 0) (.slice none 0 0)):=Y4 (by rw [<- a,<- J];exact (Zaj w 59 _ _ _).keep (Zu (fun _=>True) _ _) trivial)
 have N:Y5 (Three B (R+1) 59 (.int .i64 i) (.int .i64 t) (.slice D fs.length G)):=Y4 (by
  have:=Zaj (w.alloc (.cells #[.int .i64 0,.int .i64 0,.slice none 0 0] 59)) 59 (.int .i64 i) (.int .i64 t) (.slice D fs.length G);rw [a,World.size_alloc,J] at this;exact this)
 have T:=Y4 (Zl7 (.slice D fs.length G) fs B (hf.any.below (by rw [<- a];exact (Below.refl _ _).alloc (Xa _) _)) E);have z:=Y4 y;have s:=Y4 a;have A:=Y4 n;clear I hf y a n o S O E;go_enter func65,ntmps65;go_wp2_with fail;rw [s.z];refine T.z.mono ?_;rintro e q ⟨u,rfl,H,f⟩;obtain ⟨g,c,rfl,_⟩:=H.shape;have n:=A.z;have a0:=V.z.below f (by omega);have C:=N.z.below f (by omega);have f1:=C.fr 2;have g1:=C.c2;have U:=C.s2 (.slice g fs.length c);have r:Kep (fun b=>b≠R+1) q (q.setCell ⟨R+1,2,none⟩ (.slice g fs.length c)):=Zy (fun h=>h rfl) _;have F:=a0.keep r (by omega);obtain ⟨x0,x1,x2⟩:=U.cells;obtain ⟨y0,y1,y2⟩:=F.cells;obtain ⟨m1,m2,m3,⟨k1,k2⟩,k3,k4⟩:=F.all (.int .i64 i) (.int .i64 t);have Y:=Y4 (F.set (.int .i64 i) (.int .i64 t) (.slice g fs.length c));have x:Kep (fun b=>b≠R) (q.setCell ⟨R+1,2,none⟩ (.slice g fs.length c)) (Ztn (q.setCell ⟨R+1,2,none⟩ (.slice g fs.length c)) R (.int .i64 i) (.int .i64 t) (.slice g fs.length c)):=ZqY _ _ _;have m:Kep (fun b=>b≠R/\b≠R+1) q (Ztn (q.setCell ⟨R+1,2,none⟩ (.slice g fs.length c)) R (.int .i64 i) (.int .i64 t) (.slice g fs.length c)):=(r.mono fun b j=>j.2).trans (x.mono fun b j=>j.1)
 have W:Y5 (Zig (some (i,(t,fs))) w (.returned (.tuple #[.agg #[.int .i64 i,.int .i64 t,.slice g fs.length c],.bool true])) (Ztn (q.setCell ⟨R+1,2,none⟩ (.slice g fs.length c)) R (.int .i64 i) (.int .i64 t) (.slice g fs.length c))):=Y4
  ⟨_,rfl,(Za0 H m (fun b j=>⟨by omega,by omega⟩)).weak fun b _ j=>⟨by have:=j.1;omega,j.2⟩,
   ((z.z.trans (f.mono (by omega))).trans (m.below (by have:=f.size;omega) fun k M=>⟨by omega,by omega⟩))⟩
 clear H f a0 C U r x m F T V N z s A c1 c2 c3;go_wp2_with fail;refine bodyPost_ret (Zde (p:=4) (u:=5) rfl underlying59 rfl ZfO _ _ R _ _ _ rfl Y.z) rfl W.z
theorem Zr8 (v:Value) (l:List Zq) (i:Int) (w:World) (b:ZF ZD w v l) (c:ZAm l):Calls prog 65 #[v,.int .i64 i] w (Zig (atG l i) w):=by
 unfold atG
 by_cases hi:0<=i/\i<(l.length:Int)
 ·obtain ⟨k,rfl⟩:=Xay hi.1;have a:k<l.length:=by have:=hi.2;omega
  rw [Xe hi,show ((k:Int)).toNat=k from XY k,XZ a];exact ZAr v l k w b c a
 ·rw [Xc hi];exact ZCn v l i w b hi
end SG
namespace GM
open VM
open SM (Zq isS ZaS)
open EM (Zm)
def exA:List Zq:=[(1,(7,[([109,115,103],[120])]))]
def exC:List Zq:=[(4,(0,[]))]
theorem Zsx:isS exA=true:=by decide +kernel
theorem ZxU:isS exC=true:=by decide +kernel
theorem ZjZ:ZbV exA:=fun _=>by decide +kernel
theorem Zn0:ZbV exC:=fun _=>by decide +kernel
theorem ZtX:ZaS exA:=fun d a=>by
 obtain rfl:=XaJ.1 a;exact ⟨by decide,by decide⟩
theorem ZtY:ZaS exC:=fun d a=>by
 obtain rfl:=XaJ.1 a;exact ⟨by decide,by decide⟩
theorem ZCv {l:List Zq} (b:isS l=true) (hs:ZbV l) (a:l≠[]):ZeJ l=(ZaE l,0):=by rw [Zdz hs,Xe ⟨b,a⟩]
theorem Zu8:Zm (Zp exA) [109,115,103,58,120]=[(0,[0])]:=by decide +kernel
theorem ZxT:Zj exA=(7,7,1,1,1):=by decide +kernel
theorem ZAM:(!exA.isEmpty&&BM.Zh2 (Z8 (Zp exA)) [109,115,103,58,120])=true:=by decide +kernel
theorem ZxV:(Zp exC).length=0:=by decide +kernel
theorem ZAN:(!exC.isEmpty&&BM.Zh2 (Z8 (Zp exC)) [109,115,103,58,120])=false:=by decide +kernel
open EM (Ev Fld Zap Z0 Zcd ZH ZaK Zda)
open SM (Zq isS Zge encS ZR Zk8 Zfc Zas Zg8 ZK Zcv)
def Ziu (fs:List Fld):List Fld:=(fs.take 8).map fun f=>(f.1,f.2.take 300)
def Zf9 (d:Zq):Zq:=(d.1,(d.2.1,Ziu d.2.2))
def ZkH (l:List Zq):List Zq:=(l.take 40).map Zf9
def ZfG (l:List Zq):List Zq:=ZkH (l.take 25)
theorem Zqy (l:List Zq):(ZfG l).length<=25:=by unfold ZfG ZkH;simp;omega
theorem ZxY {l:List Zq} (h:SM.ZaS l):SM.ZaS (ZfG l):=fun d a=>by
 unfold ZfG ZkH at a;obtain ⟨e,b,rfl⟩:=X4.1 a;exact h e (Xaq (Xaq b))
theorem Zn1:∀{fs:List Fld},(∀f∈fs,f.1.length<=32/\f.2.length<=300)->Zap fs<=332*fs.length
 | [],_=>by simp [Zap]
 | f::r,h=>by
   have h1:=h f (by simp);have h2:=Zn1 (fs:=r) fun g a=>h g (Xa6 _ a);rw [ZiO,Xh];omega
theorem Zrl {l:List Zq} {m:Nat} (h:∀k (a:k<l.length),(Zk8 l k).length<=m):(ZR l 0 l.length).length<=m*l.length:=by
 unfold ZR;have:=Zga (l:=List.range' 0 (l.length - 0)) (f:=Zk8 l) (m:=m) fun k a=>h k (by rw [List.mem_range'_1] at a;omega);rw [List.length_range'] at this;simpa using this
theorem ZqN (l:List Zq) (c:Nat):(Zas l 0 c).length<=20*c:=by
 unfold Zas
 have:=Zga (l:=List.range' 0 c) (f:=Zg8 l) (m:=20) fun k _=>by
  have b1:=(Zc (SM.ZaJ l (SM.Zbu l k)).toNat).2;have b2:=(Zc (ZR l (16*k) (SM.Zbu l k)).length).2;unfold Zg8;rw [Xd];omega
 rw [List.length_range'] at this;exact this
theorem Zsz (l:List Zq):ZbV (ZfG l):=fun hs=>by
 have hl:=Zqy l
 have b:∀k (c:k<(ZfG l).length),(Zk8 (ZfG l) k).length<=2846:=fun k c=>by
  obtain ⟨h,d⟩:=ZaK.1 (Zge hs c).2.2;have i:(ZfG l)[k]∈ZfG l:=XI c;unfold ZfG ZkH at i;obtain ⟨e,he,a⟩:=X4.1 i;change Zf9 e=(ZfG l)[k] at a;rw [<- a] at h d;have h8:(Ziu e.2.2).length<=8:=by unfold Ziu;rw [XF,Xi];omega
  have j:=Zn1 (fs:=Ziu e.2.2) fun f hf=>by
   refine ⟨Zda (d f hf).1,?_⟩;unfold Ziu at hf;obtain ⟨g,_,rfl⟩:=X4.1 hf
   show (g.2.take 300).length<=300
   rw [Xi];omega
  have m:=(Zcd (Zf9 e).2).1;have n:(Zf9 e).2.2=Ziu e.2.2:=rfl;rw [n] at m;have b1:=(Zc (((ZfG l)[k]).1 - SM.ZaJ (ZfG l) k - 1).toNat).2;rw [Zfc c,Xd,<- a] at *;omega
 have h:=Zrl b;have d:=ZqN (ZfG l) (ZK (ZfG l).length);have h3:=(Zc (ZfG l).length).2;have h4:ZK (ZfG l).length<=2:=by unfold ZK;omega
 unfold SM.encS;simp only [Xd];omega
end GM
namespace SG
open RowKit MM
open EM (Fld)
open EV (ZD Zae ZjR Zx1 Z2 ZeN ZgZ ZcB IsF)
open SR (Zaa ZhM ZhN)
open SM (Zq)
open GM (Ziu Zf9 ZkH ZfG)
variable {k:Nat}
theorem Zvc {fs:List Fld} (a:k<fs.length):(fs.take (k+1)).map (fun f=>(f.1,f.2.take 300))=(fs.take k).map (fun f=>(f.1,f.2.take 300))++[(fs[k].1,fs[k].2.take 300)]:=by
 rw [XG a,XM];rfl
theorem Zvb {l:List Zq} (a:k<l.length):(l.take (k+1)).map Zf9=(l.take k).map Zf9++[Zf9 l[k]]:=by
 rw [XG a,XM];rfl
def ZtI (l:List Zq) (w:World) (e:Ending) (w':World):Prop:=∃u,e=.returned u/\Zaa w.heap.size w' u l/\Below w.heap.size w w'
abbrev ZCj (B:Nat) (w:World) (v:Value) (fs:List Fld):Prop:=ZC Zae 123 B (fun _=>False) w v fs
theorem Zva (v:Value) (l:List Zq) (w:World) (hv:ZF ZD w v l):Calls prog 37 #[v] w (ZtI (ZkH l) w):=by
 obtain ⟨p,a9,rfl,a6,aO,_⟩:=hv.shape;unfold maxLen at aO;have HV:=Y4 hv.bel;have aI:Y5 (Zaa w.heap.size w (.slice none 0 0) ((l.take 0).map Zf9)):=Y4 (Zaa.nil_ _ _);clear hv;go_enter func37,ntmps37;go_wp2_with fail
 go_loopw [3,4] (fun ov iv wr=>∃i:Nat,i<=l.length/\i<=40/\iv=.int .i64 i/\Y5 (Zaa w.heap.size wr ov ((l.take i).map Zf9))/\Y5 (Below w.heap.size w wr)) (fun _ iv _=>40 - (intOf iv).toNat)
 case atStart=>exact ⟨0,by omega,by omega,by go_simp,aI,Y4 (Below.refl _ _)⟩
 case round =>
  obtain ⟨i,hi,a2,rfl,HO,HB⟩:=hrel;obtain ⟨D,a0⟩:∃D,D=wr:=⟨_,rfl⟩;subst a0;clear aI
  by_cases aR:i<l.length/\i<40
  ·obtain ⟨V,h4⟩:=aR;have t1:decide ((i:Int)<(l.length:Int))=true:=Xt;have t2:decide ((i:Int)<40)=true:=Xt;have t3:(i:Int)<(l.length:Int):=by omega
   obtain ⟨b,off,vf,rfl,ad,_,c1,c2,c3,hf⟩:=Z2 (HV.z.below HB.z) V;have r:=Zvb V;obtain ⟨⟨F,t,fs⟩,hd⟩:∃d,l[i]=d:=⟨_,rfl⟩;rw [hd] at c1 c2 hf r;change D.cell? ⟨b,off+i*3,none⟩=some (.int .i64 F) at c1;change D.cell? ⟨b,off+i*3+1,none⟩=some (.int .i64 t) at c2;change ZB Zae _ D vf fs at hf;obtain ⟨pf,cf,rfl,a4,_⟩:=hf.shape;obtain ⟨R,hR⟩:=Xn D.heap.size;have X:=Y4 r;have HF:=Y4 hf;have aQ:=Y4 V;have HR:=Y4 hR;have HC:=Y4 (And.intro c1 (And.intro c2 c3));have aN:=Y4 ad;clear r hf hd;go_wp2_with fail;obtain ⟨wa,T⟩:=Xn (D.alloc (.cells #[.int .i64 F,.int .i64 t,.slice none 0 0] 59));have ax:Below D.heap.size D wa:=by rw [<- T];exact (Below.refl _ _).alloc (Xa _) _
   have aG:Three wa R 59 (.int .i64 F) (.int .i64 t) (.slice none 0 0):=by rw [<- T,<- hR];exact Zaj _ _ _ _ _
   have ak:=Y4 aG;have az:=Y4 ax;rw [T];clear T ax aG c1 c2 c3;have ap:Y5 (ZCj (R+1) wa (.slice none 0 0) ((fs.take 0).map fun f=>(f.1,f.2.take 300))):=Y4 (ZC.nil_ _ _ _ _)
   go_loopw [6] (fun kv m=>∃(k:Nat) (uv:Value),k<=fs.length/\k<=8/\kv=.int .i64 k/\Y5 (Three m R 59 (.int .i64 F) (.int .i64 t) uv)/\Y5 (ZCj (R+1) m uv ((fs.take k).map fun f=>(f.1,f.2.take 300)))/\Y5 (Below D.heap.size D m)) (fun kv _=>8 - (intOf kv).toNat)
   case atStart=>exact ⟨0,_,by omega,by omega,by go_simp,ak,ap,az⟩
   case round =>
    obtain ⟨m,aZ⟩:∃m,m=wr:=⟨_,rfl⟩;subst aZ;obtain ⟨k,uv,hk,ba,rfl,HT,HU,C⟩:=hrel;clear ak ap az;have ad:=aN.z;have aK:=HB.z.size;have aV:b<D.heap.size:=ad;have c3:m.cell? ⟨b,off+i*3+2,none⟩=some (.slice pf fs.length cf):=(C.z.cell (p:=⟨b,off+i*3+2,none⟩) aV).trans HC.z.2.2
    by_cases aT:k<fs.length/\k<8
    ·obtain ⟨aH,a7⟩:=aT;have s1:decide ((k:Int)<(fs.length:Int))=true:=Xt;have s2:decide ((k:Int)<8)=true:=Xt;have s3:(k:Int)<(fs.length:Int):=by omega
     obtain ⟨bf,of,rfl,a8,_,d1,d2⟩:=ZeN (HF.z.any.below C.z) aH;have r:=Zvc aH;obtain ⟨⟨x,y⟩,am⟩:∃f,fs[k]=f:=⟨_,rfl⟩;rw [am] at d1 d2 r;dsimp only at d1 d2 r;have e1:(min (y.length:Int) 300).toNat=min y.length 300:=by omega
     have i1:(min (y.length:Int) 300)<=(y.length:Int):=by omega
     have i2:(0:Int)<=min (y.length:Int) 300:=by omega
     have HE:Y5 ((⟨y.toArray⟩:ByteArray).extract 0 (min (y.length:Int) 300).toNat=⟨(y.take 300).toArray⟩):=Y4 (by
      rw [ZhY,Xap,Nat.sub_zero,e1]
      by_cases h:y.length<=300
      ·rw [Xan h,XB,XO h]
      ·rw [Xbi (by omega)])
     have aB:=Y4 r;clear r am e1;obtain ⟨f0,f1,f2⟩:=HT.z.cells;obtain ⟨pu,cu,J,_⟩:=HU.z.any.shape;have af:((fs.take k).map fun f=>(f.1,f.2.take 300)).length=k:=by rw [XF,Xi];omega
     rw [af] at J;subst J;have aF:=Y4 af;have aY:Y5 (((fs.take (k+1)).map fun f=>(f.1,f.2.take 300)).length=k+1):=Y4 (by rw [XF,Xi];omega);obtain ⟨Y,hY⟩:=Xn ((⟨y.toArray⟩:ByteArray).extract 0 (min (y.length:Int) 300).toNat);have aE:Y=⟨(y.take 300).toArray⟩:=by rw [<- hY];exact HE.z
     obtain ⟨wb,L⟩:=Xn (m.alloc (.cells #[.string ⟨x.toArray⟩,.string Y] 123));have H:Below m.heap.size m wb:=by rw [<- L];exact (Below.refl _ _).alloc (Xa _) _
     obtain ⟨g0,g1⟩:=EV.ZhP m (.string ⟨x.toArray⟩) (.string Y) 123;rw [L] at g0 g1;obtain ⟨wc,W⟩:=Xn (wb.alloc (.cells #[.string ⟨x.toArray⟩,.string Y] 123));have aD:Below wb.heap.size wb wc:=by rw [<- W];exact (Below.refl _ _).alloc (Xa _) _
     have q:Below m.heap.size m wc:=H.trans (aD.mono H.size);have av:R<m.heap.size:=HT.z.lt;obtain ⟨f0,f1,f2⟩:=(HT.z.below H av).cells;have ar:=Y4 (HT.z.below q av);have an:Y5 (ZCj (R+1) wc (.slice pu _ cu) _):=Y4 (HU.z.keep (Za (fun _=>True) q) (fun _ _ h=>h.elim) (fun _ _=>trivial))
     have HS:Y5 (Zds Zae (fun _=>False) wc (.slice (some ⟨wb.heap.size,0,none⟩) 1 1) [(x,y.take 300)]):=Y4 (by
      rw [<- W];exact Zdh 123 (vs:=[.string ⟨x.toArray⟩,.string Y]) (ZgZ.2 (by rw [aE])))
     have aX:=Y4 L;have aU:=Y4 W;have aM:=Y4 hY;have ao:=Y4 (C.z.trans (q.mono C.z.size));have aP:Y5 (R+1<=wc.heap.size):=Y4 (by have:=q.size;omega);clear H L aD W q hY aE af;go_wp2_with (first|(at_builtin;go_loud (refine Zo Zx1 rfl _ _ rfl (R+1) (.slice pu k cu) _ rfl an.z (fun _ _ h=>h.elim) _ [(x,y.take 300)] rfl HS.z (by rw [aF.z];unfold maxLen;simp only [Xh,Xv];omega) (by rw [aF.z];simp only [Xh,Xv];omega) aP.z ?_;intro v5 w5 a n z;rw [<- aB.z] at a;obtain ⟨p5,c5,aq,_⟩:=a.any.shape;rw [aY.z] at aq;subst aq;have a5:=ar.z.below n (Nat.lt_succ_self R);have f5:=a5.fr 2;have g5:=a5.c2;have a1:=Y4 (a5.s2 (.slice p5 (k+1:Nat) c5));have ag:=Y4 a;have u:=Y4 (ao.z.trans (n.mono (by have:=HR.z;omega)));clear a n z a5 an HS ar ao))|(rw [aU.z])|(rw [aM.z,aX.z]))
     have ai:Kep (fun b=>b≠R) w5 (w5.setCell ⟨R,2,none⟩ (.slice p5 (k+1:Nat) c5)):=Zy (fun h=>h rfl) _;have aS:=Y4 (ag.z.keep ai (fun _ _ h=>h.elim) (fun g hg e=>by have:=(ag.z.cells hg).1;omega));have aW:=Y4 (u.z.trans (ai.below (by have:=u.z.size;omega) fun j hj e=>by have:=HR.z;omega));clear ag u ai f5 g5;go_roundw
     case rel=>exact ⟨k+1,_,by omega,by omega,by go_num,a1,aS,aW⟩
     case measure=>simp [intOf];omega
    ·have hT:=HT.z;obtain ⟨f0,f1,f2⟩:=hT.cells
     have o:(fs.take k).map (fun f=>(f.1,f.2.take 300))=Ziu fs:=by
      unfold Ziu;rcases Nat.lt_or_ge k fs.length with h|h
      ·rw [show k=8 by omega]
      ·rw [XO h,XO (by omega:fs.length<=8)]
     have hU:=HU.z;rw [o] at hU;obtain ⟨pu,cu,J,_⟩:=hU.any.shape;subst J;obtain ⟨nf,aw⟩:=Xn ((Ziu fs).length);rw [aw] at f2 hU;have I:=C.z;have aL:R+1<=m.heap.size:=hT.lt;obtain ⟨S0,au,E⟩:=HO.z.keep (Za (fun _=>True) I) fun _ _ _=>trivial;have aK:=HB.z.size;obtain ⟨S,hS⟩:∃S:Nat->Prop,(fun b=>S0 b\/(R+1<=b/\IsF m b))=S:=⟨_,rfl⟩
     have ah:∀b,S b->w.heap.size<=b/\IsF m b:=fun b c=>by
      rw [<- hS] at c;rcases c with c|c
      ·exact au b c
      ·exact ⟨by have:=HR.z;omega,c.2⟩
     have ab:ZC ZD 59 w.heap.size S m u3 ((l.take i).map Zf9):=E.weak fun b _ c=>by rw [<- hS];exact .inl c
     have aa:ZB Zae S m (.slice pu nf cu) (Ziu fs):=hU.ron (fun g hg=>by rw [<- hS];exact .inr ⟨(hU.cells hg).1,(hU.cells hg).2.2⟩) (fun _ _ h=>h.elim);obtain ⟨we,U⟩:=Xn (m.alloc (.cells #[.int .i64 F,.int .i64 t,.slice pu nf cu] 59));have N:Below m.heap.size m we:=by rw [<- U];exact (Below.refl _ _).alloc (Xa _) _
     have HS:Y5 (Zds ZD S we (.slice (some ⟨m.heap.size,0,none⟩) 1 1) [(F,(t,Ziu fs))]):=Y4 (by
      rw [<- U];exact Zdh 59 (vs:=[.int .i64 F,.int .i64 t,.slice pu nf cu]) (ZcB.2 ⟨_,rfl,aa⟩))
     have s:Y5 (∀b,S b->w.heap.size<=b/\IsF we b):=Y4 (fun b c=>⟨(ah b c).1,(ah b c).2.keep (Za (fun _=>True) N) trivial⟩);have A:ZC ZD 59 w.heap.size S we u3 ((l.take i).map Zf9):=ab.keep (Za (fun _=>True) N) (fun _ _ _=>trivial) (fun _ _=>trivial);obtain ⟨p3,aA,ay,_⟩:=A.any.shape;have aj:((l.take i).map Zf9).length=i:=by rw [XF,Xi];omega
     rw [aj] at ay;subst ay;have Z:=Y4 A;have al:=Y4 U;have ae:=Y4 (HB.z.trans ((I.trans (N.mono I.size)).mono aK));have M:=Y4 aj;have V:=aQ.z;have X:Y5 ((l.take (i+1)).map Zf9=(l.take i).map Zf9++[(F,(t,Ziu fs))]):=X;have a3:Y5 (((l.take (i+1)).map Zf9).length=i+1):=Y4 (by rw [XF,Xi];omega);have aJ:Y5 (w.heap.size<=we.heap.size):=Y4 ae.z.size;have O:decide ((k:Int)<(fs.length:Int))=true->decide ((k:Int)<8)=false:=fun h=>by rw [Xg] at h;rw [Xj];omega
     obtain ⟨B,hB⟩:=Xn (decide ((k:Int)<(fs.length:Int)));rw [hB] at O;clear hT hU I aL au E hS ah ab aa U N A aj HT HU C HO HB HF HC o aw;cases B with
     | true =>
       have s2:=O rfl;clear O;go_wp2_with (first|(at_builtin;go_loud (refine Zo ZjR rfl _ _ rfl w.heap.size (.slice p3 i aA) _ rfl Z.z (fun b _ c=>ZhM (s.z b c).2) _ [(F,(t,Ziu fs))] rfl HS.z (by rw [M.z];unfold maxLen;simp only [Xh,Xv];omega) (by rw [M.z];simp only [Xh,Xv];omega) aJ.z ?_;intro v5 w5 a n z;rw [<- X.z] at a;have ac:Y5 (Zaa w.heap.size w5 v5 ((l.take (i+1)).map Zf9)):=Y4 ⟨S,fun b c=>⟨(s.z b c).1,(s.z b c).2.keep z (ZhN Z.z (s.z b c).2)⟩,a⟩;have u:=Y4 (ae.z.trans n);clear a n z))|(rw [al.z]))
       all_goals (
        go_roundw
        case rel=>exact ⟨i+1,by omega,by omega,by go_num,ac,u⟩
        case measure=>simp [intOf];omega)
     | false =>
       clear O;go_wp2_with (first|(at_builtin;go_loud (refine Zo ZjR rfl _ _ rfl w.heap.size (.slice p3 i aA) _ rfl Z.z (fun b _ c=>ZhM (s.z b c).2) _ [(F,(t,Ziu fs))] rfl HS.z (by rw [M.z];unfold maxLen;simp only [Xh,Xv];omega) (by rw [M.z];simp only [Xh,Xv];omega) aJ.z ?_;intro v5 w5 a n z;rw [<- X.z] at a;have ac:Y5 (Zaa w.heap.size w5 v5 ((l.take (i+1)).map Zf9)):=Y4 ⟨S,fun b c=>⟨(s.z b c).1,(s.z b c).2.keep z (ZhN Z.z (s.z b c).2)⟩,a⟩;have u:=Y4 (ae.z.trans n);clear a n z))|(rw [al.z]))
       all_goals (
        go_roundw
        case rel=>exact ⟨i+1,by omega,by omega,by go_num,ac,u⟩
        case measure=>simp [intOf];omega)
  ·have o:(l.take i).map Zf9=ZkH l:=by
    unfold ZkH;rcases Nat.lt_or_ge i l.length with h|h
    ·rw [show i=40 by omega]
    ·rw [XO h,XO (by omega:l.length<=40)]
   have G:decide ((i:Int)<(l.length:Int))=true->decide ((i:Int)<40)=false:=fun h=>by rw [Xg] at h;rw [Xj];omega
   obtain ⟨B,hB⟩:=Xn (decide ((i:Int)<(l.length:Int)));rw [hB] at G;have hO:=HO.z;rw [o] at hO;have aC:=Y4 hO;clear o HO hO;cases B with
   | true =>
     have s2:=G rfl;clear G;go_wp2_with fail
     all_goals (
      go_ret;exact ⟨_,rfl,aC.z,HB.z⟩)
   | false =>
     clear G;go_wp2_with fail
     all_goals (
      go_ret;exact ⟨_,rfl,aC.z,HB.z⟩)
theorem ZAP (v:Value) (l:List Zq) (w:World) (g:ZF ZD w v l):Calls prog 8 #[v] w (ZtI (ZfG l) w):=by
 obtain ⟨p,a,rfl,r,b,_⟩:=g.shape;unfold maxLen at b;have q:(min (l.length:Int) 25).toNat=min l.length 25:=by omega
 have f:=ZB.take g (min l.length 25) (by omega)
 have o:l.take (min l.length 25)=l.take 25:=by
  by_cases h:l.length<=25
  ·rw [Xan h,XB,XO h]
  ·rw [Xbi (by omega)]
 rw [o] at f;have c:=Y4 (Zva _ _ w f);have s:min (l.length:Int) 25=((min l.length 25:Nat):Int):=by omega
 obtain ⟨m,j⟩:=Xn (min l.length 25);rw [j] at c s;have i1:m<=a:=by omega
 have i2:(m:Int)<=(a:Int):=by omega
 clear g f o j q;go_enter func8,ntmps8;go_wp2_with fail;refine c.z.mono ?_;rintro e w1 ⟨u,rfl,d,i⟩;have n:=Y4 (And.intro d i);obtain ⟨pu,cu,rfl,_⟩:=d.any.shape;clear d i c;go_wp2_with fail;go_ret;exact ⟨_,rfl,n.z.1,n.z.2⟩
end SG
namespace FG
open RowKit MM VM CM FM VP CR FP VG
end FG
namespace EV
open RowKit MM EM VM
open VP
