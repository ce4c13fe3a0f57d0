import Derived.Test.YtdfbkhpkffpckaaZA10
import Derived.Deep.MidRow
import Derived.Test.YtdfbkhpkffpckaaZA22
set_option maxRecDepth 100000
set_option maxHeartbeats 8000000
set_option linter.unusedVariables false
set_option linter.unusedSimpArgs false
namespace Go.Proofs.Ytdfbkhpkffpckaa.PW
open Go.RowKit MM PM
def IOn (S:Nat→Prop) (w:World) (v:Value) (zs:List Int):Prop :=
 ∃ (p:Option Addr) (cap:Nat),v=.slice p zs.length cap∧zs.length≤cap∧cap≤maxLen∧(p=none→cap=0) ∧
   (zs=[]∨∃ b off,p=some ⟨b,off,none⟩∧b<w.heap.size∧S b∧∀ i (h:i<zs.length),w.cell? ⟨b,off+i,none⟩=some (.int .i64 zs[i]))
theorem IOn.keep {S T:Nat→Prop} {w w':World} {v:Value} {zs:List Int} (h:IOn S w v zs) (hk:Kep S w w') (hT:∀ b,b<w.heap.size→S b→T b):IOn T w' v zs:=by
 obtain ⟨p,cap,hv,h1,h2,h3,h⟩:=h
 refine ⟨p,cap,hv,h1,h2,h3,?_⟩
 rcases h with h | ⟨b,off,hp,hlt,hS,hc⟩
 ·exact .inl h
 ·exact .inr ⟨b,off,hp,Nat.lt_of_lt_of_le hlt hk.size,hT b hlt hS,fun i hi=>by rw [hk.cell hlt hS];exact hc i hi⟩
theorem IOn.shape {S:Nat→Prop} {w:World} {v:Value} {zs:List Int} (h:IOn S w v zs):∃ p cap,v=.slice p zs.length cap∧zs.length≤cap∧cap≤maxLen∧(p=none→cap=0):=by
 obtain ⟨p,cap,hv,h1,h2,h3,_⟩:=h
 exact ⟨p,cap,hv,h1,h2,h3⟩
theorem IOn.at_ {S:Nat→Prop} {w:World} {p:Option Addr} {n cap:Nat} {zs:List Int} (h:IOn S w (.slice p n cap) zs) {k:Nat} (hk:k<zs.length) :
  ∃ b off,p=some ⟨b,off,none⟩∧b<w.heap.size∧S b∧w.cell? ⟨b,off+k,none⟩=some (.int .i64 zs[k]):=by
 obtain ⟨p',cap',hv,_,_,_,h⟩:=h
 simp only [Value.slice.injEq] at hv
 obtain ⟨rfl,_,_⟩:=hv
 rcases h with h | ⟨b,off,hp,hlt,hS,hc⟩
 ·subst h;simp at hk
 ·exact ⟨b,off,hp,hlt,hS,hc k hk⟩
theorem IOn.take {S:Nat→Prop} {w:World} {p:Option Addr} {n cap:Nat} {zs:List Int} (h:IOn S w (.slice p n cap) zs) (k:Nat) (hk:k≤n):IOn S w (.slice p k cap) (zs.take k):=by
 obtain ⟨p',cap',hv,h1,h2,h3,h⟩:=h
 simp only [Value.slice.injEq] at hv
 obtain ⟨rfl,rfl,rfl⟩:=hv
 have hl:(zs.take k).length=k:=by rw [List.length_take];omega
 refine ⟨_,_,by rw [hl],by omega,by omega,h3,?_⟩
 rcases h with h | ⟨b,off,rfl,hlt,hS,hc⟩
 ·subst h;left;simp
 ·right
  exact ⟨b,off,rfl,hlt,hS,fun i hi=>by rw [List.getElem_take];exact hc i (by omega)⟩
def rawC (xs:List (Int×Value)):List Value:=xs.flatMap fun t=>[.int .i64 t.1,t.2]
def MeanOn (S:Nat→Prop) (w:World) (xs:List (Int×Value)) (ps:List Post):Prop:=xs.length=ps.length∧∀ i (h:i<xs.length) (h':i<ps.length),xs[i].1=ps[i].1∧IOn S w xs[i].2 ps[i].2
theorem MeanOn.keep {S T:Nat→Prop} {w w':World} {xs:List (Int×Value)} {ps:List Post} (h:MeanOn S w xs ps) (hk:Kep S w w') (hT:∀ b,b<w.heap.size→S b→T b):MeanOn T w' xs ps :=
 ⟨h.1,fun i hi hi'=>⟨(h.2 i hi hi').1,(h.2 i hi hi').2.keep hk hT⟩⟩
def POn (S:Nat→Prop) (w:World) (v:Value) (ps:List Post):Prop :=
 ∃ (p:Option Addr) (cap:Nat) (xs:List (Int×Value)),v=.slice p ps.length cap∧ps.length≤cap∧cap≤maxLen∧(p=none→cap=0)∧MeanOn S w xs ps ∧
   (ps=[]∨∃ b off,p=some ⟨b,off,none⟩∧b<w.heap.size∧S b∧∀ i (h:i<xs.length),w.cell? ⟨b,off+i*2,none⟩=some (.int .i64 xs[i].1)∧w.cell? ⟨b,off+i*2+1,none⟩=some xs[i].2)
theorem POn.keep {S T:Nat→Prop} {w w':World} {v:Value} {ps:List Post} (h:POn S w v ps) (hk:Kep S w w') (hT:∀ b,b<w.heap.size→S b→T b):POn T w' v ps:=by
 obtain ⟨p,cap,xs,hv,h1,h2,h3,hm,h⟩:=h
 refine ⟨p,cap,xs,hv,h1,h2,h3,hm.keep hk hT,?_⟩
 rcases h with h | ⟨b,off,hp,hlt,hS,hc⟩
 ·exact .inl h
 ·exact .inr ⟨b,off,hp,Nat.lt_of_lt_of_le hlt hk.size,hT b hlt hS,fun i hi=>by rw [hk.cell hlt hS,hk.cell hlt hS];exact hc i hi⟩
theorem POn.weak {S T:Nat→Prop} {w:World} {v:Value} {ps:List Post} (h:POn S w v ps) (hT:∀ b,b<w.heap.size→S b→T b):POn T w v ps:=h.keep (Kep.refl _ _) hT
def PRow (w:World) (v:Value) (ps:List Post):Prop:=POn (fun _=>True) w v ps
theorem POn.row {S:Nat→Prop} {w:World} {v:Value} {ps:List Post} (h:POn S w v ps):PRow w v ps:=h.weak fun _ _ _=>trivial
theorem PRow.below {w w':World} {v:Value} {ps:List Post} (h:PRow w v ps) (hb:Below w.heap.size w w'):PRow w' v ps:=h.keep (kep_below _ hb) fun _ _ h=>h
def PIn (B:Nat) (w:World) (v:Value) (ps:List Post):Prop:=POn (fun b=>b<B) w v ps
theorem PIn.below {B:Nat} {w w':World} {v:Value} {ps:List Post} (h:PIn B w v ps) (hb:Below B w w'):PIn B w' v ps :=
 h.keep ⟨hb.os,hb.tape,hb.output,hb.size,fun k _ hk=>hb.block k hk⟩ fun _ _ h=>h
theorem POn.shape {S:Nat→Prop} {w:World} {v:Value} {ps:List Post} (h:POn S w v ps):∃ p cap,v=.slice p ps.length cap∧ps.length≤cap∧cap≤maxLen∧(p=none→cap=0):=by
 obtain ⟨p,cap,xs,hv,h1,h2,h3,_⟩:=h
 exact ⟨p,cap,hv,h1,h2,h3⟩
theorem POn.at_ {S:Nat→Prop} {w:World} {p:Option Addr} {n cap:Nat} {ps:List Post} (h:POn S w (.slice p n cap) ps) {k:Nat} (hk:k<ps.length) :
  ∃ b off x,p=some ⟨b,off,none⟩∧b<w.heap.size∧S b∧w.cell? ⟨b,off+k*2,none⟩=some (.int .i64 ps[k].1)∧w.cell? ⟨b,off+k*2+1,none⟩=some x∧IOn S w x ps[k].2:=by
 obtain ⟨p',cap',xs,hv,_,_,_,hm,h⟩:=h
 simp only [Value.slice.injEq] at hv
 obtain ⟨rfl,_,_⟩:=hv
 rcases h with h | ⟨b,off,hp,hlt,hS,hc⟩
 ·subst h;simp at hk
 ·have hk':k<xs.length:=by rw [hm.1];exact hk
  have h1:=hm.2 k hk' hk
  have h2:=hc k hk'
  exact ⟨b,off,xs[k].2,hp,hlt,hS,by rw [← h1.1];exact h2.1,h2.2,h1.2⟩
def Apt (B:Nat) (w:World) (b:Nat):Prop:=b<B∨∀ cur fr,w.heap[b]? ≠ some (.cells cur 69 fr)
theorem apt_keep {B:Nat} {w w':World} {b:Nat} (h:Apt B w b) (hb:w'.heap[b]? = w.heap[b]?):Apt B w' b:=by
 rcases h with h | h
 ·exact .inl h
 ·exact .inr fun cur fr=>by rw [hb];exact h cur fr
def OwnP (B:Nat) (w:World) (v:Value) (ps:List Post):Prop:=∃ xs,w.ownsRow B 69 2 v xs.length (rawC xs)∧MeanOn (Apt B w) w xs ps
theorem OwnP.keep {B:Nat} {w w':World} {v:Value} {ps:List Post} (h:OwnP B w v ps) (hb:Below w.heap.size w w'):OwnP B w' v ps:=by
 obtain ⟨xs,h1,h2⟩:=h
 exact ⟨xs,own_keep (B:=0) h1 hb,h2.keep (kep_below _ hb) fun b hlt hA=>apt_keep hA (hb.block b hlt)⟩
theorem OwnP.alloc {B:Nat} {w:World} {v:Value} {ps:List Post} (h:OwnP B w v ps) (o:Obj):OwnP B (w.alloc o) v ps:=h.keep ((Below.refl _ _).alloc (Nat.le_refl _) o)
def HalfP (w:World) (g n:Nat) (xs:List (Int×Value)):Prop:=g<w.heap.size∧w.there g 0 (n*2)∧w.rangeAt g 0 (rawC xs)
theorem HalfP.keep {S:Nat→Prop} {w w':World} {g n:Nat} {xs:List (Int×Value)} (h:HalfP w g n xs) (hk:Kep S w w') (hg:S g):HalfP w' g n xs:=by
 obtain ⟨h2,h3,h4⟩:=h
 have hb:=hk.block g h2 hg
 refine ⟨Nat.lt_of_lt_of_le h2 hk.size,fun j hj => ?_,fun j v hj => ?_⟩
 ·have:=h3 j hj
  rw [World.cell?_of_block (a:=⟨g,0+j,none⟩) hb]
  refine ⟨this.1,?_⟩
  have h5:=this.2
  unfold World.frozen? at h5 ⊢
  simp only [hb]
  exact h5
 ·rw [World.cell?_of_block (a:=⟨g,0+j,none⟩) hb]
  exact h4 j v hj
end Go.Proofs.Ytdfbkhpkffpckaa.PW
namespace Go.Proofs.Ytdfbkhpkffpckaa.PW
open Go.RowKit MM PM
def HalfI (w:World) (g n:Nat) (zs:List Int):Prop:=g<w.heap.size∧∃ cur,w.heap[g]? = some (.cells cur 3)∧cur.size=n∧zs.length≤n∧cur.toList.take zs.length=zs.map (Value.int .i64)
theorem HalfI.cell {w:World} {g n:Nat} {zs:List Int} (h:HalfI w g n zs) {k:Nat} (hk:k<n):(∃ u,w.cell? ⟨g,k,none⟩=some u)∧w.frozen? ⟨g,k,none⟩=false:=by
 obtain ⟨h1,cur,h2,h3,h4,h5⟩:=h
 exact ⟨by rw [cell_of_row w g k _ _ _ h2];exact ⟨_,Array.getElem?_eq_getElem (by omega)⟩,frozen_of_row w g k _ _ h2⟩
theorem HalfI.own {w:World} {g n:Nat} {zs:List Int} (h:HalfI w g n zs) (hn:zs.length=n) (hm:n≤maxLen) {B:Nat} (hB:B≤g):OwnI B w (.slice (some ⟨g,0,none⟩) n n) zs:=by
 obtain ⟨h1,cur,h2,h3,h4,h5⟩:=h
 subst hn
 exact ⟨by simp,.inr ⟨g,zs.length,cur,rfl,hB,h2,Nat.le_refl _,hm,by omega,by rw [Nat.mul_one];exact h5⟩⟩
theorem HalfI.keep {S:Nat→Prop} {w w':World} {g n:Nat} {zs:List Int} (h:HalfI w g n zs) (hk:Kep S w w') (hS:S g):HalfI w' g n zs:=by
 obtain ⟨h1,cur,h2,h3⟩:=h
 exact ⟨Nat.lt_of_lt_of_le h1 hk.size,cur,by rw [hk.block g h1 hS];exact h2,h3⟩
end Go.Proofs.Ytdfbkhpkffpckaa.PW
namespace Go.Proofs.Ytdfbkhpkffpckaa.PW
open Go.RowKit MM PM
theorem same_more {α:Type} {xs ys:List α} {k:Nat} (hl:xs.length=ys.length) (h:xs.take k=ys.take k) (hk:k<xs.length) (he:xs[k]=ys[k]'(by omega)):xs.take (k+1)=ys.take (k+1):=by
 rw [List.take_succ_eq_append_getElem hk,List.take_succ_eq_append_getElem (by omega),h,he]
theorem same_not {α:Type} {xs ys:List α} {k:Nat} (hl:xs.length=ys.length) (hk:k<xs.length) (he:xs[k]≠ys[k]'(by omega)):xs≠ys:=by
 intro e;subst e;exact he rfl
theorem same_end {α:Type} {xs ys:List α} (hl:xs.length=ys.length) (h:xs.take xs.length=ys.take xs.length):xs=ys:=by
 rw [List.take_length,hl,List.take_length] at h;exact h
theorem sameints_any (u v:Value) (xs ys:List Int) (w:World) (hu:IOn (fun _=>True) w u xs) (hv:IOn (fun _=>True) w v ys) :
  Calls Try.prog 10 #[u,v] w fun e w'=>e=.returned (.bool (decide (xs=ys)))∧Below w.heap.size w w':=by
 obtain ⟨p,cp,rfl,hp1,hp2,_⟩:=hu.shape
 obtain ⟨q,cq,rfl,hq1,hq2,_⟩:=hv.shape
 unfold maxLen at hp2 hq2
 have HP:=Lib.hid hu
 have HQ:=Lib.hid hv
 clear hu hv
 by_cases hl:xs.length=ys.length
 ·have HL:=Lib.hid hl
  have t0:((xs.length:Int) == (ys.length:Int))=true:=by rw [beq_iff_eq];omega
  obtain ⟨RES,hRES⟩:∃ R,decide (xs=ys)=R:=⟨_,rfl⟩
  have HE:=Lib.hid hRES
  rw [hRES]
  have H0:Hid (xs.take 0=ys.take 0):=Lib.hid rfl
  clear hl hRES
  go_enter Try.func10,Try.ntmps10
  go_wp2_with fail
  go_loopw [5] (fun i wr=>∃ k:Nat,k≤xs.length∧i=.int .i64 k∧Hid (xs.take k=ys.take k)∧Hid (Below w.heap.size w wr)) (fun i _=>xs.length - (intOf i).toNat)
  case atStart=>exact ⟨0,Nat.zero_le _,rfl,H0,Lib.hid (Below.refl _ _)⟩
  case round =>
   obtain ⟨k,hk,rfl,HA,HB⟩:=hrel
   clear H0
   by_cases hlt:k<xs.length
   ·have t1:decide ((k:Int)<(xs.length:Int))=true:=by simp;omega
    have hlt2:k<ys.length:=by rw [← HL.out];exact hlt
    obtain ⟨b,off,rfl,hbl,_,hcell⟩:=(HP.out.keep (kep_below (fun _=>True) HB.out) fun _ _ h=>h).at_ hlt
    obtain ⟨b2,off2,rfl,hbl2,_,hcell2⟩:=(HQ.out.keep (kep_below (fun _=>True) HB.out) fun _ _ h=>h).at_ hlt2
    have hmore:=same_more HL.out HA.out hlt
    have hnot:=same_not HL.out hlt
    obtain ⟨x,hx⟩:∃ r,xs[k]=r:=⟨_,rfl⟩
    obtain ⟨y,hy⟩:∃ r,ys[k]=r:=⟨_,rfl⟩
    rw [hx] at hcell hmore hnot
    rw [hy] at hcell2 hmore hnot
    have HM:=Lib.hid hmore
    have HN:=Lib.hid hnot
    clear hx hy hmore hnot
    by_cases hxy:x=y
    ·subst hxy
     have HA2:=Lib.hid (HM.out rfl)
     clear HM HN HA
     go_wp2_with fail
     go_quiet (fail)
     go_wp2_with fail
     go_roundw
     case rel=>exact ⟨k+1,by omega,by go_num,HA2,Lib.hid (MM.below_drewN HB.out _)⟩
     case measure=>simp [intOf];omega
    ·have t2:(x == y)=false:=by rw [beq_eq_false_iff_ne];exact hxy
     have hf:RES=false:=by rw [← HE.out];exact decide_eq_false (HN.out hxy)
     subst hf
     clear HM HN HA hxy
     go_wp2_with fail
     go_quiet (fail)
     go_wp2_with fail
     go_ret
     exact ⟨rfl,MM.below_drewN HB.out _⟩
   ·obtain rfl:k=xs.length:=by omega
    have t1:decide ((xs.length:Int)<(xs.length:Int))=false:=by simp
    have hf:RES=true:=by rw [← HE.out];exact decide_eq_true (same_end HL.out HA.out)
    subst hf
    clear HA
    go_wp2_with fail
    go_ret
    exact ⟨rfl,HB.out⟩
 ·have t0:((xs.length:Int) == (ys.length:Int))=false:=by rw [beq_eq_false_iff_ne];omega
  have hf:decide (xs=ys)=false:=decide_eq_false (fun e=>hl (by rw [e]))
  rw [hf]
  clear hl hf
  go_enter Try.func10,Try.ntmps10
  go_wp2_with fail
  go_ret
  exact ⟨rfl,Below.refl _ _⟩
end Go.Proofs.Ytdfbkhpkffpckaa.PW
namespace Go.Proofs.Ytdfbkhpkffpckaa.PW
open Go.RowKit MM PM
end Go.Proofs.Ytdfbkhpkffpckaa.PW
