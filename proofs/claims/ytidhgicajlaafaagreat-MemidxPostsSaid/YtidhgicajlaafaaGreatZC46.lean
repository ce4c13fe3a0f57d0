import Derived.Test.YtidhgicajlaafaaGreatZC30
import Derived.Test.YtidhgicajlaafaaGreatZC21
set_option maxRecDepth 100000
set_option maxHeartbeats 8000000
set_option linter.unusedVariables false
set_option linter.unusedSimpArgs false
namespace Go.Proofs.YtidhgicajlaafaaGreat.PW
open Go.RowKit MM PM
theorem docs_len (ps:List Post):(docsL ps).length=ps.length:=by simp [docsL]
theorem docs_at (ps:List Post) (k:Nat) (h:k<ps.length):(docsL ps).getD k 0=ps[k].1:=by simp [docsL,h]
def HalfI (w:World) (g n:Nat) (zs:List Int):Prop:=g<w.heap.size∧∃ cur,w.heap[g]? = some (.cells cur 3)∧cur.size=n∧zs.length≤n∧cur.toList.take zs.length=zs.map (Value.int .i64)
theorem HalfI.cell {w:World} {g n:Nat} {zs:List Int} (h:HalfI w g n zs) {k:Nat} (hk:k<n):(∃ u,w.cell? ⟨g,k,none⟩=some u)∧w.frozen? ⟨g,k,none⟩=false:=by
 obtain ⟨h1,cur,h2,h3,h4,h5⟩:=h
 exact ⟨by rw [cell_of_row w g k _ _ _ h2];exact ⟨_,Array.getElem?_eq_getElem (by omega)⟩,frozen_of_row w g k _ _ h2⟩
theorem HalfI.own {w:World} {g n:Nat} {zs:List Int} (h:HalfI w g n zs) (hn:zs.length=n) (hm:n≤maxLen) {B:Nat} (hB:B≤g):OwnI B w (.slice (some ⟨g,0,none⟩) n n) zs:=by
 obtain ⟨h1,cur,h2,h3,h4,h5⟩:=h
 subst hn
 exact ⟨by simp,.inr ⟨g,zs.length,cur,rfl,hB,h2,Nat.le_refl _,hm,by omega,by rw [Nat.mul_one];exact h5⟩⟩
end Go.Proofs.YtidhgicajlaafaaGreat.PW
namespace Go.Proofs.YtidhgicajlaafaaGreat.PW
open Go.RowKit MM PM
theorem same_more {α:Type} {xs ys:List α} {k:Nat} (hl:xs.length=ys.length) (h:xs.take k=ys.take k) (hk:k<xs.length) (he:xs[k]=ys[k]'(by omega)):xs.take (k+1)=ys.take (k+1):=by
 rw [List.take_succ_eq_append_getElem hk,List.take_succ_eq_append_getElem (by omega),h,he]
theorem same_not {α:Type} {xs ys:List α} {k:Nat} (hl:xs.length=ys.length) (hk:k<xs.length) (he:xs[k]≠ys[k]'(by omega)):xs≠ys:=by
 intro e;subst e;exact he rfl
theorem same_end {α:Type} {xs ys:List α} (hl:xs.length=ys.length) (h:xs.take xs.length=ys.take xs.length):xs=ys:=by
 rw [List.take_length,hl,List.take_length] at h;exact h
theorem sameints_any (u v:Value) (xs ys:List Int) (w:World) (hu:IOn (fun _=>True) w u xs) (hv:IOn (fun _=>True) w v ys) :
  Calls Tryz.prog 37 #[u,v] w fun e w'=>e=.returned (.bool (decide (xs=ys)))∧Below w.heap.size w w':=by
 obtain ⟨p,cp,rfl,hp1,hp2,_⟩:=hu.shape
 obtain ⟨q,cq,rfl,hq1,hq2,_⟩:=hv.shape
 unfold maxLen at hp2 hq2
 have HP:=Lib.hid hu
 have HQ:=Lib.hid hv
 clear hu hv
 by_cases hl:xs.length=ys.length
 ·have HL:=Lib.hid hl
  have t0:((xs.length:Int) == (ys.length:Int))=true:=by rw [beq_iff_eq];omega
  obtain ⟨RES,hRES⟩:∃ R,decide (xs=ys)=R:=⟨_,rfl⟩
  have HE:=Lib.hid hRES
  rw [hRES]
  have H0:Hid (xs.take 0=ys.take 0):=Lib.hid rfl
  clear hl hRES
  go_enter Tryz.func37,Tryz.ntmps37
  go_wp2_with fail
  go_loopw [5] (fun i wr=>∃ k:Nat,k≤xs.length∧i=.int .i64 k∧Hid (xs.take k=ys.take k)∧Hid (Below w.heap.size w wr)) (fun i _=>xs.length - (intOf i).toNat)
  case atStart=>exact ⟨0,Nat.zero_le _,rfl,H0,Lib.hid (Below.refl _ _)⟩
  case round =>
   obtain ⟨k,hk,rfl,HA,HB⟩:=hrel
   clear H0
   by_cases hlt:k<xs.length
   ·have t1:decide ((k:Int)<(xs.length:Int))=true:=by simp;omega
    have hlt2:k<ys.length:=by rw [← HL.out];exact hlt
    obtain ⟨b,off,rfl,hbl,_,hcell⟩:=(HP.out.keep (kep_below (fun _=>True) HB.out) fun _ _ h=>h).at_ hlt
    obtain ⟨b2,off2,rfl,hbl2,_,hcell2⟩:=(HQ.out.keep (kep_below (fun _=>True) HB.out) fun _ _ h=>h).at_ hlt2
    have hmore:=same_more HL.out HA.out hlt
    have hnot:=same_not HL.out hlt
    obtain ⟨x,hx⟩:∃ r,xs[k]=r:=⟨_,rfl⟩
    obtain ⟨y,hy⟩:∃ r,ys[k]=r:=⟨_,rfl⟩
    rw [hx] at hcell hmore hnot
    rw [hy] at hcell2 hmore hnot
    have HM:=Lib.hid hmore
    have HN:=Lib.hid hnot
    clear hx hy hmore hnot
    by_cases hxy:x=y
    ·subst hxy
     have HA2:=Lib.hid (HM.out rfl)
     clear HM HN HA
     go_wp2_with fail
     go_quiet (fail)
     go_wp2_with fail
     go_roundw
     case rel=>exact ⟨k+1,by omega,by go_num,HA2,Lib.hid (MM.below_drewN HB.out _)⟩
     case measure=>simp [intOf];omega
    ·have t2:(x == y)=false:=by rw [beq_eq_false_iff_ne];exact hxy
     have hf:RES=false:=by rw [← HE.out];exact decide_eq_false (HN.out hxy)
     subst hf
     clear HM HN HA hxy
     go_wp2_with fail
     go_quiet (fail)
     go_wp2_with fail
     go_ret
     exact ⟨rfl,MM.below_drewN HB.out _⟩
   ·obtain rfl:k=xs.length:=by omega
    have t1:decide ((xs.length:Int)<(xs.length:Int))=false:=by simp
    have hf:RES=true:=by rw [← HE.out];exact decide_eq_true (same_end HL.out HA.out)
    subst hf
    clear HA
    go_wp2_with fail
    go_ret
    exact ⟨rfl,HB.out⟩
 ·have t0:((xs.length:Int) == (ys.length:Int))=false:=by rw [beq_eq_false_iff_ne];omega
  have hf:decide (xs=ys)=false:=decide_eq_false (fun e=>hl (by rw [e]))
  rw [hf]
  clear hl hf
  go_enter Tryz.func37,Tryz.ntmps37
  go_wp2_with fail
  go_ret
  exact ⟨rfl,Below.refl _ _⟩
end Go.Proofs.YtidhgicajlaafaaGreat.PW
namespace Go.Proofs.YtidhgicajlaafaaGreat.PW
open Go.RowKit MM PM
def oneL (p:Post):Bool:=decide (0≤p.1)&&decide (p.1≤65535) && !oddL p
def okPos (qs:List Int) (k:Nat):Prop:=0≤qs.getD k 0∧qs.getD k 0<1048576∧(0<k→qs.getD (k - 1) 0<qs.getD k 0)
theorem oneL_false {z:Int} {qs:List Int} (k:Nat) (hk:k<qs.length) (h:¬ okPos qs k):oneL (z,qs)=false:=by
 unfold oneL
 rw [Bool.eq_false_iff]
 intro hc
 rw [Bool.and_eq_true] at hc
 have h2:=hc.2
 unfold oddL at h2
 rw [Bool.not_eq_true',Bool.or_eq_false_iff,Bool.not_eq_false'] at h2
 exact h ((riseL_iff2 1048576 qs).1 h2.2 k hk)
theorem oneL_true {z:Int} {qs:List Int} (h0:0≤z) (h1:z≤65535) (hn:qs.length≠0) (h:∀ k,k<qs.length→okPos qs k):oneL (z,qs)=true:=by
 have hr:=(riseL_iff2 1048576 qs).2 h
 unfold oneL oddL
 cases qs with
 | nil=>simp at hn
 | cons q qs=>simp [h0,h1,hr]
theorem oneL_neg {z:Int} {qs:List Int} (h:z<0):oneL (z,qs)=false:=by unfold oneL;rw [decide_eq_false (show ¬ 0≤z by omega)];rfl
theorem oneL_big {z:Int} {qs:List Int} (h:65535<z):oneL (z,qs)=false:=by unfold oneL;rw [decide_eq_false (show ¬ z≤65535 by omega)];simp
theorem oneL_none {z:Int}:oneL (z,[])=false:=by unfold oneL oddL;simp
theorem one_any (z:Int) (x:Value) (qs:List Int) (w:World) (hr:IOn (fun _=>True) w x qs):Calls Tryz.prog 39 #[.agg #[.int .i64 z,x]] w fun e w'=>e=.returned (.bool (oneL (z,qs)))∧Below w.heap.size w w':=by
 obtain ⟨p,cap,rfl,hlc,hcm,_⟩:=hr.shape
 unfold maxLen at hcm
 have hb0:Below w.heap.size w (w.alloc (.cells #[.int .i64 z,.slice p qs.length cap] 75)):=(Below.refl _ _).alloc (Nat.le_refl _) _
 by_cases h0:z<0
 ·have t1:decide (z<0)=true:=decide_eq_true h0
  rw [oneL_neg h0]
  have HB:=Lib.hid hb0
  clear hr h0 hb0
  go_enter Tryz.func39,Tryz.ntmps39
  go_wp2_with fail
  go_ret
  exact ⟨rfl,HB.out⟩
 have t1:decide (z<0)=false:=decide_eq_false h0
 by_cases h1:65535<z
 ·have t2:decide (z>65535)=true:=decide_eq_true h1
  rw [oneL_big h1]
  have HB:=Lib.hid hb0
  clear hr h0 hb0 h1
  go_enter Tryz.func39,Tryz.ntmps39
  go_wp2_with fail
  go_ret
  exact ⟨rfl,HB.out⟩
 have t2:decide (z>65535)=false:=decide_eq_false (by omega)
 by_cases hn:qs.length=0
 ·have t3:((qs.length:Int) == 0)=true:=by rw [beq_iff_eq];omega
  have hq:qs=[]:=List.eq_nil_of_length_eq_zero hn
  have e:oneL (z,qs)=false:=by rw [hq];exact oneL_none
  rw [e]
  have HB:=Lib.hid hb0
  clear hr h0 hb0 h1 hq e hn
  go_enter Tryz.func39,Tryz.ntmps39
  go_wp2_with fail
  go_ret
  exact ⟨rfl,HB.out⟩
 have t3:((qs.length:Int) == 0)=false:=by rw [beq_eq_false_iff_ne];omega
 have HF:=Lib.hid (fun k hk h=>oneL_false (z:=z) (qs:=qs) k hk h)
 have HT:=Lib.hid (fun h=>oneL_true (z:=z) (qs:=qs) (by omega) (by omega) hn h)
 obtain ⟨RES,hRES⟩:∃ R,oneL (z,qs)=R:=⟨_,rfl⟩
 rw [hRES] at HF HT ⊢
 have HR:=Lib.hid (hr.keep (kep_below (fun _=>True) hb0) fun _ _ h=>h)
 have HB:=Lib.hid hb0
 have H0:Hid (∀ j,j<0→okPos qs j):=Lib.hid (fun j hj=>by omega)
 obtain ⟨n,hnn⟩:∃ n,qs.length=n:=⟨_,rfl⟩
 have HNN:=Lib.hid hnn
 rw [hnn] at t3 hlc hb0 HR HB HF HT ⊢
 have hsz1:=hb0.size
 have HC0:Hid ((w.alloc (.cells #[.int .i64 z,.slice p n cap] 75)).heap[w.heap.size]? = some (.cells #[.int .i64 z,.slice p n cap] 75)):=Lib.hid (heap_alloc_new _ _)
 clear hr h0 h1 hn hRES hnn
 go_enter Tryz.func39,Tryz.ntmps39
 go_wp2_with fail
 go_loopw [3] (fun i wr=>∃ k:Nat,k≤n∧i=.int .i64 k∧Hid (∀ j,j<k→okPos qs j)∧Hid (Below (w.alloc (.cells #[.int .i64 z,.slice p n cap] 75)).heap.size (w.alloc (.cells #[.int .i64 z,.slice p n cap] 75)) wr)) (fun i _=>n - (intOf i).toNat)
 case atStart=>exact ⟨0,by omega,rfl,H0,Lib.hid (Below.refl _ _)⟩
 case round =>
  obtain ⟨k,hk,rfl,HA,HBr⟩:=hrel
  clear H0
  have hcc:=(HBr.out.block w.heap.size (by simp)).trans HC0.out
  have f0:wr.cell? ⟨w.heap.size,0,none⟩=some (.int .i64 z):=by rw [cell_of_row wr _ 0 _ _ _ hcc];rfl
  have f1:wr.cell? ⟨w.heap.size,1,none⟩=some (.slice p n cap):=by rw [cell_of_row wr _ 1 _ _ _ hcc];rfl
  by_cases hlt:k<n
  ·have t4:decide ((k:Int)<(n:Int))=true:=by simp;omega
   have hltq:k<qs.length:=by rw [HNN.out];exact hlt
   obtain ⟨b,off,rfl,hbl,_,hcell⟩:=(HR.out.keep (kep_below (fun _=>True) HBr.out) fun _ _ h=>h).at_ hltq
   have hat:=fun j (hj:j<qs.length)=>(((HR.out.keep (kep_below (fun _=>True) HBr.out) fun _ _ h=>h).at_ hj))
   have hg:qs.getD k 0=qs[k]:=by simp [hltq]
   obtain ⟨y,hy⟩:∃ y,qs[k]=y:=⟨_,rfl⟩
   rw [hy] at hcell hg
   have HG:=Lib.hid hg
   have HLQ:=Lib.hid hltq
   have HAT:=Lib.hid hat
   clear hy hg hat hcc
   by_cases c1:y<0
   ·have s1:decide (y<0)=true:=decide_eq_true c1
    have hf:RES=false:=HF.out k hlt (fun h=>by have:=h.1;rw [HG.out] at this;omega)
    subst hf
    clear HA c1
    go_wp2_with fail
    go_quiet (fail)
    go_wp2_with fail
    go_ret
    exact ⟨rfl,MM.below_drewN (HB.out.trans (HBr.out.mono hsz1)) _⟩
   have s1:decide (y<0)=false:=decide_eq_false c1
   by_cases c2:y>1048575
   ·have s2:decide (y>1048575)=true:=decide_eq_true c2
    have hf:RES=false:=HF.out k hlt (fun h=>by have:=h.2.1;rw [HG.out] at this;omega)
    subst hf
    clear HA c1 c2
    go_wp2_with fail
    go_quiet (fail)
    go_wp2_with fail
    go_ret
    exact ⟨rfl,MM.below_drewN (HB.out.trans (HBr.out.mono hsz1)) _⟩
   have s2:decide (y>1048575)=false:=decide_eq_false c2
   by_cases c3:0<k
   ·have s3:decide ((k:Int)>0)=true:=by simp;omega
    obtain ⟨m,hm⟩:∃ m,k=m+1:=⟨k - 1,by omega⟩
    have hmq:m<qs.length:=by rw [HNN.out];omega
    obtain ⟨b',off',hbb,_,_,hcell2⟩:=HAT.out m hmq
    simp only [Option.some.injEq,Addr.mk.injEq] at hbb
    obtain ⟨rfl,rfl,_⟩:=hbb
    have hg2:qs.getD (k - 1) 0=qs[m]:=by rw [show k - 1=m by omega];simp [hmq]
    obtain ⟨y2,hy2⟩:∃ y,qs[m]=y:=⟨_,rfl⟩
    rw [hy2] at hcell2 hg2
    have HG2:=Lib.hid hg2
    have e1:(k:Int) - 1=(m:Int):=by omega
    have e2:IntKind.i64.wrap (m:Int)=(m:Int):=by rw [IntKind.wrap_i64];omega
    have hmn:m<n:=by omega
    have HM:=Lib.hid hm
    clear hy2 hg2 hm
    by_cases c4:y≤y2
    ·have s4:decide (y≤y2)=true:=decide_eq_true c4
     have hf:RES=false:=HF.out k hlt (fun h=>by have:=h.2.2 c3;rw [HG.out,HG2.out] at this;omega)
     subst hf
     clear HA c1 c2 c4
     go_wp2_with fail
     go_quiet (fail)
     go_wp2_with fail
     go_ret
     exact ⟨rfl,MM.below_drewN (HB.out.trans (HBr.out.mono hsz1)) _⟩
    ·have s4:decide (y≤y2)=false:=decide_eq_false c4
     have HA2:Hid (∀ j,j<k+1→okPos qs j):=Lib.hid (fun j hj=>by
      by_cases e:j=k
      ·subst e;unfold okPos;rw [HG.out,HG2.out];omega
      ·exact HA.out j (by omega))
     clear HA c1 c2 c4
     go_wp2_with fail
     go_quiet (fail)
     go_wp2_with fail
     go_roundw
     case rel=>exact ⟨k+1,by omega,by go_num,HA2,Lib.hid (MM.below_drewN HBr.out _)⟩
     case measure=>simp [intOf];omega
   ·have s3:decide ((k:Int)>0)=false:=by simp;omega
    have HA2:Hid (∀ j,j<k+1→okPos qs j):=Lib.hid (fun j hj=>by
     by_cases e:j=k
     ·subst e;unfold okPos;rw [HG.out];omega
     ·exact HA.out j (by omega))
    have s5:decide (0<k)=false:=decide_eq_false c3
    clear HA c1 c2
    go_wp2_with fail
    go_quiet (fail)
    go_wp2_with fail
    go_roundw
    case rel=>exact ⟨k+1,by omega,by go_num,HA2,Lib.hid (MM.below_drewN HBr.out _)⟩
    case measure=>simp [intOf];omega
  ·obtain rfl:k=n:=by omega
   have t4:decide ((k:Int)<(k:Int))=false:=by simp
   have hf:RES=true:=HT.out (fun j hj=>HA.out j hj)
   subst hf
   clear HA
   go_wp2_with fail
   go_ret
   exact ⟨rfl,HB.out.trans (HBr.out.mono hsz1)⟩
end Go.Proofs.YtidhgicajlaafaaGreat.PW
