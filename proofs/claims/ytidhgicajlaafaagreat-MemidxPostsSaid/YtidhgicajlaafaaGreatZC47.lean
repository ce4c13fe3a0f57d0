import Derived.Test.YtidhgicajlaafaaGreatZC46
set_option maxRecDepth 100000
set_option maxHeartbeats 8000000
set_option linter.unusedVariables false
set_option linter.unusedSimpArgs false
namespace Go.Proofs.YtidhgicajlaafaaGreat.PW
open Go.RowKit MM PM
theorem rsame_any (u v:Value) (xs ys:List Post) (w:World) (hu:PRow w u xs) (hv:PRow w v ys) :
  Calls Tryz.prog 14 #[u,v] w fun e w'=>e=.returned (.bool (decide (xs=ys)))∧Below w.heap.size w w':=by
 obtain ⟨p,cp,rfl,hp1,hp2,_⟩:=hu.shape
 obtain ⟨q,cq,rfl,hq1,hq2,_⟩:=hv.shape
 unfold maxLen at hp2 hq2
 have HP:=Lib.hid hu
 have HQ:=Lib.hid hv
 clear hu hv
 by_cases hl:xs.length=ys.length
 ·have HL:=Lib.hid hl
  rw [← hl]
  obtain ⟨RES,hRES⟩:∃ R,decide (xs=ys)=R:=⟨_,rfl⟩
  have HE:=Lib.hid hRES
  rw [hRES]
  have H0:Hid (xs.take 0=ys.take 0):=Lib.hid rfl
  clear hl hRES hq1
  go_enter Tryz.func14,Tryz.ntmps14
  go_wp2_with fail
  go_loopw [5] (fun i wr=>∃ k:Nat,k≤xs.length∧i=.int .i64 k∧Hid (xs.take k=ys.take k)∧Hid (Below w.heap.size w wr)) (fun i _=>xs.length - (intOf i).toNat)
  case atStart=>exact ⟨0,Nat.zero_le _,rfl,H0,Lib.hid (Below.refl _ _)⟩
  case round =>
   obtain ⟨k,hk,rfl,HA,HB⟩:=hrel
   clear H0
   by_cases hlt:k<xs.length
   ·have t1:decide ((k:Int)<(xs.length:Int))=true:=by simp;omega
    have hlt2:k<ys.length:=by rw [← HL.out];exact hlt
    obtain ⟨wd,hwd⟩:∃ wd,wr.drew=wd:=⟨_,rfl⟩
    have hbd:Below w.heap.size w wd:=by rw [← hwd];exact HB.out.drew
    obtain ⟨b,off,x1,rfl,hbl,_,hc1,hc2,hx1⟩:=(HP.out.below hbd).at_ hlt
    obtain ⟨b2,off2,x2,rfl,hbl2,_,hd1,hd2,hx2⟩:=(HQ.out.below hbd).at_ hlt2
    have hmore:=same_more HL.out HA.out hlt
    have hnot:=same_not HL.out hlt
    obtain ⟨⟨z1,l1⟩,hy1⟩:∃ r,xs[k]=r:=⟨_,rfl⟩
    obtain ⟨⟨z2,l2⟩,hy2⟩:∃ r,ys[k]=r:=⟨_,rfl⟩
    rw [hy1] at hc1 hx1 hmore hnot
    rw [hy2] at hd1 hx2 hmore hnot
    dsimp only at hc1 hd1 hx1 hx2
    have HC:=Lib.hid (sameints_any x1 x2 l1 l2 wd hx1 hx2)
    have HM:=Lib.hid hmore
    have HN:=Lib.hid hnot
    have HBD:=Lib.hid hbd
    have HC1:=Lib.hid hc1
    have HC2:=Lib.hid hc2
    have HD1:=Lib.hid hd1
    have HD2:=Lib.hid hd2
    have HBL:=Lib.hid hbl
    have HBL2:=Lib.hid hbl2
    obtain ⟨px1,cx1,rfl,_⟩:=hx1.shape
    obtain ⟨px2,cx2,rfl,_⟩:=hx2.shape
    obtain ⟨R,hR⟩:∃ R,decide (l1=l2)=R:=⟨_,rfl⟩
    rw [hR] at HC
    have HRR:=Lib.hid hR
    obtain ⟨n1,hn1⟩:∃ n,l1.length=n:=⟨_,rfl⟩
    obtain ⟨n2,hn2⟩:∃ n,l2.length=n:=⟨_,rfl⟩
    rw [hn1] at HC HC2
    rw [hn2] at HC HD2
    clear hy1 hy2 hmore hnot hR hx1 hx2 hc1 hc2 hd1 hd2 hbl hbl2 hbd hn1 hn2
    by_cases hz:z1=z2
    ·have s1:(z1 != z2)=false:=by rw [bne_eq_false_iff_eq];exact hz
     have HZ:=Lib.hid hz
     clear hz
     go_wp2_with fail
     refine RG.begin_ [(0,true),(1,true),(2,true),(3,true),(4,true),(5,true),(6,true),(7,true),(8,true),(9,true),(10,true),(11,true),(12,true),(13,true),(14,true),(15,true),(16,true),(17,true),(18,true),(19,true),(20,true),(21,true),(22,false),(23,true),(24,true)] (by kernel_rfl) (by kernel_rfl) rfl (by kernel_rfl) (fun _ _ d _ _ h=>by cases d<;>exact h) ?_
     simp only [RG.ordered,List.map_cons,List.map_nil,List.getElem?_toArray,List.getElem?_cons_succ,List.getElem?_cons_zero]
     rw [hwd]
     have f1:=fun W (hW:RG.Grew wd W)=>(hW.cell (p:=⟨b,off+k*2,none⟩) HBL.out).trans HC1.out
     have f2:=fun W (hW:RG.Grew wd W)=>(hW.cell (p:=⟨b,off+k*2+1,none⟩) HBL.out).trans HC2.out
     have f3:=fun W (hW:RG.Grew wd W)=>(hW.cell (p:=⟨b2,off2+k*2,none⟩) HBL2.out).trans HD1.out
     have f4:=fun W (hW:RG.Grew wd W)=>(hW.cell (p:=⟨b2,off2+k*2+1,none⟩) HBL2.out).trans HD2.out
     repeat ((first | (refine RG.take (by rfl) (by intro W hW;go_simp;with_reducible rfl) ?_) | (refine RG.skip (by rfl) ?_) | (refine RG.alone_skip (by rfl) ?_));simp only [Act.put,List.setIfInBounds_toArray,List.set_cons_zero,List.set_cons_succ])
     refine RG.alone (by rfl) (fun K hK => ?_)
     go_simp
     refine HC.out.mono ?_
     rintro e w3 ⟨rfl,hb3⟩
     go_simp
     refine hK.out _ _ hb3 ?_
     clear hK K f1 f2 f3 f4
     have HB3:=Lib.hid (HBD.out.trans (hb3.mono HBD.out.size))
     repeat ((first | (refine RG.take (by rfl) (by intro W hW;go_simp;with_reducible rfl) ?_) | (refine RG.skip (by rfl) ?_) | (refine RG.alone_skip (by rfl) ?_));simp only [Act.put,List.setIfInBounds_toArray,List.set_cons_zero,List.set_cons_succ])
     refine RG.done ?_
     clear hb3 HC
     cases R with
     | true =>
       have HA2:=Lib.hid (HM.out (by rw [HZ.out,of_decide_eq_true HRR.out]))
       clear HM HN HA HRR
       go_wp2_with fail
       go_roundw
       case rel=>exact ⟨k+1,by omega,by go_num,HA2,HB3⟩
       case measure=>simp [intOf];omega
     | false =>
       have hf:RES=false:=by rw [← HE.out];exact decide_eq_false (HN.out (fun e=>of_decide_eq_false HRR.out (congrArg Prod.snd e)))
       subst hf
       clear HM HN HA HRR
       go_wp2_with fail
       go_ret
       exact ⟨rfl,HB3.out⟩
    ·have s1:(z1 != z2)=true:=by rw [bne_iff_ne];exact hz
     have hf:RES=false:=by rw [← HE.out];exact decide_eq_false (HN.out (fun e=>hz (congrArg Prod.fst e)))
     subst hf
     clear hz HM HN HA HRR
     go_wp2_with fail
     refine RG.begin_ [(0,true),(1,true),(2,true),(3,true),(4,true),(5,true),(6,true),(7,true),(8,true),(9,true),(10,true),(11,true),(12,true),(13,true),(14,true),(15,true),(16,true),(17,true),(18,true),(19,true),(20,true),(21,true),(22,false),(23,true),(24,true)] (by kernel_rfl) (by kernel_rfl) rfl (by kernel_rfl) (fun _ _ d _ _ h=>by cases d<;>exact h) ?_
     simp only [RG.ordered,List.map_cons,List.map_nil,List.getElem?_toArray,List.getElem?_cons_succ,List.getElem?_cons_zero]
     rw [hwd]
     have f1:=fun W (hW:RG.Grew wd W)=>(hW.cell (p:=⟨b,off+k*2,none⟩) HBL.out).trans HC1.out
     have f3:=fun W (hW:RG.Grew wd W)=>(hW.cell (p:=⟨b2,off2+k*2,none⟩) HBL2.out).trans HD1.out
     repeat ((first | (refine RG.take (by rfl) (by intro W hW;go_simp;with_reducible rfl) ?_) | (refine RG.skip (by rfl) ?_) | (refine RG.alone_skip (by rfl) ?_));simp only [Act.put,List.setIfInBounds_toArray,List.set_cons_zero,List.set_cons_succ])
     refine RG.done ?_
     clear f1 f3 HC
     go_wp2_with fail
     go_ret
     exact ⟨rfl,HBD.out⟩
   ·obtain rfl:k=xs.length:=by omega
    have t1:decide ((xs.length:Int)<(xs.length:Int))=false:=by simp
    have hf:RES=true:=by rw [← HE.out];exact decide_eq_true (same_end HL.out HA.out)
    subst hf
    clear HA
    go_wp2_with fail
    go_ret
    exact ⟨rfl,HB.out⟩
 ·have t0:((xs.length:Int) == (ys.length:Int))=false:=by rw [beq_eq_false_iff_ne];omega
  have hf:decide (xs=ys)=false:=decide_eq_false (fun e=>hl (by rw [e]))
  rw [hf]
  clear hl hf
  go_enter Tryz.func14,Tryz.ntmps14
  go_wp2_with fail
  go_ret
  exact ⟨rfl,Below.refl _ _⟩
end Go.Proofs.YtidhgicajlaafaaGreat.PW
namespace Go.Proofs.YtidhgicajlaafaaGreat.PW
open Go.RowKit MM PM
def okIs (ps:List Post) (k:Nat):Prop:=oneL (ps.getD k (0,[]))=true∧(0<k→(docsL ps).getD (k - 1) 0<(docsL ps).getD k 0)
theorem isL_is (ps:List Post):isL ps=true↔∀ k,k<ps.length→okIs ps k:=by
 rw [isL_iff,riseL_iff2,docs_len]
 constructor
 ·rintro ⟨h1,h2⟩ k hk
  have h:=h1 k hk
  rw [docs_at ps k hk] at h
  have h3:=h2 ps[k] (List.getElem_mem hk)
  have e:ps.getD k (0,[])=ps[k]:=by simp [hk]
  refine ⟨?_,fun h0=>by rw [docs_at ps k hk];exact h.2.2 h0⟩
  rw [e]
  unfold oneL oddL
  rw [decide_eq_true h.1,decide_eq_true (show ps[k].1≤65535 by omega),h3.2]
  cases hq:ps[k].2 with
  | nil=>exact absurd hq h3.1
  | cons q qs=>rfl
 ·intro h
  have hone:∀ k (hk:k<ps.length),0≤ps[k].1∧ps[k].1≤65535∧ps[k].2≠[]∧riseL 1048576 ps[k].2=true:=by
   intro k hk
   have h1:=(h k hk).1
   rw [show ps.getD k (0,[])=ps[k] by simp [hk]] at h1
   unfold oneL oddL at h1
   simp only [Bool.and_eq_true,decide_eq_true_eq,Bool.not_eq_true',Bool.or_eq_false_iff,Bool.not_eq_false'] at h1
   exact ⟨h1.1.1,h1.1.2,by intro e;rw [e] at h1;simp at h1,h1.2.2⟩
  refine ⟨fun k hk => ?_,fun p hp => ?_⟩
  ·have h1:=hone k hk
   have h2:=(h k hk).2
   rw [docs_at ps k hk] at h2 ⊢
   exact ⟨h1.1,by omega,h2⟩
  ·obtain ⟨k,hk,rfl⟩:=List.getElem_of_mem hp
   exact ⟨(hone k hk).2.2.1,(hone k hk).2.2.2⟩
theorem is_any (v:Value) (ps:List Post) (w:World) (hr:PRow w v ps):Calls Tryz.prog 16 #[v] w fun e w'=>e=.returned (.bool (isL ps))∧Below w.heap.size w w':=by
 obtain ⟨p,cap,rfl,hlc,hcm,_⟩:=hr.shape
 unfold maxLen at hcm
 have HR:=Lib.hid hr
 obtain ⟨RES,hRES⟩:∃ RES,isL ps=RES:=⟨_,rfl⟩
 have HF:Hid (∀ k,k<ps.length→¬ okIs ps k→RES=false):=Lib.hid (fun k hk h=>by rw [← hRES,Bool.eq_false_iff];intro hc;exact h ((isL_is ps).1 hc k hk))
 have HT:Hid ((∀ k,k<ps.length→okIs ps k)→RES=true):=Lib.hid (fun h=>by rw [← hRES];exact (isL_is ps).2 h)
 have H0:Hid (∀ k,k<0→okIs ps k):=Lib.hid (fun k hk=>by omega)
 rw [hRES]
 clear hr hRES
 go_enter Tryz.func16,Tryz.ntmps16
 go_wp2_with fail
 go_loopw [3] (fun i wr=>∃ k:Nat,k≤ps.length∧i=.int .i64 k∧Hid (∀ j,j<k→okIs ps j)∧Hid (Below w.heap.size w wr)) (fun i _=>ps.length - (intOf i).toNat)
 case atStart=>exact ⟨0,by omega,rfl,H0,Lib.hid (Below.refl _ _)⟩
 case round =>
  obtain ⟨k,hk,rfl,HA,HB⟩:=hrel
  clear H0
  by_cases hlt:k<ps.length
  ·have t4:decide ((k:Int)<(ps.length:Int))=true:=by simp;omega
   obtain ⟨wd,hwd⟩:∃ wd,wr.drew=wd:=⟨_,rfl⟩
   have hbd:Below w.heap.size w wd:=by rw [← hwd];exact HB.out.drew
   obtain ⟨b,off,x,rfl,hbl,_,hc1,hc2,hx⟩:=(HR.out.below hbd).at_ hlt
   have hone:=one_any ps[k].1 x ps[k].2 wd hx
   have hgd:ps.getD k (0,[])=(ps[k].1,ps[k].2):=by simp [hlt]
   have hdoc:=docs_at ps k hlt
   obtain ⟨z,hz⟩:∃ z,ps[k].1=z:=⟨_,rfl⟩
   rw [hz] at hc1 hone hgd hdoc
   obtain ⟨px,cx,rfl,_⟩:=hx.shape
   generalize ps[k].2=l at *
   have HGD:=Lib.hid hgd
   have HDC:=Lib.hid hdoc
   have HBD:=Lib.hid hbd
   have HC1:=Lib.hid hc1
   have HC2:=Lib.hid hc2
   have HBL:=Lib.hid hbl
   obtain ⟨R,hR⟩:∃ R,oneL (z,l)=R:=⟨_,rfl⟩
   rw [hR] at hone
   have HRR:=Lib.hid hR
   generalize l.length=nl at *
   have HONE:=Lib.hid hone
   clear hx hone hgd hdoc hz hR hc1 hc2 hbl hbd
   have hprev:Hid (0<k→∃ (m:Nat) (y:Int),k=m+1∧m<ps.length∧(docsL ps).getD (k - 1) 0=y∧wd.cell? ⟨b,off+m*2,none⟩=some (.int .i64 y)):=Lib.hid (fun h0=>by
    have hm:k - 1<ps.length:=by omega
    obtain ⟨b',off',x',hbb,_,_,hc,_⟩:=(HR.out.below HBD.out).at_ hm
    simp only [Option.some.injEq,Addr.mk.injEq] at hbb
    obtain ⟨rfl,rfl,_⟩:=hbb
    exact ⟨k - 1,ps[k - 1].1,by omega,hm,docs_at ps (k - 1) hm,hc⟩)
   cases R with
   | false =>
     have hf:RES=false:=HF.out k hlt (fun h=>by have:=h.1;rw [HGD.out,HRR.out] at this;cases this)
     subst hf
     clear HA hprev
     go_wp2_with fail
     refine RG.begin_ [(0,true),(1,true),(2,true),(3,true),(4,false),(5,true),(6,true),(7,true),(8,true),(9,true),(10,true),(11,true),(12,true),(13,true),(14,true),(15,true),(16,true),(17,true),(18,true),(19,true),(20,true),(21,true),(22,true),(23,true)] (by kernel_rfl) (by kernel_rfl) rfl (by kernel_rfl) (fun _ _ d _ _ h=>by cases d<;>exact h) ?_
     simp only [RG.ordered,List.map_cons,List.map_nil,List.getElem?_toArray,List.getElem?_cons_succ,List.getElem?_cons_zero]
     rw [hwd]
     have f1:=fun W (hW:RG.Grew wd W)=>(hW.cell (p:=⟨b,off+k*2,none⟩) HBL.out).trans HC1.out
     have f2:=fun W (hW:RG.Grew wd W)=>(hW.cell (p:=⟨b,off+k*2+1,none⟩) HBL.out).trans HC2.out
     repeat ((first | (refine RG.take (by rfl) (by intro W hW;go_simp;with_reducible rfl) ?_) | (refine RG.skip (by rfl) ?_) | (refine RG.alone_skip (by rfl) ?_));simp only [Act.put,List.setIfInBounds_toArray,List.set_cons_zero,List.set_cons_succ])
     refine RG.alone (by rfl) (fun K hK => ?_)
     go_simp
     refine HONE.out.mono ?_
     rintro e w3 ⟨rfl,hb3⟩
     go_simp
     refine hK.out _ _ hb3 ?_
     clear hK K f1 f2
     have HB3:=Lib.hid (HBD.out.trans (hb3.mono HBD.out.size))
     repeat ((first | (refine RG.take (by rfl) (by intro W hW;go_simp;with_reducible rfl) ?_) | (refine RG.skip (by rfl) ?_) | (refine RG.alone_skip (by rfl) ?_));simp only [Act.put,List.setIfInBounds_toArray,List.set_cons_zero,List.set_cons_succ])
     refine RG.done ?_
     clear hb3 HONE
     go_wp2_with fail
     go_ret
     exact ⟨rfl,HB3.out⟩
   | true =>
     by_cases h0:0<k
     ·obtain ⟨m,y,hkm,hmlt,hyd,hcm⟩:=hprev.out h0
      have s1:decide ((k:Int)>0)=true:=by simp;omega
      have e1:(k:Int) - 1=(m:Int):=by omega
      have e2:IntKind.i64.wrap (m:Int)=(m:Int):=by rw [IntKind.wrap_i64];omega
      have HCM:=Lib.hid hcm
      have HYD:=Lib.hid hyd
      have HKM:=Lib.hid hkm
      clear hprev hcm hyd hkm
      by_cases hzy:z≤y
      ·have s2:decide (z≤y)=true:=decide_eq_true hzy
       have hf:RES=false:=HF.out k hlt (fun h=>by have:=h.2 h0;rw [HDC.out,HYD.out] at this;omega)
       subst hf
       clear HA hzy
       go_wp2_with fail
       refine RG.begin_ [(0,true),(1,true),(2,true),(3,true),(4,false),(5,true),(6,true),(7,true),(8,true),(9,true),(10,true),(11,true),(12,true),(13,true),(14,true),(15,true),(16,true),(17,true),(18,true),(19,true),(20,true),(21,true),(22,true),(23,true)] (by kernel_rfl) (by kernel_rfl) rfl (by kernel_rfl) (fun _ _ d _ _ h=>by cases d<;>exact h) ?_
       simp only [RG.ordered,List.map_cons,List.map_nil,List.getElem?_toArray,List.getElem?_cons_succ,List.getElem?_cons_zero]
       rw [hwd]
       have f1:=fun W (hW:RG.Grew wd W)=>(hW.cell (p:=⟨b,off+k*2,none⟩) HBL.out).trans HC1.out
       have f2:=fun W (hW:RG.Grew wd W)=>(hW.cell (p:=⟨b,off+k*2+1,none⟩) HBL.out).trans HC2.out
       repeat ((first | (refine RG.take (by rfl) (by intro W hW;go_simp;with_reducible rfl) ?_) | (refine RG.skip (by rfl) ?_) | (refine RG.alone_skip (by rfl) ?_));simp only [Act.put,List.setIfInBounds_toArray,List.set_cons_zero,List.set_cons_succ])
       refine RG.alone (by rfl) (fun K hK => ?_)
       go_simp
       refine HONE.out.mono ?_
       rintro e w3 ⟨rfl,hb3⟩
       go_simp
       refine hK.out _ _ hb3 ?_
       clear hK K f1 f2
       have HB3:=Lib.hid (HBD.out.trans (hb3.mono HBD.out.size))
       have f1:=fun W (hW:RG.Grew w3 W)=>((hb3.trans (hW.mono hb3.size)).cell (p:=⟨b,off+k*2,none⟩) HBL.out).trans HC1.out
       have f2:=fun W (hW:RG.Grew w3 W)=>((hb3.trans (hW.mono hb3.size)).cell (p:=⟨b,off+m*2,none⟩) HBL.out).trans HCM.out
       repeat ((first | (refine RG.take (by rfl) (by intro W hW;go_simp;with_reducible rfl) ?_) | (refine RG.skip (by rfl) ?_) | (refine RG.alone_skip (by rfl) ?_));simp only [Act.put,List.setIfInBounds_toArray,List.set_cons_zero,List.set_cons_succ])
       refine RG.done ?_
       clear hb3 HONE f1 f2
       go_wp2_with fail
       go_ret
       exact ⟨rfl,HB3.out⟩
      ·have s2:decide (z≤y)=false:=decide_eq_false hzy
       have HA2:Hid (∀ j,j<k+1→okIs ps j):=Lib.hid (fun j hj=>by
        by_cases e:j=k
        ·subst e;unfold okIs;rw [HGD.out,HDC.out,HYD.out];exact ⟨HRR.out,fun _=>by omega⟩
        ·exact HA.out j (by omega))
       clear HA hzy
       go_wp2_with fail
       refine RG.begin_ [(0,true),(1,true),(2,true),(3,true),(4,false),(5,true),(6,true),(7,true),(8,true),(9,true),(10,true),(11,true),(12,true),(13,true),(14,true),(15,true),(16,true),(17,true),(18,true),(19,true),(20,true),(21,true),(22,true),(23,true)] (by kernel_rfl) (by kernel_rfl) rfl (by kernel_rfl) (fun _ _ d _ _ h=>by cases d<;>exact h) ?_
       simp only [RG.ordered,List.map_cons,List.map_nil,List.getElem?_toArray,List.getElem?_cons_succ,List.getElem?_cons_zero]
       rw [hwd]
       have f1:=fun W (hW:RG.Grew wd W)=>(hW.cell (p:=⟨b,off+k*2,none⟩) HBL.out).trans HC1.out
       have f2:=fun W (hW:RG.Grew wd W)=>(hW.cell (p:=⟨b,off+k*2+1,none⟩) HBL.out).trans HC2.out
       repeat ((first | (refine RG.take (by rfl) (by intro W hW;go_simp;with_reducible rfl) ?_) | (refine RG.skip (by rfl) ?_) | (refine RG.alone_skip (by rfl) ?_));simp only [Act.put,List.setIfInBounds_toArray,List.set_cons_zero,List.set_cons_succ])
       refine RG.alone (by rfl) (fun K hK => ?_)
       go_simp
       refine HONE.out.mono ?_
       rintro e w3 ⟨rfl,hb3⟩
       go_simp
       refine hK.out _ _ hb3 ?_
       clear hK K f1 f2
       have HB3:=Lib.hid (HBD.out.trans (hb3.mono HBD.out.size))
       have f1:=fun W (hW:RG.Grew w3 W)=>((hb3.trans (hW.mono hb3.size)).cell (p:=⟨b,off+k*2,none⟩) HBL.out).trans HC1.out
       have f2:=fun W (hW:RG.Grew w3 W)=>((hb3.trans (hW.mono hb3.size)).cell (p:=⟨b,off+m*2,none⟩) HBL.out).trans HCM.out
       repeat ((first | (refine RG.take (by rfl) (by intro W hW;go_simp;with_reducible rfl) ?_) | (refine RG.skip (by rfl) ?_) | (refine RG.alone_skip (by rfl) ?_));simp only [Act.put,List.setIfInBounds_toArray,List.set_cons_zero,List.set_cons_succ])
       refine RG.done ?_
       clear hb3 HONE f1 f2
       go_wp2_with fail
       go_roundw
       case rel=>exact ⟨k+1,by omega,by go_num,HA2,HB3⟩
       case measure=>simp [intOf];omega
     ·have s1:decide ((k:Int)>0)=false:=by simp;omega
      have s5:decide (0<k)=false:=decide_eq_false h0
      have HA2:Hid (∀ j,j<k+1→okIs ps j):=Lib.hid (fun j hj=>by
       by_cases e:j=k
       ·subst e;unfold okIs;rw [HGD.out];exact ⟨HRR.out,fun h=>absurd h h0⟩
       ·exact HA.out j (by omega))
      clear HA hprev
      go_wp2_with fail
      refine RG.begin_ [(0,true),(1,true),(2,true),(3,true),(4,false),(5,true),(6,true),(7,true),(8,true),(9,true),(10,true),(11,true),(12,true),(13,true),(14,true),(15,true),(16,true),(17,true),(18,true),(19,true),(20,true),(21,true),(22,true),(23,true)] (by kernel_rfl) (by kernel_rfl) rfl (by kernel_rfl) (fun _ _ d _ _ h=>by cases d<;>exact h) ?_
      simp only [RG.ordered,List.map_cons,List.map_nil,List.getElem?_toArray,List.getElem?_cons_succ,List.getElem?_cons_zero]
      rw [hwd]
      have f1:=fun W (hW:RG.Grew wd W)=>(hW.cell (p:=⟨b,off+k*2,none⟩) HBL.out).trans HC1.out
      have f2:=fun W (hW:RG.Grew wd W)=>(hW.cell (p:=⟨b,off+k*2+1,none⟩) HBL.out).trans HC2.out
      repeat ((first | (refine RG.take (by rfl) (by intro W hW;go_simp;with_reducible rfl) ?_) | (refine RG.skip (by rfl) ?_) | (refine RG.alone_skip (by rfl) ?_));simp only [Act.put,List.setIfInBounds_toArray,List.set_cons_zero,List.set_cons_succ])
      refine RG.alone (by rfl) (fun K hK => ?_)
      go_simp
      refine HONE.out.mono ?_
      rintro e w3 ⟨rfl,hb3⟩
      go_simp
      refine hK.out _ _ hb3 ?_
      clear hK K f1 f2
      have HB3:=Lib.hid (HBD.out.trans (hb3.mono HBD.out.size))
      repeat ((first | (refine RG.take (by rfl) (by intro W hW;go_simp;with_reducible rfl) ?_) | (refine RG.skip (by rfl) ?_) | (refine RG.alone_skip (by rfl) ?_));simp only [Act.put,List.setIfInBounds_toArray,List.set_cons_zero,List.set_cons_succ])
      refine RG.done ?_
      clear hb3 HONE
      go_wp2_with fail
      go_roundw
      case rel=>exact ⟨k+1,by omega,by go_num,HA2,HB3⟩
      case measure=>simp [intOf];omega
  ·obtain rfl:k=ps.length:=by omega
   have t4:decide ((ps.length:Int)<(ps.length:Int))=false:=by simp
   have hf:RES=true:=HT.out HA.out
   subst hf
   clear HA
   go_wp2_with fail
   go_ret
   exact ⟨rfl,HB.out⟩
end Go.Proofs.YtidhgicajlaafaaGreat.PW
