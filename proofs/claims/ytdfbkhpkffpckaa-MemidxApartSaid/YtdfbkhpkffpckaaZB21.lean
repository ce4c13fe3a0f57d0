import Derived.Test.YtdfbkhpkffpckaaZB20
set_option maxRecDepth 100000
set_option maxHeartbeats 8000000
set_option linter.unusedVariables false
set_option linter.unusedSimpArgs false
namespace Go.Proofs.Ytdfbkhpkffpckaa.PW
open Go.RowKit MM PM
def HalfI (w:World) (g n:Nat) (zs:List Int):Prop:=g<w.heap.size∧∃ cur,w.heap[g]? = some (.cells cur 3)∧cur.size=n∧zs.length≤n∧cur.toList.take zs.length=zs.map (Value.int .i64)
theorem HalfI.next {w:World} {g n:Nat} {zs:List Int} (h:HalfI w g n zs) (hk:zs.length<n) (z:Int):HalfI (w.setCell ⟨g,zs.length,none⟩ (.int .i64 z)) g n (zs++[z]):=by
 obtain ⟨h1,cur,h2,h3,h4,h5⟩:=h
 have:=heap_setCell_same w g zs.length _ _ (.int .i64 z) h2
 refine ⟨by simpa using h1,_,this,by simp [h3],by simp;omega,?_⟩
 rw [List.length_append,List.length_singleton,List.take_succ_eq_append_getElem (by simp;omega)]
 simp only [Array.toList_setIfInBounds,List.map_append,List.map_singleton]
 rw [List.take_set_of_le (by omega),h5]
 simp
theorem HalfI.cell {w:World} {g n:Nat} {zs:List Int} (h:HalfI w g n zs) {k:Nat} (hk:k<n):(∃ u,w.cell? ⟨g,k,none⟩=some u)∧w.frozen? ⟨g,k,none⟩=false:=by
 obtain ⟨h1,cur,h2,h3,h4,h5⟩:=h
 exact ⟨by rw [cell_of_row w g k _ _ _ h2];exact ⟨_,Array.getElem?_eq_getElem (by omega)⟩,frozen_of_row w g k _ _ h2⟩
theorem HalfI.own {w:World} {g n:Nat} {zs:List Int} (h:HalfI w g n zs) (hn:zs.length=n) (hm:n≤maxLen) {B:Nat} (hB:B≤g):OwnI B w (.slice (some ⟨g,0,none⟩) n n) zs:=by
 obtain ⟨h1,cur,h2,h3,h4,h5⟩:=h
 subst hn
 exact ⟨by simp,.inr ⟨g,zs.length,cur,rfl,hB,h2,Nat.le_refl _,hm,by omega,by rw [Nat.mul_one];exact h5⟩⟩
theorem HalfI.keep {S:Nat→Prop} {w w':World} {g n:Nat} {zs:List Int} (h:HalfI w g n zs) (hk:Kep S w w') (hS:S g):HalfI w' g n zs:=by
 obtain ⟨h1,cur,h2,h3⟩:=h
 exact ⟨Nat.lt_of_lt_of_le h1 hk.size,cur,by rw [hk.block g h1 hS];exact h2,h3⟩
end Go.Proofs.Ytdfbkhpkffpckaa.PW
namespace Go.Proofs.Ytdfbkhpkffpckaa.PW
open Go.RowKit MM PM
end Go.Proofs.Ytdfbkhpkffpckaa.PW
namespace Go.Proofs.Ytdfbkhpkffpckaa.PW
open Go.RowKit MM PM
def findL:List Post→Int→Option (List Int)
 | [],_=>none
 | p::ps,d=>if p.1=d then some p.2 else findL ps d
theorem findL_skip:∀ (a b:List Post) (d:Int),(∀ p∈a,p.1≠d)→findL (a++b) d=findL b d
 | [],_,_,_=>rfl
 | p::a,b,d,h=>by
   rw [List.cons_append,findL,if_neg (h p (by simp)),findL_skip a b d (fun q hq=>h q (by simp [hq]))]
def FoundIn (S:Nat→Prop) (r:Option (List Int)) (w:World) (e:Ending) (w':World):Prop:=∃ v,e=.returned (.tuple #[v,.bool r.isSome])∧IOn S w' v (r.getD [])∧Below w.heap.size w w'
theorem rfind_any (v:Value) (ps:List Post) (d:Int) (w:World) (hr:PRow w v ps):Calls Try.prog 31 #[v,.int .i64 d] w (FoundIn (fun _=>True) (findL ps d) w):=by
 obtain ⟨p,cap,rfl,hlc,hcm,_⟩:=hr.shape
 unfold maxLen at hcm
 have HR:=Lib.hid hr
 have HS:=Lib.hid (fun k (h:∀ q∈ps.take k,q.1≠d)=>by
  have:=findL_skip (ps.take k) (ps.drop k) d h
  rw [List.take_append_drop] at this
  exact this)
 obtain ⟨RES,hRES⟩:∃ R,findL ps d=R:=⟨_,rfl⟩
 rw [hRES] at HS ⊢
 have H0:Hid (∀ q∈ps.take 0,q.1≠d):=Lib.hid (fun q hq=>by simp at hq)
 clear hr hRES
 go_enter Try.func31,Try.ntmps31
 go_wp2_with fail
 go_loopw [6] (fun i wr=>∃ k:Nat,k≤ps.length∧i=.int .i64 k∧Hid (∀ q∈ps.take k,q.1≠d)∧Hid (Below w.heap.size w wr)) (fun i _=>ps.length - (intOf i).toNat)
 case atStart=>exact ⟨0,by omega,rfl,H0,Lib.hid (Below.refl _ _)⟩
 case round =>
  obtain ⟨k,hk,rfl,HA,HB⟩:=hrel
  clear H0
  by_cases hlt:k<ps.length
  ·have t1:decide ((k:Int)<(ps.length:Int))=true:=by simp;omega
   obtain ⟨b,off,x,rfl,hbl,_,hc1,hc2,hx⟩:=(HR.out.below HB.out).at_ hlt
   have hd:ps.drop k=ps[k]::ps.drop (k+1):=List.drop_eq_getElem_cons hlt
   have hs:=HS.out k HA.out
   rw [hd,findL] at hs
   have HMem:Hid (ps[k].1≠d→∀ q∈ps.take (k+1),q.1≠d):=Lib.hid (fun h q hq=>by
    rw [List.take_succ_eq_append_getElem hlt,List.mem_append] at hq
    rcases hq with hq | hq
    ·exact HA.out q hq
    ·simp at hq;subst hq;exact h)
   obtain ⟨⟨z,l⟩,hz⟩:∃ z,ps[k]=z:=⟨_,rfl⟩
   rw [hz] at hc1 hx hs HMem
   dsimp only at hc1 hx hs HMem
   obtain ⟨px,cx,rfl,_⟩:=hx.shape
   have HX:=Lib.hid hx
   have HSS:=Lib.hid hs
   clear hx hz hd hs
   by_cases he:z=d
   ·have s1:(z == d)=true:=by rw [beq_iff_eq];exact he
    have h2:=HSS.out
    rw [if_pos he] at h2
    have H2:=Lib.hid h2
    clear he h2 HSS HMem HA
    go_wp2_with fail
    go_ret2
    rw [H2.out]
    exact ⟨_,rfl,HX.out,HB.out⟩
   ·have s1:(z == d)=false:=by rw [beq_eq_false_iff_ne];exact he
    have HA2:=Lib.hid (HMem.out he)
    clear he HMem HA HSS
    go_wp2_with fail
    go_roundw
    case rel=>exact ⟨k+1,by omega,by go_num,HA2,HB⟩
    case measure=>simp [intOf];omega
  ·obtain rfl:k=ps.length:=by omega
   have t1:decide ((ps.length:Int)<(ps.length:Int))=false:=by simp
   have hs:=HS.out ps.length HA.out
   rw [List.drop_length,findL] at hs
   have H2:=Lib.hid hs
   clear HA hs
   go_wp2_with fail
   go_ret2
   rw [H2.out]
   exact ⟨_,rfl,IOn.nil_ _ _,HB.out⟩
end Go.Proofs.Ytdfbkhpkffpckaa.PW
namespace Go.Proofs.Ytdfbkhpkffpckaa.PW
open Go.RowKit MM PM
theorem rsame_any (u v:Value) (xs ys:List Post) (w:World) (hu:PRow w u xs) (hv:PRow w v ys) :
  Calls Try.prog 14 #[u,v] w fun e w'=>e=.returned (.bool (decide (xs=ys)))∧Below w.heap.size w w':=by
 obtain ⟨p,cp,rfl,hp1,hp2,_⟩:=hu.shape
 obtain ⟨q,cq,rfl,hq1,hq2,_⟩:=hv.shape
 unfold maxLen at hp2 hq2
 have HP:=Lib.hid hu
 have HQ:=Lib.hid hv
 clear hu hv
 by_cases hl:xs.length=ys.length
 ·have HL:=Lib.hid hl
  rw [← hl]
  obtain ⟨RES,hRES⟩:∃ R,decide (xs=ys)=R:=⟨_,rfl⟩
  have HE:=Lib.hid hRES
  rw [hRES]
  have H0:Hid (xs.take 0=ys.take 0):=Lib.hid rfl
  clear hl hRES hq1
  go_enter Try.func14,Try.ntmps14
  go_wp2_with fail
  go_loopw [5] (fun i wr=>∃ k:Nat,k≤xs.length∧i=.int .i64 k∧Hid (xs.take k=ys.take k)∧Hid (Below w.heap.size w wr)) (fun i _=>xs.length - (intOf i).toNat)
  case atStart=>exact ⟨0,Nat.zero_le _,rfl,H0,Lib.hid (Below.refl _ _)⟩
  case round =>
   obtain ⟨k,hk,rfl,HA,HB⟩:=hrel
   clear H0
   by_cases hlt:k<xs.length
   ·have t1:decide ((k:Int)<(xs.length:Int))=true:=by simp;omega
    have hlt2:k<ys.length:=by rw [← HL.out];exact hlt
    obtain ⟨wd,hwd⟩:∃ wd,wr.drew=wd:=⟨_,rfl⟩
    have hbd:Below w.heap.size w wd:=by rw [← hwd];exact HB.out.drew
    obtain ⟨b,off,x1,rfl,hbl,_,hc1,hc2,hx1⟩:=(HP.out.below hbd).at_ hlt
    obtain ⟨b2,off2,x2,rfl,hbl2,_,hd1,hd2,hx2⟩:=(HQ.out.below hbd).at_ hlt2
    have hmore:=same_more HL.out HA.out hlt
    have hnot:=same_not HL.out hlt
    obtain ⟨⟨z1,l1⟩,hy1⟩:∃ r,xs[k]=r:=⟨_,rfl⟩
    obtain ⟨⟨z2,l2⟩,hy2⟩:∃ r,ys[k]=r:=⟨_,rfl⟩
    rw [hy1] at hc1 hx1 hmore hnot
    rw [hy2] at hd1 hx2 hmore hnot
    dsimp only at hc1 hd1 hx1 hx2
    have HC:=Lib.hid (sameints_any x1 x2 l1 l2 wd hx1 hx2)
    have HM:=Lib.hid hmore
    have HN:=Lib.hid hnot
    have HBD:=Lib.hid hbd
    have HC1:=Lib.hid hc1
    have HC2:=Lib.hid hc2
    have HD1:=Lib.hid hd1
    have HD2:=Lib.hid hd2
    have HBL:=Lib.hid hbl
    have HBL2:=Lib.hid hbl2
    obtain ⟨px1,cx1,rfl,_⟩:=hx1.shape
    obtain ⟨px2,cx2,rfl,_⟩:=hx2.shape
    obtain ⟨R,hR⟩:∃ R,decide (l1=l2)=R:=⟨_,rfl⟩
    rw [hR] at HC
    have HRR:=Lib.hid hR
    obtain ⟨n1,hn1⟩:∃ n,l1.length=n:=⟨_,rfl⟩
    obtain ⟨n2,hn2⟩:∃ n,l2.length=n:=⟨_,rfl⟩
    rw [hn1] at HC HC2
    rw [hn2] at HC HD2
    clear hy1 hy2 hmore hnot hR hx1 hx2 hc1 hc2 hd1 hd2 hbl hbl2 hbd hn1 hn2
    by_cases hz:z1=z2
    ·have s1:(z1 != z2)=false:=by rw [bne_eq_false_iff_eq];exact hz
     have HZ:=Lib.hid hz
     clear hz
     go_wp2_with fail
     refine RG.begin_ [(0,true),(1,true),(2,true),(3,true),(4,true),(5,true),(6,true),(7,true),(8,true),(9,true),(10,true),(11,true),(12,true),(13,true),(14,true),(15,true),(16,true),(17,true),(18,true),(19,true),(20,true),(21,true),(22,false),(23,true),(24,true)] (by kernel_rfl) (by kernel_rfl) rfl (by kernel_rfl) (fun _ _ d _ _ h=>by cases d<;>exact h) ?_
     simp only [RG.ordered,List.map_cons,List.map_nil,List.getElem?_toArray,List.getElem?_cons_succ,List.getElem?_cons_zero]
     rw [hwd]
     have f1:=fun W (hW:RG.Grew wd W)=>(hW.cell (p:=⟨b,off+k*2,none⟩) HBL.out).trans HC1.out
     have f2:=fun W (hW:RG.Grew wd W)=>(hW.cell (p:=⟨b,off+k*2+1,none⟩) HBL.out).trans HC2.out
     have f3:=fun W (hW:RG.Grew wd W)=>(hW.cell (p:=⟨b2,off2+k*2,none⟩) HBL2.out).trans HD1.out
     have f4:=fun W (hW:RG.Grew wd W)=>(hW.cell (p:=⟨b2,off2+k*2+1,none⟩) HBL2.out).trans HD2.out
     repeat ((first | (refine RG.take (by rfl) (by intro W hW;go_simp;with_reducible rfl) ?_) | (refine RG.skip (by rfl) ?_) | (refine RG.alone_skip (by rfl) ?_));simp only [Act.put,List.setIfInBounds_toArray,List.set_cons_zero,List.set_cons_succ])
     refine RG.alone (by rfl) (fun K hK => ?_)
     go_simp
     refine HC.out.mono ?_
     rintro e w3 ⟨rfl,hb3⟩
     go_simp
     refine hK.out _ _ hb3 ?_
     clear hK K f1 f2 f3 f4
     have HB3:=Lib.hid (HBD.out.trans (hb3.mono HBD.out.size))
     repeat ((first | (refine RG.take (by rfl) (by intro W hW;go_simp;with_reducible rfl) ?_) | (refine RG.skip (by rfl) ?_) | (refine RG.alone_skip (by rfl) ?_));simp only [Act.put,List.setIfInBounds_toArray,List.set_cons_zero,List.set_cons_succ])
     refine RG.done ?_
     clear hb3 HC
     cases R with
     | true =>
       have HA2:=Lib.hid (HM.out (by rw [HZ.out,of_decide_eq_true HRR.out]))
       clear HM HN HA HRR
       go_wp2_with fail
       go_roundw
       case rel=>exact ⟨k+1,by omega,by go_num,HA2,HB3⟩
       case measure=>simp [intOf];omega
     | false =>
       have hf:RES=false:=by rw [← HE.out];exact decide_eq_false (HN.out (fun e=>of_decide_eq_false HRR.out (congrArg Prod.snd e)))
       subst hf
       clear HM HN HA HRR
       go_wp2_with fail
       go_ret
       exact ⟨rfl,HB3.out⟩
    ·have s1:(z1 != z2)=true:=by rw [bne_iff_ne];exact hz
     have hf:RES=false:=by rw [← HE.out];exact decide_eq_false (HN.out (fun e=>hz (congrArg Prod.fst e)))
     subst hf
     clear hz HM HN HA HRR
     go_wp2_with fail
     refine RG.begin_ [(0,true),(1,true),(2,true),(3,true),(4,true),(5,true),(6,true),(7,true),(8,true),(9,true),(10,true),(11,true),(12,true),(13,true),(14,true),(15,true),(16,true),(17,true),(18,true),(19,true),(20,true),(21,true),(22,false),(23,true),(24,true)] (by kernel_rfl) (by kernel_rfl) rfl (by kernel_rfl) (fun _ _ d _ _ h=>by cases d<;>exact h) ?_
     simp only [RG.ordered,List.map_cons,List.map_nil,List.getElem?_toArray,List.getElem?_cons_succ,List.getElem?_cons_zero]
     rw [hwd]
     have f1:=fun W (hW:RG.Grew wd W)=>(hW.cell (p:=⟨b,off+k*2,none⟩) HBL.out).trans HC1.out
     have f3:=fun W (hW:RG.Grew wd W)=>(hW.cell (p:=⟨b2,off2+k*2,none⟩) HBL2.out).trans HD1.out
     repeat ((first | (refine RG.take (by rfl) (by intro W hW;go_simp;with_reducible rfl) ?_) | (refine RG.skip (by rfl) ?_) | (refine RG.alone_skip (by rfl) ?_));simp only [Act.put,List.setIfInBounds_toArray,List.set_cons_zero,List.set_cons_succ])
     refine RG.done ?_
     clear f1 f3 HC
     go_wp2_with fail
     go_ret
     exact ⟨rfl,HBD.out⟩
   ·obtain rfl:k=xs.length:=by omega
    have t1:decide ((xs.length:Int)<(xs.length:Int))=false:=by simp
    have hf:RES=true:=by rw [← HE.out];exact decide_eq_true (same_end HL.out HA.out)
    subst hf
    clear HA
    go_wp2_with fail
    go_ret
    exact ⟨rfl,HB.out⟩
 ·have t0:((xs.length:Int) == (ys.length:Int))=false:=by rw [beq_eq_false_iff_ne];omega
  have hf:decide (xs=ys)=false:=decide_eq_false (fun e=>hl (by rw [e]))
  rw [hf]
  clear hl hf
  go_enter Try.func14,Try.ntmps14
  go_wp2_with fail
  go_ret
  exact ⟨rfl,Below.refl _ _⟩
end Go.Proofs.Ytdfbkhpkffpckaa.PW
