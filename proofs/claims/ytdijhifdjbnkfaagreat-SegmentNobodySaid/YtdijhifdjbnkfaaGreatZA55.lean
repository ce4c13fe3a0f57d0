/-
  
-/
import Derived.Test.YtdijhifdjbnkfaaGreatZA17
import Derived.Test.YtdijhifdjbnkfaaGreatZA44
import Derived.Test.YtdijhifdjbnkfaaGreatZA16
import Derived.Test.YtdijhifdjbnkfaaGreatZA46
import Derived.Test.YtdijhifdjbnkfaaGreatZA53
import Derived.Test.YtdijhifdjbnkfaaGreatZA54
import Derived.Test.YtdijhifdjbnkfaaGreatZA24
import Derived.Test.YtdijhifdjbnkfaaGreatZA18
import Derived.Test.YtdijhifdjbnkfaaGreatZA23
import Derived.Test.YtdijhifdjbnkfaaGreatZA14
import Derived.Test.YtdijhifdjbnkfaaGreatZA21
set_option linter.unusedSimpArgs false
set_option linter.unusedVariables false
namespace Go.Proofs.YtdijhifdjbnkfaaGreat.SG
open Go Go.RowKit Go.Proofs.YtdijhifdjbnkfaaGreat.MM
open Go.Proofs.YtdijhifdjbnkfaaGreat.EV (docC fldC)
open Go.Proofs.YtdijhifdjbnkfaaGreat.SM (Doc isS FitS decS)
open Go.Proofs.YtdijhifdjbnkfaaGreat.DT (DictP DictAt)
open Go.Proofs.YtdijhifdjbnkfaaGreat.DM (encD)
open Go.Proofs.YtdijhifdjbnkfaaGreat.SR (DocsOwn)
open Go.Proofs.YtdijhifdjbnkfaaGreat.GM (Six OpenSmall docsIn docsIn_fit docsIn_small open_yes open_no six_none sectsG encG encG_cases encG_ok decG entsG postsG rowsG footG filterG filterG_len sized)
theorem sect_at {S:Nat→Prop} {w:World} {g off n cap:Nat} {L:List (List UInt8)} (h:ROn (cRow cU8) S w (.slice (some ⟨g,off,none⟩) n cap) L) (k:Nat) (hk:k<L.length):∃ u,BOn S w u L[k]∧w.cell? ⟨g,off+k,none⟩=some u:=by
 obtain ⟨b,o,vs,hp,_,_,⟨u,hu,hon⟩,hc⟩:=h.at_ hk
 simp only [Option.some.injEq,Addr.mk.injEq,and_true] at hp
 obtain ⟨rfl,rfl⟩:=hp
 refine ⟨u,hon,?_⟩
 have:=hc 0 u (by rw [hu];rfl)
 rwa [show (cRow cU8).size=1 from rfl,Nat.mul_one,Nat.add_zero] at this
theorem row_below {S:Nat→Prop} {w w':World} {v:Value} {L:List (List UInt8)} (h:ROn (cRow cU8) S w v L) (hb:Below w.heap.size w w'):ROn (cRow cU8) S w' v L:=h.keep (kep_below S hb) fun _ _ h=>h
theorem sect_stays {w W:World} {g k:Nat} {u:Value} (h:w.cell? ⟨g,k,none⟩=some u) (hb:Below w.heap.size w W):W.cell? ⟨g,k,none⟩=some u:=by
 have hlt:g<w.heap.size:=by
  cases hh:w.heap[g]? with
  | none=>simp [World.cell?,hh] at h
  | some x=>exact (Array.getElem?_eq_some_iff.1 hh).1
 rw [hb.cell hlt]
 exact h
theorem docs_ron {B:Nat} {w:World} {v:Value} {l:List Doc} (h:DocsOwn B w v l):ROn docC (fun k=>B≤k) w v l:=by
 obtain ⟨S,h1,h2⟩:=h
 exact h2.ron (fun g hg=>(h2.cells hg).1) fun b _ hb=>(h1 b hb).1
def OpenG (b:List UInt8) (w:World) (e:Ending) (w':World):Prop :=
 ∃ p,e=.returned (.tuple #[.pointer p,.int .i64 (if (decG b).isSome then 0 else 130)])∧SegP (fun k=>w.heap.size≤k) w' p ((decG b).getD [])∧(decG b=none→p=none)∧Below w.heap.size w w'
theorem openG_no {b:List UInt8} {w w':World} (h:decG b=none) (hb:Below w.heap.size w w'):OpenG b w (.returned (.tuple #[.pointer none,.int .i64 130])) w':=by
 refine ⟨none,by rw [h];rfl,.inl ⟨rfl,by rw [h];rfl⟩,fun _=>rfl,hb⟩
set_option maxRecDepth 100000 in
set_option maxHeartbeats 1000000 in
theorem open_any (v:Value) (b:List UInt8) (w:World) (hr:BRow w v b) (hs:OpenSmall b):Calls Tryz.prog 12 #[v] w (OpenG b w):=by
 have HC:=Lib.hid (sin_any v b w hr)
 obtain ⟨pv,cv,hpv,_⟩:=hr.shape
 have HR:=Lib.hid hr
 rw [hpv] at HR HC ⊢
 clear hr hpv
 go_enter Tryz.func12,Tryz.ntmps12
 go_wp2_with fail
 refine HC.out.mono ?_
 rintro e w1 ⟨hb1,⟨vs,rfl,hone,hno⟩ | ⟨vs,L,rfl,h6,hrow⟩⟩
 ·have HQ:=Lib.hid (openG_no (six_none hno) hb1)
  clear hb1 hno HC HR
  go_wp2_with fail
  go_ret2
  exact HQ.out
 ·have hl6:=h6.six
  obtain ⟨g,off,cap,hp0⟩:∃ (g off cap:Nat),vs=.slice (some ⟨g,off,none⟩) 6 cap:=by
   obtain ⟨p,cap,rfl,_⟩:=hrow.shape
   obtain ⟨b',o',vs',rfl,_⟩:=hrow.at_ (k:=0) (by omega)
   exact ⟨b',o',cap,by rw [hl6]⟩
  subst hp0
  obtain ⟨u0,hu0,c0⟩:=sect_at hrow 0 (by omega)
  rw [Nat.add_zero] at c0
  have hhead:L[0]=L.headD []:=by
   cases L with
   | nil=>simp at hl6
   | cons a t=>rfl
  rw [hhead] at hu0
  have hsm:=hs.2 L h6
  have HD:=Lib.hid (SR.dec_any u0 _ w1 hu0.brow (by omega))
  obtain ⟨pu0,cu0,rfl,_⟩:=hu0.shape
  obtain ⟨X,hX⟩:∃ X,L.headD []=X:=⟨_,rfl⟩
  rw [hX] at HD c0
  have HX:=Lib.hid hX
  have H6:=Lib.hid h6
  have HROW:=Lib.hid hrow
  have HB1:=Lib.hid hb1
  have HSM:=Lib.hid hsm
  clear hb1 hrow h6 hu0 hX hsm HC hhead
  go_wp2_with fail
  refine HD.out.mono ?_
  rintro e w2 ⟨ud,rfl,hdo,hb2⟩
  have hdoc:(decS X).getD []=docsIn L:=by rw [← HX.out];rfl
  rw [hdoc] at hdo
  have HE:=Lib.hid (enc_any ud (docsIn L) w2 hdo.any (docsIn_small HSM.out) (docsIn_fit L))
  obtain ⟨l,hl⟩:∃ l,docsIn L=l:=⟨_,rfl⟩
  have HL:=Lib.hid hl
  rw [hl] at hdo HE
  obtain ⟨pd,cd,rfl,_⟩:=hdo.any.shape
  have HDO:=Lib.hid (hdo.base HB1.out.size)
  have HB2:=Lib.hid (HB1.out.trans (hb2.mono HB1.out.size))
  have HROW2:=Lib.hid (row_below HROW.out hb2)
  clear hdo hb2 hl HD hdoc HROW c0
  go_wp2_with fail
  refine HE.out.mono ?_
  rintro e w3 ⟨ue,rfl,heo,hb3⟩
  have HB3:=Lib.hid (HB2.out.trans (hb3.mono HB2.out.size))
  have HROW3:=Lib.hid (row_below HROW2.out hb3)
  have HDO3:=Lib.hid (HDO.out.keep (kep_below (fun _=>True) hb3) fun _ _ _=>trivial)
  have HR3:=Lib.hid (BRow.below HR.out HB3.out)
  have hcs:=encG_cases l
  obtain ⟨⟨x,z⟩,hxz⟩:∃ r,encG l=r:=⟨_,rfl⟩
  rw [hxz] at heo hcs ⊢
  dsimp only at heo ⊢
  have HXZ:=Lib.hid hxz
  have HEO:=Lib.hid (OwnB.brow heo)
  obtain ⟨px,cx,rfl,_⟩:=HEO.out.shape
  clear heo hb3 HE HDO HROW2 HB2 HB1 HR hxz
  by_cases hz:z=0
  ·subst hz
   have HEQ:=Lib.hid (equal_any _ _ x b w3 HEO.out HR3.out)
   by_cases hxb:x=b
   ·rw [decide_eq_true hxb] at HEQ
    subst hxb
    clear hcs
    have hyes:=open_yes H6.out (by rw [HL.out];exact HXZ.out)
    rw [HL.out] at hyes
    obtain ⟨hdg,hLs⟩:=hyes
    have hS:=(encG_ok HXZ.out).1
    have hne:=(encG_ok HXZ.out).2.1
    have hsm:=docsIn_small HSM.out
    rw [HL.out] at hsm
    have hz:=sized hS hsm
    subst hLs
    obtain ⟨es,hes⟩:∃ es,entsG 0 (rowsG l)=es:=⟨_,rfl⟩
    obtain ⟨ps,hps⟩:∃ ps,postsG (rowsG l)=ps:=⟨_,rfl⟩
    obtain ⟨fs,hfs⟩:∃ fs,filterG (rowsG l)=fs:=⟨_,rfl⟩
    obtain ⟨u3,hu3,c3⟩:=sect_at HROW3.out 3 (show 3<6 by omega)
    have hu3:BOn (fun k=>w.heap.size≤k) w3 u3 (encD es):=by rw [← hes];exact hu3
    have hlen3:(encD es).length≤1000000000000:=by
     have:=hz.sects (encD (entsG 0 (rowsG l))) (by unfold sectsG;simp)
     rw [hes] at this
     omega
    have hdd:DM.decD (encD es)=some es:=DM.decD_put (by rw [← hes];exact hz.are)
    have hlo:8≤fs.length∧fs.length≤131072:=by rw [← hfs,filterG_len];exact BM.roomL_le _
    have HDI:=Lib.hid (DT.open_any u3 (encD es) w3 hu3.brow hlen3)
    rw [hdd] at HDI
    obtain ⟨pu3,cu3,rfl,_⟩:=hu3.shape
    have HES:=Lib.hid hes
    have HES0:=Lib.hid hes
    have HPS0:=Lib.hid hps
    have HFS0:=Lib.hid hfs
    have HPS:=Lib.hid hps
    have HFS:=Lib.hid hfs
    have HDG:=Lib.hid hdg
    have HNE:=Lib.hid hne
    have HLO:=Lib.hid hlo
    obtain ⟨n3,hn3⟩:∃ n,(encD es).length=n:=⟨_,rfl⟩
    rw [hn3] at HDI c3
    clear hsm hz hes hps hfs hdg hne hlo hdd hu3 hlen3 HEO HR3 HXZ HX HSM hn3
    go_wp2_with fail
    refine HEQ.out.mono ?_
    rintro e w4 ⟨rfl,rfl⟩
    clear HEQ
    go_wp2_with fail
    refine HDI.out.mono ?_
    rintro e w5 ⟨pt,rfl,_,hpt,hb5⟩
    obtain ⟨gt,rfl,hdt⟩:=hpt es rfl
    have HDT:=Lib.hid hdt
    have HROW5:=Lib.hid (row_below HROW3.out hb5)
    have HDO5:=Lib.hid (HDO3.out.keep (kep_below (fun _=>True) hb5) fun _ _ _=>trivial)
    have HB5:=Lib.hid (HB3.out.trans (hb5.mono HB3.out.size))
    obtain ⟨u4,hu4,c4⟩:=sect_at HROW5.out 4 (show 4<6 by omega)
    have hu4:BOn (fun k=>w.heap.size≤k) w5 u4 fs:=by rw [← HFS.out];exact hu4
    have HFR:=Lib.hid (BL.cread_any u4 fs w5 hu4.brow HLO.out.1 HLO.out.2)
    obtain ⟨pu4,cu4,rfl,_⟩:=hu4.shape
    clear hdt hb5 HDI hpt HROW3 HDO3 hu4 c3
    go_wp2_with fail
    refine HFR.out.mono ?_
    rintro e w6 ⟨gf,bf,cf,rfl,hft,hgf,hbf,hb6⟩
    have HB6:=Lib.hid (HB5.out.trans (hb6.mono HB5.out.size))
    obtain ⟨wd,hwd⟩:∃ wd,w6.drew=wd:=⟨_,rfl⟩
    have hbd:Below w6.heap.size w6 wd:=by rw [← hwd];exact (Below.refl _ _).drew
    have HWD:=Lib.hid hwd
    have hb6d:=hb6.trans (hbd.mono hb6.size)
    have HBD:=Lib.hid (HB6.out.trans (hbd.mono HB6.out.size))
    have HROWD:=row_below HROW5.out hb6d
    have HDOD:=HDO5.out.keep (kep_below (fun _=>True) hb6d) fun _ _ _=>trivial
    have HFT:BL.FAt wd gf bf cf fs:=hft.keep (kep_below (fun _=>True) hbd) trivial trivial
    have HDTD:DictAt (fun b=>w.heap.size≤b) wd gt es:=HDT.out.keep (kep_below _ hb6d) fun b _ hb=>by have:=HB3.out.size;omega
    obtain ⟨u2,hu2,c2⟩:=sect_at HROWD 2 (show 2<6 by omega)
    have hu2:BOn (fun k=>w.heap.size≤k) wd u2 ps:=by rw [← HPS.out];exact hu2
    obtain ⟨pu2,cu2,rfl,_⟩:=hu2.shape
    have HFO:=Lib.hid (footof_any _ l wd HDOD.any HNE.out)
    have hg1:w.heap.size≤gf:=by have:=HB5.out.size;omega
    have hg2:w.heap.size≤bf:=by have:=HB5.out.size;omega
    have HFTD:=Lib.hid HFT
    have HDT:=Lib.hid HDTD
    have HDOC:=Lib.hid HDOD
    have HPO:=Lib.hid hu2
    have HG1:=Lib.hid hg1
    have HG2:=Lib.hid hg2
    have i2:(2:Int)<6:=by omega
    clear HROW5 HDO5 hft hgf hbf hb6 hbd hb6d hwd HFT HDTD HDOD HROWD hu2 hg1 hg2 HFR HB6 HB5 HB3 c4 HFS HES HPS HLO
    go_wp2_with fail
    refine RG.begin_ [(0,true),(1,true),(2,true),(3,true),(4,true),(5,true),(6,true),(7,true),(8,false),(9,true),(10,false),(11,true),(12,true)] (by kernel_rfl) (by kernel_rfl) rfl (by kernel_rfl) (fun _ _ d _ _ h=>by cases d<;>exact h) ?_
    simp only [RG.ordered,List.map_cons,List.map_nil,List.getElem?_toArray,List.getElem?_cons_succ,List.getElem?_cons_zero]
    rw [HWD.out]
    iterate 4 (refine RG.take (by rfl) (by intro W hW;go_simp;with_reducible rfl) ?_;simp only [Act.put,List.setIfInBounds_toArray,List.set_cons_zero,List.set_cons_succ])
    refine RG.take (v:=.slice pu2 ps.length cu2) (by rfl) (by intro W hW;have cW:=(sect_stays c2 hW);go_simp) ?_
    simp only [Act.put,List.setIfInBounds_toArray,List.set_cons_zero,List.set_cons_succ]
    iterate 3 (refine RG.take (by rfl) (by intro W hW;go_simp;with_reducible rfl) ?_;simp only [Act.put,List.setIfInBounds_toArray,List.set_cons_zero,List.set_cons_succ])
    refine RG.alone (by rfl) (fun K hK => ?_)
    go_simp
    refine HFO.out.mono ?_
    rintro e w7 ⟨rfl,hb7⟩
    go_simp
    refine hK.out _ _ hb7 ?_
    clear hK K
    iterate 1 (refine RG.take (by rfl) (by intro W hW;go_simp;with_reducible rfl) ?_;simp only [Act.put,List.setIfInBounds_toArray,List.set_cons_zero,List.set_cons_succ])
    refine RG.alone (by rfl) (fun K hK => ?_)
    go_simp
    refine hK.out _ _ ((Below.refl _ _).alloc (Nat.le_refl _) _) ?_
    clear hK K
    obtain ⟨w8,hw8⟩:∃ w8,w7.alloc (.cells (segA (.slice pd l.length cd) (some ⟨gt,0,none⟩) (.slice pu2 ps.length cu2) (some ⟨gf,0,none⟩) (footG l)) 88)=w8:=⟨_,rfl⟩
    have hg8:w8.heap[w7.heap.size]? = some (.cells (segA (.slice pd l.length cd) (some ⟨gt,0,none⟩) (.slice pu2 ps.length cu2) (some ⟨gf,0,none⟩) (footG l)) 88 (0,0)):=by rw [← hw8];exact heap_alloc_new _ _
    have hb8:Below w7.heap.size w7 w8:=by rw [← hw8];exact (Below.refl _ _).alloc (Nat.le_refl _) _
    have HG8:=Lib.hid hg8
    have HW8:Hid (w7.alloc (.cells #[.slice pd l.length cd,.pointer (some ⟨gt,0,none⟩),.slice pu2 ps.length cu2,.pointer (some ⟨gf,0,none⟩),.int .i64 0,.int .i64 0,.int .i64 (footG l).1,.int .i64 (footG l).2.1,.int .i64 (footG l).2.2.1,.int .i64 (footG l).2.2.2.1,.int .i64 ((footG l).2.2.2.2:Int)] 88)=w8):=Lib.hid hw8
    have HB8:=Lib.hid (hb7.trans (hb8.mono hb7.size))
    have HB7:=Lib.hid hb7
    clear hb7 hb8 hg8 hw8 HFO
    rw [HW8.out]
    iterate 2 (refine RG.take (by rfl) (by intro W hW;go_simp;with_reducible rfl) ?_;simp only [Act.put,List.setIfInBounds_toArray,List.set_cons_zero,List.set_cons_succ])
    refine RG.done ?_
    go_wp2_with fail
    go_ret2
    have hb68:Below wd.heap.size wd w8:=HB8.out
    refine ⟨some ⟨w7.heap.size,0,none⟩,by rw [HDG.out];rfl,?_,(fun h=>by rw [HDG.out] at h;cases h),HBD.out.trans (hb68.mono HBD.out.size)⟩
    rw [HDG.out,Option.getD_some]
    refine .inr ⟨w7.heap.size,_,_,_,_,rfl,Nat.le_trans HBD.out.size HB7.out.size,HG8.out,?_⟩
    have hdoc:DocsOwn w.heap.size w8 (.slice pd l.length cd) l:=HDOC.out.keep (kep_below (fun _=>True) hb68) fun _ _ _=>trivial
    refine ⟨docs_ron hdoc,.inr ⟨gt,rfl,by rw [HES0.out];exact HDT.out.keep (kep_below _ hb68) fun _ _ h=>h⟩,?_,.inr ⟨HNE.out,gf,bf,cf,rfl,?_,HG1.out,HG2.out⟩⟩
    ·rw [HPS0.out]
     exact HPO.out.below hb68
    ·rw [HFS0.out]
     exact HFTD.out.keep (kep_below (fun _=>True) hb68) trivial trivial
   ·rw [decide_eq_false hxb] at HEQ
    have HQ:=Lib.hid (openG_no (open_no H6.out (fun h=>hxb (by rw [HL.out,HXZ.out] at h;exact (Prod.mk.inj h).1))) HB3.out)
    clear hcs hxb HEO HR3 HDO3 HROW3
    go_wp2_with fail
    refine HEQ.out.mono ?_
    rintro e w4 ⟨rfl,rfl⟩
    go_wp2_with fail
    go_ret2
    exact HQ.out
  ·have HQ:=Lib.hid (openG_no (open_no H6.out (fun h=>hz (by rw [HL.out,HXZ.out] at h;exact (Prod.mk.inj h).2))) HB3.out)
   have hz2:z=130∨z=2:=by
    rcases hcs with h | h | h
    ·exact .inl (Prod.mk.inj h).2
    ·exact .inr (Prod.mk.inj h).2
    ·exact absurd (Prod.mk.inj h).2 hz
   clear hcs HEO HR3 HDO3 HROW3
   rcases hz2 with rfl | rfl
   all_goals
    go_wp2_with fail
    go_ret2
    exact HQ.out
end Go.Proofs.YtdijhifdjbnkfaaGreat.SG
set_option linter.unusedVariables false
namespace Go.Proofs.YtdijhifdjbnkfaaGreat.SG
open Go Go.RowKit Go.Proofs.YtdijhifdjbnkfaaGreat.MM
open Go.Proofs.YtdijhifdjbnkfaaGreat.EV (docC fldC NewF newf_keep)
open Go.Proofs.YtdijhifdjbnkfaaGreat.SR (infoDoc3)
open Go.Proofs.YtdijhifdjbnkfaaGreat.EM (posOf)
open Go.Proofs.YtdijhifdjbnkfaaGreat.SM (Doc isS FitS decS noDoc)
open Go.Proofs.YtdijhifdjbnkfaaGreat.GM (Small Sized sized entsG postsG rowsG footG filterG entsG_len prefixG rangeG rangeK)
theorem seg_f0 (a b c d e f g h i j k:Value) (w:World):(Instr.field 88 (.agg #[a,b,c,d,e,f,g,h,i,j,k]) 0).run Tryz.prog w=.ok a w:=by kernel_rfl
theorem seg_f1 (a b c d e f g h i j k:Value) (w:World):(Instr.field 88 (.agg #[a,b,c,d,e,f,g,h,i,j,k]) 1).run Tryz.prog w=.ok (.agg #[b,c,d]) w:=by kernel_rfl
theorem seg_f2 (a b c d e f g h i j k:Value) (w:World):(Instr.field 88 (.agg #[a,b,c,d,e,f,g,h,i,j,k]) 2).run Tryz.prog w=.ok (.agg #[e,f,g,h,i,j,k]) w:=by kernel_rfl
set_option maxRecDepth 100000 in
theorem len_any (p:Option Addr) (l:List Doc) (w:World) (h:SegP (fun _=>True) w p l):Calls Tryz.prog 28 #[.pointer p] w fun e w'=>e=.returned (.int .i64 (l.length:Int))∧Below w.heap.size w w':=by
 have HO:=Lib.hid (ornone_any p l w h)
 clear h
 go_enter Tryz.func28,Tryz.ntmps28
 go_wp2_with fail
 refine HO.out.mono ?_
 rintro e w1 ⟨ev,tp,rv,fp,rfl,hD,hb⟩
 have HC:=Lib.hid (count_any ev l w1 hD.docs)
 have HB:=Lib.hid hb
 obtain ⟨pe,ce,rfl,_⟩:=hD.docs.shape
 obtain ⟨pr,cr,rfl,_⟩:=hD.rws.shape
 have f0:=seg_f0 (.slice pe l.length ce) (.pointer tp) (.slice pr (postsG (rowsG l)).length cr) (.pointer fp) (.int .i64 0) (.int .i64 0) (.int .i64 (footG l).1) (.int .i64 (footG l).2.1) (.int .i64 (footG l).2.2.1) (.int .i64 (footG l).2.2.2.1) (.int .i64 ((footG l).2.2.2.2:Int)) w1
 clear hD hb HO
 go_wp2_with fail
 refine HC.out.mono ?_
 rintro e w2 ⟨rfl,rfl⟩
 go_wp2_with fail
 go_ret
 exact ⟨rfl,HB.out⟩
set_option maxRecDepth 100000 in
theorem docs_any (p:Option Addr) (l:List Doc) (w:World) (h:SegP (fun _=>True) w p l) (hF:Wide l) (hl:l.length≤65536):Calls Tryz.prog 15 #[.pointer p] w fun e w'=>(∃ u,e=.returned u∧RAny docC w' u l)∧Below w.heap.size w w':=by
 have HO:=Lib.hid (ornone_any p l w h)
 clear h
 go_enter Tryz.func15,Tryz.ntmps15
 go_wp2_with fail
 refine HO.out.mono ?_
 rintro e w1 ⟨ev,tp,rv,fp,rfl,hD,hb⟩
 have HC:=Lib.hid (all_any ev l w1 hD.docs hF hl)
 have HB:=Lib.hid hb
 obtain ⟨pe,ce,rfl,_⟩:=hD.docs.shape
 obtain ⟨pr,cr,rfl,_⟩:=hD.rws.shape
 have f0:=seg_f0 (.slice pe l.length ce) (.pointer tp) (.slice pr (postsG (rowsG l)).length cr) (.pointer fp) (.int .i64 0) (.int .i64 0) (.int .i64 (footG l).1) (.int .i64 (footG l).2.1) (.int .i64 (footG l).2.2.1) (.int .i64 (footG l).2.2.2.1) (.int .i64 ((footG l).2.2.2.2:Int)) w1
 clear hD hb HO
 go_wp2_with fail
 refine HC.out.mono ?_
 rintro e w2 ⟨⟨u,rfl,hu⟩,hb2⟩
 have HQ:=Lib.hid (And.intro hu (HB.out.trans (hb2.mono HB.out.size)))
 obtain ⟨pu,cu,rfl,_⟩:=hu.shape
 clear hu hb2 HC HB
 go_wp2_with fail
 go_ret
 exact ⟨⟨_,rfl,HQ.out.1⟩,HQ.out.2⟩
set_option maxRecDepth 100000 in
theorem posts_any2 (p:Option Addr) (l:List Doc) (u:List UInt8) (w:World) (h:SegP (fun _=>True) w p l) (hS:isS l=true) (hsm:Small l):Calls Tryz.prog 20 #[.pointer p,.string ⟨u.toArray⟩] w (PostsLeft (posOf (rowsG l) u) w):=by
 have hz:=sized hS hsm
 have HO:=Lib.hid (ornone_any p l w h)
 clear h
 go_enter Tryz.func20,Tryz.ntmps20
 go_wp2_with fail
 refine HO.out.mono ?_
 rintro e w1 ⟨ev,tp,rv,fp,rfl,hD,hb⟩
 have HC:=Lib.hid (posts_any tp rv (.pointer fp) rfl (rowsG l) u w1 hD.dict hz.are (BOn.brow hD.rws) (by have:=hz.posts;omega) (fun r hr=>(hz.row r hr).2.2.2.1))
 have HB:=Lib.hid hb
 obtain ⟨pe,ce,rfl,_⟩:=hD.docs.shape
 obtain ⟨pr,cr,rfl,_⟩:=hD.rws.shape
 have f0:=seg_f1 (.slice pe l.length ce) (.pointer tp) (.slice pr (postsG (rowsG l)).length cr) (.pointer fp) (.int .i64 0) (.int .i64 0) (.int .i64 (footG l).1) (.int .i64 (footG l).2.1) (.int .i64 (footG l).2.2.1) (.int .i64 (footG l).2.2.2.1) (.int .i64 ((footG l).2.2.2.2:Int)) w1
 clear hD hb HO hz
 go_wp2_with fail
 refine HC.out.mono ?_
 rintro e w2 ⟨v,rfl,hv,hb2⟩
 have HQ:=Lib.hid (And.intro hv (HB.out.trans (hb2.mono HB.out.size)))
 obtain ⟨pu,cu,rfl,_⟩:=PW.POn.shape hv
 clear hv hb2 HC HB
 go_wp2_with fail
 go_ret
 exact ⟨_,rfl,HQ.out.1,HQ.out.2⟩
set_option maxRecDepth 100000 in
theorem may_any2 (p:Option Addr) (l:List Doc) (u:List UInt8) (w:World) (h:SegP (fun _=>True) w p l) (hu:l≠[]→u.length≤1000000):Calls Tryz.prog 22 #[.pointer p,.string ⟨u.toArray⟩] w fun e w'=>e=.returned (.bool (!l.isEmpty&&BM.mayL (filterG (rowsG l)) u))∧Below w.heap.size w w':=by
 have HO:=Lib.hid (ornone_any p l w h)
 clear h
 go_enter Tryz.func22,Tryz.ntmps22
 go_wp2_with fail
 refine HO.out.mono ?_
 rintro e w1 ⟨ev,tp,rv,fp,rfl,hD,hb⟩
 have hC:Calls Tryz.prog (61) #[.agg #[.pointer tp,rv,.pointer fp],.string ⟨u.toArray⟩] w1 fun e w'=>e=.returned (.bool (!l.isEmpty&&BM.mayL (filterG (rowsG l)) u))∧Below w1.heap.size w1 w':=by
  rcases hD.fil with ⟨rfl,rfl⟩ | ⟨hne,g,b,cap,rfl,hf,_,_⟩
  ·exact may_none _ _ rfl hD.rws.oneCell u w1
  ·have:l.isEmpty=false:=by simpa using hne
   rw [this]
   exact may_some _ _ rfl hD.rws.oneCell g b cap _ u w1 hf (hu hne)
 have HC:=Lib.hid hC
 have HB:=Lib.hid hb
 obtain ⟨pe,ce,rfl,_⟩:=hD.docs.shape
 obtain ⟨pr,cr,rfl,_⟩:=hD.rws.shape
 obtain ⟨B,hB⟩:∃ B,(!l.isEmpty&&BM.mayL (filterG (rowsG l)) u)=B:=⟨_,rfl⟩
 have HB0:=Lib.hid hB
 rw [hB] at HC
 have f0:=seg_f1 (.slice pe l.length ce) (.pointer tp) (.slice pr (postsG (rowsG l)).length cr) (.pointer fp) (.int .i64 0) (.int .i64 0) (.int .i64 (footG l).1) (.int .i64 (footG l).2.1) (.int .i64 (footG l).2.2.1) (.int .i64 (footG l).2.2.2.1) (.int .i64 ((footG l).2.2.2.2:Int)) w1
 clear hD hb HO hC hB
 go_wp2_with fail
 refine HC.out.mono ?_
 rintro e w2 ⟨rfl,hb2⟩
 have HQ:=Lib.hid (HB.out.trans (hb2.mono HB.out.size))
 clear hb2 HC HB
 go_wp2_with fail
 go_ret
 exact ⟨by rw [HB0.out];rfl,HQ.out⟩
set_option maxRecDepth 100000 in
theorem prefix_any2 (p:Option Addr) (l:List Doc) (u:List UInt8) (w:World) (h:SegP (fun _=>True) w p l) (hS:isS l=true) (hsm:Small l):Calls Tryz.prog 25 #[.pointer p,.string ⟨u.toArray⟩] w fun e w'=>(∃ v,e=.returned v∧TRow w' v (prefixG (rowsG l) u))∧Below w.heap.size w w':=by
 have hz:=sized hS hsm
 have HO:=Lib.hid (ornone_any p l w h)
 clear h
 go_enter Tryz.func25,Tryz.ntmps25
 go_wp2_with fail
 refine HO.out.mono ?_
 rintro e w1 ⟨ev,tp,rv,fp,rfl,hD,hb⟩
 have HC:=Lib.hid (begun_any tp rv (.pointer fp) hD.rws.oneCell rfl (rowsG l) u w1 hD.dict hz.are)
 have HB:=Lib.hid hb
 obtain ⟨pe,ce,rfl,_⟩:=hD.docs.shape
 obtain ⟨pr,cr,rfl,_⟩:=hD.rws.shape
 have f0:=seg_f1 (.slice pe l.length ce) (.pointer tp) (.slice pr (postsG (rowsG l)).length cr) (.pointer fp) (.int .i64 0) (.int .i64 0) (.int .i64 (footG l).1) (.int .i64 (footG l).2.1) (.int .i64 (footG l).2.2.1) (.int .i64 (footG l).2.2.2.1) (.int .i64 ((footG l).2.2.2.2:Int)) w1
 clear hD hb HO hz
 go_wp2_with fail
 refine HC.out.mono ?_
 rintro e w2 ⟨⟨v,rfl,hv⟩,hb2⟩
 have HQ:=Lib.hid (And.intro hv (HB.out.trans (hb2.mono HB.out.size)))
 obtain ⟨pu,cu,rfl,_⟩:=TIn.shape hv
 clear hv hb2 HC HB
 go_wp2_with fail
 go_ret
 exact ⟨⟨_,rfl,HQ.out.1⟩,HQ.out.2⟩
set_option maxRecDepth 100000 in
theorem terms_any2 (p:Option Addr) (l:List Doc) (w:World) (h:SegP (fun _=>True) w p l):Calls Tryz.prog 31 #[.pointer p] w fun e w'=>e=.returned (.int .i64 ((rowsG l).length:Int))∧Below w.heap.size w w':=by
 have HO:=Lib.hid (ornone_any p l w h)
 clear h
 go_enter Tryz.func31,Tryz.ntmps31
 go_wp2_with fail
 refine HO.out.mono ?_
 rintro e w1 ⟨ev,tp,rv,fp,rfl,hD,hb⟩
 have HC:=Lib.hid (terms_count tp rv (.pointer fp) hD.rws.oneCell rfl _ w1 hD.dict)
 rw [entsG_len] at HC
 have HB:=Lib.hid hb
 obtain ⟨pe,ce,rfl,_⟩:=hD.docs.shape
 obtain ⟨pr,cr,rfl,_⟩:=hD.rws.shape
 have f0:=seg_f1 (.slice pe l.length ce) (.pointer tp) (.slice pr (postsG (rowsG l)).length cr) (.pointer fp) (.int .i64 0) (.int .i64 0) (.int .i64 (footG l).1) (.int .i64 (footG l).2.1) (.int .i64 (footG l).2.2.1) (.int .i64 (footG l).2.2.2.1) (.int .i64 ((footG l).2.2.2.2:Int)) w1
 clear hD hb HO
 go_wp2_with fail
 refine HC.out.mono ?_
 rintro e w2 ⟨rfl,hb2⟩
 have HQ:=Lib.hid (HB.out.trans (hb2.mono HB.out.size))
 clear hb2 HC HB
 go_wp2_with fail
 go_ret
 exact ⟨rfl,HQ.out⟩
set_option maxRecDepth 100000 in
theorem range_any2 (p:Option Addr) (l:List Doc) (a z:Int) (w:World) (h:SegP (fun _=>True) w p l) (hl:l.length≤65536):Calls Tryz.prog 33 #[.pointer p,.int .i64 a,.int .i64 z] w fun e w'=>(∃ u,e=.returned u∧IRow w' u (rangeG l a z))∧Below w.heap.size w w':=by
 have HO:=Lib.hid (ornone_any p l w h)
 clear h
 go_enter Tryz.func33,Tryz.ntmps33
 go_wp2_with fail
 refine HO.out.mono ?_
 rintro e w1 ⟨ev,tp,rv,fp,rfl,hD,hb⟩
 have HC:=Lib.hid (within_any ev l a z w1 hD.docs (by omega))
 have HB:=Lib.hid hb
 obtain ⟨pe,ce,rfl,_⟩:=hD.docs.shape
 obtain ⟨pr,cr,rfl,_⟩:=hD.rws.shape
 have f0:=seg_f0 (.slice pe l.length ce) (.pointer tp) (.slice pr (postsG (rowsG l)).length cr) (.pointer fp) (.int .i64 0) (.int .i64 0) (.int .i64 (footG l).1) (.int .i64 (footG l).2.1) (.int .i64 (footG l).2.2.1) (.int .i64 (footG l).2.2.2.1) (.int .i64 ((footG l).2.2.2.2:Int)) w1
 clear hD hb HO
 go_wp2_with fail
 refine HC.out.mono ?_
 rintro e w2 ⟨⟨v,rfl,hv⟩,hb2⟩
 have HQ:=Lib.hid (And.intro hv (HB.out.trans (hb2.mono HB.out.size)))
 obtain ⟨pu,cu,rfl,_⟩:=IRow.shape hv
 clear hv hb2 HC HB
 go_wp2_with fail
 go_ret
 exact ⟨⟨_,rfl,HQ.out.1⟩,HQ.out.2⟩
set_option maxRecDepth 100000 in
set_option maxHeartbeats 1000000 in
theorem part_any (p:Option Addr) (l:List Doc) (w:World) (h:SegP (fun _=>True) w p l):Calls Tryz.prog 29 #[.pointer p] w fun e w'=>e=.returned (.agg #[.int .i64 0,.int .i64 0,.int .i64 (footG l).1,.int .i64 (footG l).2.1,.int .i64 (footG l).2.2.1,.int .i64 (footG l).2.2.2.1,.int .i64 ((footG l).2.2.2.2:Int)])∧Below w.heap.size w w':=by
 obtain ⟨wa,hwa⟩:∃ wa,w.alloc (.cells #[.int .i64 0,.int .i64 0,.int .i64 0,.int .i64 0,.int .i64 0,.int .i64 0,.int .i64 0] 65)=wa:=⟨_,rfl⟩
 have hba:Below w.heap.size w wa:=by rw [← hwa];exact (Below.refl _ _).alloc (Nat.le_refl _) _
 have hg:wa.heap[w.heap.size]? = some (.cells #[.int .i64 0,.int .i64 0,.int .i64 0,.int .i64 0,.int .i64 0,.int .i64 0,.int .i64 0] 65 (0,0)):=by rw [← hwa];exact heap_alloc_new _ _
 have HO:=Lib.hid (ornone_any p l wa (h.below hba))
 have HBA:=Lib.hid hba
 have HG:=Lib.hid hg
 have HWA:=Lib.hid hwa
 have hlt:w.heap.size<wa.heap.size:=(Array.getElem?_eq_some_iff.1 hg).1
 have HLT:=Lib.hid hlt
 clear h hba hg hwa hlt
 go_enter Tryz.func29,Tryz.ntmps29
 go_wp2_with (rw [HWA.out])
 refine HO.out.mono ?_
 rintro e w1 ⟨ev,tp,rv,fp,rfl,hD,hb⟩
 have HC:=Lib.hid (fun W=>told_any (footG l).1 (footG l).2.1 (footG l).2.2.1 (footG l).2.2.2.1 ((footG l).2.2.2.2:Int) W)
 obtain ⟨pe,ce,rfl,_⟩:=hD.docs.shape
 obtain ⟨pr,cr,rfl,_⟩:=hD.rws.shape
 have f0:=seg_f2 (.slice pe l.length ce) (.pointer tp) (.slice pr (postsG (rowsG l)).length cr) (.pointer fp) (.int .i64 0) (.int .i64 0) (.int .i64 (footG l).1) (.int .i64 (footG l).2.1) (.int .i64 (footG l).2.2.1) (.int .i64 (footG l).2.2.2.1) (.int .i64 ((footG l).2.2.2.2:Int)) w1
 have HB1:=Lib.hid (HBA.out.trans (hb.mono HBA.out.size))
 have HG1:=Lib.hid ((hb.block _ HLT.out).trans HG.out)
 have HLT1:Hid (w.heap.size<w1.heap.size):=Lib.hid (Nat.lt_of_lt_of_le HLT.out hb.size)
 clear hD hb HO HBA HG HLT
 go_wp2_with fail
 refine (HC.out _).mono ?_
 rintro e w2 ⟨rfl,hb2⟩
 obtain ⟨X,hX⟩:∃ X:Array Value,#[.int .i64 0,.int .i64 0,.int .i64 (footG l).1,.int .i64 (footG l).2.1,.int .i64 (footG l).2.2.1,.int .i64 (footG l).2.2.2.1,.int .i64 ((footG l).2.2.2.2:Int)]=X:=⟨_,rfl⟩
 have hxs:X.size=7:=by rw [← hX];rfl
 have hx1:X.all (·.oneCell')=true:=by rw [← hX];simp [Value.oneCell']
 have hg2:=(hb2.block _ HLT1.out).trans HG1.out
 have hi:(Tryz.prog.info? 65).map (·.size)=some X.size:=by rw [hxs];exact infoPart
 have HG2:=Lib.hid (setRow_heap w2 w.heap.size _ X _ _ hg2)
 have HB2:=Lib.hid (below_row (g:=w.heap.size) X (HB1.out.trans (hb2.mono HB1.out.size)) (Nat.le_refl _))
 have HI:=Lib.hid hi
 have HXS:Hid ((#[.int .i64 0,.int .i64 0,.int .i64 0,.int .i64 0,.int .i64 0,.int .i64 0,.int .i64 0]:Array Value).size=X.size):=Lib.hid (by rw [hxs];rfl)
 have HX1:=Lib.hid hx1
 have HZ:=Lib.hid hg2
 have HX:=Lib.hid hX
 clear hb2 hg2 hi hxs hx1 HG1 HLT1 HB1 HC
 rw [hX]
 clear hX
 go_wp2_with (go_loud (refine wpList_store_row rfl 65 (.tmp 2) (.tmp 6) rfl w.heap.size X rfl rfl 65 #[.int .i64 0,.int .i64 0,.int .i64 0,.int .i64 0,.int .i64 0,.int .i64 0,.int .i64 0] HZ.out HI.out HXS.out HX1.out ?_))
 refine bodyPost_ret (v:=.agg X) (results_cell_row rfl _ _ w.heap.size 65 X (0,0) _ rfl HG2.out Tryz.underlying65 rfl HI.out) rfl ⟨by rw [HX.out],HB2.out⟩
set_option maxRecDepth 100000 in
set_option maxHeartbeats 1000000 in
theorem doc_any (p:Option Addr) (l:List Doc) (i:Int) (w:World) (h:SegP (fun _=>True) w p l) (hF:Wide l):Calls Tryz.prog 27 #[.pointer p,.int .i64 i] w (AtLeft (atG l i) w):=by
 obtain ⟨R,hR⟩:∃ R,w.heap.size=R:=⟨_,rfl⟩
 obtain ⟨wa,hwa⟩:∃ wa,w.alloc (.cells #[.int .i64 0,.int .i64 0,.slice none 0 0] 59)=wa:=⟨_,rfl⟩
 have hba:Below w.heap.size w wa:=by rw [← hwa];exact (Below.refl _ _).alloc (Nat.le_refl _) _
 have hsa:wa.heap.size=R+1:=by rw [← hwa,← hR];simp
 have T0:Hid (Three wa R 59 (.int .i64 0) (.int .i64 0) (.slice none 0 0)):=Lib.hid (by rw [← hwa,← hR];exact three_new w 59 _ _ _)
 have HO:=Lib.hid (ornone_any p l wa (h.below hba))
 have HBA:=Lib.hid hba
 have HWA:=Lib.hid hwa
 have HSA:=Lib.hid hsa
 clear h hba hwa hsa
 go_enter Tryz.func27,Tryz.ntmps27
 go_wp2_with (rw [HWA.out])
 refine HO.out.mono ?_
 rintro e w1 ⟨ev,tp,rv,fp,rfl,hD,hb⟩
 have HC:=Lib.hid (at_any ev l i w1 hD.docs hF)
 obtain ⟨pe,ce,rfl,_⟩:=hD.docs.shape
 obtain ⟨pr,cr,rfl,_⟩:=hD.rws.shape
 have f0:=seg_f0 (.slice pe l.length ce) (.pointer tp) (.slice pr (postsG (rowsG l)).length cr) (.pointer fp) (.int .i64 0) (.int .i64 0) (.int .i64 (footG l).1) (.int .i64 (footG l).2.1) (.int .i64 (footG l).2.2.1) (.int .i64 (footG l).2.2.2.1) (.int .i64 ((footG l).2.2.2.2:Int)) w1
 have T1:=Lib.hid (T0.out.below hb (by have:=HSA.out;omega))
 have HS1:Hid (R<w1.heap.size):=Lib.hid (by have:=HSA.out;have:=hb.size;omega)
 have HB1:=Lib.hid (HBA.out.trans (hb.mono HBA.out.size))
 clear hD hb HO HBA HSA T0
 go_wp2_with fail
 refine HC.out.mono ?_
 rintro e w2 ⟨u,rfl,hu,hb2⟩
 have hu2:=hu
 obtain ⟨D,hd⟩:∃ d,(atG l i).getD noDoc=d:=⟨_,rfl⟩
 have HD:=Lib.hid hd
 rw [hd] at hu hu2 ⊢
 clear hd
 obtain ⟨sq,t,fs⟩:=D
 dsimp only at hu hu2 ⊢
 obtain ⟨B,hB⟩:∃ B,(atG l i).isSome=B:=⟨_,rfl⟩
 have HBE:=Lib.hid hB
 rw [hB]
 obtain ⟨pu,cu,rfl,_⟩:=hu.shape
 have hs1:=HS1.out
 have a1:=T1.out.below hb2 hs1
 obtain ⟨x0,x1,x2⟩:=a1.cells
 obtain ⟨m1,m2,m3,⟨k1,k2⟩,k3,k4⟩:=a1.all (.int .i64 sq) (.int .i64 t)
 have HX:=Lib.hid (a1.set (.int .i64 sq) (.int .i64 t) (.slice pu fs.length cu))
 have hk6:Kep (fun b=>b≠R) w2 (set3 w2 R (.int .i64 sq) (.int .i64 t) (.slice pu fs.length cu)):=kep_set3 _ _ _
 have hs2:R<w2.heap.size:=Nat.lt_of_lt_of_le hs1 hb2.size
 have HQ:Hid (AtLeft (atG l i) w (.returned (.tuple #[.agg #[.int .i64 sq,.int .i64 t,.slice pu fs.length cu],.bool B])) (set3 w2 R (.int .i64 sq) (.int .i64 t) (.slice pu fs.length cu))):=Lib.hid
  ⟨.slice pu fs.length cu,by rw [HD.out,hB],by
   rw [HD.out]
   exact (newf_keep hu hk6 (fun b hb=>by omega)).weak fun b _ hb=>⟨by have:=hb.1;have:=HB1.out.size;omega,hb.2⟩,
   (HB1.out.trans (hb2.mono HB1.out.size)).trans (hk6.below (by omega) fun k hk=>by omega)⟩
 clear hu hu2 hb2 a1 hk6 hB HC T1 HS1 hs1 HB1 hs2
 go_wp2_with fail
 refine bodyPost_ret (results_three2 (p:=4) (u:=5) rfl Tryz.underlying59 rfl infoDoc3 _ _ R _ _ _ rfl HX.out) rfl HQ.out
end Go.Proofs.YtdijhifdjbnkfaaGreat.SG
set_option linter.unusedVariables false
namespace Go.Proofs.YtdijhifdjbnkfaaGreat.SG
open Go Go.RowKit Go.Proofs.YtdijhifdjbnkfaaGreat.MM
open Go.Proofs.YtdijhifdjbnkfaaGreat.EV (docC fldC fld_on doc_on)
open Go.Proofs.YtdijhifdjbnkfaaGreat.GM
theorem part_f2 (a b c d e f g:Value) (w:World):(Instr.field 65 (.agg #[a,b,c,d,e,f,g]) 2).run Tryz.prog w=.ok c w:=by kernel_rfl
theorem open_put (v:Value) (l:List SM.Doc) (w:World) (hv:BRow w v (bytesG l)) (hS:SM.isS l=true) (hsm:Small l) (hf:SM.FitS l) (h0:l≠[]):Calls Tryz.prog 12 #[v] w fun e w'=>∃ g,e=.returned (.tuple #[.pointer (some ⟨g,0,none⟩),.int .i64 0])∧SegP (fun k=>w.heap.size≤k) w' (some ⟨g,0,none⟩) l∧Below w.heap.size w w':=by
 have hd:decG (bytesG l)=some l:=decG_put hf (enc_ok hS hsm h0)
 refine (open_any v (bytesG l) w hv (openSmall_bytes hS hsm)).mono ?_
 rintro e w' ⟨p,rfl,hp,_,hb⟩
 rw [hd] at hp ⊢
 rcases hp with ⟨_,h⟩ | ⟨g,ev,tp,rv,fp,rfl,h⟩
 ·exact absurd h h0
 ·exact ⟨g,rfl,.inr ⟨g,ev,tp,rv,fp,rfl,h⟩,hb⟩
set_option maxRecDepth 100000 in
set_option maxHeartbeats 1000000 in
theorem awake_any (w:World):Calls Tryz.prog 16 #[] w fun e w'=>e=.returned (.bool true)∧Below w.heap.size w w':=by
 obtain ⟨wf,hwf⟩:∃ W,w.alloc (.cells #[.string ⟨#[109,115,103]⟩,.string ⟨#[120]⟩] 123)=W:=⟨_,rfl⟩
 have hbf:Below w.heap.size w wf:=by rw [← hwf];exact (Below.refl _ _).alloc (Nat.le_refl _) _
 have hsf:wf.heap.size=w.heap.size+1:=by rw [← hwf];simp
 have hfl:RAny fldC wf (.slice (some ⟨w.heap.size,0,none⟩) 1 1) [([109,115,103],[120])]:=by
  rw [← hwf]
  exact ROn.any (ron_lit (e:=123) (S:=fun _=>True) w [[.string ⟨#[109,115,103]⟩,.string ⟨#[120]⟩]] [([109,115,103],[120])] (by unfold maxLen;simp) (Mean.single (fld_on.2 rfl)))
 obtain ⟨w0,hw0⟩:∃ W,wf.alloc (.cells #[.int .i64 1,.int .i64 7,.slice (some ⟨w.heap.size,0,none⟩) 1 1] 59)=W:=⟨_,rfl⟩
 have hb0:Below w.heap.size w w0:=by rw [← hw0];exact hbf.alloc (by omega) _
 have hlit:RAny docC w0 (.slice (some ⟨wf.heap.size,0,none⟩) 1 1) exA:=by
  rw [← hw0]
  exact ROn.any (ron_lit (e:=59) (S:=fun _=>True) wf [[.int .i64 1,.int .i64 7,.slice (some ⟨w.heap.size,0,none⟩) 1 1]] exA (by unfold maxLen;simp [exA]) (Mean.single (doc_on.2 ⟨_,rfl,hfl⟩)))
 have HE:=Lib.hid (enc_good _ exA w0 hlit exA_is exA_small exA_fit (by unfold exA;simp))
 have HB0:=Lib.hid hb0
 have HWF:=Lib.hid hwf
 have HW0:=Lib.hid hw0
 have HSF:=Lib.hid hsf
 clear hwf hbf hfl hw0 hb0 hlit hsf
 go_enter Tryz.func16,Tryz.ntmps16
 go_wp2_with (first | (rw [HW0.out]) | (rw [HWF.out]))
 refine HE.out.mono ?_
 rintro e w1 ⟨v1,rfl,ho1,hb1⟩
 have HO:=Lib.hid (open_put v1 exA w1 (OwnB.brow ho1) exA_is exA_small exA_fit (by unfold exA;simp))
 have HB1:=Lib.hid (HB0.out.trans (hb1.mono HB0.out.size))
 obtain ⟨p1,c1,rfl,_⟩:=(OwnB.brow ho1).shape
 clear ho1 hb1 HE HB0 HWF HW0 HSF
 go_wp2_with fail
 refine HO.out.mono ?_
 rintro e w2 ⟨g,rfl,hs2,hb2⟩
 have hs2:=hs2.any
 have HB2:=Lib.hid (HB1.out.trans (hb2.mono HB1.out.size))
 obtain ⟨w3,hw3⟩:∃ W,w2.alloc (.cells #[.int .i64 4,.int .i64 0,.slice none 0 0] 59)=W:=⟨_,rfl⟩
 have hb3:Below w2.heap.size w2 w3:=by rw [← hw3];exact (Below.refl _ _).alloc (Nat.le_refl _) _
 have hlit:RAny docC w3 (.slice (some ⟨w2.heap.size,0,none⟩) 1 1) exC:=by
  rw [← hw3]
  exact ROn.any (ron_lit (e:=59) (S:=fun _=>True) w2 [[.int .i64 4,.int .i64 0,.slice none 0 0]] exC (by unfold maxLen;simp [exC]) (Mean.single (doc_on.2 ⟨_,rfl,ROn.nil_ _ _⟩)))
 have HE:=Lib.hid (enc_good _ exC w3 hlit exC_is exC_small exC_fit (by unfold exC;simp))
 have HS3:=Lib.hid (hs2.below hb3)
 have HB3:=Lib.hid (HB2.out.trans (hb3.mono HB2.out.size))
 have HW3:=Lib.hid hw3
 clear hs2 hb2 hw3 hb3 hlit HO HB1 HB2
 go_wp2_with (rw [HW3.out])
 refine HE.out.mono ?_
 rintro e w4 ⟨v4,rfl,ho4,hb4⟩
 have HO:=Lib.hid (open_put v4 exC w4 (OwnB.brow ho4) exC_is exC_small exC_fit (by unfold exC;simp))
 have HB4:=Lib.hid (HB3.out.trans (hb4.mono HB3.out.size))
 have HS4:=Lib.hid (HS3.out.below hb4)
 obtain ⟨p4,c4,rfl,_⟩:=(OwnB.brow ho4).shape
 clear ho4 hb4 HE HB3 HW3 HS3
 go_wp2_with fail
 refine HO.out.mono ?_
 rintro e w5 ⟨g',rfl,ht5,hb5⟩
 have HT5:=Lib.hid ht5.any
 have HS5:=Lib.hid (HS4.out.below hb5)
 have HB5:=Lib.hid (HB4.out.trans (hb5.mono HB4.out.size))
 have HP:=Lib.hid (posts_any2 (some ⟨g,0,none⟩) exA [109,115,103,58,120] w5 HS5.out exA_is exA_small)
 rw [exA_posts] at HP
 clear ht5 hb5 HO HS4 HB4
 go_wp2_with fail
 refine HP.out.mono ?_
 rintro e w6 ⟨v6,rfl,hp6,hb6⟩
 have HS6:=Lib.hid (HS5.out.below hb6)
 have HT6:=Lib.hid (HT5.out.below hb6)
 have HB6:=Lib.hid (HB5.out.trans (hb6.mono HB5.out.size))
 have HP6:=Lib.hid hp6
 obtain ⟨p6,c6,rfl,_⟩:=PW.POn.shape hp6
 have HE:=Lib.hid (enc_odd (.slice none 0 0) [] w6 (ROn.nil_ _ _) (.inr rfl))
 clear hp6 hb6 HP HS5 HT5 HB5
 go_wp2_with fail
 refine HE.out.mono ?_
 rintro e w7 ⟨v7,rfl,ho7,hb7⟩
 have HS7:=Lib.hid (HS6.out.below hb7)
 have HT7:=Lib.hid (HT6.out.below hb7)
 have HB7:=Lib.hid (HB6.out.trans (hb7.mono HB6.out.size))
 have hp7:=PW.PRow.below HP6.out hb7
 obtain ⟨b7,o7,x7,rfl,_,_,c0,_,_⟩:=PW.POn.at_ hp7 (k:=0) (by simp)
 rw [Nat.zero_mul,Nat.add_zero] at c0
 have c0:w7.cell? ⟨b7,o7,none⟩=some (.int .i64 0):=c0
 obtain ⟨p7,c7,rfl,_⟩:=(OwnB.brow ho7).shape
 have HC:=Lib.hid (part_any (some ⟨g,0,none⟩) exA w7 HS7.out)
 rw [exA_foot] at HC
 dsimp only at HC
 clear ho7 hb7 hp7 HE HS6 HT6 HB6 HP6
 go_wp2_with fail
 refine HC.out.mono ?_
 rintro e w8 ⟨rfl,hb8⟩
 have HS8:=Lib.hid (HS7.out.below hb8)
 have HT8:=Lib.hid (HT7.out.below hb8)
 have HB8:=Lib.hid (HB7.out.trans (hb8.mono HB7.out.size))
 have f2:=part_f2 (.int .i64 0) (.int .i64 0) (.int .i64 7) (.int .i64 7) (.int .i64 1) (.int .i64 1) (.int .i64 1) w8
 have HC:=Lib.hid (len_any (some ⟨g,0,none⟩) exA w8 HS8.out)
 clear hb8 c0 HS7 HT7 HB7
 go_wp2_with fail
 refine HC.out.mono ?_
 rintro e w9 ⟨rfl,hb9⟩
 have HS9:=Lib.hid (HS8.out.below hb9)
 have HT9:=Lib.hid (HT8.out.below hb9)
 have HB9:=Lib.hid (HB8.out.trans (hb9.mono HB8.out.size))
 have HC:=Lib.hid (may_any2 (some ⟨g,0,none⟩) exA [109,115,103,58,120] w9 HS9.out (fun _=>by simp))
 rw [exA_may] at HC
 have hl1:(exA.length:Int)=1:=rfl
 rw [hl1]
 clear hb9 f2 HS8 HT8 HB8
 go_wp2_with fail
 refine HC.out.mono ?_
 rintro e w10 ⟨rfl,hb10⟩
 have HT10:=Lib.hid (HT9.out.below hb10)
 have HB10:=Lib.hid (HB9.out.trans (hb10.mono HB9.out.size))
 have HC:=Lib.hid (terms_any2 (some ⟨g',0,none⟩) exC w10 HT10.out)
 rw [exC_rows] at HC
 clear hb10 HS9 HT9 HB9
 go_wp2_with fail
 refine HC.out.mono ?_
 rintro e w11 ⟨rfl,hb11⟩
 have HT11:=Lib.hid (HT10.out.below hb11)
 have HB11:=Lib.hid (HB10.out.trans (hb11.mono HB10.out.size))
 have HC:=Lib.hid (may_any2 (some ⟨g',0,none⟩) exC [109,115,103,58,120] w11 HT11.out (fun _=>by simp))
 rw [exC_may] at HC
 clear hb11 HT10 HB10
 go_wp2_with fail
 refine HC.out.mono ?_
 rintro e w12 ⟨rfl,hb12⟩
 have HB12:=Lib.hid (HB11.out.trans (hb12.mono HB11.out.size))
 clear hb12 HT11 HB11 HC
 go_wp2_with fail
 go_ret
 exact ⟨rfl,HB12.out⟩
end Go.Proofs.YtdijhifdjbnkfaaGreat.SG
set_option linter.unusedVariables false
namespace Go.Proofs.YtdijhifdjbnkfaaGreat.SG
open Go Go.RowKit Go.Proofs.YtdijhifdjbnkfaaGreat.MM
open Go.Proofs.YtdijhifdjbnkfaaGreat.EV (docC fldC)
open Go.Proofs.YtdijhifdjbnkfaaGreat.GM
theorem nil_is:SM.isS []=true:=by decide +kernel
theorem nil_small:Small []:=fun _=>by decide +kernel
theorem below3 {a w w1:World} (h:Below a.heap.size a w) (k:Below w.heap.size w w1):Below a.heap.size a w1:=h.trans (k.mono h.size)
def Held (w:World) (e:Ending) (w':World):Prop:=e=.returned (.bool true)∧Below w.heap.size w w'
set_option maxRecDepth 100000 in
set_option maxHeartbeats 4000000 in
theorem nobody_call (t:List UInt8) (i:Int) (w:World):Calls Tryz.prog 7 #[.string ⟨t.toArray⟩,.int .i64 i] w (Held w):=by
 obtain ⟨w1,hw1⟩:∃ W,w.alloc (.cells #[.slice none 0 0,.pointer none,.slice none 0 0,.pointer none,.int .i64 0,.int .i64 0,.int .i64 0,.int .i64 0,.int .i64 0,.int .i64 0,.int .i64 0] 88)=W:=⟨_,rfl⟩
 have hs1:w1.heap.size=w.heap.size+1:=by rw [← hw1];simp
 have hb1:Below w.heap.size w w1:=by rw [← hw1];exact (Below.refl _ _).alloc (Nat.le_refl _) _
 have hg1:w1.heap[w.heap.size]? = some (.cells (segA (.slice none 0 0) none (.slice none 0 0) none (footG [])) 88 (0,0)):=by rw [← hw1];exact heap_alloc_new _ _
 obtain ⟨w2,hw2⟩:∃ W,w1.alloc (.cells #[.pointer none,.pointer (some ⟨w.heap.size,0,none⟩)] 31)=W:=⟨_,rfl⟩
 have hb2:Below w1.heap.size w1 w2:=by rw [← hw2];exact (Below.refl _ _).alloc (Nat.le_refl _) _
 have hg2:w2.heap[w1.heap.size]? = some (.cells #[.pointer none,.pointer (some ⟨w.heap.size,0,none⟩)] 31 (0,0)):=by rw [← hw2];exact heap_alloc_new _ _
 have HK:Hid (∀ k,k<2→∃ p,w2.cell? ⟨w1.heap.size,k,none⟩=some (.pointer p)∧SegP (fun _=>True) w2 p []):=Lib.hid (fun k hk=>by
  rcases (show k=0∨k=1 by omega) with rfl | rfl
  ·exact ⟨none,row_cell hg2 0,.inl ⟨rfl,rfl⟩⟩
  ·exact ⟨_,row_cell hg2 1,.inr ⟨_,_,_,_,_,rfl,trivial,(hb2.block _ (by omega)).trans hg1,SegD.nobody _ _⟩⟩)
 have HB2:=Lib.hid (hb1.trans (hb2.mono hb1.size))
 have HW1:=Lib.hid hw1
 have HW2:=Lib.hid hw2
 have HS2:Hid (w1.heap.size<w2.heap.size):=Lib.hid (Array.getElem?_eq_some_iff.1 hg2).1
 clear hw1 hs1 hb1 hg1 hw2 hb2 hg2
 go_enter Tryz.func7,Tryz.ntmps7
 go_wp2_with (first | (rw [HW2.out]) | (rw [HW1.out]))
 go_loopw [15] (fun iv wr=>∃ k:Nat,k≤2∧iv=.int .i64 k∧Hid (Below w2.heap.size w2 wr)) (fun iv _=>2 - (intOf iv).toNat)
 case atStart=>exact ⟨0,by omega,by go_simp,Lib.hid (Below.refl _ _)⟩
 case round =>
  obtain ⟨k,hk2,rfl,HB⟩:=hrel
  by_cases hlt:k<2
  ·obtain ⟨p,hc,hp⟩:=HK.out k hlt
   have c0:wr.cell? ⟨w1.heap.size,k,none⟩=some (.pointer p):=(HB.out.cell (p:=⟨w1.heap.size,k,none⟩) HS2.out).trans hc
   have hpr:=hp.below HB.out
   have HC:=Lib.hid (doc_any p [] i wr hpr (fun d hd=>by simp at hd))
   have HP:=Lib.hid hpr
   clear hc hp hpr
   have t1:decide ((k:Int)<2)=true:=by rw [decide_eq_true_eq];omega
   have t2:(k:Int)<2:=by omega
   have HBa:=Lib.hid HB.out
   have HPa:=HP
   clear HB HP
   go_wp2_with fail
   refine HC.out.mono ?_
   rintro e wb ⟨u,rfl,hu,hb⟩
   have HBwb:=Lib.hid (below3 HBa.out hb)
   have HPwb:=Lib.hid (HPa.out.below hb)
   obtain ⟨pu,cu,rfl,_⟩:=hu.shape
   have hB:(atG [] i).isSome=false:=by unfold atG;split<;>simp
   have hN:(atG [] i).getD SM.noDoc=SM.noDoc:=by unfold atG;split<;>simp
   rw [hB,hN]
   clear hu hB hN
   clear hb HPa HBa HC
   go_wp2_with fail
   obtain ⟨wc,hwc⟩:∃ W,wb.alloc (.cells #[.int .i64 SM.noDoc.1,.int .i64 SM.noDoc.2.1,.slice pu SM.noDoc.2.2.length cu] 59)=W:=⟨_,rfl⟩
   have hb:Below wb.heap.size wb wc:=by rw [← hwc];exact (Below.refl _ _).alloc (Nat.le_refl _) _
   rw [hwc]
   have HPwc:=Lib.hid (HPwb.out.below hb)
   have HBwc:=Lib.hid (below3 HBwb.out hb)
   have HC:=Lib.hid (len_any p [] wc HPwc.out)
   clear hwc hb HPwb HBwb
   refine HC.out.mono ?_
   rintro e wd ⟨rfl,hb⟩
   have HPwd:=Lib.hid (HPwc.out.below hb)
   have HBwd:=Lib.hid (below3 HBwc.out hb)
   have HC:=Lib.hid (docs_any p [] wd HPwd.out (fun d hd=>by simp at hd) (by simp))
   clear hb HPwc HBwc
   go_wp2_with fail
   refine HC.out.mono ?_
   rintro e we ⟨⟨u2,rfl,hu2⟩,hb⟩
   have HPwe:=Lib.hid (HPwd.out.below hb)
   have HBwe:=Lib.hid (below3 HBwd.out hb)
   obtain ⟨pu2,cu2,rfl,_⟩:=hu2.shape
   clear hu2
   have HC:=Lib.hid (posts_any2 p [] t we HPwe.out nil_is nil_small)
   clear hb HPwd HBwd
   go_wp2_with fail
   refine HC.out.mono ?_
   rintro e wf ⟨u3,rfl,hu3,hb⟩
   have HPwf:=Lib.hid (HPwe.out.below hb)
   have HBwf:=Lib.hid (below3 HBwe.out hb)
   have hu3:PW.PRow wf u3 []:=hu3
   obtain ⟨pu3,cu3,rfl,_⟩:=PW.POn.shape hu3
   clear hu3
   have HC:=Lib.hid (prefix_any2 p [] t wf HPwf.out nil_is nil_small)
   clear hb HPwe HBwe
   go_wp2_with fail
   refine HC.out.mono ?_
   rintro e wg ⟨⟨u4,rfl,hu4⟩,hb⟩
   have HPwg:=Lib.hid (HPwf.out.below hb)
   have HBwg:=Lib.hid (below3 HBwf.out hb)
   have hu4:TRow wg u4 []:=hu4
   obtain ⟨pu4,cu4,rfl,_⟩:=TIn.shape hu4
   clear hu4
   have HC:=Lib.hid (terms_any2 p [] wg HPwg.out)
   clear hb HPwf HBwf
   go_wp2_with fail
   refine HC.out.mono ?_
   rintro e wh ⟨rfl,hb⟩
   have HPwh:=Lib.hid (HPwg.out.below hb)
   have HBwh:=Lib.hid (below3 HBwg.out hb)
   have hz:((rowsG []).length:Int)=0:=rfl
   rw [hz]
   have HC:=Lib.hid (range_any2 p [] 0 9 wh HPwh.out (by simp))
   clear hb HPwg HBwg
   go_wp2_with fail
   refine HC.out.mono ?_
   rintro e wi ⟨⟨u5,rfl,hu5⟩,hb⟩
   have HPwi:=Lib.hid (HPwh.out.below hb)
   have HBwi:=Lib.hid (below3 HBwh.out hb)
   have hu5:IRow wi u5 []:=hu5
   obtain ⟨pu5,cu5,rfl,_⟩:=IRow.shape hu5
   clear hu5
   have HC:=Lib.hid (may_any2 p [] t wi HPwi.out (fun h=>absurd rfl h))
   clear hb HPwh HBwh
   go_wp2_with fail
   refine HC.out.mono ?_
   rintro e wj ⟨rfl,hb⟩
   have HPwj:=Lib.hid (HPwi.out.below hb)
   have HBwj:=Lib.hid (below3 HBwi.out hb)
   have hf:(!([]:List SM.Doc).isEmpty&&BM.mayL (filterG (rowsG [])) t)=false:=rfl
   rw [hf]
   have HC:=Lib.hid (part_any p [] wj HPwj.out)
   clear hb HPwi HBwi
   go_wp2_with fail
   refine HC.out.mono ?_
   rintro e wk ⟨rfl,hb⟩
   rw [foot_nil]
   have HBwk:=Lib.hid (below3 HBwj.out hb)
   clear hb HPwj HBwj HC
   dsimp only
   go_wp2_with fail
   go_roundw
   case rel=>exact ⟨k+1,by omega,by go_num,HBwk⟩
   case measure=>simp [intOf];omega
  ·have t1:decide ((k:Int)<2)=false:=by rw [decide_eq_false_iff_not];omega
   have HA:=Lib.hid (awake_any wr)
   clear hlt hk2
   go_wp2_with fail
   refine HA.out.mono ?_
   rintro e w9 ⟨rfl,hb⟩
   have HQ:=Lib.hid (HB2.out.trans ((below3 HB.out hb).mono HB2.out.size))
   clear hb HA HB
   go_wp2_with fail
   go_ret
   exact ⟨rfl,HQ.out⟩
theorem nobody_walk (s:ByteArray) (i:Int) (w:World):Calls Tryz.prog 7 #[.string s,.int .i64 i] w (Held w):=by
 obtain ⟨t,rfl⟩:∃ t:List UInt8,s=⟨t.toArray⟩:=⟨s.data.toList,by simp⟩
 exact nobody_call t i w
end Go.Proofs.YtdijhifdjbnkfaaGreat.SG
