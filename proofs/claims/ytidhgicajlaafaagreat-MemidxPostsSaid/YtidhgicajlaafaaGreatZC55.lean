import Derived.Test.YtidhgicajlaafaaGreatZC51
import Derived.Test.YtidhgicajlaafaaGreatZC54
set_option maxRecDepth 100000
set_option maxHeartbeats 8000000
set_option linter.unusedVariables false
set_option linter.unusedSimpArgs false
namespace Go.Proofs.YtidhgicajlaafaaGreat.MX
open Go Go.RowKit MM Go.Maps EM SM
open SG (PostD postC postE post_on Tab found)
open RM (rowsE)
open IM (MapI)
theorem prefix_idx {A:Nat→Prop} {w:World} {g:Nat} {l:List Doc} (h:Idx A w g l) (s:List UInt8):Calls Tryz.prog 10 #[.pointer (some ⟨g,0,none⟩),.string ⟨s.toArray⟩] w (PostsBack (postsM (evM l) s false) w):=by
 have hbg:=h.big
 obtain ⟨dp,dc,mb,X,F,hp,_,hr⟩:=h.cellp
 have HO:=Lib.hid (ornone_p hp)
 have HC:=Lib.hid (fun W (hb:Below w.heap.size w W)=>rbegun_any mb X l F s W (hr.tab.below hb) hbg)
 clear h hp hr hbg
 go_enter Tryz.func10,Tryz.ntmps10
 go_wp2_with fail
 refine HO.out.mono ?_
 rintro e w1 ⟨rfl,hb⟩
 have HB:=Lib.hid hb
 have HC1:=Lib.hid (HC.out w1 hb)
 unfold ixA
 have f1:=ix_f2 (.int .i64 (l.length:Int)) (.int .i64 (sizeM l:Int)) (.int .i64 (timesM l).1) (.int .i64 (timesM l).2.1) (.int .i64 (seqsM l).1) (.int .i64 (seqsM l).2) (.slice dp l.length dc) (.map (some mb)) w1
 clear hb HO HC
 go_wp2_with fail
 refine HC1.out.mono ?_
 rintro e w2 ⟨⟨u,rfl,hu⟩,hb2⟩
 obtain ⟨pu,cu,rfl,_⟩:=hu.shape
 have HQ:=Lib.hid (show PostsBack (postsM (evM l) s false) w (.returned (.slice pu (postsM (evM l) s false).length cu)) w2 from ⟨⟨_,rfl,hu.weak fun b _ h=>Nat.le_trans HB.out.size h⟩,HB.out.trans (hb2.mono HB.out.size)⟩)
 clear hu hb2 HC1
 go_wp2_with fail
 go_ret
 exact HQ.out
end Go.Proofs.YtidhgicajlaafaaGreat.MX
namespace Go.Proofs.YtidhgicajlaafaaGreat.MX
open Go Go.RowKit MM EM SM
open EV (docC evC batC)
open RM (rowsE)
def Held2 (w:World) (e:Ending) (w':World):Prop:=e=.returned (.bool true)∧Below w.heap.size w w'
theorem posts_call (v:Value) (bs0:List Bat) (s0 t0:List UInt8) (w:World) (hv:RAny batC w v bs0) (hs0:s0.length≤maxLen) (ht0:t0.length≤maxLen):Calls Tryz.prog 3 #[v,.string ⟨s0.toArray⟩,.string ⟨t0.toArray⟩] w (Held2 w):=by
 have HF:=Lib.hid (few_any v bs0 w hv)
 obtain ⟨pv,cv,rfl,_⟩:=hv.shape
 clear hv
 go_enter Tryz.func3,Tryz.ntmps3
 go_wp2_with fail
 refine HF.out.mono ?_
 rintro e w1 ⟨vv,ok,bs,rfl,hbs,hb1⟩
 obtain ⟨p,cap,rfl,hlc,hcm,_⟩:=hbs.shape
 have HB1:=Lib.hid hb1
 cases ok with
 | false =>
   have HAW:=Lib.hid (awake_any w1)
   clear hbs hb1 HF
   go_wp2_with fail
   refine HAW.out.mono ?_
   rintro e w3 ⟨rfl,hb3⟩
   have HB3:=Lib.hid (HB1.out.trans (hb3.mono HB1.out.size))
   clear hb3
   go_wp2_with fail
   go_ret
   exact ⟨rfl,HB3.out⟩
 | true =>
   have HSH:=Lib.hid (short_any s0 w1 hs0)
   have HSH2:=Lib.hid (short_any t0 w1 ht0)
   have HFI:=Lib.hid (filled_any (.slice p bs.length cap) bs w1 hbs)
   obtain ⟨s,hs⟩:∃ s,s0.take 80=s:=⟨_,rfl⟩
   obtain ⟨t,ht⟩:∃ t,t0.take 80=t:=⟨_,rfl⟩
   rw [hs] at HSH
   rw [ht] at HSH2
   have hsl:s.length≤80:=by rw [← hs,List.length_take];omega
   have htl:t.length≤80:=by rw [← ht,List.length_take];omega
   have hmx:Tryz.prog.follows .mixedOrders=true:=by kernel_rfl
   clear hbs hb1 HF hs ht
   go_wp2_with fail
   refine HSH.out.mono ?_
   rintro e w1' ⟨rfl,rfl⟩
   go_wp2_with fail
   refine HSH2.out.mono ?_
   rintro e w1' ⟨rfl,rfl⟩
   go_wp2_with fail
   refine HFI.out.mono ?_
   rintro e w2 ⟨g,A,l,rv,rfl,hI,hA,hra,hrr,hb2⟩
   obtain ⟨pr,cr,rfl,_⟩:=hra.shape
   obtain ⟨w3,hw3⟩:∃ w3,w2.alloc (.cells #[.slice pr l.length cr] 30)=w3:=⟨_,rfl⟩
   have hb3:Below w2.heap.size w2 w3:=by rw [← hw3];exact (Below.refl _ _).alloc (Nat.le_refl _) _
   have hbig:=hI.big
   have hx3:w3.heap[w2.heap.size]? = some (.cells #[.slice pr l.length cr] 30 (0,0)):=by rw [← hw3];exact heap_alloc_new _ _
   have HI3:=Lib.hid (fun W (hW:Below w3.heap.size w3 W)=>(hI.below hb3).below hW)
   have HX3:=Lib.hid (fun W (hW:Below w3.heap.size w3 W)=>(row_cell ((hW.block w2.heap.size (Array.getElem?_eq_some_iff.1 hx3).1).trans hx3) 0:W.cell? ⟨w2.heap.size,0,none⟩=some (.slice pr l.length cr)))
   have HR3:=Lib.hid (fun W (hW:Below w3.heap.size w3 W)=>(hra.below hb3).below hW)
   have HB3:=Lib.hid (HB1.out.trans ((hb2.trans (hb3.mono hb2.size)).mono HB1.out.size))
   have HW3:=Lib.hid hw3
   have hln:l.length≤65536:=hbig.1
   have hel:(evM l).length≤65536:=by rw [evM_len];exact hln
   have HQ1:=Lib.hid (postsM_may s true hel)
   have HQ2:=Lib.hid (postsM_may t false hel)
   have HPO:=Lib.hid (posts_idx (HI3.out w3 (Below.refl _ _)) s (by unfold maxLen;omega))
   rw [← postsM_whole] at HPO
   obtain ⟨P1,hP1⟩:∃ P1,postsM (evM l) s true=P1:=⟨_,rfl⟩
   obtain ⟨P2,hP2⟩:∃ P2,postsM (evM l) t false=P2:=⟨_,rfl⟩
   obtain ⟨T,hT⟩:∃ T,termsM (evM l)=T:=⟨_,rfl⟩
   have HPR:=Lib.hid (fun W (hW:Below w3.heap.size w3 W)=>prefix_idx (HI3.out W hW) t)
   have HTE:=Lib.hid (fun W (hW:Below w3.heap.size w3 W)=>terms_idx (HI3.out W hW))
   have HRT:=Lib.hid (fun W (hW:Below w3.heap.size w3 W)=>(show Calls Tryz.prog _ _ W (TxtD (termsM (evM l)) W) from rterms14_any l _ W (HR3.out W hW) hln))
   have HRP:=Lib.hid (fun W (hW:Below w3.heap.size w3 W)=>(show Calls Tryz.prog _ _ W (RPostsD (postsM (evM l) s true) W) from rposts14_any l _ s true W (HR3.out W hW) hln (by omega)))
   have HRQ:=Lib.hid (fun W (hW:Below w3.heap.size w3 W)=>(show Calls Tryz.prog _ _ W (RPostsD (postsM (evM l) t false) W) from rposts14_any l _ t false W (HR3.out W hW) hln (by omega)))
   rw [hP1] at HPO HRP HQ1
   rw [hP2] at HPR HRQ HQ2
   rw [hT] at HTE HRT
   clear hI hA hra hrr hb2 hw3 hb3 hbig hx3 HSH HSH2 HFI HB1 HR3 HI3 hP1 hP2 hT
   go_wp2_with (rw [HW3.out])
   refine HPO.out.mono ?_
   rintro e w5 ⟨⟨u5,rfl,hu5⟩,hb5⟩
   obtain ⟨p5,c5,rfl,_⟩:=hu5.shape
   have HB5:=Lib.hid hb5
   have HU5:=Lib.hid hu5.any
   clear hu5 hb5 HPO
   go_wp2_with fail
   refine (HPR.out w5 HB5.out).mono ?_
   rintro e w6 ⟨⟨u6,rfl,hu6⟩,hb6⟩
   obtain ⟨p6,c6,rfl,_⟩:=hu6.shape
   obtain ⟨wd,hwd⟩:∃ wd,w6.drew=wd:=⟨_,rfl⟩
   have hbd:Below w6.heap.size w6 wd:=by rw [← hwd];exact (Below.refl _ _).drew
   have HP5:=Lib.hid (fun W (hW:Below wd.heap.size wd W)=>(SG.ron_pon (((HU5.out.below hb6).below hbd).below hW)).row)
   have HP6:=Lib.hid (fun W (hW:Below wd.heap.size wd W)=>(SG.ron_pon ((hu6.any.below hbd).below hW)).row)
   have hb3d:=grow HB5.out (grow hb6 hbd)
   have HBD:=Lib.hid hb3d
   have HWD:=Lib.hid hwd
   have HXD:=Lib.hid (fun W (hW:Below wd.heap.size wd W)=>HX3.out W (grow hb3d hW))
   clear hu6 hb6 hbd hb3d hwd HPR HU5 HB5 HX3
   go_wp2_with fail
   refine RG.begin_ [(0,true),(2,true),(1,false),(3,false),(4,false),(5,true),(6,true),(7,true),(8,true),(9,false),(10,false),(11,true),(12,true),(13,true),(14,true),(15,true),(16,false),(17,false),(18,true),(19,true),(20,true),(21,false),(22,true),(23,true),(24,true),(25,false),(26,true),(27,true),(28,false),(29,true),(30,true)] hmx (by kernel_rfl) rfl (by kernel_rfl) (fun _ _ d _ _ h=>by cases d<;>exact h) ?_
   simp only [RG.ordered,List.map_cons,List.map_nil,List.getElem?_toArray,List.getElem?_cons_succ,List.getElem?_cons_zero]
   rw [HWD.out]
   have HB0:=Lib.hid (Below.refl wd.heap.size wd)
   repeat (refine RG.take (by rfl) (by intro W hW;have f1:=HXD.out W (grow HB0.out hW);go_simp;with_reducible rfl) ?_;simp only [Act.put,List.setIfInBounds_toArray,List.set_cons_zero,List.set_cons_succ])
   refine RG.alone (by rfl) (fun K hK => ?_)
   go_simp
   refine (HTE.out wd (grow HBD.out HB0.out)).mono ?_
   rintro e y1 ⟨t1,rfl,ht1,b1⟩
   go_simp
   refine hK.out _ _ b1 ?_
   clear hK K
   have HB1:=Lib.hid (grow HB0.out b1)
   have HT1:=Lib.hid ht1
   clear b1 ht1
   refine RG.alone (by rfl) (fun K hK => ?_)
   go_simp
   refine (HRT.out y1 (grow HBD.out HB1.out)).mono ?_
   rintro e y2 ⟨t2,rfl,ht2,b2⟩
   go_simp
   refine hK.out _ _ b2 ?_
   clear hK K
   have HB2:=Lib.hid (grow HB1.out b2)
   have HSW:=Lib.hid (TK.samew_any t1 t2 T y2 (txt_trow (HT1.out.below b2)) (txt_trow ht2))
   clear b2 ht2 HT1
   refine RG.alone (by rfl) (fun K hK => ?_)
   go_simp
   refine HSW.out.mono ?_
   rintro e y3 ⟨rfl,b3⟩
   go_simp
   refine hK.out _ _ b3 ?_
   clear hK K HSW
   have HB3':=Lib.hid (grow HB2.out b3)
   clear b3
   repeat (refine RG.take (by rfl) (by intro W hW;have f1:=HXD.out W (grow HB3'.out hW);go_simp;with_reducible rfl) ?_;simp only [Act.put,List.setIfInBounds_toArray,List.set_cons_zero,List.set_cons_succ])
   refine RG.alone (by rfl) (fun K hK => ?_)
   go_simp
   refine (HRP.out y3 (grow HBD.out HB3'.out)).mono ?_
   rintro e y4 ⟨⟨u4,rfl,hu4⟩,b4⟩
   go_simp
   refine hK.out _ _ b4 ?_
   clear hK K
   have HB4:=Lib.hid (grow HB3'.out b4)
   have HSA:=Lib.hid (PW.rsame_any _ u4 P1 P1 y4 (HP5.out y4 HB4.out) hu4)
   rw [decide_eq_true rfl] at HSA
   clear b4 hu4
   refine RG.alone (by rfl) (fun K hK => ?_)
   go_simp
   refine HSA.out.mono ?_
   rintro e y5 ⟨rfl,b5⟩
   go_simp
   refine hK.out _ _ b5 ?_
   clear hK K HSA
   have HB5:=Lib.hid (grow HB4.out b5)
   clear b5
   repeat (refine RG.take (by rfl) (by intro W hW;have f1:=HXD.out W (grow HB5.out hW);go_simp;with_reducible rfl) ?_;simp only [Act.put,List.setIfInBounds_toArray,List.set_cons_zero,List.set_cons_succ])
   refine RG.alone (by rfl) (fun K hK => ?_)
   go_simp
   refine (HRQ.out y5 (grow HBD.out HB5.out)).mono ?_
   rintro e y6 ⟨⟨u6,rfl,hu6⟩,b6⟩
   go_simp
   refine hK.out _ _ b6 ?_
   clear hK K
   have HB6:=Lib.hid (grow HB5.out b6)
   have HSB:=Lib.hid (PW.rsame_any _ u6 P2 P2 y6 (HP6.out y6 HB6.out) hu6)
   rw [decide_eq_true rfl] at HSB
   clear b6 hu6
   refine RG.alone (by rfl) (fun K hK => ?_)
   go_simp
   refine HSB.out.mono ?_
   rintro e y7 ⟨rfl,b7⟩
   go_simp
   refine hK.out _ _ b7 ?_
   clear hK K HSB
   have HB7:=Lib.hid (grow HB6.out b7)
   clear b7
   have HI1:=Lib.hid (PW.is_any _ P1 y7 (HP5.out y7 HB7.out))
   rw [HQ1.out] at HI1
   repeat (refine RG.take (by rfl) (by intro W hW;go_simp;with_reducible rfl) ?_;simp only [Act.put,List.setIfInBounds_toArray,List.set_cons_zero,List.set_cons_succ])
   refine RG.alone (by rfl) (fun K hK => ?_)
   go_simp
   refine HI1.out.mono ?_
   rintro e y8 ⟨rfl,b8⟩
   go_simp
   refine hK.out _ _ b8 ?_
   clear hK K HI1
   have HB8:=Lib.hid (grow HB7.out b8)
   clear b8
   have HI2:=Lib.hid (PW.is_any _ P2 y8 (HP6.out y8 HB8.out))
   rw [HQ2.out] at HI2
   repeat (refine RG.take (by rfl) (by intro W hW;go_simp;with_reducible rfl) ?_;simp only [Act.put,List.setIfInBounds_toArray,List.set_cons_zero,List.set_cons_succ])
   refine RG.alone (by rfl) (fun K hK => ?_)
   go_simp
   refine HI2.out.mono ?_
   rintro e y9 ⟨rfl,b9⟩
   go_simp
   refine hK.out _ _ b9 ?_
   clear hK K HI2
   have HB9:=Lib.hid (grow HB8.out b9)
   clear b9
   repeat (refine RG.take (by rfl) (by intro W hW;go_simp;with_reducible rfl) ?_;simp only [Act.put,List.setIfInBounds_toArray,List.set_cons_zero,List.set_cons_succ])
   refine RG.alone (by rfl) (fun K hK => ?_)
   go_simp
   refine (awake_any y9).mono ?_
   rintro e y10 ⟨rfl,b10⟩
   go_simp
   refine hK.out _ _ b10 ?_
   clear hK K
   have HB10:=Lib.hid (grow HB3.out (grow HBD.out (grow HB9.out b10)))
   clear b10
   repeat (refine RG.take (by rfl) (by intro W hW;go_simp;with_reducible rfl) ?_;simp only [Act.put,List.setIfInBounds_toArray,List.set_cons_zero,List.set_cons_succ])
   refine RG.done ?_
   go_wp2_with fail
   go_ret
   exact ⟨rfl,HB10.out⟩
theorem posts_walk (v:Value) (bs0:List Bat) (s0 t0:ByteArray) (w:World) (hv:RAny batC w v bs0) (hs0:s0.size≤maxLen) (ht0:t0.size≤maxLen):Calls Tryz.prog 3 #[v,.string s0,.string t0] w (Held2 w):=by
 have h:=posts_call v bs0 s0.data.toList t0.data.toList w hv (by rw [Array.length_toList];exact hs0) (by rw [Array.length_toList];exact ht0)
 rw [Array.toArray_toList,Array.toArray_toList] at h
 exact h
end Go.Proofs.YtidhgicajlaafaaGreat.MX
