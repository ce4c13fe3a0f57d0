import Derived.Test.YtidhgicajlaafaaGreatZD50
import Derived.Test.YtidhgicajlaafaaGreatZD53
import Derived.Test.YtidhgicajlaafaaGreatZD54
set_option maxRecDepth 100000
set_option maxHeartbeats 8000000
set_option linter.unusedVariables false
set_option linter.unusedSimpArgs false
namespace Go.Proofs.YtidhgicajlaafaaGreat.MX
open Go Go.RowKit MM EM SM
open EV (IntLeft docC evC ev_on fldC batC bat_on btBox btbox_below btbox_size btbox_in)
open RM (rowsE)
def Held4 (w:World) (e:Ending) (w':World):Prop:=e=.returned (.bool true)∧Below w.heap.size w w'
theorem rbel_keep {α:Type} {C:Codec α} {B:Nat} {S:Nat→Prop} {w w':World} {v:Value} {es:List α} (h:RBel C B w v es) (hk:Kep S w w') (hS:∀ b,b<B→S b):RBel C B w' v es :=
 ROn.keep h (hk.mono fun b hb=>hS b hb) fun _ _ h=>h
theorem forks_call (v:Value) (bs0:List Bat) (sq0:Int) (bv:Value) (es0:List Ev) (s0:List UInt8) (w:World) (hv:RAny batC w v bs0) (hbv:RAny evC w bv es0) (hs0:s0.length≤maxLen):Calls Tryz.prog 4 #[v,.agg #[.int .i64 sq0,bv],.string ⟨s0.toArray⟩] w (Held4 w):=by
 obtain ⟨pv,cv,rfl,_⟩:=hv.shape
 obtain ⟨pb,cb,rfl,_⟩:=hbv.shape
 obtain ⟨w0,hw0⟩:∃ w0,btBox w sq0 (.slice pb es0.length cb)=w0:=⟨_,rfl⟩
 have hb0:Below w.heap.size w w0:=by rw [← hw0];exact btbox_below _ _ _
 have hs00:w0.heap.size=w.heap.size+1:=by rw [← hw0];exact btbox_size _ _ _
 have HBX:=Lib.hid (fun W (hW:Below w0.heap.size w0 W)=>(show W.cell? ⟨w.heap.size,0,none⟩=some (.int .i64 sq0)∧W.cell? ⟨w.heap.size,1,none⟩=some (.slice pb es0.length cb) from by
  rw [← hw0] at hW
  have h:=btbox_in hW
  exact ⟨h.1,h.2.1⟩))
 have HBV:=Lib.hid (fun W (hW:Below w0.heap.size w0 W)=>(hbv.below hb0).below hW)
 have HF:=Lib.hid (few_any _ bs0 w0 (hv.below hb0))
 have HB0:=Lib.hid hb0
 have HW0:=Lib.hid (show w.alloc (.cells #[.int .i64 sq0,.slice pb es0.length cb] 45)=w0 from hw0)
 have HS0:=Lib.hid hs00
 clear hv hbv hw0 hb0 hs00
 go_enter Tryz.func4,Tryz.ntmps4
 go_wp2_with (rw [HW0.out])
 refine HF.out.mono ?_
 rintro e w1 ⟨vv,ok,bs,rfl,hbs,hb1⟩
 obtain ⟨p,cap,rfl,hlc,hcm,_⟩:=hbs.shape
 have HB1:=Lib.hid hb1
 obtain ⟨b0,b1⟩:=HBX.out w1 hb1
 obtain ⟨w2,hw2⟩:∃ w2,w1.alloc (.cells #[.int .i64 sq0,.slice pb es0.length cb] 45)=w2:=⟨_,rfl⟩
 have hb2:Below w1.heap.size w1 w2:=by rw [← hw2];exact (Below.refl _ _).alloc (Nat.le_refl _) _
 have hone:RAny batC w2 (.slice (some ⟨w1.heap.size,0,none⟩) 1 1) [(sq0,es0)]:=by
  rw [← hw2]
  exact ROn.any (ron_lit (e:=45) (S:=fun _=>True) w1 [[.int .i64 sq0,.slice pb es0.length cb]] [(sq0,es0)] (by unfold maxLen;simp) (Mean.single (bat_on.2 ⟨_,rfl,HBV.out w1 hb1⟩)))
 have HF2:=Lib.hid (few_len _ [(sq0,es0)] w2 hone)
 have HBS:=Lib.hid (hbs.below hb2)
 have HB2:=Lib.hid (grow hb1 hb2)
 have HW2:=Lib.hid hw2
 clear hbs hb1 hw2 hb2 hone HF HW0
 go_wp2_with (rw [HW2.out])
 refine HF2.out.mono ?_
 rintro e w3 ⟨kv,is,ks,rfl,hks,hb3,hkn⟩
 obtain ⟨pk,kc,rfl,_⟩:=hks.shape
 have HB3:=Lib.hid (grow HB2.out hb3)
 have hend:∀ b1 b2:Bool,(b1&&b2)=false→True:=fun _ _ _=>trivial
 clear hend b0 b1
 by_cases hoi:ok=true∧is=true
 ·obtain ⟨rfl,rfl⟩:=hoi
  have hkn:=hkn rfl (by simp)
  have HKN:=Lib.hid hkn
  have HKS:=Lib.hid hks.bel
  have HFI:=Lib.hid (filled_any (.slice p bs.length cap) bs w3 (HBS.out.below hb3))
  have hmx:Tryz.prog.follows .mixedOrders=true:=by kernel_rfl
  clear hks hb3 hkn HF2 HBS HW2 HB1 HB2
  go_wp2_with fail
  refine HFI.out.mono ?_
  rintro e w4 ⟨g,A,l,rv,rfl,hI,hA,hra,hrr,hb4⟩
  obtain ⟨pr,cr,rfl,_⟩:=hra.shape
  obtain ⟨w5,hw5⟩:∃ w5,w4.alloc (.cells #[.slice pr l.length cr] 30)=w5:=⟨_,rfl⟩
  have hb5:Below w4.heap.size w4 w5:=by rw [← hw5];exact (Below.refl _ _).alloc (Nat.le_refl _) _
  have hs5:w5.heap.size=w4.heap.size+1:=by rw [← hw5];simp
  have hx5:w5.heap[w4.heap.size]? = some (.cells #[.slice pr l.length cr] 30 (0,0)):=by rw [← hw5];exact heap_alloc_new _ _
  have hI5:=hI.below hb5
  have hln:l.length≤65536:=hI.big.1
  have HA4:=Lib.hid (fun b (hb:A b)=>hI.alt b hb)
  have HA3:=Lib.hid hA
  have h03:=HB3.out.size
  have HFK:=Lib.hid (fork_idx hI5)
  have HI5:=Lib.hid hI5
  have HR5:=Lib.hid (RBel.below hra.bel hb5)
  have HX5:=Lib.hid hx5
  have HB5:=Lib.hid (grow HB3.out (grow hb4 hb5))
  have HKS5:=Lib.hid (RBel.below HKS.out (grow hb4 hb5))
  have h35:=(grow hb4 hb5).size
  have h05:=HB5.out.size
  have HW5:=Lib.hid hw5
  clear hI hA hra hrr hb4 hw5 hb5 hx5 hI5 HFI HB3 HKS
  go_wp2_with (rw [HW5.out])
  refine HFK.out.mono ?_
  rintro e w6 ⟨⟨gy,rfl,hy6⟩,hb6⟩
  obtain ⟨⟨kq,kes⟩,kr,hke⟩:∃ k r,ks=k::r:=by
   cases hk:ks with
   | nil=>exact absurd hk HKN.out
   | cons k r=>exact ⟨k,r,rfl⟩
  have hks6:=RBel.below HKS5.out (hb6.mono h35)
  have hk0:0<ks.length:=by rw [hke];simp
  obtain ⟨kb,ko,kev,rfl,hkbl,_,c1,c2,hke2⟩:=bat_at hks6 hk0
  have hk00:ks[0]=(kq,kes):=by simp [hke]
  rw [hk00] at c1 hke2
  replace hke2:ROn evC (fun b=>b<w3.heap.size) w6 kev kes:=hke2
  replace c1:w6.cell? ⟨kb,ko,none⟩=some (.int .i64 kq):=by simpa using c1
  replace c2:w6.cell? ⟨kb,ko+1,none⟩=some kev:=by simpa using c2
  obtain ⟨pe,ce,rfl,_⟩:=hke2.shape
  obtain ⟨AY,hAY⟩:∃ AY:Nat→Prop,(fun b=>w5.heap.size≤b∧b<w6.heap.size)=AY:=⟨_,rfl⟩
  have hAYl:∀ b,AY b→w5.heap.size≤b:=fun b hb=>by rw [← hAY] at hb;exact hb.1
  rw [hAY] at hy6
  have HAD:=Lib.hid (add_idx AY gy l kq _ kes w6 hy6 (hke2.weak fun b _ h hA=>by have:=hAYl b hA;omega))
  have HI6:=Lib.hid (HI5.out.below hb6)
  have HR6:=Lib.hid (RBel.below HR5.out (hb6.mono (by omega)))
  have HX6:=Lib.hid ((hb6.block w4.heap.size (by omega)).trans HX5.out)
  have HB6:=Lib.hid (grow HB5.out hb6)
  have h56:=hb6.size
  have HAY:=Lib.hid hAYl
  have q0:(0:Int)<(ks.length:Int):=by omega
  have q1:decide (0<ks.length)=true:=by rw [decide_eq_true_eq];exact hk0
  clear hks6 hkbl hke hk00 hke2 hy6 hAY hb6 HFK HI5 HR5 HX5 HB5 HKS5 HKN
  go_wp2_with fail
  refine HAD.out.mono ?_
  rintro e w7 ⟨rfl,hy7,hk7⟩
  obtain ⟨l2,hl2⟩:∃ l2,(addM l (kq,kes)).1=l2:=⟨_,rfl⟩
  rw [hl2] at hy7
  obtain ⟨AZ,hAZ⟩:∃ AZ,Since AY w6.heap.size w7.heap.size=AZ:=⟨_,rfl⟩
  have hAZl:∀ b,AZ b→w5.heap.size≤b:=fun b hb=>by
   rw [← hAZ] at hb
   exact hb.elim (HAY.out b) fun h=>by omega
  rw [hAZ] at hy7
  obtain ⟨wd,hwd⟩:∃ wd,w7.drew=wd:=⟨_,rfl⟩
  have hbd:Below w7.heap.size w7 wd:=by rw [← hwd];exact (Below.refl _ _).drew
  have hkd:Kep (fun b=>b<w5.heap.size) w6 wd:=(hk7.mono fun b hb hA=>by have:=HAY.out b hA;omega).trans (kep_below _ hbd)
  have hyd:=hy7.below hbd
  have HIS:=Lib.hid (fun W (hW:Kep (fun b=>b<w5.heap.size) w6 W)=>(show Idx A W g l∧RBel docC w4.heap.size W (.slice pr l.length cr) l∧W.cell? ⟨w4.heap.size,0,none⟩=some (.slice pr l.length cr) from
   ⟨HI6.out.keep hW fun b hb=>by have:=HA4.out b hb;omega,rbel_keep HR6.out hW fun b hb=>by omega,row_cell ((hW.block w4.heap.size (by omega) (by omega)).trans HX6.out) 0⟩))
  have HKD:=Lib.hid hkd
  have HYD:=Lib.hid hyd
  have HAZ:=Lib.hid hAZl
  have HWD:=Lib.hid hwd
  have h67:=hk7.size
  have h7d:=hbd.size
  have HBK:Hid (Below w.heap.size w wd):=Lib.hid (by
   have h1:=grow HB0.out HB6.out
   exact h1.trans (hkd.below h1.size fun b hb=>by have:=HS0.out;omega))
  clear hl2 hy7 hk7 hAZ hwd hbd hkd hyd hAZl HAD HI6 HR6 HX6 HAY c1 c2
  go_wp2_with fail
  refine RK.begin_ (T:=fun b=>¬ AZ b) [(0,true),(1,true),(2,true),(3,true),(4,true),(5,false),(6,false),(7,true),(8,false)] hmx (by kernel_rfl) rfl (by kernel_rfl) (fun _ _ d _ _ h=>by cases d<;>exact h) ?_
  simp only [RK.ordered,List.map_cons,List.map_nil,List.getElem?_toArray,List.getElem?_cons_succ,List.getElem?_cons_zero]
  rw [HWD.out]
  have HXW:=Lib.hid (fun W (hW:Kep (fun b=>¬ AZ b) wd W)=>(HIS.out W (HKD.out.trans (hW.mono fun b hb hA=>by have:=HAZ.out b hA;omega))).2.2)
  repeat (refine RK.take (by rfl) (by intro W hW;have x0:=HXW.out W hW;go_simp;with_reducible rfl) ?_;simp only [Act.put,List.setIfInBounds_toArray,List.set_cons_zero,List.set_cons_succ])
  refine RK.alone (by rfl) (fun K hK => ?_)
  go_simp
  refine (word_any [122,122] wd).mono ?_
  rintro e w8 ⟨u8,rfl,hu8,hb8⟩
  obtain ⟨p8,c8,rfl,_⟩:=hu8.shape
  go_simp
  refine hK.out _ _ (kep_below _ hb8) ?_
  clear hK K
  obtain ⟨w9,hw9⟩:∃ w9,w8.alloc (.cells #[.int .i64 0,.slice p8 1 c8] 51)=w9:=⟨_,rfl⟩
  have hb9:Below w8.heap.size w8 w9:=by rw [← hw9];exact (Below.refl _ _).alloc (Nat.le_refl _) _
  have hs9:w9.heap.size=w8.heap.size+1:=by rw [← hw9];simp
  have hev9:ROn evC (fun b=>wd.heap.size≤b) w9 (.slice (some ⟨w8.heap.size,0,none⟩) 1 1) [(0,[([109,115,103],[122,122])])]:=by
   rw [← hw9]
   refine ROn.weak (ron_lit (e:=51) (S:=fun b=>wd.heap.size≤b) w8 [[.int .i64 0,.slice p8 1 c8]] [(0,[([109,115,103],[122,122])])] (by unfold maxLen;simp) (Mean.single (ev_on.2 ⟨_,rfl,hu8⟩))) fun b _ h => ?_
   rcases h with h | h
   ·exact h
   ·have:=hb8.size;omega
  have hAZd:∀ b,AZ b→b<wd.heap.size:=fun b hb=>HYD.out.alt b hb
  have hadd:=add_idx AZ gy l2 ((l.length:Int)+1) _ [(0,[([109,115,103],[122,122])])] w9 (HYD.out.below (grow hb8 hb9)) (hev9.weak fun b _ h hA=>by have:=hAZd b hA;omega)
  have hadd2:Calls Tryz.prog _ _ w9 fun e w'=>∃ z:Int,e=.returned (.int .i64 z)∧Kep (fun k=>¬ AZ k) w9 w':=hadd.mono fun e w' h=>⟨_,h.1,h.2.2⟩
  have HAD9:=Lib.hid hadd2
  have HB9:=Lib.hid (grow hb8 hb9)
  have HW9:=Lib.hid hw9
  clear hw9 hb9 hev9 hAZd hadd hadd2 hu8 hb8 HYD
  refine RK.alone (by rfl) (fun K hK => ?_)
  go_simp
  refine hK.out _ _ (kep_alloc _ _ _) ?_
  clear hK K
  rw [HW9.out]
  repeat (refine RK.take (by rfl) (by intro W hW;go_simp;with_reducible rfl) ?_;simp only [Act.put,List.setIfInBounds_toArray,List.set_cons_zero,List.set_cons_succ])
  refine RK.alone (by rfl) (fun K hK => ?_)
  go_simp
  rw [show IntKind.i64.wrap ((l.length:Int)+1)=(l.length:Int)+1 from by rw [IntKind.wrap_i64];omega]
  refine HAD9.out.mono ?_
  rintro e wa ⟨z9,rfl,hka⟩
  go_simp
  refine hK.out _ _ hka ?_
  clear hK K
  have hkz:Kep (fun b=>b<w5.heap.size) w6 wa:=HKD.out.trans ((kep_below _ HB9.out).trans (hka.mono fun b hb hA=>by have:=HAZ.out b hA;omega))
  obtain ⟨we,hwe⟩:∃ we,wa.drew=we:=⟨_,rfl⟩
  have hbe:Below wa.heap.size wa we:=by rw [← hwe];exact (Below.refl _ _).drew
  obtain ⟨hIe,hRe,hXe⟩:=HIS.out we (hkz.trans (kep_below _ hbe))
  have hs00:=HS0.out
  have hbe0:we.cell? ⟨w.heap.size,0,none⟩=some (.int .i64 sq0):=((hkz.trans (kep_below _ hbe)).cell (show w.heap.size<w6.heap.size by omega) (show w.heap.size<w5.heap.size by omega) 0).trans (HBX.out w6 HB6.out).1
  have hbe1:we.cell? ⟨w.heap.size,1,none⟩=some (.slice pb es0.length cb):=((hkz.trans (kep_below _ hbe)).cell (show w.heap.size<w6.heap.size by omega) (show w.heap.size<w5.heap.size by omega) 1).trans (HBX.out w6 HB6.out).2
  have hda:=hka.size
  have hd9:=HB9.out.size
  have hea:=hbe.size
  have HBE:Hid (Below w.heap.size w we):=Lib.hid (by
   have h1:=grow HBK.out HB9.out
   exact (h1.trans (hka.below h1.size fun b hb hA=>by have:=HAZ.out b hA;have:=HS0.out;omega)).trans (hbe.mono (by have:=h1.size;omega)))
  have HWE:=Lib.hid hwe
  have hxl:w4.heap.size<we.heap.size:=by omega
  have HIE:=Lib.hid (fun W (hW:Below we.heap.size we W)=>hIe.below hW)
  have HRE:=Lib.hid (fun W (hW:Below we.heap.size we W)=>(RBel.below hRe (hW.mono (by omega))).any)
  have HXE:=Lib.hid (fun W (hW:Below we.heap.size we W)=>(hW.cell (p:=⟨w4.heap.size,0,none⟩) hxl).trans hXe)
  have h0e:w0.heap.size≤we.heap.size:=by omega
  have HBVE:=Lib.hid (fun W (hW:Below we.heap.size we W)=>(show W.cell? ⟨w.heap.size,0,none⟩=some (.int .i64 sq0)∧W.cell? ⟨w.heap.size,1,none⟩=some (.slice pb es0.length cb) from
   ⟨(hW.cell (p:=⟨w.heap.size,0,none⟩) (show w.heap.size<we.heap.size by omega)).trans hbe0,(hW.cell (p:=⟨w.heap.size,1,none⟩) (show w.heap.size<we.heap.size by omega)).trans hbe1⟩))
  clear hbe0 hbe1 hka hkz hwe hbe hIe hRe hXe HIS HKD HAZ HBK HXW HAD9 HB9 HW9
  refine RK.done ?_
  go_wp2_with fail
  refine RG.begin_ [(0,true),(2,true),(3,true),(1,false),(4,false),(5,true),(6,true),(7,true),(8,true),(11,true),(12,true),(9,false),(10,false),(13,false),(14,false),(15,false),(16,true),(17,true)] hmx (by kernel_rfl) rfl (by kernel_rfl) (fun _ _ d _ _ h=>by cases d<;>exact h) ?_
  simp only [RG.ordered,List.map_cons,List.map_nil,List.getElem?_toArray,List.getElem?_cons_succ,List.getElem?_cons_zero]
  rw [HWE.out]
  obtain ⟨s,hs⟩:∃ s,s0.take 80=s:=⟨_,rfl⟩
  have hsl:s.length≤80:=by rw [← hs,List.length_take];omega
  have HSH:=Lib.hid (fun W=>short_any s0 W hs0)
  rw [hs] at HSH
  have HC0:=Lib.hid (Below.refl we.heap.size we)
  repeat (refine RG.take (by rfl) (by intro W hW;have f1:=HXE.out W (grow HC0.out hW);go_simp;with_reducible rfl) ?_;simp only [Act.put,List.setIfInBounds_toArray,List.set_cons_zero,List.set_cons_succ])
  refine RG.alone (by rfl) (fun K hK => ?_)
  go_simp
  refine (docs_idx (HIE.out we HC0.out)).mono ?_
  rintro e y1 ⟨⟨u1,rfl,hu1⟩,b1⟩
  go_simp
  refine hK.out _ _ b1 ?_
  clear hK K
  have HC1:=Lib.hid b1
  have HSD:=Lib.hid (EV.samedocs_any u1 _ l l y1 hu1.any (HRE.out y1 b1))
  rw [decide_eq_true rfl] at HSD
  clear b1 hu1
  refine RG.alone (by rfl) (fun K hK => ?_)
  go_simp
  refine HSD.out.mono ?_
  rintro e y2 ⟨rfl,b2⟩
  go_simp
  refine hK.out _ _ b2 ?_
  clear hK K HSD
  have HC2:=Lib.hid (grow HC1.out b2)
  clear b2
  repeat (refine RG.take (by rfl) (by intro W hW;have f1:=HXE.out W (grow HC2.out hW);go_simp;with_reducible rfl) ?_;simp only [Act.put,List.setIfInBounds_toArray,List.set_cons_zero,List.set_cons_succ])
  refine RG.alone (by rfl) (fun K hK => ?_)
  go_simp
  refine (HSH.out y2).mono ?_
  rintro e y3 ⟨rfl,rfl⟩
  go_simp
  refine hK.out _ _ (Below.refl _ _) ?_
  clear hK K
  refine RG.alone (by rfl) (fun K hK => ?_)
  go_simp
  refine (posts_idx (HIE.out y2 HC2.out) s (by unfold maxLen;omega)).mono ?_
  rintro e y4 ⟨⟨u4,rfl,hu4⟩,b4⟩
  rw [← postsM_whole] at hu4
  go_simp
  refine hK.out _ _ b4 ?_
  clear hK K
  have HC4:=Lib.hid (grow HC2.out b4)
  have HU4:=Lib.hid hu4.any
  clear b4 hu4
  refine RG.alone (by rfl) (fun K hK => ?_)
  go_simp
  refine (HSH.out y4).mono ?_
  rintro e y5 ⟨rfl,rfl⟩
  go_simp
  refine hK.out _ _ (Below.refl _ _) ?_
  clear hK K
  refine RG.alone (by rfl) (fun K hK => ?_)
  go_simp
  refine (rposts14_any l _ s true y4 (HRE.out y4 HC4.out) hln (by omega)).mono ?_
  rintro e y6 ⟨⟨u6,rfl,hu6⟩,b6⟩
  go_simp
  refine hK.out _ _ b6 ?_
  clear hK K
  have HC6:=Lib.hid (grow HC4.out b6)
  have HSA:=Lib.hid (PW.rsame_any u4 u6 (postsM (evM l) s true) (postsM (evM l) s true) y6 (SG.ron_pon (HU4.out.below b6)).row hu6)
  rw [decide_eq_true rfl] at HSA
  clear b6 hu6 HU4
  refine RG.alone (by rfl) (fun K hK => ?_)
  go_simp
  refine HSA.out.mono ?_
  rintro e y7 ⟨rfl,b7⟩
  go_simp
  refine hK.out _ _ b7 ?_
  clear hK K HSA
  have HC7:=Lib.hid (grow HC6.out b7)
  clear b7
  repeat (refine RG.take (by rfl) (by intro W hW;go_simp;with_reducible rfl) ?_;simp only [Act.put,List.setIfInBounds_toArray,List.set_cons_zero,List.set_cons_succ])
  refine RG.done ?_
  have HCL:=Lib.hid (clear_idx (HIE.out y7 HC7.out))
  have HB7:=Lib.hid (grow HBE.out HC7.out)
  have HBV7:=Lib.hid (HBVE.out y7 HC7.out)
  have h07:w0.heap.size≤y7.heap.size:=Nat.le_trans h0e HC7.out.size
  clear HXE HRE HIE HBVE HBE HC0 HC1 HC2 HC4 HC6 HC7
  go_wp2_with fail
  refine HCL.out.mono ?_
  rintro e z1 ⟨rfl,hi1,hk1⟩
  obtain ⟨z2,hz2⟩:∃ z2,z1.alloc (.cells zero8 60)=z2:=⟨_,rfl⟩
  obtain ⟨z3,hz3⟩:∃ z3,z2.alloc (.cells #[.pointer none,.pointer (some ⟨z1.heap.size,0,none⟩)] 27)=z3:=⟨_,rfl⟩
  have hb2:Below z1.heap.size z1 z2:=by rw [← hz2];exact (Below.refl _ _).alloc (Nat.le_refl _) _
  have hb3:Below z2.heap.size z2 z3:=by rw [← hz3];exact (Below.refl _ _).alloc (Nat.le_refl _) _
  have hs2:z2.heap.size=z1.heap.size+1:=by rw [← hz2];simp
  have hs3:z3.heap.size=z2.heap.size+1:=by rw [← hz3];simp
  have hq2:z3.heap[z1.heap.size]? = some (.cells zero8 60 (0,0)):=by
   rw [hb3.block z1.heap.size (by omega),← hz2]
   exact heap_alloc_new _ _
  have hq3:z3.heap[z2.heap.size]? = some (.cells #[.pointer none,.pointer (some ⟨z1.heap.size,0,none⟩)] 27 (0,0)):=by
   rw [← hz3]
   exact heap_alloc_new _ _
  have hs00:=HS0.out
  have h71:=hk1.size
  have hnA:¬ A w.heap.size:=fun h=>by have:=HA3.out _ h;omega
  have hbv1:z1.cell? ⟨w.heap.size,0,none⟩=some (.int .i64 sq0):=(hk1.cell (show w.heap.size<y7.heap.size by omega) hnA 0).trans HBV7.out.1
  have hbv2:z1.cell? ⟨w.heap.size,1,none⟩=some (.slice pb es0.length cb):=(hk1.cell (show w.heap.size<y7.heap.size by omega) hnA 1).trans HBV7.out.2
  have hb13:=grow hb2 hb3
  have HNB:=Lib.hid (fun W (hW:Below z3.heap.size z3 W)=>(show (NobP W none∧NobP W (some ⟨z1.heap.size,0,none⟩))∧(W.cell? ⟨z2.heap.size,0,none⟩=some (.pointer none)∧W.cell? ⟨z2.heap.size,1,none⟩=some (.pointer (some ⟨z1.heap.size,0,none⟩)))∧(W.cell? ⟨w.heap.size,0,none⟩=some (.int .i64 sq0)∧W.cell? ⟨w.heap.size,1,none⟩=some (.slice pb es0.length cb)) from
   ⟨⟨.inl rfl,.inr ⟨_,rfl,(hW.block z1.heap.size (by omega)).trans hq2⟩⟩,⟨row_cell ((hW.block z2.heap.size (by omega)).trans hq3) 0,row_cell ((hW.block z2.heap.size (by omega)).trans hq3) 1⟩,
     ⟨((hb13.trans (hW.mono (by omega))).cell (p:=⟨w.heap.size,0,none⟩) (show w.heap.size<z1.heap.size by omega)).trans hbv1,((hb13.trans (hW.mono (by omega))).cell (p:=⟨w.heap.size,1,none⟩) (show w.heap.size<z1.heap.size by omega)).trans hbv2⟩⟩))
  have HBZ:Hid (Below w.heap.size w z3):=Lib.hid ((HB7.out.trans (hk1.below HB7.out.size fun b hb h=>by have:=HA3.out _ h;omega)).trans (hb13.mono (by omega)))
  have HIZ:=Lib.hid (fun W (hW:Below z3.heap.size z3 W)=>(hi1.below hb13).below hW)
  have HZ2:=Lib.hid hz2
  have HZ3:=Lib.hid hz3
  have HS2:=Lib.hid hs2
  clear hi1 hk1 hz2 hz3 hb2 hb3 hs3 hq2 hq3 hnA hbv1 hbv2 hb13 HCL HB7 HBV7 HA3 HA4 HS0 hs2 hs00 h71
  unfold zero8 at HZ2
  go_wp2_with (first | (rw [HZ2.out]) | (rw [HZ3.out]))
  have HW0:=Lib.hid (Below.refl z3.heap.size z3)
  go_loopw [15] (fun iv wr=>∃ i:Nat,i≤2∧iv=.int .i64 i∧Hid (Below z3.heap.size z3 wr)) (fun iv _=>2 - (intOf iv).toNat)
  case atStart=>exact ⟨0,by omega,rfl,HW0⟩
  case round =>
   obtain ⟨i,hi,rfl,HWR⟩:=hrel
   clear HW0
   by_cases hlt:i<2
   ·have hP0:∃ p:Option Addr,∀ W,Below z3.heap.size z3 W→NobP W p∧W.cell? ⟨z2.heap.size,i,none⟩=some (.pointer p)∧W.cell? ⟨w.heap.size,0,none⟩=some (.int .i64 sq0)∧W.cell? ⟨w.heap.size,1,none⟩=some (.slice pb es0.length cb):=by
     rcases (by omega:i=0∨i=1) with rfl | rfl
     ·exact ⟨none,fun W hW=>⟨(HNB.out W hW).1.1,(HNB.out W hW).2.1.1,(HNB.out W hW).2.2⟩⟩
     ·exact ⟨some ⟨z1.heap.size,0,none⟩,fun W hW=>⟨(HNB.out W hW).1.2,(HNB.out W hW).2.1.2,(HNB.out W hW).2.2⟩⟩
    obtain ⟨p0,hP⟩:=hP0
    have HP:=Lib.hid hP
    have q1:decide ((i:Int)<2)=true:=by rw [decide_eq_true_eq];omega
    have q2:decide (i<2)=true:=by rw [decide_eq_true_eq];exact hlt
    have q3:(i:Int)<2:=by omega
    have c0:=(hP wr HWR.out).2.1
    have HT1:=Lib.hid (show Calls Tryz.prog _ _ wr fun e w'=>e=.returned (.tuple #[.int .i64 0,.int .i64 0,.bool false])∧Below wr.heap.size wr w' from times_any (HP.out wr HWR.out).1.pcell)
    clear hP
    go_wp2_with fail
    refine HT1.out.mono ?_
    rintro e r1 ⟨rfl,hb⟩
    have HR1:=Lib.hid (grow HWR.out hb)
    clear hb HT1 c0
    have c0:=(HP.out r1 HR1.out).2.1
    have HT2:=Lib.hid (show Calls Tryz.prog _ _ r1 fun e w'=>e=.returned (.tuple #[.int .i64 0,.int .i64 0])∧Below r1.heap.size r1 w' from seqs_any (HP.out r1 HR1.out).1.pcell)
    go_wp2_with fail
    refine HT2.out.mono ?_
    rintro e r2 ⟨rfl,hb⟩
    have HR2:=Lib.hid (grow HR1.out hb)
    clear hb HT2 c0
    have c0:=(HP.out r2 HR2.out).2.1
    have HT3:=Lib.hid (doc_nob (HP.out r2 HR2.out).1 0)
    go_wp2_with fail
    refine HT3.out.mono ?_
    rintro e r3 ⟨u3,rfl,hu3,hb⟩
    obtain ⟨pu3,cu3,rfl,_⟩:=hu3.shape
    obtain ⟨r4,hr4⟩:∃ r4,r3.alloc (.cells #[.int .i64 noDoc.1,.int .i64 noDoc.2.1,.slice pu3 noDoc.2.2.length cu3] 67)=r4:=⟨_,rfl⟩
    have hb4:Below r3.heap.size r3 r4:=by rw [← hr4];exact (Below.refl _ _).alloc (Nat.le_refl _) _
    have HR4:=Lib.hid (grow (grow HR2.out hb) hb4)
    have HWr4:=Lib.hid hr4
    clear hb hb4 hr4 hu3 HT3 c0
    have c0:=(HP.out r4 HR4.out).2.1
    obtain ⟨b0,b1⟩:=(HP.out r4 HR4.out).2.2
    have HT4:=Lib.hid (clear_nob (HP.out r4 HR4.out).1)
    go_wp2_with (rw [HWr4.out])
    refine HT4.out.mono ?_
    rintro e r4' ⟨rfl,rfl⟩
    obtain ⟨rd,hrd⟩:∃ rd,r4.drew=rd:=⟨_,rfl⟩
    have hbrd:Below r4.heap.size r4 rd:=by rw [← hrd];exact (Below.refl _ _).drew
    have HY0:=Lib.hid (grow HR4.out hbrd)
    have HRD:=Lib.hid hrd
    have hmx:Tryz.prog.follows .mixedOrders=true:=by kernel_rfl
    clear HT4 c0 b0 b1 hrd hbrd
    go_wp2_with fail
    refine RG.begin_ [(0,true),(1,true),(2,true),(3,true),(4,true),(5,false),(6,true),(7,true),(8,true),(9,true),(10,true),(11,true),(13,true),(14,true),(15,true),(16,true),(19,true),(20,true),(21,true),(22,true),(26,true),(27,true),(28,true),(29,true),(33,true),(34,true),(35,true),(36,true),(37,true),(42,true),(43,true),(44,true),(45,true),(49,true),(51,true),(12,false),(17,false),(18,true),(23,false),(24,true),(25,true),(30,false),(31,true),(32,true),(38,false),(39,false),(40,true),(41,true),(46,false),(47,true),(48,true),(50,true),(52,true),(53,true),(54,true),(55,true),(56,true),(57,true),(58,true),(59,true),(60,true),(61,true),(62,true),(63,true),(64,true),(65,true),(66,true),(67,false),(68,true),(69,true)] hmx (by kernel_rfl) rfl (by kernel_rfl) (fun _ _ d _ _ h=>by cases d<;>exact h) ?_
    simp only [RG.ordered,List.map_cons,List.map_nil,List.getElem?_toArray,List.getElem?_cons_succ,List.getElem?_cons_zero]
    rw [HRD.out]
    repeat (refine RG.take (by rfl) (by intro W hW;obtain ⟨_,c0,b0,b1⟩:=HP.out W (grow HY0.out hW);go_simp;with_reducible rfl) ?_;simp only [Act.put,List.setIfInBounds_toArray,List.set_cons_zero,List.set_cons_succ])
    refine RG.alone (by rfl) (fun K hK => ?_)
    go_simp
    refine (add_nob (HP.out rd HY0.out).1 sq0 (.slice pb es0.length cb)).mono ?_
    rintro e y1 ⟨rfl,b⟩
    go_simp
    refine hK.out _ _ b ?_
    clear hK K
    have HY1:=Lib.hid (grow HY0.out b)
    clear b
    repeat (refine RG.take (by rfl) (by intro W hW;obtain ⟨_,c0,b0,b1⟩:=HP.out W (grow HY1.out hW);go_simp;with_reducible rfl) ?_;simp only [Act.put,List.setIfInBounds_toArray,List.set_cons_zero,List.set_cons_succ])
    refine RG.alone (by rfl) (fun K hK => ?_)
    go_simp
    refine ((show Calls Tryz.prog _ _ y1 (IntLeft 0 y1) from len_any (HP.out y1 HY1.out).1.pcell)).mono ?_
    rintro e y2 ⟨rfl,b⟩
    go_simp
    refine hK.out _ _ b ?_
    clear hK K
    have HY2:=Lib.hid (grow HY1.out b)
    clear b
    refine RG.alone (by rfl) (fun K hK => ?_)
    go_simp
    refine ((show Calls Tryz.prog _ _ y2 (IntLeft 0 y2) from size_any (HP.out y2 HY2.out).1.pcell)).mono ?_
    rintro e y3 ⟨rfl,b⟩
    go_simp
    refine hK.out _ _ b ?_
    clear hK K
    have HY3:=Lib.hid (grow HY2.out b)
    clear b
    repeat (refine RG.take (by rfl) (by intro W hW;go_simp;with_reducible rfl) ?_;simp only [Act.put,List.setIfInBounds_toArray,List.set_cons_zero,List.set_cons_succ])
    refine RG.alone (by rfl) (fun K hK => ?_)
    go_simp
    refine (docs_p (HP.out y3 HY3.out).1.pcell (ROn.nil_ _ _) ⟨by simp,fun d h=>by cases h⟩).mono ?_
    rintro e y4 ⟨⟨u4,rfl,hu4⟩,b⟩
    obtain ⟨p4,k4,rfl,_⟩:=hu4.shape
    clear hu4
    go_simp
    refine hK.out _ _ b ?_
    clear hK K
    have HY4:=Lib.hid (grow HY3.out b)
    clear b
    repeat (refine RG.take (by rfl) (by intro W hW;go_simp;with_reducible rfl) ?_;simp only [Act.put,List.setIfInBounds_toArray,List.set_cons_zero,List.set_cons_succ])
    refine RG.alone (by rfl) (fun K hK => ?_)
    go_simp
    refine (terms_nob (HP.out y4 HY4.out).1).mono ?_
    rintro e y5 ⟨u5,rfl,hu5,b⟩
    obtain ⟨p5,k5,rfl,_⟩:=hu5.shape
    clear hu5
    go_simp
    refine hK.out _ _ b ?_
    clear hK K
    have HY5:=Lib.hid (grow HY4.out b)
    clear b
    repeat (refine RG.take (by rfl) (by intro W hW;go_simp;with_reducible rfl) ?_;simp only [Act.put,List.setIfInBounds_toArray,List.set_cons_zero,List.set_cons_succ])
    refine RG.alone (by rfl) (fun K hK => ?_)
    go_simp
    refine (HSH.out y5).mono ?_
    rintro e y6 ⟨rfl,rfl⟩
    go_simp
    refine hK.out _ _ (Below.refl _ _) ?_
    clear hK K
    refine RG.alone (by rfl) (fun K hK => ?_)
    go_simp
    refine (posts_nob (HP.out y5 HY5.out).1 s (by unfold maxLen;omega)).mono ?_
    rintro e y7 ⟨⟨u7,rfl,hu7⟩,b⟩
    obtain ⟨p7,k7,rfl,_⟩:=hu7.shape
    clear hu7
    go_simp
    refine hK.out _ _ b ?_
    clear hK K
    have HY7:=Lib.hid (grow HY5.out b)
    clear b
    repeat (refine RG.take (by rfl) (by intro W hW;go_simp;with_reducible rfl) ?_;simp only [Act.put,List.setIfInBounds_toArray,List.set_cons_zero,List.set_cons_succ])
    refine RG.alone (by rfl) (fun K hK => ?_)
    go_simp
    refine (prefix_nob (HP.out y7 HY7.out).1 []).mono ?_
    rintro e y8 ⟨⟨u8,rfl,hu8⟩,b⟩
    obtain ⟨p8',k8,rfl,_⟩:=hu8.shape
    clear hu8
    go_simp
    refine hK.out _ _ b ?_
    clear hK K
    have HY8:=Lib.hid (grow HY7.out b)
    clear b
    repeat (refine RG.take (by rfl) (by intro W hW;obtain ⟨_,c0,b0,b1⟩:=HP.out W (grow HY8.out hW);go_simp;with_reducible rfl) ?_;simp only [Act.put,List.setIfInBounds_toArray,List.set_cons_zero,List.set_cons_succ])
    refine RG.alone (by rfl) (fun K hK => ?_)
    go_simp
    refine (fork_nob (HP.out y8 HY8.out).1).mono ?_
    rintro e y9 ⟨rfl,rfl⟩
    go_simp
    refine hK.out _ _ (Below.refl _ _) ?_
    clear hK K
    repeat (refine RG.take (by rfl) (by intro W hW;go_simp;with_reducible rfl) ?_;simp only [Act.put,List.setIfInBounds_toArray,List.set_cons_zero,List.set_cons_succ])
    refine RG.done ?_
    go_wp2_with fail
    go_roundw
    case rel=>exact ⟨i+1,by omega,by go_num,HY8⟩
    case measure=>simp [intOf];omega
   ·obtain rfl:i=2:=by omega
    clear hlt
    have HC1:=Lib.hid (show Calls Tryz.prog _ _ wr (IntLeft 0 wr) from len_idx (HIZ.out wr HWR.out))
    go_wp2_with fail
    refine HC1.out.mono ?_
    rintro e y1 ⟨rfl,b⟩
    have HY1:=Lib.hid (grow HWR.out b)
    clear b HC1
    have HC2:=Lib.hid (show Calls Tryz.prog _ _ y1 (IntLeft 0 y1) from size_idx (HIZ.out y1 HY1.out))
    go_wp2_with fail
    refine HC2.out.mono ?_
    rintro e y2 ⟨rfl,b⟩
    have HY2:=Lib.hid (grow HY1.out b)
    clear b HC2
    have HC3:=Lib.hid (show Calls Tryz.prog _ _ y2 (TxtD' [] y2) from terms_idx (HIZ.out y2 HY2.out))
    go_wp2_with fail
    refine HC3.out.mono ?_
    rintro e y3 ⟨u5,rfl,hu5,b⟩
    obtain ⟨p5,k5,rfl,_⟩:=hu5.shape
    clear hu5
    have HY3:=Lib.hid (grow HY2.out b)
    clear b HC3
    have HC4:=Lib.hid (show Calls Tryz.prog _ _ y3 (PostsBack [] y3) from prefix_idx (HIZ.out y3 HY3.out) [])
    go_wp2_with fail
    refine HC4.out.mono ?_
    rintro e y4 ⟨⟨u7,rfl,hu7⟩,b⟩
    obtain ⟨p7,k7,rfl,_⟩:=hu7.shape
    clear hu7
    have HY4:=Lib.hid (grow HY3.out b)
    clear b HC4
    have HC5:=Lib.hid (awake_any y4)
    go_wp2_with fail
    refine HC5.out.mono ?_
    rintro e y5 ⟨rfl,b⟩
    have HY5:=Lib.hid (grow HY4.out b)
    clear b HC5
    have HEND:=Lib.hid (HBZ.out.trans (HY5.out.mono HBZ.out.size))
    go_wp2_with fail
    go_ret
    exact ⟨rfl,HEND.out⟩
 ·have HAW:=Lib.hid (awake_any w3)
  have HB3':=HB3
  clear hks hkn hb3 HF2 HBS
  cases ok<;>cases is
  case true.true=>exact absurd ⟨rfl,rfl⟩ hoi
  all_goals
   clear hoi
   go_wp2_with fail
   refine HAW.out.mono ?_
   rintro e w9 ⟨rfl,hb9⟩
   have HB9:=Lib.hid (grow HB0.out (grow HB3'.out hb9))
   clear hb9
   go_wp2_with fail
   go_ret
   exact ⟨rfl,HB9.out⟩
theorem forks_walk (v:Value) (bs0:List Bat) (cs:Array Value) (e:Bat) (s0:ByteArray) (w:World) (hv:RAny batC w v bs0) (he:batC.on (fun _=>True) w cs.toList e) (hs0:s0.size≤maxLen):Calls Tryz.prog 4 #[v,.agg cs,.string s0] w (Held4 w):=by
 obtain ⟨sq,es⟩:=e
 obtain ⟨u,hcs,hu⟩:=bat_on.1 he
 have hc:cs=#[.int .i64 sq,u]:=by
  rw [← Array.toArray_toList (xs:=cs),hcs]
 subst hc
 have h:=forks_call v bs0 sq u es s0.data.toList w hv hu (by rw [Array.length_toList];exact hs0)
 rw [Array.toArray_toList] at h
 exact h
end Go.Proofs.YtidhgicajlaafaaGreat.MX
