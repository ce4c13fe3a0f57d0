import Derived.Test.YtidhgicajlaafaaGreatZD39
import Derived.Test.YtidhgicajlaafaaGreatZD41
set_option maxRecDepth 100000
set_option maxHeartbeats 8000000
set_option linter.unusedVariables false
set_option linter.unusedSimpArgs false
namespace Go.Proofs.YtidhgicajlaafaaGreat.MX
open Go Go.RowKit MM EM SM
open EV (docC fldC doc_at doc_on)
open RM (rowsE)
theorem big_wide {l:List Doc} (h:BigM l):Wide l:=⟨h.1,fun d hd=>Nat.le_trans (h.2 d hd).2.2.2.1 (by decide)⟩
def DocsBack (l:List Doc) (w:World) (e:Ending) (w':World):Prop:=(∃ u,e=.returned u∧ROn docC (fun b=>w.heap.size≤b) w' u l)∧Below w.heap.size w w'
theorem docs_p {w:World} {p:Option Addr} {l:List Doc} {dp:Option Addr} {dn dc:Nat} {mp:Option Nat} (h:PCell w p l dp dn dc mp) (hr:RAny docC w (.slice dp dn dc) l) (hW:Wide l):Calls Tryz.prog 21 #[.pointer p] w (DocsBack l w):=by
 have HO:=Lib.hid (ornone_p h)
 have HR:=Lib.hid hr
 clear h hr
 go_enter Tryz.func21,Tryz.ntmps21
 go_wp2_with fail
 refine HO.out.mono ?_
 rintro e w1 ⟨rfl,hb⟩
 have HB:=Lib.hid hb
 have HC:=Lib.hid (copies_any (.slice dp dn dc) l w1 (HR.out.below hb) hW)
 unfold ixA
 have f1:=ix_f1 (.int .i64 (l.length:Int)) (.int .i64 (sizeM l:Int)) (.int .i64 (timesM l).1) (.int .i64 (timesM l).2.1) (.int .i64 (seqsM l).1) (.int .i64 (seqsM l).2) (.slice dp dn dc) (.map mp) w1
 clear hb HO
 go_wp2_with fail
 refine HC.out.mono ?_
 rintro e w2 ⟨⟨u,rfl,hu⟩,hb2⟩
 obtain ⟨pu,cu,rfl,_⟩:=hu.shape
 have HQ:=Lib.hid (show DocsBack l w (.returned (.slice pu l.length cu)) w2 from ⟨⟨_,rfl,hu.weak fun b _ h=>Nat.le_trans HB.out.size h⟩,HB.out.trans (hb2.mono HB.out.size)⟩)
 clear hu hb2 HC
 go_wp2_with fail
 go_ret
 exact HQ.out
def DocLeft (d:Doc) (z:Int) (w:World) (e:Ending) (w':World):Prop:=∃ u,e=.returned (.tuple #[.agg #[.int .i64 d.1,.int .i64 d.2.1,u],.int .i64 z])∧ROn fldC (fun b=>w.heap.size≤b) w' u d.2.2∧Below w.heap.size w w'
end Go.Proofs.YtidhgicajlaafaaGreat.MX
namespace Go.Proofs.YtidhgicajlaafaaGreat.MX
open Go Go.RowKit MM Go.Maps EM SM
open SG (PostD postC zeroPosts)
theorem look_none (s:List UInt8) (hs:s.length≤maxLen) (W:World):(Instr.lookup 58 (.map none) (.string ⟨s.toArray⟩) false).run Tryz.prog W=.ok (.slice none 0 0) W :=
 Maps.look_nil (w:=W) false strKeyed Tryz.underlying58 (zeroPosts W) (keyS s hs)
theorem posts_nob {w:World} {p:Option Addr} (h:NobP w p) (s:List UInt8) (hs:s.length≤maxLen):Calls Tryz.prog 9 #[.pointer p,.string ⟨s.toArray⟩] w (PostsBack [] w):=by
 have HO:=Lib.hid (ornone_nob h)
 have HC:=Lib.hid (fun W (hb:Below w.heap.size w W)=>rposts_at none (.slice none 0 0) s [] W (fun W2 _=>look_none s hs W2) (ROn.nil_ _ _) ⟨by simp,fun p hp=>by cases hp⟩)
 clear h hs
 go_enter Tryz.func9,Tryz.ntmps9
 go_wp2_with fail
 refine HO.out.mono ?_
 rintro e w1 ⟨rfl,hb⟩
 have HB:=Lib.hid hb
 have HC1:=Lib.hid (HC.out w1 hb)
 unfold zero8
 have f1:=ix_f2 (.int .i64 0) (.int .i64 0) (.int .i64 0) (.int .i64 0) (.int .i64 0) (.int .i64 0) (.slice none 0 0) (.map none) w1
 clear hb HO HC
 go_wp2_with fail
 refine HC1.out.mono ?_
 rintro e w2 ⟨⟨u,rfl,hu⟩,hb2⟩
 have HQ:=Lib.hid (show PostsBack [] w (.returned u) w2 from ⟨⟨_,rfl,hu.weak fun b _ h=>Nat.le_trans HB.out.size h⟩,HB.out.trans (hb2.mono HB.out.size)⟩)
 clear hu hb2 HC1
 go_wp2_with fail
 go_ret
 exact HQ.out
theorem fork_nob {w:World} {p:Option Addr} (h:NobP w p):Calls Tryz.prog 17 #[.pointer p] w fun e w'=>e=.returned (.pointer none)∧w=w':=by
 have HM:=Lib.hid (made_nob h)
 clear h
 go_enter Tryz.func17,Tryz.ntmps17
 go_wp2_with fail
 refine HM.out.mono ?_
 rintro e w9 ⟨rfl,rfl⟩
 go_wp2_with fail
 go_ret
 exact ⟨rfl,rfl⟩
theorem add_nob {w:World} {p:Option Addr} (h:NobP w p) (seq:Int) (bv:Value):Calls Tryz.prog 18 #[.pointer p,.agg #[.int .i64 seq,bv]] w fun e w'=>e=.returned (.int .i64 4)∧Below w.heap.size w w':=by
 obtain ⟨w1,hw1⟩:∃ w1,w.alloc (.cells #[.int .i64 seq,bv] 45)=w1:=⟨_,rfl⟩
 have hb1:Below w.heap.size w w1:=by rw [← hw1];exact (Below.refl _ _).alloc (Nat.le_refl _) _
 have hn1:NobP w1 p:=by
  rcases h with h | ⟨g,h1,h2⟩
  ·exact .inl h
  ·exact .inr ⟨g,h1,((kep_below (fun _=>True) hb1).block g (Array.getElem?_eq_some_iff.1 h2).1 trivial).trans h2⟩
 have HM:=Lib.hid (made_nob hn1)
 have HB1:=Lib.hid hb1
 have HW1:=Lib.hid hw1
 clear h hb1 hn1 hw1
 go_enter Tryz.func18,Tryz.ntmps18
 go_wp2_with (rw [HW1.out])
 refine HM.out.mono ?_
 rintro e w9 ⟨rfl,rfl⟩
 go_wp2_with fail
 go_ret
 exact ⟨rfl,HB1.out⟩
end Go.Proofs.YtidhgicajlaafaaGreat.MX
namespace Go.Proofs.YtidhgicajlaafaaGreat.MX
open Go Go.RowKit MM EM SM
open EV (docC evC ev_on fldC fld_on IntLeft)
open SG (PostD postC post_on)
open RM (rowsE)
theorem infoEv:(Tryz.prog.info? 51).map (·.size)=some 2:=by kernel_rfl
def WordLeft (s:List UInt8) (w:World) (e:Ending) (w':World):Prop:=∃ u,e=.returned (.agg #[.int .i64 0,u])∧ROn fldC (fun b=>w.heap.size≤b) w' u [([109,115,103],s)]∧Below w.heap.size w w'
theorem word_any (s:List UInt8) (w:World):Calls Tryz.prog 19 #[.string ⟨s.toArray⟩] w (WordLeft s w):=by
 obtain ⟨w1,hw1⟩:∃ w1,w.alloc (.cells #[.int .i64 0,.slice none 0 0] 51)=w1:=⟨_,rfl⟩
 obtain ⟨w2,hw2⟩:∃ w2,w1.alloc (.cells #[.string ⟨#[109,115,103]⟩,.string ⟨s.toArray⟩] 93)=w2:=⟨_,rfl⟩
 have hs1:w1.heap.size=w.heap.size+1:=by rw [← hw1];simp
 have hb1:Below w.heap.size w w1:=by rw [← hw1];exact (Below.refl _ _).alloc (Nat.le_refl _) _
 have hb2:Below w1.heap.size w1 w2:=by rw [← hw2];exact (Below.refl _ _).alloc (Nat.le_refl _) _
 have t1:Two w1 w.heap.size 51 (.int .i64 0) (.slice none 0 0):=by rw [← hw1];exact two_new w _ _ _
 have t2:Two w2 w.heap.size 51 (.int .i64 0) (.slice none 0 0):=t1.below hb2 (by omega)
 have hfl:ROn fldC (fun b=>w.heap.size<b) w2 (.slice (some ⟨w1.heap.size,0,none⟩) 1 1) [([109,115,103],s)]:=by
  rw [← hw2]
  exact ROn.weak (ron_lit (e:=93) (S:=fun _=>False) w1 [[.string ⟨#[109,115,103]⟩,.string ⟨s.toArray⟩]] [([109,115,103],s)] (by unfold maxLen;simp) (Mean.single (fld_on.2 rfl))) fun b _ h=>by
   rcases h with h | h
   ·exact h.elim
   ·omega
 have hall:=t2.all (.int .i64 0)
 obtain ⟨z0,z1⟩:w2.cell? ⟨w.heap.size,0,none⟩=some (.int .i64 0)∧w2.cell? ⟨w.heap.size,1,none⟩=some (.slice none 0 0):=⟨t2.c0,t2.c1⟩
 have f0:=t2.f0
 have f1:=t2.f1
 have HX:=Lib.hid (t2.s01 (.int .i64 0) (.slice (some ⟨w1.heap.size,0,none⟩) 1 1))
 have hk:=kep_set01 (w:=w2) (g:=w.heap.size) (.int .i64 0) (.slice (some ⟨w1.heap.size,0,none⟩) 1 1)
 have HQ:=Lib.hid (show WordLeft s w (.returned (.agg #[.int .i64 0,.slice (some ⟨w1.heap.size,0,none⟩) 1 1])) ((w2.setCell ⟨w.heap.size,0,none⟩ (.int .i64 0)).setCell ⟨w.heap.size,1,none⟩ (.slice (some ⟨w1.heap.size,0,none⟩) 1 1)) from
  ⟨_,rfl,ROn.weak (ROn.keep hfl (hk.mono fun b hb=>by omega) fun _ _ h=>h) fun b _ h=>Nat.le_of_lt h,(hb1.trans (hb2.mono (by omega))).trans (hk.below (by have:=hb2.size;omega) fun k hk=>by omega)⟩)
 have HW1:=Lib.hid hw1
 have HW2:=Lib.hid hw2
 clear hw1 hw2 hs1 hb1 hb2 t1 t2 hfl hk
 go_enter Tryz.func19,Tryz.ntmps19
 go_wp2_with (first | (rw [HW1.out]) | (rw [HW2.out]))
 refine bodyPost_ret (results_box1 (p:=2) rfl Tryz.underlying51 rfl infoEv _ _ w.heap.size _ _ rfl HX.out) rfl HQ.out
def exE:List Ev:=[(0,[([109,115,103],[97,32,98])]),(0,[([109,115,103],[98])])]
def exD:List Doc:=docsM (1,exE)
theorem ex_add:addM [] (1,exE)=(exD,0):=by
 have hc:checkB (1,exE)=0:=by decide +kernel
 rw [addM_ok hc,if_neg (by simp),if_neg (by simp [exE]),List.nil_append]
 rfl
theorem ex_posts:posOf (rowsE (evM exD)) [109,115,103,58,98]=[(0,[1]),(1,[0])]:=by decide +kernel
theorem ex_size:sizeM exD=42:=by decide +kernel
theorem ex_len:exD.length=2:=by decide +kernel
theorem awake_any (w:World):Calls Tryz.prog 6 #[] w fun e w'=>e=.returned (.bool true)∧Below w.heap.size w w':=by
 have HN:=Lib.hid (new_any w)
 have hep:=fun (W:World) (g:Nat)=>(rfl:W=W)
 clear hep
 go_enter Tryz.func6,Tryz.ntmps6
 go_wp2_with fail
 refine HN.out.mono ?_
 rintro e w1 ⟨g,rfl,hi1,hg1,hb1⟩
 have HI1:=Lib.hid hi1
 have HB1:=Lib.hid hb1
 have HWA:=Lib.hid (word_any [97,32,98] w1)
 clear hi1 hb1 HN
 go_wp2_with fail
 refine HWA.out.mono ?_
 rintro e w2 ⟨u2,rfl,hu2,hb2⟩
 obtain ⟨p2,c2,rfl,_⟩:=hu2.shape
 have HU2:=Lib.hid hu2
 have HB2:=Lib.hid hb2
 have HWB:=Lib.hid (word_any [98] w2)
 clear hu2 hb2 HWA
 go_wp2_with fail
 refine HWB.out.mono ?_
 rintro e w3 ⟨u3,rfl,hu3,hb3⟩
 obtain ⟨p3,c3,rfl,_⟩:=hu3.shape
 have hb13:Below w1.heap.size w1 w3:=HB2.out.trans (hb3.mono HB2.out.size)
 have hu2':ROn fldC (fun b=>w1.heap.size≤b) w3 (.slice p2 1 c2) [([109,115,103],[97,32,98])]:=ROn.keep HU2.out (kep_below _ hb3) fun _ _ h=>h
 have hu3':ROn fldC (fun b=>w1.heap.size≤b) w3 (.slice p3 1 c3) [([109,115,103],[98])]:=hu3.weak fun b _ h=>Nat.le_trans HB2.out.size h
 obtain ⟨w4,hw4⟩:∃ w4,w3.alloc (.cells #[.int .i64 0,.slice p2 1 c2,.int .i64 0,.slice p3 1 c3] 51)=w4:=⟨_,rfl⟩
 have hb4:Below w3.heap.size w3 w4:=by rw [← hw4];exact (Below.refl _ _).alloc (Nat.le_refl _) _
 have hev:ROn evC (fun b=>w1.heap.size≤b) w4 (.slice (some ⟨w3.heap.size,0,none⟩) 2 2) exE:=by
  rw [← hw4]
  refine ROn.weak (ron_lit (e:=51) (S:=fun b=>w1.heap.size≤b) w3 [[.int .i64 0,.slice p2 1 c2],[.int .i64 0,.slice p3 1 c3]] exE (by unfold maxLen;simp [exE]) ?_) fun b _ h => ?_
  ·exact Mean.append (Mean.single (ev_on.2 ⟨_,rfl,hu2'⟩)) (Mean.single (ev_on.2 ⟨_,rfl,hu3'⟩))
  ·rcases h with h | h
   ·exact h
   ·have:=hb13.size;omega
 have hb14:=hb13.trans (hb4.mono hb13.size)
 have hi4:=HI1.out.below hb14
 have HA:=Lib.hid (add_idx _ g [] 1 _ exE w4 hi4 (hev.weak fun b _ h hA=>by have:b<w1.heap.size:=hA.2;omega))
 have HB4:=Lib.hid (HB1.out.trans (hb14.mono HB1.out.size))
 have HW4:=Lib.hid hw4
 have HG1:=Lib.hid hg1
 clear hu3 hb3 hu2' hu3' hw4 hb4 hev hb14 hb13 hi4 HU2 HB2 HWB hg1
 go_wp2_with (rw [HW4.out])
 refine HA.out.mono ?_
 rintro e w5 ⟨rfl,hi5,hk5⟩
 rw [ex_add] at hi5 ⊢
 have hb5:Below w.heap.size w w5:=HB4.out.trans (hk5.below HB4.out.size fun k hk h=>by have:w.heap.size≤k:=h.1;omega)
 have HI5:=Lib.hid hi5
 have HB5:=Lib.hid hb5
 have HP:=Lib.hid (posts_idx hi5 [109,115,103,58,98] (by unfold maxLen;simp))
 rw [ex_posts] at HP
 clear hi5 hk5 hb5 HA HB4 HW4 HI1 HB1
 go_wp2_with fail
 refine HP.out.mono ?_
 rintro e w6 ⟨⟨u6,rfl,hu6⟩,hb6⟩
 obtain ⟨p6,c6,rfl,_⟩:=hu6.shape
 obtain ⟨w7,hw7⟩:∃ w7,w6.alloc (.cells #[.int .i64 1] 3)=w7:=⟨_,rfl⟩
 obtain ⟨w8,hw8⟩:∃ w8,w7.alloc (.cells #[.int .i64 0] 3)=w8:=⟨_,rfl⟩
 obtain ⟨w9,hw9⟩:∃ w9,w8.alloc (.cells #[.int .i64 0,.slice (some ⟨w6.heap.size,0,none⟩) 1 1,.int .i64 1,.slice (some ⟨w7.heap.size,0,none⟩) 1 1] 75)=w9:=⟨_,rfl⟩
 have hb7:Below w6.heap.size w6 w7:=by rw [← hw7];exact (Below.refl _ _).alloc (Nat.le_refl _) _
 have hb8:Below w7.heap.size w7 w8:=by rw [← hw8];exact (Below.refl _ _).alloc (Nat.le_refl _) _
 have hb9:Below w8.heap.size w8 w9:=by rw [← hw9];exact (Below.refl _ _).alloc (Nat.le_refl _) _
 have hz7:RAny cInt w7 (.slice (some ⟨w6.heap.size,0,none⟩) 1 1) [1]:=by rw [← hw7];exact EV.ints_lit w6 [1] (by unfold maxLen;simp)
 have hz8:RAny cInt w8 (.slice (some ⟨w7.heap.size,0,none⟩) 1 1) [0]:=by rw [← hw8];exact EV.ints_lit w7 [0] (by unfold maxLen;simp)
 have hps:RAny postC w9 (.slice (some ⟨w8.heap.size,0,none⟩) 2 2) [(0,[1]),(1,[0])]:=by
  rw [← hw9]
  exact ROn.any (ron_lit (e:=75) (S:=fun _=>True) w8 [[.int .i64 0,.slice (some ⟨w6.heap.size,0,none⟩) 1 1],[.int .i64 1,.slice (some ⟨w7.heap.size,0,none⟩) 1 1]] [(0,[1]),(1,[0])] (by unfold maxLen;simp)
   (Mean.append (C:=postC) (es:=[(0,[1])]) (bs:=[(1,[0])]) (Mean.single ((post_on (p:=((0:Int),[(1:Int)]))).2 ⟨_,rfl,hz7.below hb8⟩)) (Mean.single ((post_on (p:=((1:Int),[(0:Int)]))).2 ⟨_,rfl,hz8⟩))))
 have hb69:Below w6.heap.size w6 w9:=(hb7.trans (hb8.mono hb7.size)).trans (hb9.mono (Nat.le_trans hb7.size hb8.size))
 have HS:=Lib.hid (PW.rsame_any _ _ _ _ w9 (SG.ron_pon (hu6.any.below hb69)).row (SG.ron_pon hps).row)
 rw [decide_eq_true rfl] at HS
 have hi9:=(HI5.out.below hb6).below hb69
 have HI9:=Lib.hid hi9
 have HB9:=Lib.hid (HB5.out.trans ((hb6.trans (hb69.mono hb6.size)).mono HB5.out.size))
 have HW7:=Lib.hid hw7
 have HW8:=Lib.hid hw8
 have HW9:=Lib.hid hw9
 clear hu6 hb6 hw7 hw8 hw9 hb7 hb8 hb9 hz7 hz8 hps hb69 hi9 HP HI5 HB5
 go_wp2_with (first | (rw [HW7.out]) | (rw [HW8.out]) | (rw [HW9.out]))
 refine HS.out.mono ?_
 rintro e wa ⟨rfl,hba⟩
 have hia:=HI9.out.below hba
 obtain ⟨dp,dc,mb,X,F,hp,_,_⟩:=hia.cellp
 have HL:=Lib.hid (len_any hp)
 rw [show ((exD.length:Nat):Int)=2 by rw [ex_len];rfl] at HL
 have HIA:=Lib.hid hia
 have HBA:=Lib.hid (HB9.out.trans (hba.mono HB9.out.size))
 clear hia hba hp HS HB9 HI9 HW7 HW8 HW9
 go_wp2_with fail
 refine HL.out.mono ?_
 rintro e wb ⟨rfl,hbb⟩
 have hib:=HIA.out.below hbb
 obtain ⟨dp2,dc2,mb2,X2,F2,hp,_,_⟩:=hib.cellp
 have HZ:=Lib.hid (size_any hp)
 rw [show ((sizeM exD:Nat):Int)=42 by rw [ex_size];rfl] at HZ
 have HBB:=Lib.hid (HBA.out.trans (hbb.mono HBA.out.size))
 clear hib hbb hp HL HBA HIA
 go_wp2_with fail
 refine HZ.out.mono ?_
 rintro e wc ⟨rfl,hbc⟩
 have HBC:=Lib.hid (HBB.out.trans (hbc.mono HBB.out.size))
 clear hbc HZ HBB
 go_wp2_with fail
 go_ret
 exact ⟨rfl,HBC.out⟩
end Go.Proofs.YtidhgicajlaafaaGreat.MX
namespace Go.Proofs.YtidhgicajlaafaaGreat.MX
open Go Go.RowKit MM EM SM
open EV (docC)
theorem doc_nob {w:World} {p:Option Addr} (h:NobP w p) (i:Int):Calls Tryz.prog 25 #[.pointer p,.int .i64 i] w (DocLeft noDoc 4 w):=by
 have hb0:Below w.heap.size w (w.alloc (.cells #[.int .i64 0,.int .i64 0,.slice none 0 0] 67)):=(Below.refl _ _).alloc (Nat.le_refl _) _
 obtain ⟨w0,hw0⟩:∃ w0,w.alloc (.cells #[.int .i64 0,.int .i64 0,.slice none 0 0] 67)=w0:=⟨_,rfl⟩
 have t0:=three_new w 67 (.int .i64 0) (.int .i64 0) (.slice none 0 0)
 rw [hw0] at hb0 t0
 have hn1:NobP w0 p:=by
  rcases h with h | ⟨g,h1,h2⟩
  ·exact .inl h
  ·exact .inr ⟨g,h1,((kep_below (fun _=>True) hb0).block g (Array.getElem?_eq_some_iff.1 h2).1 trivial).trans h2⟩
 have HM:=Lib.hid (made_nob hn1)
 have hk5:Kep (fun b=>b≠w.heap.size) w0 (set3 w0 w.heap.size (.int .i64 0) (.int .i64 0) (.slice none 0 0)):=kep_set3 _ _ _
 have HQ:Hid (DocLeft noDoc 4 w (.returned (.tuple #[.agg #[.int .i64 0,.int .i64 0,.slice none 0 0],.int .i64 4])) (set3 w0 w.heap.size (.int .i64 0) (.int .i64 0) (.slice none 0 0))):=Lib.hid ⟨_,rfl,ROn.nil_ _ _,hb0.trans (hk5.below hb0.size fun k hk=>by omega)⟩
 have HX:=Lib.hid (t0.set (.int .i64 0) (.int .i64 0) (.slice none 0 0))
 obtain ⟨z0,z1,z2⟩:=t0.cells
 obtain ⟨m1,m2,m3,⟨k1,k2⟩,k3,k4⟩:=t0.all (.int .i64 0) (.int .i64 0)
 have HW0:=Lib.hid hw0
 clear h hw0 hb0 t0 hk5 hn1
 go_enter Tryz.func25,Tryz.ntmps25
 go_wp2_with (rw [HW0.out])
 refine HM.out.mono ?_
 rintro e w1 ⟨rfl,rfl⟩
 go_wp2_with fail
 refine bodyPost_ret (results_three2 (p:=4) (u:=5) rfl Tryz.underlying67 rfl infoDoc3 _ _ w.heap.size _ _ _ rfl HX.out) rfl HQ.out
end Go.Proofs.YtidhgicajlaafaaGreat.MX
namespace Go.Proofs.YtidhgicajlaafaaGreat.MX
open Go Go.RowKit MM EM SM
open EV (docC fldC doc_at IntLeft)
section
variable {A : Nat → Prop} {w : World} {g : Nat} {l : List Doc}
theorem len_idx (h:Idx A w g l):Calls Tryz.prog 26 #[.pointer (some ⟨g,0,none⟩)] w (IntLeft (l.length:Int) w):=by obtain ⟨_,_,_,_,_,hp,_⟩:=h.cellp;exact len_any hp
theorem size_idx (h:Idx A w g l):Calls Tryz.prog 27 #[.pointer (some ⟨g,0,none⟩)] w (IntLeft (sizeM l:Int) w):=by obtain ⟨_,_,_,_,_,hp,_⟩:=h.cellp;exact size_any hp
theorem docs_idx (h:Idx A w g l):Calls Tryz.prog 21 #[.pointer (some ⟨g,0,none⟩)] w (DocsBack l w):=by obtain ⟨_,_,_,_,_,hp,hr,_⟩:=h.cellp;exact docs_p hp hr.any (big_wide h.big)
end
end Go.Proofs.YtidhgicajlaafaaGreat.MX
