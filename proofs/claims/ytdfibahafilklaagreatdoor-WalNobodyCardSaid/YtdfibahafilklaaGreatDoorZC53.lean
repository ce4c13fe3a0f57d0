import Derived.Test.YtdfibahafilklaaGreatDoorZC51
import Derived.Test.YtdfibahafilklaaGreatDoorZC52
set_option maxRecDepth 100000
set_option maxHeartbeats 8000000
set_option linter.unusedVariables false
set_option linter.unusedSimpArgs false
namespace Go.Proofs.YtdfibahafilklaaGreatDoor.WL
open Go Go.RowKit MM EM WM DK BR
open EV (batC bat_on evC ev_on)
theorem name_seven:nameI 7=([108,111,103,45,48,48,48,48,48,48,48,55],0):=by decide +kernel
theorem nameW_seven:nameW 7=[108,111,103,45,48,48,48,48,48,48,48,55]:=by decide +kernel
theorem two_lit {w:World} {u v:Value} {S:Nat→Prop} {a b:Int} (hu:ROn evC S w u [oneE]) (hv:ROn evC S w v [oneE]) :
  RAny batC (w.alloc (.cells #[.int .i64 a,u,.int .i64 b,v] 82)) (.slice (some ⟨w.heap.size,0,none⟩) 2 2) [oneB a,oneB b]:=by
 have hm:=(Mean.single (C:=batC) (S:=S) (w:=w) (vs:=[.int .i64 a,u]) (a:=oneB a) (bat_on.2 ⟨_,rfl,hu⟩)).append (Mean.single (C:=batC) (S:=S) (w:=w) (vs:=[.int .i64 b,v]) (a:=oneB b) (bat_on.2 ⟨_,rfl,hv⟩))
 exact ROn.weak (ron_lit (e:=82) w _ _ (by unfold maxLen;simp) hm) fun _ _ _=>trivial
theorem awake_any (w:World) (hT:TabsW w):Calls Tryz.prog 12 #[] w fun e w'=>e=.returned (.bool true)∧Below w.heap.size w w':=by
 have HN:=Lib.hid (name_any 7 w hT)
 have HNB:=Lib.hid (fun W h=>number_any (nameW 7) W (by rw [nameW_len];omega) h)
 unfold NameLeft at HN
 unfold NumLeft numT at HNB
 rw [name_seven] at HN
 rw [numberW_name (by omega),nameW_seven] at HNB
 dsimp only at HN
 have HT:=Lib.hid hT
 have hlow:=hT.low
 have HLOW:=Lib.hid hlow
 clear hT hlow
 go_enter Tryz.func12,Tryz.ntmps12
 go_wp2_with fail
 refine HN.out.mono ?_
 rintro e w1 ⟨rfl,hb1⟩
 have HT1:=Lib.hid (HT.out.below hb1)
 have HB1:=Lib.hid hb1
 clear hb1 HN HT
 go_wp2_with fail
 refine (HNB.out w1 HT1.out).mono ?_
 rintro e w2 ⟨rfl,hb2⟩
 have HT2:=Lib.hid (HT1.out.below hb2)
 have HB2:=Lib.hid (HB1.out.trans (hb2.mono HB1.out.size))
 clear hb2 HNB HT1 HB1
 go_wp2_with fail
 refine (cnew_any 0 w2 (by omega)).mono ?_
 rintro e w3 ⟨S,g,mb,V,rfl,ho,hS,hb3⟩
 have HT3:=Lib.hid (HT2.out.below hb3)
 have HB3:=Lib.hid (HB2.out.trans (hb3.mono HB2.out.size))
 have HO3:=Lib.hid ho
 have HS:Hid (∀ k,S k→w.heap.size≤k):=Lib.hid (fun k hk=>Nat.le_trans HB2.out.size (hS k hk))
 have HF0:=Lib.hid (new_fits 0 (by omega) (by omega))
 clear hb3 ho hS HT2 HB2
 go_wp2_with fail
 refine (open_any HO3.out HF0.out 7 (by omega) HT3.out).mono ?_
 rintro e w4 ⟨gw,rfl,hgw,hwt,hb4⟩
 have HT4:=Lib.hid (HT3.out.below hb4)
 have HB4:=Lib.hid (HB3.out.trans (hb4.mono HB3.out.size))
 have HGS:Hid (¬ S gw):=Lib.hid (fun h=>by have:=HO3.out.lt gw h;omega)
 have HO4:=Lib.hid (HO3.out.below hb4)
 have HWT:=Lib.hid hwt
 clear hb4 hwt hgw HT3 HB3 HO3
 go_wp2_with fail
 refine (one_any 1 w4).mono ?_
 rintro e w5 ⟨u1,rfl,hu1,hb5⟩
 obtain ⟨p1,c1,rfl,_⟩:=hu1.shape
 have HU1:=Lib.hid hu1
 have HB5:=Lib.hid hb5
 clear hu1 hb5
 go_wp2_with fail
 refine (one_any 2 w5).mono ?_
 rintro e w6 ⟨u2,rfl,hu2,hb6⟩
 obtain ⟨p2,c2,rfl,_⟩:=hu2.shape
 obtain ⟨w7,hw7⟩:∃ w7,w6.alloc (.cells #[.int .i64 1,.slice p1 [oneE].length c1,.int .i64 2,.slice p2 [oneE].length c2] 82)=w7:=⟨_,rfl⟩
 have hb7:Below w6.heap.size w6 w7:=by rw [← hw7];exact (Below.refl _ _).alloc (Nat.le_refl _) _
 have hrow:RAny batC w7 (.slice (some ⟨w6.heap.size,0,none⟩) 2 2) exB:=by
  rw [← hw7]
  exact two_lit (S:=fun _=>True) (ROn.keep HU1.out (kep_below _ hb6) fun _ _ _=>trivial) (ROn.weak hu2 fun _ _ _=>trivial)
 have hb47:Below w4.heap.size w4 w7:=(HB5.out.trans (hb6.mono HB5.out.size)).trans (hb7.mono (Nat.le_trans HB5.out.size hb6.size))
 have HAP:=Lib.hid (wappend_any (HO4.out.below hb47) HF0.out gw 7 (HWT.out.below hb47 HWT.out.lt) HGS.out _ exB hrow (fun b hb e he=>by
  rcases List.mem_cons.1 hb with rfl | hb
  ·rw [List.mem_singleton.1 he];unfold FitE oneE;omega
  ·rw [List.mem_singleton.1 hb] at he;rw [List.mem_singleton.1 he];unfold FitE oneE;omega) (by decide))
 rw [ex_app] at HAP
 unfold DoneC at HAP
 have HB7:=Lib.hid hb47
 have HW7:=Lib.hid hw7
 have HT7:=Lib.hid (HT4.out.below hb47)
 clear hu2 hb6 hw7 hb7 hrow hb47 HU1 HB5 HO4 HF0 HT4
 rw [show [oneE].length=1 from rfl] at HW7
 go_wp2_with (rw [HW7.out])
 refine HAP.out.mono ?_
 rintro e w8 ⟨rfl,S',V',c',ho,hx⟩
 have HK8:=Lib.hid hx.kep
 have HS8:Hid (∀ k,S' k→w.heap.size≤k):=Lib.hid (fun k hk=>(hx.new k hk).elim (HS.out k) fun h=>by have:=HB7.out.size;have:=HB4.out.size;omega)
 have HB8:=Lib.hid ((HB4.out.trans (HB7.out.mono HB4.out.size)).trans (hx.kep.below (B:=w.heap.size) (by have:=HB7.out.size;have:=HB4.out.size;omega) fun k hk h=>by have:=HS.out k h;omega))
 have HT8:=Lib.hid (HT7.out.keep hx.kep (fun h=>by have:=HS.out _ h;have:=HLOW.out.1;omega) (fun h=>by have:=HS.out _ h;have:=HLOW.out.2.1;omega) (fun h=>by have:=HS.out _ h;have:=HLOW.out.2.2;omega))
 have HWT8:Hid (WrtAt w8 gw g 7):=Lib.hid ((HWT.out.below HB7.out HWT.out.lt).keep hx.kep HGS.out)
 have HO8:=Lib.hid ho
 clear ho hx HAP HW7 HT7 HK8 HB7 HB4 HWT HGS HS
 go_wp2_with fail
 refine (replay_any HO8.out ex_fits 0 1 HT8.out).mono ?_
 rintro e w9 ⟨v9,rfl,hbs,_,hb9⟩
 rw [ex_repl] at hbs
 rw [ex_logs]
 have HBS:=Lib.hid hbs.any
 have HWT9:Hid (WrtAt w9 gw g 7):=Lib.hid (HWT8.out.below hb9 HWT8.out.lt)
 have HO9:=Lib.hid (HO8.out.below hb9)
 have HB9:=Lib.hid (HB8.out.trans (hb9.mono HB8.out.size))
 obtain ⟨p9,c9,rfl,_⟩:=hbs.any.shape
 clear hbs hb9 HO8 HB8 HWT8 HT8
 have hl7:lastL [7]=7:=rfl
 rw [hl7]
 go_wp2_with fail
 refine (one_any 1 w9).mono ?_
 rintro e w10 ⟨u3,rfl,hu3,hb10⟩
 obtain ⟨p3,c3,rfl,_⟩:=hu3.shape
 have HU3:=Lib.hid hu3
 have HB10:=Lib.hid hb10
 clear hu3 hb10
 go_wp2_with fail
 refine (one_any 2 w10).mono ?_
 rintro e w11 ⟨u4,rfl,hu4,hb11⟩
 obtain ⟨p4,c4,rfl,_⟩:=hu4.shape
 obtain ⟨w12,hw12⟩:∃ w12,w11.alloc (.cells #[.int .i64 1,.slice p3 [oneE].length c3,.int .i64 2,.slice p4 [oneE].length c4] 82)=w12:=⟨_,rfl⟩
 have hb12:Below w11.heap.size w11 w12:=by rw [← hw12];exact (Below.refl _ _).alloc (Nat.le_refl _) _
 have hrow:RAny batC w12 (.slice (some ⟨w11.heap.size,0,none⟩) 2 2) exB:=by
  rw [← hw12]
  exact two_lit (S:=fun _=>True) (ROn.keep HU3.out (kep_below _ hb11) fun _ _ _=>trivial) (ROn.weak hu4 fun _ _ _=>trivial)
 have hb912:Below w9.heap.size w9 w12:=(HB10.out.trans (hb11.mono HB10.out.size)).trans (hb12.mono (Nat.le_trans HB10.out.size hb11.size))
 have HSM:=Lib.hid (rsame_any _ _ exB exB w12 (RAny.below HBS.out hb912) hrow)
 rw [sameB_iff.2 rfl] at HSM
 have HB12:=Lib.hid hb912
 have HW12:=Lib.hid hw12
 clear hu4 hb11 hw12 hb12 hrow hb912 HU3 HB10
 rw [show [oneE].length=1 from rfl] at HW12
 go_wp2_with (rw [HW12.out])
 refine HSM.out.mono ?_
 rintro e w13 ⟨rfl,hb13⟩
 have HB13:=Lib.hid (HB12.out.trans (hb13.mono HB12.out.size))
 have HWT13:Hid (WrtAt w13 gw g 7):=Lib.hid (HWT9.out.below HB13.out HWT9.out.lt)
 clear hb13 HSM HW12 HB12
 go_wp2_with fail
 refine (wnumber_any w13 gw g 7 HWT13.out).mono ?_
 rintro e w14 ⟨rfl,rfl⟩
 go_wp2_with fail
 refine (wsize_any (HO9.out.below HB13.out) gw 7 HWT13.out).mono ?_
 rintro e w15 ⟨rfl,hb15⟩
 have hpos:decide (((sizeW exD 7:Nat):Int)>0)=true:=by rw [decide_eq_true_eq];have:=ex_size;omega
 have hpos2:decide (0<sizeW exD 7)=true:=decide_eq_true ex_size
 have HBF:=Lib.hid ((HB9.out.trans (HB13.out.mono HB9.out.size)).trans (hb15.mono (by have:=HB13.out.size;have:=HB9.out.size;omega)))
 clear hb15
 go_wp2_with fail
 go_ret
 exact ⟨rfl,HBF.out⟩
end Go.Proofs.YtdfibahafilklaaGreatDoor.WL
namespace Go.Proofs.YtdfibahafilklaaGreatDoor.WL
open Go Go.RowKit MM EM WM DK
theorem nobody_walk (sq n:Int) (u:Value) (w:World) (hT:TabsW w):Calls Tryz.prog 7 #[.agg #[.int .i64 sq,u],.int .i64 n] w fun e w'=>e=.returned (.bool true)∧Below w.heap.size w w':=by
 obtain ⟨R,hR⟩:∃ R,w.heap.size=R:=⟨_,rfl⟩
 obtain ⟨w0,hw0⟩:∃ w0,w.alloc (.cells #[.int .i64 sq,u] 82)=w0:=⟨_,rfl⟩
 have hb0:Below w.heap.size w w0:=by rw [← hw0];exact (Below.refl _ _).alloc (Nat.le_refl _) _
 have hs0:w0.heap.size=R+1:=by rw [← hw0,← hR];simp
 have HX0:Hid (Two w0 R 82 (.int .i64 sq) u):=Lib.hid (by rw [← hw0,← hR];exact two_new w _ _ _)
 have HB0:=Lib.hid hb0
 have HW0:=Lib.hid hw0
 have HT:=Lib.hid hT
 have HR:=Lib.hid hR
 clear hb0 hw0 hT hR
 go_enter Tryz.func7,Tryz.ntmps7
 go_wp2_with fail
 rw [HW0.out,HR.out]
 refine (open_nob (.pointer none) 1 w0 (.inl rfl)).mono ?_
 rintro e w1 ⟨rfl,hb1⟩
 have HB1:=Lib.hid (HB0.out.trans (hb1.mono HB0.out.size))
 have HX1:=Lib.hid (HX0.out.below hb1 HX0.out.lt)
 clear hb1 HB0 HX0 HW0
 go_wp2_with fail
 refine (replay_nil w1 0 n).mono ?_
 rintro e w2 ⟨rfl,hb2⟩
 have HB2:=Lib.hid (HB1.out.trans (hb2.mono HB1.out.size))
 have HX2:=Lib.hid (HX1.out.below hb2 HX1.out.lt)
 clear hb2 HB1 HX1
 go_wp2_with fail
 refine (truncate_nil w2 n).mono ?_
 rintro e w3 ⟨rfl,hb3⟩
 have HB3:=Lib.hid (HB2.out.trans (hb3.mono HB2.out.size))
 have HX3:=Lib.hid (HX2.out.below hb3 HX2.out.lt)
 clear hb3 HB2 HX2
 go_wp2_with fail
 refine (logs_nil w3).mono ?_
 rintro e w4 ⟨rfl,hb4⟩
 have hb04:=HB3.out.trans (hb4.mono HB3.out.size)
 have hx4:=HX3.out.below hb4 HX3.out.lt
 obtain ⟨g,hg⟩:∃ g,w4.heap.size=g:=⟨_,rfl⟩
 have hgR:R<g:=by have:=hx4.lt;omega
 obtain ⟨w5,hw5⟩:∃ w5,(w4.alloc (.cells #[.pointer none,.string ⟨#[]⟩,.int .i64 0] 90)).alloc (.cells #[.pointer none,.pointer (some ⟨g,0,none⟩)] 51)=w5:=⟨_,rfl⟩
 have hs5:w5.heap.size=g+2:=by rw [← hw5,← hg];simp
 have hb5:Below w4.heap.size w4 w5:=by rw [← hw5];exact ((Below.refl _ w4).alloc (Nat.le_refl _) _).alloc (by simp) _
 have HN5:Hid (Three w5 g 90 (.pointer none) (.string ⟨#[]⟩) (.int .i64 0)):=Lib.hid (by
  rw [← hw5,← hg]
  exact (three_new w4 90 (.pointer none) (.string ⟨#[]⟩) (.int .i64 0)).below (B:=w4.heap.size+1) ((Below.refl _ _).alloc (by simp) _) (by omega))
 have HL5:Hid (Two w5 (g+1) 51 (.pointer none) (.pointer (some ⟨g,0,none⟩))):=Lib.hid (by
  have:=two_new (w4.alloc (.cells #[.pointer none,.string ⟨#[]⟩,.int .i64 0] 90)) 51 (.pointer none) (.pointer (some ⟨g,0,none⟩))
  simp only [World.size_alloc,hg] at this
  rw [← hw5]
  exact this)
 have HX5:=Lib.hid (hx4.below hb5 hx4.lt)
 have HB5:=Lib.hid (hb04.trans (hb5.mono hb04.size))
 have HW5:=Lib.hid hw5
 have HG:=Lib.hid hg
 clear hb4 hb04 hx4 hb5 hw5 HB3 HX3 hg
 go_wp2_with (first | (rw [HG.out]) | (rw [HW5.out]))
 go_loopw [64] (fun iv wr=>∃ i:Nat,i≤2∧iv=.int .i64 i∧Hid (Three wr g 90 (.pointer none) (.string ⟨#[]⟩) (.int .i64 0))∧Hid (Two wr (g+1) 51 (.pointer none) (.pointer (some ⟨g,0,none⟩)))∧Hid (Two wr R 82 (.int .i64 sq) u)∧Hid (Below w.heap.size w wr)) (fun iv _=>2 - (intOf iv).toNat)
 case atStart=>exact ⟨0,by omega,rfl,HN5,HL5,HX5,HB5⟩
 case round =>
  obtain ⟨i,hi,rfl,HN,HL,HX,HB⟩:=hrel
  clear HN5 HL5 HX5 HB5
  by_cases hlt:i<2
  ·obtain ⟨v,hv,hc⟩:∃ v,WNob wr v∧wr.cell? ⟨g+1,i,none⟩=some v:=by
    rcases (show i=0∨i=1 by omega) with rfl | rfl
    ·exact ⟨_,.inl rfl,HL.out.c0⟩
    ·exact ⟨_,.inr ⟨g,rfl,HN.out⟩,HL.out.c1⟩
   have t1:decide ((i:Int)<2)=true:=by rw [decide_eq_true_eq];omega
   have t2:decide (i<2)=true:=decide_eq_true hlt
   have t3:(i:Int)<2:=by omega
   have y0:=HX.out.c0
   have y1:=HX.out.c1
   obtain ⟨p,rfl⟩:=hv.shape
   obtain ⟨wa,hwa⟩:∃ wa,wr.alloc (.cells #[.int .i64 sq,u] 82)=wa:=⟨_,rfl⟩
   have hba:Below wr.heap.size wr wa:=by rw [← hwa];exact (Below.refl _ _).alloc (Nat.le_refl _) _
   have HV:=Lib.hid (hv.below hba)
   have HNA:=Lib.hid (HN.out.below hba HN.out.lt)
   have HLA:=Lib.hid (HL.out.below hba HL.out.lt)
   have HXA:=Lib.hid (HX.out.below hba HX.out.lt)
   have HBA:=Lib.hid (HB.out.trans (hba.mono HB.out.size))
   have HWA:=Lib.hid hwa
   have HLT:=Lib.hid hlt
   clear hv hba hwa HN HL HX HB hlt
   go_wp2_with (rw [HWA.out])
   refine (wappend_nob wa (.pointer p) _ HV.out).mono ?_
   rintro e w6 ⟨rfl,rfl⟩
   go_wp2_with fail
   refine (wsync_nob wa (.pointer p) HV.out).mono ?_
   rintro e w6 ⟨rfl,rfl⟩
   go_wp2_with fail
   refine (wnumber_nob wa (.pointer p) HV.out).mono ?_
   rintro e w6 ⟨rfl,rfl⟩
   go_wp2_with fail
   refine (wsize_nob wa (.pointer p) HV.out).mono ?_
   rintro e w6 ⟨rfl,rfl⟩
   go_wp2_with fail
   have hlt:=HLT.out
   go_roundw
   case rel=>exact ⟨i+1,by omega,by go_num,HNA,HLA,HXA,HBA⟩
   case measure=>simp [intOf];omega
  ·obtain rfl:i=2:=by omega
   clear hlt
   go_wp2_with fail
   refine (awake_any wr (HT.out.below HB.out)).mono ?_
   rintro e w6 ⟨rfl,hb6⟩
   have HB6:=Lib.hid (HB.out.trans (hb6.mono HB.out.size))
   clear hb6 HB HN HL HX
   go_wp2_with fail
   go_ret
   exact ⟨rfl,HB6.out⟩
theorem nobody_walk2 (cs:Array Value) (n:Int) (bt:Bat) (w:World) (h:EV.batC.on (fun _=>True) w cs.toList bt) (hT:TabsW w):Calls Tryz.prog 7 #[.agg cs,.int .i64 n] w fun e w'=>e=.returned (.bool true)∧Below w.heap.size w w':=by
 obtain ⟨u,hu,_⟩:=EV.bat_on.1 h
 have e:cs=#[.int .i64 bt.1,u]:=Array.ext' hu
 rw [e]
 exact nobody_walk bt.1 n u w hT
end Go.Proofs.YtdfibahafilklaaGreatDoor.WL
