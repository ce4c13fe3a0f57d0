import Derived.Test.YtdfibahafilklaaGreatDoorZB45
import Derived.Test.YtdfibahafilklaaGreatDoorZB49
import Derived.Test.YtdfibahafilklaaGreatDoorZB52
set_option maxRecDepth 100000
set_option maxHeartbeats 8000000
set_option linter.unusedVariables false
set_option linter.unusedSimpArgs false
namespace Go.Proofs.YtdfibahafilklaaGreatDoor.WL
open Go Go.RowKit MM EM WM DK BR
open EV (batC bat_on evC ev_on fldC fld_on infoBat2)
def oneE:Ev:=(5,[([109,115,103],[97])])
def oneB (seq:Int):Bat:=(seq,[oneE])
def OneLeft (seq:Int) (w:World) (e:Ending) (w':World):Prop:=∃ u,e=.returned (.agg #[.int .i64 seq,u])∧ROn evC (fun b=>w.heap.size≤b) w' u [oneE]∧Below w.heap.size w w'
theorem one_any (seq:Int) (w:World):Calls Tryz.prog 45 #[.int .i64 seq] w (OneLeft seq w):=by
 have hmx:Tryz.prog.follows .mixedOrders=true:=by kernel_rfl
 obtain ⟨R,hR⟩:∃ R,w.heap.size=R:=⟨_,rfl⟩
 obtain ⟨w1,hw1⟩:∃ w1,w.alloc (.cells #[.int .i64 0,.slice none 0 0] 82)=w1:=⟨_,rfl⟩
 have hs1:w1.heap.size=R+1:=by rw [← hw1,← hR];simp
 have hb1:Below R w w1:=by rw [← hw1,← hR];exact (Below.refl _ _).alloc (Nat.le_refl _) _
 have t1:Two w1 R 82 (.int .i64 0) (.slice none 0 0):=by rw [← hw1,← hR];exact two_new w _ _ _
 obtain ⟨w2,hw2⟩:∃ w2,w1.alloc (.cells #[.string ⟨#[109,115,103]⟩,.string ⟨#[97]⟩] 84)=w2:=⟨_,rfl⟩
 have hb2:Below w1.heap.size w1 w2:=by rw [← hw2];exact (Below.refl _ _).alloc (Nat.le_refl _) _
 have hs2:w2.heap.size=R+1+1:=by rw [← hw2];simp [hs1]
 have hfl:ROn fldC (fun b=>R<b) w2 (.slice (some ⟨R+1,0,none⟩) 1 1) [([109,115,103],[97])]:=by
  rw [← hw2,← hs1]
  exact ROn.weak (ron_lit (e:=84) (S:=fun _=>False) w1 [[.string ⟨#[109,115,103]⟩,.string ⟨#[97]⟩]] [([109,115,103],[97])] (by unfold maxLen;simp) (Mean.single (fld_on.2 rfl))) fun b _ h=>by
   rcases h with h | h
   ·exact h.elim
   ·omega
 obtain ⟨w3,hw3⟩:∃ w3,w2.alloc (.cells #[.int .i64 5,.slice (some ⟨R+1,0,none⟩) 1 1] 87)=w3:=⟨_,rfl⟩
 have hb3:Below w2.heap.size w2 w3:=by rw [← hw3];exact (Below.refl _ _).alloc (Nat.le_refl _) _
 have hel:ROn evC (fun b=>R<b) w3 (.slice (some ⟨R+1+1,0,none⟩) 1 1) [oneE]:=by
  rw [← hw3,← hs2]
  exact ROn.weak (ron_lit (e:=87) (S:=fun b=>R<b) w2 [[.int .i64 5,.slice (some ⟨R+1,0,none⟩) 1 1]] [oneE] (by unfold maxLen;simp) (Mean.single (ev_on.2 ⟨_,rfl,hfl⟩))) fun b _ h=>by
   rcases h with h | h
   ·exact h
   ·omega
 have t2:=t1.below hb2 (by omega)
 have t3:Two w3 R 82 (.int .i64 0) (.slice none 0 0):=t2.below hb3 (by omega)
 obtain ⟨z0,z1,z2,z3,z4,z5⟩:=t3.all (.int .i64 seq)
 have HX:=Lib.hid (t3.s01 (.int .i64 seq) (.slice (some ⟨R+1+1,0,none⟩) 1 1))
 have hk:=kep_set01 (w:=w3) (g:=R) (.int .i64 seq) (.slice (some ⟨R+1+1,0,none⟩) 1 1)
 have HQ:=Lib.hid (show OneLeft seq w (.returned (.agg #[.int .i64 seq,.slice (some ⟨R+1+1,0,none⟩) 1 1])) ((w3.setCell ⟨R,0,none⟩ (.int .i64 seq)).setCell ⟨R,1,none⟩ (.slice (some ⟨R+1+1,0,none⟩) 1 1)) from
  ⟨_,rfl,by rw [hR];exact ROn.weak (ROn.keep hel (hk.mono fun b hb=>by omega) fun _ _ h=>h) fun b _ h=>Nat.le_of_lt h,by rw [hR];exact (hb1.trans ((hb2.mono (by omega)).trans (hb3.mono (by omega)))).trans (hk.below (by have:=hb3.size;omega) fun k hk=>by omega)⟩)
 have HW1:=Lib.hid hw1
 have HW2:=Lib.hid hw2
 have HW3:=Lib.hid hw3
 clear hw1 hb1 t1 hw2 hb2 hw3 hb3 t2 t3 hk hfl hel
 go_enter Tryz.func45,Tryz.ntmps45
 go_wp2_with (first | (rw [HW1.out]) | (rw [HW2.out]) | (rw [HW3.out]))
 refine bodyPost_ret (results_box1 (p:=2) rfl Tryz.underlying82 rfl infoBat2 _ _ R _ _ rfl HX.out) rfl HQ.out
def exB:List Bat:=[oneB 1,oneB 2]
theorem ex_check (z:Int) (h0:1≤z) (h1:z≤1000):checkB (oneB z)=0:=by
 have hs:checkEs [oneE]=0:=by decide +kernel
 have hz:sizeB [oneE]≤65536:=by decide +kernel
 unfold checkB oneB
 dsimp only
 rw [if_neg (by simp),if_neg (by simp),if_neg (by simp [hs]),if_neg (by omega),if_neg (by simp;omega)]
theorem ex_chain:ChainW 1 exB:=by
 have hf:∀ e∈[oneE],FitE e:=fun e he=>by rw [List.mem_singleton.1 he];unfold FitE oneE;omega
 exact ⟨rfl,⟨ex_check 1 (by omega) (by omega),hf⟩,rfl,⟨ex_check 2 (by omega) (by omega),hf⟩,trivial⟩
theorem ex_err:errW exB=0:=errW_of fun b hb=>by
 rcases List.mem_cons.1 hb with rfl | hb
 ·exact ex_check 1 (by omega) (by omega)
 ·rw [List.mem_singleton.1 hb];exact ex_check 2 (by omega) (by omega)
def exD:DiskD:=⟨[⟨nameW 7,fileB exB,0⟩],0,0,false⟩
theorem ex_small:(fileB exB).length≤67108864:=by
 have:=fileB_le (bs:=exB) (errW_all ex_err)
 have h:exB.length=2:=rfl
 omega
theorem ex_app:appendW (newD 0) 7 exB=(exD,0):=by
 rw [app_ok ex_err (by simp [exB])]
 have hl:=ex_small
 unfold appendD newD exD
 dsimp only
 rw [if_neg (by simp [nameW_ok]),if_neg (by simp),if_neg (by simp),if_neg (by show ¬ 67108864<0+_;omega),if_neg (by simp)]
 rfl
theorem ex_fits:Fits exD:=by
 have:=append_fits (nameW 7) (fileB exB) (new_fits 0 (by omega) (by omega))
 have e:=ex_app
 rw [app_ok ex_err (by simp [exB])] at e
 rw [e] at this
 exact this
theorem ex_logs:logsW exD=[7]:=by
 unfold logsW logsL namesW exD
 dsimp only
 rw [if_neg (by simp),List.map_singleton,List.filterMap_cons,numberW_name (by omega)]
 rfl
theorem ex_repl:replW exD 0 1=exB:=by
 obtain ⟨i,hi,he,hm⟩:=repl_files (d:=exD) (n:=7) (m:=(fileB exB).length) (fs:=[]) (cur:=exB) (t:=0) rfl (by rw [List.take_length];rfl) (fun x hx=>by cases hx) ex_fits.good.rise (by omega) ex_chain (Nat.le_refl _)
 have h2:=hm exB.length (Nat.le_refl _) (by rw [List.take_length];exact Nat.le_refl _)
 obtain rfl:i=exB.length:=by omega
 rw [he,List.take_length]
 rfl
theorem ex_size:0<sizeW exD 7:=by
 unfold sizeW bytesW exD
 dsimp only
 rw [if_neg (by simp)]
 show 0<(((findL [(⟨nameW 7,fileB exB,0⟩:FileD)] (nameW 7)).map (·.b)).getD []).length
 have:findL [(⟨nameW 7,fileB exB,0⟩:FileD)] (nameW 7)=some ⟨nameW 7,fileB exB,0⟩:=by unfold findL;simp
 rw [this]
 show 0<(fileB exB).length
 unfold exB
 rw [fileB_cons,List.length_append]
 have:=(FM.frameL_bounds (encB (oneB 1))).1
 omega
end Go.Proofs.YtdfibahafilklaaGreatDoor.WL
namespace Go.Proofs.YtdfibahafilklaaGreatDoor.WL
open Go Go.RowKit MM EM WM DK BR
open EV (batC bat_on evC ev_on)
theorem name_seven:nameI 7=([108,111,103,45,48,48,48,48,48,48,48,55],0):=by decide +kernel
theorem nameW_seven:nameW 7=[108,111,103,45,48,48,48,48,48,48,48,55]:=by decide +kernel
theorem two_lit {w:World} {u v:Value} {S:Nat→Prop} {a b:Int} (hu:ROn evC S w u [oneE]) (hv:ROn evC S w v [oneE]) :
  RAny batC (w.alloc (.cells #[.int .i64 a,u,.int .i64 b,v] 82)) (.slice (some ⟨w.heap.size,0,none⟩) 2 2) [oneB a,oneB b]:=by
 have hm:=(Mean.single (C:=batC) (S:=S) (w:=w) (vs:=[.int .i64 a,u]) (a:=oneB a) (bat_on.2 ⟨_,rfl,hu⟩)).append (Mean.single (C:=batC) (S:=S) (w:=w) (vs:=[.int .i64 b,v]) (a:=oneB b) (bat_on.2 ⟨_,rfl,hv⟩))
 exact ROn.weak (ron_lit (e:=82) w _ _ (by unfold maxLen;simp) hm) fun _ _ _=>trivial
theorem awake_any (w:World) (hT:TabsW w):Calls Tryz.prog 12 #[] w fun e w'=>e=.returned (.bool true)∧Below w.heap.size w w':=by
 have HN:=Lib.hid (name_any 7 w hT)
 have HNB:=Lib.hid (fun W h=>number_any (nameW 7) W (by rw [nameW_len];omega) h)
 unfold NameLeft at HN
 unfold NumLeft numT at HNB
 rw [name_seven] at HN
 rw [numberW_name (by omega),nameW_seven] at HNB
 dsimp only at HN
 have HT:=Lib.hid hT
 have hlow:=hT.low
 have HLOW:=Lib.hid hlow
 clear hT hlow
 go_enter Tryz.func12,Tryz.ntmps12
 go_wp2_with fail
 refine HN.out.mono ?_
 rintro e w1 ⟨rfl,hb1⟩
 have HT1:=Lib.hid (HT.out.below hb1)
 have HB1:=Lib.hid hb1
 clear hb1 HN HT
 go_wp2_with fail
 refine (HNB.out w1 HT1.out).mono ?_
 rintro e w2 ⟨rfl,hb2⟩
 have HT2:=Lib.hid (HT1.out.below hb2)
 have HB2:=Lib.hid (HB1.out.trans (hb2.mono HB1.out.size))
 clear hb2 HNB HT1 HB1
 go_wp2_with fail
 refine (cnew_any 0 w2 (by omega)).mono ?_
 rintro e w3 ⟨S,g,mb,V,rfl,ho,hS,hb3⟩
 have HT3:=Lib.hid (HT2.out.below hb3)
 have HB3:=Lib.hid (HB2.out.trans (hb3.mono HB2.out.size))
 have HO3:=Lib.hid ho
 have HS:Hid (∀ k,S k→w.heap.size≤k):=Lib.hid (fun k hk=>Nat.le_trans HB2.out.size (hS k hk))
 have HF0:=Lib.hid (new_fits 0 (by omega) (by omega))
 clear hb3 ho hS HT2 HB2
 go_wp2_with fail
 refine (open_any HO3.out HF0.out 7 (by omega) HT3.out).mono ?_
 rintro e w4 ⟨gw,rfl,hgw,hwt,hb4⟩
 have HT4:=Lib.hid (HT3.out.below hb4)
 have HB4:=Lib.hid (HB3.out.trans (hb4.mono HB3.out.size))
 have HGS:Hid (¬ S gw):=Lib.hid (fun h=>by have:=HO3.out.lt gw h;omega)
 have HO4:=Lib.hid (HO3.out.below hb4)
 have HWT:=Lib.hid hwt
 clear hb4 hwt hgw HT3 HB3 HO3
 go_wp2_with fail
 refine (one_any 1 w4).mono ?_
 rintro e w5 ⟨u1,rfl,hu1,hb5⟩
 obtain ⟨p1,c1,rfl,_⟩:=hu1.shape
 have HU1:=Lib.hid hu1
 have HB5:=Lib.hid hb5
 clear hu1 hb5
 go_wp2_with fail
 refine (one_any 2 w5).mono ?_
 rintro e w6 ⟨u2,rfl,hu2,hb6⟩
 obtain ⟨p2,c2,rfl,_⟩:=hu2.shape
 obtain ⟨w7,hw7⟩:∃ w7,w6.alloc (.cells #[.int .i64 1,.slice p1 [oneE].length c1,.int .i64 2,.slice p2 [oneE].length c2] 82)=w7:=⟨_,rfl⟩
 have hb7:Below w6.heap.size w6 w7:=by rw [← hw7];exact (Below.refl _ _).alloc (Nat.le_refl _) _
 have hrow:RAny batC w7 (.slice (some ⟨w6.heap.size,0,none⟩) 2 2) exB:=by
  rw [← hw7]
  exact two_lit (S:=fun _=>True) (ROn.keep HU1.out (kep_below _ hb6) fun _ _ _=>trivial) (ROn.weak hu2 fun _ _ _=>trivial)
 have hb47:Below w4.heap.size w4 w7:=(HB5.out.trans (hb6.mono HB5.out.size)).trans (hb7.mono (Nat.le_trans HB5.out.size hb6.size))
 have HAP:=Lib.hid (wappend_any (HO4.out.below hb47) HF0.out gw 7 (HWT.out.below hb47 HWT.out.lt) HGS.out _ exB hrow (fun b hb e he=>by
  rcases List.mem_cons.1 hb with rfl | hb
  ·rw [List.mem_singleton.1 he];unfold FitE oneE;omega
  ·rw [List.mem_singleton.1 hb] at he;rw [List.mem_singleton.1 he];unfold FitE oneE;omega) (by decide))
 rw [ex_app] at HAP
 unfold DoneC at HAP
 have HB7:=Lib.hid hb47
 have HW7:=Lib.hid hw7
 have HT7:=Lib.hid (HT4.out.below hb47)
 clear hu2 hb6 hw7 hb7 hrow hb47 HU1 HB5 HO4 HF0 HT4
 rw [show [oneE].length=1 from rfl] at HW7
 go_wp2_with (rw [HW7.out])
 refine HAP.out.mono ?_
 rintro e w8 ⟨rfl,S',V',c',ho,hx⟩
 have HK8:=Lib.hid hx.kep
 have HS8:Hid (∀ k,S' k→w.heap.size≤k):=Lib.hid (fun k hk=>(hx.new k hk).elim (HS.out k) fun h=>by have:=HB7.out.size;have:=HB4.out.size;omega)
 have HB8:=Lib.hid ((HB4.out.trans (HB7.out.mono HB4.out.size)).trans (hx.kep.below (B:=w.heap.size) (by have:=HB7.out.size;have:=HB4.out.size;omega) fun k hk h=>by have:=HS.out k h;omega))
 have HT8:=Lib.hid (HT7.out.keep hx.kep (fun h=>by have:=HS.out _ h;have:=HLOW.out.1;omega) (fun h=>by have:=HS.out _ h;have:=HLOW.out.2.1;omega) (fun h=>by have:=HS.out _ h;have:=HLOW.out.2.2;omega))
 have HWT8:Hid (WrtAt w8 gw g 7):=Lib.hid ((HWT.out.below HB7.out HWT.out.lt).keep hx.kep HGS.out)
 have HO8:=Lib.hid ho
 clear ho hx HAP HW7 HT7 HK8 HB7 HB4 HWT HGS HS
 go_wp2_with fail
 refine (replay_any HO8.out ex_fits 0 1 HT8.out).mono ?_
 rintro e w9 ⟨v9,rfl,hbs,_,hb9⟩
 rw [ex_repl] at hbs
 rw [ex_logs]
 have HBS:=Lib.hid hbs.any
 have HWT9:Hid (WrtAt w9 gw g 7):=Lib.hid (HWT8.out.below hb9 HWT8.out.lt)
 have HO9:=Lib.hid (HO8.out.below hb9)
 have HB9:=Lib.hid (HB8.out.trans (hb9.mono HB8.out.size))
 obtain ⟨p9,c9,rfl,_⟩:=hbs.any.shape
 clear hbs hb9 HO8 HB8 HWT8 HT8
 have hl7:lastL [7]=7:=rfl
 rw [hl7]
 go_wp2_with fail
 refine (one_any 1 w9).mono ?_
 rintro e w10 ⟨u3,rfl,hu3,hb10⟩
 obtain ⟨p3,c3,rfl,_⟩:=hu3.shape
 have HU3:=Lib.hid hu3
 have HB10:=Lib.hid hb10
 clear hu3 hb10
 go_wp2_with fail
 refine (one_any 2 w10).mono ?_
 rintro e w11 ⟨u4,rfl,hu4,hb11⟩
 obtain ⟨p4,c4,rfl,_⟩:=hu4.shape
 obtain ⟨w12,hw12⟩:∃ w12,w11.alloc (.cells #[.int .i64 1,.slice p3 [oneE].length c3,.int .i64 2,.slice p4 [oneE].length c4] 82)=w12:=⟨_,rfl⟩
 have hb12:Below w11.heap.size w11 w12:=by rw [← hw12];exact (Below.refl _ _).alloc (Nat.le_refl _) _
 have hrow:RAny batC w12 (.slice (some ⟨w11.heap.size,0,none⟩) 2 2) exB:=by
  rw [← hw12]
  exact two_lit (S:=fun _=>True) (ROn.keep HU3.out (kep_below _ hb11) fun _ _ _=>trivial) (ROn.weak hu4 fun _ _ _=>trivial)
 have hb912:Below w9.heap.size w9 w12:=(HB10.out.trans (hb11.mono HB10.out.size)).trans (hb12.mono (Nat.le_trans HB10.out.size hb11.size))
 have HSM:=Lib.hid (rsame_any _ _ exB exB w12 (RAny.below HBS.out hb912) hrow)
 rw [sameB_iff.2 rfl] at HSM
 have HB12:=Lib.hid hb912
 have HW12:=Lib.hid hw12
 clear hu4 hb11 hw12 hb12 hrow hb912 HU3 HB10
 rw [show [oneE].length=1 from rfl] at HW12
 go_wp2_with (rw [HW12.out])
 refine HSM.out.mono ?_
 rintro e w13 ⟨rfl,hb13⟩
 have HB13:=Lib.hid (HB12.out.trans (hb13.mono HB12.out.size))
 have HWT13:Hid (WrtAt w13 gw g 7):=Lib.hid (HWT9.out.below HB13.out HWT9.out.lt)
 clear hb13 HSM HW12 HB12
 go_wp2_with fail
 refine (wnumber_any w13 gw g 7 HWT13.out).mono ?_
 rintro e w14 ⟨rfl,rfl⟩
 go_wp2_with fail
 refine (wsize_any (HO9.out.below HB13.out) gw 7 HWT13.out).mono ?_
 rintro e w15 ⟨rfl,hb15⟩
 have hpos:decide (((sizeW exD 7:Nat):Int)>0)=true:=by rw [decide_eq_true_eq];have:=ex_size;omega
 have hpos2:decide (0<sizeW exD 7)=true:=decide_eq_true ex_size
 have HBF:=Lib.hid ((HB9.out.trans (HB13.out.mono HB9.out.size)).trans (hb15.mono (by have:=HB13.out.size;have:=HB9.out.size;omega)))
 clear hb15
 go_wp2_with fail
 go_ret
 exact ⟨rfl,HBF.out⟩
end Go.Proofs.YtdfibahafilklaaGreatDoor.WL
namespace Go.Proofs.YtdfibahafilklaaGreatDoor.WL
open Go Go.RowKit MM EM WM BR
open EV (batC)
theorem scan_tells {b:List UInt8} {bs:List Bat} {k:Nat} {er:Int} (hs:Scans none b bs k er) {w w':World} {e:Ending} (h:ScanLeft b w e w') :
  ∃ v,e=.returned (.tuple #[v,.int .i64 (k:Int),.int .i64 er])∧RAny batC w' v bs∧Below w.heap.size w w':=by
 obtain ⟨bs',k',er',v,hs',_,_,he,ho,hb⟩:=h
 obtain ⟨rfl,rfl,rfl⟩:=hs.unique hs'
 exact ⟨v,he,ho.any,hb⟩
theorem scans_walk (v:Value) (l:List UInt8) (w:World) (h:BRow w v l) (hT:TabsW w):Calls Tryz.prog 4 #[v] w fun e w'=>e=.returned (.bool true)∧Below w.heap.size w w':=by
 obtain ⟨p,cap,rfl,hlc,hcm⟩:=h.shape
 unfold maxLen at hcm
 obtain ⟨b,hb⟩:∃ b,l.take 5000=b:=⟨_,rfl⟩
 have hbl:b.length≤5000:=by rw [← hb,List.length_take];exact Nat.min_le_left _ _
 have hbl2:b.length≤l.length:=by rw [← hb,List.length_take];exact Nat.min_le_right _ _
 have hKb:(min (l.length:Int) 5000).toNat=b.length:=by rw [← hb,List.length_take];omega
 have HI:Hid (BIn w.heap.size w (.slice p b.length cap) b):=Lib.hid (by
  have:=h.take b.length (by omega)
  rwa [show l.take b.length=b by rw [← hb,List.length_take,← List.take_eq_take_min]] at this)
 obtain ⟨bs,k,er,hs⟩:=scans_ex b.length none b (Nat.le_refl _)
 obtain ⟨hk,hp⟩:=hs.part
 have kC:k≤cap:=by omega
 have kG:b.length≤cap:=by omega
 have u1:decide ((k:Int)>(b.length:Int))=false:=decide_eq_false (by omega)
 have u2:decide ((b.length:Int)<(k:Int))=false:=decide_eq_false (by omega)
 have u5:decide ((k:Int)<0)=false:=decide_eq_false (by omega)
 have u6:decide (b.length<k)=false:=decide_eq_false (by omega)
 have ukk:((k:Int) != (k:Int))=false:=by simp
 have uee:(er != er)=false:=by simp
 have uk2:((k:Int) == (k:Int))=true:=by simp
 have HS:=Lib.hid hs
 have HP:=Lib.hid hp
 have HT:=Lib.hid hT
 have HKB:=Lib.hid hKb
 have HBL:=Lib.hid hbl
 clear h hs hp hT hb hKb hbl2
 go_enter Tryz.func4,Tryz.ntmps4
 go_wp2_with fail
 have HI2:=Lib.hid (HI.out.take k (by omega))
 have HA:=Lib.hid (scan_any _ b w HI.out (by have:=HBL.out;omega))
 rw [HKB.out]
 clear HKB
 refine HA.out.mono ?_
 intro e w1 hl1
 obtain ⟨v1,rfl,hr1,hb1⟩:=scan_tells HS.out hl1
 obtain ⟨p1,c1,rfl,_⟩:=hr1.shape
 have HR1:=Lib.hid hr1
 have HB1:=Lib.hid hb1
 clear hr1 hb1 HA hl1
 go_wp2_with fail
 refine (rscan_any _ b w1 (BIn.mono (HI.out.below HB1.out) HB1.out.size) (by have:=HBL.out;omega)).mono ?_
 intro e w2 hl2
 obtain ⟨v2,rfl,hr2,hb2⟩:=scan_tells HS.out hl2
 obtain ⟨p2,c2,rfl,_⟩:=hr2.shape
 have HSM:=Lib.hid (rsame_any _ _ bs bs w2 (RAny.below HR1.out hb2) hr2)
 rw [sameB_iff.2 rfl] at HSM
 have HR2:=Lib.hid (RAny.below HR1.out hb2)
 have HB2:=Lib.hid (HB1.out.trans (hb2.mono HB1.out.size))
 clear hr2 hb2 hl2 HR1 HB1
 go_wp2_with fail
 refine HSM.out.mono ?_
 rintro e w3 ⟨rfl,hb3⟩
 have HR3:=Lib.hid (RAny.below HR2.out hb3)
 have HB3:=Lib.hid (HB2.out.trans (hb3.mono HB2.out.size))
 clear hb3 HSM HR2 HB2
 go_wp2_with fail
 refine (scan_any _ (b.take k) w3 (BIn.mono (HI2.out.below HB3.out) HB3.out.size) (by have:=HBL.out;rw [List.length_take];omega)).mono ?_
 intro e w4 hl4
 obtain ⟨v4,rfl,hr4,hb4⟩:=scan_tells HP.out hl4
 obtain ⟨p4,c4,rfl,_⟩:=hr4.shape
 have HSM:=Lib.hid (rsame_any _ _ bs bs w4 hr4 (RAny.below HR3.out hb4))
 rw [sameB_iff.2 rfl] at HSM
 have HB4:=Lib.hid (HB3.out.trans (hb4.mono HB3.out.size))
 clear hr4 hb4 hl4 HR3 HB3
 go_wp2_with fail
 refine HSM.out.mono ?_
 rintro e w5 ⟨rfl,hb5⟩
 have HB5:=Lib.hid (HB4.out.trans (hb5.mono HB4.out.size))
 have HT5:=Lib.hid (HT.out.below HB5.out)
 clear hb5 HSM HB4
 go_wp2_with fail
 refine (awake_any w5 HT5.out).mono ?_
 rintro e w6 ⟨rfl,hb6⟩
 have HB6:=Lib.hid (HB5.out.trans (hb6.mono HB5.out.size))
 clear hb6
 go_wp2_with fail
 go_ret
 exact ⟨rfl,HB6.out⟩
end Go.Proofs.YtdfibahafilklaaGreatDoor.WL
