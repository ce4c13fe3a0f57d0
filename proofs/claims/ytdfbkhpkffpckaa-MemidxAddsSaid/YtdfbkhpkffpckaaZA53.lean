import Derived.Test.YtdfbkhpkffpckaaZA51
import Derived.Test.YtdfbkhpkffpckaaZA52
set_option maxRecDepth 100000
set_option maxHeartbeats 8000000
set_option linter.unusedVariables false
set_option linter.unusedSimpArgs false
namespace Go.Proofs.Ytdfbkhpkffpckaa.MX
open Go Go.RowKit MM EM SM
open EV (docC fldC doc_at IntLeft BoolLeft)
section
variable {A : Nat → Prop} {w : World} {g : Nat} {l : List Doc}
theorem len_idx (h:Idx A w g l):Calls Try.prog 50 #[.pointer (some ⟨g,0,none⟩)] w (IntLeft (l.length:Int) w):=by obtain ⟨_,_,_,_,_,hp,_⟩:=h.cellp;exact len_any hp
theorem size_idx (h:Idx A w g l):Calls Try.prog 51 #[.pointer (some ⟨g,0,none⟩)] w (IntLeft (sizeM l:Int) w):=by obtain ⟨_,_,_,_,_,hp,_⟩:=h.cellp;exact size_any hp
theorem times_idx (h:Idx A w g l):Calls Try.prog 59 #[.pointer (some ⟨g,0,none⟩)] w fun e w'=>e=.returned (.tuple #[.int .i64 (timesM l).1,.int .i64 (timesM l).2.1,.bool (timesM l).2.2])∧Below w.heap.size w w':=by obtain ⟨_,_,_,_,_,hp,_⟩:=h.cellp;exact times_any hp
theorem seqs_idx (h:Idx A w g l):Calls Try.prog 61 #[.pointer (some ⟨g,0,none⟩)] w fun e w'=>e=.returned (.tuple #[.int .i64 (seqsM l).1,.int .i64 (seqsM l).2])∧Below w.heap.size w w':=by obtain ⟨_,_,_,_,_,hp,_⟩:=h.cellp;exact seqs_any hp
theorem docs_idx (h:Idx A w g l):Calls Try.prog 27 #[.pointer (some ⟨g,0,none⟩)] w (DocsBack l w):=by obtain ⟨_,_,_,_,_,hp,hr,_⟩:=h.cellp;exact docs_p hp hr.any (big_wide h.big)
end
theorem same_any (A:Nat→Prop) (g:Nat) (l:List Doc) (rv:Value) (i:Int) (w:World) (h:Idx A w g l) (hr:RAny docC w rv l) :
  Calls Try.prog 25 #[.pointer (some ⟨g,0,none⟩),.agg #[rv],.int .i64 i] w fun e w'=>e=.returned (.bool true)∧Below w.heap.size w w':=by
 obtain ⟨p,cap,rfl,hlc,hcm,_⟩:=hr.shape
 unfold maxLen at hcm
 obtain ⟨w0,hw0⟩:∃ w0,w.alloc (.cells #[.slice p l.length cap] 49)=w0:=⟨_,rfl⟩
 have hb0:Below w.heap.size w w0:=by rw [← hw0];exact (Below.refl _ _).alloc (Nat.le_refl _) _
 have hx0:w0.heap[w.heap.size]? = some (.cells #[.slice p l.length cap] 49 (0,0)):=by rw [← hw0];exact heap_alloc_new _ _
 have hlt0:w.heap.size<w0.heap.size:=(Array.getElem?_eq_some_iff.1 hx0).1
 have hbig:=h.big
 have HID:=Lib.hid (fun W (hb:Below w0.heap.size w0 W)=>(h.below hb0).below hb)
 have HRD:=Lib.hid (fun W (hb:Below w0.heap.size w0 W)=>(show RAny docC W (.slice p l.length cap) l from (hr.below hb0).below hb))
 have HX:=Lib.hid (fun W (hb:Below w0.heap.size w0 W)=>(show W.cell? ⟨w.heap.size,0,none⟩=some (.slice p l.length cap) from row_cell ((hb.block w.heap.size hlt0).trans hx0) 0))
 have HBIG:=Lib.hid hbig
 have HB0:=Lib.hid hb0
 have HW0:=Lib.hid hw0
 have HT:=Lib.hid (times_idx (HID.out w0 (Below.refl _ _)))
 have hln:=hbig.1
 clear h hr hw0 hb0 hx0 hbig
 obtain ⟨⟨a,b,ok⟩,hab⟩:∃ t,timesM l=t:=⟨_,rfl⟩
 obtain ⟨⟨u,v⟩,huv⟩:∃ t,seqsM l=t:=⟨_,rfl⟩
 have HAB:=Lib.hid hab
 have HUV:=Lib.hid huv
 rw [hab] at HT
 dsimp only at HT
 clear hab huv
 go_enter Try.func25,Try.ntmps25
 go_wp2_with (rw [HW0.out])
 refine HT.out.mono ?_
 rintro e w1 ⟨rfl,hb1⟩
 have HB1:=Lib.hid hb1
 have HR:=Lib.hid (rtimes_any l (.slice p l.length cap) w1 (HRD.out w1 hb1) hln)
 have c1:=HX.out w1 hb1
 rw [HAB.out] at HR
 dsimp only at HR
 clear hb1 HT
 go_wp2_with fail
 refine HR.out.mono ?_
 rintro e w2 ⟨rfl,hb2⟩
 have HB2:=Lib.hid (HB1.out.trans (hb2.mono HB1.out.size))
 have HS:=Lib.hid (seqs_idx (HID.out w2 HB2.out))
 rw [HUV.out] at HS
 dsimp only at HS
 clear hb2 HR HB1 c1
 go_wp2_with fail
 refine HS.out.mono ?_
 rintro e w3 ⟨rfl,hb3⟩
 have HB3:=Lib.hid (HB2.out.trans (hb3.mono HB2.out.size))
 have HR:=Lib.hid (rseqs_any l (.slice p l.length cap) w3 (HRD.out w3 HB3.out) hln)
 have c3:=HX.out w3 HB3.out
 rw [HUV.out] at HR
 dsimp only at HR
 clear hb3 HS HB2
 go_wp2_with fail
 refine HR.out.mono ?_
 rintro e w4 ⟨rfl,hb4⟩
 have HB4:=Lib.hid (HB3.out.trans (hb4.mono HB3.out.size))
 have HD:=Lib.hid (doc_any (HID.out w4 HB4.out) (big_wide HBIG.out) i)
 clear hb4 HR HB3 c3
 go_wp2_with fail
 refine HD.out.mono ?_
 rintro e w5 ⟨uv,rfl,hu5,hb5⟩
 obtain ⟨pu,cu,rfl,_⟩:=hu5.shape
 have HB5:=Lib.hid (HB4.out.trans (hb5.mono HB4.out.size))
 obtain ⟨⟨⟨sq,⟨t,fs⟩⟩,z⟩,hd⟩:∃ d,docG l i=d:=⟨_,rfl⟩
 rw [hd] at hu5 ⊢
 dsimp only at hu5 ⊢
 obtain ⟨w6,hw6⟩:∃ w6,w5.alloc (.cells #[.int .i64 sq,.int .i64 t,.slice pu fs.length cu] 65)=w6:=⟨_,rfl⟩
 have hb6:Below w5.heap.size w5 w6:=by rw [← hw6];exact (Below.refl _ _).alloc (Nat.le_refl _) _
 have hx6:Three w6 w5.heap.size 65 (.int .i64 sq) (.int .i64 t) (.slice pu fs.length cu):=by rw [← hw6];exact three_new _ _ _ _ _
 have hu6:RAny fldC w6 (.slice pu fs.length cu) fs:=hu5.any.below hb6
 obtain ⟨x0,x1,x2⟩:=hx6.cells
 have HX6:=Lib.hid hx6
 have HB6:=Lib.hid (HB5.out.trans (hb6.mono HB5.out.size))
 have HU6:=Lib.hid hu6
 have HW6:=Lib.hid hw6
 have hmx:Try.prog.follows .mixedOrders=true:=by kernel_rfl
 clear hu5 hb5 hb6 hw6 hx6 hu6 HD HB4 HB5
 by_cases hi:0≤i∧i<(l.length:Int)
 case' pos =>
  obtain ⟨k,rfl⟩:=Int.eq_ofNat_of_zero_le hi.1
  have hk:k<l.length:=by have:=hi.2;omega
  have hz:z=0∧l[k]=(sq,(t,fs)):=by
   unfold docG at hd
   rw [if_pos hi,show ((k:Int)).toNat=k from Int.toNat_natCast k,List.getD_eq_getElem?_getD,List.getElem?_eq_getElem hk,Option.getD_some] at hd
   exact ⟨(congrArg Prod.snd hd).symm,congrArg Prod.fst hd⟩
  obtain ⟨rfl,hlk⟩:=hz
  have q0:decide ((k:Int)<0)=false:=by rw [decide_eq_false_iff_not];omega
  have q1:decide ((k:Int)≥(l.length:Int))=false:=by rw [decide_eq_false_iff_not];omega
  have q2:decide ((l.length:Int)≤(k:Int))=false:=by rw [decide_eq_false_iff_not];omega
  have q3:(k:Int)<(l.length:Int):=by omega
  have q4:decide (l.length≤k)=false:=by rw [decide_eq_false_iff_not];omega
  have c6:=HX.out w6 HB6.out
  obtain ⟨wd,hwd⟩:∃ wd,w6.drew=wd:=⟨_,rfl⟩
  have hbd:Below w6.heap.size w6 wd:=by rw [← hwd];exact (Below.refl _ _).drew
  have hb0d:=HB6.out.trans (hbd.mono HB6.out.size)
  have hrd:=HRD.out wd hb0d
  obtain ⟨b2,off,fv,rfl,hbl,hy1,k0,k1,k2,hf⟩:=doc_at hrd hk
  replace k0:wd.cell? ⟨b2,off+k*3,none⟩=some (.int .i64 (l[k]).1):=k0
  replace k1:wd.cell? ⟨b2,off+k*3+1,none⟩=some (.int .i64 (l[k]).2.1):=k1
  replace hf:ROn fldC (fun _=>True) wd fv (l[k]).2.2:=hf
  rw [hlk] at k0 k1 hf
  obtain ⟨pf,cf,rfl,_⟩:=hf.shape
  have k3:wd.cell? ⟨b2,off+k*3+1+1,none⟩=some (.slice pf fs.length cf):=k2
  have G:=Lib.hid (fun W (hW:Kep (fun _=>True) wd W)=>(show W.cell? ⟨w.heap.size,0,none⟩=some (.slice (some ⟨b2,off,none⟩) l.length cap)∧W.cell? ⟨w5.heap.size,0,none⟩=some (.int .i64 sq)∧W.cell? ⟨w5.heap.size,1,none⟩=some (.int .i64 t)∧W.cell? ⟨w5.heap.size,2,none⟩=some (.slice pu fs.length cu)∧W.cell? ⟨b2,off+k*3,none⟩=some (.int .i64 sq)∧W.cell? ⟨b2,off+k*3+1,none⟩=some (.int .i64 t)∧W.cell? ⟨b2,off+k*3+1+1,none⟩=some (.slice pf fs.length cf) from by
   have hs0:w.heap.size<wd.heap.size:=Nat.lt_of_lt_of_le hlt0 hb0d.size
   have hqd:w5.heap.size<wd.heap.size:=Nat.lt_of_lt_of_le HX6.out.lt hbd.size
   obtain ⟨e0,e1,e2⟩:=((HX6.out.below hbd HX6.out.lt).keep hW trivial).cells
   exact ⟨(hW.cell hs0 trivial 0).trans (HX.out wd hb0d),e0,e1,e2,(hW.cell hbl trivial _).trans k0,(hW.cell hbl trivial _).trans k1,(hW.cell hbl trivial _).trans k3⟩))
  have HRS:=Lib.hid (EV.rsame_any t t (.slice pu fs.length cu) (.slice pf fs.length cf) fs fs wd (HU6.out.below hbd) hf.any)
  rw [decide_eq_true rfl] at HRS
  have HBD:=Lib.hid hb0d
  have HWD:=Lib.hid hwd
  clear hi hk hlk hd hwd hbd hb0d hrd hy1 k0 k1 k2 k3 hf
  go_wp2_with (rw [HW6.out])
  refine RT.begin_ (T:=fun _=>True) (.take 0<|.take 1<|.take 2<|.take 3<|.take 4<|.take 5<|.take 6<|.take 7<|.take 8<|.take 9<|.take 10<|.take 11<|.take 12<|.take 13<|.take 14<|.take 15<|.take 16<|.take 17<|.take 18<|.take 19<|.take 20<|.take 21<|.alone 22<|.take 23<|.take 24<|.done) hmx (by kernel_rfl) rfl (by kernel_rfl) (fun _ _ d _ _ h=>by cases d<;>exact h) ?_
  simp only [RT.ordered,List.getElem?_toArray,List.getElem?_cons_succ,List.getElem?_cons_zero]
  rw [HWD.out]
  repeat (refine RT.take (by rfl) (by intro W' hW;obtain ⟨g0,g1,g2,g3,g4,g5,g6⟩:=G.out W' hW;go_simp;with_reducible rfl) ?_;simp only [Act.put,List.setIfInBounds_toArray,List.set_cons_zero,List.set_cons_succ])
  refine RT.alone (RT.step (by rfl) (fun K hK => ?_))
  go_simp
  refine HRS.out.mono ?_
  rintro e w7 ⟨rfl,hb7⟩
  go_simp
  refine hK.out _ _ (kep_below _ hb7) ?_
  clear hK K
  try simp only [Act.put,List.setIfInBounds_toArray,List.set_cons_zero,List.set_cons_succ]
  have HB7:=Lib.hid (HBD.out.trans (hb7.mono HBD.out.size))
  clear hb7 HRS G HBD HWD
  repeat (refine RT.take (by rfl) (by intro W' hW;go_simp;with_reducible rfl) ?_;simp only [Act.put,List.setIfInBounds_toArray,List.set_cons_zero,List.set_cons_succ])
  refine RT.done ?_
  go_wp2_with fail
 case' neg =>
  have hdd:docG l i=(noDoc,5):=by unfold docG;rw [if_neg hi]
  rw [hdd] at hd
  obtain ⟨rfl,rfl⟩:sq=0∧t=0:=by
   have:=congrArg (fun x=>(x.1.1,x.1.2.1)) hd
   simp only [noDoc,Prod.mk.injEq] at this
   exact ⟨this.1.symm,this.2.symm⟩
  obtain rfl:fs=[]:=(congrArg (fun x:Doc×Int=>x.1.2.2) hd).symm
  obtain rfl:z=5:=(congrArg Prod.snd hd).symm
  simp only [List.length_nil] at HW6 HX6 HU6 x2 ⊢
  have c6:=HX.out w6 HB6.out
  have HRS:=Lib.hid (EV.rsame_any 0 0 (.slice pu 0 cu) (.slice none 0 0) [] [] w6 HU6.out (ROn.nil_ _ _))
  rw [decide_eq_true rfl] at HRS
  by_cases hn:i<0
  case' pos =>
   have t0:decide (i<0)=true:=decide_eq_true hn
   clear hi hn hd hdd
  case' neg =>
   have h1:(l.length:Int)≤i:=by omega
   have t0:decide (i<0)=false:=decide_eq_false hn
   have t1:decide (i≥(l.length:Int))=true:=decide_eq_true h1
   have t2:decide ((l.length:Int)≤i)=true:=decide_eq_true h1
   clear hi hn hd hdd h1
  all_goals
   go_wp2_with (rw [HW6.out])
   refine HRS.out.mono ?_
   rintro e w7 ⟨rfl,hb7⟩
   have HB7:=Lib.hid (HB6.out.trans (hb7.mono HB6.out.size))
   clear hb7 HRS
   go_wp2_with fail
 all_goals
  obtain ⟨wd,hwd⟩:∃ wd,w7.drew=wd:=⟨_,rfl⟩
  have hbd:Below w7.heap.size w7 wd:=by rw [← hwd];exact (Below.refl _ _).drew
  have hb0d:=HB7.out.trans (hbd.mono HB7.out.size)
  have HBD:=Lib.hid hb0d
  have HCX:=Lib.hid (fun W (hW:Kep (fun _=>True) wd W)=>(hW.cell (b:=w.heap.size) (Nat.lt_of_lt_of_le hlt0 hb0d.size) trivial 0).trans (HX.out wd hb0d))
  have HLN:=Lib.hid (len_idx (HID.out wd hb0d))
  have HWD:=Lib.hid hwd
  clear hwd hbd hb0d HX6 HU6 HW6
  refine RT.begin_ (T:=fun _=>True) (.take 0<|.take 1<|.take 2<|.take 3<|.take 4<|.take 5<|.take 6<|.take 7<|.take 8<|.take 9<|.take 10<|.take 11<|.take 12<|.take 13<|.take 14<|.take 15<|.take 16<|.take 17<|.take 18<|.take 19<|.take 20<|.take 21<|.take 22<|.take 23<|.take 24<|.take 26<|.take 27<|.take 28<|.alone 25<|.take 29<|.take 30<|.take 31<|.take 32<|.take 34<|.alone 33<|.alone 35<|.take 36<|.take 37<|.take 38<|.done) hmx (by kernel_rfl) rfl (by kernel_rfl) (fun _ _ d _ _ h=>by cases d<;>exact h) ?_
  simp only [RT.ordered,List.getElem?_toArray,List.getElem?_cons_succ,List.getElem?_cons_zero]
  rw [HWD.out]
  repeat (refine RT.take (by rfl) (by intro W' hW;have g0:=HCX.out W' hW;go_simp;with_reducible rfl) ?_;simp only [Act.put,List.setIfInBounds_toArray,List.set_cons_zero,List.set_cons_succ])
  refine RT.alone (RT.step (by rfl) (fun K hK => ?_))
  go_simp
  refine HLN.out.mono ?_
  rintro e w8 ⟨rfl,hb8⟩
  go_simp
  refine hK.out _ _ (kep_below _ hb8) ?_
  clear hK K
  try simp only [Act.put,List.setIfInBounds_toArray,List.set_cons_zero,List.set_cons_succ]
  have HB8:=Lib.hid (HBD.out.trans (hb8.mono HBD.out.size))
  have HSZ:=Lib.hid (size_idx (HID.out w8 HB8.out))
  have HCX8:=Lib.hid (fun W (hW:Kep (fun _=>True) w8 W)=>HCX.out W ((kep_below _ hb8).trans hW))
  clear hb8 HLN HCX
  repeat (refine RT.take (by rfl) (by intro W' hW;have g0:=HCX8.out W' hW;go_simp;with_reducible rfl) ?_;simp only [Act.put,List.setIfInBounds_toArray,List.set_cons_zero,List.set_cons_succ])
  refine RT.alone (RT.step (by rfl) (fun K hK => ?_))
  go_simp
  refine HSZ.out.mono ?_
  rintro e w9 ⟨rfl,hb9⟩
  go_simp
  refine hK.out _ _ (kep_below _ hb9) ?_
  clear hK K
  try simp only [Act.put,List.setIfInBounds_toArray,List.set_cons_zero,List.set_cons_succ]
  have HB9:=Lib.hid (HB8.out.trans (hb9.mono HB8.out.size))
  have HRZ:=Lib.hid (rsz_any l _ w9 (HRD.out w9 HB9.out) HBIG.out)
  clear hb9 HSZ HCX8 HB8
  refine RT.alone (RT.step (by rfl) (fun K hK => ?_))
  go_simp
  refine HRZ.out.mono ?_
  rintro e wa ⟨rfl,hba⟩
  go_simp
  refine hK.out _ _ (kep_below _ hba) ?_
  clear hK K
  try simp only [Act.put,List.setIfInBounds_toArray,List.set_cons_zero,List.set_cons_succ]
  have HBA:=Lib.hid (HB0.out.trans ((HB9.out.trans (hba.mono HB9.out.size)).mono HB0.out.size))
  clear hba HRZ HB9
  repeat (refine RT.take (by rfl) (by intro W' hW;go_simp;with_reducible rfl) ?_;simp only [Act.put,List.setIfInBounds_toArray,List.set_cons_zero,List.set_cons_succ])
  refine RT.done ?_
  go_wp2_with fail
  go_ret
  exact ⟨rfl,HBA.out⟩
end Go.Proofs.Ytdfbkhpkffpckaa.MX
