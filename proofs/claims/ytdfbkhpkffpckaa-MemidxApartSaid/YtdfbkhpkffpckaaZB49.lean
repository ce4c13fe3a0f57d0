import Derived.Test.YtdfbkhpkffpckaaZB44
import Derived.Test.YtdfbkhpkffpckaaZB46
set_option maxRecDepth 100000
set_option maxHeartbeats 8000000
set_option linter.unusedVariables false
set_option linter.unusedSimpArgs false
namespace Go.Proofs.Ytdfbkhpkffpckaa.MX
open Go Go.RowKit MM EM SM
open SG (PostD Tab)
open EV (docC fldC doc_at doc_on)
theorem infoDoc3:(Try.prog.info? 65).map (·.size)=some 3:=by kernel_rfl
def CopyLeft (d:Doc) (w:World) (e:Ending) (w':World):Prop:=∃ u,e=.returned (.agg #[.int .i64 d.1,.int .i64 d.2.1,u])∧ROn fldC (fun b=>w.heap.size≤b) w' u d.2.2∧Below w.heap.size w w'
theorem copy_any (n z:Int) (v:Value) (fs:List Fld) (w:World) (hr:RAny fldC w v fs) (hl:fs.length≤100000):Calls Try.prog 93 #[.agg #[.int .i64 n,.int .i64 z,v]] w (CopyLeft (n,(z,fs)) w):=by
 obtain ⟨p,cap,rfl,_⟩:=hr.shape
 obtain ⟨R,hR⟩:∃ R,w.heap.size=R:=⟨_,rfl⟩
 obtain ⟨wa,hwa⟩:∃ wa,(w.alloc (.cells #[.int .i64 n,.int .i64 z,.slice p fs.length cap] 65)).alloc (.cells #[.int .i64 0,.int .i64 0,.slice none 0 0] 65)=wa:=⟨_,rfl⟩
 have hba:Below w.heap.size w wa:=by rw [← hwa];exact ((Below.refl _ _).alloc (Nat.le_refl _) _).alloc (by simp) _
 have hsa:wa.heap.size=R+2:=by rw [← hwa,← hR];simp
 have x0:Three wa R 65 (.int .i64 n) (.int .i64 z) (.slice p fs.length cap):=by rw [← hwa,← hR];exact (three_new w 65 _ _ _).keep (kep_alloc (fun _=>True) _ _) trivial
 have T0:Hid (Three wa (R+1) 65 (.int .i64 0) (.int .i64 0) (.slice none 0 0)):=Lib.hid (by
  have:=three_new (w.alloc (.cells #[.int .i64 n,.int .i64 z,.slice p fs.length cap] 65)) 65 (.int .i64 0) (.int .i64 0) (.slice none 0 0)
  rw [hwa,World.size_alloc,hR] at this
  exact this)
 have HC:=Lib.hid (EV.clone_any (.slice p fs.length cap) fs wa (RAny.below hr hba) hl)
 have X0:=Lib.hid x0
 have HBA:=Lib.hid hba
 have HWA:=Lib.hid hwa
 have HSA:=Lib.hid hsa
 obtain ⟨y0,y1,y2⟩:=x0.cells
 clear hr hba hwa x0 hsa
 go_enter Try.func93,Try.ntmps93
 go_wp2_with (rw [HWA.out])
 refine HC.out.mono ?_
 rintro e w4 ⟨u,rfl,hu,hb4⟩
 obtain ⟨pu,cu,rfl,_⟩:=hu.shape
 have hsa:=HSA.out
 have hs4:=hb4.size
 have a0:=X0.out.below hb4 (by omega)
 have a1:=T0.out.below hb4 (by omega)
 have f0:=a0.fr 2
 have g0:=a0.c2
 have b0:=a0.s2 (.slice pu fs.length cu)
 have hk5:Kep (fun b=>b≠R) w4 (w4.setCell ⟨R,2,none⟩ (.slice pu fs.length cu)):=kep_set (fun h=>h rfl) _
 have b1:=a1.keep hk5 (by omega)
 obtain ⟨x0,x1,x2⟩:=b0.cells
 obtain ⟨z0,z1,z2⟩:=b1.cells
 obtain ⟨m1,m2,m3,⟨k1,k2⟩,k3,k4⟩:=b1.all (.int .i64 n) (.int .i64 z)
 have HX:=Lib.hid (b1.set (.int .i64 n) (.int .i64 z) (.slice pu fs.length cu))
 have hk6:Kep (fun b=>b≠R+1) (w4.setCell ⟨R,2,none⟩ (.slice pu fs.length cu)) (set3 (w4.setCell ⟨R,2,none⟩ (.slice pu fs.length cu)) (R+1) (.int .i64 n) (.int .i64 z) (.slice pu fs.length cu)):=kep_set3 _ _ _
 have hk7:Kep (fun b=>b≠R∧b≠R+1) w4 (set3 (w4.setCell ⟨R,2,none⟩ (.slice pu fs.length cu)) (R+1) (.int .i64 n) (.int .i64 z) (.slice pu fs.length cu)):=(hk5.mono fun b hb=>hb.1).trans (hk6.mono fun b hb=>hb.2)
 have HQ:Hid (CopyLeft (n,(z,fs)) w (.returned (.agg #[.int .i64 n,.int .i64 z,.slice pu fs.length cu])) (set3 (w4.setCell ⟨R,2,none⟩ (.slice pu fs.length cu)) (R+1) (.int .i64 n) (.int .i64 z) (.slice pu fs.length cu))):=Lib.hid
  ⟨_,rfl,ROn.weak (ROn.keep hu (hk7.mono' (T:=fun b=>wa.heap.size≤b) fun b _ hb=>⟨by omega,by omega⟩) fun _ _ h=>h) fun b _ hb=>by omega,
   ((HBA.out.trans (hb4.mono (by omega))).trans (hk7.below (by omega) fun k hk=>⟨by omega,by omega⟩))⟩
 clear hu hb4 a0 a1 hk5 hk6 hk7 b0 b1 HC X0 T0 HBA HWA HSA y0 y1 y2
 go_wp2_with fail
 refine bodyPost_ret (results_three1 (p:=2) rfl Try.underlying65 rfl infoDoc3 _ _ (R+1) _ _ _ rfl HX.out) rfl HQ.out
def Wide (l:List Doc):Prop:=l.length≤65536∧∀ d∈l,d.2.2.length≤100000
theorem copies_any (v:Value) (l:List Doc) (w:World) (hv:RAny docC w v l) (hW:Wide l):Calls Try.prog 66 #[v] w fun e w'=>(∃ u,e=.returned u∧ROn docC (fun b=>w.heap.size≤b) w' u l)∧Below w.heap.size w w':=by
 obtain ⟨p,cap,rfl,hlc,hcm,_⟩:=hv.shape
 unfold maxLen at hcm
 have hln:=hW.1
 have HF:=Lib.hid hW.2
 have HV:=Lib.hid hv
 obtain ⟨iD,hiD,hzD0,hzD1,hzD2⟩:=info_parts (show (Try.prog.info? 65).map (fun i=>(i.zero,i.size,i.bytes))=some (some (.agg #[.int .i64 0,.int .i64 0,.slice none 0 0]),3,40) by kernel_rfl)
 obtain ⟨q,hq⟩:∃ q,w.heap.size=q:=⟨_,rfl⟩
 rw [hq]
 have HQ0:=Lib.hid hq
 have HB0:=Lib.hid (show Below q w w by rw [← hq];exact Below.refl _ _)
 clear hv hW hq
 go_enter Try.func66,Try.ntmps66
 go_wp2_with (at_make;go_loud (refine wpList_make_full w rfl _ _ 47 rfl w.heap.size 65 iD (.agg #[.int .i64 0,.int .i64 0,.slice none 0 0]) 3 Try.underlying47 hiD hzD0 hzD1 .i64 .i64 _ _ l.length rfl rfl rfl rfl (by rw [hzD2];omega) (by unfold maxLen;omega) (Nat.le_refl _) ?_))
 intro w3 hown3 hg3
 have b3:=(Below.refl w.heap.size w).grown hg3 (Nat.le_refl _) (fun k h=>by cases h)
 have hh3:=HalfX.start (C:=docC) (e:=65) (S:=fun b=>q≤b∧b≠q) hown3
 rw [HQ0.out] at hh3 b3
 have HH3:=Lib.hid hh3
 have HB3:=Lib.hid b3
 clear hown3 hg3 b3 hh3 hzD0 hzD1 hzD2 hiD
 rw [HQ0.out]
 go_wp2_with fail
 go_loopw [11] (fun iv wr=>∃ i:Nat,i≤l.length∧iv=.int .i64 i∧Hid (HalfX docC 65 (fun b=>q≤b∧b≠q) wr q l.length (l.take i))∧Hid (Below q w wr)) (fun iv _=>l.length - (intOf iv).toNat)
 case atStart=>exact ⟨0,by omega,rfl,HH3,HB3⟩
 case round =>
  obtain ⟨i,hi,rfl,HH,HB⟩:=hrel
  clear HH3 HB3
  by_cases hlt:i<l.length
  ·have q1:decide ((i:Int)<(l.length:Int))=true:=by rw [decide_eq_true_eq];omega
   have q2:decide (i<l.length)=true:=by rw [decide_eq_true_eq];omega
   have q3:(i:Int)<(l.length:Int):=by omega
   have hbw:Below w.heap.size w wr:=by rw [HQ0.out];exact HB.out
   obtain ⟨b,off,fv,rfl,hbl,_,k0,k1,k2,hf⟩:=doc_at (HV.out.below hbw) hlt
   have hw:=HF.out l[i] (List.getElem_mem hlt)
   replace k0:wr.cell? ⟨b,off+i*3,none⟩=some (.int .i64 (l[i]).1):=k0
   replace k1:wr.cell? ⟨b,off+i*3+1,none⟩=some (.int .i64 (l[i]).2.1):=k1
   replace hf:ROn fldC (fun _=>True) wr fv (l[i]).2.2:=hf
   have htk:l.take (i+1)=l.take i++[l[i]]:=List.take_succ_eq_append_getElem hlt
   have hlen:(l.take i).length=i:=by rw [List.length_take];omega
   obtain ⟨⟨sq,⟨t,fs⟩⟩,hd⟩:∃ d,l[i]=d:=⟨_,rfl⟩
   rw [hd] at k0 k1 hf htk hw
   change ROn fldC _ wr fv fs at hf
   change wr.cell? ⟨b,off+i*3,none⟩=some (.int .i64 sq) at k0
   change wr.cell? ⟨b,off+i*3+1,none⟩=some (.int .i64 t) at k1
   obtain ⟨pf,cf,rfl,_⟩:=hf.shape
   obtain ⟨w4,hw4⟩:∃ w4,wr.alloc (.cells #[.int .i64 sq,.int .i64 t,.slice pf fs.length cf] 65)=w4:=⟨_,rfl⟩
   have hb4:Below wr.heap.size wr w4:=by rw [← hw4];exact (Below.refl _ _).alloc (Nat.le_refl _) _
   have hx4:Three w4 wr.heap.size 65 (.int .i64 sq) (.int .i64 t) (.slice pf fs.length cf):=by rw [← hw4];exact three_new wr _ _ _ _
   obtain ⟨x0,x1,x2⟩:=hx4.cells
   have hqw:q<wr.heap.size:=HH.out.1
   have HC:=Lib.hid (copy_any sq t (.slice pf fs.length cf) fs w4 (RAny.below hf.any hb4) hw)
   have HH4:=Lib.hid (HH.out.keep (kep_below (fun _=>True) hb4) trivial fun _ _ _=>trivial)
   have HB4:=Lib.hid (HB.out.trans (hb4.mono (by omega)))
   have HW4:=Lib.hid hw4
   have HTK:=Lib.hid htk
   have HLEN:=Lib.hid hlen
   have HLT:=Lib.hid hlt
   have hq4:q<w4.heap.size:=by have:=hb4.size;omega
   clear hbw hf hd htk hlen hw4 hb4 hx4 hlt HH HB hw
   go_wp2_with (rw [HW4.out])
   refine HC.out.mono ?_
   rintro e w5 ⟨u,rfl,hu,hb5⟩
   obtain ⟨pu,cu,rfl,_⟩:=hu.shape
   have hh5:=HH4.out.keep (kep_below (fun _=>True) hb5) trivial fun _ _ _=>trivial
   have HTH:=Lib.hid (HalfX.there hh5 (k:=i) HLT.out)
   have hon:docC.on (fun b=>q≤b∧b≠q) w5 [.int .i64 sq,.int .i64 t,.slice pu fs.length cu] (sq,(t,fs)):=doc_on.2 ⟨_,rfl,hu.weak fun b _ hb=>⟨by omega,by omega⟩⟩
   have hnext:=HalfX.next hh5 (by rw [HLEN.out];exact HLT.out) hon (fun h=>h.2 rfl)
   rw [HLEN.out,← HTK.out] at hnext
   have hks:=kep_sets (g:=q) [.int .i64 sq,.int .i64 t,.slice pu fs.length cu] w5 (i*3)
   obtain ⟨w6,hw6⟩:∃ w6,w5.setCells q (i*3) [.int .i64 sq,.int .i64 t,.slice pu fs.length cu]=w6:=⟨_,rfl⟩
   change HalfX docC 65 _ (w5.setCells q (i*3) [.int .i64 sq,.int .i64 t,.slice pu fs.length cu]) q l.length _ at hnext
   rw [hw6] at hnext hks
   have HNEXT:=Lib.hid hnext
   have HB6:=Lib.hid ((HB4.out.trans (hb5.mono (by omega))).trans (hks.below (by have:=hb5.size;omega) fun k hk=>by omega))
   have HW6:=Lib.hid hw6
   have hlt:=HLT.out
   have r3:(i:Int)<(l.length:Int):=by omega
   clear hu hb5 hh5 hon hnext hks hw6 HC HH4 HB4 HW4 x0 x1 x2 k0 k1 k2
   go_wp2_with (first | (refine wpList_store_mid rfl 65 _ _ rfl q (i*3) #[.int .i64 sq,.int .i64 t,.slice pu fs.length cu] rfl rfl HTH.out (by kernel_rfl) (all_oneCell_toArray (cs:=[.int .i64 sq,.int .i64 t,.slice pu fs.length cu]) (by intro v hv;simp only [List.mem_cons,List.not_mem_nil,or_false] at hv;rcases hv with rfl | rfl | rfl<;>rfl)) ?_;change wpList _ _ _ _ _ (w5.setCells q (i*3) [.int .i64 sq,.int .i64 t,.slice pu fs.length cu]);rw [HW6.out]))
   go_roundw
   case rel=>exact ⟨i+1,by omega,by go_num,HNEXT,HB6⟩
   case measure=>simp [intOf];omega
  ·obtain rfl:i=l.length:=by omega
   have q1:decide ((l.length:Int)<(l.length:Int))=false:=by simp
   have q2:decide (l.length<l.length)=false:=by simp
   have hh:=HH.out
   rw [List.take_length] at hh
   have HROW:=Lib.hid (HalfX.ron (T:=fun b=>q≤b) hh rfl (by unfold maxLen;omega) (Nat.le_refl _) fun _ _ h=>h.1)
   clear hlt hh HH
   go_wp2_with fail
   go_ret
   exact ⟨⟨_,rfl,HROW.out⟩,HB.out⟩
end Go.Proofs.Ytdfbkhpkffpckaa.MX
