import Derived.Test.YtidhgicajlaafaaGreatZD33
import Derived.Test.YtidhgicajlaafaaGreatZD37
set_option maxRecDepth 100000
set_option maxHeartbeats 8000000
set_option linter.unusedVariables false
set_option linter.unusedSimpArgs false
namespace Go.Proofs.YtidhgicajlaafaaGreat.MX
open Go Go.RowKit MM EM SM
open SG (PostD Tab)
open EV (docC IntLeft)
open RM (rowsE)
theorem ix_f0 (a b c d e f g h:Value) (w:World):(Instr.field 60 (.agg #[a,b,c,d,e,f,g,h]) 0).run Tryz.prog w=.ok (.agg #[a,b,c,d,e,f]) w:=by kernel_rfl
theorem ix_f1 (a b c d e f g h:Value) (w:World):(Instr.field 60 (.agg #[a,b,c,d,e,f,g,h]) 1).run Tryz.prog w=.ok g w:=by kernel_rfl
theorem ix_f2 (a b c d e f g h:Value) (w:World):(Instr.field 60 (.agg #[a,b,c,d,e,f,g,h]) 2).run Tryz.prog w=.ok h w:=by kernel_rfl
theorem cn_f0 (a b c d e f:Value) (w:World):(Instr.field 56 (.agg #[a,b,c,d,e,f]) 0).run Tryz.prog w=.ok a w:=by kernel_rfl
theorem cn_f1 (a b c d e f:Value) (w:World):(Instr.field 56 (.agg #[a,b,c,d,e,f]) 1).run Tryz.prog w=.ok b w:=by kernel_rfl
def PCell (w:World) (p:Option Addr) (l:List Doc) (dp:Option Addr) (dn dc:Nat) (mp:Option Nat):Prop :=
 (p=none∧l=[]∧dp=none∧dn=0∧dc=0∧mp=none)∨∃ g,p=some ⟨g,0,none⟩∧w.heap[g]? = some (.cells (ixA l (.slice dp dn dc) (.map mp)) 60 (0,0))
section
variable {w : World} {p : Option Addr} {l : List Doc} {dp : Option Addr} {dn dc : Nat} {mp : Option Nat}
theorem NobP.pcell (h:NobP w p):PCell w p [] none 0 0 none:=by
 rcases h with h | ⟨g,h1,h2⟩
 ·exact .inl ⟨h,rfl,rfl,rfl,rfl,rfl⟩
 ·exact .inr ⟨g,h1,h2⟩
theorem ornone_p (h:PCell w p l dp dn dc mp):Calls Tryz.prog 31 #[.pointer p] w (CellsLeft (ixA l (.slice dp dn dc) (.map mp)) w):=by
 rcases h with ⟨rfl,rfl,rfl,rfl,rfl,rfl⟩ | ⟨g,rfl,h⟩
 ·exact ornone_none w
 ·exact ornone_row _ _ _ _ _ _ dp dn dc mp g w h
theorem len_any (h:PCell w p l dp dn dc mp):Calls Tryz.prog 26 #[.pointer p] w (IntLeft (l.length:Int) w):=by
 have HO:=Lib.hid (ornone_p h)
 clear h
 go_enter Tryz.func26,Tryz.ntmps26
 go_wp2_with fail
 refine HO.out.mono ?_
 rintro e w1 ⟨rfl,hb⟩
 have HB:=Lib.hid hb
 unfold ixA
 have f0:=ix_f0 (.int .i64 (l.length:Int)) (.int .i64 (sizeM l:Int)) (.int .i64 (timesM l).1) (.int .i64 (timesM l).2.1) (.int .i64 (seqsM l).1) (.int .i64 (seqsM l).2) (.slice dp dn dc) (.map mp) w1
 have f1:=cn_f0 (.int .i64 (l.length:Int)) (.int .i64 (sizeM l:Int)) (.int .i64 (timesM l).1) (.int .i64 (timesM l).2.1) (.int .i64 (seqsM l).1) (.int .i64 (seqsM l).2) w1
 clear hb HO
 go_wp2_with fail
 go_ret
 exact ⟨rfl,HB.out⟩
theorem size_any (h:PCell w p l dp dn dc mp):Calls Tryz.prog 27 #[.pointer p] w (IntLeft (sizeM l:Int) w):=by
 have HO:=Lib.hid (ornone_p h)
 clear h
 go_enter Tryz.func27,Tryz.ntmps27
 go_wp2_with fail
 refine HO.out.mono ?_
 rintro e w1 ⟨rfl,hb⟩
 have HB:=Lib.hid hb
 unfold ixA
 have f0:=ix_f0 (.int .i64 (l.length:Int)) (.int .i64 (sizeM l:Int)) (.int .i64 (timesM l).1) (.int .i64 (timesM l).2.1) (.int .i64 (seqsM l).1) (.int .i64 (seqsM l).2) (.slice dp dn dc) (.map mp) w1
 have f1:=cn_f1 (.int .i64 (l.length:Int)) (.int .i64 (sizeM l:Int)) (.int .i64 (timesM l).1) (.int .i64 (timesM l).2.1) (.int .i64 (seqsM l).1) (.int .i64 (seqsM l).2) w1
 clear hb HO
 go_wp2_with fail
 go_ret
 exact ⟨rfl,HB.out⟩
theorem times_told (l:List Doc):(timesM l).2.2=decide (0<(l.length:Int)):=by
 cases l with
 | nil=>rfl
 | cons x r=>simp [timesM]
theorem times_any (h:PCell w p l dp dn dc mp):Calls Tryz.prog 23 #[.pointer p] w fun e w'=>e=.returned (.tuple #[.int .i64 (timesM l).1,.int .i64 (timesM l).2.1,.bool (timesM l).2.2])∧Below w.heap.size w w':=by
 have HO:=Lib.hid (ornone_p h)
 have HT:=Lib.hid (times_told l)
 clear h
 go_enter Tryz.func23,Tryz.ntmps23
 go_wp2_with fail
 refine HO.out.mono ?_
 rintro e w1 ⟨rfl,hb⟩
 unfold ixA
 obtain ⟨N,hN⟩:∃ N:Int,(l.length:Int)=N:=⟨_,rfl⟩
 obtain ⟨a,ha⟩:∃ a,(timesM l).1=a:=⟨_,rfl⟩
 obtain ⟨b,hb2⟩:∃ b,(timesM l).2.1=b:=⟨_,rfl⟩
 rw [hN] at HT
 rw [hN,ha,hb2]
 have HAB:=Lib.hid (And.intro ha hb2)
 have f0:=ix_f0 (.int .i64 N) (.int .i64 (sizeM l:Int)) (.int .i64 a) (.int .i64 b) (.int .i64 (seqsM l).1) (.int .i64 (seqsM l).2) (.slice dp dn dc) (.map mp) w1
 obtain ⟨w2,hw2⟩:∃ w2,w1.alloc (.cells #[.int .i64 N,.int .i64 (sizeM l:Int),.int .i64 a,.int .i64 b,.int .i64 (seqsM l).1,.int .i64 (seqsM l).2] 56)=w2:=⟨_,rfl⟩
 have hh:w2.heap[w1.heap.size]? = some (.cells #[.int .i64 N,.int .i64 (sizeM l:Int),.int .i64 a,.int .i64 b,.int .i64 (seqsM l).1,.int .i64 (seqsM l).2] 56 (0,0)):=by rw [← hw2];exact heap_alloc_new _ _
 have c0:w2.cell? ⟨w1.heap.size,0,none⟩=some (.int .i64 N):=row_cell hh 0
 have c2:w2.cell? ⟨w1.heap.size,2,none⟩=some (.int .i64 a):=row_cell hh 2
 have c3:w2.cell? ⟨w1.heap.size,3,none⟩=some (.int .i64 b):=row_cell hh 3
 have HB:=Lib.hid (show Below w.heap.size w w2 by rw [← hw2];exact hb.alloc hb.size _)
 have HW2:=Lib.hid hw2
 clear hb HO hw2 hh hN ha hb2
 go_wp2_with (rw [HW2.out])
 go_quiet (fail)
 go_wp2_with fail
 go_ret3
 refine ⟨?_,MM.below_drewN HB.out _⟩
 rw [HT.out,HAB.out.1,HAB.out.2]
 first | rfl | (simp;done)
theorem seqs_any (h:PCell w p l dp dn dc mp):Calls Tryz.prog 24 #[.pointer p] w fun e w'=>e=.returned (.tuple #[.int .i64 (seqsM l).1,.int .i64 (seqsM l).2])∧Below w.heap.size w w':=by
 have HO:=Lib.hid (ornone_p h)
 clear h
 go_enter Tryz.func24,Tryz.ntmps24
 go_wp2_with fail
 refine HO.out.mono ?_
 rintro e w1 ⟨rfl,hb⟩
 unfold ixA
 obtain ⟨a,ha⟩:∃ a,(seqsM l).1=a:=⟨_,rfl⟩
 obtain ⟨b,hb2⟩:∃ b,(seqsM l).2=b:=⟨_,rfl⟩
 rw [ha,hb2]
 have HAB:=Lib.hid (And.intro ha hb2)
 have f0:=ix_f0 (.int .i64 (l.length:Int)) (.int .i64 (sizeM l:Int)) (.int .i64 (timesM l).1) (.int .i64 (timesM l).2.1) (.int .i64 a) (.int .i64 b) (.slice dp dn dc) (.map mp) w1
 obtain ⟨w2,hw2⟩:∃ w2,w1.alloc (.cells #[.int .i64 (l.length:Int),.int .i64 (sizeM l:Int),.int .i64 (timesM l).1,.int .i64 (timesM l).2.1,.int .i64 a,.int .i64 b] 56)=w2:=⟨_,rfl⟩
 have hh:w2.heap[w1.heap.size]? = some (.cells #[.int .i64 (l.length:Int),.int .i64 (sizeM l:Int),.int .i64 (timesM l).1,.int .i64 (timesM l).2.1,.int .i64 a,.int .i64 b] 56 (0,0)):=by rw [← hw2];exact heap_alloc_new _ _
 have c4:w2.cell? ⟨w1.heap.size,4,none⟩=some (.int .i64 a):=row_cell hh 4
 have c5:w2.cell? ⟨w1.heap.size,5,none⟩=some (.int .i64 b):=row_cell hh 5
 have HB:=Lib.hid (show Below w.heap.size w w2 by rw [← hw2];exact hb.alloc hb.size _)
 have HW2:=Lib.hid hw2
 clear hb HO hw2 hh ha hb2
 go_wp2_with (rw [HW2.out])
 go_quiet (fail)
 go_wp2_with fail
 go_ret2
 refine ⟨?_,MM.below_drewN HB.out _⟩
 rw [HAB.out.1,HAB.out.2]
 first | rfl | (simp;done)
end
theorem Idx.cellp {A:Nat→Prop} {w:World} {g:Nat} {l:List Doc} (h:Idx A w g l):∃ dp dc mb X F,PCell w (some ⟨g,0,none⟩) l dp l.length dc (some mb)∧ROn docC A w (.slice dp l.length dc) l∧RowsU A mb (rowsE (evM l)) X F w:=by
 obtain ⟨_,U,D,mb,X,F,dv,h⟩:=h
 obtain ⟨dp,dc,rfl,_⟩:=(OwnS.any h.docs).shape
 exact ⟨dp,dc,mb,X,F,.inr ⟨g,rfl,h.cells⟩,OwnS.ron h.docs (fun b hb=>(h.ao b hb).1) fun b _ hb=>(h.ad b hb).1,h.rows.weak fun b hb=>(h.au b hb).1⟩
end Go.Proofs.YtidhgicajlaafaaGreat.MX
namespace Go.Proofs.YtidhgicajlaafaaGreat.MX
open Go Go.RowKit MM EM SM
open SG (PostD Tab)
open EV (docC fldC doc_at doc_on)
theorem infoDoc3:(Tryz.prog.info? 67).map (·.size)=some 3:=by kernel_rfl
def CopyLeft (d:Doc) (w:World) (e:Ending) (w':World):Prop:=∃ u,e=.returned (.agg #[.int .i64 d.1,.int .i64 d.2.1,u])∧ROn fldC (fun b=>w.heap.size≤b) w' u d.2.2∧Below w.heap.size w w'
theorem copy_any (n z:Int) (v:Value) (fs:List Fld) (w:World) (hr:RAny fldC w v fs) (hl:fs.length≤100000):Calls Tryz.prog 48 #[.agg #[.int .i64 n,.int .i64 z,v]] w (CopyLeft (n,(z,fs)) w):=by
 obtain ⟨p,cap,rfl,_⟩:=hr.shape
 obtain ⟨R,hR⟩:∃ R,w.heap.size=R:=⟨_,rfl⟩
 obtain ⟨wa,hwa⟩:∃ wa,(w.alloc (.cells #[.int .i64 n,.int .i64 z,.slice p fs.length cap] 67)).alloc (.cells #[.int .i64 0,.int .i64 0,.slice none 0 0] 67)=wa:=⟨_,rfl⟩
 have hba:Below w.heap.size w wa:=by rw [← hwa];exact ((Below.refl _ _).alloc (Nat.le_refl _) _).alloc (by simp) _
 have hsa:wa.heap.size=R+2:=by rw [← hwa,← hR];simp
 have x0:Three wa R 67 (.int .i64 n) (.int .i64 z) (.slice p fs.length cap):=by rw [← hwa,← hR];exact (three_new w 67 _ _ _).keep (kep_alloc (fun _=>True) _ _) trivial
 have T0:Hid (Three wa (R+1) 67 (.int .i64 0) (.int .i64 0) (.slice none 0 0)):=Lib.hid (by
  have:=three_new (w.alloc (.cells #[.int .i64 n,.int .i64 z,.slice p fs.length cap] 67)) 67 (.int .i64 0) (.int .i64 0) (.slice none 0 0)
  rw [hwa,World.size_alloc,hR] at this
  exact this)
 have HC:=Lib.hid (EV.clone_any (.slice p fs.length cap) fs wa (RAny.below hr hba) hl)
 have X0:=Lib.hid x0
 have HBA:=Lib.hid hba
 have HWA:=Lib.hid hwa
 have HSA:=Lib.hid hsa
 obtain ⟨y0,y1,y2⟩:=x0.cells
 clear hr hba hwa x0 hsa
 go_enter Tryz.func48,Tryz.ntmps48
 go_wp2_with (rw [HWA.out])
 refine HC.out.mono ?_
 rintro e w4 ⟨u,rfl,hu,hb4⟩
 obtain ⟨pu,cu,rfl,_⟩:=hu.shape
 have hsa:=HSA.out
 have hs4:=hb4.size
 have a0:=X0.out.below hb4 (by omega)
 have a1:=T0.out.below hb4 (by omega)
 have f0:=a0.fr 2
 have g0:=a0.c2
 have b0:=a0.s2 (.slice pu fs.length cu)
 have hk5:Kep (fun b=>b≠R) w4 (w4.setCell ⟨R,2,none⟩ (.slice pu fs.length cu)):=kep_set (fun h=>h rfl) _
 have b1:=a1.keep hk5 (by omega)
 obtain ⟨x0,x1,x2⟩:=b0.cells
 obtain ⟨z0,z1,z2⟩:=b1.cells
 obtain ⟨m1,m2,m3,⟨k1,k2⟩,k3,k4⟩:=b1.all (.int .i64 n) (.int .i64 z)
 have HX:=Lib.hid (b1.set (.int .i64 n) (.int .i64 z) (.slice pu fs.length cu))
 have hk6:Kep (fun b=>b≠R+1) (w4.setCell ⟨R,2,none⟩ (.slice pu fs.length cu)) (set3 (w4.setCell ⟨R,2,none⟩ (.slice pu fs.length cu)) (R+1) (.int .i64 n) (.int .i64 z) (.slice pu fs.length cu)):=kep_set3 _ _ _
 have hk7:Kep (fun b=>b≠R∧b≠R+1) w4 (set3 (w4.setCell ⟨R,2,none⟩ (.slice pu fs.length cu)) (R+1) (.int .i64 n) (.int .i64 z) (.slice pu fs.length cu)):=(hk5.mono fun b hb=>hb.1).trans (hk6.mono fun b hb=>hb.2)
 have HQ:Hid (CopyLeft (n,(z,fs)) w (.returned (.agg #[.int .i64 n,.int .i64 z,.slice pu fs.length cu])) (set3 (w4.setCell ⟨R,2,none⟩ (.slice pu fs.length cu)) (R+1) (.int .i64 n) (.int .i64 z) (.slice pu fs.length cu))):=Lib.hid
  ⟨_,rfl,ROn.weak (ROn.keep hu (hk7.mono' (T:=fun b=>wa.heap.size≤b) fun b _ hb=>⟨by omega,by omega⟩) fun _ _ h=>h) fun b _ hb=>by omega,
   ((HBA.out.trans (hb4.mono (by omega))).trans (hk7.below (by omega) fun k hk=>⟨by omega,by omega⟩))⟩
 clear hu hb4 a0 a1 hk5 hk6 hk7 b0 b1 HC X0 T0 HBA HWA HSA y0 y1 y2
 go_wp2_with fail
 refine bodyPost_ret (results_three1 (p:=2) rfl Tryz.underlying67 rfl infoDoc3 _ _ (R+1) _ _ _ rfl HX.out) rfl HQ.out
def Wide (l:List Doc):Prop:=l.length≤65536∧∀ d∈l,d.2.2.length≤100000
def CopiesOwn (l:List Doc) (w:World) (e:Ending) (w':World):Prop :=
 (∃ u,e=.returned u∧OwnS docC 67 (fun b=>w.heap.size≤b∧b≠w.heap.size) w' u l∧∀ g,u.ownBlock=some g→g=w.heap.size)∧Below w.heap.size w w'
theorem copies_own (v:Value) (l:List Doc) (w:World) (hv:RAny docC w v l) (hW:Wide l):Calls Tryz.prog 41 #[v] w (CopiesOwn l w):=by
 unfold CopiesOwn
 obtain ⟨p,cap,rfl,hlc,hcm,_⟩:=hv.shape
 unfold maxLen at hcm
 have hln:=hW.1
 have HF:=Lib.hid hW.2
 have HV:=Lib.hid hv
 obtain ⟨iD,hiD,hzD0,hzD1,hzD2⟩:=info_parts (show (Tryz.prog.info? 67).map (fun i=>(i.zero,i.size,i.bytes))=some (some (.agg #[.int .i64 0,.int .i64 0,.slice none 0 0]),3,40) by kernel_rfl)
 obtain ⟨q,hq⟩:∃ q,w.heap.size=q:=⟨_,rfl⟩
 rw [hq]
 have HQ0:=Lib.hid hq
 have HB0:=Lib.hid (show Below q w w by rw [← hq];exact Below.refl _ _)
 clear hv hW hq
 go_enter Tryz.func41,Tryz.ntmps41
 go_wp2_with (at_make;go_loud (refine wpList_make_full w rfl _ _ 28 rfl w.heap.size 67 iD (.agg #[.int .i64 0,.int .i64 0,.slice none 0 0]) 3 Tryz.underlying28 hiD hzD0 hzD1 .i64 .i64 _ _ l.length rfl rfl rfl rfl (by rw [hzD2];omega) (by unfold maxLen;omega) (Nat.le_refl _) ?_))
 intro w3 hown3 hg3
 have b3:=(Below.refl w.heap.size w).grown hg3 (Nat.le_refl _) (fun k h=>by cases h)
 have hh3:=HalfX.start (C:=docC) (e:=67) (S:=fun b=>q≤b∧b≠q) hown3
 rw [HQ0.out] at hh3 b3
 have HH3:=Lib.hid hh3
 have hrg3:=RowG.start hown3
 rw [HQ0.out] at hrg3
 have HG3:=Lib.hid hrg3
 have HB3:=Lib.hid b3
 clear hown3 hg3 b3 hh3 hrg3 hzD0 hzD1 hzD2 hiD
 rw [HQ0.out]
 go_wp2_with fail
 go_loopw [11] (fun iv wr=>∃ i:Nat,i≤l.length∧iv=.int .i64 i∧Hid (HalfX docC 67 (fun b=>q≤b∧b≠q) wr q l.length (l.take i))∧Hid (RowG 67 wr q (l.length*3))∧Hid (Below q w wr)) (fun iv _=>l.length - (intOf iv).toNat)
 case atStart=>exact ⟨0,by omega,rfl,HH3,HG3,HB3⟩
 case round =>
  obtain ⟨i,hi,rfl,HH,HG,HB⟩:=hrel
  clear HH3 HB3 HG3
  by_cases hlt:i<l.length
  ·have q1:decide ((i:Int)<(l.length:Int))=true:=by rw [decide_eq_true_eq];omega
   have q2:decide (i<l.length)=true:=by rw [decide_eq_true_eq];omega
   have q3:(i:Int)<(l.length:Int):=by omega
   have hbw:Below w.heap.size w wr:=by rw [HQ0.out];exact HB.out
   obtain ⟨b,off,fv,rfl,hbl,_,k0,k1,k2,hf⟩:=doc_at (HV.out.below hbw) hlt
   have hw:=HF.out l[i] (List.getElem_mem hlt)
   replace k0:wr.cell? ⟨b,off+i*3,none⟩=some (.int .i64 (l[i]).1):=k0
   replace k1:wr.cell? ⟨b,off+i*3+1,none⟩=some (.int .i64 (l[i]).2.1):=k1
   replace hf:ROn fldC (fun _=>True) wr fv (l[i]).2.2:=hf
   have htk:l.take (i+1)=l.take i++[l[i]]:=List.take_succ_eq_append_getElem hlt
   have hlen:(l.take i).length=i:=by rw [List.length_take];omega
   obtain ⟨⟨sq,⟨t,fs⟩⟩,hd⟩:∃ d,l[i]=d:=⟨_,rfl⟩
   rw [hd] at k0 k1 hf htk hw
   change ROn fldC _ wr fv fs at hf
   change wr.cell? ⟨b,off+i*3,none⟩=some (.int .i64 sq) at k0
   change wr.cell? ⟨b,off+i*3+1,none⟩=some (.int .i64 t) at k1
   obtain ⟨pf,cf,rfl,_⟩:=hf.shape
   obtain ⟨w4,hw4⟩:∃ w4,wr.alloc (.cells #[.int .i64 sq,.int .i64 t,.slice pf fs.length cf] 67)=w4:=⟨_,rfl⟩
   have hb4:Below wr.heap.size wr w4:=by rw [← hw4];exact (Below.refl _ _).alloc (Nat.le_refl _) _
   have hx4:Three w4 wr.heap.size 67 (.int .i64 sq) (.int .i64 t) (.slice pf fs.length cf):=by rw [← hw4];exact three_new wr _ _ _ _
   obtain ⟨x0,x1,x2⟩:=hx4.cells
   have hqw:q<wr.heap.size:=HH.out.1
   have HC:=Lib.hid (copy_any sq t (.slice pf fs.length cf) fs w4 (RAny.below hf.any hb4) hw)
   have HG4:=Lib.hid (HG.out.keep (kep_below (fun _=>True) hb4) trivial)
   have HH4:=Lib.hid (HH.out.keep (kep_below (fun _=>True) hb4) trivial fun _ _ _=>trivial)
   have HB4:=Lib.hid (HB.out.trans (hb4.mono (by omega)))
   have HW4:=Lib.hid hw4
   have HTK:=Lib.hid htk
   have HLEN:=Lib.hid hlen
   have HLT:=Lib.hid hlt
   have hq4:q<w4.heap.size:=by have:=hb4.size;omega
   clear hbw hf hd htk hlen hw4 hb4 hx4 hlt HH HB HG hw
   go_wp2_with (rw [HW4.out])
   refine HC.out.mono ?_
   rintro e w5 ⟨u,rfl,hu,hb5⟩
   obtain ⟨pu,cu,rfl,_⟩:=hu.shape
   have hh5:=HH4.out.keep (kep_below (fun _=>True) hb5) trivial fun _ _ _=>trivial
   have hg6:=RowG.sets [.int .i64 sq,.int .i64 t,.slice pu fs.length cu] (HG4.out.keep (kep_below (fun _=>True) hb5) trivial) (i*3)
   have HTH:=Lib.hid (HalfX.there hh5 (k:=i) HLT.out)
   have hon:docC.on (fun b=>q≤b∧b≠q) w5 [.int .i64 sq,.int .i64 t,.slice pu fs.length cu] (sq,(t,fs)):=doc_on.2 ⟨_,rfl,hu.weak fun b _ hb=>⟨by omega,by omega⟩⟩
   have hnext:=HalfX.next hh5 (by rw [HLEN.out];exact HLT.out) hon (fun h=>h.2 rfl)
   rw [HLEN.out,← HTK.out] at hnext
   have hks:=kep_sets (g:=q) [.int .i64 sq,.int .i64 t,.slice pu fs.length cu] w5 (i*3)
   obtain ⟨w6,hw6⟩:∃ w6,w5.setCells q (i*3) [.int .i64 sq,.int .i64 t,.slice pu fs.length cu]=w6:=⟨_,rfl⟩
   change HalfX docC 67 _ (w5.setCells q (i*3) [.int .i64 sq,.int .i64 t,.slice pu fs.length cu]) q l.length _ at hnext
   rw [hw6] at hnext hks hg6
   have HG6:=Lib.hid hg6
   have HNEXT:=Lib.hid hnext
   have HB6:=Lib.hid ((HB4.out.trans (hb5.mono (by omega))).trans (hks.below (by have:=hb5.size;omega) fun k hk=>by omega))
   have HW6:=Lib.hid hw6
   have hlt:=HLT.out
   have r3:(i:Int)<(l.length:Int):=by omega
   clear hu hb5 hh5 hon hnext hks hw6 hg6 HG4 HC HH4 HB4 HW4 x0 x1 x2 k0 k1 k2
   go_wp2_with (first | (refine wpList_store_mid rfl 67 _ _ rfl q (i*3) #[.int .i64 sq,.int .i64 t,.slice pu fs.length cu] rfl rfl HTH.out (by kernel_rfl) (all_oneCell_toArray (cs:=[.int .i64 sq,.int .i64 t,.slice pu fs.length cu]) (by intro v hv;simp only [List.mem_cons,List.not_mem_nil,or_false] at hv;rcases hv with rfl | rfl | rfl<;>rfl)) ?_;change wpList _ _ _ _ _ (w5.setCells q (i*3) [.int .i64 sq,.int .i64 t,.slice pu fs.length cu]);rw [HW6.out]))
   go_roundw
   case rel=>exact ⟨i+1,by omega,by go_num,HNEXT,HG6,HB6⟩
   case measure=>simp [intOf];omega
  ·obtain rfl:i=l.length:=by omega
   have q1:decide ((l.length:Int)<(l.length:Int))=false:=by simp
   have q2:decide (l.length<l.length)=false:=by simp
   have hh:=HH.out
   rw [List.take_length] at hh
   have HROW:=Lib.hid (HalfX.own hh HG.out rfl (by unfold maxLen;omega) fun h=>h.2 rfl)
   clear hlt hh HH HG
   go_wp2_with fail
   go_ret
   exact ⟨⟨_,rfl,HROW.out,fun g h=>by have:q=g:=by simpa [Value.ownBlock] using h
                                      exact this.symm⟩,HB.out⟩
theorem copies_any (v:Value) (l:List Doc) (w:World) (hv:RAny docC w v l) (hW:Wide l):Calls Tryz.prog 41 #[v] w fun e w'=>(∃ u,e=.returned u∧ROn docC (fun b=>w.heap.size≤b) w' u l)∧Below w.heap.size w w' :=
 (copies_own v l w hv hW).mono fun e w' ⟨⟨u,he,ho,hg⟩,hb⟩=>⟨⟨u,he,ho.ron (fun g h=>Nat.le_of_eq (hg g h).symm) fun b _ h=>h.1⟩,hb⟩
end Go.Proofs.YtidhgicajlaafaaGreat.MX
