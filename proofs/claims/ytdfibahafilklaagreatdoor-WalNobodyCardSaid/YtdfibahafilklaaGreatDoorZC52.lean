import Derived.Test.YtdfibahafilklaaGreatDoorZC50
set_option maxRecDepth 100000
set_option maxHeartbeats 8000000
set_option linter.unusedVariables false
set_option linter.unusedSimpArgs false
namespace Go.Proofs.YtdfibahafilklaaGreatDoor.WL
open Go Go.RowKit Go.Shelf Go.Maps MM WM DK BR EM
open RF (VowsT GrowsT FreeT TagT LeftT rangeT_ Steady boxed_kep boxed_below)
attribute [local go_sem] Oper.semAt_some
theorem replay_nil (w:World) (fr nx:Int):Calls Tryz.prog 24 #[.pointer none,.int .i64 fr,.int .i64 nx] w fun e w'=>e=.returned (.tuple #[.slice none 0 0,.int .i64 0,.int .i64 4])∧Below w.heap.size w w':=by
 obtain ⟨R,hR⟩:∃ R,w.heap.size=R:=⟨_,rfl⟩
 obtain ⟨w0,hw0⟩:∃ w0,(((((w.alloc (.cells #[.pointer none] 40)).alloc (.cells #[.int .i64 fr] 3)).alloc (.cells #[.int .i64 nx] 3)).alloc (.cells #[.slice none 0 0] 32)).alloc (.cells #[.int .i64 0] 3)).alloc (.cells #[.int .i64 0] 22)=w0:=⟨_,rfl⟩
 have hb0:Below w.heap.size w w0:=by
  rw [← hw0]
  exact ((((((Below.refl _ w).alloc (Nat.le_refl _) _).alloc (by simp) _).alloc (by simp;omega) _).alloc (by simp;omega) _).alloc (by simp;omega) _).alloc (by simp;omega) _
 have hs0:w0.heap.size=R+6:=by rw [← hw0,← hR];simp
 have b0:Boxed w0 R 40 (.pointer none):=by
  rw [← hw0,← hR]
  exact (((((Boxed.new w 40 _).alloc _).alloc _).alloc _).alloc _).alloc _
 have b1:Boxed w0 (R+1) 3 (.int .i64 fr):=by
  have:=((((Boxed.new (w.alloc (.cells #[.pointer none] 40)) 3 (.int .i64 fr)).alloc (.cells #[.int .i64 nx] 3)).alloc (.cells #[.slice none 0 0] 32)).alloc (.cells #[.int .i64 0] 3)).alloc (.cells #[.int .i64 0] 22)
  simp only [World.size_alloc,hR] at this
  rw [← hw0]
  exact this
 have b2:Boxed w0 (R+2) 3 (.int .i64 nx):=by
  have:=(((Boxed.new ((w.alloc (.cells #[.pointer none] 40)).alloc (.cells #[.int .i64 fr] 3)) 3 (.int .i64 nx)).alloc (.cells #[.slice none 0 0] 32)).alloc (.cells #[.int .i64 0] 3)).alloc (.cells #[.int .i64 0] 22)
  simp only [World.size_alloc,hR] at this
  rw [← hw0]
  exact this
 have b3:Boxed w0 (R+3) 32 (.slice none 0 0):=by
  have:=((Boxed.new (((w.alloc (.cells #[.pointer none] 40)).alloc (.cells #[.int .i64 fr] 3)).alloc (.cells #[.int .i64 nx] 3)) 32 (.slice none 0 0)).alloc (.cells #[.int .i64 0] 3)).alloc (.cells #[.int .i64 0] 22)
  simp only [World.size_alloc,hR] at this
  rw [← hw0]
  exact this
 have b4:Boxed w0 (R+4) 3 (.int .i64 0):=by
  have:=(Boxed.new ((((w.alloc (.cells #[.pointer none] 40)).alloc (.cells #[.int .i64 fr] 3)).alloc (.cells #[.int .i64 nx] 3)).alloc (.cells #[.slice none 0 0] 32)) 3 (.int .i64 0)).alloc (.cells #[.int .i64 0] 22)
  simp only [World.size_alloc,hR] at this
  rw [← hw0]
  exact this
 have b5:Boxed w0 (R+5) 22 (.int .i64 0):=by
  have:=Boxed.new (((((w.alloc (.cells #[.pointer none] 40)).alloc (.cells #[.int .i64 fr] 3)).alloc (.cells #[.int .i64 nx] 3)).alloc (.cells #[.slice none 0 0] 32)).alloc (.cells #[.int .i64 0] 3)) 22 (.int .i64 0)
  simp only [World.size_alloc,hR] at this
  rw [← hw0]
  exact this
 have HN:=Lib.hid (nobodys_nob (.pointer none) w0 (.inl rfl))
 have HB0:=Lib.hid hb0
 have HBX:=Lib.hid (And.intro b3 (And.intro b4 b5))
 have HW0:=Lib.hid hw0
 have c0:=b0.cell
 clear hb0 hw0 b0 b1 b2 b3 b4 b5
 refine (callsIn_wide (n:=5)).1 ?_
 refine callsIn_of_wp_marks Tryz.func24 rfl trivial ?_ rfl
 simp only [Tryz.ntmps24,List.size_toArray,List.length_cons,List.length_nil,Nat.reduceAdd,Nat.reduceSub,Array.replicate_succ,Array.replicate_zero,List.push_toArray,List.append_toArray,List.nil_append,List.cons_append]
 gi_wp2
 rw [HW0.out]
 rw [show R+1+1=R+2 from rfl,show R+2+1=R+3 from rfl,show R+3+1=R+4 from rfl,show R+4+1=R+5 from rfl]
 refine ⟨trivial,(callsIn_wide.2 HN.out).mono ?_⟩
 rintro e w1 ⟨rfl,hb1⟩
 have r3:=boxed_below HBX.out.1 hb1 (by omega)
 have r4:=boxed_below HBX.out.2.1 hb1 (by omega)
 have r5:=boxed_below HBX.out.2.2 hb1 (by omega)
 have hbb:Below w.heap.size w w1:=HB0.out.trans (hb1.mono HB0.out.size)
 have k1:Kep (fun b=>b≠R+3) w1 (w1.setCell ⟨R+3,0,none⟩ (.slice none 0 0)):=kep_set0 _
 have s3:=r3.set (.slice none 0 0)
 have s4:=boxed_kep r4 k1 (by omega)
 have s5:=boxed_kep r5 k1 (by omega)
 have k2:Kep (fun b=>b≠R+4) (w1.setCell ⟨R+3,0,none⟩ (.slice none 0 0)) ((w1.setCell ⟨R+3,0,none⟩ (.slice none 0 0)).setCell ⟨R+4,0,none⟩ (.int .i64 0)):=kep_set0 _
 have u4:=s4.set (.int .i64 0)
 have u3:=boxed_kep s3 k2 (by omega)
 have u5:=boxed_kep s5 k2 (by omega)
 have k3:Kep (fun b=>b≠R+5) ((w1.setCell ⟨R+3,0,none⟩ (.slice none 0 0)).setCell ⟨R+4,0,none⟩ (.int .i64 0)) (((w1.setCell ⟨R+3,0,none⟩ (.slice none 0 0)).setCell ⟨R+4,0,none⟩ (.int .i64 0)).setCell ⟨R+5,0,none⟩ (.int .i64 4)):=kep_set0 _
 have v5:=u5.set (.int .i64 4)
 have v3:=boxed_kep u3 k3 (by omega)
 have v4:=boxed_kep u4 k3 (by omega)
 have p0:=r3.cell
 have p1:=r3.frozen
 have p2:=s4.cell
 have p3:=s4.frozen
 have p4:=u5.cell
 have p5:=u5.frozen
 have z3:=v3.cell
 have z4:=v4.cell
 have z5:=v5.cell
 have HBF:=Lib.hid (hbb.trans (((k1.below (B:=w.heap.size) (by have:=hbb.size;omega) fun k hk=>by omega).trans (k2.below (B:=w.heap.size) (by have:=hbb.size;have:=k1.size;omega) fun k hk=>by omega)).trans (k3.below (B:=w.heap.size) (by have:=hbb.size;have:=k1.size;have:=k2.size;omega) fun k hk=>by omega)))
 clear r3 r4 r5 hbb k1 s3 s4 s5 k2 u3 u4 u5 k3 v3 v4 v5 hb1 HBX HN HB0 HW0 c0
 gi_wp2
 refine ⟨.tuple #[.slice none 0 0,.int .i64 0,.int .i64 4],?_,⟨rfl,HBF.out⟩⟩
 simp [results,Tryz.f24,go_sem,z3,z4,z5]
theorem truncate_nil (w:World) (fr:Int):Calls Tryz.prog 26 #[.pointer none,.int .i64 fr] w fun e w'=>e=.returned (.tuple #[.int .i64 0,.int .i64 4])∧Below w.heap.size w w':=by
 obtain ⟨R,hR⟩:∃ R,w.heap.size=R:=⟨_,rfl⟩
 obtain ⟨w0,hw0⟩:∃ w0,(((w.alloc (.cells #[.pointer none] 40)).alloc (.cells #[.int .i64 fr] 3)).alloc (.cells #[.int .i64 0] 3)).alloc (.cells #[.int .i64 0] 22)=w0:=⟨_,rfl⟩
 have hb0:Below w.heap.size w w0:=by
  rw [← hw0]
  exact ((((Below.refl _ w).alloc (Nat.le_refl _) _).alloc (by simp) _).alloc (by simp;omega) _).alloc (by simp;omega) _
 have hs0:w0.heap.size=R+4:=by rw [← hw0,← hR];simp
 have b0:Boxed w0 R 40 (.pointer none):=by
  rw [← hw0,← hR]
  exact (((Boxed.new w 40 _).alloc _).alloc _).alloc _
 have b4:Boxed w0 (R+2) 3 (.int .i64 0):=by
  have:=(Boxed.new ((w.alloc (.cells #[.pointer none] 40)).alloc (.cells #[.int .i64 fr] 3)) 3 (.int .i64 0)).alloc (.cells #[.int .i64 0] 22)
  simp only [World.size_alloc,hR] at this
  rw [← hw0]
  exact this
 have b5:Boxed w0 (R+3) 22 (.int .i64 0):=by
  have:=Boxed.new (((w.alloc (.cells #[.pointer none] 40)).alloc (.cells #[.int .i64 fr] 3)).alloc (.cells #[.int .i64 0] 3)) 22 (.int .i64 0)
  simp only [World.size_alloc,hR] at this
  rw [← hw0]
  exact this
 have HN:=Lib.hid (nobodys_nob (.pointer none) w0 (.inl rfl))
 have HB0:=Lib.hid hb0
 have HBX:=Lib.hid (And.intro b4 b5)
 have HW0:=Lib.hid hw0
 have c0:=b0.cell
 clear hb0 hw0 b0 b4 b5
 refine (callsIn_wide (n:=5)).1 ?_
 refine callsIn_of_wp_marks Tryz.func26 rfl trivial ?_ rfl
 simp only [Tryz.ntmps26,List.size_toArray,List.length_cons,List.length_nil,Nat.reduceAdd,Nat.reduceSub,Array.replicate_succ,Array.replicate_zero,List.push_toArray,List.append_toArray,List.nil_append,List.cons_append]
 gi_wp2
 rw [HW0.out]
 rw [show R+1+1=R+2 from rfl,show R+2+1=R+3 from rfl]
 refine ⟨trivial,(callsIn_wide.2 HN.out).mono ?_⟩
 rintro e w1 ⟨rfl,hb1⟩
 have r4:=boxed_below HBX.out.1 hb1 (by omega)
 have r5:=boxed_below HBX.out.2 hb1 (by omega)
 have hbb:Below w.heap.size w w1:=HB0.out.trans (hb1.mono HB0.out.size)
 have k2:Kep (fun b=>b≠R+2) w1 (w1.setCell ⟨R+2,0,none⟩ (.int .i64 0)):=kep_set0 _
 have u4:=r4.set (.int .i64 0)
 have u5:=boxed_kep r5 k2 (by omega)
 have k3:Kep (fun b=>b≠R+3) (w1.setCell ⟨R+2,0,none⟩ (.int .i64 0)) ((w1.setCell ⟨R+2,0,none⟩ (.int .i64 0)).setCell ⟨R+3,0,none⟩ (.int .i64 4)):=kep_set0 _
 have v5:=u5.set (.int .i64 4)
 have v4:=boxed_kep u4 k3 (by omega)
 have p2:=r4.cell
 have p3:=r4.frozen
 have p4:=u5.cell
 have p5:=u5.frozen
 have z4:=v4.cell
 have z5:=v5.cell
 have HBF:=Lib.hid (hbb.trans ((k2.below (B:=w.heap.size) (by have:=hbb.size;omega) fun k hk=>by omega).trans (k3.below (B:=w.heap.size) (by have:=hbb.size;have:=k2.size;omega) fun k hk=>by omega)))
 clear r4 r5 hbb k2 u4 u5 k3 v5 v4 hb1 HBX HN HB0 HW0 c0
 gi_wp2
 refine ⟨.tuple #[.int .i64 0,.int .i64 4],?_,⟨rfl,HBF.out⟩⟩
 simp [results,Tryz.f26,go_sem,z4,z5]
theorem files_nil (n:Nat) (hn:1≤n) (bx D:Nat) (T:Nat→Prop) (et er:TypeId) (w:World) (hbx:w.cell? ⟨bx,0,none⟩=some (.pointer none)) (hbw:bx<w.heap.size) :
  VowsT Fence.wide n Tryz.prog 108 #[.pointer (some ⟨bx,0,none⟩)] encL T D et er (fun _ _=>False) (fun xs=>xs=[]) (fun _=>False) 1025 w:=by
 intro y J Jx W hW hD hJ _ hY h0
 have c0:=(hW.cell (p:=⟨bx,0,none⟩) hbw).trans hbx
 have HL:=Lib.hid (nob_list W (.pointer none) (.inl rfl))
 have HJ:=Lib.hid hJ
 have H0:=Lib.hid h0
 clear hW hD hJ hY h0 hbx
 refine callsIn_of_wp Tryz.func108 rfl trivial ?_ rfl
 simp only [Tryz.ntmps108,List.size_toArray,List.length_cons,List.length_nil,Nat.reduceAdd,Nat.reduceSub,Array.replicate_succ,Array.replicate_zero,List.push_toArray,List.append_toArray,List.nil_append,List.cons_append]
 gi_wp2
 refine ⟨trivial,(callsIn_wide.2 HL.out).mono ?_⟩
 rintro e w1 ⟨rfl,hb1⟩
 have HJ1:=Lib.hid (RF.grows_below HJ.out H0.out hb1)
 clear hb1 HL H0 c0
 gi_wp2
 gi_loopw [10] (fun iv wr=>iv=.int .i64 0∧Hid (J [] wr)) (fun iv _=>0)
 case atStart=>exact ⟨rfl,HJ1⟩
 case round =>
  obtain ⟨rfl,HJX⟩:=hrel
  clear HJ1
  gi_wp2
  go_end0
  exact ⟨⟨_,rfl⟩,.inl ⟨_,rfl,HJX.out⟩⟩
theorem logs_nil (w:World):Calls Tryz.prog 39 #[.pointer none] w fun e w'=>e=.returned (.slice none 0 0)∧Below w.heap.size w w':=by
 obtain ⟨R,hR⟩:∃ R,w.heap.size=R:=⟨_,rfl⟩
 obtain ⟨w0,hw0⟩:∃ w0,w.alloc (.cells #[.slice none 0 0] 48)=w0:=⟨_,rfl⟩
 have hb0:Below w.heap.size w w0:=by rw [← hw0];exact (Below.refl _ w).alloc (Nat.le_refl _) _
 have hs0:w0.heap.size=R+1:=by rw [← hw0,← hR];simp
 have b0:Boxed w0 R 48 (.slice none 0 0):=by rw [← hw0,← hR];exact Boxed.new w 48 _
 have HFI:=Lib.hid (files_any none w0)
 unfold FilesLeft at HFI
 rw [hs0] at HFI
 have HB0:=Lib.hid hb0
 have HX0:=Lib.hid b0
 have HW0:=Lib.hid hw0
 clear hb0 b0 hw0
 refine (callsIn_wide (n:=5)).1 ?_
 refine callsIn_of_wp_marks Tryz.func39 rfl trivial ?_ rfl
 simp only [Tryz.ntmps39,List.size_toArray,List.length_cons,List.length_nil,Nat.reduceAdd,Nat.reduceSub,Array.replicate_succ,Array.replicate_zero,List.push_toArray,List.append_toArray,List.nil_append,List.cons_append]
 gi_wp2
 rw [HW0.out]
 refine ⟨trivial,(callsIn_wide.2 HFI.out).mono ?_⟩
 rintro e w1 ⟨rfl,hw1⟩
 have hb1:Below w0.heap.size w0 w1:=by rw [hw1];exact (Below.refl _ _).alloc (Nat.le_refl _) _
 have hs1:w1.heap.size=R+2:=by rw [hw1];simp [hs0]
 have hbx:Boxed w1 (R+1) 40 (.pointer none):=by rw [hw1,← hs0];exact Boxed.new w0 40 _
 have hx1:=boxed_below HX0.out hb1 (by omega)
 have hbb:Below w.heap.size w w1:=HB0.out.trans (hb1.mono HB0.out.size)
 have hvow:=files_nil 4 (by omega) (R+1) w1.heap.size (fun k=>k<R+2) 48 40 w1 hbx.cell hbx.lt
 have hst:Steady (R+2) 40 (fun (pre:List Nat) (W:World)=>Boxed W R 48 (.slice none 0 0)∧Below w.heap.size w W):=by
  intro s A B T hI hk hT1 hT2
  exact ⟨boxed_kep hI.1 hk (hT1 R (by omega)),hI.2.trans (hk.below hI.2.size fun k hk=>hT1 k (by omega))⟩
 have hnv:=never_steady (R+2)
 have HV:=Lib.hid hvow
 have HI0:=Lib.hid (And.intro hx1 hbb)
 rw [hs1] at HV
 clear hw1 hb1 hbx hx1 hbb hvow HFI HW0 HB0 HX0
 gi_wp2
 refine rangeT_ (T:=fun k=>k<R+2) (et:=48) (er:=40) rfl (by omega) (gf:=108) (lb:=#[.pointer (some ⟨R+1,0,none⟩)]) rfl trivial (enters_of Tryz.func108 (by kernel_rfl) rfl)
  (by rw [hs1];exact HV.out) (Below.refl _ _) (fun k hk=>by rw [hs1];exact hk) (fun _=>rfl)
  (fun (pre:List Nat) (W:World)=>Boxed W R 48 (.slice none 0 0)∧Below w.heap.size w W) (fun _ _=>False) (by rw [hs1];exact hst.own) (by rw [hs1];exact hnv.own) (by rw [hs1];exact hst.grows) (by rw [hs1];exact hnv.grows) (own_const _ _) HI0.out
  (fun x=>{ tmps:=#[.pointer none,undef,.slice none 0 0,.pointer (some ⟨R,0,none⟩),.int .i64 (x:Int),.pointer none,.func (.func 108) #[] #[.pointer (some ⟨R+1,0,none⟩)],.int .i64 (x:Int),.string ⟨(nameW x).toArray⟩,undef,undef,undef,undef,undef],defers:=[] }) ?assign ?body ?done ?stop
 case assign =>
  intro y x W K hK
  gi_wp2
  exact hK
 case stop =>
  rintro Dk pre W hD hp hx
  exact hx.elim
 case body =>
  rintro y pre x W hI hx hlt
  exact hx.elim
 case done =>
  rintro Dk xs W hD hS ⟨hbx,hbel⟩ hK
  have q0:=hbx.cell
  have HKD:=Lib.hid hK
  have kd:Kep (fun b=>b≠Dk) W (W.putObj Dk (.deferred none)):=kep_grown (grownBy_putObj' W Dk (.deferred none)) fun k hk hne=>by cases hk;exact hne rfl
  have HBF:=Lib.hid (hbel.trans (kd.below (B:=w.heap.size) (by have:=hbel.size;omega) fun k hk=>by rw [hs1] at hD;omega))
  clear hbx hbel hK kd HV HI0
  gi_wp2
  refine ⟨by simp,.inl ⟨_,_,rfl,run_takeDeferred HKD.out,?_⟩⟩
  refine ⟨.slice none 0 0,?_,⟨rfl,HBF.out⟩⟩
  simp [results,Tryz.f39,go_sem]
end Go.Proofs.YtdfibahafilklaaGreatDoor.WL
