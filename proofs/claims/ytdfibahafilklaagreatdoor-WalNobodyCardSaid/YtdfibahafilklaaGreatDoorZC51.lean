import Derived.Test.YtdfibahafilklaaGreatDoorZC41
import Derived.Test.YtdfibahafilklaaGreatDoorZC43
import Derived.Test.YtdfibahafilklaaGreatDoorZC50
set_option maxRecDepth 100000
set_option maxHeartbeats 8000000
set_option linter.unusedVariables false
set_option linter.unusedSimpArgs false
namespace Go.Proofs.YtdfibahafilklaaGreatDoor.WL
open Go Go.RowKit MM EM WM DK BR
open EV (batC bat_on evC ev_on fldC fld_on infoBat2)
def oneE:Ev:=(5,[([109,115,103],[97])])
def oneB (seq:Int):Bat:=(seq,[oneE])
def OneLeft (seq:Int) (w:World) (e:Ending) (w':World):Prop:=∃ u,e=.returned (.agg #[.int .i64 seq,u])∧ROn evC (fun b=>w.heap.size≤b) w' u [oneE]∧Below w.heap.size w w'
theorem one_any (seq:Int) (w:World):Calls Tryz.prog 45 #[.int .i64 seq] w (OneLeft seq w):=by
 have hmx:Tryz.prog.follows .mixedOrders=true:=by kernel_rfl
 obtain ⟨R,hR⟩:∃ R,w.heap.size=R:=⟨_,rfl⟩
 obtain ⟨w1,hw1⟩:∃ w1,w.alloc (.cells #[.int .i64 0,.slice none 0 0] 82)=w1:=⟨_,rfl⟩
 have hs1:w1.heap.size=R+1:=by rw [← hw1,← hR];simp
 have hb1:Below R w w1:=by rw [← hw1,← hR];exact (Below.refl _ _).alloc (Nat.le_refl _) _
 have t1:Two w1 R 82 (.int .i64 0) (.slice none 0 0):=by rw [← hw1,← hR];exact two_new w _ _ _
 obtain ⟨w2,hw2⟩:∃ w2,w1.alloc (.cells #[.string ⟨#[109,115,103]⟩,.string ⟨#[97]⟩] 84)=w2:=⟨_,rfl⟩
 have hb2:Below w1.heap.size w1 w2:=by rw [← hw2];exact (Below.refl _ _).alloc (Nat.le_refl _) _
 have hs2:w2.heap.size=R+1+1:=by rw [← hw2];simp [hs1]
 have hfl:ROn fldC (fun b=>R<b) w2 (.slice (some ⟨R+1,0,none⟩) 1 1) [([109,115,103],[97])]:=by
  rw [← hw2,← hs1]
  exact ROn.weak (ron_lit (e:=84) (S:=fun _=>False) w1 [[.string ⟨#[109,115,103]⟩,.string ⟨#[97]⟩]] [([109,115,103],[97])] (by unfold maxLen;simp) (Mean.single (fld_on.2 rfl))) fun b _ h=>by
   rcases h with h | h
   ·exact h.elim
   ·omega
 obtain ⟨w3,hw3⟩:∃ w3,w2.alloc (.cells #[.int .i64 5,.slice (some ⟨R+1,0,none⟩) 1 1] 87)=w3:=⟨_,rfl⟩
 have hb3:Below w2.heap.size w2 w3:=by rw [← hw3];exact (Below.refl _ _).alloc (Nat.le_refl _) _
 have hel:ROn evC (fun b=>R<b) w3 (.slice (some ⟨R+1+1,0,none⟩) 1 1) [oneE]:=by
  rw [← hw3,← hs2]
  exact ROn.weak (ron_lit (e:=87) (S:=fun b=>R<b) w2 [[.int .i64 5,.slice (some ⟨R+1,0,none⟩) 1 1]] [oneE] (by unfold maxLen;simp) (Mean.single (ev_on.2 ⟨_,rfl,hfl⟩))) fun b _ h=>by
   rcases h with h | h
   ·exact h
   ·omega
 have t2:=t1.below hb2 (by omega)
 have t3:Two w3 R 82 (.int .i64 0) (.slice none 0 0):=t2.below hb3 (by omega)
 obtain ⟨z0,z1,z2,z3,z4,z5⟩:=t3.all (.int .i64 seq)
 have HX:=Lib.hid (t3.s01 (.int .i64 seq) (.slice (some ⟨R+1+1,0,none⟩) 1 1))
 have hk:=kep_set01 (w:=w3) (g:=R) (.int .i64 seq) (.slice (some ⟨R+1+1,0,none⟩) 1 1)
 have HQ:=Lib.hid (show OneLeft seq w (.returned (.agg #[.int .i64 seq,.slice (some ⟨R+1+1,0,none⟩) 1 1])) ((w3.setCell ⟨R,0,none⟩ (.int .i64 seq)).setCell ⟨R,1,none⟩ (.slice (some ⟨R+1+1,0,none⟩) 1 1)) from
  ⟨_,rfl,by rw [hR];exact ROn.weak (ROn.keep hel (hk.mono fun b hb=>by omega) fun _ _ h=>h) fun b _ h=>Nat.le_of_lt h,by rw [hR];exact (hb1.trans ((hb2.mono (by omega)).trans (hb3.mono (by omega)))).trans (hk.below (by have:=hb3.size;omega) fun k hk=>by omega)⟩)
 have HW1:=Lib.hid hw1
 have HW2:=Lib.hid hw2
 have HW3:=Lib.hid hw3
 clear hw1 hb1 t1 hw2 hb2 hw3 hb3 t2 t3 hk hfl hel
 go_enter Tryz.func45,Tryz.ntmps45
 go_wp2_with (first | (rw [HW1.out]) | (rw [HW2.out]) | (rw [HW3.out]))
 refine bodyPost_ret (results_box1 (p:=2) rfl Tryz.underlying82 rfl infoBat2 _ _ R _ _ rfl HX.out) rfl HQ.out
def exB:List Bat:=[oneB 1,oneB 2]
theorem ex_check (z:Int) (h0:1≤z) (h1:z≤1000):checkB (oneB z)=0:=by
 have hs:checkEs [oneE]=0:=by decide +kernel
 have hz:sizeB [oneE]≤65536:=by decide +kernel
 unfold checkB oneB
 dsimp only
 rw [if_neg (by simp),if_neg (by simp),if_neg (by simp [hs]),if_neg (by omega),if_neg (by simp;omega)]
theorem ex_chain:ChainW 1 exB:=by
 have hf:∀ e∈[oneE],FitE e:=fun e he=>by rw [List.mem_singleton.1 he];unfold FitE oneE;omega
 exact ⟨rfl,⟨ex_check 1 (by omega) (by omega),hf⟩,rfl,⟨ex_check 2 (by omega) (by omega),hf⟩,trivial⟩
theorem ex_err:errW exB=0:=errW_of fun b hb=>by
 rcases List.mem_cons.1 hb with rfl | hb
 ·exact ex_check 1 (by omega) (by omega)
 ·rw [List.mem_singleton.1 hb];exact ex_check 2 (by omega) (by omega)
def exD:DiskD:=⟨[⟨nameW 7,fileB exB,0⟩],0,0,false⟩
theorem ex_small:(fileB exB).length≤67108864:=by
 have:=fileB_le (bs:=exB) (errW_all ex_err)
 have h:exB.length=2:=rfl
 omega
theorem ex_app:appendW (newD 0) 7 exB=(exD,0):=by
 rw [app_ok ex_err (by simp [exB])]
 have hl:=ex_small
 unfold appendD newD exD
 dsimp only
 rw [if_neg (by simp [nameW_ok]),if_neg (by simp),if_neg (by simp),if_neg (by show ¬ 67108864<0+_;omega),if_neg (by simp)]
 rfl
theorem ex_fits:Fits exD:=by
 have:=append_fits (nameW 7) (fileB exB) (new_fits 0 (by omega) (by omega))
 have e:=ex_app
 rw [app_ok ex_err (by simp [exB])] at e
 rw [e] at this
 exact this
theorem ex_logs:logsW exD=[7]:=by
 unfold logsW logsL namesW exD
 dsimp only
 rw [if_neg (by simp),List.map_singleton,List.filterMap_cons,numberW_name (by omega)]
 rfl
theorem ex_repl:replW exD 0 1=exB:=by
 obtain ⟨i,hi,he,hm⟩:=repl_files (d:=exD) (n:=7) (m:=(fileB exB).length) (fs:=[]) (cur:=exB) (t:=0) rfl (by rw [List.take_length];rfl) (fun x hx=>by cases hx) ex_fits.good.rise (by omega) ex_chain (Nat.le_refl _)
 have h2:=hm exB.length (Nat.le_refl _) (by rw [List.take_length];exact Nat.le_refl _)
 obtain rfl:i=exB.length:=by omega
 rw [he,List.take_length]
 rfl
theorem ex_size:0<sizeW exD 7:=by
 unfold sizeW bytesW exD
 dsimp only
 rw [if_neg (by simp)]
 show 0<(((findL [(⟨nameW 7,fileB exB,0⟩:FileD)] (nameW 7)).map (·.b)).getD []).length
 have:findL [(⟨nameW 7,fileB exB,0⟩:FileD)] (nameW 7)=some ⟨nameW 7,fileB exB,0⟩:=by unfold findL;simp
 rw [this]
 show 0<(fileB exB).length
 unfold exB
 rw [fileB_cons,List.length_append]
 have:=(FM.frameL_bounds (encB (oneB 1))).1
 omega
end Go.Proofs.YtdfibahafilklaaGreatDoor.WL
