import Derived.Test.YtdfibahafilklaaGreatDoorZB19
import Derived.Test.YtdfibahafilklaaGreatDoorZB20
import Derived.Test.YtdfibahafilklaaGreatDoorZB11
set_option maxRecDepth 100000
set_option maxHeartbeats 8000000
set_option linter.unusedVariables false
set_option linter.unusedSimpArgs false
namespace Go.Proofs.YtdfibahafilklaaGreatDoor.WM
open Go VM DK
open EM (Ev Bat checkB encB)
noncomputable def toldW (l:List UInt8):List Bat:=Classical.choose (scans_ex l.length none l (Nat.le_refl _))
theorem told_is (l:List UInt8):∃ k e,Scans none l (toldW l) k e:=Classical.choose_spec (scans_ex l.length none l (Nat.le_refl _))
theorem told_of {l:List UInt8} {bs:List Bat} {k:Nat} {e:Int} (h:Scans none l bs k e):toldW l=bs:=by
 obtain ⟨m,f,h2⟩:=told_is l
 exact (h2.unique h).1
theorem told_follow (l:List UInt8):FollowW (toldW l):=by
 obtain ⟨k,e,h⟩:=told_is l
 exact (scans_chain h).2
theorem digW_ok (n i:Nat):charOk (digW n i)=true:=by
 have h:=digW_nat n i
 unfold charOk
 have h1:(48:UInt8)≤digW n i:=by rw [UInt8.le_iff_toNat_le,h];show 48≤_;omega
 have h2:digW n i≤(57:UInt8):=by rw [UInt8.le_iff_toNat_le,h];show _≤57;omega
 simp [h1,h2]
theorem nameW_ok (n:Nat):namedL (nameW n)=true:=by
 unfold namedL nameW
 simp only [List.all_cons,List.all_nil,digW_ok,List.length_cons,List.length_nil,Bool.and_true]
 rfl
theorem nameW_len (n:Nat):(nameW n).length=12:=rfl
def namesW (d:DiskD):List (List UInt8):=if d.stopped=true then [] else d.L.map (·.name)
def logsL (ns:List (List UInt8)):List Nat:=ns.filterMap numberW
def logsW (d:DiskD):List Nat:=logsL (namesW d)
def bytesW (d:DiskD) (n:Nat):List UInt8:=((findL d.L (nameW n)).map (·.b)).getD []
def lastL (l:List Nat):Int:=match l.getLast? with
 | none => -1
 | some n=>(n:Int)
def aboveL (fr:Int) (l:List Nat):List Nat:=l.filter fun n=>decide (fr≤(n:Int))
noncomputable def replL (d:DiskD) (l:List Nat) (fr nx:Int):List Bat:=chainT nx ((aboveL fr l).map fun n=>toldW (bytesW d n)).flatten
noncomputable def replW (d:DiskD) (fr nx:Int):List Bat:=replL d (logsW d) fr nx
theorem log_mem {d:DiskD} {n:Nat} (h:n∈logsW d):n≤99999999∧d.stopped=false∧∃ f∈d.L,f.name=nameW n:=by
 unfold logsW logsL namesW at h
 rw [List.mem_filterMap] at h
 obtain ⟨s,hs,hn⟩:=h
 obtain ⟨h1,h2⟩:=name_number hn
 cases hst:d.stopped with
 | true=>rw [hst] at hs;simp at hs
 | false =>
   rw [hst] at hs
   simp only [Bool.false_eq_true,if_false,List.mem_map] at hs
   obtain ⟨f,hf,e⟩:=hs
   exact ⟨h2,rfl,f,hf,by rw [e,h1]⟩
theorem log_find {d:DiskD} (hg:DK.Good d) {n:Nat} (h:n∈logsW d):∃ f,findL d.L (nameW n)=some f∧bytesW d n=f.b:=by
 obtain ⟨_,_,f,hf,e⟩:=log_mem h
 have h1:=rise_find hg.rise hf
 rw [e] at h1
 exact ⟨f,h1,by unfold bytesW;rw [h1];rfl⟩
def errW:List Bat→Int
 | []=>0
 | b::l=>if checkB b≠0 then checkB b else errW l
theorem errW_all:∀ {l:List Bat},errW l=0→∀ b∈l,checkB b=0
 | [],_,b,h=>by cases h
 | c::l,h,b,hb=>by
   rw [errW] at h
   split at h
   ·rename_i h1;exact absurd h h1
   ·rename_i h1
    rcases List.mem_cons.1 hb with rfl | hb
    ·exact Classical.byContradiction h1
    ·exact errW_all h b hb
theorem errW_of:∀ {l:List Bat},(∀ b∈l,checkB b=0)→errW l=0
 | [],_=>rfl
 | c::l,h=>by
   rw [errW,if_neg (by simp [h c (List.mem_cons_self ..)])]
   exact errW_of fun b hb=>h b (List.mem_cons_of_mem _ hb)
theorem errW_at:∀ {l:List Bat} {i:Nat} (hi:i<l.length),errW (l.take i)=0→errW l=if checkB l[i]≠0 then checkB l[i] else errW (l.drop (i+1))
 | b::l,0,_,_=>by rw [errW];rfl
 | b::l,i+1,hi,h=>by
   rw [List.take_succ_cons,errW] at h
   split at h
   ·rename_i h1;exact absurd h h1
   ·rename_i h1
    rw [errW,if_neg h1]
    exact errW_at (l:=l) (i:=i) (by simpa using hi) h
def appendW (d:DiskD) (n:Nat) (bs:List Bat):DiskD×Int:=if errW bs≠0 then (d,errW bs) else if bs=[] then (d,0) else appendD d (nameW n) (fileB bs)
def sizeW (d:DiskD) (n:Nat):Nat:=if d.stopped=true then 0 else (bytesW d n).length
theorem fileB_le:∀ {bs:List Bat},(∀ b∈bs,checkB b=0)→(fileB bs).length≤16777232*bs.length
 | [],_=>Nat.zero_le _
 | b::bs,h=>by
   rw [fileB_cons,List.length_append,List.length_cons]
   have h1:=encB_len (h b (List.mem_cons_self ..))
   have h2:=fileB_le fun c hc=>h c (List.mem_cons_of_mem _ hc)
   have h3:=FM.frameL_bounds (encB b)
   omega
end Go.Proofs.YtdfibahafilklaaGreatDoor.WM
namespace Go.Proofs.YtdfibahafilklaaGreatDoor.DK
open Go.RowKit MM Go.Maps
end Go.Proofs.YtdfibahafilklaaGreatDoor.DK
namespace Go.Proofs.YtdfibahafilklaaGreatDoor.DK
open Go.RowKit MM Go.Maps
def Disk (B:Nat) (w:World) (g:Nat) (d:DiskD):Prop:=∃ S mb V c,CObj S w g mb V c d∧∀ k,S k→B≤k
theorem Disk.below {B:Nat} {w w':World} {g:Nat} {d:DiskD} (h:Disk B w g d) (hb:Below w.heap.size w w'):Disk B w' g d:=by
 obtain ⟨S,mb,V,c,ho,hS⟩:=h
 exact ⟨S,mb,V,c,ho.below hb,hS⟩
end Go.Proofs.YtdfibahafilklaaGreatDoor.DK
namespace Go.Proofs.YtdfibahafilklaaGreatDoor.DK
open Go.RowKit MM Go.Maps
def Nob (w:World) (v:Value):Prop:=v=.pointer none∨∃ g,v=.pointer (some ⟨g,0,none⟩)∧w.heap[g]? = some (.cells #[.map none,.int .i64 0,.int .i64 0,.bool false] 111 (0,0))
theorem Nob.below {w w':World} {v:Value} (h:Nob w v) (hb:Below w.heap.size w w'):Nob w' v:=by
 rcases h with h | ⟨g,h1,h2⟩
 ·exact .inl h
 ·exact .inr ⟨g,h1,(hb.block g (Array.getElem?_eq_some_iff.1 h2).1).trans h2⟩
theorem Nob.shape {w:World} {v:Value} (h:Nob w v):∃ p,v=.pointer p:=by
 rcases h with h | ⟨g,h1,h2⟩
 ·exact ⟨_,h⟩
 ·exact ⟨_,h1⟩
end Go.Proofs.YtdfibahafilklaaGreatDoor.DK
namespace Go.Proofs.YtdfibahafilklaaGreatDoor.WL
open Go Go.RowKit MM WM DK
theorem find_no4 (ok st there:Bool):findE ok st there≠4:=by cases ok<;>cases st<;>cases there<;>decide
theorem read_no4 (d:DiskD) (n:List UInt8) (a m:Int):(creadD d n a m).2≠4:=by
 unfold creadD
 split
 ·unfold partD
  split<;>simp
 ·exact find_no4 _ _ _
theorem nobodys_disk {S:Nat→Prop} {w:World} {g mb:Nat} {V:List UInt8→Value} {c:Int} {d:DiskD} (h:CObj S w g mb V c d) (hF:Fits d):Calls Tryz.prog 51 #[.pointer (some ⟨g,0,none⟩)] w fun e w'=>e=.returned (.bool false)∧Below w.heap.size w w':=by
 have hR:=cread_any S g mb V c d [108,111,103,45,48,48,48,48,48,48,48,48] 0 0 w h hF (by decide) (by omega) (by omega) (by omega) (by omega)
 have h4:=read_no4 d [108,111,103,45,48,48,48,48,48,48,48,48] 0 0
 unfold PartC at hR
 obtain ⟨⟨x,er⟩,hx⟩:∃ x,creadD d [108,111,103,45,48,48,48,48,48,48,48,48] 0 0=x:=⟨_,rfl⟩
 rw [hx] at hR h4
 have t1:(er == 4)=false:=by rw [beq_eq_false_iff_ne];exact h4
 have HR:=Lib.hid hR
 clear hR h4 hx h hF
 go_enter Tryz.func51,Tryz.ntmps51
 go_wp2_with fail
 refine HR.out.mono ?_
 rintro e w1 ⟨v,rfl,_,hb1⟩
 have HB1:=Lib.hid hb1
 clear hb1 HR
 go_wp2_with fail
 go_ret
 exact ⟨by first | rfl | (rw [show (er == 4)=false from t1]),HB1.out⟩
def WrtAt (w:World) (gw g n:Nat):Prop:=Three w gw 90 (.pointer (some ⟨g,0,none⟩)) (.string ⟨(nameW n).toArray⟩) (.int .i64 (n:Int))
theorem nameW_ne (n:Nat):(((⟨(nameW n).toArray⟩:ByteArray).toList) != ((⟨#[]⟩:ByteArray).toList))=true:=by
 rw [show (⟨#[]⟩:ByteArray)=⟨([]:List UInt8).toArray⟩ from rfl,bne,same_list,decide_eq_false (by unfold nameW;exact List.cons_ne_nil _ _)]
 rfl
theorem made_any (w:World) (gw g n:Nat) (h:WrtAt w gw g n):Calls Tryz.prog 52 #[.pointer (some ⟨gw,0,none⟩)] w fun e w'=>e=.returned (.bool true)∧w=w':=by
 obtain ⟨c0,c1,c2⟩:=h.cells
 have hne:=nameW_ne n
 have hlt:=h.lt
 clear h
 have ht:(nameW n == [])=false:=rfl
 generalize nameW n=s at *
 go_enter Tryz.func52,Tryz.ntmps52
 go_wp2_with fail
 go_ret
 exact ⟨by first | rfl | simp_all,rfl⟩
theorem wnumber_any (w:World) (gw g n:Nat) (h:WrtAt w gw g n):Calls Tryz.prog 34 #[.pointer (some ⟨gw,0,none⟩)] w fun e w'=>e=.returned (.int .i64 (n:Int))∧w=w':=by
 obtain ⟨c0,c1,c2⟩:=h.cells
 have HM:=Lib.hid (made_any w gw g n h)
 have hlt:=h.lt
 clear h
 generalize nameW n=s at *
 go_enter Tryz.func34,Tryz.ntmps34
 go_wp2_with fail
 refine HM.out.mono ?_
 rintro e w1 ⟨rfl,rfl⟩
 clear HM
 go_wp2_with fail
 go_ret
 exact ⟨rfl,rfl⟩
def OpenLeft (g n:Nat) (w:World) (e:Ending) (w':World):Prop:=∃ gw,e=.returned (.tuple #[.pointer (some ⟨gw,0,none⟩),.int .i64 0])∧w.heap.size≤gw∧WrtAt w' gw g n∧Below w.heap.size w w'
theorem open_any {S:Nat→Prop} {w:World} {g mb:Nat} {V:List UInt8→Value} {c:Int} {d:DiskD} (h:CObj S w g mb V c d) (hF:Fits d) (n:Nat) (hn:n≤99999999) (hT:TabsW w):Calls Tryz.prog 18 #[.pointer (some ⟨g,0,none⟩),.int .i64 (n:Int)] w (OpenLeft g n w):=by
 have HN:=Lib.hid (nobodys_disk h hF)
 have HA:=Lib.hid (fun W h=>name_any (n:Int) W h)
 unfold NameLeft at HA
 have hi:nameI (n:Int)=(nameW n,0):=by
  unfold nameI
  rw [if_neg (by omega)]
  simp
 rw [hi] at HA
 have HT:=Lib.hid hT
 clear h hF hT hi
 unfold OpenLeft WrtAt
 dsimp only at HA
 generalize nameW n=s at *
 go_enter Tryz.func18,Tryz.ntmps18
 go_wp2_with fail
 refine HN.out.mono ?_
 rintro e w1 ⟨rfl,hb1⟩
 have HT1:=Lib.hid (HT.out.below hb1)
 have HB1:=Lib.hid hb1
 clear hb1 HN HT
 go_wp2_with fail
 refine (HA.out _ HT1.out).mono ?_
 rintro e w2 ⟨rfl,hb2⟩
 have HB2:=Lib.hid (HB1.out.trans (hb2.mono HB1.out.size))
 clear hb2 HA HB1
 go_wp2_with fail
 go_ret2
 refine ⟨w2.heap.size,rfl,HB2.out.size,three_new w2 _ _ _ _,HB2.out.trans (((Below.refl _ _).alloc (Nat.le_refl _) _).mono HB2.out.size)⟩
theorem size_is (d:DiskD) (n:Nat):(if findE (namedL (nameW n)) d.stopped (findL d.L (nameW n)).isSome=0 then ((curB d (nameW n)).length:Int) else 0)=((sizeW d n:Nat):Int):=by
 rw [nameW_ok]
 unfold sizeW bytesW curB findE
 cases d.stopped<;>cases findL d.L (nameW n)<;>simp
theorem wsize_any {S:Nat→Prop} {w:World} {g mb:Nat} {V:List UInt8→Value} {c:Int} {d:DiskD} (h:CObj S w g mb V c d) (gw n:Nat) (hw:WrtAt w gw g n):Calls Tryz.prog 35 #[.pointer (some ⟨gw,0,none⟩)] w fun e w'=>e=.returned (.int .i64 ((sizeW d n:Nat):Int))∧Below w.heap.size w w':=by
 have hmx:Tryz.prog.follows .mixedOrders=true:=by kernel_rfl
 have HM:=Lib.hid (made_any w gw g n hw)
 have hlt:=hw.lt
 have HC:=Lib.hid (fun W (hW:Below w.heap.size w W)=>csize_any S g mb V c d (nameW n) W (h.below hW) (by rw [nameW_len];omega))
 rw [size_is] at HC
 have HW:=Lib.hid hw
 clear h hw
 unfold WrtAt at HW
 generalize nameW n=s at *
 generalize sizeW d n=z at *
 generalize findE (namedL s) d.stopped (findL d.L s).isSome=x at *
 go_enter Tryz.func35,Tryz.ntmps35
 go_wp2_with fail
 refine HM.out.mono ?_
 rintro e w1 ⟨rfl,rfl⟩
 clear HM
 go_wp2_with fail
 refine RK.begin_ (T:=fun k=>k<w.heap.size) [(0,true),(1,true),(2,true),(3,true),(4,true),(5,true),(6,true),(7,true),(8,false),(9,true),(10,true),(12,true),(11,true),(13,true)] hmx (by kernel_rfl) rfl (by kernel_rfl) (fun _ _ d _ _ h=>by cases d<;>exact h) ?_
 simp only [RK.ordered,List.map_cons,List.map_nil,List.getElem?_toArray,List.getElem?_cons_succ,List.getElem?_cons_zero]
 obtain ⟨wd,hwd⟩:∃ wd,w.drew=wd:=⟨_,rfl⟩
 have hbd:Below w.heap.size w wd:=by rw [← hwd];exact (Below.refl _ _).drew
 have hwt:=HW.out.below hbd HW.out.lt
 have F0:=fun W (hW:Kep (fun k=>k<w.heap.size) wd W)=>(hwt.keep hW hlt).c0
 have F1:=fun W (hW:Kep (fun k=>k<w.heap.size) wd W)=>(hwt.keep hW hlt).c1
 have HBD:=Lib.hid hbd
 rw [hwd]
 clear hwd hbd hwt
 repeat (refine RK.take (by rfl) (by intro W hW;have f0:=F0 W hW;have f1:=F1 W hW;go_simp;with_reducible rfl) ?_;simp only [Act.put,List.setIfInBounds_toArray,List.set_cons_zero,List.set_cons_succ])
 refine RK.alone (by rfl) (fun K hK => ?_)
 go_simp
 refine (HC.out wd HBD.out).mono ?_
 rintro e w2 ⟨rfl,hb2⟩
 go_simp
 refine hK.out _ _ (kep_below _ hb2) ?_
 clear hK K F0 F1
 have HB2:=Lib.hid (HBD.out.trans (hb2.mono HBD.out.size))
 clear hb2
 repeat (refine RK.take (by rfl) (by intro W hW;go_simp;with_reducible rfl) ?_;simp only [Act.put,List.setIfInBounds_toArray,List.set_cons_zero,List.set_cons_succ])
 refine RK.done ?_
 go_wp2_with fail
 go_ret
 exact ⟨rfl,HB2.out⟩
end Go.Proofs.YtdfibahafilklaaGreatDoor.WL
