import Derived.Test.YtdfibahafilklaaGreatDoorZC13
import Derived.Test.YtdfibahafilklaaGreatDoorZC26
set_option maxRecDepth 100000
set_option maxHeartbeats 8000000
set_option linter.unusedVariables false
set_option linter.unusedSimpArgs false
namespace Go.Proofs.YtdfibahafilklaaGreatDoor.WL
open Go Go.RowKit MM WM DK
theorem find_no4 (ok st there:Bool):findE ok st there≠4:=by cases ok<;>cases st<;>cases there<;>decide
theorem read_no4 (d:DiskD) (n:List UInt8) (a m:Int):(creadD d n a m).2≠4:=by
 unfold creadD
 split
 ·unfold partD
  split<;>simp
 ·exact find_no4 _ _ _
theorem nobodys_disk {S:Nat→Prop} {w:World} {g mb:Nat} {V:List UInt8→Value} {c:Int} {d:DiskD} (h:CObj S w g mb V c d) (hF:Fits d):Calls Tryz.prog 51 #[.pointer (some ⟨g,0,none⟩)] w fun e w'=>e=.returned (.bool false)∧Below w.heap.size w w':=by
 have hR:=cread_any S g mb V c d [108,111,103,45,48,48,48,48,48,48,48,48] 0 0 w h hF (by decide) (by omega) (by omega) (by omega) (by omega)
 have h4:=read_no4 d [108,111,103,45,48,48,48,48,48,48,48,48] 0 0
 unfold PartC at hR
 obtain ⟨⟨x,er⟩,hx⟩:∃ x,creadD d [108,111,103,45,48,48,48,48,48,48,48,48] 0 0=x:=⟨_,rfl⟩
 rw [hx] at hR h4
 have t1:(er == 4)=false:=by rw [beq_eq_false_iff_ne];exact h4
 have HR:=Lib.hid hR
 clear hR h4 hx h hF
 go_enter Tryz.func51,Tryz.ntmps51
 go_wp2_with fail
 refine HR.out.mono ?_
 rintro e w1 ⟨v,rfl,_,hb1⟩
 have HB1:=Lib.hid hb1
 clear hb1 HR
 go_wp2_with fail
 go_ret
 exact ⟨by first | rfl | (rw [show (er == 4)=false from t1]),HB1.out⟩
theorem nobodys_nob (v:Value) (w:World) (h:Nob w v):Calls Tryz.prog 51 #[v] w fun e w'=>e=.returned (.bool true)∧Below w.heap.size w w':=by
 have HR:=Lib.hid (nob_read w v h ⟨#[108,111,103,45,48,48,48,48,48,48,48,48]⟩ 0 0)
 obtain ⟨p,rfl⟩:=h.shape
 clear h
 go_enter Tryz.func51,Tryz.ntmps51
 go_wp2_with fail
 refine HR.out.mono ?_
 rintro e w1 ⟨rfl,hb1⟩
 have HB1:=Lib.hid hb1
 clear hb1 HR
 go_wp2_with fail
 go_ret
 exact ⟨rfl,HB1.out⟩
def WrtAt (w:World) (gw g n:Nat):Prop:=Three w gw 90 (.pointer (some ⟨g,0,none⟩)) (.string ⟨(nameW n).toArray⟩) (.int .i64 (n:Int))
theorem nameW_ne (n:Nat):(((⟨(nameW n).toArray⟩:ByteArray).toList) != ((⟨#[]⟩:ByteArray).toList))=true:=by
 rw [show (⟨#[]⟩:ByteArray)=⟨([]:List UInt8).toArray⟩ from rfl,bne,same_list,decide_eq_false (by unfold nameW;exact List.cons_ne_nil _ _)]
 rfl
theorem made_any (w:World) (gw g n:Nat) (h:WrtAt w gw g n):Calls Tryz.prog 52 #[.pointer (some ⟨gw,0,none⟩)] w fun e w'=>e=.returned (.bool true)∧w=w':=by
 obtain ⟨c0,c1,c2⟩:=h.cells
 have hne:=nameW_ne n
 have hlt:=h.lt
 clear h
 have ht:(nameW n == [])=false:=rfl
 generalize nameW n=s at *
 go_enter Tryz.func52,Tryz.ntmps52
 go_wp2_with fail
 go_ret
 exact ⟨by first | rfl | simp_all,rfl⟩
theorem wnumber_any (w:World) (gw g n:Nat) (h:WrtAt w gw g n):Calls Tryz.prog 34 #[.pointer (some ⟨gw,0,none⟩)] w fun e w'=>e=.returned (.int .i64 (n:Int))∧w=w':=by
 obtain ⟨c0,c1,c2⟩:=h.cells
 have HM:=Lib.hid (made_any w gw g n h)
 have hlt:=h.lt
 clear h
 generalize nameW n=s at *
 go_enter Tryz.func34,Tryz.ntmps34
 go_wp2_with fail
 refine HM.out.mono ?_
 rintro e w1 ⟨rfl,rfl⟩
 clear HM
 go_wp2_with fail
 go_ret
 exact ⟨rfl,rfl⟩
def OpenLeft (g n:Nat) (w:World) (e:Ending) (w':World):Prop:=∃ gw,e=.returned (.tuple #[.pointer (some ⟨gw,0,none⟩),.int .i64 0])∧w.heap.size≤gw∧WrtAt w' gw g n∧Below w.heap.size w w'
theorem open_any {S:Nat→Prop} {w:World} {g mb:Nat} {V:List UInt8→Value} {c:Int} {d:DiskD} (h:CObj S w g mb V c d) (hF:Fits d) (n:Nat) (hn:n≤99999999) (hT:TabsW w):Calls Tryz.prog 18 #[.pointer (some ⟨g,0,none⟩),.int .i64 (n:Int)] w (OpenLeft g n w):=by
 have HN:=Lib.hid (nobodys_disk h hF)
 have HA:=Lib.hid (fun W h=>name_any (n:Int) W h)
 unfold NameLeft at HA
 have hi:nameI (n:Int)=(nameW n,0):=by
  unfold nameI
  rw [if_neg (by omega)]
  simp
 rw [hi] at HA
 have HT:=Lib.hid hT
 clear h hF hT hi
 unfold OpenLeft WrtAt
 dsimp only at HA
 generalize nameW n=s at *
 go_enter Tryz.func18,Tryz.ntmps18
 go_wp2_with fail
 refine HN.out.mono ?_
 rintro e w1 ⟨rfl,hb1⟩
 have HT1:=Lib.hid (HT.out.below hb1)
 have HB1:=Lib.hid hb1
 clear hb1 HN HT
 go_wp2_with fail
 refine (HA.out _ HT1.out).mono ?_
 rintro e w2 ⟨rfl,hb2⟩
 have HB2:=Lib.hid (HB1.out.trans (hb2.mono HB1.out.size))
 clear hb2 HA HB1
 go_wp2_with fail
 go_ret2
 refine ⟨w2.heap.size,rfl,HB2.out.size,three_new w2 _ _ _ _,HB2.out.trans (((Below.refl _ _).alloc (Nat.le_refl _) _).mono HB2.out.size)⟩
theorem open_nob (v:Value) (z:Int) (w:World) (h:Nob w v):Calls Tryz.prog 18 #[v,.int .i64 z] w fun e w'=>e=.returned (.tuple #[.pointer none,.int .i64 4])∧Below w.heap.size w w':=by
 have HN:=Lib.hid (nobodys_nob v w h)
 obtain ⟨p,rfl⟩:=h.shape
 clear h
 go_enter Tryz.func18,Tryz.ntmps18
 go_wp2_with fail
 refine HN.out.mono ?_
 rintro e w1 ⟨rfl,hb1⟩
 have HB1:=Lib.hid hb1
 clear hb1 HN
 go_wp2_with fail
 go_ret2
 exact ⟨rfl,HB1.out⟩
theorem size_is (d:DiskD) (n:Nat):(if findE (namedL (nameW n)) d.stopped (findL d.L (nameW n)).isSome=0 then ((curB d (nameW n)).length:Int) else 0)=((sizeW d n:Nat):Int):=by
 rw [nameW_ok]
 unfold sizeW bytesW curB findE
 cases d.stopped<;>cases findL d.L (nameW n)<;>simp
theorem wsize_any {S:Nat→Prop} {w:World} {g mb:Nat} {V:List UInt8→Value} {c:Int} {d:DiskD} (h:CObj S w g mb V c d) (gw n:Nat) (hw:WrtAt w gw g n):Calls Tryz.prog 35 #[.pointer (some ⟨gw,0,none⟩)] w fun e w'=>e=.returned (.int .i64 ((sizeW d n:Nat):Int))∧Below w.heap.size w w':=by
 have hmx:Tryz.prog.follows .mixedOrders=true:=by kernel_rfl
 have HM:=Lib.hid (made_any w gw g n hw)
 have hlt:=hw.lt
 have HC:=Lib.hid (fun W (hW:Below w.heap.size w W)=>csize_any S g mb V c d (nameW n) W (h.below hW) (by rw [nameW_len];omega))
 rw [size_is] at HC
 have HW:=Lib.hid hw
 clear h hw
 unfold WrtAt at HW
 generalize nameW n=s at *
 generalize sizeW d n=z at *
 generalize findE (namedL s) d.stopped (findL d.L s).isSome=x at *
 go_enter Tryz.func35,Tryz.ntmps35
 go_wp2_with fail
 refine HM.out.mono ?_
 rintro e w1 ⟨rfl,rfl⟩
 clear HM
 go_wp2_with fail
 refine RK.begin_ (T:=fun k=>k<w.heap.size) [(0,true),(1,true),(2,true),(3,true),(4,true),(5,true),(6,true),(7,true),(8,false),(9,true),(10,true),(12,true),(11,true),(13,true)] hmx (by kernel_rfl) rfl (by kernel_rfl) (fun _ _ d _ _ h=>by cases d<;>exact h) ?_
 simp only [RK.ordered,List.map_cons,List.map_nil,List.getElem?_toArray,List.getElem?_cons_succ,List.getElem?_cons_zero]
 obtain ⟨wd,hwd⟩:∃ wd,w.drew=wd:=⟨_,rfl⟩
 have hbd:Below w.heap.size w wd:=by rw [← hwd];exact (Below.refl _ _).drew
 have hwt:=HW.out.below hbd HW.out.lt
 have F0:=fun W (hW:Kep (fun k=>k<w.heap.size) wd W)=>(hwt.keep hW hlt).c0
 have F1:=fun W (hW:Kep (fun k=>k<w.heap.size) wd W)=>(hwt.keep hW hlt).c1
 have HBD:=Lib.hid hbd
 rw [hwd]
 clear hwd hbd hwt
 repeat (refine RK.take (by rfl) (by intro W hW;have f0:=F0 W hW;have f1:=F1 W hW;go_simp;with_reducible rfl) ?_;simp only [Act.put,List.setIfInBounds_toArray,List.set_cons_zero,List.set_cons_succ])
 refine RK.alone (by rfl) (fun K hK => ?_)
 go_simp
 refine (HC.out wd HBD.out).mono ?_
 rintro e w2 ⟨rfl,hb2⟩
 go_simp
 refine hK.out _ _ (kep_below _ hb2) ?_
 clear hK K F0 F1
 have HB2:=Lib.hid (HBD.out.trans (hb2.mono HBD.out.size))
 clear hb2
 repeat (refine RK.take (by rfl) (by intro W hW;go_simp;with_reducible rfl) ?_;simp only [Act.put,List.setIfInBounds_toArray,List.set_cons_zero,List.set_cons_succ])
 refine RK.done ?_
 go_wp2_with fail
 go_ret
 exact ⟨rfl,HB2.out⟩
end Go.Proofs.YtdfibahafilklaaGreatDoor.WL
