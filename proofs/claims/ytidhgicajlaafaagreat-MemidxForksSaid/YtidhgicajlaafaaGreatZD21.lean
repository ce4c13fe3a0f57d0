import Derived.Test.YtidhgicajlaafaaGreatZD14
import Derived.Test.YtidhgicajlaafaaGreatZD17
import Derived.Test.YtidhgicajlaafaaGreatZD19
import Derived.Test.YtidhgicajlaafaaGreatZD20
set_option maxRecDepth 100000
set_option maxHeartbeats 8000000
set_option linter.unusedVariables false
set_option linter.unusedSimpArgs false
namespace Go.Proofs.YtidhgicajlaafaaGreat.MX
open Go Go.RowKit MM EM SM
open EV (fldC sizeW IntLeft)
def Row8 (w:World) (g:Nat) (n s a b c d:Int) (dv mv:Value):Prop:=w.heap[g]? = some (.cells #[.int .i64 n,.int .i64 s,.int .i64 a,.int .i64 b,.int .i64 c,.int .i64 d,dv,mv] 60 (0,0))
section
variable {w w' : World} {g : Nat} {n s a b c d : Int} {dv mv : Value}
theorem Row8.lt (h:Row8 w g n s a b c d dv mv):g<w.heap.size:=(Array.getElem?_eq_some_iff.1 h).1
theorem Row8.keep {S:Nat→Prop} (h:Row8 w g n s a b c d dv mv) (hk:Kep S w w') (hS:S g):Row8 w' g n s a b c d dv mv:=(hk.block g h.lt hS).trans h
theorem Row8.all (h:Row8 w g n s a b c d dv mv):(w.cell? ⟨g,0,none⟩=some (.int .i64 n)∧w.cell? ⟨g,1,none⟩=some (.int .i64 s)∧w.cell? ⟨g,2,none⟩=some (.int .i64 a)∧w.cell? ⟨g,3,none⟩=some (.int .i64 b)∧w.cell? ⟨g,4,none⟩=some (.int .i64 c)∧w.cell? ⟨g,5,none⟩=some (.int .i64 d)∧w.cell? ⟨g,6,none⟩=some dv∧w.cell? ⟨g,7,none⟩=some mv)∧∀ i,w.frozen? ⟨g,i,none⟩=false :=
 ⟨⟨row_cell h 0,row_cell h 1,row_cell h 2,row_cell h 3,row_cell h 4,row_cell h 5,row_cell h 6,row_cell h 7⟩,fun i=>frozen_of_row w g i _ _ h⟩
theorem Row8.s0 (h:Row8 w g n s a b c d dv mv) (x:Int):Row8 (w.setCell ⟨g,0,none⟩ (.int .i64 x)) g x s a b c d dv mv:=heap_setCell_same w g 0 _ _ _ h
theorem Row8.s1 (h:Row8 w g n s a b c d dv mv) (x:Int):Row8 (w.setCell ⟨g,1,none⟩ (.int .i64 x)) g n x a b c d dv mv:=heap_setCell_same w g 1 _ _ _ h
theorem Row8.s2 (h:Row8 w g n s a b c d dv mv) (x:Int):Row8 (w.setCell ⟨g,2,none⟩ (.int .i64 x)) g n s x b c d dv mv:=heap_setCell_same w g 2 _ _ _ h
theorem Row8.s3 (h:Row8 w g n s a b c d dv mv) (x:Int):Row8 (w.setCell ⟨g,3,none⟩ (.int .i64 x)) g n s a x c d dv mv:=heap_setCell_same w g 3 _ _ _ h
theorem Row8.s4 (h:Row8 w g n s a b c d dv mv) (x:Int):Row8 (w.setCell ⟨g,4,none⟩ (.int .i64 x)) g n s a b x d dv mv:=heap_setCell_same w g 4 _ _ _ h
theorem Row8.s5 (h:Row8 w g n s a b c d dv mv) (x:Int):Row8 (w.setCell ⟨g,5,none⟩ (.int .i64 x)) g n s a b c x dv mv:=heap_setCell_same w g 5 _ _ _ h
theorem Row8.s6 (h:Row8 w g n s a b c d dv mv) (x:Value):Row8 (w.setCell ⟨g,6,none⟩ x) g n s a b c d x mv:=heap_setCell_same w g 6 _ _ _ h
end
def Box3 (w:World) (q:Nat) (x y:Int) (v:Value):Prop:=w.heap[q]? = some (.cells #[.int .i64 x,.int .i64 y,v] 67 (0,0))
section
variable {w w' : World} {q : Nat} {x y : Int} {v : Value}
theorem Box3.lt (h:Box3 w q x y v):q<w.heap.size:=(Array.getElem?_eq_some_iff.1 h).1
theorem Box3.keep {S:Nat→Prop} (h:Box3 w q x y v) (hk:Kep S w w') (hS:S q):Box3 w' q x y v:=(hk.block q h.lt hS).trans h
theorem Box3.all (h:Box3 w q x y v):w.cell? ⟨q,0,none⟩=some (.int .i64 x)∧w.cell? ⟨q,1,none⟩=some (.int .i64 y)∧w.cell? ⟨q,2,none⟩=some v:=⟨row_cell h 0,row_cell h 1,row_cell h 2⟩
end
def CountLeft (g:Nat) (n s a b c d:Int) (dv mv:Value) (w:World) (e:Ending) (w':World):Prop:=e=.returned (.tuple #[])∧Row8 w' g n s a b c d dv mv∧Kep (fun k=>k≠g) w w'
theorem count_row (g:Nat) (n s a b c d sq t:Int) (dv mv fv:Value) (fs:List Fld) (w:World) (hg:Row8 w g n s a b c d dv mv) (hf:ROn fldC (fun b=>b≠g) w fv fs) (h0:0≤n) (h1:n≤65536) (hs0:0≤s) (hs1:s≤1000000000000) (hfl:sizeF fs≤1000000) :
  Calls Tryz.prog 46 #[.pointer (some ⟨g,0,none⟩),.agg #[.int .i64 sq,.int .i64 t,fv]] w
   (CountLeft g (n+1) (s+(16+sizeF fs:Nat)) (min (if n=0 then t else a) t) (max (if n=0 then t else b) t) (if n=0 then sq else c) sq dv mv w):=by
 obtain ⟨pf,cf,rfl,_⟩:=hf.shape
 obtain ⟨R,hR⟩:∃ R,CountLeft g (n+1) (s+(16+sizeF fs:Nat)) (min (if n=0 then t else a) t) (max (if n=0 then t else b) t) (if n=0 then sq else c) sq dv mv w=R:=⟨_,rfl⟩
 rw [hR]
 have HR:=Lib.hid hR
 obtain ⟨q,hq⟩:∃ q,w.heap.size=q:=⟨_,rfl⟩
 obtain ⟨w0,hw0⟩:∃ w0,w.alloc (.cells #[.int .i64 sq,.int .i64 t,.slice pf fs.length cf] 67)=w0:=⟨_,rfl⟩
 have hb0:Below w.heap.size w w0:=by rw [← hw0];exact (Below.refl _ _).alloc (Nat.le_refl _) _
 have hx:Box3 w0 q sq t (.slice pf fs.length cf):=by rw [← hw0,← hq];exact heap_alloc_new _ _
 have hg0:Row8 w0 g n s a b c d dv mv:=hg.keep (kep_below (fun _=>True) hb0) trivial
 have hgq:g<q:=by rw [← hq];exact hg.lt
 have hk0:Kep (fun k=>k≠g) w w0:=kep_below _ hb0
 have HK0:=Lib.hid hk0
 have HF:=Lib.hid hf
 have HW0:=Lib.hid hw0
 have HX0:=Lib.hid hx
 have HG0:=Lib.hid hg0
 have hsz:=EV.sizeW_small (fs:=fs) (by omega)
 obtain ⟨Z,hZ⟩:∃ Z:Int,((16+sizeF fs:Nat):Int)=Z:=⟨_,rfl⟩
 have hZ0:0≤Z:=by omega
 have hZ1:Z≤1000016:=by omega
 rw [hZ] at hsz HR
 have HSZ:=Lib.hid hsz
 have HWZ:Hid (IntKind.i64.wrap (s+Z)=s+Z):=Lib.hid (by rw [IntWalk.i64_left];exact IntWalk.wrap64_in _ ⟨by omega,by omega⟩)
 clear hZ
 have hmx:Tryz.prog.follows .mixedOrders=true:=by kernel_rfl
 have HB0:=Lib.hid hb0
 clear hw0 hb0 hk0 hf hg hR
 obtain ⟨⟨c0,c1,c2,c3,c4,c5,c6,c7⟩,hfr⟩:=hg0.all
 obtain ⟨x0,x1,x2⟩:=hx.all
 have f0:=hfr 0
 clear hg0 hx hsz hfr
 have hwr:IntKind.i64.wrap (n+1)=n+1:=by rw [IntWalk.i64_left];exact IntWalk.wrap64_in _ ⟨by omega,by omega⟩
 go_enter Tryz.func46,Tryz.ntmps46
 by_cases hn0:n=0
 case' pos =>
  have q1:(n == 0)=true:=by rw [hn0];rfl
  have HN0:=Lib.hid hn0
  clear hn0
  go_wp2_with (rw [HW0.out])
  obtain ⟨wd,hwd⟩:∃ wd,w0.drew=wd:=⟨_,rfl⟩
  have hG:=HG0.out.keep (w':=wd) (by rw [← hwd];exact kep_draw (fun _=>True) _) trivial
  have hX:=HX0.out.keep (w':=wd) (by rw [← hwd];exact kep_draw (fun _=>True) _) trivial
  have HXL:=Lib.hid (fun W (hW:Kep (fun k=>k≠g) wd W)=>(hX.keep hW (by omega)).all)
  have HWD:Hid (w0.drew=wd):=Lib.hid hwd
  have HG1:=Lib.hid hG
  have HKD:Hid (Kep (fun k=>k≠g) w wd):=Lib.hid (by rw [← hwd];exact HK0.out.drew)
  have HXB0:=Lib.hid hX
  clear hwd hG hX
  refine RT.begin_ (T:=fun k=>k≠g) (.take 0<|.take 1<|.take 2<|.take 3<|.take 4<|.take 5<|.take 6<|.take 7<|.take 8<|.take 9<|.alone 10<|.take 11<|.take 12<|.alone 13<|.done) hmx (by kernel_rfl) rfl (by kernel_rfl) (fun _ _ d _ _ h=>by cases d<;>exact h) ?_
  simp only [RT.ordered,List.getElem?_toArray,List.getElem?_cons_succ,List.getElem?_cons_zero]
  rw [HWD.out]
  repeat (refine RT.take (by rfl) (by intro W' hW;obtain ⟨g0,g1,g2⟩:=HXL.out W' hW;go_simp;with_reducible rfl) ?_;simp only [Act.put,List.setIfInBounds_toArray,List.set_cons_zero,List.set_cons_succ])
  refine RT.alone (RT.step (by rfl) (fun K hK => ?_))
  obtain ⟨⟨c0,c1,c2,c3,c4,c5,c6,c7⟩,hfr⟩:=HG1.out.all
  have f2:=hfr 2
  go_simp
  have hG2:=HG1.out.s2 t
  have hk2:Kep (fun k=>k≠g) wd (wd.setCell ⟨g,2,none⟩ (.int .i64 t)):=kep_set (by simp) _
  generalize wd.setCell ⟨g,2,none⟩ (.int .i64 t)=w2 at *
  refine hK.out _ _ hk2 ?_
  clear hK K c0 c1 c2 c3 c4 c5 c6 c7 hfr f2
  try simp only [Act.put,List.setIfInBounds_toArray,List.set_cons_zero,List.set_cons_succ]
  have HG2:=Lib.hid hG2
  have HK2:=Lib.hid (HKD.out.trans hk2)
  have HXL2:=Lib.hid (fun W (hW:Kep (fun k=>k≠g) w2 W)=>HXL.out W (hk2.trans hW))
  have hk2':=Lib.hid hk2
  clear hG2 hk2
  repeat (refine RT.take (by rfl) (by intro W' hW;obtain ⟨g0,g1,g2⟩:=HXL2.out W' hW;go_simp;with_reducible rfl) ?_;simp only [Act.put,List.setIfInBounds_toArray,List.set_cons_zero,List.set_cons_succ])
  refine RT.alone (RT.step (by rfl) (fun K hK => ?_))
  obtain ⟨⟨c0,c1,c2,c3,c4,c5,c6,c7⟩,hfr⟩:=HG2.out.all
  have f3:=hfr 3
  go_simp
  have hG3:=HG2.out.s3 t
  have hk3:Kep (fun k=>k≠g) w2 (w2.setCell ⟨g,3,none⟩ (.int .i64 t)):=kep_set (by simp) _
  generalize w2.setCell ⟨g,3,none⟩ (.int .i64 t)=w3 at *
  refine hK.out _ _ hk3 ?_
  clear hK K c0 c1 c2 c3 c4 c5 c6 c7 hfr f3
  have hG4:=hG3.s4 sq
  have hk4:Kep (fun k=>k≠g) w3 (w3.setCell ⟨g,4,none⟩ (.int .i64 sq)):=kep_set (by simp) _
  obtain ⟨w4,hw4⟩:∃ w4,w3.setCell ⟨g,4,none⟩ (.int .i64 sq)=w4:=⟨_,rfl⟩
  rw [hw4] at hG4 hk4
  obtain ⟨⟨c0,c1,c2,c3,c4,c5,c6,c7⟩,hfr⟩:=hG3.all
  have f4:=hfr 4
  obtain ⟨x0,x1,x2⟩:=HXL2.out w3 hk3
  have HW4:=Lib.hid hw4
  have hG4':Row8 w4 g n s (if n=0 then t else a) (if n=0 then t else b) (if n=0 then sq else c) d dv mv:=by rw [if_pos HN0.out,if_pos HN0.out,if_pos HN0.out];exact hG4
  obtain ⟨⟨e0,_⟩,hfr4⟩:=hG4'.all
  have f40:=hfr4 0
  obtain ⟨w5,hw5⟩:∃ w5,w4.setCell ⟨g,0,none⟩ (.int .i64 (n+1))=w5:=⟨_,rfl⟩
  have hG5:=hG4'.s0 (n+1)
  have hk5:Kep (fun k=>k≠g) w4 (w4.setCell ⟨g,0,none⟩ (.int .i64 (n+1))):=kep_set (by simp) _
  rw [hw5] at hG5 hk5
  have HG5:=Lib.hid hG5
  have HW5:=Lib.hid hw5
  have HXB:Hid (Box3 w5 q sq t (.slice pf fs.length cf)):=Lib.hid (HXB0.out.keep (((hk2'.out.trans hk3).trans hk4).trans hk5) (by omega))
  have HK5:=Lib.hid (((HK2.out.trans hk3).trans hk4).trans hk5)
  clear hG3 hG4 hG4' hk3 hk4 hk5 hw4 hw5 hfr hfr4 HXL HXL2 HK2 HG2 HG1 HKD HWD HG0 HX0 HW0 HK0 hG5 HN0 q1 HXB0 hk2'
  refine RT.done ?_
  go_wp2_with (first | (rw [HW4.out]) | (rw [HW5.out]))
  clear f4 c0 c1 c2 c3 c4 c5 c6 c7 e0 f40 x0 x1 x2 HW4 HW5 hwr
 case' neg =>
  have q1:(n == 0)=false:=by simp [hn0]
  have HN0:=Lib.hid hn0
  obtain ⟨w5,hw5⟩:∃ w5,w0.setCell ⟨g,0,none⟩ (.int .i64 (n+1))=w5:=⟨_,rfl⟩
  have hG4':Row8 w0 g n s (if n=0 then t else a) (if n=0 then t else b) (if n=0 then sq else c) d dv mv:=by rw [if_neg hn0,if_neg hn0,if_neg hn0];exact HG0.out
  have hG5:=hG4'.s0 (n+1)
  have hk5:Kep (fun k=>k≠g) w0 (w0.setCell ⟨g,0,none⟩ (.int .i64 (n+1))):=kep_set (by simp) _
  rw [hw5] at hG5 hk5
  have HG5:=Lib.hid hG5
  have HW5:=Lib.hid hw5
  have HXB:Hid (Box3 w5 q sq t (.slice pf fs.length cf)):=Lib.hid (HX0.out.keep hk5 (by omega))
  have HK5:=Lib.hid (HK0.out.trans hk5)
  clear hn0 hw5 hG4' hG5 hk5 HG0 HX0 HK0 HN0
  go_wp2_with (first | (rw [HW0.out]) | (rw [HW5.out]))
  clear c0 c1 c2 c3 c4 c5 c6 c7 f0 x0 x1 x2 HW0 HW5 hwr q1
 all_goals
  obtain ⟨A1,hA1⟩:∃ x,(if n=0 then t else a)=x:=⟨_,rfl⟩
  obtain ⟨B1,hB1⟩:∃ x,(if n=0 then t else b)=x:=⟨_,rfl⟩
  obtain ⟨C1,hC1⟩:∃ x,(if n=0 then sq else c)=x:=⟨_,rfl⟩
  rw [hA1,hB1,hC1] at HG5 HR
  clear hA1 hB1 hC1
  obtain ⟨wd,hwd⟩:∃ wd,w5.drew=wd:=⟨_,rfl⟩
  have hkd:Kep (fun _=>True) w5 wd:=by rw [← hwd];exact kep_draw _ _
  have hGd:=HG5.out.keep hkd trivial
  have HGL:=Lib.hid (fun W (hW:Kep (fun _=>True) wd W)=>(hGd.keep hW trivial).all.1)
  have hXd:=HXB.out.keep hkd trivial
  have HXL:=Lib.hid (fun W (hW:Kep (fun _=>True) wd W)=>(hXd.keep hW trivial).all)
  have HXBD:=Lib.hid hXd
  have hfd:RAny fldC wd (.slice pf fs.length cf) fs:=ROn.keep HF.out (HK5.out.trans (hkd.mono fun _ _=>trivial)) fun _ _ _=>trivial
  have HFD:=Lib.hid hfd
  have HGD:=Lib.hid hGd
  have HKD:=Lib.hid (HK5.out.trans (hkd.mono fun _ _=>trivial))
  have HWD:=Lib.hid hwd
  clear hkd hGd hfd hwd HG5 HXB HK5 hXd
  refine RS.begin_ (T:=fun _=>True) [(0,true),(1,true),(2,true),(3,true),(4,true),(5,true),(6,false),(7,true),(8,true),(9,true)] hmx (by kernel_rfl) (fun _ _ d _ _ h=>by cases d<;>exact h) ?_
  simp only [RS.ordered,List.map_cons,List.map_nil,List.getElem?_toArray,List.getElem?_cons_succ,List.getElem?_cons_zero]
  rw [HWD.out]
  repeat (refine RS.take (by rfl) (by intro W hW;obtain ⟨c0,c1,c2,c3,c4,c5,c6,c7⟩:=HGL.out W hW;obtain ⟨x0,x1,x2⟩:=HXL.out W hW;go_simp;with_reducible rfl) ?_;simp only [Act.put,List.setIfInBounds_toArray,List.set_cons_zero,List.set_cons_succ])
  refine RS.alone (by rfl) (fun K hK => ?_)
  go_simp
  refine (EV.size_any t (.slice pf fs.length cf) fs wd HFD.out).mono ?_
  rintro e w6 ⟨rfl,hb6⟩
  go_simp
  refine hK.out _ _ (kep_below _ hb6) ?_
  clear hK K
  rw [HSZ.out]
  have hk6:Kep (fun _=>True) wd w6:=kep_below _ hb6
  have HG6:=Lib.hid (HGD.out.keep hk6 trivial)
  have HX6:=Lib.hid (HXBD.out.keep hk6 trivial)
  have HK6:=Lib.hid (HKD.out.trans (hk6.mono fun _ _=>trivial))
  clear hb6 hk6 HGD HXBD HKD HWD HGL HXL HFD
  have hwz:=HWZ.out
  repeat (refine RS.take (by rfl) (by intro W hW;go_simp;with_reducible rfl) ?_;simp only [Act.put,List.setIfInBounds_toArray,List.set_cons_zero,List.set_cons_succ])
  refine RS.done ?_
  clear hwz
  obtain ⟨⟨_,c1,_⟩,hfr⟩:=HG6.out.all
  have f1:=hfr 1
  obtain ⟨w7,hw7⟩:∃ w7,w6.setCell ⟨g,1,none⟩ (.int .i64 (s+Z))=w7:=⟨_,rfl⟩
  have hG7:=HG6.out.s1 (s+Z)
  have hk7:Kep (fun k=>k≠g) w6 (w6.setCell ⟨g,1,none⟩ (.int .i64 (s+Z))):=kep_set (by simp) _
  rw [hw7] at hG7 hk7
  have HG7:=Lib.hid hG7
  have HX7:=Lib.hid (HX6.out.keep hk7 (by omega))
  have HK7:=Lib.hid (HK6.out.trans hk7)
  have HW7:=Lib.hid hw7
  clear hfr hG7 hk7 hw7 HG6 HX6 HK6
  simp only [List.length_cons,List.length_nil,List.drop_succ_cons,List.drop_zero]
  go_wp2_with (rw [HW7.out])
  clear c1 f1 HW7
  obtain ⟨wd,hwd⟩:∃ wd,w7.drew=wd:=⟨_,rfl⟩
  have hkd:Kep (fun _=>True) w7 wd:=by rw [← hwd];exact kep_draw _ _
  have hGd:=HG7.out.keep hkd trivial
  have hXd:=HX7.out.keep hkd trivial
  have HGL:=Lib.hid (fun W (hW:Kep (fun _=>True) wd W)=>(hGd.keep hW trivial).all.1)
  have HXL:=Lib.hid (fun W (hW:Kep (fun _=>True) wd W)=>(hXd.keep hW trivial).all)
  have HGD:=Lib.hid hGd
  have HXD:=Lib.hid hXd
  have HKD:=Lib.hid (HK7.out.trans (hkd.mono fun _ _=>trivial))
  have HWD:=Lib.hid hwd
  clear hkd hGd hXd hwd HG7 HX7 HK7
  refine RS.begin_ (T:=fun _=>True) [(0,true),(1,true),(2,true),(3,true),(4,true),(5,true),(6,true),(7,true),(8,true),(9,true),(10,true)] hmx (by kernel_rfl) (fun _ _ d _ _ h=>by cases d<;>exact h) ?_
  simp only [RS.ordered,List.map_cons,List.map_nil,List.getElem?_toArray,List.getElem?_cons_succ,List.getElem?_cons_zero]
  rw [HWD.out]
  repeat (refine RS.take (by rfl) (by intro W hW;obtain ⟨c0,c1,c2,c3,c4,c5,c6,c7⟩:=HGL.out W hW;obtain ⟨x0,x1,x2⟩:=HXL.out W hW;go_simp;with_reducible rfl) ?_;simp only [Act.put,List.setIfInBounds_toArray,List.set_cons_zero,List.set_cons_succ])
  refine RS.done ?_
  obtain ⟨⟨c0,c1,c2,c3,c4,c5,c6,c7⟩,hfr⟩:=HGD.out.all
  have f2:=hfr 2
  obtain ⟨w8,hw8⟩:∃ w8,wd.setCell ⟨g,2,none⟩ (.int .i64 (min A1 t))=w8:=⟨_,rfl⟩
  have hG8:=HGD.out.s2 (min A1 t)
  have hk8:Kep (fun k=>k≠g) wd (wd.setCell ⟨g,2,none⟩ (.int .i64 (min A1 t))):=kep_set (by simp) _
  rw [hw8] at hG8 hk8
  have HG8:=Lib.hid hG8
  have hX8:=HXD.out.keep hk8 (by omega)
  have HX8:=Lib.hid hX8
  have HK8:=Lib.hid (HKD.out.trans hk8)
  have HW8:=Lib.hid hw8
  clear hk8 hw8 HGD HXD HKD HWD HGL HXL hG8 hX8 hfr
  simp only [List.length_cons,List.length_nil,List.drop_succ_cons,List.drop_zero]
  go_wp2_with (rw [HW8.out])
  clear c0 c1 c2 c3 c4 c5 c6 c7 f2 HW8
  obtain ⟨wd,hwd⟩:∃ wd,w8.drew=wd:=⟨_,rfl⟩
  have hkd:Kep (fun _=>True) w8 wd:=by rw [← hwd];exact kep_draw _ _
  have hGd:=HG8.out.keep hkd trivial
  have hXd:=HX8.out.keep hkd trivial
  have HGL:=Lib.hid (fun W (hW:Kep (fun _=>True) wd W)=>(hGd.keep hW trivial).all.1)
  have HXL:=Lib.hid (fun W (hW:Kep (fun _=>True) wd W)=>(hXd.keep hW trivial).all)
  have HGD:=Lib.hid hGd
  have HXD:=Lib.hid hXd
  have HKD:=Lib.hid (HK8.out.trans (hkd.mono fun _ _=>trivial))
  have HWD:=Lib.hid hwd
  clear hkd hGd hXd hwd HG8 HX8 HK8
  refine RS.begin_ (T:=fun _=>True) [(0,true),(1,true),(2,true),(3,true),(4,true),(5,true),(6,true),(7,true),(8,true),(9,true),(10,true)] hmx (by kernel_rfl) (fun _ _ d _ _ h=>by cases d<;>exact h) ?_
  simp only [RS.ordered,List.map_cons,List.map_nil,List.getElem?_toArray,List.getElem?_cons_succ,List.getElem?_cons_zero]
  rw [HWD.out]
  repeat (refine RS.take (by rfl) (by intro W hW;obtain ⟨c0,c1,c2,c3,c4,c5,c6,c7⟩:=HGL.out W hW;obtain ⟨x0,x1,x2⟩:=HXL.out W hW;go_simp;with_reducible rfl) ?_;simp only [Act.put,List.setIfInBounds_toArray,List.set_cons_zero,List.set_cons_succ])
  refine RS.done ?_
  obtain ⟨⟨c0,c1,c2,c3,c4,c5,c6,c7⟩,hfr⟩:=HGD.out.all
  have f3:=hfr 3
  obtain ⟨w9,hw9⟩:∃ w9,wd.setCell ⟨g,3,none⟩ (.int .i64 (max B1 t))=w9:=⟨_,rfl⟩
  have hG9:=HGD.out.s3 (max B1 t)
  have hk9:Kep (fun k=>k≠g) wd (wd.setCell ⟨g,3,none⟩ (.int .i64 (max B1 t))):=kep_set (by simp) _
  rw [hw9] at hG9 hk9
  have HG9:=Lib.hid hG9
  have hX9:=HXD.out.keep hk9 (by omega)
  have HX9:=Lib.hid hX9
  have HK9:=Lib.hid (HKD.out.trans hk9)
  have HW9:=Lib.hid hw9
  obtain ⟨⟨e0,e1,e2,e3,e4,e5,e6,e7⟩,hfe⟩:=hG9.all
  have f5:=hfe 5
  obtain ⟨y0,y1,y2⟩:=hX9.all
  obtain ⟨w10,hw10⟩:∃ w10,w9.setCell ⟨g,5,none⟩ (.int .i64 sq)=w10:=⟨_,rfl⟩
  have hG10:=hG9.s5 sq
  have hk10:Kep (fun k=>k≠g) w9 (w9.setCell ⟨g,5,none⟩ (.int .i64 sq)):=kep_set (by simp) _
  rw [hw10] at hG10 hk10
  have HG10:=Lib.hid hG10
  have HK10:=Lib.hid (HK9.out.trans hk10)
  have HW10:=Lib.hid hw10
  clear hG10 hk10 hw10 hfe
  clear hk9 hw9 HGD HXD HKD HWD HGL HXL hG9 hX9 hfr
  simp only [List.length_cons,List.length_nil,List.drop_succ_cons,List.drop_zero]
  go_wp2_with (first | (rw [HW9.out]) | (rw [HW10.out]))
  refine bodyPost_end (results_none rfl _ _ _) rfl ?_
  rw [← HR.out]
  exact ⟨rfl,HG10.out,HK10.out⟩
end Go.Proofs.YtidhgicajlaafaaGreat.MX
