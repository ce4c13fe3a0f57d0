import Derived.Test.YtdijhifdjbnkfaaGreatZB18
import Derived.Test.YtdijhifdjbnkfaaGreatZB15
import Derived.Test.YtdijhifdjbnkfaaGreatZB10
import Derived.Test.YtdijhifdjbnkfaaGreatZB5
import Derived.RegionTactic
import Derived.ChangeAlike
import Derived.Test.YtdijhifdjbnkfaaGreatZB14
import Derived.Test.YtdijhifdjbnkfaaGreatZB6
import Derived.Test.YtdijhifdjbnkfaaGreatZB2
set_option linter.unusedVariables false
set_option linter.unusedSimpArgs false
namespace Go.Proofs.YtdijhifdjbnkfaaGreat.SG
open Go Go.RowKit Go.Proofs.YtdijhifdjbnkfaaGreat.MM Go.Proofs.YtdijhifdjbnkfaaGreat.VM Go.Proofs.YtdijhifdjbnkfaaGreat.VP Go.Proofs.YtdijhifdjbnkfaaGreat.VG
open Go.Proofs.YtdijhifdjbnkfaaGreat.EV (docC fldC doc_at intE)
open Go.Proofs.YtdijhifdjbnkfaaGreat.SM (Doc)
open Go.Proofs.YtdijhifdjbnkfaaGreat.GM (timesG lastT lastT_next lastT_snoc)
def stepsG:Int→List Doc→List Int
 | _,[]=>[]
 | a,d::r=>wrap64 (d.2.1 - a)::stepsG d.2.1 r
theorem stepsG_append:∀ (a b:List Doc) (z:Int),stepsG z (a++b)=stepsG z a++stepsG (lastT z a) b
 | [],b,z=>rfl
 | d::a,b,z=>by rw [List.cons_append,stepsG,stepsG,stepsG_append a b,lastT,List.cons_append]
theorem stepsG_next {l:List Doc} {k:Nat} (hk:k<l.length) (z:Int):stepsG z (l.take (k+1))=stepsG z (l.take k)++[wrap64 (l[k].2.1 - lastT z (l.take k))]:=by
 rw [List.take_succ_eq_append_getElem hk,stepsG_append,stepsG,stepsG]
theorem stepsG_len:∀ (l:List Doc) (z:Int),(stepsG z l).length=l.length
 | [],_=>rfl
 | d::l,z=>by rw [stepsG,List.length_cons,List.length_cons,stepsG_len l]
theorem stepsG_all:∀ (l:List Doc) (z:Int),allL (stepsG z l)=timesG z l
 | [],_=>rfl
 | d::l,z=>by
   have e:allL (stepsG z (d::l))=intL (wrap64 (d.2.1 - z))++allL (stepsG d.2.1 l):=by simp [stepsG,allL]
   rw [e,timesG,stepsG_all l,IntWalk.i64_left]
theorem fits_all {zs:List Int} (h:∀ z∈zs, -9223372036854775808≤z∧z≤9223372036854775807):Fits zs:=fun k hk=>by
 have e:zs.getD k 0=zs[k]:=by simp [List.getD,hk]
 rw [e]
 exact h _ (List.getElem_mem hk)
theorem stepsG_fits:∀ (l:List Doc) (z:Int),∀ x∈stepsG z l, -9223372036854775808≤x∧x≤9223372036854775807
 | d::l,z,x,h=>by
   rw [stepsG,List.mem_cons] at h
   rcases h with rfl | h
   ·have:=i64_in (d.2.1 - z)
    rwa [IntWalk.i64_left] at this
   ·exact stepsG_fits l d.2.1 x h
theorem ints_row {S:Nat→Prop} {w:World} {v:Value} {zs:List Int} (h:ROn cInt S w v zs):IRow w v zs:=ron_row (B:=w.heap.size) h fun b hb _=>hb
set_option maxRecDepth 100000 in
set_option maxHeartbeats 2000000 in
theorem times_any (v:Value) (l:List Doc) (w:World) (hv:RAny docC w v l) (hn:l.length≤1000000) :
  Calls Tryz.prog 81 #[v] w fun e w'=>(∃ u,e=.returned u∧OwnB w.heap.size w' u (timesG 0 l))∧Below w.heap.size w w':=by
 obtain ⟨p,cap,rfl,hlc,hcm,_⟩:=hv.shape
 unfold maxLen at hcm
 have HV:=Lib.hid hv
 have HALL:Hid (stepsG 0 (l.take l.length)=stepsG 0 l):=Lib.hid (by rw [List.take_length])
 have HNX:=Lib.hid (fun (n:Nat) (hn:n<l.length)=>stepsG_next hn 0)
 have HLT0:=Lib.hid (fun (n:Nat) (hn:n<l.length)=>lastT_next hn 0)
 have HLN:=Lib.hid (fun k=>stepsG_len (l.take k) 0)
 have HPA:=Lib.hid (fun (u:Value) (W:World) (h:IRow W u (stepsG 0 l))=>putall_any (.slice none 0 0) u [] (stepsG 0 l) W (BRow.nil_ _) h (fits_all (stepsG_fits l 0)) (by simp) (by rw [stepsG_len];exact hn))
 have HRES:=Lib.hid (stepsG_all l 0)
 have H0:Hid (OwnC cInt 3 w.heap.size w (.slice none 0 0) (stepsG 0 (l.take 0))):=Lib.hid (OwnC.nil_ _ _ _)
 clear hv
 go_enter Tryz.func81,Tryz.ntmps81
 go_wp2_with fail
 go_loopw [3,4,9] (fun u av i wr=>∃ (k:Nat) (A:Int),k≤l.length∧i=.int .i64 k∧av=.int .i64 A∧Hid (lastT 0 (l.take k)=A)∧Hid (OwnC cInt 3 w.heap.size wr u (stepsG 0 (l.take k)))∧Hid (Below w.heap.size w wr)) (fun _ _ i _=>l.length - (intOf i).toNat)
 case atStart=>exact ⟨0,0,by omega,rfl,rfl,Lib.hid rfl,H0,Lib.hid (Below.refl _ _)⟩
 case round =>
  obtain ⟨k,A,hk,rfl,rfl,HA,HO,HB⟩:=hrel
  clear H0
  by_cases hlt:k<l.length
  ·have t1:decide ((k:Int)<(l.length:Int))=true:=by simp;omega
   have t2:decide (k<l.length)=true:=decide_eq_true hlt
   have t3:(k:Int)<(l.length:Int):=by omega
   obtain ⟨b,off,vf,rfl,hbl,_,c1,c2,c3,hf⟩:=doc_at (HV.out.below HB.out) hlt
   have hnx:=HNX.out k hlt
   have hlst:=HLT0.out k hlt
   rw [HA.out] at hnx
   obtain ⟨⟨sq,⟨t,fs⟩⟩,hd⟩:∃ d,l[k]=d:=⟨_,rfl⟩
   rw [hd] at c1 c2 hf hnx hlst
   dsimp only at c1 c2 hf hnx hlst
   obtain ⟨pf,cf,rfl,_⟩:=hf.shape
   obtain ⟨pu,cu,rfl,_⟩:=OwnC.shape HO.out
   have T1:=Lib.hid (three_new wr 59 (.int .i64 sq) (.int .i64 t) (.slice pf fs.length cf))
   have hb1:Below wr.heap.size wr (wr.alloc (.cells #[.int .i64 sq,.int .i64 t,.slice pf fs.length cf] 59)):=(Below.refl _ _).alloc (Nat.le_refl _) _
   have hsz:=HB.out.size
   have HB1:=Lib.hid (HB.out.trans (hb1.mono hsz))
   have HO1:=Lib.hid (HO.out.keep hb1)
   have hob:=Lib.hid (fun g hg=>(OwnC.lt HO.out g hg).2)
   have hll:=HLN.out k
   rw [List.length_take] at hll
   have hll2:(stepsG 0 (l.take k)).length≤1000000:=by omega
   have HNN:=Lib.hid hnx
   have HLS:=Lib.hid hlst
   have HBS:Hid (w.heap.size≤(wr.alloc (.cells #[.int .i64 sq,.int .i64 t,.slice pf fs.length cf] 59)).heap.size):=Lib.hid (by simp;omega)
   clear hf hd hb1 hnx hlst hll HO HB HA
   go_wp2_with (at_builtin;go_loud (refine wpList_append_c intE rfl _ _ rfl w.heap.size _ (stepsG 0 (l.take k)) (wr.alloc (.cells #[.int .i64 sq,.int .i64 t,.slice pf fs.length cf] 59)) [.int .i64 (wrap64 (t - A))] (wrap64 (t - A)) rfl rfl HO1.out rfl (by rw [World.size_alloc];rfl) (by unfold maxLen;omega) (by omega) HBS.out ?_))
   intro v3 w3 ho3 hb3 hk3
   rw [← HNN.out] at ho3
   have HO3:=Lib.hid ho3
   have HB3:=Lib.hid (HB1.out.trans hb3)
   have T3:=(T1.out.below ((Below.refl _ _).alloc (Nat.le_refl _) _) T1.out.lt).keep hk3 (fun e=>by have:=hob.out _ e;omega)
   obtain ⟨f0,f1,f2⟩:=T3.cells
   clear ho3 hb3 hk3 T3 c1 c2 c3
   go_wp2_with fail
   go_roundw
   case rel=>exact ⟨k+1,t,by omega,by go_num,rfl,HLS,HO3,HB3⟩
   case measure=>simp [intOf];omega
  ·obtain rfl:k=l.length:=by omega
   have t1:decide ((l.length:Int)<(l.length:Int))=false:=by simp
   have ho:=HO.out
   rw [HALL.out] at ho
   have HK:=Lib.hid (HPA.out _ _ (ints_row (OwnC.any ho)))
   obtain ⟨pu,cu,rfl,_⟩:=OwnC.shape ho
   clear HO ho
   go_wp2_with fail
   refine HK.out.mono ?_
   rintro e w4 ⟨v4,rfl,ho4,hb4⟩
   rw [List.nil_append,HRES.out] at ho4
   have HO4:=Lib.hid (OwnB.weaken ho4 HB.out.size)
   have HB4:=Lib.hid (HB.out.trans (hb4.mono HB.out.size))
   clear ho4 hb4 HK
   go_wp2_with fail
   go_ret
   exact ⟨⟨_,rfl,HO4.out⟩,HB4.out⟩
end Go.Proofs.YtdijhifdjbnkfaaGreat.SG
namespace Go.Proofs.YtdijhifdjbnkfaaGreat.SG
open Go Go.RowKit Go.Proofs.YtdijhifdjbnkfaaGreat.MM Go.Proofs.YtdijhifdjbnkfaaGreat.VM Go.Proofs.YtdijhifdjbnkfaaGreat.VP Go.Proofs.YtdijhifdjbnkfaaGreat.VG
open Go.Proofs.YtdijhifdjbnkfaaGreat.GM (footB Foot)
theorem infoPart:(Tryz.prog.info? 65).map (·.size)=some 7:=by kernel_rfl
theorem below_row {B g:Nat} {a w:World} (cs:Array Value) (h:Below B a w) (hg:B≤g):Below B a (w.setRow g cs) :=
 h.trans ⟨rfl,rfl,rfl,by simp [World.setRow],fun k hk=>setRow_other _ _ k cs (by omega)⟩
set_option maxRecDepth 100000 in
set_option maxHeartbeats 2000000 in
theorem told_any (f0 f1 f2 f3 f4:Int) (w:World):Calls Tryz.prog 67 #[.agg #[.int .i64 0,.int .i64 0,.int .i64 f0,.int .i64 f1,.int .i64 f2,.int .i64 f3,.int .i64 f4]] w fun e w'=>e=.returned (.agg #[.int .i64 0,.int .i64 0,.int .i64 f0,.int .i64 f1,.int .i64 f2,.int .i64 f3,.int .i64 f4])∧Below w.heap.size w w':=by
 obtain ⟨X,hX⟩:∃ X:Array Value,#[.int .i64 0,.int .i64 0,.int .i64 f0,.int .i64 f1,.int .i64 f2,.int .i64 f3,.int .i64 f4]=X:=⟨_,rfl⟩
 have hxs:X.size=7:=by rw [← hX];rfl
 have hx1:X.all (·.oneCell')=true:=by rw [← hX];simp [Value.oneCell']
 obtain ⟨wb,hwb⟩:∃ wb,(w.alloc (.cells #[.int .i64 0,.int .i64 0,.int .i64 f0,.int .i64 f1,.int .i64 f2,.int .i64 f3,.int .i64 f4] 86)).alloc (.cells #[.int .i64 0,.int .i64 0,.int .i64 0,.int .i64 0,.int .i64 0,.int .i64 0,.int .i64 0] 65)=wb:=⟨_,rfl⟩
 have hbb:Below w.heap.size w wb:=by rw [← hwb];exact ((Below.refl _ _).alloc (Nat.le_refl _) _).alloc (by simp) _
 have hg0:wb.heap[w.heap.size]? = some (.cells #[.int .i64 0,.int .i64 0,.int .i64 f0,.int .i64 f1,.int .i64 f2,.int .i64 f3,.int .i64 f4] 86 (0,0)):=by
  rw [← hwb]
  exact (((Below.refl _ _).alloc (Nat.le_refl _) _).block w.heap.size (by simp)).trans (heap_alloc_new w _)
 have hg1:wb.heap[w.heap.size+1]? = some (.cells #[.int .i64 0,.int .i64 0,.int .i64 0,.int .i64 0,.int .i64 0,.int .i64 0,.int .i64 0] 65 (0,0)):=by
  rw [← hwb]
  have:=heap_alloc_new (w.alloc (.cells #[.int .i64 0,.int .i64 0,.int .i64 f0,.int .i64 f1,.int .i64 f2,.int .i64 f3,.int .i64 f4] 86)) (.cells #[.int .i64 0,.int .i64 0,.int .i64 0,.int .i64 0,.int .i64 0,.int .i64 0,.int .i64 0] 65)
  rw [World.size_alloc] at this
  exact this
 have c0:wb.cell? ⟨w.heap.size,0,none⟩=some (.int .i64 0):=row_cell hg0 0
 have c1:wb.cell? ⟨w.heap.size,1,none⟩=some (.int .i64 0):=row_cell hg0 1
 have c2:wb.cell? ⟨w.heap.size,2,none⟩=some (.int .i64 f0):=row_cell hg0 2
 have c3:wb.cell? ⟨w.heap.size,3,none⟩=some (.int .i64 f1):=row_cell hg0 3
 have c4:wb.cell? ⟨w.heap.size,4,none⟩=some (.int .i64 f2):=row_cell hg0 4
 have c5:wb.cell? ⟨w.heap.size,5,none⟩=some (.int .i64 f3):=row_cell hg0 5
 have c6:wb.cell? ⟨w.heap.size,6,none⟩=some (.int .i64 f4):=row_cell hg0 6
 have hi:(Tryz.prog.info? 65).map (·.size)=some X.size:=by rw [hxs];exact infoPart
 have HG:=Lib.hid (setRow_heap wb (w.heap.size+1) _ X _ _ hg1)
 have HB:=Lib.hid (below_row (g:=w.heap.size+1) X hbb (by omega))
 have HI:=Lib.hid hi
 have HXS:Hid ((#[.int .i64 0,.int .i64 0,.int .i64 0,.int .i64 0,.int .i64 0,.int .i64 0,.int .i64 0]:Array Value).size=X.size):=Lib.hid (by rw [hxs];rfl)
 have HX1:=Lib.hid hx1
 have HZ:=Lib.hid hg1
 have HX:=Lib.hid hX
 have HWB:=Lib.hid hwb
 clear hbb hg0 hg1 hX hi hx1 hxs hwb
 go_enter Tryz.func67,Tryz.ntmps67
 go_wp2_with (first | (refine wpList_store_row rfl 65 (.tmp 2) (.tmp 4) rfl (w.heap.size+1) X rfl (by rw [← HX.out];rfl) 65 #[.int .i64 0,.int .i64 0,.int .i64 0,.int .i64 0,.int .i64 0,.int .i64 0,.int .i64 0] HZ.out HI.out HXS.out HX1.out ?_) | (rw [HWB.out]))
 refine bodyPost_ret (v:=.agg X) (results_cell_row rfl _ _ (w.heap.size+1) 65 X (0,0) _ rfl HG.out Tryz.underlying65 rfl HI.out) rfl ⟨by rw [HX.out],HB.out⟩
set_option maxRecDepth 100000 in
set_option maxHeartbeats 2000000 in
theorem fbytes_any (p:Foot) (w:World) (h:∀ z∈[p.1,p.2.1,p.2.2.1,p.2.2.2.1,(p.2.2.2.2:Int)], -9223372036854775808≤z∧z≤9223372036854775807) :
  Calls Tryz.prog 84 #[.agg #[.int .i64 0,.int .i64 0,.int .i64 p.1,.int .i64 p.2.1,.int .i64 p.2.2.1,.int .i64 p.2.2.2.1,.int .i64 (p.2.2.2.2:Int)]] w (PutLeft w.heap.size (footB p) w):=by
 obtain ⟨f0,f1,f2,n⟩:=p
 obtain ⟨f3,n⟩:=n
 dsimp only at h ⊢
 obtain ⟨f4,hf4⟩:∃ z:Int,(n:Int)=z:=⟨_,rfl⟩
 have hfb:footB (f0,f1,f2,f3,n)=allL [f0,f1,f2,f3,f4]:=by rw [← hf4];simp [footB,allL]
 rw [hfb]
 rw [hf4] at h ⊢
 obtain ⟨wb,hwb⟩:∃ wb,w.alloc (.cells #[.int .i64 0,.int .i64 0,.int .i64 f0,.int .i64 f1,.int .i64 f2,.int .i64 f3,.int .i64 f4] 86)=wb:=⟨_,rfl⟩
 have hbb:Below w.heap.size w wb:=by rw [← hwb];exact (Below.refl _ _).alloc (Nat.le_refl _) _
 have hg0:wb.heap[w.heap.size]? = some (.cells #[.int .i64 0,.int .i64 0,.int .i64 f0,.int .i64 f1,.int .i64 f2,.int .i64 f3,.int .i64 f4] 86 (0,0)):=by rw [← hwb];exact heap_alloc_new w _
 have c0:wb.cell? ⟨w.heap.size,0,none⟩=some (.int .i64 0):=row_cell hg0 0
 have c1:wb.cell? ⟨w.heap.size,1,none⟩=some (.int .i64 0):=row_cell hg0 1
 have c2:wb.cell? ⟨w.heap.size,2,none⟩=some (.int .i64 f0):=row_cell hg0 2
 have c3:wb.cell? ⟨w.heap.size,3,none⟩=some (.int .i64 f1):=row_cell hg0 3
 have c4:wb.cell? ⟨w.heap.size,4,none⟩=some (.int .i64 f2):=row_cell hg0 4
 have c5:wb.cell? ⟨w.heap.size,5,none⟩=some (.int .i64 f3):=row_cell hg0 5
 have c6:wb.cell? ⟨w.heap.size,6,none⟩=some (.int .i64 f4):=row_cell hg0 6
 have hlit:=EV.ints_lit wb [f0,f1,f2,f3,f4] (by unfold maxLen;simp)
 have hbl:Below wb.heap.size wb (wb.alloc (.cells #[.int .i64 f0,.int .i64 f1,.int .i64 f2,.int .i64 f3,.int .i64 f4] 3)):=(Below.refl _ _).alloc (Nat.le_refl _) _
 have HP:=Lib.hid (putall_any (.slice none 0 0) (.slice (some ⟨wb.heap.size,0,none⟩) 5 5) [] [f0,f1,f2,f3,f4] (wb.alloc (.cells #[.int .i64 f0,.int .i64 f1,.int .i64 f2,.int .i64 f3,.int .i64 f4] 3)) (BRow.nil_ _) (ints_row hlit) (fits_all h) (by simp) (by simp))
 have HBB:=Lib.hid hbb
 have HBL:=Lib.hid (hbb.trans (hbl.mono hbb.size))
 have HWB:=Lib.hid hwb
 generalize allL [f0,f1,f2,f3,f4]=L at *
 clear hbb hg0 hwb hlit hbl h hfb hf4
 go_enter Tryz.func84,Tryz.ntmps84
 go_wp2_with (rw [HWB.out])
 refine HP.out.mono ?_
 rintro e w4 ⟨v4,rfl,ho4,hb4⟩
 rw [List.nil_append] at ho4
 have HO4:=Lib.hid (OwnB.weaken ho4 HBL.out.size)
 have HB4:=Lib.hid (HBL.out.trans (hb4.mono HBL.out.size))
 clear ho4 hb4 HP
 go_wp2_with fail
 go_ret
 exact ⟨_,rfl,HO4.out,HB4.out⟩
end Go.Proofs.YtdijhifdjbnkfaaGreat.SG
namespace Go.Proofs.YtdijhifdjbnkfaaGreat.SG
open Go Go.RowKit Go.Proofs.YtdijhifdjbnkfaaGreat.MM
open Go.Proofs.YtdijhifdjbnkfaaGreat.EV (docC fldC doc_at)
open Go.Proofs.YtdijhifdjbnkfaaGreat.SM (Doc)
open Go.Proofs.YtdijhifdjbnkfaaGreat.GM (footG Foot)
theorem infoFoot:(Tryz.prog.info? 86).map (·.size)=some 7:=by kernel_rfl
def lowC (a:Int) (l:List Doc):Int:=l.foldl (fun m d=>min m d.2.1) a
def highC (a:Int) (l:List Doc):Int:=l.foldl (fun m d=>max m d.2.1) a
theorem lowC_next {l:List Doc} {k:Nat} (hk:k<l.length) (a:Int):lowC a (l.take (k+1))=min (lowC a (l.take k)) l[k].2.1:=by
 unfold lowC
 rw [List.take_succ_eq_append_getElem hk,List.foldl_append]
 rfl
theorem highC_next {l:List Doc} {k:Nat} (hk:k<l.length) (a:Int):highC a (l.take (k+1))=max (highC a (l.take k)) l[k].2.1:=by
 unfold highC
 rw [List.take_succ_eq_append_getElem hk,List.foldl_append]
 rfl
theorem foot_fold:∀ (r:List Doc) (a b c e:Int) (n:Nat),r.foldl GM.footN (a,b,c,e,n+1)=(lowC a r,highC b r,c,(r.map (·.1)).getLastD e,n+1+r.length)
 | [],a,b,c,e,n=>rfl
 | d::r,a,b,c,e,n=>by
   have h:GM.footN (a,b,c,e,n+1) d=(min a d.2.1,max b d.2.1,c,d.1,n+1+1):=rfl
   rw [List.foldl_cons,h,foot_fold r,List.length_cons]
   have e1:n+1+1+r.length=n+1+(r.length+1):=by omega
   rw [e1,List.map_cons,List.getLastD_cons]
   rfl
theorem foot_all {l:List Doc} {n:Nat} (h:l.length=n+1):footG l=(lowC (l[0]'(by omega)).2.1 l,highC (l[0]'(by omega)).2.1 l,(l[0]'(by omega)).1,(l[n]'(by omega)).1,n+1):=by
 match l,h with
 | d::r,h =>
   have hr:r.length=n:=by simpa using h
   have h1:footG (d::r)=r.foldl GM.footN (d.2.1,d.2.1,d.1,d.1,0+1):=rfl
   have h2:lowC d.2.1 (d::r)=lowC d.2.1 r:=by unfold lowC;rw [List.foldl_cons,Int.min_self]
   have h3:highC d.2.1 (d::r)=highC d.2.1 r:=by unfold highC;rw [List.foldl_cons,Int.max_self]
   have h4:(r.map (·.1)).getLastD d.1=((d::r)[n]'(by rw [h];omega)).1:=by
    rw [List.getLastD_eq_getLast?,List.getLast?_eq_getElem?]
    cases n with
    | zero =>
      have:r=[]:=List.eq_nil_of_length_eq_zero hr
      subst this
      rfl
    | succ n =>
      rw [List.length_map,hr,Nat.add_sub_cancel,List.getElem?_map,List.getElem?_eq_getElem (by omega)]
      rfl
   rw [h1,foot_fold,List.getElem_cons_zero,h2,h3,h4,hr]
   congr 4
   omega
set_option maxRecDepth 100000 in
set_option maxHeartbeats 4000000 in
theorem footof_any (v:Value) (l:List Doc) (w:World) (hv:RAny docC w v l) (h0:l≠[]):Calls Tryz.prog 53 #[v] w fun e w'=>e=.returned (.agg #[.int .i64 0,.int .i64 0,.int .i64 (footG l).1,.int .i64 (footG l).2.1,.int .i64 (footG l).2.2.1,.int .i64 (footG l).2.2.2.1,.int .i64 ((footG l).2.2.2.2:Int)])∧Below w.heap.size w w':=by
 obtain ⟨p,cap,rfl,hlc,hcm,_⟩:=hv.shape
 unfold maxLen at hcm
 have hn:=List.length_pos_iff.2 h0
 obtain ⟨n,hnn⟩:∃ n,l.length=n+1:=⟨l.length - 1,by omega⟩
 obtain ⟨wa,hwa⟩:∃ wa,w.alloc (.cells #[.int .i64 0,.int .i64 0,.int .i64 0,.int .i64 0,.int .i64 0,.int .i64 0,.int .i64 0] 86)=wa:=⟨_,rfl⟩
 have hba:Below w.heap.size w wa:=by rw [← hwa];exact (Below.refl _ _).alloc (Nat.le_refl _) _
 obtain ⟨b,off,vf,rfl,hbl,_,c1,c2,c3,hf⟩:=doc_at (hv.below hba) (k:=0) (by omega)
 obtain ⟨b2,off2,vf2,hp2,hbl2,_,e1,e2,e3,hf2⟩:=doc_at (hv.below hba) (k:=n) (by omega)
 simp only [Option.some.injEq,Addr.mk.injEq,and_true] at hp2
 obtain ⟨rfl,rfl⟩:=hp2
 have hF:=foot_all hnn
 have HLO:=Lib.hid (fun k (hk:k<l.length)=>lowC_next hk (l[0]'(by omega)).2.1)
 have HHI:=Lib.hid (fun k (hk:k<l.length)=>highC_next hk (l[0]'(by omega)).2.1)
 have HTK:Hid (l.take (n+1)=l):=Lib.hid (by rw [← hnn,List.take_length])
 obtain ⟨⟨sq,⟨t,fs⟩⟩,hd⟩:∃ d,(l[0]'(by omega))=d:=⟨_,rfl⟩
 obtain ⟨⟨sq2,⟨t2,fs2⟩⟩,hd2⟩:∃ d,(l[n]'(by omega))=d:=⟨_,rfl⟩
 rw [hd] at c1 c2 hf hF HLO HHI
 rw [hd2] at e1 e2 hf2 hF
 dsimp only at c1 c2 hf e1 e2 hf2 hF HLO HHI
 obtain ⟨LO,hLO⟩:∃ x,lowC t l=x:=⟨_,rfl⟩
 obtain ⟨HI,hHI⟩:∃ x,highC t l=x:=⟨_,rfl⟩
 rw [hLO,hHI] at hF
 rw [hF]
 dsimp only
 have HLOE:=Lib.hid hLO
 have HHIE:=Lib.hid hHI
 obtain ⟨pf,cf,rfl,_⟩:=hf.shape
 obtain ⟨pf2,cf2,rfl,_⟩:=hf2.shape
 rw [Nat.zero_mul,Nat.add_zero] at c1 c2 c3
 have HV:=Lib.hid hv.bel
 rw [hnn] at hlc HV ⊢
 obtain ⟨N,hN⟩:∃ N:Int,((n+1:Nat):Int)=N:=⟨_,rfl⟩
 have i0:(0:Int)<((n+1:Nat):Int):=by omega
 have i1:IntKind.i64.wrap (((n+1:Nat):Int) - 1)=(n:Int):=by rw [IntWalk.i64_left];rw [IntWalk.wrap64_in _ ⟨by omega,by omega⟩];omega
 have i2:(n:Int)<((n+1:Nat):Int):=by omega
 have hgz:wa.heap[w.heap.size]? = some (.cells #[.int .i64 0,.int .i64 0,.int .i64 0,.int .i64 0,.int .i64 0,.int .i64 0,.int .i64 0] 86 (0,0)):=by rw [← hwa];exact heap_alloc_new _ _
 have hza:w.heap.size<wa.heap.size:=(Array.getElem?_eq_some_iff.1 hgz).1
 have HWA:=Lib.hid hwa
 have HBA:=Lib.hid hba
 have HGZ:=Lib.hid hgz
 have HNN:=Lib.hid hnn
 have HN:=Lib.hid hN
 clear hf hf2 hba hwa h0 hv hF hLO hHI hgz hnn hd hd2 hN hn
 go_enter Tryz.func53,Tryz.ntmps53
 go_wp2_with (rw [HWA.out])
 go_region
 all_goals (
  first
  | (
    obtain ⟨W,hW⟩:∃ W,((wa.alloc (.cells #[.int .i64 sq2,.int .i64 t2,.slice pf2 fs2.length cf2] 59)).alloc (.cells #[.int .i64 sq,.int .i64 t,.slice pf fs.length cf] 59)).drew=W:=⟨_,rfl⟩
    have hbW:Below wa.heap.size wa W:=by rw [← hW];exact (((Below.refl _ _).alloc (Nat.le_refl _) _).alloc (by simp) _).drew
    have hX:Three W (wa.heap.size+1) 59 (.int .i64 sq) (.int .i64 t) (.slice pf fs.length cf):=by
     rw [← hW]
     have:=three_new (wa.alloc (.cells #[.int .i64 sq2,.int .i64 t2,.slice pf2 fs2.length cf2] 59)) 59 (.int .i64 sq) (.int .i64 t) (.slice pf fs.length cf)
     rw [World.size_alloc] at this
     exact this.keep (kep_draw (fun _=>True) _) trivial
    have hY:Three W wa.heap.size 59 (.int .i64 sq2) (.int .i64 t2) (.slice pf2 fs2.length cf2):=by
     rw [← hW]
     exact ((three_new wa 59 _ _ _).keep (kep_alloc (fun _=>True) _ _) trivial).keep (kep_draw (fun _=>True) _) trivial
    obtain ⟨a3,ha3⟩:∃ a,wa.heap.size+1=a:=⟨_,rfl⟩
    rw [hW,ha3]
    rw [ha3] at hX
    obtain ⟨a4,ha4⟩:∃ a,wa.heap.size=a:=⟨_,rfl⟩
    rw [ha4]
    have hX2:=hX
    have hY2:=hY
    rw [ha4] at hY2
    clear hW ha3 hX hY)
  | (
    obtain ⟨W,hW⟩:∃ W,((wa.alloc (.cells #[.int .i64 sq,.int .i64 t,.slice pf fs.length cf] 59)).alloc (.cells #[.int .i64 sq2,.int .i64 t2,.slice pf2 fs2.length cf2] 59)).drew=W:=⟨_,rfl⟩
    have hbW:Below wa.heap.size wa W:=by rw [← hW];exact (((Below.refl _ _).alloc (Nat.le_refl _) _).alloc (by simp) _).drew
    have hY:Three W (wa.heap.size+1) 59 (.int .i64 sq2) (.int .i64 t2) (.slice pf2 fs2.length cf2):=by
     rw [← hW]
     have:=three_new (wa.alloc (.cells #[.int .i64 sq,.int .i64 t,.slice pf fs.length cf] 59)) 59 (.int .i64 sq2) (.int .i64 t2) (.slice pf2 fs2.length cf2)
     rw [World.size_alloc] at this
     exact this.keep (kep_draw (fun _=>True) _) trivial
    have hX:Three W wa.heap.size 59 (.int .i64 sq) (.int .i64 t) (.slice pf fs.length cf):=by
     rw [← hW]
     exact ((three_new wa 59 _ _ _).keep (kep_alloc (fun _=>True) _ _) trivial).keep (kep_draw (fun _=>True) _) trivial
    obtain ⟨a4,ha4⟩:∃ a,wa.heap.size+1=a:=⟨_,rfl⟩
    rw [hW,ha4]
    rw [ha4] at hY
    obtain ⟨a3,ha3⟩:∃ a,wa.heap.size=a:=⟨_,rfl⟩
    rw [ha3]
    have hX2:=hX
    have hY2:=hY
    rw [ha3] at hX2
    clear hW ha4 hX hY)
  obtain ⟨x0,x1,x2⟩:=hX2.cells
  obtain ⟨y0,y1,y2⟩:=hY2.cells
  have hn1:((n:Int)+1)=N:=by rw [← HN.out];omega
  have HBW:=Lib.hid (HBA.out.trans (hbW.mono HBA.out.size))
  have HGW:=Lib.hid ((hbW.block _ hza).trans HGZ.out)
  clear hX2 hY2 hbW c1 c2 c3 e1 e2 e3 HWA
  obtain ⟨g5,hg5⟩:∃ g,W.heap.size=g:=⟨_,rfl⟩
  obtain ⟨W5,hW5⟩:∃ W5,W.alloc (.cells #[.int .i64 0,.int .i64 0,.int .i64 t,.int .i64 t,.int .i64 sq,.int .i64 sq2,.int .i64 N] 65)=W5:=⟨_,rfl⟩
  have HP5:Hid (W5.heap[g5]? = some (.cells #[.int .i64 0,.int .i64 0,.int .i64 t,.int .i64 t,.int .i64 sq,.int .i64 sq2,.int .i64 N] 65 (0,0))):=Lib.hid (by rw [← hW5,← hg5];exact heap_alloc_new _ _)
  have hb5:Below W.heap.size W W5:=by rw [← hW5];exact (Below.refl _ _).alloc (Nat.le_refl _) _
  have HB5:=Lib.hid (HBW.out.trans (hb5.mono HBW.out.size))
  have HG5:=Lib.hid ((hb5.block _ (Array.getElem?_eq_some_iff.1 HGW.out).1).trans HGW.out)
  have HZL:Hid (w.heap.size<g5):=Lib.hid (by rw [← hg5];exact (Array.getElem?_eq_some_iff.1 HGW.out).1)
  have HW5:=Lib.hid hW5
  clear hW5 hb5
  go_wp2_with (rw [HW5.out])
  have H0:Hid (lowC t (l.take 0)=t∧highC t (l.take 0)=t):=Lib.hid ⟨rfl,rfl⟩
  have HK0:Hid (Below w.heap.size w W5):=HB5
  go_loopw [32] (fun iv wr=>∃ (k:Nat) (lo hi:Int),k≤n+1∧iv=.int .i64 k∧Hid (lowC t (l.take k)=lo∧highC t (l.take k)=hi)∧Hid (wr.heap[g5]? = some (.cells #[.int .i64 0,.int .i64 0,.int .i64 lo,.int .i64 hi,.int .i64 sq,.int .i64 sq2,.int .i64 N] 65 (0,0)))∧Hid (wr.heap[w.heap.size]? = some (.cells #[.int .i64 0,.int .i64 0,.int .i64 0,.int .i64 0,.int .i64 0,.int .i64 0,.int .i64 0] 86 (0,0)))∧Hid (Below w.heap.size w wr)) (fun iv _=>n+1 - (intOf iv).toNat)
  case atStart=>exact ⟨0,t,t,by omega,rfl,H0,HP5,HG5,HK0⟩
  case round =>
   obtain ⟨k,lo,hi,hk,rfl,HLH,HP,HG,HB⟩:=hrel
   clear H0 HK0 HP5 HG5 HB5 x0 x1 x2 y0 y1 y2
   by_cases hlt:k<n+1
   ·have q1:decide ((k:Int)<((n+1:Nat):Int))=true:=by rw [decide_eq_true_eq];omega
    have q2:decide ((k:Int)<N)=true:=by rw [decide_eq_true_eq,← HN.out];omega
    have q3:decide (k<n+1)=true:=by rw [decide_eq_true_eq];omega
    have q4:(k:Int)<((n+1:Nat):Int):=by omega
    have q5:(k:Int)<N:=by rw [← HN.out];omega
    have hkl:k<l.length:=by rw [HNN.out];omega
    obtain ⟨bk,ok,vk,hpk,hbk,_,c1,c2,c3,hfk⟩:=doc_at (ROn.keep HV.out (kep_lt HB.out) fun _ _ h=>h) hkl
    simp only [Option.some.injEq,Addr.mk.injEq,and_true] at hpk
    obtain ⟨rfl,rfl⟩:=hpk
    have hlo:=HLO.out k hkl
    have hhi:=HHI.out k hkl
    rw [HLH.out.1] at hlo
    rw [HLH.out.2] at hhi
    obtain ⟨⟨sk,⟨tk,fk⟩⟩,hdk⟩:∃ d,l[k]=d:=⟨_,rfl⟩
    rw [hdk] at c1 c2 hfk hlo hhi
    dsimp only at c1 c2 hfk hlo hhi
    obtain ⟨pk,ck,rfl,_⟩:=hfk.shape
    obtain ⟨m1,hm1⟩:∃ m,min lo tk=m:=⟨_,rfl⟩
    obtain ⟨m2,hm2⟩:∃ m,max hi tk=m:=⟨_,rfl⟩
    rw [hm1] at hlo
    rw [hm2] at hhi
    have hm1a:(if tk<lo then tk else lo)=m1:=by rw [← hm1];split<;>omega
    have hm2a:(if hi<tk then tk else hi)=m2:=by rw [← hm2];split<;>omega
    obtain ⟨q,hq⟩:∃ q,wr.heap.size=q:=⟨_,rfl⟩
    obtain ⟨w1,hw1⟩:∃ w1,wr.alloc (.cells #[.int .i64 sk,.int .i64 tk,.slice pk fk.length ck] 59)=w1:=⟨_,rfl⟩
    have hb1:Below wr.heap.size wr w1:=by rw [← hw1];exact (Below.refl _ _).alloc (Nat.le_refl _) _
    have hgl:=(Array.getElem?_eq_some_iff.1 HP.out).1
    have hzl:=HZL.out
    have tb:Three w1 q 59 (.int .i64 sk) (.int .i64 tk) (.slice pk fk.length ck):=by rw [← hw1,← hq];exact three_new wr 59 _ _ _
    have p1:w1.heap[g5]? = some (.cells #[.int .i64 0,.int .i64 0,.int .i64 lo,.int .i64 hi,.int .i64 sq,.int .i64 sq2,.int .i64 N] 65 (0,0)):=(hb1.block g5 hgl).trans HP.out
    have d1:w1.cell? ⟨g5,2,none⟩=some (.int .i64 lo):=row_cell p1 2
    have d2:w1.frozen? ⟨g5,2,none⟩=false:=frozen_of_row w1 g5 2 _ _ p1
    have u1:w1.cell? ⟨q,1,none⟩=some (.int .i64 tk):=tb.c1
    have p2:(w1.setCell ⟨g5,2,none⟩ (.int .i64 m1)).heap[g5]? = some (.cells #[.int .i64 0,.int .i64 0,.int .i64 m1,.int .i64 hi,.int .i64 sq,.int .i64 sq2,.int .i64 N] 65 (0,0)):=heap_setCell_same w1 g5 2 _ _ _ p1
    have d3:(w1.setCell ⟨g5,2,none⟩ (.int .i64 m1)).cell? ⟨g5,3,none⟩=some (.int .i64 hi):=row_cell p2 3
    have d4:(w1.setCell ⟨g5,2,none⟩ (.int .i64 m1)).frozen? ⟨g5,3,none⟩=false:=frozen_of_row _ g5 3 _ _ p2
    have hk2:Kep (fun b=>b≠g5) w1 (w1.setCell ⟨g5,2,none⟩ (.int .i64 m1)):=kep_set (fun h=>h rfl) _
    have hqg:q≠g5:=by omega
    have u2:(w1.setCell ⟨g5,2,none⟩ (.int .i64 m1)).cell? ⟨q,1,none⟩=some (.int .i64 tk):=(tb.keep hk2 hqg).c1
    have hk3:Kep (fun b=>b≠g5) w1 ((w1.setCell ⟨g5,2,none⟩ (.int .i64 m1)).setCell ⟨g5,3,none⟩ (.int .i64 m2)):=hk2.trans (kep_set (fun h=>h rfl) _)
    have HP3:Hid (((w1.setCell ⟨g5,2,none⟩ (.int .i64 m1)).setCell ⟨g5,3,none⟩ (.int .i64 m2)).heap[g5]? = some (.cells #[.int .i64 0,.int .i64 0,.int .i64 m1,.int .i64 m2,.int .i64 sq,.int .i64 sq2,.int .i64 N] 65 (0,0))):=Lib.hid (heap_setCell_same _ g5 3 _ _ _ p2)
    have hgl0:=(Array.getElem?_eq_some_iff.1 HG.out).1
    have HG3:=Lib.hid ((hk3.block w.heap.size (by have:=hb1.size;omega) (by omega)).trans ((hb1.block _ hgl0).trans HG.out))
    have HB3:=Lib.hid ((HB.out.trans (hb1.mono HB.out.size)).trans (hk3.below (Nat.le_trans HB.out.size hb1.size) fun b hb=>by omega))
    have HLH3:=Lib.hid (show lowC t (l.take (k+1))=m1∧highC t (l.take (k+1))=m2 from ⟨hlo,hhi⟩)
    have HW1:=Lib.hid hw1
    clear hb1 hw1 hfk hdk p1 p2 hk2 hk3 tb hlo hhi HLH HP HG HB hgl hgl0
    go_wp2_with (rw [HW1.out])
    go_roundw
    case rel=>exact ⟨k+1,m1,m2,by omega,by go_num,HLH3,HP3,HG3,HB3⟩
    case measure=>simp [intOf];omega
   ·obtain rfl:k=n+1:=by omega
    have q1:decide (((n+1:Nat):Int)<((n+1:Nat):Int))=false:=by simp
    have q2:decide (((n+1:Nat):Int)<N)=false:=by rw [decide_eq_false_iff_not,← HN.out];omega
    have hlh:=HLH.out
    rw [HTK.out,HLOE.out,HHIE.out] at hlh
    obtain ⟨e1,e2⟩:=hlh
    have hp:=HP.out
    rw [← e1,← e2] at hp
    clear e1 e2
    have c0:wr.cell? ⟨g5,0,none⟩=some (.int .i64 0):=row_cell hp 0
    have c1:wr.cell? ⟨g5,1,none⟩=some (.int .i64 0):=row_cell hp 1
    have c2:wr.cell? ⟨g5,2,none⟩=some (.int .i64 LO):=row_cell hp 2
    have c3:wr.cell? ⟨g5,3,none⟩=some (.int .i64 HI):=row_cell hp 3
    have c4:wr.cell? ⟨g5,4,none⟩=some (.int .i64 sq):=row_cell hp 4
    have c5:wr.cell? ⟨g5,5,none⟩=some (.int .i64 sq2):=row_cell hp 5
    have c6:wr.cell? ⟨g5,6,none⟩=some (.int .i64 N):=row_cell hp 6
    obtain ⟨X,hX⟩:∃ X:Array Value,#[.int .i64 0,.int .i64 0,.int .i64 LO,.int .i64 HI,.int .i64 sq,.int .i64 sq2,.int .i64 N]=X:=⟨_,rfl⟩
    have hxs:X.size=7:=by rw [← hX];rfl
    have HX1:Hid (X.all (·.oneCell')=true):=Lib.hid (by rw [← hX];simp [Value.oneCell'])
    have HI7:Hid ((Tryz.prog.info? 86).map (·.size)=some X.size):=Lib.hid (by rw [hxs];exact infoFoot)
    have HG9:=Lib.hid (setRow_heap wr w.heap.size _ X _ _ HG.out)
    have HB9:=Lib.hid (below_row (g:=w.heap.size) X HB.out (Nat.le_refl _))
    have HXS:Hid ((#[.int .i64 0,.int .i64 0,.int .i64 0,.int .i64 0,.int .i64 0,.int .i64 0,.int .i64 0]:Array Value).size=X.size):=Lib.hid (by rw [hxs];rfl)
    have HX:=Lib.hid hX
    clear hX hxs hp HLH HP hlt
    go_wp2_with (refine wpList_store_row rfl 86 (.tmp 2) (.tmp 52) rfl w.heap.size X rfl (by rw [← HX.out];rfl) 86 #[.int .i64 0,.int .i64 0,.int .i64 0,.int .i64 0,.int .i64 0,.int .i64 0,.int .i64 0] HG.out HI7.out HXS.out HX1.out ?_)
    refine bodyPost_ret (v:=.agg X) (results_cell_row rfl _ _ w.heap.size 86 X (0,0) _ rfl HG9.out Tryz.underlying86 rfl HI7.out) rfl ⟨by rw [← HX.out,HN.out],HB9.out⟩)
end Go.Proofs.YtdijhifdjbnkfaaGreat.SG
namespace Go.Proofs.YtdijhifdjbnkfaaGreat.EV
open Go Go.RowKit Go.Proofs.YtdijhifdjbnkfaaGreat.MM Go.Proofs.YtdijhifdjbnkfaaGreat.EM Go.Proofs.YtdijhifdjbnkfaaGreat.VM Go.Proofs.YtdijhifdjbnkfaaGreat.GB
open Go.Proofs.YtdijhifdjbnkfaaGreat.VP
theorem bytesL_ne (n:Nat):bytesL n≠[]:=by
 intro h
 have:=(bytesL_length n).1
 rw [h] at this
 simp at this
theorem intL_ne (z:Int):intL z≠[]:=bytesL_ne _
theorem textL_ne (s:List UInt8):textL s≠[]:=by
 intro h
 have:=(textL_len s).2
 rw [h] at this
 simp at this
theorem intL_len (z:Int):(intL z).length≤10:=(bytesL_length _).2
theorem brow_nil (w:World):BRow w (.slice none 0 0) []:=BIn.nil_ _ w
theorem put0_text (t:List UInt8) (ht:t.length≤4096) (W:World):Calls Tryz.prog 199 #[.slice none 0 0,.string ⟨t.toArray⟩] W (PutLeft W.heap.size (textL t) W):=by
 have h:=puttext_any (.slice none 0 0) [] ⟨t.toArray⟩ W (brow_nil _) (by rw [str_sz];simp;omega)
 rw [List.nil_append,str_list] at h
 exact h
theorem grown_ron {α:Type} {C:Codec α} {w w':World} {v v' u:Value} {xs:List α} (h:ROn C (fun b=>v.ownBlock≠some b) w u xs) (hg:Grown w w' v v'):ROn C (fun b=>v.ownBlock≠some b) w' u xs:=h.keep hg.kep fun _ _ h=>h
theorem fits (m:Nat) (L:List UInt8) (fs:List Fld) (z:Int) (h16:fs.length≤16) (hx:∀ f∈fs,f.1.length≤4096∧f.2.length≤4096) (hl:L.length≤1000000000):∀ k,(L++intL z++bytesL m++bytesF (fs.take k)).length≤1001000000:=fun k=>by
 have h1:=intL_len z
 have h2:=(bytesL_length m).2
 have h3:=bytesF_len (fs.take k)
 have h4:sizeF (fs.take k)≤8192*(fs.take k).length:=by
  have:∀ gs:List Fld,(∀ f∈gs,f.1.length≤4096∧f.2.length≤4096)→sizeF gs≤8192*gs.length:=by
   intro gs
   induction gs with
   | nil=>simp [sizeF]
   | cons f r ih =>
     intro h
     have h1:=h f (by simp)
     have h2:=ih fun g hg=>h g (by simp [hg])
     have e:sizeF (f::r)=f.1.length+f.2.length+sizeF r:=by simp [sizeF]
     rw [e,List.length_cons]
     omega
  exact this _ fun f hf=>hx f (List.mem_of_mem_take hf)
 have h5:(fs.take k).length≤fs.length:=List.length_take_le' _ _
 simp only [List.length_append]
 omega
set_option maxRecDepth 100000 in
set_option maxHeartbeats 4000000 in
theorem appe_any (v:Value) (l:List UInt8) (z:Int) (u:Value) (fs:List Fld) (w:World) (hown:OwnB 0 w v l) (hr:ROn fldC (fun b=>v.ownBlock≠some b) w u fs) (h0 : -9223372036854775808≤z) (h1:z≤9223372036854775807) (h16:fs.length≤16) (hx:∀ f∈fs,f.1.length≤4096∧f.2.length≤4096) (hl:l.length≤1000000000) :
  Calls Tryz.prog 244 #[v,.agg #[.int .i64 z,u]] w (AppL (l++bytesE (z,fs)) v w):=by
 obtain ⟨p,cap,rfl,hlc,hcm,_⟩:=hr.shape
 unfold maxLen at hcm
 have hbx:=box_below w z (.slice p fs.length cap)
 have HP:=Lib.hid (putint_any (.slice none 0 0) [] z (evBox w z (.slice p fs.length cap)) h0 h1 (brow_nil _) (by simp))
 have HLN:=Lib.hid (fits fs.length l fs z h16 hx hl)
 have HX:=Lib.hid hx
 have HO:=Lib.hid hown
 have HR:=Lib.hid hr
 have HOL:=Lib.hid (own_lt hown)
 have HBX:=Lib.hid hbx
 have HEND:Hid (l++intL z++bytesL fs.length++bytesF (fs.take fs.length)=l++bytesE (z,fs)):=Lib.hid (by rw [List.take_length];unfold bytesE;simp)
 clear hown hr hx hl hbx
 go_enter Tryz.func244,Tryz.ntmps244
 go_wp2_with fail
 refine HP.out.mono ?_
 rintro e w1 ⟨v1,rfl,ho1,hb1⟩
 rw [List.nil_append] at ho1
 have hbw1:Below w.heap.size w w1:=HBX.out.trans (hb1.mono HBX.out.size)
 have hsz1:w.heap.size<w1.heap.size:=by have:=hb1.size;rw [box_size] at this;omega
 have HOV1:=Lib.hid (HO.out.keep hbw1)
 have HO1:=Lib.hid ho1
 have HC1:=Lib.hid (box_in hb1)
 have HB1:=Lib.hid hbw1
 have HIL:=Lib.hid (intL_len z)
 have hvo:v.ownBlock≠some w.heap.size:=fun e=>absurd (HOL.out _ e) (Nat.lt_irrefl _)
 clear ho1 hb1 hbw1 HP
 go_wp2_with (at_builtin;go_loud (refine wpList_append_grown rfl _ _ rfl v l rfl HOV1.out _ (intL z) rfl HO1.out.brow (intL_ne z) (by have:=HLN.out 0;simp only [List.length_append] at this;omega) ?_;intro v2 w2 ho2 hg2;have d1:=(hg2.kep.cell hsz1 hvo 1).trans HC1.out.2.1;have hsz2:w.heap.size<w2.heap.size:=Nat.lt_of_lt_of_le hsz1 hg2.1.size;have hvo2:v2.ownBlock≠some w.heap.size:=fun e=>(hg2.2 _ e).elim hvo fun h=>absurd hsz1 (Nat.not_lt.2 h);have HO2:=Lib.hid ho2;have HG2:=Lib.hid (Grown.of_below HB1.out hg2 HOL.out);clear ho2 hg2))
 have HQ:=Lib.hid (put_any (.slice none 0 0) [] fs.length w2 (by omega) (brow_nil _) (by simp))
 refine HQ.out.mono ?_
 rintro e w3 ⟨v3,rfl,ho3,hb3⟩
 rw [List.nil_append] at ho3
 have HO3:=Lib.hid ho3
 have HOV3:=Lib.hid (HO2.out.keep hb3)
 have e1:=(hb3.cell (p:=⟨w.heap.size,1,none⟩) hsz2).trans d1
 have HG3:=Lib.hid (Grown.below HG2.out hb3)
 have hsz3:w.heap.size<w3.heap.size:=Nat.lt_of_lt_of_le hsz2 hb3.size
 clear ho3 hb3 HQ d1
 go_wp2_with (at_builtin;go_loud (refine wpList_append_grown rfl _ _ rfl v2 (l++intL z) rfl HOV3.out _ (bytesL fs.length) rfl HO3.out.brow (bytesL_ne _) (by have:=HLN.out 0;simp only [List.length_append] at this;simp only [List.length_append];omega) ?_;intro v4 w4 ho4 hg4;have d1:=(hg4.kep.cell hsz3 hvo2 1).trans e1;have HO4:Hid (OwnB 0 w4 v4 (l++intL z++bytesL fs.length++bytesF (fs.take 0))):=Lib.hid (by rw [show l++intL z++bytesL fs.length++bytesF (fs.take 0)=l++intL z++bytesL fs.length by simp [EM.bytesF]];exact ho4);have HG4:=Lib.hid (HG3.out.trans hg4);clear ho4 hg4))
 go_loopw [0,22] (fun bv iv wr=>∃ k:Nat,k≤fs.length∧iv=.int .i64 k∧Hid (OwnB 0 wr bv (l++intL z++bytesL fs.length++bytesF (fs.take k)))∧Hid (Grown w wr v bv)) (fun _ iv _=>fs.length - (intOf iv).toNat)
 case atStart=>exact ⟨0,by omega,rfl,HO4,HG4⟩
 case round =>
  obtain ⟨k,hk,rfl,HOk,HGk⟩:=hrel
  clear HO4 HG4 HOV3 HO3 HG3 HO2 HG2 HOV1 HO1 d1 e1
  by_cases hlt:k<fs.length
  ·have q1:decide ((k:Int)<(fs.length:Int))=true:=by rw [decide_eq_true_eq];omega
   have q2:decide (k<fs.length)=true:=by rw [decide_eq_true_eq];omega
   have q3:(k:Int)<(fs.length:Int):=by omega
   obtain ⟨b,off,rfl,hbl,hbS,c1,c2⟩:=fld_at (grown_ron HR.out HGk.out) hlt
   have hxk:=HX.out fs[k] (List.getElem_mem hlt)
   have hnx:=bytesF_next hlt
   have hll:=HLN.out (k+1)
   rw [hnx] at hll
   generalize fs[k].1=nm at *
   generalize fs[k].2=tx at *
   have hn2:l++intL z++bytesL fs.length++bytesF (fs.take (k+1))=l++intL z++bytesL fs.length++bytesF (fs.take k)++textL nm++textL tx:=by rw [hnx];simp
   obtain ⟨L,hL⟩:∃ L,l++intL z++bytesL fs.length++bytesF (fs.take k)=L:=⟨_,rfl⟩
   have hlen:(L++textL nm++textL tx).length≤1001000000:=by rw [← hL];rw [← List.append_assoc] at hll;rw [← List.append_assoc] at hll;exact hll
   rw [hL] at hn2
   have ho:=HOk.out
   rw [hL] at ho
   have HOL0:=Lib.hid ho
   have HN2:=Lib.hid hn2
   have HT1:=Lib.hid (fun W=>put0_text nm hxk.1 W)
   have HT2:=Lib.hid (fun W=>put0_text tx hxk.2 W)
   have HLT:=Lib.hid hlt
   have HUL:=Lib.hid (own_lt ho)
   clear hnx hll hL ho hn2 HOk hlt
   go_wp2_with fail
   have hba:Below wr.heap.size wr (wr.alloc (.cells #[.string ⟨nm.toArray⟩,.string ⟨tx.toArray⟩] 123)):=(Below.refl _ _).alloc (Nat.le_refl _) _
   have hnw:=(new_two wr (.string ⟨nm.toArray⟩) (.string ⟨tx.toArray⟩) 123).2
   refine (HT1.out _).mono ?_
   rintro e w5 ⟨v5,rfl,ho5,hb5⟩
   have hb15:Below wr.heap.size wr w5:=hba.trans (hb5.mono hba.size)
   have hszr5:wr.heap.size<w5.heap.size:=by have:=hb5.size;rw [World.size_alloc] at this;omega
   have k1:=(hb5.cell (p:=⟨wr.heap.size,1,none⟩) (by rw [World.size_alloc];exact Nat.lt_succ_self _)).trans hnw
   have HO5:=Lib.hid ho5
   have HV5:=Lib.hid (HOL0.out.keep hb15)
   have HG5:=Lib.hid (Grown.below HGk.out hb15)
   have hvr:u0.ownBlock≠some wr.heap.size:=fun e=>absurd (HUL.out _ e) (Nat.lt_irrefl _)
   clear hba hnw ho5 hb5 hb15 HT1 c1 c2 HGk
   go_wp2_with (at_builtin;go_loud (refine wpList_append_grown rfl _ _ rfl u0 L rfl HV5.out _ (textL nm) rfl HO5.out.brow (textL_ne _) (by simp only [List.length_append] at hlen;omega) ?_;intro v6 w6 ho6 hg6;have k2:=(hg6.kep.cell hszr5 hvr 1).trans k1;have HO6:=Lib.hid ho6;have HG6:=Lib.hid (HG5.out.trans hg6);clear ho6 hg6))
   refine (HT2.out _).mono ?_
   rintro e w7 ⟨v7,rfl,ho7,hb7⟩
   have HO7:=Lib.hid ho7
   have HV7:=Lib.hid (HO6.out.keep hb7)
   have HG7:=Lib.hid (Grown.below HG6.out hb7)
   clear ho7 hb7 HT2 k1 k2 HO6 HG6 HO5 HV5 HG5
   go_wp2_with (at_builtin;go_loud (refine wpList_append_grown rfl _ _ rfl v6 (L++textL nm) rfl HV7.out _ (textL tx) rfl HO7.out.brow (textL_ne _) (by simp only [List.length_append] at hlen;simp only [List.length_append];omega) ?_;intro v8 w8 ho8 hg8;rw [← HN2.out] at ho8;have HO8:=Lib.hid ho8;have HG8:=Lib.hid (HG7.out.trans hg8);clear ho8 hg8))
   have hlt:=HLT.out
   go_roundw
   case rel=>exact ⟨k+1,by omega,by go_num,HO8,HG8⟩
   case measure=>simp [intOf];omega
  ·obtain rfl:k=fs.length:=by omega
   have q1:decide ((fs.length:Int)<(fs.length:Int))=false:=by simp
   have q2:decide (fs.length<fs.length)=false:=by simp
   have ho:=HOk.out
   rw [HEND.out] at ho
   have HO9:=Lib.hid ho
   clear HOk ho hlt
   go_wp2_with fail
   go_ret
   exact ⟨_,rfl,HO9.out,HGk.out⟩
end Go.Proofs.YtdijhifdjbnkfaaGreat.EV
namespace Go.Proofs.YtdijhifdjbnkfaaGreat.EV
open Go Go.RowKit Go.Proofs.YtdijhifdjbnkfaaGreat.MM Go.Proofs.YtdijhifdjbnkfaaGreat.EM Go.Proofs.YtdijhifdjbnkfaaGreat.VM
def numSt (m:Nat) (l:List UInt8) (o:Bool):Nat×List UInt8×Bool:=if (getL l).2.2=0∧(getL l).1≤m then ((getL l).1,VG.restL l,o) else (0,[],true)
def timSt (l:List UInt8) (o:Bool):Int×List UInt8×Bool:=((getI l).1,VG.restL l,o||(getI l).2.2 != 0)
def txtSt (m:Int) (l:List UInt8) (o:Bool):List UInt8×List UInt8×Bool:=((getT l m).1,VG.restT l m,o||(getT l m).2.2 != 0)
def Rd (B:Nat) (w:World) (g:Nat) (l:List UInt8) (o:Bool):Prop:=∃ v,w.heap[g]? = some (.cells #[v,.bool o] 326 (0,0))∧BIn B w v l
theorem Rd.lt {B:Nat} {w:World} {g:Nat} {l:List UInt8} {o:Bool} (h:Rd B w g l o):g<w.heap.size:=by obtain ⟨v,h,_⟩:=h;exact (Array.getElem?_eq_some_iff.1 h).1
theorem Rd.keep {S:Nat→Prop} {B:Nat} {w w':World} {g:Nat} {l:List UInt8} {o:Bool} (h:Rd B w g l o) (hk:Kep S w w') (hg:S g) (hB:∀ k,k<B→S k) (hBs:B≤w.heap.size):Rd B w' g l o:=by
 have hl:=h.lt
 obtain ⟨v,h,hv⟩:=h
 exact ⟨v,(hk.block g hl hg).trans h,hv.below (hk.below hBs hB)⟩
theorem rd_set0 {B:Nat} {w w1:World} {g:Nat} {l m:List UInt8} {o:Bool} {v:Value} (h:Rd B w g l o) (hb:Below w.heap.size w w1) (hB:B≤g) (hv:BIn B w1 v m):Rd B (w1.setCell ⟨g,0,none⟩ v) g m o:=by
 obtain ⟨v0,h,_⟩:=h
 have hlt:=(Array.getElem?_eq_some_iff.1 h).1
 have h1:=heap_setCell_same w1 g 0 _ _ v ((hb.block g hlt).trans h)
 exact ⟨v,h1,hv.below ((Below.refl B w1).setCell (p:=⟨g,0,none⟩) hB v)⟩
theorem rd_set1 {B:Nat} {w w1:World} {g:Nat} {l m:List UInt8} {o:Bool} {v:Value} (h:Rd B w g l o) (hb:Below w.heap.size w w1) (hB:B≤g) (hv:BIn B w1 v m):Rd B ((w1.setCell ⟨g,0,none⟩ v).setCell ⟨g,1,none⟩ (.bool true)) g m true:=by
 obtain ⟨v0,h,_⟩:=h
 have hlt:=(Array.getElem?_eq_some_iff.1 h).1
 have h1:=heap_setCell_same w1 g 0 _ _ v ((hb.block g hlt).trans h)
 have h2:=heap_setCell_same _ g 1 _ _ (.bool true) h1
 exact ⟨v,h2,(hv.below ((Below.refl B w1).setCell (p:=⟨g,0,none⟩) hB v)).below ((Below.refl B _).setCell (p:=⟨g,1,none⟩) hB (.bool true))⟩
def Took (B g:Nat) (x:Value) (l:List UInt8) (o:Bool) (w:World) (e:Ending) (w':World):Prop:=e=.returned x∧Rd B w' g l o∧Kep (fun b=>b≠g) w w'
set_option maxRecDepth 100000 in
set_option maxHeartbeats 1000000 in
theorem goon_any (B g:Nat) (l m:List UInt8) (o:Bool) (v:Value) (er:Int) (w:World) (h:Rd B w g l o) (hB:B≤g) (hv:BIn B w v m) :
  Calls Tryz.prog 283 #[.pointer (some ⟨g,0,none⟩),v,.int .i64 er] w (Took B g (.tuple #[]) m (o||er != 0) w):=by
 have HR:=Lib.hid h
 have hlt:=h.lt
 obtain ⟨v0,hc,_⟩:=h
 have HV:=Lib.hid hv
 have f0:=cell_of_row w g 0 _ _ _ hc
 have f1:=cell_of_row w g 1 _ _ _ hc
 have f2:=frozen_of_row w g 0 _ _ hc
 have f3:=frozen_of_row w g 1 _ _ hc
 obtain ⟨p1,c1,rfl,_⟩:=hv.shape
 by_cases h0:er=0
 ·subst h0
  have t1:(o||((0:Int) != 0))=o:=by simp
  rw [t1]
  have HQ:=Lib.hid (show Took B g (.tuple #[]) m o w (.returned (.tuple #[])) (w.setCell ⟨g,0,none⟩ (.slice p1 m.length c1)) from ⟨rfl,rd_set0 HR.out (Below.refl _ _) hB HV.out,kep_set (by simp) _⟩)
  clear hv HV HR hc
  go_enter Tryz.func283,Tryz.ntmps283
  go_wp2_with fail
  refine bodyPost_end (results_none rfl _ _ _) rfl ?_
  exact HQ.out
 ·have t0:(er != 0)=true:=by rw [bne_iff_ne];exact h0
  have t1:(o||(er != 0))=true:=by rw [t0];simp
  rw [t1]
  have HQ:=Lib.hid (show Took B g (.tuple #[]) m true w (.returned (.tuple #[])) ((w.setCell ⟨g,0,none⟩ (.slice p1 m.length c1)).setCell ⟨g,1,none⟩ (.bool true)) from ⟨rfl,rd_set1 HR.out (Below.refl _ _) hB HV.out,(kep_set (by simp) _).trans (kep_set (by simp) _)⟩)
  clear hv HV HR hc
  go_enter Tryz.func283,Tryz.ntmps283
  go_wp2_with fail
  refine bodyPost_end (results_none rfl _ _ _) rfl ?_
  exact HQ.out
set_option maxRecDepth 100000 in
set_option maxHeartbeats 1000000 in
theorem time_any (B g:Nat) (l:List UInt8) (o:Bool) (w:World) (h:Rd B w g l o) (hB:B≤g) :
  Calls Tryz.prog 276 #[.pointer (some ⟨g,0,none⟩)] w (Took B g (.int .i64 (timSt l o).1) (timSt l o).2.1 (timSt l o).2.2 w):=by
 have HR:=Lib.hid h
 have hlt:=h.lt
 obtain ⟨v,hc,hv⟩:=h
 have f0:w.cell? ⟨g,0,none⟩=some v:=by rw [cell_of_row w g 0 _ _ _ hc];rfl
 have HG:=Lib.hid (VG.getint_in B v l w hv (Nat.le_of_lt (Nat.lt_of_le_of_lt hB hlt)))
 have HGO:=Lib.hid (fun m v er w1 (h1:Rd B w1 g l o) (h2:BIn B w1 v m)=>goon_any B g l m o v er w1 h1 hB h2)
 unfold timSt
 generalize (getI l).1=n at *
 generalize (getI l).2.2=er at *
 generalize VG.restL l=R at *
 have HBS:=Lib.hid (show B≤w.heap.size by omega)
 clear hv hc hlt
 go_enter Tryz.func276,Tryz.ntmps276
 go_wp2_with fail
 refine HG.out.mono ?_
 rintro e w1 ⟨v1,rfl,hv1,hb1⟩
 have hr1:=HR.out.keep (S:=fun _=>True) (kep_below _ hb1) trivial (fun _ _=>trivial) HBS.out
 have HQ:=Lib.hid (HGO.out R v1 er w1 hr1 hv1)
 have HB1:=Lib.hid hb1
 clear hv1 hb1 hr1 HG HGO
 go_wp2_with fail
 refine HQ.out.mono ?_
 rintro e w2 ⟨rfl,h2,k2⟩
 have H2:=Lib.hid h2
 have K2:=Lib.hid k2
 clear h2 k2 HQ
 go_wp2_with fail
 go_ret
 exact ⟨rfl,H2.out,(kep_below _ HB1.out).trans K2.out⟩
set_option maxRecDepth 100000 in
set_option maxHeartbeats 1000000 in
theorem text_any (B g:Nat) (most:Int) (l:List UInt8) (o:Bool) (w:World) (h0:0≤most) (h1:most≤9223372036854775807) (h:Rd B w g l o) (hB:B≤g) :
  Calls Tryz.prog 278 #[.pointer (some ⟨g,0,none⟩),.int .i64 most] w (Took B g (.string ⟨(txtSt most l o).1.toArray⟩) (txtSt most l o).2.1 (txtSt most l o).2.2 w):=by
 have HR:=Lib.hid h
 have hlt:=h.lt
 obtain ⟨v,hc,hv⟩:=h
 have f0:w.cell? ⟨g,0,none⟩=some v:=by rw [cell_of_row w g 0 _ _ _ hc];rfl
 have HG:=Lib.hid (VG.gettext_in B v l most w (by omega) h1 hv (Nat.le_of_lt (Nat.lt_of_le_of_lt hB hlt)))
 have HGO:=Lib.hid (fun m v er w1 (h1:Rd B w1 g l o) (h2:BIn B w1 v m)=>goon_any B g l m o v er w1 h1 hB h2)
 unfold txtSt
 dsimp only
 generalize (getT l most).1=n at *
 generalize (getT l most).2.2=er at *
 generalize VG.restT l most=R at *
 have HBS:=Lib.hid (show B≤w.heap.size by omega)
 clear hv hc hlt
 go_enter Tryz.func278,Tryz.ntmps278
 go_wp2_with fail
 refine HG.out.mono ?_
 rintro e w1 ⟨v1,rfl,hv1,hb1⟩
 have hr1:=HR.out.keep (S:=fun _=>True) (kep_below _ hb1) trivial (fun _ _=>trivial) HBS.out
 have HQ:=Lib.hid (HGO.out R v1 er w1 hr1 hv1)
 have HB1:=Lib.hid hb1
 clear hv1 hb1 hr1 HG HGO
 go_wp2_with fail
 refine HQ.out.mono ?_
 rintro e w2 ⟨rfl,h2,k2⟩
 have H2:=Lib.hid h2
 have K2:=Lib.hid k2
 clear h2 k2 HQ
 go_wp2_with fail
 go_ret
 exact ⟨rfl,H2.out,(kep_below _ HB1.out).trans K2.out⟩
set_option maxRecDepth 100000 in
set_option maxHeartbeats 1000000 in
theorem number_any (B g:Nat) (m:Nat) (l:List UInt8) (o:Bool) (w:World) (hm:m≤1099511627776) (h:Rd B w g l o) (hB:B≤g) :
  Calls Tryz.prog 277 #[.pointer (some ⟨g,0,none⟩),.int .i64 m] w (Took B g (.int .i64 (numSt m l o).1) (numSt m l o).2.1 (numSt m l o).2.2 w):=by
 have HR:=Lib.hid h
 have hlt:=h.lt
 obtain ⟨v,hc,hv⟩:=h
 have f0:w.cell? ⟨g,0,none⟩=some v:=by rw [cell_of_row w g 0 _ _ _ hc];rfl
 have HG:=Lib.hid (VG.get_in B v l w hv (Nat.le_of_lt (Nat.lt_of_le_of_lt hB hlt)))
 have HGO:=Lib.hid (fun m v er w1 (h1:Rd B w1 g l o) (h2:BIn B w1 v m)=>goon_any B g l m o v er w1 h1 hB h2)
 have hb:=getL_bounds l
 have herr:(getL l).2.2≠0→(getL l).1=0∧VG.restL l=[]:=fun he=>by
  refine ⟨?_,by unfold VG.restL;rw [if_neg he]⟩
  rcases hb.2.2.1 with e | e | e
  ·exact absurd e he
  ·rw [e]
  ·rw [e]
 have hn:=hb.1
 unfold numSt
 generalize (getL l).1=n at *
 generalize (getL l).2.2=er at *
 generalize VG.restL l=R at *
 have HBS:=Lib.hid (show B≤w.heap.size by omega)
 clear hv hc hlt hb
 by_cases hmn:n≤m
 ·have hst:(if er=0∧n≤m then (n,R,o) else (0,[],true))=(n,R,o||er != 0):=by
   by_cases h0:er=0
   ·subst h0
    rw [if_pos ⟨rfl,hmn⟩];simp
   ·rw [if_neg (fun h=>h0 h.1),(herr h0).1,(herr h0).2]
    have:(er != 0)=true:=by rw [bne_iff_ne];exact h0
    rw [this];simp
  rw [hst]
  have t1:decide ((n:Int)>(m:Int))=false:=decide_eq_false (by omega)
  have t2:IntKind.u64.wrap (m:Int)=(m:Int):=by rw [IntKind.wrap_u64];omega
  have t3:IntKind.i64.wrap (n:Int)=(n:Int):=by rw [IntKind.wrap_i64];omega
  dsimp only
  clear hst herr
  go_enter Tryz.func277,Tryz.ntmps277
  go_wp2_with fail
  refine HG.out.mono ?_
  rintro e w1 ⟨v1,rfl,hv1,hb1⟩
  have hr1:=HR.out.keep (S:=fun _=>True) (kep_below _ hb1) trivial (fun _ _=>trivial) HBS.out
  have HQ:=Lib.hid (HGO.out R v1 er w1 hr1 hv1)
  have HB1:=Lib.hid hb1
  clear hv1 hb1 hr1 HG HGO
  go_wp2_with fail
  refine HQ.out.mono ?_
  rintro e w2 ⟨rfl,h2,k2⟩
  have H2:=Lib.hid h2
  have K2:=Lib.hid k2
  clear h2 k2 HQ
  go_wp2_with fail
  go_ret
  exact ⟨rfl,H2.out,(kep_below _ HB1.out).trans K2.out⟩
 ·have hst:(if er=0∧n≤m then (n,R,o) else (0,[],true))=(0,[],true):=by rw [if_neg (fun h=>hmn h.2)]
  rw [hst]
  have t1:decide ((n:Int)>(m:Int))=true:=decide_eq_true (by omega)
  have t2:IntKind.u64.wrap (m:Int)=(m:Int):=by rw [IntKind.wrap_u64];omega
  dsimp only
  clear hst herr
  go_enter Tryz.func277,Tryz.ntmps277
  go_wp2_with fail
  refine HG.out.mono ?_
  rintro e w1 ⟨v1,rfl,hv1,hb1⟩
  have hr1:=HR.out.keep (S:=fun _=>True) (kep_below _ hb1) trivial (fun _ _=>trivial) HBS.out
  have HQ:=Lib.hid (HGO.out [] (.slice none 0 0) 100 w1 hr1 (BIn.nil_ _ _))
  have HB1:=Lib.hid hb1
  clear hv1 hb1 hr1 HG HGO
  go_wp2_with fail
  refine HQ.out.mono ?_
  rintro e w2 ⟨rfl,h2,k2⟩
  have h2':Rd B w2 g [] true:=by have:=h2;simpa using this
  have H2:=Lib.hid h2'
  have K2:=Lib.hid k2
  clear h2 h2' k2 HQ
  go_wp2_with fail
  go_ret
  exact ⟨rfl,H2.out,(kep_below _ HB1.out).trans K2.out⟩
end Go.Proofs.YtdijhifdjbnkfaaGreat.EV
