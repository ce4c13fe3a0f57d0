import Derived.Test.YtdijhifdjbnkfaaGreatZD42
import Derived.Lib.SmallJoins
set_option maxRecDepth 100000
set_option maxHeartbeats 8000000
set_option linter.unusedVariables false
set_option linter.unusedSimpArgs false
namespace Go.Proofs.YtdijhifdjbnkfaaGreat.SG
open Go Go.RowKit MM
open EV (docC fldC)
open SM (Doc isS FitS)
open GM (Zbs Zv7 Zvz Zd6 encG ZgT)
open FM (ZjF ZjH ZjC)
def Zan (r:List UInt8×Int) (w:World) (e:Ending) (w':World):Prop:=∃ u,e=.returned (.tuple #[u,.int .i64 r.2])∧OwnB w.heap.size w' u r.1∧Below w.heap.size w w'
theorem ZjM (p:List UInt8) (ps:List (List UInt8)):0<(ZjF (p::ps)).length:=by
 have:=(ZjC p).1
 rw [ZjH,List.length_append]
 omega
theorem Zg6 (v:Value) (l:List Doc) (w:World) (hv:RAny docC w v l) (h:isS l=false∨l=[]):Calls Tryz.prog 10 #[v] w (Zan ([],130) w):=by
 by_cases h0:l=[]
 ·subst h0
  obtain ⟨p,cap,rfl,hlc,hcm,_⟩:=hv.shape
  clear hv h
  go_enter Tryz.func10,Tryz.ntmps10
  go_wp2_with fail
  go_ret2
  exact ⟨_,rfl,World.ownsRow_nil _ _ _ _,Below.refl _ _⟩
 ·have hS:=h.resolve_right h0
  have hC:=ST.Zem v l w hv
  rw [hS] at hC
  obtain ⟨p,cap,rfl,hlc,hcm,_⟩:=hv.shape
  have hn:=List.length_pos_iff.2 h0
  have q1:((l.length:Int) == 0)=false:=by rw [beq_eq_false_iff_ne];omega
  have HC:=Lib.hid (show Calls _ _ _ w (EV.ZaW 120 w) from hC)
  clear hv h hS hC h0
  go_enter Tryz.func10,Tryz.ntmps10
  go_wp2_with fail
  refine HC.out.mono ?_
  rintro e w1 ⟨rfl,hb1⟩
  have HB:=Lib.hid hb1
  clear hb1
  go_wp2_with fail
  go_ret2
  exact ⟨_,rfl,World.ownsRow_nil _ _ _ _,HB.out⟩
theorem Zg3 (v:Value) (l:List Doc) (w:World) (hv:RAny docC w v l) (hS:isS l=true) (hsm:Zbs l) (hfit:FitS l) (h0:l≠[]):Calls Tryz.prog 10 #[v] w (Zan (Zd6 l,0) w):=by
 have hz:=Zv7 hS hsm
 have hC:=ST.Zem v l w hv
 rw [hS] at hC
 have HC:=Lib.hid (show Calls _ _ _ w (EV.ZaW 0 w) from hC)
 have HS:=Lib.hid (fun W (hW:Below w.heap.size w W)=>ZvA v l W (hv.below hW) hS hsm hfit h0)
 have hlen:=GM.Zd7 hS hsm
 have hbg:Zd6 l=[76,83,69,71]++ZjF (Zvz l):=rfl
 have hfp:0<(ZjF (Zvz l)).length:=ZjM _ _
 have HJ:=Lib.hid (fun W u (h:CR.PRow W u (Zvz l))=>FP.ZmQ u (Zvz l) W h (fun p hp=>by have:=hz.sects p hp;omega) (by rw [hbg,List.length_append] at hlen;omega))
 obtain ⟨p,cap,rfl,hlc,hcm,_⟩:=hv.shape
 have hn:=List.length_pos_iff.2 h0
 have q1:((l.length:Int) == 0)=false:=by rw [beq_eq_false_iff_ne];omega
 rw [hbg] at hlen ⊢
 rw [List.length_append] at hlen
 obtain ⟨FL,hFL⟩:∃ FL,ZjF (Zvz l)=FL:=⟨_,rfl⟩
 rw [hFL] at hlen hfp ⊢
 simp only [List.length_cons,List.length_nil] at hlen
 have HFL:=Lib.hid hFL
 clear hv hS hsm hfit h0 hz hC hbg hFL
 go_enter Tryz.func10,Tryz.ntmps10
 go_wp2_with fail
 refine HC.out.mono ?_
 rintro e w1 ⟨rfl,hb1⟩
 have HB1:=Lib.hid hb1
 clear hb1
 go_wp2_with fail
 refine (HS.out _ HB1.out).mono ?_
 rintro e w2 ⟨v2,rfl,hp2,hb2⟩
 have HJ2:=Lib.hid (HJ.out _ _ hp2)
 have HB2:=Lib.hid (HB1.out.trans (hb2.mono HB1.out.size))
 obtain ⟨p2,c2,rfl,_⟩:=CR.PRow.shape hp2
 clear hp2 hb2 HJ HS HC
 go_wp2_with fail
 refine HJ2.out.mono ?_
 rintro e w3 ⟨v3,rfl,ho3,hb3⟩
 rw [HFL.out] at ho3
 have HB3:=Lib.hid (HB2.out.trans (hb3.mono HB2.out.size))
 obtain ⟨p3,c3,rfl,hc3,hm3⟩:=(OwnB.brow ho3).shape
 have hr3:=OwnB.brow ho3
 obtain ⟨b3,o3,rfl,hlt3,_⟩:=BIn.at_ hr3 (k:=0) hfp
 obtain ⟨W4,hW4⟩:∃ W4,w3.alloc (.cells #[.int .u8 76,.int .u8 83,.int .u8 69,.int .u8 71] 5 (4,5))=W4:=⟨_,rfl⟩
 have hb4:Below w3.heap.size w3 W4:=by rw [← hW4];exact (Below.refl _ _).alloc (Nat.le_refl _) _
 have hk:=Joins.run_convert_bytes_const_at (P:=Tryz.prog) w3 23 5 #[.int .u8 76,.int .u8 83,.int .u8 69,.int .u8 71] 4 4 w3.heap.size rfl Tryz.underlying23 Tryz.underlying5
 simp only [List.size_toArray,List.length_cons,List.length_nil,Nat.reduceAdd] at hk
 rw [hW4] at hk
 have hg4:W4.heap[w3.heap.size]? = some (.cells #[.int .u8 76,.int .u8 83,.int .u8 69,.int .u8 71] 5 (4,5)):=by rw [← hW4];exact heap_alloc_new _ _
 have hlit:∀ j u,([.int .u8 76,.int .u8 83,.int .u8 69,.int .u8 71]:List Value)[j]? = some u→W4.cell? ((⟨w3.heap.size,0,none⟩:Addr).add j)=some u:=fun j u hj=>by
  rw [Zb5,Nat.zero_add,Zud hg4 j]
  simpa using hj
 have hr4:=BRow.below hr3 hb4
 have hnew:∀ j u,(Lib.byteCells FL)[j]? = some u→W4.cell? ((⟨b3,o3,none⟩:Addr).add j)=some u:=fun j u hj=>by
  obtain ⟨p',cap',hv',_,_,_,hc⟩:=hr4
  simp only [Value.slice.injEq,Option.some.injEq] at hv'
  obtain ⟨rfl,_,_⟩:=hv'
  rcases hc with hc | ⟨b',o',he,_,hc⟩
  ·rw [hc] at hj;simp at hj
  ·simp only [Option.some.injEq,Addr.mk.injEq,and_true] at he
   obtain ⟨rfl,rfl⟩:=he
   rw [Zb5]
   exact hc j u hj
 have HLIT:=Lib.hid hlit
 have HNEW:=Lib.hid hnew
 have HB4:=Lib.hid (HB3.out.trans (hb4.mono HB3.out.size))
 have HW4:=Lib.hid hW4
 obtain ⟨i0,hi,hz0,hz1,hz2⟩:=info_parts ZlZ
 clear ho3 hb3 hr3 hr4 hW4 hb4 hg4 hlit hnew HJ2
 go_wp2_with (at_builtin;go_loud (refine wpList_append_grows W4 rfl _ _ 23 rfl 5 i0 (.int .u8 0) 1 1 Tryz.underlying23 hi hz0 hz1 hz2 rfl (by decide) (some ⟨w3.heap.size,0,none⟩) 4 4 [.int .u8 76,.int .u8 83,.int .u8 69,.int .u8 71] rfl (fun h=>by cases h) rfl (fun b hb=>by obtain rfl:=Option.some.inj hb;exact HLIT.out) ⟨b3,o3,none⟩ FL.length c3 (Lib.byteCells FL) rfl (by rw [ZdR,Nat.mul_one]) HNEW.out (ZdS FL) (by omega) (by unfold maxLen;omega) (by omega) ?_;intro v5 w5 ho5 hg5))
 have hb5:Below w.heap.size w w5:=HB4.out.grown hg5 HB4.out.size (fun k h=>by cases h)
 have HQ:Hid (Zan ([76,83,69,71]++FL,0) w (.returned (.tuple #[v5,.int .i64 0])) w5):=Lib.hid ⟨_,rfl,OwnB.weaken (B:=W4.heap.size) (by
  show w5.ownsRow _ 5 1 v5 ([76,83,69,71]++FL).length (Lib.byteCells ([76,83,69,71]++FL))
  rw [ZdO,List.length_append]
  exact ho5) HB4.out.size,hb5⟩
 clear ho5 hg5 hb5
 go_wp2_with fail
 go_ret2
 exact HQ.out
theorem Zg1 (v:Value) (l:List Doc) (w:World) (hv:RAny docC w v l) (hsm:Zbs l) (hfit:FitS l):Calls Tryz.prog 10 #[v] w (Zan (encG l) w):=by
 rw [ZgT hsm]
 by_cases h:isS l=true∧l≠[]
 ·rw [if_pos h]
  exact Zg3 v l w hv h.1 hsm hfit h.2
 ·rw [if_neg h]
  refine Zg6 v l w hv ?_
  by_cases hS:isS l=true
  ·exact .inr (Classical.byContradiction fun h0=>h ⟨hS,h0⟩)
  ·exact .inl (by simpa using hS)
end Go.Proofs.YtdijhifdjbnkfaaGreat.SG
