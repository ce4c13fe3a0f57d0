import Derived.Test.YtdijhifdjbnkfaaGreatZD18
import Derived.Test.YtdijhifdjbnkfaaGreatZD38
set_option maxRecDepth 100000
set_option maxHeartbeats 8000000
set_option linter.unusedVariables false
set_option linter.unusedSimpArgs false
namespace Go.Proofs.YtdijhifdjbnkfaaGreat.EV
open Go Go.RowKit MM EM VM GB
open VP
def putB (l:List UInt8) (e:Ev):List UInt8:=if ZeD e=0 then l++ZdV e else []
def Zao (l:List UInt8) (x:Int) (w:World) (e:Ending) (w':World):Prop:=∃ v,e=.returned (.tuple #[v,.int .i64 x])∧OwnB w.heap.size w' v l∧Below w.heap.size w w'
theorem Zql (B:Nat) (w:World):OwnB B w (.slice none 0 0) []:=World.ownsRow_nil _ _ _ _
theorem ZnS {w w':World} {v':Value} (h:ZaL w w' (.slice none 0 0) v'):Below w.heap.size w w'∧∀ k,v'.ownBlock=some k→w.heap.size≤k :=
 ⟨h.kep.below (Nat.le_refl _) (fun k _ e=>by cases e),fun k hk=>(h.2 k hk).elim (fun e=>by cases e) id⟩
theorem ZfR (v:Value) (l:List UInt8) (z:Int) (u:Value) (fs:List Fld) (w:World) (hv:BRow w v l) (hl:l.length≤1000000000) (hr:RAny fldC w u fs) (h0 : -9223372036854775808≤z) (h1:z≤9223372036854775807) :
  Calls Tryz.prog 201 #[v,.agg #[.int .i64 z,u]] w (Zao (putB l (z,fs)) (ZeD (z,fs)) w):=by
 obtain ⟨pv,cv,rfl,_⟩:=hv.shape
 have hbx:=ZdG w z u
 have HC:=Lib.hid (ZeI z u fs _ (RAny.below hr hbx))
 obtain ⟨L,hL⟩:∃ L,putB l (z,fs)=L:=⟨_,rfl⟩
 obtain ⟨c,hc⟩:∃ c,ZeD (z,fs)=c:=⟨_,rfl⟩
 rw [hc] at HC
 rw [hL,hc]
 have HR:=Lib.hid hr
 have HV:=Lib.hid hv
 by_cases hz:c=0
 ·subst hz
  have hok:=(ZeE.1 hc)
  have h16:fs.length≤16:=hok.1
  have hx:∀ f∈fs,f.1.length≤4096∧f.2.length≤4096:=fun f hf=>⟨Nat.le_trans (Zoz (hok.2 f hf).1) (by omega),(hok.2 f hf).2⟩
  have hLe:L=l++ZdV (z,fs):=by rw [← hL];unfold putB;rw [if_pos hc]
  have hfl:=fits fs.length [] fs z h16 hx (by simp) fs.length
  have hbl:(ZdV (z,fs)).length≤1001000000:=by
   rw [List.take_length,List.nil_append] at hfl
   exact hfl
  have HA:=Lib.hid (fun W (h:RAny fldC W u fs)=>Zcm (.slice none 0 0) [] z u fs W (Zql 0 W) (h.weak fun b _ _ e=>by cases e) h0 h1 h16 hx (by simp))
  have HBL:=Lib.hid hbl
  have HLE:=Lib.hid hLe
  clear hr hv hok hx hLe hfl hbl hc hbx hL
  go_enter Tryz.func201,Tryz.ntmps201
  go_wp2_with fail
  refine HC.out.mono ?_
  rintro e w1 ⟨rfl,hb1⟩
  obtain ⟨c0,c1,hb01⟩:=ZdH hb1
  have HB1:=Lib.hid hb01
  have HA1:=Lib.hid (HA.out _ (RAny.below HR.out hb01))
  clear hb1 hb01 HA HC
  go_wp2_with fail
  refine HA1.out.mono ?_
  rintro e w2 ⟨v2,rfl,ho2,hg2⟩
  obtain ⟨hb2,hk2⟩:=ZnS hg2
  rw [List.nil_append] at ho2
  have hb02:=HB1.out.trans (hb2.mono HB1.out.size)
  have HB2:=Lib.hid hb02
  have HRow:=Lib.hid (Zoc (HV.out.below hb02) ho2.brow)
  obtain ⟨p2,c2,rfl,_⟩:=ho2.brow.shape
  clear ho2 hg2 hb2 hk2 hb02 HA1
  go_wp2_with fail
  have HQ:=Lib.hid (ZfA _ [l,ZdV (z,fs)] _ HRow.out (by simp;have:=HBL.out;omega))
  refine HQ.out.mono ?_
  rintro e w3 ⟨v3,rfl,ho3,hb3⟩
  have ho3':OwnB w.heap.size w3 v3 L:=by
   rw [HLE.out]
   have:=OwnB.weaken ho3 (B':=w.heap.size) (Nat.le_trans HB2.out.size (by simp))
   simpa using this
  have HO3:=Lib.hid ho3'
  have HB3:=Lib.hid ((HB2.out.alloc HB2.out.size _).trans (hb3.mono (Nat.le_trans HB2.out.size (by simp))))
  clear ho3 hb3 ho3' HQ
  go_wp2_with fail
  go_ret2
  exact ⟨_,rfl,HO3.out,HB3.out⟩
 ·have t0:(c != 0)=true:=by rw [bne_iff_ne];exact hz
  have hLe:L=[]:=by rw [← hL];unfold putB;rw [if_neg (by rw [hc];exact hz)]
  subst hLe
  clear hr hv hL hc hbx
  go_enter Tryz.func201,Tryz.ntmps201
  go_wp2_with fail
  refine HC.out.mono ?_
  rintro e w1 ⟨rfl,hb1⟩
  obtain ⟨c0,c1,hb01⟩:=ZdH hb1
  have HB1:=Lib.hid hb01
  clear hb1 hb01 HC
  go_wp2_with fail
  go_ret2
  exact ⟨_,rfl,Zql _ _,HB1.out⟩
end Go.Proofs.YtdijhifdjbnkfaaGreat.EV
