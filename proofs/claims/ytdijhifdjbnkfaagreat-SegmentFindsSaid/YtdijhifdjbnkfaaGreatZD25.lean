import Derived.Test.YtdijhifdjbnkfaaGreatZD7
import Derived.Test.YtdijhifdjbnkfaaGreatZD11
set_option maxRecDepth 100000
set_option maxHeartbeats 8000000
set_option linter.unusedVariables false
set_option linter.unusedSimpArgs false
namespace Go.Proofs.YtdijhifdjbnkfaaGreat.UM
open Go.RowKit
def ZaX (w:World) (v:Value) (zs:List Int):Prop :=
 ∃ (p:Option Addr) (cap:Nat),v=.slice p zs.length cap∧(zs=[]∨∃ b off,p=some ⟨b,off,none⟩∧b<w.heap.size∧∀ i,i<zs.length→w.cell? ⟨b,off+i,none⟩=some (.int .i64 (zs.getD i 0)))
theorem ZaX.below {w w':World} {v:Value} {zs:List Int} (h:ZaX w v zs) (hb:Below w.heap.size w w'):ZaX w' v zs:=by
 obtain ⟨p,cap,hv,h⟩:=h
 refine ⟨p,cap,hv,?_⟩
 rcases h with h | ⟨b,off,hp,hlt,hc⟩
 ·exact .inl h
 ·exact .inr ⟨b,off,hp,Nat.lt_of_lt_of_le hlt hb.size,fun i hi=>by rw [hb.cell (p:=⟨b,off+i,none⟩) hlt];exact hc i hi⟩
theorem Zg5 (zs:List Int) (k:Nat) (hk:k<zs.length):encL (zs.take (k+1))=encL (zs.take k)++Lib.encodeRune (zs.getD k 0):=by
 rw [List.take_succ_eq_append_getElem hk,ZgU]
 congr 1
 rw [ZgV,ZgY,List.append_nil]
 simp [List.getD,hk]
theorem Zqj {zs:List Int} {k:Nat} (hk:k<zs.length) {B:Nat} {v':Value} {w':World} {r:Int} (hr:Lib.runeCells r=Lib.runeCells (zs.getD k 0))
  (h:w'.ownsRow B 5 1 v' ((encL (zs.take k)).length+(Lib.runeCells r).length) (Lib.byteCells (encL (zs.take k))++Lib.runeCells r)):w'.ownsRow B 5 1 v' (encL (zs.take (k+1))).length (Lib.byteCells (encL (zs.take (k+1)))):=by
 rw [Zg5 zs k hk,List.length_append,← Lib.runeCells_length,← hr]
 have e:Lib.byteCells (encL (zs.take k)++Lib.encodeRune (zs.getD k 0))=Lib.byteCells (encL (zs.take k))++Lib.runeCells r:=by
  rw [hr,← Lib.byteCells_encodeRune];simp [Lib.byteCells]
 rw [e]
 exact h
theorem Zg9 (zs:List Int) (k:Nat) (hn:zs.length≤1000000):(encL (zs.take k)).length≤4000000:=by
 have:=ZgX (zs.take k)
 have h2:(zs.take k).length≤zs.length:=List.length_take_le' _ _
 omega
theorem ZfH {w:World} {B:Nat} {v:Value} {l:List UInt8} (h:w.ownsRow B 5 1 v l.length (Lib.byteCells l)):(convert 23 9 v).run Tryz.prog w=.ok (.string ⟨l.toArray⟩) w:=by
 rcases h.2 with ⟨rfl,h0⟩ | ⟨g,cap,cur,rfl,hg,hh,hn,hm,hs,ht⟩
 ·have:l=[]:=List.eq_nil_of_length_eq_zero h0
  subst this
  exact Lib.run_convert_nil_bytes w 23 9 5 0 Tryz.underlying23 Tryz.underlying5 Tryz.underlying9
 ·refine run_convert_bytes_back w 23 9 5 _ cap l Tryz.underlying23 Tryz.underlying5 Tryz.underlying9 ?_
  rw [Nat.mul_one] at ht
  exact Lib.bytes_of_row hh ht
theorem ZcL {B:Nat} {w wr w':World} {o:Obj} {v:Value} (hb:Below B w wr) (hB:B≤wr.heap.size) (hv:∀ k,v.ownBlock=some k→B≤k) (hg:(wr.alloc o).grownBy w' v.ownBlock):Below B w w' :=
 (hb.alloc hB o).grown hg (by simp;omega) hv
theorem ZsZ (v:Value) (zs:List Int) (w:World) (hr:ZaX w v zs) (hn:zs.length≤1000000) :
  Calls Tryz.prog 179 #[v] w fun e w'=>e=.returned (.string ⟨(encL zs).toArray⟩)∧Below w.heap.size w w':=by
 obtain ⟨p,cap,rfl,hrow⟩:=hr
 have Hrow:=Lib.hid hrow
 clear hrow
 go_enter Tryz.func179,Tryz.ntmps179
 go_wp2
 go_loopw [3,4] (fun v i wr=>∃ k:Nat,k≤zs.length∧i=.int .i64 k∧wr.ownsRow w.heap.size 5 1 v (encL (zs.take k)).length (Lib.byteCells (encL (zs.take k)))∧Below w.heap.size w wr) (fun _ i _=>zs.length - (intOf i).toNat)
 case atStart=>exact ⟨0,Nat.zero_le _,rfl,World.ownsRow_nil _ _ _ _,Below.refl _ _⟩
 case round =>
  obtain ⟨k,hk,rfl,hown,hb⟩:=hrel
  by_cases hlt:k<zs.length
  ·rcases Hrow.out with h | ⟨b,off,rfl,hbl,hc⟩
   ·subst h;exact absurd hlt (by simp)
   have hsz:=hb.size
   have hcell:=hc k hlt
   rw [← hb.cell (p:=⟨b,off+k,none⟩) hbl] at hcell
   have hroom:=Zg9 zs k hn
   have hput2:=Zr2 w.heap.size _ _ _ (zs.getD k 0) _ hown (by omega) hsz
   have hlo:=fun j hj=>(hown.lt j hj).1
   have hnext:=fun W' V' h=>Zqj (B:=w.heap.size) (w':=W') (v':=V') hlt rfl h
   obtain ⟨r,hr⟩:∃ r,zs.getD k 0=r:=⟨_,rfl⟩
   rw [hr] at hcell hput2
   simp only [hr] at hnext
   obtain ⟨L,hL⟩:∃ L,encL (zs.take k)=L:=⟨_,rfl⟩
   simp only [hL] at hput2 hnext
   have HP:=Lib.hid hput2
   have HN:=Lib.hid hnext
   have HL:=Lib.hid hlo
   clear hput2 hnext hr hL hc hown hlo
   go_wp2_with fail
   refine HP.out.mono ?_
   rintro e w' ⟨v',rfl,hown',o,hg⟩
   have hb':=ZcL hb hsz HL.out hg
   have HO:=Lib.hid hown'
   have HG:=Lib.hid hg
   clear hown' hg
   go_wp2
   go_roundw
   case rel=>exact ⟨k+1,by omega,by go_num,HN.out _ _ HO.out,hb'⟩
   case measure=>simp [intOf];omega
  ·obtain rfl:k=zs.length:=by omega
   rw [List.take_length] at hown
   have hconv:=ZfH hown
   go_wp2
   go_ret
   exact ⟨rfl,hb⟩
theorem Zg1 (v:Value) (zs:List Int) (w:World) (hr:ZaX w v zs) (hn:zs.length≤1000000) :
  Calls Tryz.prog 285 #[v] w fun e w'=>e=.returned (.string ⟨(encL zs).toArray⟩)∧Below w.heap.size w w':=by
 obtain ⟨p,cap,rfl,hrow⟩:=hr
 have Hrow:=Lib.hid hrow
 clear hrow
 obtain ⟨i0,hi,hz0,hz1,hz2⟩:=info_parts ZlZ
 go_enter Tryz.func285,Tryz.ntmps285
 go_wp2_with (at_make;refine wpList_make_own _ rfl _ _ 23 rfl w.heap.size 5 i0 (.int .u8 0) 1 Tryz.underlying23 hi hz0 hz1 .i64 .i64 _ zs.length rfl rfl rfl (by rw [hz2];omega) (by unfold maxLen;omega) (Nat.le_refl _) ?_;intro w0 hown0 hgrow0)
 have hb0:Below w.heap.size w w0:=(Below.refl _ _).grown hgrow0 (Nat.le_refl _) (fun k h=>by cases h)
 go_loopw [3,11] (fun v i wr=>∃ k:Nat,k≤zs.length∧i=.int .i64 k∧wr.ownsRow w.heap.size 5 1 v (encL (zs.take k)).length (Lib.byteCells (encL (zs.take k)))∧Below w.heap.size w wr) (fun _ i _=>zs.length - (intOf i).toNat)
 case atStart=>exact ⟨0,Nat.zero_le _,rfl,hown0,hb0⟩
 case round =>
  obtain ⟨k,hk,rfl,hown,hb⟩:=hrel
  clear hown0 hgrow0 hb0
  by_cases hlt:k<zs.length
  ·rcases Hrow.out with h | ⟨b,off,rfl,hbl,hc⟩
   ·subst h;exact absurd hlt (by simp)
   have hsz:=hb.size
   have hcell:=hc k hlt
   rw [← hb.cell (p:=⟨b,off+k,none⟩) hbl] at hcell
   have hroom:=Zg9 zs k hn
   have hbd:=Zha (zs.getD k 0)
   have hput2:=Tryz.utf8_AppendRune_plain w.heap.size _ _ _ (enco (zs.getD k 0)) hbd.1 hbd.2 _ hown (by omega) hsz
   have hlo:=fun j hj=>(hown.lt j hj).1
   have hnext:=fun W' V' h=>Zqj (B:=w.heap.size) (w':=W') (v':=V') hlt (Zhb _) h
   have henc:=fun W=>Zhc (zs.getD k 0) W
   obtain ⟨r,hr⟩:∃ r,zs.getD k 0=r:=⟨_,rfl⟩
   rw [hr] at hcell hput2
   simp only [hr] at hnext henc
   obtain ⟨q,hq⟩:∃ q,enco r=q:=⟨_,rfl⟩
   rw [hq] at hput2
   simp only [hq] at hnext henc
   obtain ⟨L,hL⟩:∃ L,encL (zs.take k)=L:=⟨_,rfl⟩
   simp only [hL] at hput2 hnext
   have HP:=Lib.hid hput2
   have HN:=Lib.hid hnext
   have HL:=Lib.hid hlo
   have HE:=Lib.hid henc
   clear hput2 hnext hr hL hc hown hlo henc hbd hq
   go_wp2_with fail
   refine (HE.out _).mono ?_
   rintro e w' ⟨rfl,rfl⟩
   go_wp2_with fail
   refine HP.out.mono ?_
   rintro e w' ⟨v',rfl,hown',o,hg⟩
   have hb':=ZcL hb hsz HL.out hg
   have HO:=Lib.hid hown'
   have HG:=Lib.hid hg
   clear hown' hg
   go_wp2
   go_roundw
   case rel=>exact ⟨k+1,by omega,by go_num,HN.out _ _ HO.out,hb'⟩
   case measure=>simp [intOf];omega
  ·obtain rfl:k=zs.length:=by omega
   rw [List.take_length] at hown
   have hconv:=ZfH hown
   go_wp2
   go_ret
   exact ⟨rfl,hb⟩
end Go.Proofs.YtdijhifdjbnkfaaGreat.UM
