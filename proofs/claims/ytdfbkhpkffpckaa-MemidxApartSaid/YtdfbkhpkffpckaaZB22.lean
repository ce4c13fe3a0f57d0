import Derived.Shelf.Utf8.AppendRunePlain
import Derived.Shelf.Utf8.RuneCount
import Derived.Shelf.Strings.FuncGrows
import Derived.Shelf.Slices.Clone
import Derived.Test.YtdfbkhpkffpckaaZB17
set_option maxRecDepth 100000
set_option maxHeartbeats 8000000
set_option linter.unusedVariables false
set_option linter.unusedSimpArgs false
namespace Go.Proofs
open Go.Shelf
def Try.lays242_ren:Go.Shelf.Ren:=⟨fun | 242=>137 | 278=>139 | n=>n,fun | 37=>77 | 21=>21 | 51=>169 | 4=>4 | 5=>5 | 46=>144 | n=>n,fun | n=>n⟩
theorem Try.lays242:Go.Proofs.Lays.n242 Try.prog Try.lays242_ren:={
 mixed:=by kernel_rfl
 f242:=Try.func137.trans (congrArg some (by kernel_rfl))
 f278:=Try.func139.trans (congrArg some (by kernel_rfl))
 t4:=Try.underlying4
 a4:=Try.isAgg4
 z4:=Try.sizeOf4
 v4:=Try.zeroValue4
 t5:=Try.underlying5
 a5:=Try.isAgg5
 z5:=Try.sizeOf5
 v5:=Try.zeroValue5
 t21:=Try.underlying21
 a21:=Try.isAgg21
 z21:=Try.sizeOf21
 v21:=Try.zeroValue21
 t37:=Try.underlying77
 a37:=Try.isAgg77
 z37:=Try.sizeOf77
 v37:=Try.zeroValue77
 t46:=Try.underlying144
 a46:=Try.isAgg144
 z46:=Try.sizeOf144
 v46:=Try.zeroValue144
 t51:=Try.underlying169
 a51:=Try.isAgg169
 z51:=Try.sizeOf169
 v51:=Try.zeroValue169 }
open Go.RowKit in
theorem Try.utf8_AppendRune_plain (B:Nat) (v:Value) (n:Nat) (xs:List Value) (r:Int) (hr0 : -2147483648≤r) (hr1:r≤2147483647) (w:World) (hown:w.ownsRow B 5 1 v n xs) (hlen:n+4≤140737488355328) (hBw:B≤w.heap.size) :
  Calls Try.prog 137 #[v,.int .i32 r] w fun e w'=>∃ v',e=.returned v'∧w'.ownsRow B 5 1 v' (n+(Lib.runeCells r).length) (xs++Lib.runeCells r)∧∃ o,(w.alloc o).grownBy w' v.ownBlock:=Any.utf8_AppendRune_plain Try.lays242 (by kernel_rfl) B v n xs r hr0 hr1 w hown hlen hBw
def Try.lays195_ren:Go.Shelf.Ren:=⟨fun | 195=>130 | n=>n,fun | 9=>9 | 3=>3 | 0=>0 | 4=>4 | n=>n,fun | n=>n⟩
theorem Try.lays195:Go.Proofs.Lays.n195 Try.prog Try.lays195_ren:={
 mixed:=by kernel_rfl
 f195:=Try.func130.trans (congrArg some (by kernel_rfl))
 t0:=Try.underlying0
 a0:=Try.isAgg0
 z0:=Try.sizeOf0
 v0:=Try.zeroValue0
 t3:=Try.underlying3
 a3:=Try.isAgg3
 z3:=Try.sizeOf3
 v3:=Try.zeroValue3
 t4:=Try.underlying4
 a4:=Try.isAgg4
 z4:=Try.sizeOf4
 v4:=Try.zeroValue4
 t9:=Try.underlying9
 a9:=Try.isAgg9
 z9:=Try.sizeOf9
 v9:=Try.zeroValue9 }
open Go.RowKit in
theorem Try.utf8_RuneCountInString (s:ByteArray) (w:World) (hs:s.size<9223372036854775807) :
  Calls Try.prog 130 #[.string s] w fun e w'=>e=.returned (.int .i64 (Lib.runeCount s))∧∃ pos,w'=w.iter s pos:=Any.utf8_RuneCountInString Try.lays195 s w hs
def Try.laysGw17_ren:Go.Shelf.Ren:=⟨fun | 17=>117 | 15=>129 | 20=>134 | n=>n,fun | 9=>9 | 23=>173 | 4=>4 | 3=>3 | 0=>0 | 21=>21 | n=>n,fun | n=>n⟩
theorem Try.laysGw17:Go.Proofs.LaysGw.n17 Try.prog Try.laysGw17_ren:={
 mixed:=by kernel_rfl
 f15:=Try.func129.trans (congrArg some (by kernel_rfl))
 f17:=Try.func117.trans (congrArg some (by kernel_rfl))
 f20:=Try.func134.trans (congrArg some (by kernel_rfl))
 t0:=Try.underlying0
 a0:=Try.isAgg0
 z0:=Try.sizeOf0
 v0:=Try.zeroValue0
 i0:=by kernel_rfl
 t3:=Try.underlying3
 a3:=Try.isAgg3
 z3:=Try.sizeOf3
 v3:=Try.zeroValue3
 i3:=by kernel_rfl
 t4:=Try.underlying4
 a4:=Try.isAgg4
 z4:=Try.sizeOf4
 v4:=Try.zeroValue4
 i4:=by kernel_rfl
 t9:=Try.underlying9
 a9:=Try.isAgg9
 z9:=Try.sizeOf9
 v9:=Try.zeroValue9
 i9:=by kernel_rfl
 t21:=Try.underlying21
 a21:=Try.isAgg21
 z21:=Try.sizeOf21
 v21:=Try.zeroValue21
 i21:=by kernel_rfl
 t23:=Try.underlying173
 a23:=Try.isAgg173
 z23:=Try.sizeOf173
 v23:=Try.zeroValue173
 i23:=by kernel_rfl }
open Go.RowKit Go.Lib in
theorem Try.strings_ContainsFunc_grows (g:Nat) (lb:Array Value) (eg:∀ args w,(callFunc g args).run Try.prog w=.ok (.enter g args) w) (p:Nat→Bool) (s:ByteArray) (w:World) (hp:PredGrows Try.prog g lb p w) :
  Calls Try.prog 117 #[.string s,.func (.func g) #[] lb] w fun e w'=>e=.returned (.bool (decide (0≤Lib.idxFunc p true s)))∧Below w.heap.size w w':=Any.strings_ContainsFunc_grows Try.laysGw17 g lb eg p s w hp
end Go.Proofs
namespace Go.Proofs.Ytdfbkhpkffpckaa.UM
open Go.RowKit
def RowB (j:Nat) (m:Int):Prop:=0≤m∧((j=0∧m≤31)∨(j=1∧m≤2047)∨(j=2∧m≤131071)∨(j=3∧m≤8388607))
theorem RowB.next {j:Nat} {m:Int} (h:RowB j m) (hj:j<3) (x:Nat):RowB (j+1) (m*64+(x%64:Nat)):=by unfold RowB at *;omega
end Go.Proofs.Ytdfbkhpkffpckaa.UM
namespace Go.Proofs.Ytdfbkhpkffpckaa.UM
open Go.RowKit
end Go.Proofs.Ytdfbkhpkffpckaa.UM
namespace Go.Proofs.Ytdfbkhpkffpckaa.UM
open Go.RowKit
def IntRow (w:World) (v:Value) (zs:List Int):Prop :=
 ∃ (p:Option Addr) (cap:Nat),v=.slice p zs.length cap∧(zs=[]∨∃ b off,p=some ⟨b,off,none⟩∧b<w.heap.size∧∀ i,i<zs.length→w.cell? ⟨b,off+i,none⟩=some (.int .i64 (zs.getD i 0)))
theorem IntRow.below {w w':World} {v:Value} {zs:List Int} (h:IntRow w v zs) (hb:Below w.heap.size w w'):IntRow w' v zs:=by
 obtain ⟨p,cap,hv,h⟩:=h
 refine ⟨p,cap,hv,?_⟩
 rcases h with h | ⟨b,off,hp,hlt,hc⟩
 ·exact .inl h
 ·exact .inr ⟨b,off,hp,Nat.lt_of_lt_of_le hlt hb.size,fun i hi=>by rw [hb.cell (p:=⟨b,off+i,none⟩) hlt];exact hc i hi⟩
theorem enc_next (zs:List Int) (k:Nat) (hk:k<zs.length):encL (zs.take (k+1))=encL (zs.take k)++Lib.encodeRune (zs.getD k 0):=by
 rw [List.take_succ_eq_append_getElem hk,encL_append]
 congr 1
 rw [encL_cons,encL_nil,List.append_nil]
 simp [List.getD,hk]
theorem own_next {zs:List Int} {k:Nat} (hk:k<zs.length) {B:Nat} {v':Value} {w':World} {r:Int} (hr:Lib.runeCells r=Lib.runeCells (zs.getD k 0))
  (h:w'.ownsRow B 5 1 v' ((encL (zs.take k)).length+(Lib.runeCells r).length) (Lib.byteCells (encL (zs.take k))++Lib.runeCells r)):w'.ownsRow B 5 1 v' (encL (zs.take (k+1))).length (Lib.byteCells (encL (zs.take (k+1)))):=by
 rw [enc_next zs k hk,List.length_append,← Lib.runeCells_length,← hr]
 have e:Lib.byteCells (encL (zs.take k)++Lib.encodeRune (zs.getD k 0))=Lib.byteCells (encL (zs.take k))++Lib.runeCells r:=by
  rw [hr,← Lib.byteCells_encodeRune];simp [Lib.byteCells]
 rw [e]
 exact h
theorem enc_room (zs:List Int) (k:Nat) (hn:zs.length≤1000000):(encL (zs.take k)).length≤4000000:=by
 have:=encL_length (zs.take k)
 have h2:(zs.take k).length≤zs.length:=List.length_take_le' _ _
 omega
theorem conv_own {w:World} {B:Nat} {v:Value} {l:List UInt8} (h:w.ownsRow B 5 1 v l.length (Lib.byteCells l)):(convert 77 9 v).run Try.prog w=.ok (.string ⟨l.toArray⟩) w:=by
 rcases h.2 with ⟨rfl,h0⟩ | ⟨g,cap,cur,rfl,hg,hh,hn,hm,hs,ht⟩
 ·have:l=[]:=List.eq_nil_of_length_eq_zero h0
  subst this
  exact Lib.run_convert_nil_bytes w 77 9 5 0 Try.underlying77 Try.underlying5 Try.underlying9
 ·refine run_convert_bytes_back w 77 9 5 _ cap l Try.underlying77 Try.underlying5 Try.underlying9 ?_
  rw [Nat.mul_one] at ht
  exact Lib.bytes_of_row hh ht
theorem below_app {B:Nat} {w wr w':World} {o:Obj} {v:Value} (hb:Below B w wr) (hB:B≤wr.heap.size) (hv:∀ k,v.ownBlock=some k→B≤k) (hg:(wr.alloc o).grownBy w' v.ownBlock):Below B w w' :=
 (hb.alloc hB o).grown hg (by simp;omega) hv
theorem enc_any (v:Value) (zs:List Int) (w:World) (hr:IntRow w v zs) (hn:zs.length≤1000000) :
  Calls Try.prog 136 #[v] w fun e w'=>e=.returned (.string ⟨(encL zs).toArray⟩)∧Below w.heap.size w w':=by
 obtain ⟨p,cap,rfl,hrow⟩:=hr
 have Hrow:=Lib.hid hrow
 clear hrow
 obtain ⟨i0,hi,hz0,hz1,hz2⟩:=info_parts infoByte
 go_enter Try.func136,Try.ntmps136
 go_wp2_with (at_make;refine wpList_make_own _ rfl _ _ 77 rfl w.heap.size 5 i0 (.int .u8 0) 1 Try.underlying77 hi hz0 hz1 .i64 .i64 _ zs.length rfl rfl rfl (by rw [hz2];omega) (by unfold maxLen;omega) (Nat.le_refl _) ?_;intro w0 hown0 hgrow0)
 have hb0:Below w.heap.size w w0:=(Below.refl _ _).grown hgrow0 (Nat.le_refl _) (fun k h=>by cases h)
 go_loopw [3,11] (fun v i wr=>∃ k:Nat,k≤zs.length∧i=.int .i64 k∧wr.ownsRow w.heap.size 5 1 v (encL (zs.take k)).length (Lib.byteCells (encL (zs.take k)))∧Below w.heap.size w wr) (fun _ i _=>zs.length - (intOf i).toNat)
 case atStart=>exact ⟨0,Nat.zero_le _,rfl,hown0,hb0⟩
 case round =>
  obtain ⟨k,hk,rfl,hown,hb⟩:=hrel
  clear hown0 hgrow0 hb0
  by_cases hlt:k<zs.length
  ·rcases Hrow.out with h | ⟨b,off,rfl,hbl,hc⟩
   ·subst h;exact absurd hlt (by simp)
   have hsz:=hb.size
   have hcell:=hc k hlt
   rw [← hb.cell (p:=⟨b,off+k,none⟩) hbl] at hcell
   have hroom:=enc_room zs k hn
   have hbd:=enco_bd (zs.getD k 0)
   have hput2:=Try.utf8_AppendRune_plain w.heap.size _ _ _ (enco (zs.getD k 0)) hbd.1 hbd.2 _ hown (by omega) hsz
   have hlo:=fun j hj=>(hown.lt j hj).1
   have hnext:=fun W' V' h=>own_next (B:=w.heap.size) (w':=W') (v':=V') hlt (enco_cells _) h
   have henc:=fun W=>encodable_any (zs.getD k 0) W
   obtain ⟨r,hr⟩:∃ r,zs.getD k 0=r:=⟨_,rfl⟩
   rw [hr] at hcell hput2
   simp only [hr] at hnext henc
   obtain ⟨q,hq⟩:∃ q,enco r=q:=⟨_,rfl⟩
   rw [hq] at hput2
   simp only [hq] at hnext henc
   obtain ⟨L,hL⟩:∃ L,encL (zs.take k)=L:=⟨_,rfl⟩
   simp only [hL] at hput2 hnext
   have HP:=Lib.hid hput2
   have HN:=Lib.hid hnext
   have HL:=Lib.hid hlo
   have HE:=Lib.hid henc
   clear hput2 hnext hr hL hc hown hlo henc hbd hq
   go_wp2_with fail
   refine (HE.out _).mono ?_
   rintro e w' ⟨rfl,rfl⟩
   go_wp2_with fail
   refine HP.out.mono ?_
   rintro e w' ⟨v',rfl,hown',o,hg⟩
   have hb':=below_app hb hsz HL.out hg
   have HO:=Lib.hid hown'
   have HG:=Lib.hid hg
   clear hown' hg
   go_wp2
   go_roundw
   case rel=>exact ⟨k+1,by omega,by go_num,HN.out _ _ HO.out,hb'⟩
   case measure=>simp [intOf];omega
  ·obtain rfl:k=zs.length:=by omega
   rw [List.take_length] at hown
   have hconv:=conv_own hown
   go_wp2
   go_ret
   exact ⟨rfl,hb⟩
end Go.Proofs.Ytdfbkhpkffpckaa.UM
namespace Go.Proofs.Ytdfbkhpkffpckaa.UM
open Go.RowKit
end Go.Proofs.Ytdfbkhpkffpckaa.UM
