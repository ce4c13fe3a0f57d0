import Derived.Shelf.Utf8.AppendRunePlain
import Derived.Shelf.Utf8.RuneCount
import Derived.Shelf.Strings.Prefix
import Derived.Shelf.Strings.FuncGrows
import Derived.Shelf.Slices.Clone
import Derived.Shelf.SortM.Plain
import Derived.Shelf.SortM.SortNone
import Derived.Test.YtidhgicajlaafaaGreatZD4
import Derived.Lib.BufferRead
set_option maxRecDepth 100000
set_option maxHeartbeats 8000000
set_option linter.unusedVariables false
set_option linter.unusedSimpArgs false
namespace Go.Proofs
open Go.Shelf
def Tryz.lays242_ren:Go.Shelf.Ren:=⟨fun | 242=>157 | 278=>159 | n=>n,fun | 37=>171 | 21=>21 | 51=>150 | 4=>4 | 5=>5 | 46=>125 | n=>n,fun | n=>n⟩
theorem Tryz.lays242:Go.Proofs.Lays.n242 Tryz.prog Tryz.lays242_ren:={
 mixed:=by kernel_rfl
 f242:=Tryz.func157.trans (congrArg some (by kernel_rfl))
 f278:=Tryz.func159.trans (congrArg some (by kernel_rfl))
 t4:=Tryz.underlying4
 a4:=Tryz.isAgg4
 z4:=Tryz.sizeOf4
 v4:=Tryz.zeroValue4
 t5:=Tryz.underlying5
 a5:=Tryz.isAgg5
 z5:=Tryz.sizeOf5
 v5:=Tryz.zeroValue5
 t21:=Tryz.underlying21
 a21:=Tryz.isAgg21
 z21:=Tryz.sizeOf21
 v21:=Tryz.zeroValue21
 t37:=Tryz.underlying171
 a37:=Tryz.isAgg171
 z37:=Tryz.sizeOf171
 v37:=Tryz.zeroValue171
 t46:=Tryz.underlying125
 a46:=Tryz.isAgg125
 z46:=Tryz.sizeOf125
 v46:=Tryz.zeroValue125
 t51:=Tryz.underlying150
 a51:=Tryz.isAgg150
 z51:=Tryz.sizeOf150
 v51:=Tryz.zeroValue150 }
open Go.RowKit in
theorem Tryz.utf8_AppendRune_plain (B:Nat) (v:Value) (n:Nat) (xs:List Value) (r:Int) (hr0 : -2147483648≤r) (hr1:r≤2147483647) (w:World) (hown:w.ownsRow B 5 1 v n xs) (hlen:n+4≤140737488355328) (hBw:B≤w.heap.size) :
  Calls Tryz.prog 157 #[v,.int .i32 r] w fun e w'=>∃ v',e=.returned v'∧w'.ownsRow B 5 1 v' (n+(Lib.runeCells r).length) (xs++Lib.runeCells r)∧∃ o,(w.alloc o).grownBy w' v.ownBlock:=Any.utf8_AppendRune_plain Tryz.lays242 (by kernel_rfl) B v n xs r hr0 hr1 w hown hlen hBw
def Tryz.lays195_ren:Go.Shelf.Ren:=⟨fun | 195=>152 | n=>n,fun | 9=>9 | 3=>3 | 0=>0 | 4=>4 | n=>n,fun | n=>n⟩
theorem Tryz.lays195:Go.Proofs.Lays.n195 Tryz.prog Tryz.lays195_ren:={
 mixed:=by kernel_rfl
 f195:=Tryz.func152.trans (congrArg some (by kernel_rfl))
 t0:=Tryz.underlying0
 a0:=Tryz.isAgg0
 z0:=Tryz.sizeOf0
 v0:=Tryz.zeroValue0
 t3:=Tryz.underlying3
 a3:=Tryz.isAgg3
 z3:=Tryz.sizeOf3
 v3:=Tryz.zeroValue3
 t4:=Tryz.underlying4
 a4:=Tryz.isAgg4
 z4:=Tryz.sizeOf4
 v4:=Tryz.zeroValue4
 t9:=Tryz.underlying9
 a9:=Tryz.isAgg9
 z9:=Tryz.sizeOf9
 v9:=Tryz.zeroValue9 }
open Go.RowKit in
theorem Tryz.utf8_RuneCountInString (s:ByteArray) (w:World) (hs:s.size<9223372036854775807) :
  Calls Tryz.prog 152 #[.string s] w fun e w'=>e=.returned (.int .i64 (Lib.runeCount s))∧∃ pos,w'=w.iter s pos:=Any.utf8_RuneCountInString Tryz.lays195 s w hs
def Tryz.laysGw17_ren:Go.Shelf.Ren:=⟨fun | 17=>127 | 15=>143 | 20=>151 | n=>n,fun | 9=>9 | 23=>174 | 4=>4 | 3=>3 | 0=>0 | 21=>21 | n=>n,fun | n=>n⟩
theorem Tryz.laysGw17:Go.Proofs.LaysGw.n17 Tryz.prog Tryz.laysGw17_ren:={
 mixed:=by kernel_rfl
 f15:=Tryz.func143.trans (congrArg some (by kernel_rfl))
 f17:=Tryz.func127.trans (congrArg some (by kernel_rfl))
 f20:=Tryz.func151.trans (congrArg some (by kernel_rfl))
 t0:=Tryz.underlying0
 a0:=Tryz.isAgg0
 z0:=Tryz.sizeOf0
 v0:=Tryz.zeroValue0
 i0:=by kernel_rfl
 t3:=Tryz.underlying3
 a3:=Tryz.isAgg3
 z3:=Tryz.sizeOf3
 v3:=Tryz.zeroValue3
 i3:=by kernel_rfl
 t4:=Tryz.underlying4
 a4:=Tryz.isAgg4
 z4:=Tryz.sizeOf4
 v4:=Tryz.zeroValue4
 i4:=by kernel_rfl
 t9:=Tryz.underlying9
 a9:=Tryz.isAgg9
 z9:=Tryz.sizeOf9
 v9:=Tryz.zeroValue9
 i9:=by kernel_rfl
 t21:=Tryz.underlying21
 a21:=Tryz.isAgg21
 z21:=Tryz.sizeOf21
 v21:=Tryz.zeroValue21
 i21:=by kernel_rfl
 t23:=Tryz.underlying174
 a23:=Tryz.isAgg174
 z23:=Tryz.sizeOf174
 v23:=Tryz.zeroValue174
 i23:=by kernel_rfl }
def Tryz.lays206_ren:Go.Shelf.Ren:=⟨fun | 206=>70 | n=>n,fun | 9=>9 | 4=>4 | 3=>3 | n=>n,fun | n=>n⟩
def Tryz.lays99_ren:Go.Shelf.Ren:=⟨fun | 99=>53 | 206=>70 | n=>n,fun | 9=>9 | 4=>4 | 3=>3 | n=>n,fun | n=>n⟩
theorem Tryz.lays99:Go.Proofs.Lays.n99 Tryz.prog Tryz.lays99_ren:={
 mixed:=by kernel_rfl
 f99:=Tryz.func53.trans (congrArg some (by kernel_rfl))
 f206:=Tryz.func70.trans (congrArg some (by kernel_rfl))
 t3:=Tryz.underlying3
 a3:=Tryz.isAgg3
 z3:=Tryz.sizeOf3
 v3:=Tryz.zeroValue3
 t4:=Tryz.underlying4
 a4:=Tryz.isAgg4
 z4:=Tryz.sizeOf4
 v4:=Tryz.zeroValue4
 t9:=Tryz.underlying9
 a9:=Tryz.isAgg9
 z9:=Tryz.sizeOf9
 v9:=Tryz.zeroValue9 }
open Go.RowKit Go.Lib in
theorem Tryz.strings_HasPrefix (s p:ByteArray) (w:World) :
  Calls Tryz.prog 53 #[.string s,.string p] w fun e w'=>e=.returned (.bool (Lib.hasPrefix s.data.toList p.data.toList))∧w'=w:=Any.strings_HasPrefix Tryz.lays99 s p w
open Go.RowKit Go.Lib in
theorem Tryz.strings_ContainsFunc_grows (g:Nat) (lb:Array Value) (eg:∀ args w,(callFunc g args).run Tryz.prog w=.ok (.enter g args) w) (p:Nat→Bool) (s:ByteArray) (w:World) (hp:PredGrows Tryz.prog g lb p w) :
  Calls Tryz.prog 127 #[.string s,.func (.func g) #[] lb] w fun e w'=>e=.returned (.bool (decide (0≤Lib.idxFunc p true s)))∧Below w.heap.size w w':=Any.strings_ContainsFunc_grows Tryz.laysGw17 g lb eg p s w hp
end Go.Proofs
namespace Go.Proofs.YtidhgicajlaafaaGreat.UM
open Go.RowKit
def IntRow (w:World) (v:Value) (zs:List Int):Prop :=
 ∃ (p:Option Addr) (cap:Nat),v=.slice p zs.length cap∧(zs=[]∨∃ b off,p=some ⟨b,off,none⟩∧b<w.heap.size∧∀ i,i<zs.length→w.cell? ⟨b,off+i,none⟩=some (.int .i64 (zs.getD i 0)))
theorem IntRow.below {w w':World} {v:Value} {zs:List Int} (h:IntRow w v zs) (hb:Below w.heap.size w w'):IntRow w' v zs:=by
 obtain ⟨p,cap,hv,h⟩:=h
 refine ⟨p,cap,hv,?_⟩
 rcases h with h | ⟨b,off,hp,hlt,hc⟩
 ·exact .inl h
 ·exact .inr ⟨b,off,hp,Nat.lt_of_lt_of_le hlt hb.size,fun i hi=>by rw [hb.cell (p:=⟨b,off+i,none⟩) hlt];exact hc i hi⟩
theorem enc_next (zs:List Int) (k:Nat) (hk:k<zs.length):encL (zs.take (k+1))=encL (zs.take k)++Lib.encodeRune (zs.getD k 0):=by
 rw [List.take_succ_eq_append_getElem hk,encL_append]
 congr 1
 rw [encL_cons,encL_nil,List.append_nil]
 simp [List.getD,hk]
theorem own_next {zs:List Int} {k:Nat} (hk:k<zs.length) {B:Nat} {v':Value} {w':World} {r:Int} (hr:Lib.runeCells r=Lib.runeCells (zs.getD k 0))
  (h:w'.ownsRow B 5 1 v' ((encL (zs.take k)).length+(Lib.runeCells r).length) (Lib.byteCells (encL (zs.take k))++Lib.runeCells r)):w'.ownsRow B 5 1 v' (encL (zs.take (k+1))).length (Lib.byteCells (encL (zs.take (k+1)))):=by
 rw [enc_next zs k hk,List.length_append,← Lib.runeCells_length,← hr]
 have e:Lib.byteCells (encL (zs.take k)++Lib.encodeRune (zs.getD k 0))=Lib.byteCells (encL (zs.take k))++Lib.runeCells r:=by
  rw [hr,← Lib.byteCells_encodeRune];simp [Lib.byteCells]
 rw [e]
 exact h
theorem enc_room (zs:List Int) (k:Nat) (hn:zs.length≤1000000):(encL (zs.take k)).length≤4000000:=by
 have:=encL_length (zs.take k)
 have h2:(zs.take k).length≤zs.length:=List.length_take_le' _ _
 omega
theorem conv_own {w:World} {B:Nat} {v:Value} {l:List UInt8} (h:w.ownsRow B 5 1 v l.length (Lib.byteCells l)):(convert 171 9 v).run Tryz.prog w=.ok (.string ⟨l.toArray⟩) w:=by
 rcases h.2 with ⟨rfl,h0⟩ | ⟨g,cap,cur,rfl,hg,hh,hn,hm,hs,ht⟩
 ·have:l=[]:=List.eq_nil_of_length_eq_zero h0
  subst this
  exact Lib.run_convert_nil_bytes w 171 9 5 0 Tryz.underlying171 Tryz.underlying5 Tryz.underlying9
 ·refine run_convert_bytes_back w 171 9 5 _ cap l Tryz.underlying171 Tryz.underlying5 Tryz.underlying9 ?_
  rw [Nat.mul_one] at ht
  exact Lib.bytes_of_row hh ht
theorem below_app {B:Nat} {w wr w':World} {o:Obj} {v:Value} (hb:Below B w wr) (hB:B≤wr.heap.size) (hv:∀ k,v.ownBlock=some k→B≤k) (hg:(wr.alloc o).grownBy w' v.ownBlock):Below B w w' :=
 (hb.alloc hB o).grown hg (by simp;omega) hv
theorem renc_any (v:Value) (zs:List Int) (w:World) (hr:IntRow w v zs) (hn:zs.length≤1000000) :
  Calls Tryz.prog 103 #[v] w fun e w'=>e=.returned (.string ⟨(encL zs).toArray⟩)∧Below w.heap.size w w':=by
 obtain ⟨p,cap,rfl,hrow⟩:=hr
 have Hrow:=Lib.hid hrow
 clear hrow
 go_enter Tryz.func103,Tryz.ntmps103
 go_wp2
 go_loopw [3,4] (fun v i wr=>∃ k:Nat,k≤zs.length∧i=.int .i64 k∧wr.ownsRow w.heap.size 5 1 v (encL (zs.take k)).length (Lib.byteCells (encL (zs.take k)))∧Below w.heap.size w wr) (fun _ i _=>zs.length - (intOf i).toNat)
 case atStart=>exact ⟨0,Nat.zero_le _,rfl,World.ownsRow_nil _ _ _ _,Below.refl _ _⟩
 case round =>
  obtain ⟨k,hk,rfl,hown,hb⟩:=hrel
  by_cases hlt:k<zs.length
  ·rcases Hrow.out with h | ⟨b,off,rfl,hbl,hc⟩
   ·subst h;exact absurd hlt (by simp)
   have hsz:=hb.size
   have hcell:=hc k hlt
   rw [← hb.cell (p:=⟨b,off+k,none⟩) hbl] at hcell
   have hroom:=enc_room zs k hn
   have hput2:=put_any w.heap.size _ _ _ (zs.getD k 0) _ hown (by omega) hsz
   have hlo:=fun j hj=>(hown.lt j hj).1
   have hnext:=fun W' V' h=>own_next (B:=w.heap.size) (w':=W') (v':=V') hlt rfl h
   obtain ⟨r,hr⟩:∃ r,zs.getD k 0=r:=⟨_,rfl⟩
   rw [hr] at hcell hput2
   simp only [hr] at hnext
   obtain ⟨L,hL⟩:∃ L,encL (zs.take k)=L:=⟨_,rfl⟩
   simp only [hL] at hput2 hnext
   have HP:=Lib.hid hput2
   have HN:=Lib.hid hnext
   have HL:=Lib.hid hlo
   clear hput2 hnext hr hL hc hown hlo
   go_wp2_with fail
   refine HP.out.mono ?_
   rintro e w' ⟨v',rfl,hown',o,hg⟩
   have hb':=below_app hb hsz HL.out hg
   have HO:=Lib.hid hown'
   have HG:=Lib.hid hg
   clear hown' hg
   go_wp2
   go_roundw
   case rel=>exact ⟨k+1,by omega,by go_num,HN.out _ _ HO.out,hb'⟩
   case measure=>simp [intOf];omega
  ·obtain rfl:k=zs.length:=by omega
   rw [List.take_length] at hown
   have hconv:=conv_own hown
   go_wp2
   go_ret
   exact ⟨rfl,hb⟩
theorem enc_any (v:Value) (zs:List Int) (w:World) (hr:IntRow w v zs) (hn:zs.length≤1000000) :
  Calls Tryz.prog 156 #[v] w fun e w'=>e=.returned (.string ⟨(encL zs).toArray⟩)∧Below w.heap.size w w':=by
 obtain ⟨p,cap,rfl,hrow⟩:=hr
 have Hrow:=Lib.hid hrow
 clear hrow
 obtain ⟨i0,hi,hz0,hz1,hz2⟩:=info_parts infoByte
 go_enter Tryz.func156,Tryz.ntmps156
 go_wp2_with (at_make;refine wpList_make_own _ rfl _ _ 171 rfl w.heap.size 5 i0 (.int .u8 0) 1 Tryz.underlying171 hi hz0 hz1 .i64 .i64 _ zs.length rfl rfl rfl (by rw [hz2];omega) (by unfold maxLen;omega) (Nat.le_refl _) ?_;intro w0 hown0 hgrow0)
 have hb0:Below w.heap.size w w0:=(Below.refl _ _).grown hgrow0 (Nat.le_refl _) (fun k h=>by cases h)
 go_loopw [3,11] (fun v i wr=>∃ k:Nat,k≤zs.length∧i=.int .i64 k∧wr.ownsRow w.heap.size 5 1 v (encL (zs.take k)).length (Lib.byteCells (encL (zs.take k)))∧Below w.heap.size w wr) (fun _ i _=>zs.length - (intOf i).toNat)
 case atStart=>exact ⟨0,Nat.zero_le _,rfl,hown0,hb0⟩
 case round =>
  obtain ⟨k,hk,rfl,hown,hb⟩:=hrel
  clear hown0 hgrow0 hb0
  by_cases hlt:k<zs.length
  ·rcases Hrow.out with h | ⟨b,off,rfl,hbl,hc⟩
   ·subst h;exact absurd hlt (by simp)
   have hsz:=hb.size
   have hcell:=hc k hlt
   rw [← hb.cell (p:=⟨b,off+k,none⟩) hbl] at hcell
   have hroom:=enc_room zs k hn
   have hbd:=enco_bd (zs.getD k 0)
   have hput2:=Tryz.utf8_AppendRune_plain w.heap.size _ _ _ (enco (zs.getD k 0)) hbd.1 hbd.2 _ hown (by omega) hsz
   have hlo:=fun j hj=>(hown.lt j hj).1
   have hnext:=fun W' V' h=>own_next (B:=w.heap.size) (w':=W') (v':=V') hlt (enco_cells _) h
   have henc:=fun W=>encodable_any (zs.getD k 0) W
   obtain ⟨r,hr⟩:∃ r,zs.getD k 0=r:=⟨_,rfl⟩
   rw [hr] at hcell hput2
   simp only [hr] at hnext henc
   obtain ⟨q,hq⟩:∃ q,enco r=q:=⟨_,rfl⟩
   rw [hq] at hput2
   simp only [hq] at hnext henc
   obtain ⟨L,hL⟩:∃ L,encL (zs.take k)=L:=⟨_,rfl⟩
   simp only [hL] at hput2 hnext
   have HP:=Lib.hid hput2
   have HN:=Lib.hid hnext
   have HL:=Lib.hid hlo
   have HE:=Lib.hid henc
   clear hput2 hnext hr hL hc hown hlo henc hbd hq
   go_wp2_with fail
   refine (HE.out _).mono ?_
   rintro e w' ⟨rfl,rfl⟩
   go_wp2_with fail
   refine HP.out.mono ?_
   rintro e w' ⟨v',rfl,hown',o,hg⟩
   have hb':=below_app hb hsz HL.out hg
   have HO:=Lib.hid hown'
   have HG:=Lib.hid hg
   clear hown' hg
   go_wp2
   go_roundw
   case rel=>exact ⟨k+1,by omega,by go_num,HN.out _ _ HO.out,hb'⟩
   case measure=>simp [intOf];omega
  ·obtain rfl:k=zs.length:=by omega
   rw [List.take_length] at hown
   have hconv:=conv_own hown
   go_wp2
   go_ret
   exact ⟨rfl,hb⟩
end Go.Proofs.YtidhgicajlaafaaGreat.UM
