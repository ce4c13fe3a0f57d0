import Derived.Test.YtidhgicajlaafaaGreatZC6
set_option maxRecDepth 100000
set_option maxHeartbeats 8000000
set_option linter.unusedVariables false
set_option linter.unusedSimpArgs false
namespace Go.Proofs.YtidhgicajlaafaaGreat.UM
open Go.RowKit
theorem infoByte:(Tryz.prog.info? 5).map (fun i=>(i.zero,i.size,i.bytes))=some (some (.int .u8 0),1,1):=by kernel_rfl
def Appended (B:Nat) (v:Value) (n:Nat) (xs:List Value) (r:Int) (w:World) (e:Ending) (w':World):Prop :=
 ∃ v',e=.returned v'∧w'.ownsRow B 5 1 v' (n+(Lib.runeCells r).length) (xs++Lib.runeCells r)∧∃ o,(w.alloc o).grownBy w' v.ownBlock
theorem cells_one {r:Int} (h0:0≤r) (h1:r≤127):Lib.runeCells r=[.int .u8 r]:=by unfold Lib.runeCells;rw [Lib.encodeRuneZ_one h0 h1];rfl
theorem cells_two {r:Int} (h0:128≤r) (h1:r≤2047):Lib.runeCells r=[.int .u8 (192+r / 64),.int .u8 (128+r%64)]:=by unfold Lib.runeCells;rw [Lib.encodeRuneZ_two h0 h1];rfl
theorem cells_three {r:Int} (h:(2048≤r∧r<55296)∨(57343<r∧r≤65535)):Lib.runeCells r=[.int .u8 (224+r / 4096),.int .u8 (128+r / 64%64),.int .u8 (128+r%64)]:=by unfold Lib.runeCells;rw [Lib.encodeRuneZ_three h];rfl
theorem cells_four {r:Int} (h0:65536≤r) (h1:r≤1114111):Lib.runeCells r=[.int .u8 (240+r / 262144),.int .u8 (128+r / 4096%64),.int .u8 (128+r / 64%64),.int .u8 (128+r%64)]:=by unfold Lib.runeCells;rw [Lib.encodeRuneZ_four h0 h1];rfl
theorem cells_norm (r:Int):Lib.runeCells (norm r)=Lib.runeCells r:=by unfold Lib.runeCells;rw [encodeRuneZ_norm]
theorem put_one (B:Nat) (v:Value) (n:Nat) (xs:List Value) (r:Int) (h0:0≤r) (h1:r≤127) (w:World) (hown:w.ownsRow B 5 1 v n xs) (hlen:n+4≤140737488355328) (hBw:B≤w.heap.size) :
  Calls Tryz.prog 126 #[v,.int .i64 r] w (Appended B v n xs r w):=by
 unfold Appended
 rw [cells_one h0 h1]
 obtain ⟨i0,hi,hz0,hz1,hz2⟩:=info_parts infoByte
 have s1:¬ r<0:=by omega
 have s2:¬ 1114111<r:=by omega
 have s3:¬ 55296≤r:=by omega
 go_enter Tryz.func126,Tryz.ntmps126
 go_wp2_with (at_builtin;refine wpList_append_own _ rfl _ _ 171 rfl B 5 i0 (.int .u8 0) 1 1 Tryz.underlying171 hi hz0 hz1 hz2 rfl (by decide) _ _ _ rfl (hown.alloc _) ⟨w.heap.size,0,none⟩ 1 1 [.int .u8 r] rfl rfl ?c1 ?c2 ?c3 ?c4 ?c5 ?_)
 case c2=>rfl
 case c3=>unfold maxLen;omega
 case c4=>omega
 case c5=>omega
 intro v' w2 hown' hgrow _
 go_wp2
 go_ret
 exact ⟨_,rfl,hown',_,hgrow⟩
theorem put_two (B:Nat) (v:Value) (n:Nat) (xs:List Value) (r:Int) (h0:128≤r) (h1:r≤2047) (w:World) (hown:w.ownsRow B 5 1 v n xs) (hlen:n+4≤140737488355328) (hBw:B≤w.heap.size) :
  Calls Tryz.prog 126 #[v,.int .i64 r] w (Appended B v n xs r w):=by
 unfold Appended
 rw [cells_two h0 h1]
 obtain ⟨i0,hi,hz0,hz1,hz2⟩:=info_parts infoByte
 have s1:¬ r<0:=by omega
 have s2:¬ 1114111<r:=by omega
 have s3:¬ 55296≤r:=by omega
 have s4:¬ r<128:=by omega
 go_enter Tryz.func126,Tryz.ntmps126
 go_wp2_with (at_builtin;refine wpList_append_own _ rfl _ _ 171 rfl B 5 i0 (.int .u8 0) 1 1 Tryz.underlying171 hi hz0 hz1 hz2 rfl (by decide) _ _ _ rfl (hown.alloc _) ⟨w.heap.size,0,none⟩ 2 2 [.int .u8 (192+r / 64),.int .u8 (128+r%64)] rfl rfl ?c1 ?c2 ?c3 ?c4 ?c5 ?_)
 case c2=>exact ⟨rfl,rfl⟩
 case c3=>unfold maxLen;omega
 case c4=>omega
 case c5=>omega
 intro v' w2 hown' hgrow _
 go_wp2
 go_ret
 exact ⟨_,rfl,hown',_,hgrow⟩
theorem put_lo (B:Nat) (v:Value) (n:Nat) (xs:List Value) (r:Int) (h0:2048≤r) (h1:r<55296) (w:World) (hown:w.ownsRow B 5 1 v n xs) (hlen:n+4≤140737488355328) (hBw:B≤w.heap.size) :
  Calls Tryz.prog 126 #[v,.int .i64 r] w (Appended B v n xs r w):=by
 unfold Appended
 rw [cells_three (by omega)]
 obtain ⟨i0,hi,hz0,hz1,hz2⟩:=info_parts infoByte
 have s1:¬ r<0:=by omega
 have s2:¬ 1114111<r:=by omega
 have s3:¬ 55296≤r:=by omega
 have s4:¬ r<128:=by omega
 have s5:¬ r<2048:=by omega
 have s6:r<65536:=by omega
 go_enter Tryz.func126,Tryz.ntmps126
 go_wp2_with (at_builtin;refine wpList_append_own _ rfl _ _ 171 rfl B 5 i0 (.int .u8 0) 1 1 Tryz.underlying171 hi hz0 hz1 hz2 rfl (by decide) _ _ _ rfl (hown.alloc _) ⟨w.heap.size,0,none⟩ 3 3 [.int .u8 (224+r / 4096),.int .u8 (128+r / 64%64),.int .u8 (128+r%64)] rfl rfl ?c1 ?c2 ?c3 ?c4 ?c5 ?_)
 case c2=>exact ⟨rfl,rfl,rfl⟩
 case c3=>unfold maxLen;omega
 case c4=>omega
 case c5=>omega
 intro v' w2 hown' hgrow _
 go_wp2
 go_ret
 exact ⟨_,rfl,hown',_,hgrow⟩
theorem put_hi (B:Nat) (v:Value) (n:Nat) (xs:List Value) (r:Int) (h0:57343<r) (h1:r≤65535) (w:World) (hown:w.ownsRow B 5 1 v n xs) (hlen:n+4≤140737488355328) (hBw:B≤w.heap.size) :
  Calls Tryz.prog 126 #[v,.int .i64 r] w (Appended B v n xs r w):=by
 unfold Appended
 rw [cells_three (by omega)]
 obtain ⟨i0,hi,hz0,hz1,hz2⟩:=info_parts infoByte
 have s1:¬ r<0:=by omega
 have s2:¬ 1114111<r:=by omega
 have s3:55296≤r:=by omega
 have s3':¬ r≤57343:=by omega
 have s4:¬ r<128:=by omega
 have s5:¬ r<2048:=by omega
 have s6:r<65536:=by omega
 go_enter Tryz.func126,Tryz.ntmps126
 go_wp2_with (at_builtin;refine wpList_append_own _ rfl _ _ 171 rfl B 5 i0 (.int .u8 0) 1 1 Tryz.underlying171 hi hz0 hz1 hz2 rfl (by decide) _ _ _ rfl (hown.alloc _) ⟨w.heap.size,0,none⟩ 3 3 [.int .u8 (224+r / 4096),.int .u8 (128+r / 64%64),.int .u8 (128+r%64)] rfl rfl ?c1 ?c2 ?c3 ?c4 ?c5 ?_)
 case c2=>exact ⟨rfl,rfl,rfl⟩
 case c3=>unfold maxLen;omega
 case c4=>omega
 case c5=>omega
 intro v' w2 hown' hgrow _
 go_wp2
 go_ret
 exact ⟨_,rfl,hown',_,hgrow⟩
theorem put_four (B:Nat) (v:Value) (n:Nat) (xs:List Value) (r:Int) (h0:65536≤r) (h1:r≤1114111) (w:World) (hown:w.ownsRow B 5 1 v n xs) (hlen:n+4≤140737488355328) (hBw:B≤w.heap.size) :
  Calls Tryz.prog 126 #[v,.int .i64 r] w (Appended B v n xs r w):=by
 unfold Appended
 rw [cells_four h0 h1]
 obtain ⟨i0,hi,hz0,hz1,hz2⟩:=info_parts infoByte
 have s1:¬ r<0:=by omega
 have s2:¬ 1114111<r:=by omega
 have s3:55296≤r:=by omega
 have s3':¬ r≤57343:=by omega
 have s4:¬ r<128:=by omega
 have s5:¬ r<2048:=by omega
 have s6:¬ r<65536:=by omega
 go_enter Tryz.func126,Tryz.ntmps126
 go_wp2_with (at_builtin;refine wpList_append_own _ rfl _ _ 171 rfl B 5 i0 (.int .u8 0) 1 1 Tryz.underlying171 hi hz0 hz1 hz2 rfl (by decide) _ _ _ rfl (hown.alloc _) ⟨w.heap.size,0,none⟩ 4 4 [.int .u8 (240+r / 262144),.int .u8 (128+r / 4096%64),.int .u8 (128+r / 64%64),.int .u8 (128+r%64)] rfl rfl ?c1 ?c2 ?c3 ?c4 ?c5 ?_)
 case c2=>exact ⟨rfl,rfl,rfl,rfl⟩
 case c3=>unfold maxLen;omega
 case c5=>omega
 intro v' w2 hown' hgrow _
 go_wp2
 go_ret
 exact ⟨_,rfl,hown',_,hgrow⟩
theorem appended_norm {B:Nat} {v:Value} {n:Nat} {xs:List Value} {r q:Int} {w:World} {e:Ending} {w':World} (hq:norm r=q) (h:Appended B v n xs q w e w'):Appended B v n xs r w e w':=by
 subst hq
 unfold Appended at *
 rw [cells_norm] at h
 exact h
theorem put_any (B:Nat) (v:Value) (n:Nat) (xs:List Value) (r:Int) (w:World) (hown:w.ownsRow B 5 1 v n xs) (hlen:n+4≤140737488355328) (hBw:B≤w.heap.size) :
  Calls Tryz.prog 126 #[v,.int .i64 r] w (Appended B v n xs r w):=by
 have bad:=put_hi B v n xs 65533 (by omega) (by omega) w hown hlen hBw
 by_cases c1:r<0
 ·have hq:norm r=65533:=by unfold norm;rw [if_pos (by omega)]
  have Hq:=Lib.hid hq
  have Hb:=Lib.hid bad
  clear hq bad hown
  go_enter Tryz.func126,Tryz.ntmps126
  go_wp2_with fail
  refine Hb.out.mono ?_
  rintro e w' he
  obtain ⟨v',rfl,hx⟩:=he
  have H2:=Lib.hid hx
  clear hx
  go_wp2
  go_ret
  exact appended_norm Hq.out ⟨v',rfl,H2.out⟩
 by_cases c2:1114111<r
 ·have hq:norm r=65533:=by unfold norm;rw [if_pos (by omega)]
  have Hq:=Lib.hid hq
  have Hb:=Lib.hid bad
  clear hq bad hown
  go_enter Tryz.func126,Tryz.ntmps126
  go_wp2_with fail
  refine Hb.out.mono ?_
  rintro e w' he
  obtain ⟨v',rfl,hx⟩:=he
  have H2:=Lib.hid hx
  clear hx
  go_wp2
  go_ret
  exact appended_norm Hq.out ⟨v',rfl,H2.out⟩
 by_cases c3:r≤127
 ·exact put_one B v n xs r (by omega) c3 w hown hlen hBw
 by_cases c4:r≤2047
 ·exact put_two B v n xs r (by omega) c4 w hown hlen hBw
 by_cases c5:r<55296
 ·exact put_lo B v n xs r (by omega) c5 w hown hlen hBw
 by_cases c6:r≤57343
 ·have hq:norm r=65533:=by unfold norm;rw [if_pos (by omega)]
  have c5':55296≤r:=by omega
  have Hq:=Lib.hid hq
  have Hb:=Lib.hid bad
  clear hq bad hown
  go_enter Tryz.func126,Tryz.ntmps126
  go_wp2_with fail
  refine Hb.out.mono ?_
  rintro e w' he
  obtain ⟨v',rfl,hx⟩:=he
  have H2:=Lib.hid hx
  clear hx
  go_wp2
  go_ret
  exact appended_norm Hq.out ⟨v',rfl,H2.out⟩
 by_cases c7:r≤65535
 ·exact put_hi B v n xs r (by omega) c7 w hown hlen hBw
 ·exact put_four B v n xs r (by omega) (by omega) w hown hlen hBw
def enco (r:Int):Int:=if r<0∨1114111<r then 65533 else r
theorem enco_cells (r:Int):Lib.runeCells (enco r)=Lib.runeCells r:=by
 unfold enco
 split
 ·rename_i h
  have:norm r=65533:=by unfold norm;rw [if_pos (by omega)]
  rw [← this,cells_norm]
 ·rfl
theorem enco_bd (r:Int) : -2147483648≤enco r∧enco r≤2147483647:=by unfold enco;split<;>omega
theorem encodable_any (r:Int) (w:World):Calls Tryz.prog 158 #[.int .i64 r] w fun e w'=>e=.returned (.int .i32 (enco r))∧w=w':=by
 unfold enco
 by_cases c1:r<0
 ·rw [if_pos (by omega)]
  go_enter Tryz.func158,Tryz.ntmps158
  go_wp2
  go_ret
  exact ⟨rfl,rfl⟩
 ·by_cases c2:1114111<r
  ·rw [if_pos (by omega)]
   go_enter Tryz.func158,Tryz.ntmps158
   go_wp2
   go_ret
   exact ⟨rfl,rfl⟩
  ·rw [if_neg (by omega)]
   have c3:0≤r:=by omega
   have c4:r≤1114111:=by omega
   go_enter Tryz.func158,Tryz.ntmps158
   go_wp2
   go_ret
   exact ⟨rfl,rfl⟩
end Go.Proofs.YtidhgicajlaafaaGreat.UM
namespace Go.Proofs.YtidhgicajlaafaaGreat.UM
open Go.RowKit
theorem word_ix0 (w:World):(Instr.index 194 (.agg #[.int .i64 48,.int .i64 57,.int .i64 65,.int .i64 90,.int .i64 97,.int .i64 122,.int .i64 192,.int .i64 214,.int .i64 216,.int .i64 246,.int .i64 248,.int .i64 255,.int .i64 913,.int .i64 929,.int .i64 931,.int .i64 974,.int .i64 1024,.int .i64 1119]) (.int .i64 0)).run Tryz.prog w=.ok (.agg #[.int .i64 48,.int .i64 57]) w:=by kernel_rfl
theorem word_ix1 (w:World):(Instr.index 194 (.agg #[.int .i64 48,.int .i64 57,.int .i64 65,.int .i64 90,.int .i64 97,.int .i64 122,.int .i64 192,.int .i64 214,.int .i64 216,.int .i64 246,.int .i64 248,.int .i64 255,.int .i64 913,.int .i64 929,.int .i64 931,.int .i64 974,.int .i64 1024,.int .i64 1119]) (.int .i64 1)).run Tryz.prog w=.ok (.agg #[.int .i64 65,.int .i64 90]) w:=by kernel_rfl
theorem word_ix2 (w:World):(Instr.index 194 (.agg #[.int .i64 48,.int .i64 57,.int .i64 65,.int .i64 90,.int .i64 97,.int .i64 122,.int .i64 192,.int .i64 214,.int .i64 216,.int .i64 246,.int .i64 248,.int .i64 255,.int .i64 913,.int .i64 929,.int .i64 931,.int .i64 974,.int .i64 1024,.int .i64 1119]) (.int .i64 2)).run Tryz.prog w=.ok (.agg #[.int .i64 97,.int .i64 122]) w:=by kernel_rfl
theorem word_ix3 (w:World):(Instr.index 194 (.agg #[.int .i64 48,.int .i64 57,.int .i64 65,.int .i64 90,.int .i64 97,.int .i64 122,.int .i64 192,.int .i64 214,.int .i64 216,.int .i64 246,.int .i64 248,.int .i64 255,.int .i64 913,.int .i64 929,.int .i64 931,.int .i64 974,.int .i64 1024,.int .i64 1119]) (.int .i64 3)).run Tryz.prog w=.ok (.agg #[.int .i64 192,.int .i64 214]) w:=by kernel_rfl
theorem word_ix4 (w:World):(Instr.index 194 (.agg #[.int .i64 48,.int .i64 57,.int .i64 65,.int .i64 90,.int .i64 97,.int .i64 122,.int .i64 192,.int .i64 214,.int .i64 216,.int .i64 246,.int .i64 248,.int .i64 255,.int .i64 913,.int .i64 929,.int .i64 931,.int .i64 974,.int .i64 1024,.int .i64 1119]) (.int .i64 4)).run Tryz.prog w=.ok (.agg #[.int .i64 216,.int .i64 246]) w:=by kernel_rfl
theorem word_ix5 (w:World):(Instr.index 194 (.agg #[.int .i64 48,.int .i64 57,.int .i64 65,.int .i64 90,.int .i64 97,.int .i64 122,.int .i64 192,.int .i64 214,.int .i64 216,.int .i64 246,.int .i64 248,.int .i64 255,.int .i64 913,.int .i64 929,.int .i64 931,.int .i64 974,.int .i64 1024,.int .i64 1119]) (.int .i64 5)).run Tryz.prog w=.ok (.agg #[.int .i64 248,.int .i64 255]) w:=by kernel_rfl
theorem word_ix6 (w:World):(Instr.index 194 (.agg #[.int .i64 48,.int .i64 57,.int .i64 65,.int .i64 90,.int .i64 97,.int .i64 122,.int .i64 192,.int .i64 214,.int .i64 216,.int .i64 246,.int .i64 248,.int .i64 255,.int .i64 913,.int .i64 929,.int .i64 931,.int .i64 974,.int .i64 1024,.int .i64 1119]) (.int .i64 6)).run Tryz.prog w=.ok (.agg #[.int .i64 913,.int .i64 929]) w:=by kernel_rfl
theorem word_ix7 (w:World):(Instr.index 194 (.agg #[.int .i64 48,.int .i64 57,.int .i64 65,.int .i64 90,.int .i64 97,.int .i64 122,.int .i64 192,.int .i64 214,.int .i64 216,.int .i64 246,.int .i64 248,.int .i64 255,.int .i64 913,.int .i64 929,.int .i64 931,.int .i64 974,.int .i64 1024,.int .i64 1119]) (.int .i64 7)).run Tryz.prog w=.ok (.agg #[.int .i64 931,.int .i64 974]) w:=by kernel_rfl
theorem word_ix8 (w:World):(Instr.index 194 (.agg #[.int .i64 48,.int .i64 57,.int .i64 65,.int .i64 90,.int .i64 97,.int .i64 122,.int .i64 192,.int .i64 214,.int .i64 216,.int .i64 246,.int .i64 248,.int .i64 255,.int .i64 913,.int .i64 929,.int .i64 931,.int .i64 974,.int .i64 1024,.int .i64 1119]) (.int .i64 8)).run Tryz.prog w=.ok (.agg #[.int .i64 1024,.int .i64 1119]) w:=by kernel_rfl
theorem word_any (r:Int) (w:World):Calls Tryz.prog 145 #[.int .i64 r] w fun e w'=>e=.returned (.bool (wordZ r))∧Below w.heap.size w w':=by
 go_enter Tryz.func145,Tryz.ntmps145
 go_wp2
 go_loopw [15] (fun i wr=>∃ k:Nat,k≤9∧i=.int .i64 k∧wordNo k r∧Below w.heap.size w wr) (fun i _=>9 - (intOf i).toNat)
 case atStart=>exact ⟨0,by omega,rfl,wordNo_zero r,Below.refl _ _⟩
 case round =>
  obtain ⟨k,hk,rfl,hno,hb⟩:=hrel
  have hsz:=hb.size
  have hk2:k=0∨k=1∨k=2∨k=3∨k=4∨k=5∨k=6∨k=7∨k=8∨k=9:=by omega
  rcases hk2 with rfl | rfl | rfl | rfl | rfl | rfl | rfl | rfl | rfl | rfl
  ·have hix:=word_ix0
   by_cases g:48≤r∧r≤57
   ·have e:=word_hit0 r g
    obtain ⟨g0,g1⟩:=g
    have E:=Lib.hid e
    clear e hno
    go_wp2
    go_ret
    exact ⟨ret_bool (by rw [E.out]),hb.alloc hsz _⟩
   ·have hno2:=wordNo_1 r hno g
    clear hno
    by_cases g0:48≤r
    ·have g1:¬ r≤57:=by omega
     clear g
     go_wp2
     go_roundw
     case rel=>exact ⟨1,by omega,by go_num,hno2,hb.alloc hsz _⟩
     case measure=>simp [intOf]
    ·clear g
     go_wp2
     go_roundw
     case rel=>exact ⟨1,by omega,by go_num,hno2,hb.alloc hsz _⟩
     case measure=>simp [intOf]
  ·have hix:=word_ix1
   by_cases g:65≤r∧r≤90
   ·have e:=word_hit1 r g
    obtain ⟨g0,g1⟩:=g
    have E:=Lib.hid e
    clear e hno
    go_wp2
    go_ret
    exact ⟨ret_bool (by rw [E.out]),hb.alloc hsz _⟩
   ·have hno2:=wordNo_2 r hno g
    clear hno
    by_cases g0:65≤r
    ·have g1:¬ r≤90:=by omega
     clear g
     go_wp2
     go_roundw
     case rel=>exact ⟨2,by omega,by go_num,hno2,hb.alloc hsz _⟩
     case measure=>simp [intOf]
    ·clear g
     go_wp2
     go_roundw
     case rel=>exact ⟨2,by omega,by go_num,hno2,hb.alloc hsz _⟩
     case measure=>simp [intOf]
  ·have hix:=word_ix2
   by_cases g:97≤r∧r≤122
   ·have e:=word_hit2 r g
    obtain ⟨g0,g1⟩:=g
    have E:=Lib.hid e
    clear e hno
    go_wp2
    go_ret
    exact ⟨ret_bool (by rw [E.out]),hb.alloc hsz _⟩
   ·have hno2:=wordNo_3 r hno g
    clear hno
    by_cases g0:97≤r
    ·have g1:¬ r≤122:=by omega
     clear g
     go_wp2
     go_roundw
     case rel=>exact ⟨3,by omega,by go_num,hno2,hb.alloc hsz _⟩
     case measure=>simp [intOf]
    ·clear g
     go_wp2
     go_roundw
     case rel=>exact ⟨3,by omega,by go_num,hno2,hb.alloc hsz _⟩
     case measure=>simp [intOf]
  ·have hix:=word_ix3
   by_cases g:192≤r∧r≤214
   ·have e:=word_hit3 r g
    obtain ⟨g0,g1⟩:=g
    have E:=Lib.hid e
    clear e hno
    go_wp2
    go_ret
    exact ⟨ret_bool (by rw [E.out]),hb.alloc hsz _⟩
   ·have hno2:=wordNo_4 r hno g
    clear hno
    by_cases g0:192≤r
    ·have g1:¬ r≤214:=by omega
     clear g
     go_wp2
     go_roundw
     case rel=>exact ⟨4,by omega,by go_num,hno2,hb.alloc hsz _⟩
     case measure=>simp [intOf]
    ·clear g
     go_wp2
     go_roundw
     case rel=>exact ⟨4,by omega,by go_num,hno2,hb.alloc hsz _⟩
     case measure=>simp [intOf]
  ·have hix:=word_ix4
   by_cases g:216≤r∧r≤246
   ·have e:=word_hit4 r g
    obtain ⟨g0,g1⟩:=g
    have E:=Lib.hid e
    clear e hno
    go_wp2
    go_ret
    exact ⟨ret_bool (by rw [E.out]),hb.alloc hsz _⟩
   ·have hno2:=wordNo_5 r hno g
    clear hno
    by_cases g0:216≤r
    ·have g1:¬ r≤246:=by omega
     clear g
     go_wp2
     go_roundw
     case rel=>exact ⟨5,by omega,by go_num,hno2,hb.alloc hsz _⟩
     case measure=>simp [intOf]
    ·clear g
     go_wp2
     go_roundw
     case rel=>exact ⟨5,by omega,by go_num,hno2,hb.alloc hsz _⟩
     case measure=>simp [intOf]
  ·have hix:=word_ix5
   by_cases g:248≤r∧r≤255
   ·have e:=word_hit5 r g
    obtain ⟨g0,g1⟩:=g
    have E:=Lib.hid e
    clear e hno
    go_wp2
    go_ret
    exact ⟨ret_bool (by rw [E.out]),hb.alloc hsz _⟩
   ·have hno2:=wordNo_6 r hno g
    clear hno
    by_cases g0:248≤r
    ·have g1:¬ r≤255:=by omega
     clear g
     go_wp2
     go_roundw
     case rel=>exact ⟨6,by omega,by go_num,hno2,hb.alloc hsz _⟩
     case measure=>simp [intOf]
    ·clear g
     go_wp2
     go_roundw
     case rel=>exact ⟨6,by omega,by go_num,hno2,hb.alloc hsz _⟩
     case measure=>simp [intOf]
  ·have hix:=word_ix6
   by_cases g:913≤r∧r≤929
   ·have e:=word_hit6 r g
    obtain ⟨g0,g1⟩:=g
    have E:=Lib.hid e
    clear e hno
    go_wp2
    go_ret
    exact ⟨ret_bool (by rw [E.out]),hb.alloc hsz _⟩
   ·have hno2:=wordNo_7 r hno g
    clear hno
    by_cases g0:913≤r
    ·have g1:¬ r≤929:=by omega
     clear g
     go_wp2
     go_roundw
     case rel=>exact ⟨7,by omega,by go_num,hno2,hb.alloc hsz _⟩
     case measure=>simp [intOf]
    ·clear g
     go_wp2
     go_roundw
     case rel=>exact ⟨7,by omega,by go_num,hno2,hb.alloc hsz _⟩
     case measure=>simp [intOf]
  ·have hix:=word_ix7
   by_cases g:931≤r∧r≤974
   ·have e:=word_hit7 r g
    obtain ⟨g0,g1⟩:=g
    have E:=Lib.hid e
    clear e hno
    go_wp2
    go_ret
    exact ⟨ret_bool (by rw [E.out]),hb.alloc hsz _⟩
   ·have hno2:=wordNo_8 r hno g
    clear hno
    by_cases g0:931≤r
    ·have g1:¬ r≤974:=by omega
     clear g
     go_wp2
     go_roundw
     case rel=>exact ⟨8,by omega,by go_num,hno2,hb.alloc hsz _⟩
     case measure=>simp [intOf]
    ·clear g
     go_wp2
     go_roundw
     case rel=>exact ⟨8,by omega,by go_num,hno2,hb.alloc hsz _⟩
     case measure=>simp [intOf]
  ·have hix:=word_ix8
   by_cases g:1024≤r∧r≤1119
   ·have e:=word_hit8 r g
    obtain ⟨g0,g1⟩:=g
    have E:=Lib.hid e
    clear e hno
    go_wp2
    go_ret
    exact ⟨ret_bool (by rw [E.out]),hb.alloc hsz _⟩
   ·have hno2:=wordNo_9 r hno g
    clear hno
    by_cases g0:1024≤r
    ·have g1:¬ r≤1119:=by omega
     clear g
     go_wp2
     go_roundw
     case rel=>exact ⟨9,by omega,by go_num,hno2,hb.alloc hsz _⟩
     case measure=>simp [intOf]
    ·clear g
     go_wp2
     go_roundw
     case rel=>exact ⟨9,by omega,by go_num,hno2,hb.alloc hsz _⟩
     case measure=>simp [intOf]
  ·have e:=wordNo_end r hno
   have E:=Lib.hid e
   clear e hno
   go_wp2
   go_ret
   exact ⟨ret_bool (by rw [E.out]),hb⟩
end Go.Proofs.YtidhgicajlaafaaGreat.UM
