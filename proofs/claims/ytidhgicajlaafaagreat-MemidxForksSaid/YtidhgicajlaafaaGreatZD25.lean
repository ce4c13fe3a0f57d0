import Derived.Test.YtidhgicajlaafaaGreatZD24
set_option maxRecDepth 100000
set_option maxHeartbeats 8000000
set_option linter.unusedVariables false
set_option linter.unusedSimpArgs false
namespace Go.Proofs.YtidhgicajlaafaaGreat.UM
open Go.RowKit
theorem lower_ix0 (w:World):(Instr.index 198 (.agg #[.int .i64 65,.int .i64 90,.int .i64 32,.int .i64 192,.int .i64 214,.int .i64 32,.int .i64 216,.int .i64 222,.int .i64 32,.int .i64 913,.int .i64 929,.int .i64 32,.int .i64 931,.int .i64 939,.int .i64 32,.int .i64 1024,.int .i64 1039,.int .i64 80,.int .i64 1040,.int .i64 1071,.int .i64 32]) (.int .i64 0)).run Tryz.prog w=.ok (.agg #[.int .i64 65,.int .i64 90,.int .i64 32]) w:=by kernel_rfl
theorem lower_ix1 (w:World):(Instr.index 198 (.agg #[.int .i64 65,.int .i64 90,.int .i64 32,.int .i64 192,.int .i64 214,.int .i64 32,.int .i64 216,.int .i64 222,.int .i64 32,.int .i64 913,.int .i64 929,.int .i64 32,.int .i64 931,.int .i64 939,.int .i64 32,.int .i64 1024,.int .i64 1039,.int .i64 80,.int .i64 1040,.int .i64 1071,.int .i64 32]) (.int .i64 1)).run Tryz.prog w=.ok (.agg #[.int .i64 192,.int .i64 214,.int .i64 32]) w:=by kernel_rfl
theorem lower_ix2 (w:World):(Instr.index 198 (.agg #[.int .i64 65,.int .i64 90,.int .i64 32,.int .i64 192,.int .i64 214,.int .i64 32,.int .i64 216,.int .i64 222,.int .i64 32,.int .i64 913,.int .i64 929,.int .i64 32,.int .i64 931,.int .i64 939,.int .i64 32,.int .i64 1024,.int .i64 1039,.int .i64 80,.int .i64 1040,.int .i64 1071,.int .i64 32]) (.int .i64 2)).run Tryz.prog w=.ok (.agg #[.int .i64 216,.int .i64 222,.int .i64 32]) w:=by kernel_rfl
theorem lower_ix3 (w:World):(Instr.index 198 (.agg #[.int .i64 65,.int .i64 90,.int .i64 32,.int .i64 192,.int .i64 214,.int .i64 32,.int .i64 216,.int .i64 222,.int .i64 32,.int .i64 913,.int .i64 929,.int .i64 32,.int .i64 931,.int .i64 939,.int .i64 32,.int .i64 1024,.int .i64 1039,.int .i64 80,.int .i64 1040,.int .i64 1071,.int .i64 32]) (.int .i64 3)).run Tryz.prog w=.ok (.agg #[.int .i64 913,.int .i64 929,.int .i64 32]) w:=by kernel_rfl
theorem lower_ix4 (w:World):(Instr.index 198 (.agg #[.int .i64 65,.int .i64 90,.int .i64 32,.int .i64 192,.int .i64 214,.int .i64 32,.int .i64 216,.int .i64 222,.int .i64 32,.int .i64 913,.int .i64 929,.int .i64 32,.int .i64 931,.int .i64 939,.int .i64 32,.int .i64 1024,.int .i64 1039,.int .i64 80,.int .i64 1040,.int .i64 1071,.int .i64 32]) (.int .i64 4)).run Tryz.prog w=.ok (.agg #[.int .i64 931,.int .i64 939,.int .i64 32]) w:=by kernel_rfl
theorem lower_ix5 (w:World):(Instr.index 198 (.agg #[.int .i64 65,.int .i64 90,.int .i64 32,.int .i64 192,.int .i64 214,.int .i64 32,.int .i64 216,.int .i64 222,.int .i64 32,.int .i64 913,.int .i64 929,.int .i64 32,.int .i64 931,.int .i64 939,.int .i64 32,.int .i64 1024,.int .i64 1039,.int .i64 80,.int .i64 1040,.int .i64 1071,.int .i64 32]) (.int .i64 5)).run Tryz.prog w=.ok (.agg #[.int .i64 1024,.int .i64 1039,.int .i64 80]) w:=by kernel_rfl
theorem lower_ix6 (w:World):(Instr.index 198 (.agg #[.int .i64 65,.int .i64 90,.int .i64 32,.int .i64 192,.int .i64 214,.int .i64 32,.int .i64 216,.int .i64 222,.int .i64 32,.int .i64 913,.int .i64 929,.int .i64 32,.int .i64 931,.int .i64 939,.int .i64 32,.int .i64 1024,.int .i64 1039,.int .i64 80,.int .i64 1040,.int .i64 1071,.int .i64 32]) (.int .i64 6)).run Tryz.prog w=.ok (.agg #[.int .i64 1040,.int .i64 1071,.int .i64 32]) w:=by kernel_rfl
theorem lower_any (r:Int) (w:World):Calls Tryz.prog 155 #[.int .i64 r] w fun e w'=>e=.returned (.int .i64 (lowerZ r))∧Below w.heap.size w w':=by
 go_enter Tryz.func155,Tryz.ntmps155
 go_wp2
 go_loopw [13] (fun i wr=>∃ k:Nat,k≤7∧i=.int .i64 k∧lowNo k r∧Below w.heap.size w wr) (fun i _=>7 - (intOf i).toNat)
 case atStart=>exact ⟨0,by omega,rfl,lowNo_zero r,Below.refl _ _⟩
 case round =>
  obtain ⟨k,hk,rfl,hno,hb⟩:=hrel
  have hsz:=hb.size
  have hk2:k=0∨k=1∨k=2∨k=3∨k=4∨k=5∨k=6∨k=7:=by omega
  rcases hk2 with rfl | rfl | rfl | rfl | rfl | rfl | rfl | rfl
  ·have hix:=lower_ix0
   by_cases g:65≤r∧r≤90
   ·have e:=low_hit0 r g
    obtain ⟨g0,g1⟩:=g
    have E:=Lib.hid e
    clear e hno
    go_wp2
    go_ret
    exact ⟨ret_int (by rw [E.out]),hb.alloc hsz _⟩
   ·have hno2:=lowNo_1 r hno g
    clear hno
    by_cases g0:65≤r
    ·have g1:¬ r≤90:=by omega
     clear g
     go_wp2
     go_roundw
     case rel=>exact ⟨1,by omega,by go_num,hno2,hb.alloc hsz _⟩
     case measure=>simp [intOf]
    ·clear g
     go_wp2
     go_roundw
     case rel=>exact ⟨1,by omega,by go_num,hno2,hb.alloc hsz _⟩
     case measure=>simp [intOf]
  ·have hix:=lower_ix1
   by_cases g:192≤r∧r≤214
   ·have e:=low_hit1 r g
    obtain ⟨g0,g1⟩:=g
    have E:=Lib.hid e
    clear e hno
    go_wp2
    go_ret
    exact ⟨ret_int (by rw [E.out]),hb.alloc hsz _⟩
   ·have hno2:=lowNo_2 r hno g
    clear hno
    by_cases g0:192≤r
    ·have g1:¬ r≤214:=by omega
     clear g
     go_wp2
     go_roundw
     case rel=>exact ⟨2,by omega,by go_num,hno2,hb.alloc hsz _⟩
     case measure=>simp [intOf]
    ·clear g
     go_wp2
     go_roundw
     case rel=>exact ⟨2,by omega,by go_num,hno2,hb.alloc hsz _⟩
     case measure=>simp [intOf]
  ·have hix:=lower_ix2
   by_cases g:216≤r∧r≤222
   ·have e:=low_hit2 r g
    obtain ⟨g0,g1⟩:=g
    have E:=Lib.hid e
    clear e hno
    go_wp2
    go_ret
    exact ⟨ret_int (by rw [E.out]),hb.alloc hsz _⟩
   ·have hno2:=lowNo_3 r hno g
    clear hno
    by_cases g0:216≤r
    ·have g1:¬ r≤222:=by omega
     clear g
     go_wp2
     go_roundw
     case rel=>exact ⟨3,by omega,by go_num,hno2,hb.alloc hsz _⟩
     case measure=>simp [intOf]
    ·clear g
     go_wp2
     go_roundw
     case rel=>exact ⟨3,by omega,by go_num,hno2,hb.alloc hsz _⟩
     case measure=>simp [intOf]
  ·have hix:=lower_ix3
   by_cases g:913≤r∧r≤929
   ·have e:=low_hit3 r g
    obtain ⟨g0,g1⟩:=g
    have E:=Lib.hid e
    clear e hno
    go_wp2
    go_ret
    exact ⟨ret_int (by rw [E.out]),hb.alloc hsz _⟩
   ·have hno2:=lowNo_4 r hno g
    clear hno
    by_cases g0:913≤r
    ·have g1:¬ r≤929:=by omega
     clear g
     go_wp2
     go_roundw
     case rel=>exact ⟨4,by omega,by go_num,hno2,hb.alloc hsz _⟩
     case measure=>simp [intOf]
    ·clear g
     go_wp2
     go_roundw
     case rel=>exact ⟨4,by omega,by go_num,hno2,hb.alloc hsz _⟩
     case measure=>simp [intOf]
  ·have hix:=lower_ix4
   by_cases g:931≤r∧r≤939
   ·have e:=low_hit4 r g
    obtain ⟨g0,g1⟩:=g
    have E:=Lib.hid e
    clear e hno
    go_wp2
    go_ret
    exact ⟨ret_int (by rw [E.out]),hb.alloc hsz _⟩
   ·have hno2:=lowNo_5 r hno g
    clear hno
    by_cases g0:931≤r
    ·have g1:¬ r≤939:=by omega
     clear g
     go_wp2
     go_roundw
     case rel=>exact ⟨5,by omega,by go_num,hno2,hb.alloc hsz _⟩
     case measure=>simp [intOf]
    ·clear g
     go_wp2
     go_roundw
     case rel=>exact ⟨5,by omega,by go_num,hno2,hb.alloc hsz _⟩
     case measure=>simp [intOf]
  ·have hix:=lower_ix5
   by_cases g:1024≤r∧r≤1039
   ·have e:=low_hit5 r g
    obtain ⟨g0,g1⟩:=g
    have E:=Lib.hid e
    clear e hno
    go_wp2
    go_ret
    exact ⟨ret_int (by rw [E.out]),hb.alloc hsz _⟩
   ·have hno2:=lowNo_6 r hno g
    clear hno
    by_cases g0:1024≤r
    ·have g1:¬ r≤1039:=by omega
     clear g
     go_wp2
     go_roundw
     case rel=>exact ⟨6,by omega,by go_num,hno2,hb.alloc hsz _⟩
     case measure=>simp [intOf]
    ·clear g
     go_wp2
     go_roundw
     case rel=>exact ⟨6,by omega,by go_num,hno2,hb.alloc hsz _⟩
     case measure=>simp [intOf]
  ·have hix:=lower_ix6
   by_cases g:1040≤r∧r≤1071
   ·have e:=low_hit6 r g
    obtain ⟨g0,g1⟩:=g
    have E:=Lib.hid e
    clear e hno
    go_wp2
    go_ret
    exact ⟨ret_int (by rw [E.out]),hb.alloc hsz _⟩
   ·have hno2:=lowNo_7 r hno g
    clear hno
    by_cases g0:1040≤r
    ·have g1:¬ r≤1071:=by omega
     clear g
     go_wp2
     go_roundw
     case rel=>exact ⟨7,by omega,by go_num,hno2,hb.alloc hsz _⟩
     case measure=>simp [intOf]
    ·clear g
     go_wp2
     go_roundw
     case rel=>exact ⟨7,by omega,by go_num,hno2,hb.alloc hsz _⟩
     case measure=>simp [intOf]
  ·have e:=lowNo_end r hno
   have E:=Lib.hid e
   clear e hno
   go_wp2
   go_ret
   exact ⟨ret_int (by rw [E.out]),hb⟩
end Go.Proofs.YtidhgicajlaafaaGreat.UM
namespace Go.Proofs.YtidhgicajlaafaaGreat.UM
open Go.RowKit
theorem word_ix0 (w:World):(Instr.index 194 (.agg #[.int .i64 48,.int .i64 57,.int .i64 65,.int .i64 90,.int .i64 97,.int .i64 122,.int .i64 192,.int .i64 214,.int .i64 216,.int .i64 246,.int .i64 248,.int .i64 255,.int .i64 913,.int .i64 929,.int .i64 931,.int .i64 974,.int .i64 1024,.int .i64 1119]) (.int .i64 0)).run Tryz.prog w=.ok (.agg #[.int .i64 48,.int .i64 57]) w:=by kernel_rfl
theorem word_ix1 (w:World):(Instr.index 194 (.agg #[.int .i64 48,.int .i64 57,.int .i64 65,.int .i64 90,.int .i64 97,.int .i64 122,.int .i64 192,.int .i64 214,.int .i64 216,.int .i64 246,.int .i64 248,.int .i64 255,.int .i64 913,.int .i64 929,.int .i64 931,.int .i64 974,.int .i64 1024,.int .i64 1119]) (.int .i64 1)).run Tryz.prog w=.ok (.agg #[.int .i64 65,.int .i64 90]) w:=by kernel_rfl
theorem word_ix2 (w:World):(Instr.index 194 (.agg #[.int .i64 48,.int .i64 57,.int .i64 65,.int .i64 90,.int .i64 97,.int .i64 122,.int .i64 192,.int .i64 214,.int .i64 216,.int .i64 246,.int .i64 248,.int .i64 255,.int .i64 913,.int .i64 929,.int .i64 931,.int .i64 974,.int .i64 1024,.int .i64 1119]) (.int .i64 2)).run Tryz.prog w=.ok (.agg #[.int .i64 97,.int .i64 122]) w:=by kernel_rfl
theorem word_ix3 (w:World):(Instr.index 194 (.agg #[.int .i64 48,.int .i64 57,.int .i64 65,.int .i64 90,.int .i64 97,.int .i64 122,.int .i64 192,.int .i64 214,.int .i64 216,.int .i64 246,.int .i64 248,.int .i64 255,.int .i64 913,.int .i64 929,.int .i64 931,.int .i64 974,.int .i64 1024,.int .i64 1119]) (.int .i64 3)).run Tryz.prog w=.ok (.agg #[.int .i64 192,.int .i64 214]) w:=by kernel_rfl
theorem word_ix4 (w:World):(Instr.index 194 (.agg #[.int .i64 48,.int .i64 57,.int .i64 65,.int .i64 90,.int .i64 97,.int .i64 122,.int .i64 192,.int .i64 214,.int .i64 216,.int .i64 246,.int .i64 248,.int .i64 255,.int .i64 913,.int .i64 929,.int .i64 931,.int .i64 974,.int .i64 1024,.int .i64 1119]) (.int .i64 4)).run Tryz.prog w=.ok (.agg #[.int .i64 216,.int .i64 246]) w:=by kernel_rfl
theorem word_ix5 (w:World):(Instr.index 194 (.agg #[.int .i64 48,.int .i64 57,.int .i64 65,.int .i64 90,.int .i64 97,.int .i64 122,.int .i64 192,.int .i64 214,.int .i64 216,.int .i64 246,.int .i64 248,.int .i64 255,.int .i64 913,.int .i64 929,.int .i64 931,.int .i64 974,.int .i64 1024,.int .i64 1119]) (.int .i64 5)).run Tryz.prog w=.ok (.agg #[.int .i64 248,.int .i64 255]) w:=by kernel_rfl
theorem word_ix6 (w:World):(Instr.index 194 (.agg #[.int .i64 48,.int .i64 57,.int .i64 65,.int .i64 90,.int .i64 97,.int .i64 122,.int .i64 192,.int .i64 214,.int .i64 216,.int .i64 246,.int .i64 248,.int .i64 255,.int .i64 913,.int .i64 929,.int .i64 931,.int .i64 974,.int .i64 1024,.int .i64 1119]) (.int .i64 6)).run Tryz.prog w=.ok (.agg #[.int .i64 913,.int .i64 929]) w:=by kernel_rfl
theorem word_ix7 (w:World):(Instr.index 194 (.agg #[.int .i64 48,.int .i64 57,.int .i64 65,.int .i64 90,.int .i64 97,.int .i64 122,.int .i64 192,.int .i64 214,.int .i64 216,.int .i64 246,.int .i64 248,.int .i64 255,.int .i64 913,.int .i64 929,.int .i64 931,.int .i64 974,.int .i64 1024,.int .i64 1119]) (.int .i64 7)).run Tryz.prog w=.ok (.agg #[.int .i64 931,.int .i64 974]) w:=by kernel_rfl
theorem word_ix8 (w:World):(Instr.index 194 (.agg #[.int .i64 48,.int .i64 57,.int .i64 65,.int .i64 90,.int .i64 97,.int .i64 122,.int .i64 192,.int .i64 214,.int .i64 216,.int .i64 246,.int .i64 248,.int .i64 255,.int .i64 913,.int .i64 929,.int .i64 931,.int .i64 974,.int .i64 1024,.int .i64 1119]) (.int .i64 8)).run Tryz.prog w=.ok (.agg #[.int .i64 1024,.int .i64 1119]) w:=by kernel_rfl
theorem word_any (r:Int) (w:World):Calls Tryz.prog 145 #[.int .i64 r] w fun e w'=>e=.returned (.bool (wordZ r))∧Below w.heap.size w w':=by
 go_enter Tryz.func145,Tryz.ntmps145
 go_wp2
 go_loopw [15] (fun i wr=>∃ k:Nat,k≤9∧i=.int .i64 k∧wordNo k r∧Below w.heap.size w wr) (fun i _=>9 - (intOf i).toNat)
 case atStart=>exact ⟨0,by omega,rfl,wordNo_zero r,Below.refl _ _⟩
 case round =>
  obtain ⟨k,hk,rfl,hno,hb⟩:=hrel
  have hsz:=hb.size
  have hk2:k=0∨k=1∨k=2∨k=3∨k=4∨k=5∨k=6∨k=7∨k=8∨k=9:=by omega
  rcases hk2 with rfl | rfl | rfl | rfl | rfl | rfl | rfl | rfl | rfl | rfl
  ·have hix:=word_ix0
   by_cases g:48≤r∧r≤57
   ·have e:=word_hit0 r g
    obtain ⟨g0,g1⟩:=g
    have E:=Lib.hid e
    clear e hno
    go_wp2
    go_ret
    exact ⟨ret_bool (by rw [E.out]),hb.alloc hsz _⟩
   ·have hno2:=wordNo_1 r hno g
    clear hno
    by_cases g0:48≤r
    ·have g1:¬ r≤57:=by omega
     clear g
     go_wp2
     go_roundw
     case rel=>exact ⟨1,by omega,by go_num,hno2,hb.alloc hsz _⟩
     case measure=>simp [intOf]
    ·clear g
     go_wp2
     go_roundw
     case rel=>exact ⟨1,by omega,by go_num,hno2,hb.alloc hsz _⟩
     case measure=>simp [intOf]
  ·have hix:=word_ix1
   by_cases g:65≤r∧r≤90
   ·have e:=word_hit1 r g
    obtain ⟨g0,g1⟩:=g
    have E:=Lib.hid e
    clear e hno
    go_wp2
    go_ret
    exact ⟨ret_bool (by rw [E.out]),hb.alloc hsz _⟩
   ·have hno2:=wordNo_2 r hno g
    clear hno
    by_cases g0:65≤r
    ·have g1:¬ r≤90:=by omega
     clear g
     go_wp2
     go_roundw
     case rel=>exact ⟨2,by omega,by go_num,hno2,hb.alloc hsz _⟩
     case measure=>simp [intOf]
    ·clear g
     go_wp2
     go_roundw
     case rel=>exact ⟨2,by omega,by go_num,hno2,hb.alloc hsz _⟩
     case measure=>simp [intOf]
  ·have hix:=word_ix2
   by_cases g:97≤r∧r≤122
   ·have e:=word_hit2 r g
    obtain ⟨g0,g1⟩:=g
    have E:=Lib.hid e
    clear e hno
    go_wp2
    go_ret
    exact ⟨ret_bool (by rw [E.out]),hb.alloc hsz _⟩
   ·have hno2:=wordNo_3 r hno g
    clear hno
    by_cases g0:97≤r
    ·have g1:¬ r≤122:=by omega
     clear g
     go_wp2
     go_roundw
     case rel=>exact ⟨3,by omega,by go_num,hno2,hb.alloc hsz _⟩
     case measure=>simp [intOf]
    ·clear g
     go_wp2
     go_roundw
     case rel=>exact ⟨3,by omega,by go_num,hno2,hb.alloc hsz _⟩
     case measure=>simp [intOf]
  ·have hix:=word_ix3
   by_cases g:192≤r∧r≤214
   ·have e:=word_hit3 r g
    obtain ⟨g0,g1⟩:=g
    have E:=Lib.hid e
    clear e hno
    go_wp2
    go_ret
    exact ⟨ret_bool (by rw [E.out]),hb.alloc hsz _⟩
   ·have hno2:=wordNo_4 r hno g
    clear hno
    by_cases g0:192≤r
    ·have g1:¬ r≤214:=by omega
     clear g
     go_wp2
     go_roundw
     case rel=>exact ⟨4,by omega,by go_num,hno2,hb.alloc hsz _⟩
     case measure=>simp [intOf]
    ·clear g
     go_wp2
     go_roundw
     case rel=>exact ⟨4,by omega,by go_num,hno2,hb.alloc hsz _⟩
     case measure=>simp [intOf]
  ·have hix:=word_ix4
   by_cases g:216≤r∧r≤246
   ·have e:=word_hit4 r g
    obtain ⟨g0,g1⟩:=g
    have E:=Lib.hid e
    clear e hno
    go_wp2
    go_ret
    exact ⟨ret_bool (by rw [E.out]),hb.alloc hsz _⟩
   ·have hno2:=wordNo_5 r hno g
    clear hno
    by_cases g0:216≤r
    ·have g1:¬ r≤246:=by omega
     clear g
     go_wp2
     go_roundw
     case rel=>exact ⟨5,by omega,by go_num,hno2,hb.alloc hsz _⟩
     case measure=>simp [intOf]
    ·clear g
     go_wp2
     go_roundw
     case rel=>exact ⟨5,by omega,by go_num,hno2,hb.alloc hsz _⟩
     case measure=>simp [intOf]
  ·have hix:=word_ix5
   by_cases g:248≤r∧r≤255
   ·have e:=word_hit5 r g
    obtain ⟨g0,g1⟩:=g
    have E:=Lib.hid e
    clear e hno
    go_wp2
    go_ret
    exact ⟨ret_bool (by rw [E.out]),hb.alloc hsz _⟩
   ·have hno2:=wordNo_6 r hno g
    clear hno
    by_cases g0:248≤r
    ·have g1:¬ r≤255:=by omega
     clear g
     go_wp2
     go_roundw
     case rel=>exact ⟨6,by omega,by go_num,hno2,hb.alloc hsz _⟩
     case measure=>simp [intOf]
    ·clear g
     go_wp2
     go_roundw
     case rel=>exact ⟨6,by omega,by go_num,hno2,hb.alloc hsz _⟩
     case measure=>simp [intOf]
  ·have hix:=word_ix6
   by_cases g:913≤r∧r≤929
   ·have e:=word_hit6 r g
    obtain ⟨g0,g1⟩:=g
    have E:=Lib.hid e
    clear e hno
    go_wp2
    go_ret
    exact ⟨ret_bool (by rw [E.out]),hb.alloc hsz _⟩
   ·have hno2:=wordNo_7 r hno g
    clear hno
    by_cases g0:913≤r
    ·have g1:¬ r≤929:=by omega
     clear g
     go_wp2
     go_roundw
     case rel=>exact ⟨7,by omega,by go_num,hno2,hb.alloc hsz _⟩
     case measure=>simp [intOf]
    ·clear g
     go_wp2
     go_roundw
     case rel=>exact ⟨7,by omega,by go_num,hno2,hb.alloc hsz _⟩
     case measure=>simp [intOf]
  ·have hix:=word_ix7
   by_cases g:931≤r∧r≤974
   ·have e:=word_hit7 r g
    obtain ⟨g0,g1⟩:=g
    have E:=Lib.hid e
    clear e hno
    go_wp2
    go_ret
    exact ⟨ret_bool (by rw [E.out]),hb.alloc hsz _⟩
   ·have hno2:=wordNo_8 r hno g
    clear hno
    by_cases g0:931≤r
    ·have g1:¬ r≤974:=by omega
     clear g
     go_wp2
     go_roundw
     case rel=>exact ⟨8,by omega,by go_num,hno2,hb.alloc hsz _⟩
     case measure=>simp [intOf]
    ·clear g
     go_wp2
     go_roundw
     case rel=>exact ⟨8,by omega,by go_num,hno2,hb.alloc hsz _⟩
     case measure=>simp [intOf]
  ·have hix:=word_ix8
   by_cases g:1024≤r∧r≤1119
   ·have e:=word_hit8 r g
    obtain ⟨g0,g1⟩:=g
    have E:=Lib.hid e
    clear e hno
    go_wp2
    go_ret
    exact ⟨ret_bool (by rw [E.out]),hb.alloc hsz _⟩
   ·have hno2:=wordNo_9 r hno g
    clear hno
    by_cases g0:1024≤r
    ·have g1:¬ r≤1119:=by omega
     clear g
     go_wp2
     go_roundw
     case rel=>exact ⟨9,by omega,by go_num,hno2,hb.alloc hsz _⟩
     case measure=>simp [intOf]
    ·clear g
     go_wp2
     go_roundw
     case rel=>exact ⟨9,by omega,by go_num,hno2,hb.alloc hsz _⟩
     case measure=>simp [intOf]
  ·have e:=wordNo_end r hno
   have E:=Lib.hid e
   clear e hno
   go_wp2
   go_ret
   exact ⟨ret_bool (by rw [E.out]),hb⟩
end Go.Proofs.YtidhgicajlaafaaGreat.UM
