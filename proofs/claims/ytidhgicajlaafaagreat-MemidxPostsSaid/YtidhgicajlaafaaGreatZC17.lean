import Derived.Test.YtidhgicajlaafaaGreatZC6
set_option maxRecDepth 100000
set_option maxHeartbeats 8000000
set_option linter.unusedVariables false
set_option linter.unusedSimpArgs false
namespace Go.Proofs.YtidhgicajlaafaaGreat.UM
open Go.RowKit
theorem lower_ix0 (w:World):(Instr.index 198 (.agg #[.int .i64 65,.int .i64 90,.int .i64 32,.int .i64 192,.int .i64 214,.int .i64 32,.int .i64 216,.int .i64 222,.int .i64 32,.int .i64 913,.int .i64 929,.int .i64 32,.int .i64 931,.int .i64 939,.int .i64 32,.int .i64 1024,.int .i64 1039,.int .i64 80,.int .i64 1040,.int .i64 1071,.int .i64 32]) (.int .i64 0)).run Tryz.prog w=.ok (.agg #[.int .i64 65,.int .i64 90,.int .i64 32]) w:=by kernel_rfl
theorem lower_ix1 (w:World):(Instr.index 198 (.agg #[.int .i64 65,.int .i64 90,.int .i64 32,.int .i64 192,.int .i64 214,.int .i64 32,.int .i64 216,.int .i64 222,.int .i64 32,.int .i64 913,.int .i64 929,.int .i64 32,.int .i64 931,.int .i64 939,.int .i64 32,.int .i64 1024,.int .i64 1039,.int .i64 80,.int .i64 1040,.int .i64 1071,.int .i64 32]) (.int .i64 1)).run Tryz.prog w=.ok (.agg #[.int .i64 192,.int .i64 214,.int .i64 32]) w:=by kernel_rfl
theorem lower_ix2 (w:World):(Instr.index 198 (.agg #[.int .i64 65,.int .i64 90,.int .i64 32,.int .i64 192,.int .i64 214,.int .i64 32,.int .i64 216,.int .i64 222,.int .i64 32,.int .i64 913,.int .i64 929,.int .i64 32,.int .i64 931,.int .i64 939,.int .i64 32,.int .i64 1024,.int .i64 1039,.int .i64 80,.int .i64 1040,.int .i64 1071,.int .i64 32]) (.int .i64 2)).run Tryz.prog w=.ok (.agg #[.int .i64 216,.int .i64 222,.int .i64 32]) w:=by kernel_rfl
theorem lower_ix3 (w:World):(Instr.index 198 (.agg #[.int .i64 65,.int .i64 90,.int .i64 32,.int .i64 192,.int .i64 214,.int .i64 32,.int .i64 216,.int .i64 222,.int .i64 32,.int .i64 913,.int .i64 929,.int .i64 32,.int .i64 931,.int .i64 939,.int .i64 32,.int .i64 1024,.int .i64 1039,.int .i64 80,.int .i64 1040,.int .i64 1071,.int .i64 32]) (.int .i64 3)).run Tryz.prog w=.ok (.agg #[.int .i64 913,.int .i64 929,.int .i64 32]) w:=by kernel_rfl
theorem lower_ix4 (w:World):(Instr.index 198 (.agg #[.int .i64 65,.int .i64 90,.int .i64 32,.int .i64 192,.int .i64 214,.int .i64 32,.int .i64 216,.int .i64 222,.int .i64 32,.int .i64 913,.int .i64 929,.int .i64 32,.int .i64 931,.int .i64 939,.int .i64 32,.int .i64 1024,.int .i64 1039,.int .i64 80,.int .i64 1040,.int .i64 1071,.int .i64 32]) (.int .i64 4)).run Tryz.prog w=.ok (.agg #[.int .i64 931,.int .i64 939,.int .i64 32]) w:=by kernel_rfl
theorem lower_ix5 (w:World):(Instr.index 198 (.agg #[.int .i64 65,.int .i64 90,.int .i64 32,.int .i64 192,.int .i64 214,.int .i64 32,.int .i64 216,.int .i64 222,.int .i64 32,.int .i64 913,.int .i64 929,.int .i64 32,.int .i64 931,.int .i64 939,.int .i64 32,.int .i64 1024,.int .i64 1039,.int .i64 80,.int .i64 1040,.int .i64 1071,.int .i64 32]) (.int .i64 5)).run Tryz.prog w=.ok (.agg #[.int .i64 1024,.int .i64 1039,.int .i64 80]) w:=by kernel_rfl
theorem lower_ix6 (w:World):(Instr.index 198 (.agg #[.int .i64 65,.int .i64 90,.int .i64 32,.int .i64 192,.int .i64 214,.int .i64 32,.int .i64 216,.int .i64 222,.int .i64 32,.int .i64 913,.int .i64 929,.int .i64 32,.int .i64 931,.int .i64 939,.int .i64 32,.int .i64 1024,.int .i64 1039,.int .i64 80,.int .i64 1040,.int .i64 1071,.int .i64 32]) (.int .i64 6)).run Tryz.prog w=.ok (.agg #[.int .i64 1040,.int .i64 1071,.int .i64 32]) w:=by kernel_rfl
theorem lower_any (r:Int) (w:World):Calls Tryz.prog 155 #[.int .i64 r] w fun e w'=>e=.returned (.int .i64 (lowerZ r))∧Below w.heap.size w w':=by
 go_enter Tryz.func155,Tryz.ntmps155
 go_wp2
 go_loopw [13] (fun i wr=>∃ k:Nat,k≤7∧i=.int .i64 k∧lowNo k r∧Below w.heap.size w wr) (fun i _=>7 - (intOf i).toNat)
 case atStart=>exact ⟨0,by omega,rfl,lowNo_zero r,Below.refl _ _⟩
 case round =>
  obtain ⟨k,hk,rfl,hno,hb⟩:=hrel
  have hsz:=hb.size
  have hk2:k=0∨k=1∨k=2∨k=3∨k=4∨k=5∨k=6∨k=7:=by omega
  rcases hk2 with rfl | rfl | rfl | rfl | rfl | rfl | rfl | rfl
  ·have hix:=lower_ix0
   by_cases g:65≤r∧r≤90
   ·have e:=low_hit0 r g
    obtain ⟨g0,g1⟩:=g
    have E:=Lib.hid e
    clear e hno
    go_wp2
    go_ret
    exact ⟨ret_int (by rw [E.out]),hb.alloc hsz _⟩
   ·have hno2:=lowNo_1 r hno g
    clear hno
    by_cases g0:65≤r
    ·have g1:¬ r≤90:=by omega
     clear g
     go_wp2
     go_roundw
     case rel=>exact ⟨1,by omega,by go_num,hno2,hb.alloc hsz _⟩
     case measure=>simp [intOf]
    ·clear g
     go_wp2
     go_roundw
     case rel=>exact ⟨1,by omega,by go_num,hno2,hb.alloc hsz _⟩
     case measure=>simp [intOf]
  ·have hix:=lower_ix1
   by_cases g:192≤r∧r≤214
   ·have e:=low_hit1 r g
    obtain ⟨g0,g1⟩:=g
    have E:=Lib.hid e
    clear e hno
    go_wp2
    go_ret
    exact ⟨ret_int (by rw [E.out]),hb.alloc hsz _⟩
   ·have hno2:=lowNo_2 r hno g
    clear hno
    by_cases g0:192≤r
    ·have g1:¬ r≤214:=by omega
     clear g
     go_wp2
     go_roundw
     case rel=>exact ⟨2,by omega,by go_num,hno2,hb.alloc hsz _⟩
     case measure=>simp [intOf]
    ·clear g
     go_wp2
     go_roundw
     case rel=>exact ⟨2,by omega,by go_num,hno2,hb.alloc hsz _⟩
     case measure=>simp [intOf]
  ·have hix:=lower_ix2
   by_cases g:216≤r∧r≤222
   ·have e:=low_hit2 r g
    obtain ⟨g0,g1⟩:=g
    have E:=Lib.hid e
    clear e hno
    go_wp2
    go_ret
    exact ⟨ret_int (by rw [E.out]),hb.alloc hsz _⟩
   ·have hno2:=lowNo_3 r hno g
    clear hno
    by_cases g0:216≤r
    ·have g1:¬ r≤222:=by omega
     clear g
     go_wp2
     go_roundw
     case rel=>exact ⟨3,by omega,by go_num,hno2,hb.alloc hsz _⟩
     case measure=>simp [intOf]
    ·clear g
     go_wp2
     go_roundw
     case rel=>exact ⟨3,by omega,by go_num,hno2,hb.alloc hsz _⟩
     case measure=>simp [intOf]
  ·have hix:=lower_ix3
   by_cases g:913≤r∧r≤929
   ·have e:=low_hit3 r g
    obtain ⟨g0,g1⟩:=g
    have E:=Lib.hid e
    clear e hno
    go_wp2
    go_ret
    exact ⟨ret_int (by rw [E.out]),hb.alloc hsz _⟩
   ·have hno2:=lowNo_4 r hno g
    clear hno
    by_cases g0:913≤r
    ·have g1:¬ r≤929:=by omega
     clear g
     go_wp2
     go_roundw
     case rel=>exact ⟨4,by omega,by go_num,hno2,hb.alloc hsz _⟩
     case measure=>simp [intOf]
    ·clear g
     go_wp2
     go_roundw
     case rel=>exact ⟨4,by omega,by go_num,hno2,hb.alloc hsz _⟩
     case measure=>simp [intOf]
  ·have hix:=lower_ix4
   by_cases g:931≤r∧r≤939
   ·have e:=low_hit4 r g
    obtain ⟨g0,g1⟩:=g
    have E:=Lib.hid e
    clear e hno
    go_wp2
    go_ret
    exact ⟨ret_int (by rw [E.out]),hb.alloc hsz _⟩
   ·have hno2:=lowNo_5 r hno g
    clear hno
    by_cases g0:931≤r
    ·have g1:¬ r≤939:=by omega
     clear g
     go_wp2
     go_roundw
     case rel=>exact ⟨5,by omega,by go_num,hno2,hb.alloc hsz _⟩
     case measure=>simp [intOf]
    ·clear g
     go_wp2
     go_roundw
     case rel=>exact ⟨5,by omega,by go_num,hno2,hb.alloc hsz _⟩
     case measure=>simp [intOf]
  ·have hix:=lower_ix5
   by_cases g:1024≤r∧r≤1039
   ·have e:=low_hit5 r g
    obtain ⟨g0,g1⟩:=g
    have E:=Lib.hid e
    clear e hno
    go_wp2
    go_ret
    exact ⟨ret_int (by rw [E.out]),hb.alloc hsz _⟩
   ·have hno2:=lowNo_6 r hno g
    clear hno
    by_cases g0:1024≤r
    ·have g1:¬ r≤1039:=by omega
     clear g
     go_wp2
     go_roundw
     case rel=>exact ⟨6,by omega,by go_num,hno2,hb.alloc hsz _⟩
     case measure=>simp [intOf]
    ·clear g
     go_wp2
     go_roundw
     case rel=>exact ⟨6,by omega,by go_num,hno2,hb.alloc hsz _⟩
     case measure=>simp [intOf]
  ·have hix:=lower_ix6
   by_cases g:1040≤r∧r≤1071
   ·have e:=low_hit6 r g
    obtain ⟨g0,g1⟩:=g
    have E:=Lib.hid e
    clear e hno
    go_wp2
    go_ret
    exact ⟨ret_int (by rw [E.out]),hb.alloc hsz _⟩
   ·have hno2:=lowNo_7 r hno g
    clear hno
    by_cases g0:1040≤r
    ·have g1:¬ r≤1071:=by omega
     clear g
     go_wp2
     go_roundw
     case rel=>exact ⟨7,by omega,by go_num,hno2,hb.alloc hsz _⟩
     case measure=>simp [intOf]
    ·clear g
     go_wp2
     go_roundw
     case rel=>exact ⟨7,by omega,by go_num,hno2,hb.alloc hsz _⟩
     case measure=>simp [intOf]
  ·have e:=lowNo_end r hno
   have E:=Lib.hid e
   clear e hno
   go_wp2
   go_ret
   exact ⟨ret_int (by rw [E.out]),hb⟩
end Go.Proofs.YtidhgicajlaafaaGreat.UM
namespace Go.Proofs.YtidhgicajlaafaaGreat.UM
open Go.RowKit
theorem rlower_any (r:Int) (w:World):Calls Tryz.prog 104 #[.int .i64 r] w fun e w'=>e=.returned (.int .i64 (lowerZ r))∧w=w':=by
 rcases (by omega:r≤64∨(65≤r∧r≤90)∨(91≤r∧r≤191)∨(192≤r∧r≤214)∨(215≤r∧r≤215)∨(216≤r∧r≤222)∨(223≤r∧r≤912)∨(913≤r∧r≤929)∨(930≤r∧r≤930)∨(931≤r∧r≤939)∨(940≤r∧r≤1023)∨(1024≤r∧r≤1039)∨(1040≤r∧r≤1071)∨1072≤r) with g | g | g | g | g | g | g | g | g | g | g | g | g | g
 all_goals
  first | (have q215:(r == 215)=false:=by simp;omega) | (have q215:(r == 215)=true:=by simp;omega)
  first | (have n215:(r != 215)=false:=by simp;omega) | (have n215:(r != 215)=true:=by simp;omega)
  first | (have q930:(r == 930)=false:=by simp;omega) | (have q930:(r == 930)=true:=by simp;omega)
  first | (have n930:(r != 930)=false:=by simp;omega) | (have n930:(r != 930)=true:=by simp;omega)
  first | (have a65:decide ((65:Int)≤r)=false:=by simp;omega) | (have a65:decide ((65:Int)≤r)=true:=by simp;omega)
  first | (have a192:decide ((192:Int)≤r)=false:=by simp;omega) | (have a192:decide ((192:Int)≤r)=true:=by simp;omega)
  first | (have a913:decide ((913:Int)≤r)=false:=by simp;omega) | (have a913:decide ((913:Int)≤r)=true:=by simp;omega)
  first | (have a1040:decide ((1040:Int)≤r)=false:=by simp;omega) | (have a1040:decide ((1040:Int)≤r)=true:=by simp;omega)
  first | (have a1024:decide ((1024:Int)≤r)=false:=by simp;omega) | (have a1024:decide ((1024:Int)≤r)=true:=by simp;omega)
  first | (have b90:decide (r≤(90:Int))=false:=by simp;omega) | (have b90:decide (r≤(90:Int))=true:=by simp;omega)
  first | (have b222:decide (r≤(222:Int))=false:=by simp;omega) | (have b222:decide (r≤(222:Int))=true:=by simp;omega)
  first | (have b939:decide (r≤(939:Int))=false:=by simp;omega) | (have b939:decide (r≤(939:Int))=true:=by simp;omega)
  first | (have b1071:decide (r≤(1071:Int))=false:=by simp;omega) | (have b1071:decide (r≤(1071:Int))=true:=by simp;omega)
  first | (have b1039:decide (r≤(1039:Int))=false:=by simp;omega) | (have b1039:decide (r≤(1039:Int))=true:=by simp;omega)
  try have z0:0≤r:=by omega
  try have z1:r≤2000:=by omega
  first | (have e:lowerZ r=r:=(by unfold lowerZ;omega);rw [e]) | (have e:lowerZ r=r+32:=(by unfold lowerZ;omega);rw [e]) | (have e:lowerZ r=r+80:=(by unfold lowerZ;omega);rw [e])
  clear e g
  go_enter Tryz.func104,Tryz.ntmps104
  go_wp2
  go_ret
  exact ⟨rfl,rfl⟩
theorem rword_any (r:Int) (w:World):Calls Tryz.prog 80 #[.int .i64 r] w fun e w'=>e=.returned (.bool (wordZ r))∧w=w':=by
 rcases (by omega:r≤47∨(48≤r∧r≤57)∨(58≤r∧r≤64)∨(65≤r∧r≤90)∨(91≤r∧r≤96)∨(97≤r∧r≤122)∨(123≤r∧r≤191)∨(192≤r∧r≤214)∨(215≤r∧r≤215)∨(216≤r∧r≤246)∨(247≤r∧r≤247)∨(248≤r∧r≤255)∨(256≤r∧r≤912)∨(913≤r∧r≤929)∨(930≤r∧r≤930)∨(931≤r∧r≤974)∨(975≤r∧r≤1023)∨(1024≤r∧r≤1119)∨1120≤r) with g | g | g | g | g | g | g | g | g | g | g | g | g | g | g | g | g | g | g
 all_goals
  first | (have q215:(r == 215)=false:=by simp;omega) | (have q215:(r == 215)=true:=by simp;omega)
  first | (have n215:(r != 215)=false:=by simp;omega) | (have n215:(r != 215)=true:=by simp;omega)
  first | (have q247:(r == 247)=false:=by simp;omega) | (have q247:(r == 247)=true:=by simp;omega)
  first | (have n247:(r != 247)=false:=by simp;omega) | (have n247:(r != 247)=true:=by simp;omega)
  first | (have q930:(r == 930)=false:=by simp;omega) | (have q930:(r == 930)=true:=by simp;omega)
  first | (have n930:(r != 930)=false:=by simp;omega) | (have n930:(r != 930)=true:=by simp;omega)
  first | (have a48:decide ((48:Int)≤r)=false:=by simp;omega) | (have a48:decide ((48:Int)≤r)=true:=by simp;omega)
  first | (have a65:decide ((65:Int)≤r)=false:=by simp;omega) | (have a65:decide ((65:Int)≤r)=true:=by simp;omega)
  first | (have a97:decide ((97:Int)≤r)=false:=by simp;omega) | (have a97:decide ((97:Int)≤r)=true:=by simp;omega)
  first | (have a192:decide ((192:Int)≤r)=false:=by simp;omega) | (have a192:decide ((192:Int)≤r)=true:=by simp;omega)
  first | (have a913:decide ((913:Int)≤r)=false:=by simp;omega) | (have a913:decide ((913:Int)≤r)=true:=by simp;omega)
  first | (have a1024:decide ((1024:Int)≤r)=false:=by simp;omega) | (have a1024:decide ((1024:Int)≤r)=true:=by simp;omega)
  first | (have b57:decide (r≤(57:Int))=false:=by simp;omega) | (have b57:decide (r≤(57:Int))=true:=by simp;omega)
  first | (have b90:decide (r≤(90:Int))=false:=by simp;omega) | (have b90:decide (r≤(90:Int))=true:=by simp;omega)
  first | (have b122:decide (r≤(122:Int))=false:=by simp;omega) | (have b122:decide (r≤(122:Int))=true:=by simp;omega)
  first | (have b255:decide (r≤(255:Int))=false:=by simp;omega) | (have b255:decide (r≤(255:Int))=true:=by simp;omega)
  first | (have b974:decide (r≤(974:Int))=false:=by simp;omega) | (have b974:decide (r≤(974:Int))=true:=by simp;omega)
  first | (have b1119:decide (r≤(1119:Int))=false:=by simp;omega) | (have b1119:decide (r≤(1119:Int))=true:=by simp;omega)
  first | (have e:wordZ r=false:=(by unfold wordZ;exact decide_eq_false (by omega));rw [e]) | (have e:wordZ r=true:=(by unfold wordZ;exact decide_eq_true (by omega));rw [e])
  clear e g
  go_enter Tryz.func80,Tryz.ntmps80
  go_wp2
  go_ret
  exact ⟨rfl,rfl⟩
end Go.Proofs.YtidhgicajlaafaaGreat.UM
