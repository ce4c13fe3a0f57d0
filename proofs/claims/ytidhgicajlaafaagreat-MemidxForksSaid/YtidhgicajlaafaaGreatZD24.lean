import Derived.Test.YtidhgicajlaafaaGreatZD4
set_option maxRecDepth 100000
set_option maxHeartbeats 8000000
set_option linter.unusedVariables false
set_option linter.unusedSimpArgs false
namespace Go.Proofs.YtidhgicajlaafaaGreat.UM
open Go.RowKit
def lowNo (k:Nat) (r:Int):Prop:=(1≤k→¬ (65≤r∧r≤90))∧(2≤k→¬ (192≤r∧r≤214))∧(3≤k→¬ (216≤r∧r≤222))∧(4≤k→¬ (913≤r∧r≤929))∧(5≤k→¬ (931≤r∧r≤939))∧(6≤k→¬ (1024≤r∧r≤1039))∧(7≤k→¬ (1040≤r∧r≤1071))
theorem lowNo_zero (r:Int):lowNo 0 r:=by unfold lowNo;omega
theorem lowNo_1 (r:Int) (h:lowNo 0 r) (g:¬ (65≤r∧r≤90)):lowNo 1 r:=by unfold lowNo at *;omega
theorem lowNo_2 (r:Int) (h:lowNo 1 r) (g:¬ (192≤r∧r≤214)):lowNo 2 r:=by unfold lowNo at *;omega
theorem lowNo_3 (r:Int) (h:lowNo 2 r) (g:¬ (216≤r∧r≤222)):lowNo 3 r:=by unfold lowNo at *;omega
theorem lowNo_4 (r:Int) (h:lowNo 3 r) (g:¬ (913≤r∧r≤929)):lowNo 4 r:=by unfold lowNo at *;omega
theorem lowNo_5 (r:Int) (h:lowNo 4 r) (g:¬ (931≤r∧r≤939)):lowNo 5 r:=by unfold lowNo at *;omega
theorem lowNo_6 (r:Int) (h:lowNo 5 r) (g:¬ (1024≤r∧r≤1039)):lowNo 6 r:=by unfold lowNo at *;omega
theorem lowNo_7 (r:Int) (h:lowNo 6 r) (g:¬ (1040≤r∧r≤1071)):lowNo 7 r:=by unfold lowNo at *;omega
theorem lowNo_end (r:Int) (h:lowNo 7 r):lowerZ r=r:=by unfold lowNo at h;unfold lowerZ;(repeat' split)<;>omega
theorem low_hit0 (r:Int) (g:65≤r∧r≤90):lowerZ r=r+32:=by unfold lowerZ;(repeat' split)<;>omega
theorem low_hit1 (r:Int) (g:192≤r∧r≤214):lowerZ r=r+32:=by unfold lowerZ;(repeat' split)<;>omega
theorem low_hit2 (r:Int) (g:216≤r∧r≤222):lowerZ r=r+32:=by unfold lowerZ;(repeat' split)<;>omega
theorem low_hit3 (r:Int) (g:913≤r∧r≤929):lowerZ r=r+32:=by unfold lowerZ;(repeat' split)<;>omega
theorem low_hit4 (r:Int) (g:931≤r∧r≤939):lowerZ r=r+32:=by unfold lowerZ;(repeat' split)<;>omega
theorem low_hit5 (r:Int) (g:1024≤r∧r≤1039):lowerZ r=r+80:=by unfold lowerZ;(repeat' split)<;>omega
theorem low_hit6 (r:Int) (g:1040≤r∧r≤1071):lowerZ r=r+32:=by unfold lowerZ;(repeat' split)<;>omega
def wordNo (k:Nat) (r:Int):Prop:=(1≤k→¬ (48≤r∧r≤57))∧(2≤k→¬ (65≤r∧r≤90))∧(3≤k→¬ (97≤r∧r≤122))∧(4≤k→¬ (192≤r∧r≤214))∧(5≤k→¬ (216≤r∧r≤246))∧(6≤k→¬ (248≤r∧r≤255))∧(7≤k→¬ (913≤r∧r≤929))∧(8≤k→¬ (931≤r∧r≤974))∧(9≤k→¬ (1024≤r∧r≤1119))
theorem wordNo_zero (r:Int):wordNo 0 r:=by unfold wordNo;omega
theorem wordNo_1 (r:Int) (h:wordNo 0 r) (g:¬ (48≤r∧r≤57)):wordNo 1 r:=by unfold wordNo at *;omega
theorem wordNo_2 (r:Int) (h:wordNo 1 r) (g:¬ (65≤r∧r≤90)):wordNo 2 r:=by unfold wordNo at *;omega
theorem wordNo_3 (r:Int) (h:wordNo 2 r) (g:¬ (97≤r∧r≤122)):wordNo 3 r:=by unfold wordNo at *;omega
theorem wordNo_4 (r:Int) (h:wordNo 3 r) (g:¬ (192≤r∧r≤214)):wordNo 4 r:=by unfold wordNo at *;omega
theorem wordNo_5 (r:Int) (h:wordNo 4 r) (g:¬ (216≤r∧r≤246)):wordNo 5 r:=by unfold wordNo at *;omega
theorem wordNo_6 (r:Int) (h:wordNo 5 r) (g:¬ (248≤r∧r≤255)):wordNo 6 r:=by unfold wordNo at *;omega
theorem wordNo_7 (r:Int) (h:wordNo 6 r) (g:¬ (913≤r∧r≤929)):wordNo 7 r:=by unfold wordNo at *;omega
theorem wordNo_8 (r:Int) (h:wordNo 7 r) (g:¬ (931≤r∧r≤974)):wordNo 8 r:=by unfold wordNo at *;omega
theorem wordNo_9 (r:Int) (h:wordNo 8 r) (g:¬ (1024≤r∧r≤1119)):wordNo 9 r:=by unfold wordNo at *;omega
theorem wordNo_end (r:Int) (h:wordNo 9 r):wordZ r=false:=by unfold wordNo at h;unfold wordZ;exact decide_eq_false (by omega)
theorem word_hit0 (r:Int) (g:48≤r∧r≤57):wordZ r=true:=by unfold wordZ;exact decide_eq_true (by omega)
theorem word_hit1 (r:Int) (g:65≤r∧r≤90):wordZ r=true:=by unfold wordZ;exact decide_eq_true (by omega)
theorem word_hit2 (r:Int) (g:97≤r∧r≤122):wordZ r=true:=by unfold wordZ;exact decide_eq_true (by omega)
theorem word_hit3 (r:Int) (g:192≤r∧r≤214):wordZ r=true:=by unfold wordZ;exact decide_eq_true (by omega)
theorem word_hit4 (r:Int) (g:216≤r∧r≤246):wordZ r=true:=by unfold wordZ;exact decide_eq_true (by omega)
theorem word_hit5 (r:Int) (g:248≤r∧r≤255):wordZ r=true:=by unfold wordZ;exact decide_eq_true (by omega)
theorem word_hit6 (r:Int) (g:913≤r∧r≤929):wordZ r=true:=by unfold wordZ;exact decide_eq_true (by omega)
theorem word_hit7 (r:Int) (g:931≤r∧r≤974):wordZ r=true:=by unfold wordZ;exact decide_eq_true (by omega)
theorem word_hit8 (r:Int) (g:1024≤r∧r≤1119):wordZ r=true:=by unfold wordZ;exact decide_eq_true (by omega)
theorem ret_int {k:IntKind} {a b:Int} (h:a=b):Ending.returned (.int k a)=.returned (.int k b):=by rw [h]
theorem ret_bool {a b:Bool} (h:a=b):Ending.returned (.bool a)=.returned (.bool b):=by rw [h]
end Go.Proofs.YtidhgicajlaafaaGreat.UM
namespace Go.Proofs.YtidhgicajlaafaaGreat.UM
open Go.RowKit
theorem rlower_any (r:Int) (w:World):Calls Tryz.prog 104 #[.int .i64 r] w fun e w'=>e=.returned (.int .i64 (lowerZ r))∧w=w':=by
 rcases (by omega:r≤64∨(65≤r∧r≤90)∨(91≤r∧r≤191)∨(192≤r∧r≤214)∨(215≤r∧r≤215)∨(216≤r∧r≤222)∨(223≤r∧r≤912)∨(913≤r∧r≤929)∨(930≤r∧r≤930)∨(931≤r∧r≤939)∨(940≤r∧r≤1023)∨(1024≤r∧r≤1039)∨(1040≤r∧r≤1071)∨1072≤r) with g | g | g | g | g | g | g | g | g | g | g | g | g | g
 all_goals
  first | (have q215:(r == 215)=false:=by simp;omega) | (have q215:(r == 215)=true:=by simp;omega)
  first | (have n215:(r != 215)=false:=by simp;omega) | (have n215:(r != 215)=true:=by simp;omega)
  first | (have q930:(r == 930)=false:=by simp;omega) | (have q930:(r == 930)=true:=by simp;omega)
  first | (have n930:(r != 930)=false:=by simp;omega) | (have n930:(r != 930)=true:=by simp;omega)
  first | (have a65:decide ((65:Int)≤r)=false:=by simp;omega) | (have a65:decide ((65:Int)≤r)=true:=by simp;omega)
  first | (have a192:decide ((192:Int)≤r)=false:=by simp;omega) | (have a192:decide ((192:Int)≤r)=true:=by simp;omega)
  first | (have a913:decide ((913:Int)≤r)=false:=by simp;omega) | (have a913:decide ((913:Int)≤r)=true:=by simp;omega)
  first | (have a1040:decide ((1040:Int)≤r)=false:=by simp;omega) | (have a1040:decide ((1040:Int)≤r)=true:=by simp;omega)
  first | (have a1024:decide ((1024:Int)≤r)=false:=by simp;omega) | (have a1024:decide ((1024:Int)≤r)=true:=by simp;omega)
  first | (have b90:decide (r≤(90:Int))=false:=by simp;omega) | (have b90:decide (r≤(90:Int))=true:=by simp;omega)
  first | (have b222:decide (r≤(222:Int))=false:=by simp;omega) | (have b222:decide (r≤(222:Int))=true:=by simp;omega)
  first | (have b939:decide (r≤(939:Int))=false:=by simp;omega) | (have b939:decide (r≤(939:Int))=true:=by simp;omega)
  first | (have b1071:decide (r≤(1071:Int))=false:=by simp;omega) | (have b1071:decide (r≤(1071:Int))=true:=by simp;omega)
  first | (have b1039:decide (r≤(1039:Int))=false:=by simp;omega) | (have b1039:decide (r≤(1039:Int))=true:=by simp;omega)
  try have z0:0≤r:=by omega
  try have z1:r≤2000:=by omega
  first | (have e:lowerZ r=r:=(by unfold lowerZ;omega);rw [e]) | (have e:lowerZ r=r+32:=(by unfold lowerZ;omega);rw [e]) | (have e:lowerZ r=r+80:=(by unfold lowerZ;omega);rw [e])
  clear e g
  go_enter Tryz.func104,Tryz.ntmps104
  go_wp2
  go_ret
  exact ⟨rfl,rfl⟩
theorem rword_any (r:Int) (w:World):Calls Tryz.prog 80 #[.int .i64 r] w fun e w'=>e=.returned (.bool (wordZ r))∧w=w':=by
 rcases (by omega:r≤47∨(48≤r∧r≤57)∨(58≤r∧r≤64)∨(65≤r∧r≤90)∨(91≤r∧r≤96)∨(97≤r∧r≤122)∨(123≤r∧r≤191)∨(192≤r∧r≤214)∨(215≤r∧r≤215)∨(216≤r∧r≤246)∨(247≤r∧r≤247)∨(248≤r∧r≤255)∨(256≤r∧r≤912)∨(913≤r∧r≤929)∨(930≤r∧r≤930)∨(931≤r∧r≤974)∨(975≤r∧r≤1023)∨(1024≤r∧r≤1119)∨1120≤r) with g | g | g | g | g | g | g | g | g | g | g | g | g | g | g | g | g | g | g
 all_goals
  first | (have q215:(r == 215)=false:=by simp;omega) | (have q215:(r == 215)=true:=by simp;omega)
  first | (have n215:(r != 215)=false:=by simp;omega) | (have n215:(r != 215)=true:=by simp;omega)
  first | (have q247:(r == 247)=false:=by simp;omega) | (have q247:(r == 247)=true:=by simp;omega)
  first | (have n247:(r != 247)=false:=by simp;omega) | (have n247:(r != 247)=true:=by simp;omega)
  first | (have q930:(r == 930)=false:=by simp;omega) | (have q930:(r == 930)=true:=by simp;omega)
  first | (have n930:(r != 930)=false:=by simp;omega) | (have n930:(r != 930)=true:=by simp;omega)
  first | (have a48:decide ((48:Int)≤r)=false:=by simp;omega) | (have a48:decide ((48:Int)≤r)=true:=by simp;omega)
  first | (have a65:decide ((65:Int)≤r)=false:=by simp;omega) | (have a65:decide ((65:Int)≤r)=true:=by simp;omega)
  first | (have a97:decide ((97:Int)≤r)=false:=by simp;omega) | (have a97:decide ((97:Int)≤r)=true:=by simp;omega)
  first | (have a192:decide ((192:Int)≤r)=false:=by simp;omega) | (have a192:decide ((192:Int)≤r)=true:=by simp;omega)
  first | (have a913:decide ((913:Int)≤r)=false:=by simp;omega) | (have a913:decide ((913:Int)≤r)=true:=by simp;omega)
  first | (have a1024:decide ((1024:Int)≤r)=false:=by simp;omega) | (have a1024:decide ((1024:Int)≤r)=true:=by simp;omega)
  first | (have b57:decide (r≤(57:Int))=false:=by simp;omega) | (have b57:decide (r≤(57:Int))=true:=by simp;omega)
  first | (have b90:decide (r≤(90:Int))=false:=by simp;omega) | (have b90:decide (r≤(90:Int))=true:=by simp;omega)
  first | (have b122:decide (r≤(122:Int))=false:=by simp;omega) | (have b122:decide (r≤(122:Int))=true:=by simp;omega)
  first | (have b255:decide (r≤(255:Int))=false:=by simp;omega) | (have b255:decide (r≤(255:Int))=true:=by simp;omega)
  first | (have b974:decide (r≤(974:Int))=false:=by simp;omega) | (have b974:decide (r≤(974:Int))=true:=by simp;omega)
  first | (have b1119:decide (r≤(1119:Int))=false:=by simp;omega) | (have b1119:decide (r≤(1119:Int))=true:=by simp;omega)
  first | (have e:wordZ r=false:=(by unfold wordZ;exact decide_eq_false (by omega));rw [e]) | (have e:wordZ r=true:=(by unfold wordZ;exact decide_eq_true (by omega));rw [e])
  clear e g
  go_enter Tryz.func80,Tryz.ntmps80
  go_wp2
  go_ret
  exact ⟨rfl,rfl⟩
end Go.Proofs.YtidhgicajlaafaaGreat.UM
