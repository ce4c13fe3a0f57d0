import Derived.Test.YtdfbkhpkffpckaaZA11
set_option maxRecDepth 100000
set_option maxHeartbeats 8000000
set_option linter.unusedVariables false
set_option linter.unusedSimpArgs false
namespace Go.Proofs.Ytdfbkhpkffpckaa.GM
open Go VM
open TK (wordsB wordsB_count)
open EM (Ev Tr Trm Fld Rising posOf termsE termsF placesT foldP foldP_perm places_len wordsN sizeF addP checkE)
open PM (Post isL)
open RM (rowsE rowsT pairsP pairsP_append termsE_ok termsE_bad termsE_ne rowsE_count)
theorem sizeF_cons (f:Fld) (r:List Fld):sizeF (f::r)=f.1.length+f.2.length+sizeF r:=by simp [sizeF]
theorem wordsN_le:∀ fs:List Fld,wordsN fs≤sizeF fs
 | []=>by simp [wordsN]
 | f::r=>by
   have h1:=wordsN_le r
   have h2:=wordsB_count f.2
   have e:wordsN (f::r)=(wordsB f.2).length+wordsN r:=by simp [wordsN]
   rw [e,sizeF_cons]
   omega
theorem places_cons {α:Type} (t:Tr α) (T:List (Tr α)):(placesT (t::T)).length=t.2.length+(placesT T).length:=by simp [placesT]
theorem len_places {α:Type}:∀ {T:List (Tr α)},(∀ t∈T,t.2≠[])→T.length≤(placesT T).length
 | [],_=>by simp
 | t::T,h=>by
   have h1:=len_places (T:=T) fun u hu=>h u (by simp [hu])
   have h2:=List.length_pos_iff.2 (h t (by simp))
   rw [places_cons,List.length_cons]
   omega
theorem termsE_places (e:Ev):(placesT (termsE e)).length≤wordsN e.2:=by
 by_cases h:checkE e=0
 ·rw [termsE_ok h,places_len];exact Nat.le_refl _
 ·rw [termsE_bad h];simp [placesT]
end Go.Proofs.Ytdfbkhpkffpckaa.GM
namespace Go.Proofs.Ytdfbkhpkffpckaa.UM
open Go.RowKit
theorem infoByte:(Try.prog.info? 5).map (fun i=>(i.zero,i.size,i.bytes))=some (some (.int .u8 0),1,1):=by kernel_rfl
theorem cells_norm (r:Int):Lib.runeCells (norm r)=Lib.runeCells r:=by unfold Lib.runeCells;rw [encodeRuneZ_norm]
def enco (r:Int):Int:=if r<0∨1114111<r then 65533 else r
theorem enco_cells (r:Int):Lib.runeCells (enco r)=Lib.runeCells r:=by
 unfold enco
 split
 ·rename_i h
  have:norm r=65533:=by unfold norm;rw [if_pos (by omega)]
  rw [← this,cells_norm]
 ·rfl
theorem enco_bd (r:Int) : -2147483648≤enco r∧enco r≤2147483647:=by unfold enco;split<;>omega
theorem encodable_any (r:Int) (w:World):Calls Try.prog 138 #[.int .i64 r] w fun e w'=>e=.returned (.int .i32 (enco r))∧w=w':=by
 unfold enco
 by_cases c1:r<0
 ·rw [if_pos (by omega)]
  go_enter Try.func138,Try.ntmps138
  go_wp2
  go_ret
  exact ⟨rfl,rfl⟩
 ·by_cases c2:1114111<r
  ·rw [if_pos (by omega)]
   go_enter Try.func138,Try.ntmps138
   go_wp2
   go_ret
   exact ⟨rfl,rfl⟩
  ·rw [if_neg (by omega)]
   have c3:0≤r:=by omega
   have c4:r≤1114111:=by omega
   go_enter Try.func138,Try.ntmps138
   go_wp2
   go_ret
   exact ⟨rfl,rfl⟩
end Go.Proofs.Ytdfbkhpkffpckaa.UM
namespace Go.Proofs.Ytdfbkhpkffpckaa.UM
open Go.RowKit
def lowNo (k:Nat) (r:Int):Prop:=(1≤k→¬ (65≤r∧r≤90))∧(2≤k→¬ (192≤r∧r≤214))∧(3≤k→¬ (216≤r∧r≤222))∧(4≤k→¬ (913≤r∧r≤929))∧(5≤k→¬ (931≤r∧r≤939))∧(6≤k→¬ (1024≤r∧r≤1039))∧(7≤k→¬ (1040≤r∧r≤1071))
theorem lowNo_zero (r:Int):lowNo 0 r:=by unfold lowNo;omega
theorem lowNo_1 (r:Int) (h:lowNo 0 r) (g:¬ (65≤r∧r≤90)):lowNo 1 r:=by unfold lowNo at *;omega
theorem lowNo_2 (r:Int) (h:lowNo 1 r) (g:¬ (192≤r∧r≤214)):lowNo 2 r:=by unfold lowNo at *;omega
theorem lowNo_3 (r:Int) (h:lowNo 2 r) (g:¬ (216≤r∧r≤222)):lowNo 3 r:=by unfold lowNo at *;omega
theorem lowNo_4 (r:Int) (h:lowNo 3 r) (g:¬ (913≤r∧r≤929)):lowNo 4 r:=by unfold lowNo at *;omega
theorem lowNo_5 (r:Int) (h:lowNo 4 r) (g:¬ (931≤r∧r≤939)):lowNo 5 r:=by unfold lowNo at *;omega
theorem lowNo_6 (r:Int) (h:lowNo 5 r) (g:¬ (1024≤r∧r≤1039)):lowNo 6 r:=by unfold lowNo at *;omega
theorem lowNo_7 (r:Int) (h:lowNo 6 r) (g:¬ (1040≤r∧r≤1071)):lowNo 7 r:=by unfold lowNo at *;omega
theorem lowNo_end (r:Int) (h:lowNo 7 r):lowerZ r=r:=by unfold lowNo at h;unfold lowerZ;(repeat' split)<;>omega
theorem low_hit0 (r:Int) (g:65≤r∧r≤90):lowerZ r=r+32:=by unfold lowerZ;(repeat' split)<;>omega
theorem low_hit1 (r:Int) (g:192≤r∧r≤214):lowerZ r=r+32:=by unfold lowerZ;(repeat' split)<;>omega
theorem low_hit2 (r:Int) (g:216≤r∧r≤222):lowerZ r=r+32:=by unfold lowerZ;(repeat' split)<;>omega
theorem low_hit3 (r:Int) (g:913≤r∧r≤929):lowerZ r=r+32:=by unfold lowerZ;(repeat' split)<;>omega
theorem low_hit4 (r:Int) (g:931≤r∧r≤939):lowerZ r=r+32:=by unfold lowerZ;(repeat' split)<;>omega
theorem low_hit5 (r:Int) (g:1024≤r∧r≤1039):lowerZ r=r+80:=by unfold lowerZ;(repeat' split)<;>omega
theorem low_hit6 (r:Int) (g:1040≤r∧r≤1071):lowerZ r=r+32:=by unfold lowerZ;(repeat' split)<;>omega
def wordNo (k:Nat) (r:Int):Prop:=(1≤k→¬ (48≤r∧r≤57))∧(2≤k→¬ (65≤r∧r≤90))∧(3≤k→¬ (97≤r∧r≤122))∧(4≤k→¬ (192≤r∧r≤214))∧(5≤k→¬ (216≤r∧r≤246))∧(6≤k→¬ (248≤r∧r≤255))∧(7≤k→¬ (913≤r∧r≤929))∧(8≤k→¬ (931≤r∧r≤974))∧(9≤k→¬ (1024≤r∧r≤1119))
theorem wordNo_zero (r:Int):wordNo 0 r:=by unfold wordNo;omega
theorem wordNo_1 (r:Int) (h:wordNo 0 r) (g:¬ (48≤r∧r≤57)):wordNo 1 r:=by unfold wordNo at *;omega
theorem wordNo_2 (r:Int) (h:wordNo 1 r) (g:¬ (65≤r∧r≤90)):wordNo 2 r:=by unfold wordNo at *;omega
theorem wordNo_3 (r:Int) (h:wordNo 2 r) (g:¬ (97≤r∧r≤122)):wordNo 3 r:=by unfold wordNo at *;omega
theorem wordNo_4 (r:Int) (h:wordNo 3 r) (g:¬ (192≤r∧r≤214)):wordNo 4 r:=by unfold wordNo at *;omega
theorem wordNo_5 (r:Int) (h:wordNo 4 r) (g:¬ (216≤r∧r≤246)):wordNo 5 r:=by unfold wordNo at *;omega
theorem wordNo_6 (r:Int) (h:wordNo 5 r) (g:¬ (248≤r∧r≤255)):wordNo 6 r:=by unfold wordNo at *;omega
theorem wordNo_7 (r:Int) (h:wordNo 6 r) (g:¬ (913≤r∧r≤929)):wordNo 7 r:=by unfold wordNo at *;omega
theorem wordNo_8 (r:Int) (h:wordNo 7 r) (g:¬ (931≤r∧r≤974)):wordNo 8 r:=by unfold wordNo at *;omega
theorem wordNo_9 (r:Int) (h:wordNo 8 r) (g:¬ (1024≤r∧r≤1119)):wordNo 9 r:=by unfold wordNo at *;omega
theorem wordNo_end (r:Int) (h:wordNo 9 r):wordZ r=false:=by unfold wordNo at h;unfold wordZ;exact decide_eq_false (by omega)
theorem word_hit0 (r:Int) (g:48≤r∧r≤57):wordZ r=true:=by unfold wordZ;exact decide_eq_true (by omega)
theorem word_hit1 (r:Int) (g:65≤r∧r≤90):wordZ r=true:=by unfold wordZ;exact decide_eq_true (by omega)
theorem word_hit2 (r:Int) (g:97≤r∧r≤122):wordZ r=true:=by unfold wordZ;exact decide_eq_true (by omega)
theorem word_hit3 (r:Int) (g:192≤r∧r≤214):wordZ r=true:=by unfold wordZ;exact decide_eq_true (by omega)
theorem word_hit4 (r:Int) (g:216≤r∧r≤246):wordZ r=true:=by unfold wordZ;exact decide_eq_true (by omega)
theorem word_hit5 (r:Int) (g:248≤r∧r≤255):wordZ r=true:=by unfold wordZ;exact decide_eq_true (by omega)
theorem word_hit6 (r:Int) (g:913≤r∧r≤929):wordZ r=true:=by unfold wordZ;exact decide_eq_true (by omega)
theorem word_hit7 (r:Int) (g:931≤r∧r≤974):wordZ r=true:=by unfold wordZ;exact decide_eq_true (by omega)
theorem word_hit8 (r:Int) (g:1024≤r∧r≤1119):wordZ r=true:=by unfold wordZ;exact decide_eq_true (by omega)
theorem ret_int {k:IntKind} {a b:Int} (h:a=b):Ending.returned (.int k a)=.returned (.int k b):=by rw [h]
theorem ret_bool {a b:Bool} (h:a=b):Ending.returned (.bool a)=.returned (.bool b):=by rw [h]
end Go.Proofs.Ytdfbkhpkffpckaa.UM
namespace Go.Proofs.Ytdfbkhpkffpckaa.UM
open Go.RowKit
theorem lower_ix0 (w:World):(Instr.index 192 (.agg #[.int .i64 65,.int .i64 90,.int .i64 32,.int .i64 192,.int .i64 214,.int .i64 32,.int .i64 216,.int .i64 222,.int .i64 32,.int .i64 913,.int .i64 929,.int .i64 32,.int .i64 931,.int .i64 939,.int .i64 32,.int .i64 1024,.int .i64 1039,.int .i64 80,.int .i64 1040,.int .i64 1071,.int .i64 32]) (.int .i64 0)).run Try.prog w=.ok (.agg #[.int .i64 65,.int .i64 90,.int .i64 32]) w:=by kernel_rfl
theorem lower_ix1 (w:World):(Instr.index 192 (.agg #[.int .i64 65,.int .i64 90,.int .i64 32,.int .i64 192,.int .i64 214,.int .i64 32,.int .i64 216,.int .i64 222,.int .i64 32,.int .i64 913,.int .i64 929,.int .i64 32,.int .i64 931,.int .i64 939,.int .i64 32,.int .i64 1024,.int .i64 1039,.int .i64 80,.int .i64 1040,.int .i64 1071,.int .i64 32]) (.int .i64 1)).run Try.prog w=.ok (.agg #[.int .i64 192,.int .i64 214,.int .i64 32]) w:=by kernel_rfl
theorem lower_ix2 (w:World):(Instr.index 192 (.agg #[.int .i64 65,.int .i64 90,.int .i64 32,.int .i64 192,.int .i64 214,.int .i64 32,.int .i64 216,.int .i64 222,.int .i64 32,.int .i64 913,.int .i64 929,.int .i64 32,.int .i64 931,.int .i64 939,.int .i64 32,.int .i64 1024,.int .i64 1039,.int .i64 80,.int .i64 1040,.int .i64 1071,.int .i64 32]) (.int .i64 2)).run Try.prog w=.ok (.agg #[.int .i64 216,.int .i64 222,.int .i64 32]) w:=by kernel_rfl
theorem lower_ix3 (w:World):(Instr.index 192 (.agg #[.int .i64 65,.int .i64 90,.int .i64 32,.int .i64 192,.int .i64 214,.int .i64 32,.int .i64 216,.int .i64 222,.int .i64 32,.int .i64 913,.int .i64 929,.int .i64 32,.int .i64 931,.int .i64 939,.int .i64 32,.int .i64 1024,.int .i64 1039,.int .i64 80,.int .i64 1040,.int .i64 1071,.int .i64 32]) (.int .i64 3)).run Try.prog w=.ok (.agg #[.int .i64 913,.int .i64 929,.int .i64 32]) w:=by kernel_rfl
theorem lower_ix4 (w:World):(Instr.index 192 (.agg #[.int .i64 65,.int .i64 90,.int .i64 32,.int .i64 192,.int .i64 214,.int .i64 32,.int .i64 216,.int .i64 222,.int .i64 32,.int .i64 913,.int .i64 929,.int .i64 32,.int .i64 931,.int .i64 939,.int .i64 32,.int .i64 1024,.int .i64 1039,.int .i64 80,.int .i64 1040,.int .i64 1071,.int .i64 32]) (.int .i64 4)).run Try.prog w=.ok (.agg #[.int .i64 931,.int .i64 939,.int .i64 32]) w:=by kernel_rfl
theorem lower_ix5 (w:World):(Instr.index 192 (.agg #[.int .i64 65,.int .i64 90,.int .i64 32,.int .i64 192,.int .i64 214,.int .i64 32,.int .i64 216,.int .i64 222,.int .i64 32,.int .i64 913,.int .i64 929,.int .i64 32,.int .i64 931,.int .i64 939,.int .i64 32,.int .i64 1024,.int .i64 1039,.int .i64 80,.int .i64 1040,.int .i64 1071,.int .i64 32]) (.int .i64 5)).run Try.prog w=.ok (.agg #[.int .i64 1024,.int .i64 1039,.int .i64 80]) w:=by kernel_rfl
theorem lower_ix6 (w:World):(Instr.index 192 (.agg #[.int .i64 65,.int .i64 90,.int .i64 32,.int .i64 192,.int .i64 214,.int .i64 32,.int .i64 216,.int .i64 222,.int .i64 32,.int .i64 913,.int .i64 929,.int .i64 32,.int .i64 931,.int .i64 939,.int .i64 32,.int .i64 1024,.int .i64 1039,.int .i64 80,.int .i64 1040,.int .i64 1071,.int .i64 32]) (.int .i64 6)).run Try.prog w=.ok (.agg #[.int .i64 1040,.int .i64 1071,.int .i64 32]) w:=by kernel_rfl
theorem lower_any (r:Int) (w:World):Calls Try.prog 135 #[.int .i64 r] w fun e w'=>e=.returned (.int .i64 (lowerZ r))∧Below w.heap.size w w':=by
 go_enter Try.func135,Try.ntmps135
 go_wp2
 go_loopw [13] (fun i wr=>∃ k:Nat,k≤7∧i=.int .i64 k∧lowNo k r∧Below w.heap.size w wr) (fun i _=>7 - (intOf i).toNat)
 case atStart=>exact ⟨0,by omega,rfl,lowNo_zero r,Below.refl _ _⟩
 case round =>
  obtain ⟨k,hk,rfl,hno,hb⟩:=hrel
  have hsz:=hb.size
  have hk2:k=0∨k=1∨k=2∨k=3∨k=4∨k=5∨k=6∨k=7:=by omega
  rcases hk2 with rfl | rfl | rfl | rfl | rfl | rfl | rfl | rfl
  ·have hix:=lower_ix0
   by_cases g:65≤r∧r≤90
   ·have e:=low_hit0 r g
    obtain ⟨g0,g1⟩:=g
    have E:=Lib.hid e
    clear e hno
    go_wp2
    go_ret
    exact ⟨ret_int (by rw [E.out]),hb.alloc hsz _⟩
   ·have hno2:=lowNo_1 r hno g
    clear hno
    by_cases g0:65≤r
    ·have g1:¬ r≤90:=by omega
     clear g
     go_wp2
     go_roundw
     case rel=>exact ⟨1,by omega,by go_num,hno2,hb.alloc hsz _⟩
     case measure=>simp [intOf]
    ·clear g
     go_wp2
     go_roundw
     case rel=>exact ⟨1,by omega,by go_num,hno2,hb.alloc hsz _⟩
     case measure=>simp [intOf]
  ·have hix:=lower_ix1
   by_cases g:192≤r∧r≤214
   ·have e:=low_hit1 r g
    obtain ⟨g0,g1⟩:=g
    have E:=Lib.hid e
    clear e hno
    go_wp2
    go_ret
    exact ⟨ret_int (by rw [E.out]),hb.alloc hsz _⟩
   ·have hno2:=lowNo_2 r hno g
    clear hno
    by_cases g0:192≤r
    ·have g1:¬ r≤214:=by omega
     clear g
     go_wp2
     go_roundw
     case rel=>exact ⟨2,by omega,by go_num,hno2,hb.alloc hsz _⟩
     case measure=>simp [intOf]
    ·clear g
     go_wp2
     go_roundw
     case rel=>exact ⟨2,by omega,by go_num,hno2,hb.alloc hsz _⟩
     case measure=>simp [intOf]
  ·have hix:=lower_ix2
   by_cases g:216≤r∧r≤222
   ·have e:=low_hit2 r g
    obtain ⟨g0,g1⟩:=g
    have E:=Lib.hid e
    clear e hno
    go_wp2
    go_ret
    exact ⟨ret_int (by rw [E.out]),hb.alloc hsz _⟩
   ·have hno2:=lowNo_3 r hno g
    clear hno
    by_cases g0:216≤r
    ·have g1:¬ r≤222:=by omega
     clear g
     go_wp2
     go_roundw
     case rel=>exact ⟨3,by omega,by go_num,hno2,hb.alloc hsz _⟩
     case measure=>simp [intOf]
    ·clear g
     go_wp2
     go_roundw
     case rel=>exact ⟨3,by omega,by go_num,hno2,hb.alloc hsz _⟩
     case measure=>simp [intOf]
  ·have hix:=lower_ix3
   by_cases g:913≤r∧r≤929
   ·have e:=low_hit3 r g
    obtain ⟨g0,g1⟩:=g
    have E:=Lib.hid e
    clear e hno
    go_wp2
    go_ret
    exact ⟨ret_int (by rw [E.out]),hb.alloc hsz _⟩
   ·have hno2:=lowNo_4 r hno g
    clear hno
    by_cases g0:913≤r
    ·have g1:¬ r≤929:=by omega
     clear g
     go_wp2
     go_roundw
     case rel=>exact ⟨4,by omega,by go_num,hno2,hb.alloc hsz _⟩
     case measure=>simp [intOf]
    ·clear g
     go_wp2
     go_roundw
     case rel=>exact ⟨4,by omega,by go_num,hno2,hb.alloc hsz _⟩
     case measure=>simp [intOf]
  ·have hix:=lower_ix4
   by_cases g:931≤r∧r≤939
   ·have e:=low_hit4 r g
    obtain ⟨g0,g1⟩:=g
    have E:=Lib.hid e
    clear e hno
    go_wp2
    go_ret
    exact ⟨ret_int (by rw [E.out]),hb.alloc hsz _⟩
   ·have hno2:=lowNo_5 r hno g
    clear hno
    by_cases g0:931≤r
    ·have g1:¬ r≤939:=by omega
     clear g
     go_wp2
     go_roundw
     case rel=>exact ⟨5,by omega,by go_num,hno2,hb.alloc hsz _⟩
     case measure=>simp [intOf]
    ·clear g
     go_wp2
     go_roundw
     case rel=>exact ⟨5,by omega,by go_num,hno2,hb.alloc hsz _⟩
     case measure=>simp [intOf]
  ·have hix:=lower_ix5
   by_cases g:1024≤r∧r≤1039
   ·have e:=low_hit5 r g
    obtain ⟨g0,g1⟩:=g
    have E:=Lib.hid e
    clear e hno
    go_wp2
    go_ret
    exact ⟨ret_int (by rw [E.out]),hb.alloc hsz _⟩
   ·have hno2:=lowNo_6 r hno g
    clear hno
    by_cases g0:1024≤r
    ·have g1:¬ r≤1039:=by omega
     clear g
     go_wp2
     go_roundw
     case rel=>exact ⟨6,by omega,by go_num,hno2,hb.alloc hsz _⟩
     case measure=>simp [intOf]
    ·clear g
     go_wp2
     go_roundw
     case rel=>exact ⟨6,by omega,by go_num,hno2,hb.alloc hsz _⟩
     case measure=>simp [intOf]
  ·have hix:=lower_ix6
   by_cases g:1040≤r∧r≤1071
   ·have e:=low_hit6 r g
    obtain ⟨g0,g1⟩:=g
    have E:=Lib.hid e
    clear e hno
    go_wp2
    go_ret
    exact ⟨ret_int (by rw [E.out]),hb.alloc hsz _⟩
   ·have hno2:=lowNo_7 r hno g
    clear hno
    by_cases g0:1040≤r
    ·have g1:¬ r≤1071:=by omega
     clear g
     go_wp2
     go_roundw
     case rel=>exact ⟨7,by omega,by go_num,hno2,hb.alloc hsz _⟩
     case measure=>simp [intOf]
    ·clear g
     go_wp2
     go_roundw
     case rel=>exact ⟨7,by omega,by go_num,hno2,hb.alloc hsz _⟩
     case measure=>simp [intOf]
  ·have e:=lowNo_end r hno
   have E:=Lib.hid e
   clear e hno
   go_wp2
   go_ret
   exact ⟨ret_int (by rw [E.out]),hb⟩
end Go.Proofs.Ytdfbkhpkffpckaa.UM
