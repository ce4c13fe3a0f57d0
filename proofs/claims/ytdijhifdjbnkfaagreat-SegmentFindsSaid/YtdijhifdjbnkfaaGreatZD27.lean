import Derived.Test.YtdijhifdjbnkfaaGreatZD8
set_option maxRecDepth 100000
set_option maxHeartbeats 8000000
set_option linter.unusedVariables false
set_option linter.unusedSimpArgs false
namespace Go.Proofs.YtdijhifdjbnkfaaGreat.UM
open Go.RowKit
theorem ZtF (r:Int) (w:World) (g1:r≤64):Calls Tryz.prog 180 #[.int .i64 r] w fun e w'=>e=.returned (.int .i64 (r))∧w=w':=by
 have q215:(r == 215)=false:=by simp;omega
 have n215:(r != 215)=true:=by simp;omega
 have q930:(r == 930)=false:=by simp;omega
 have n930:(r != 930)=true:=by simp;omega
 have a65:decide ((65:Int)≤r)=false:=by simp;omega
 have a192:decide ((192:Int)≤r)=false:=by simp;omega
 have a913:decide ((913:Int)≤r)=false:=by simp;omega
 have a1040:decide ((1040:Int)≤r)=false:=by simp;omega
 have a1024:decide ((1024:Int)≤r)=false:=by simp;omega
 have b90:decide (r≤(90:Int))=true:=by simp;omega
 have b222:decide (r≤(222:Int))=true:=by simp;omega
 have b939:decide (r≤(939:Int))=true:=by simp;omega
 have b1071:decide (r≤(1071:Int))=true:=by simp;omega
 have b1039:decide (r≤(1039:Int))=true:=by simp;omega
 clear g1
 go_enter Tryz.func180,Tryz.ntmps180
 go_wp2
 go_ret
 exact ⟨rfl,rfl⟩
theorem ZtG (r:Int) (w:World) (g0:65≤r) (g1:r≤90):Calls Tryz.prog 180 #[.int .i64 r] w fun e w'=>e=.returned (.int .i64 (r+32))∧w=w':=by
 have q215:(r == 215)=false:=by simp;omega
 have n215:(r != 215)=true:=by simp;omega
 have q930:(r == 930)=false:=by simp;omega
 have n930:(r != 930)=true:=by simp;omega
 have a65:decide ((65:Int)≤r)=true:=by simp;omega
 have a192:decide ((192:Int)≤r)=false:=by simp;omega
 have a913:decide ((913:Int)≤r)=false:=by simp;omega
 have a1040:decide ((1040:Int)≤r)=false:=by simp;omega
 have a1024:decide ((1024:Int)≤r)=false:=by simp;omega
 have b90:decide (r≤(90:Int))=true:=by simp;omega
 have b222:decide (r≤(222:Int))=true:=by simp;omega
 have b939:decide (r≤(939:Int))=true:=by simp;omega
 have b1071:decide (r≤(1071:Int))=true:=by simp;omega
 have b1039:decide (r≤(1039:Int))=true:=by simp;omega
 have z0:0≤r:=by omega
 have z1:r≤2000:=by omega
 clear g0 g1
 go_enter Tryz.func180,Tryz.ntmps180
 go_wp2
 go_ret
 exact ⟨rfl,rfl⟩
theorem ZtL (r:Int) (w:World) (g0:91≤r) (g1:r≤191):Calls Tryz.prog 180 #[.int .i64 r] w fun e w'=>e=.returned (.int .i64 (r))∧w=w':=by
 have q215:(r == 215)=false:=by simp;omega
 have n215:(r != 215)=true:=by simp;omega
 have q930:(r == 930)=false:=by simp;omega
 have n930:(r != 930)=true:=by simp;omega
 have a65:decide ((65:Int)≤r)=true:=by simp;omega
 have a192:decide ((192:Int)≤r)=false:=by simp;omega
 have a913:decide ((913:Int)≤r)=false:=by simp;omega
 have a1040:decide ((1040:Int)≤r)=false:=by simp;omega
 have a1024:decide ((1024:Int)≤r)=false:=by simp;omega
 have b90:decide (r≤(90:Int))=false:=by simp;omega
 have b222:decide (r≤(222:Int))=true:=by simp;omega
 have b939:decide (r≤(939:Int))=true:=by simp;omega
 have b1071:decide (r≤(1071:Int))=true:=by simp;omega
 have b1039:decide (r≤(1039:Int))=true:=by simp;omega
 clear g0 g1
 go_enter Tryz.func180,Tryz.ntmps180
 go_wp2
 go_ret
 exact ⟨rfl,rfl⟩
theorem ZtM (r:Int) (w:World) (g0:192≤r) (g1:r≤214):Calls Tryz.prog 180 #[.int .i64 r] w fun e w'=>e=.returned (.int .i64 (r+32))∧w=w':=by
 have q215:(r == 215)=false:=by simp;omega
 have n215:(r != 215)=true:=by simp;omega
 have q930:(r == 930)=false:=by simp;omega
 have n930:(r != 930)=true:=by simp;omega
 have a65:decide ((65:Int)≤r)=true:=by simp;omega
 have a192:decide ((192:Int)≤r)=true:=by simp;omega
 have a913:decide ((913:Int)≤r)=false:=by simp;omega
 have a1040:decide ((1040:Int)≤r)=false:=by simp;omega
 have a1024:decide ((1024:Int)≤r)=false:=by simp;omega
 have b90:decide (r≤(90:Int))=false:=by simp;omega
 have b222:decide (r≤(222:Int))=true:=by simp;omega
 have b939:decide (r≤(939:Int))=true:=by simp;omega
 have b1071:decide (r≤(1071:Int))=true:=by simp;omega
 have b1039:decide (r≤(1039:Int))=true:=by simp;omega
 have z0:0≤r:=by omega
 have z1:r≤2000:=by omega
 clear g0 g1
 go_enter Tryz.func180,Tryz.ntmps180
 go_wp2
 go_ret
 exact ⟨rfl,rfl⟩
theorem ZtN (r:Int) (w:World) (g0:215≤r) (g1:r≤215):Calls Tryz.prog 180 #[.int .i64 r] w fun e w'=>e=.returned (.int .i64 (r))∧w=w':=by
 have q215:(r == 215)=true:=by simp;omega
 have n215:(r != 215)=false:=by simp;omega
 have q930:(r == 930)=false:=by simp;omega
 have n930:(r != 930)=true:=by simp;omega
 have a65:decide ((65:Int)≤r)=true:=by simp;omega
 have a192:decide ((192:Int)≤r)=true:=by simp;omega
 have a913:decide ((913:Int)≤r)=false:=by simp;omega
 have a1040:decide ((1040:Int)≤r)=false:=by simp;omega
 have a1024:decide ((1024:Int)≤r)=false:=by simp;omega
 have b90:decide (r≤(90:Int))=false:=by simp;omega
 have b222:decide (r≤(222:Int))=true:=by simp;omega
 have b939:decide (r≤(939:Int))=true:=by simp;omega
 have b1071:decide (r≤(1071:Int))=true:=by simp;omega
 have b1039:decide (r≤(1039:Int))=true:=by simp;omega
 clear g0 g1
 go_enter Tryz.func180,Tryz.ntmps180
 go_wp2
 go_ret
 exact ⟨rfl,rfl⟩
theorem ZtO (r:Int) (w:World) (g0:216≤r) (g1:r≤222):Calls Tryz.prog 180 #[.int .i64 r] w fun e w'=>e=.returned (.int .i64 (r+32))∧w=w':=by
 have q215:(r == 215)=false:=by simp;omega
 have n215:(r != 215)=true:=by simp;omega
 have q930:(r == 930)=false:=by simp;omega
 have n930:(r != 930)=true:=by simp;omega
 have a65:decide ((65:Int)≤r)=true:=by simp;omega
 have a192:decide ((192:Int)≤r)=true:=by simp;omega
 have a913:decide ((913:Int)≤r)=false:=by simp;omega
 have a1040:decide ((1040:Int)≤r)=false:=by simp;omega
 have a1024:decide ((1024:Int)≤r)=false:=by simp;omega
 have b90:decide (r≤(90:Int))=false:=by simp;omega
 have b222:decide (r≤(222:Int))=true:=by simp;omega
 have b939:decide (r≤(939:Int))=true:=by simp;omega
 have b1071:decide (r≤(1071:Int))=true:=by simp;omega
 have b1039:decide (r≤(1039:Int))=true:=by simp;omega
 have z0:0≤r:=by omega
 have z1:r≤2000:=by omega
 clear g0 g1
 go_enter Tryz.func180,Tryz.ntmps180
 go_wp2
 go_ret
 exact ⟨rfl,rfl⟩
theorem ZtP (r:Int) (w:World) (g0:223≤r) (g1:r≤912):Calls Tryz.prog 180 #[.int .i64 r] w fun e w'=>e=.returned (.int .i64 (r))∧w=w':=by
 have q215:(r == 215)=false:=by simp;omega
 have n215:(r != 215)=true:=by simp;omega
 have q930:(r == 930)=false:=by simp;omega
 have n930:(r != 930)=true:=by simp;omega
 have a65:decide ((65:Int)≤r)=true:=by simp;omega
 have a192:decide ((192:Int)≤r)=true:=by simp;omega
 have a913:decide ((913:Int)≤r)=false:=by simp;omega
 have a1040:decide ((1040:Int)≤r)=false:=by simp;omega
 have a1024:decide ((1024:Int)≤r)=false:=by simp;omega
 have b90:decide (r≤(90:Int))=false:=by simp;omega
 have b222:decide (r≤(222:Int))=false:=by simp;omega
 have b939:decide (r≤(939:Int))=true:=by simp;omega
 have b1071:decide (r≤(1071:Int))=true:=by simp;omega
 have b1039:decide (r≤(1039:Int))=true:=by simp;omega
 clear g0 g1
 go_enter Tryz.func180,Tryz.ntmps180
 go_wp2
 go_ret
 exact ⟨rfl,rfl⟩
theorem ZtQ (r:Int) (w:World) (g0:913≤r) (g1:r≤929):Calls Tryz.prog 180 #[.int .i64 r] w fun e w'=>e=.returned (.int .i64 (r+32))∧w=w':=by
 have q215:(r == 215)=false:=by simp;omega
 have n215:(r != 215)=true:=by simp;omega
 have q930:(r == 930)=false:=by simp;omega
 have n930:(r != 930)=true:=by simp;omega
 have a65:decide ((65:Int)≤r)=true:=by simp;omega
 have a192:decide ((192:Int)≤r)=true:=by simp;omega
 have a913:decide ((913:Int)≤r)=true:=by simp;omega
 have a1040:decide ((1040:Int)≤r)=false:=by simp;omega
 have a1024:decide ((1024:Int)≤r)=false:=by simp;omega
 have b90:decide (r≤(90:Int))=false:=by simp;omega
 have b222:decide (r≤(222:Int))=false:=by simp;omega
 have b939:decide (r≤(939:Int))=true:=by simp;omega
 have b1071:decide (r≤(1071:Int))=true:=by simp;omega
 have b1039:decide (r≤(1039:Int))=true:=by simp;omega
 have z0:0≤r:=by omega
 have z1:r≤2000:=by omega
 clear g0 g1
 go_enter Tryz.func180,Tryz.ntmps180
 go_wp2
 go_ret
 exact ⟨rfl,rfl⟩
theorem ZtR (r:Int) (w:World) (g0:930≤r) (g1:r≤930):Calls Tryz.prog 180 #[.int .i64 r] w fun e w'=>e=.returned (.int .i64 (r))∧w=w':=by
 have q215:(r == 215)=false:=by simp;omega
 have n215:(r != 215)=true:=by simp;omega
 have q930:(r == 930)=true:=by simp;omega
 have n930:(r != 930)=false:=by simp;omega
 have a65:decide ((65:Int)≤r)=true:=by simp;omega
 have a192:decide ((192:Int)≤r)=true:=by simp;omega
 have a913:decide ((913:Int)≤r)=true:=by simp;omega
 have a1040:decide ((1040:Int)≤r)=false:=by simp;omega
 have a1024:decide ((1024:Int)≤r)=false:=by simp;omega
 have b90:decide (r≤(90:Int))=false:=by simp;omega
 have b222:decide (r≤(222:Int))=false:=by simp;omega
 have b939:decide (r≤(939:Int))=true:=by simp;omega
 have b1071:decide (r≤(1071:Int))=true:=by simp;omega
 have b1039:decide (r≤(1039:Int))=true:=by simp;omega
 clear g0 g1
 go_enter Tryz.func180,Tryz.ntmps180
 go_wp2
 go_ret
 exact ⟨rfl,rfl⟩
theorem ZtS (r:Int) (w:World) (g0:931≤r) (g1:r≤939):Calls Tryz.prog 180 #[.int .i64 r] w fun e w'=>e=.returned (.int .i64 (r+32))∧w=w':=by
 have q215:(r == 215)=false:=by simp;omega
 have n215:(r != 215)=true:=by simp;omega
 have q930:(r == 930)=false:=by simp;omega
 have n930:(r != 930)=true:=by simp;omega
 have a65:decide ((65:Int)≤r)=true:=by simp;omega
 have a192:decide ((192:Int)≤r)=true:=by simp;omega
 have a913:decide ((913:Int)≤r)=true:=by simp;omega
 have a1040:decide ((1040:Int)≤r)=false:=by simp;omega
 have a1024:decide ((1024:Int)≤r)=false:=by simp;omega
 have b90:decide (r≤(90:Int))=false:=by simp;omega
 have b222:decide (r≤(222:Int))=false:=by simp;omega
 have b939:decide (r≤(939:Int))=true:=by simp;omega
 have b1071:decide (r≤(1071:Int))=true:=by simp;omega
 have b1039:decide (r≤(1039:Int))=true:=by simp;omega
 have z0:0≤r:=by omega
 have z1:r≤2000:=by omega
 clear g0 g1
 go_enter Tryz.func180,Tryz.ntmps180
 go_wp2
 go_ret
 exact ⟨rfl,rfl⟩
theorem ZtH (r:Int) (w:World) (g0:940≤r) (g1:r≤1023):Calls Tryz.prog 180 #[.int .i64 r] w fun e w'=>e=.returned (.int .i64 (r))∧w=w':=by
 have q215:(r == 215)=false:=by simp;omega
 have n215:(r != 215)=true:=by simp;omega
 have q930:(r == 930)=false:=by simp;omega
 have n930:(r != 930)=true:=by simp;omega
 have a65:decide ((65:Int)≤r)=true:=by simp;omega
 have a192:decide ((192:Int)≤r)=true:=by simp;omega
 have a913:decide ((913:Int)≤r)=true:=by simp;omega
 have a1040:decide ((1040:Int)≤r)=false:=by simp;omega
 have a1024:decide ((1024:Int)≤r)=false:=by simp;omega
 have b90:decide (r≤(90:Int))=false:=by simp;omega
 have b222:decide (r≤(222:Int))=false:=by simp;omega
 have b939:decide (r≤(939:Int))=false:=by simp;omega
 have b1071:decide (r≤(1071:Int))=true:=by simp;omega
 have b1039:decide (r≤(1039:Int))=true:=by simp;omega
 clear g0 g1
 go_enter Tryz.func180,Tryz.ntmps180
 go_wp2
 go_ret
 exact ⟨rfl,rfl⟩
theorem ZtI (r:Int) (w:World) (g0:1024≤r) (g1:r≤1039):Calls Tryz.prog 180 #[.int .i64 r] w fun e w'=>e=.returned (.int .i64 (r+80))∧w=w':=by
 have q215:(r == 215)=false:=by simp;omega
 have n215:(r != 215)=true:=by simp;omega
 have q930:(r == 930)=false:=by simp;omega
 have n930:(r != 930)=true:=by simp;omega
 have a65:decide ((65:Int)≤r)=true:=by simp;omega
 have a192:decide ((192:Int)≤r)=true:=by simp;omega
 have a913:decide ((913:Int)≤r)=true:=by simp;omega
 have a1040:decide ((1040:Int)≤r)=false:=by simp;omega
 have a1024:decide ((1024:Int)≤r)=true:=by simp;omega
 have b90:decide (r≤(90:Int))=false:=by simp;omega
 have b222:decide (r≤(222:Int))=false:=by simp;omega
 have b939:decide (r≤(939:Int))=false:=by simp;omega
 have b1071:decide (r≤(1071:Int))=true:=by simp;omega
 have b1039:decide (r≤(1039:Int))=true:=by simp;omega
 have z0:0≤r:=by omega
 have z1:r≤2000:=by omega
 clear g0 g1
 go_enter Tryz.func180,Tryz.ntmps180
 go_wp2
 go_ret
 exact ⟨rfl,rfl⟩
theorem ZtJ (r:Int) (w:World) (g0:1040≤r) (g1:r≤1071):Calls Tryz.prog 180 #[.int .i64 r] w fun e w'=>e=.returned (.int .i64 (r+32))∧w=w':=by
 have q215:(r == 215)=false:=by simp;omega
 have n215:(r != 215)=true:=by simp;omega
 have q930:(r == 930)=false:=by simp;omega
 have n930:(r != 930)=true:=by simp;omega
 have a65:decide ((65:Int)≤r)=true:=by simp;omega
 have a192:decide ((192:Int)≤r)=true:=by simp;omega
 have a913:decide ((913:Int)≤r)=true:=by simp;omega
 have a1040:decide ((1040:Int)≤r)=true:=by simp;omega
 have a1024:decide ((1024:Int)≤r)=true:=by simp;omega
 have b90:decide (r≤(90:Int))=false:=by simp;omega
 have b222:decide (r≤(222:Int))=false:=by simp;omega
 have b939:decide (r≤(939:Int))=false:=by simp;omega
 have b1071:decide (r≤(1071:Int))=true:=by simp;omega
 have b1039:decide (r≤(1039:Int))=false:=by simp;omega
 have z0:0≤r:=by omega
 have z1:r≤2000:=by omega
 clear g0 g1
 go_enter Tryz.func180,Tryz.ntmps180
 go_wp2
 go_ret
 exact ⟨rfl,rfl⟩
theorem ZtK (r:Int) (w:World) (g0:1072≤r):Calls Tryz.prog 180 #[.int .i64 r] w fun e w'=>e=.returned (.int .i64 (r))∧w=w':=by
 have q215:(r == 215)=false:=by simp;omega
 have n215:(r != 215)=true:=by simp;omega
 have q930:(r == 930)=false:=by simp;omega
 have n930:(r != 930)=true:=by simp;omega
 have a65:decide ((65:Int)≤r)=true:=by simp;omega
 have a192:decide ((192:Int)≤r)=true:=by simp;omega
 have a913:decide ((913:Int)≤r)=true:=by simp;omega
 have a1040:decide ((1040:Int)≤r)=true:=by simp;omega
 have a1024:decide ((1024:Int)≤r)=true:=by simp;omega
 have b90:decide (r≤(90:Int))=false:=by simp;omega
 have b222:decide (r≤(222:Int))=false:=by simp;omega
 have b939:decide (r≤(939:Int))=false:=by simp;omega
 have b1071:decide (r≤(1071:Int))=false:=by simp;omega
 have b1039:decide (r≤(1039:Int))=false:=by simp;omega
 clear g0
 go_enter Tryz.func180,Tryz.ntmps180
 go_wp2
 go_ret
 exact ⟨rfl,rfl⟩
theorem ZtT (r:Int) (w:World):Calls Tryz.prog 180 #[.int .i64 r] w fun e w'=>e=.returned (.int .i64 (Zn1 r))∧w=w':=by
 by_cases g0:r≤64
 ·have e:Zn1 r=r:=by unfold Zn1;(repeat' split)<;>omega
  rw [e]
  exact ZtF r w (by omega)
 by_cases g1:65≤r∧r≤90
 ·have e:Zn1 r=r+32:=by unfold Zn1;(repeat' split)<;>omega
  rw [e]
  exact ZtG r w (by omega) (by omega)
 by_cases g2:91≤r∧r≤191
 ·have e:Zn1 r=r:=by unfold Zn1;(repeat' split)<;>omega
  rw [e]
  exact ZtL r w (by omega) (by omega)
 by_cases g3:192≤r∧r≤214
 ·have e:Zn1 r=r+32:=by unfold Zn1;(repeat' split)<;>omega
  rw [e]
  exact ZtM r w (by omega) (by omega)
 by_cases g4:215≤r∧r≤215
 ·have e:Zn1 r=r:=by unfold Zn1;(repeat' split)<;>omega
  rw [e]
  exact ZtN r w (by omega) (by omega)
 by_cases g5:216≤r∧r≤222
 ·have e:Zn1 r=r+32:=by unfold Zn1;(repeat' split)<;>omega
  rw [e]
  exact ZtO r w (by omega) (by omega)
 by_cases g6:223≤r∧r≤912
 ·have e:Zn1 r=r:=by unfold Zn1;(repeat' split)<;>omega
  rw [e]
  exact ZtP r w (by omega) (by omega)
 by_cases g7:913≤r∧r≤929
 ·have e:Zn1 r=r+32:=by unfold Zn1;(repeat' split)<;>omega
  rw [e]
  exact ZtQ r w (by omega) (by omega)
 by_cases g8:930≤r∧r≤930
 ·have e:Zn1 r=r:=by unfold Zn1;(repeat' split)<;>omega
  rw [e]
  exact ZtR r w (by omega) (by omega)
 by_cases g9:931≤r∧r≤939
 ·have e:Zn1 r=r+32:=by unfold Zn1;(repeat' split)<;>omega
  rw [e]
  exact ZtS r w (by omega) (by omega)
 by_cases g10:940≤r∧r≤1023
 ·have e:Zn1 r=r:=by unfold Zn1;(repeat' split)<;>omega
  rw [e]
  exact ZtH r w (by omega) (by omega)
 by_cases g11:1024≤r∧r≤1039
 ·have e:Zn1 r=r+80:=by unfold Zn1;(repeat' split)<;>omega
  rw [e]
  exact ZtI r w (by omega) (by omega)
 by_cases g12:1040≤r∧r≤1071
 ·have e:Zn1 r=r+32:=by unfold Zn1;(repeat' split)<;>omega
  rw [e]
  exact ZtJ r w (by omega) (by omega)
 by_cases g13:1072≤r
 ·have e:Zn1 r=r:=by unfold Zn1;(repeat' split)<;>omega
  rw [e]
  exact ZtK r w (by omega)
 exfalso
 omega
theorem Zu5 (r:Int) (w:World) (g1:r≤47):Calls Tryz.prog 120 #[.int .i64 r] w fun e w'=>e=.returned (.bool false)∧w=w':=by
 have q215:(r == 215)=false:=by simp;omega
 have n215:(r != 215)=true:=by simp;omega
 have q247:(r == 247)=false:=by simp;omega
 have n247:(r != 247)=true:=by simp;omega
 have q930:(r == 930)=false:=by simp;omega
 have n930:(r != 930)=true:=by simp;omega
 have a48:decide ((48:Int)≤r)=false:=by simp;omega
 have a65:decide ((65:Int)≤r)=false:=by simp;omega
 have a97:decide ((97:Int)≤r)=false:=by simp;omega
 have a192:decide ((192:Int)≤r)=false:=by simp;omega
 have a913:decide ((913:Int)≤r)=false:=by simp;omega
 have a1024:decide ((1024:Int)≤r)=false:=by simp;omega
 have b57:decide (r≤(57:Int))=true:=by simp;omega
 have b90:decide (r≤(90:Int))=true:=by simp;omega
 have b122:decide (r≤(122:Int))=true:=by simp;omega
 have b255:decide (r≤(255:Int))=true:=by simp;omega
 have b974:decide (r≤(974:Int))=true:=by simp;omega
 have b1119:decide (r≤(1119:Int))=true:=by simp;omega
 clear g1
 go_enter Tryz.func120,Tryz.ntmps120
 go_wp2
 go_ret
 exact ⟨rfl,rfl⟩
theorem Zu6 (r:Int) (w:World) (g0:48≤r) (g1:r≤57):Calls Tryz.prog 120 #[.int .i64 r] w fun e w'=>e=.returned (.bool true)∧w=w':=by
 have q215:(r == 215)=false:=by simp;omega
 have n215:(r != 215)=true:=by simp;omega
 have q247:(r == 247)=false:=by simp;omega
 have n247:(r != 247)=true:=by simp;omega
 have q930:(r == 930)=false:=by simp;omega
 have n930:(r != 930)=true:=by simp;omega
 have a48:decide ((48:Int)≤r)=true:=by simp;omega
 have a65:decide ((65:Int)≤r)=false:=by simp;omega
 have a97:decide ((97:Int)≤r)=false:=by simp;omega
 have a192:decide ((192:Int)≤r)=false:=by simp;omega
 have a913:decide ((913:Int)≤r)=false:=by simp;omega
 have a1024:decide ((1024:Int)≤r)=false:=by simp;omega
 have b57:decide (r≤(57:Int))=true:=by simp;omega
 have b90:decide (r≤(90:Int))=true:=by simp;omega
 have b122:decide (r≤(122:Int))=true:=by simp;omega
 have b255:decide (r≤(255:Int))=true:=by simp;omega
 have b974:decide (r≤(974:Int))=true:=by simp;omega
 have b1119:decide (r≤(1119:Int))=true:=by simp;omega
 clear g0 g1
 go_enter Tryz.func120,Tryz.ntmps120
 go_wp2
 go_ret
 exact ⟨rfl,rfl⟩
theorem Zvg (r:Int) (w:World) (g0:58≤r) (g1:r≤64):Calls Tryz.prog 120 #[.int .i64 r] w fun e w'=>e=.returned (.bool false)∧w=w':=by
 have q215:(r == 215)=false:=by simp;omega
 have n215:(r != 215)=true:=by simp;omega
 have q247:(r == 247)=false:=by simp;omega
 have n247:(r != 247)=true:=by simp;omega
 have q930:(r == 930)=false:=by simp;omega
 have n930:(r != 930)=true:=by simp;omega
 have a48:decide ((48:Int)≤r)=true:=by simp;omega
 have a65:decide ((65:Int)≤r)=false:=by simp;omega
 have a97:decide ((97:Int)≤r)=false:=by simp;omega
 have a192:decide ((192:Int)≤r)=false:=by simp;omega
 have a913:decide ((913:Int)≤r)=false:=by simp;omega
 have a1024:decide ((1024:Int)≤r)=false:=by simp;omega
 have b57:decide (r≤(57:Int))=false:=by simp;omega
 have b90:decide (r≤(90:Int))=true:=by simp;omega
 have b122:decide (r≤(122:Int))=true:=by simp;omega
 have b255:decide (r≤(255:Int))=true:=by simp;omega
 have b974:decide (r≤(974:Int))=true:=by simp;omega
 have b1119:decide (r≤(1119:Int))=true:=by simp;omega
 clear g0 g1
 go_enter Tryz.func120,Tryz.ntmps120
 go_wp2
 go_ret
 exact ⟨rfl,rfl⟩
theorem Zvh (r:Int) (w:World) (g0:65≤r) (g1:r≤90):Calls Tryz.prog 120 #[.int .i64 r] w fun e w'=>e=.returned (.bool true)∧w=w':=by
 have q215:(r == 215)=false:=by simp;omega
 have n215:(r != 215)=true:=by simp;omega
 have q247:(r == 247)=false:=by simp;omega
 have n247:(r != 247)=true:=by simp;omega
 have q930:(r == 930)=false:=by simp;omega
 have n930:(r != 930)=true:=by simp;omega
 have a48:decide ((48:Int)≤r)=true:=by simp;omega
 have a65:decide ((65:Int)≤r)=true:=by simp;omega
 have a97:decide ((97:Int)≤r)=false:=by simp;omega
 have a192:decide ((192:Int)≤r)=false:=by simp;omega
 have a913:decide ((913:Int)≤r)=false:=by simp;omega
 have a1024:decide ((1024:Int)≤r)=false:=by simp;omega
 have b57:decide (r≤(57:Int))=false:=by simp;omega
 have b90:decide (r≤(90:Int))=true:=by simp;omega
 have b122:decide (r≤(122:Int))=true:=by simp;omega
 have b255:decide (r≤(255:Int))=true:=by simp;omega
 have b974:decide (r≤(974:Int))=true:=by simp;omega
 have b1119:decide (r≤(1119:Int))=true:=by simp;omega
 clear g0 g1
 go_enter Tryz.func120,Tryz.ntmps120
 go_wp2
 go_ret
 exact ⟨rfl,rfl⟩
theorem Zvi (r:Int) (w:World) (g0:91≤r) (g1:r≤96):Calls Tryz.prog 120 #[.int .i64 r] w fun e w'=>e=.returned (.bool false)∧w=w':=by
 have q215:(r == 215)=false:=by simp;omega
 have n215:(r != 215)=true:=by simp;omega
 have q247:(r == 247)=false:=by simp;omega
 have n247:(r != 247)=true:=by simp;omega
 have q930:(r == 930)=false:=by simp;omega
 have n930:(r != 930)=true:=by simp;omega
 have a48:decide ((48:Int)≤r)=true:=by simp;omega
 have a65:decide ((65:Int)≤r)=true:=by simp;omega
 have a97:decide ((97:Int)≤r)=false:=by simp;omega
 have a192:decide ((192:Int)≤r)=false:=by simp;omega
 have a913:decide ((913:Int)≤r)=false:=by simp;omega
 have a1024:decide ((1024:Int)≤r)=false:=by simp;omega
 have b57:decide (r≤(57:Int))=false:=by simp;omega
 have b90:decide (r≤(90:Int))=false:=by simp;omega
 have b122:decide (r≤(122:Int))=true:=by simp;omega
 have b255:decide (r≤(255:Int))=true:=by simp;omega
 have b974:decide (r≤(974:Int))=true:=by simp;omega
 have b1119:decide (r≤(1119:Int))=true:=by simp;omega
 clear g0 g1
 go_enter Tryz.func120,Tryz.ntmps120
 go_wp2
 go_ret
 exact ⟨rfl,rfl⟩
theorem Zvj (r:Int) (w:World) (g0:97≤r) (g1:r≤122):Calls Tryz.prog 120 #[.int .i64 r] w fun e w'=>e=.returned (.bool true)∧w=w':=by
 have q215:(r == 215)=false:=by simp;omega
 have n215:(r != 215)=true:=by simp;omega
 have q247:(r == 247)=false:=by simp;omega
 have n247:(r != 247)=true:=by simp;omega
 have q930:(r == 930)=false:=by simp;omega
 have n930:(r != 930)=true:=by simp;omega
 have a48:decide ((48:Int)≤r)=true:=by simp;omega
 have a65:decide ((65:Int)≤r)=true:=by simp;omega
 have a97:decide ((97:Int)≤r)=true:=by simp;omega
 have a192:decide ((192:Int)≤r)=false:=by simp;omega
 have a913:decide ((913:Int)≤r)=false:=by simp;omega
 have a1024:decide ((1024:Int)≤r)=false:=by simp;omega
 have b57:decide (r≤(57:Int))=false:=by simp;omega
 have b90:decide (r≤(90:Int))=false:=by simp;omega
 have b122:decide (r≤(122:Int))=true:=by simp;omega
 have b255:decide (r≤(255:Int))=true:=by simp;omega
 have b974:decide (r≤(974:Int))=true:=by simp;omega
 have b1119:decide (r≤(1119:Int))=true:=by simp;omega
 clear g0 g1
 go_enter Tryz.func120,Tryz.ntmps120
 go_wp2
 go_ret
 exact ⟨rfl,rfl⟩
theorem Zvk (r:Int) (w:World) (g0:123≤r) (g1:r≤191):Calls Tryz.prog 120 #[.int .i64 r] w fun e w'=>e=.returned (.bool false)∧w=w':=by
 have q215:(r == 215)=false:=by simp;omega
 have n215:(r != 215)=true:=by simp;omega
 have q247:(r == 247)=false:=by simp;omega
 have n247:(r != 247)=true:=by simp;omega
 have q930:(r == 930)=false:=by simp;omega
 have n930:(r != 930)=true:=by simp;omega
 have a48:decide ((48:Int)≤r)=true:=by simp;omega
 have a65:decide ((65:Int)≤r)=true:=by simp;omega
 have a97:decide ((97:Int)≤r)=true:=by simp;omega
 have a192:decide ((192:Int)≤r)=false:=by simp;omega
 have a913:decide ((913:Int)≤r)=false:=by simp;omega
 have a1024:decide ((1024:Int)≤r)=false:=by simp;omega
 have b57:decide (r≤(57:Int))=false:=by simp;omega
 have b90:decide (r≤(90:Int))=false:=by simp;omega
 have b122:decide (r≤(122:Int))=false:=by simp;omega
 have b255:decide (r≤(255:Int))=true:=by simp;omega
 have b974:decide (r≤(974:Int))=true:=by simp;omega
 have b1119:decide (r≤(1119:Int))=true:=by simp;omega
 clear g0 g1
 go_enter Tryz.func120,Tryz.ntmps120
 go_wp2
 go_ret
 exact ⟨rfl,rfl⟩
theorem Zvl (r:Int) (w:World) (g0:192≤r) (g1:r≤214):Calls Tryz.prog 120 #[.int .i64 r] w fun e w'=>e=.returned (.bool true)∧w=w':=by
 have q215:(r == 215)=false:=by simp;omega
 have n215:(r != 215)=true:=by simp;omega
 have q247:(r == 247)=false:=by simp;omega
 have n247:(r != 247)=true:=by simp;omega
 have q930:(r == 930)=false:=by simp;omega
 have n930:(r != 930)=true:=by simp;omega
 have a48:decide ((48:Int)≤r)=true:=by simp;omega
 have a65:decide ((65:Int)≤r)=true:=by simp;omega
 have a97:decide ((97:Int)≤r)=true:=by simp;omega
 have a192:decide ((192:Int)≤r)=true:=by simp;omega
 have a913:decide ((913:Int)≤r)=false:=by simp;omega
 have a1024:decide ((1024:Int)≤r)=false:=by simp;omega
 have b57:decide (r≤(57:Int))=false:=by simp;omega
 have b90:decide (r≤(90:Int))=false:=by simp;omega
 have b122:decide (r≤(122:Int))=false:=by simp;omega
 have b255:decide (r≤(255:Int))=true:=by simp;omega
 have b974:decide (r≤(974:Int))=true:=by simp;omega
 have b1119:decide (r≤(1119:Int))=true:=by simp;omega
 clear g0 g1
 go_enter Tryz.func120,Tryz.ntmps120
 go_wp2
 go_ret
 exact ⟨rfl,rfl⟩
theorem Zvm (r:Int) (w:World) (g0:215≤r) (g1:r≤215):Calls Tryz.prog 120 #[.int .i64 r] w fun e w'=>e=.returned (.bool false)∧w=w':=by
 have q215:(r == 215)=true:=by simp;omega
 have n215:(r != 215)=false:=by simp;omega
 have q247:(r == 247)=false:=by simp;omega
 have n247:(r != 247)=true:=by simp;omega
 have q930:(r == 930)=false:=by simp;omega
 have n930:(r != 930)=true:=by simp;omega
 have a48:decide ((48:Int)≤r)=true:=by simp;omega
 have a65:decide ((65:Int)≤r)=true:=by simp;omega
 have a97:decide ((97:Int)≤r)=true:=by simp;omega
 have a192:decide ((192:Int)≤r)=true:=by simp;omega
 have a913:decide ((913:Int)≤r)=false:=by simp;omega
 have a1024:decide ((1024:Int)≤r)=false:=by simp;omega
 have b57:decide (r≤(57:Int))=false:=by simp;omega
 have b90:decide (r≤(90:Int))=false:=by simp;omega
 have b122:decide (r≤(122:Int))=false:=by simp;omega
 have b255:decide (r≤(255:Int))=true:=by simp;omega
 have b974:decide (r≤(974:Int))=true:=by simp;omega
 have b1119:decide (r≤(1119:Int))=true:=by simp;omega
 clear g0 g1
 go_enter Tryz.func120,Tryz.ntmps120
 go_wp2
 go_ret
 exact ⟨rfl,rfl⟩
theorem Zvn (r:Int) (w:World) (g0:216≤r) (g1:r≤246):Calls Tryz.prog 120 #[.int .i64 r] w fun e w'=>e=.returned (.bool true)∧w=w':=by
 have q215:(r == 215)=false:=by simp;omega
 have n215:(r != 215)=true:=by simp;omega
 have q247:(r == 247)=false:=by simp;omega
 have n247:(r != 247)=true:=by simp;omega
 have q930:(r == 930)=false:=by simp;omega
 have n930:(r != 930)=true:=by simp;omega
 have a48:decide ((48:Int)≤r)=true:=by simp;omega
 have a65:decide ((65:Int)≤r)=true:=by simp;omega
 have a97:decide ((97:Int)≤r)=true:=by simp;omega
 have a192:decide ((192:Int)≤r)=true:=by simp;omega
 have a913:decide ((913:Int)≤r)=false:=by simp;omega
 have a1024:decide ((1024:Int)≤r)=false:=by simp;omega
 have b57:decide (r≤(57:Int))=false:=by simp;omega
 have b90:decide (r≤(90:Int))=false:=by simp;omega
 have b122:decide (r≤(122:Int))=false:=by simp;omega
 have b255:decide (r≤(255:Int))=true:=by simp;omega
 have b974:decide (r≤(974:Int))=true:=by simp;omega
 have b1119:decide (r≤(1119:Int))=true:=by simp;omega
 clear g0 g1
 go_enter Tryz.func120,Tryz.ntmps120
 go_wp2
 go_ret
 exact ⟨rfl,rfl⟩
theorem Zu7 (r:Int) (w:World) (g0:247≤r) (g1:r≤247):Calls Tryz.prog 120 #[.int .i64 r] w fun e w'=>e=.returned (.bool false)∧w=w':=by
 have q215:(r == 215)=false:=by simp;omega
 have n215:(r != 215)=true:=by simp;omega
 have q247:(r == 247)=true:=by simp;omega
 have n247:(r != 247)=false:=by simp;omega
 have q930:(r == 930)=false:=by simp;omega
 have n930:(r != 930)=true:=by simp;omega
 have a48:decide ((48:Int)≤r)=true:=by simp;omega
 have a65:decide ((65:Int)≤r)=true:=by simp;omega
 have a97:decide ((97:Int)≤r)=true:=by simp;omega
 have a192:decide ((192:Int)≤r)=true:=by simp;omega
 have a913:decide ((913:Int)≤r)=false:=by simp;omega
 have a1024:decide ((1024:Int)≤r)=false:=by simp;omega
 have b57:decide (r≤(57:Int))=false:=by simp;omega
 have b90:decide (r≤(90:Int))=false:=by simp;omega
 have b122:decide (r≤(122:Int))=false:=by simp;omega
 have b255:decide (r≤(255:Int))=true:=by simp;omega
 have b974:decide (r≤(974:Int))=true:=by simp;omega
 have b1119:decide (r≤(1119:Int))=true:=by simp;omega
 clear g0 g1
 go_enter Tryz.func120,Tryz.ntmps120
 go_wp2
 go_ret
 exact ⟨rfl,rfl⟩
theorem Zu8 (r:Int) (w:World) (g0:248≤r) (g1:r≤255):Calls Tryz.prog 120 #[.int .i64 r] w fun e w'=>e=.returned (.bool true)∧w=w':=by
 have q215:(r == 215)=false:=by simp;omega
 have n215:(r != 215)=true:=by simp;omega
 have q247:(r == 247)=false:=by simp;omega
 have n247:(r != 247)=true:=by simp;omega
 have q930:(r == 930)=false:=by simp;omega
 have n930:(r != 930)=true:=by simp;omega
 have a48:decide ((48:Int)≤r)=true:=by simp;omega
 have a65:decide ((65:Int)≤r)=true:=by simp;omega
 have a97:decide ((97:Int)≤r)=true:=by simp;omega
 have a192:decide ((192:Int)≤r)=true:=by simp;omega
 have a913:decide ((913:Int)≤r)=false:=by simp;omega
 have a1024:decide ((1024:Int)≤r)=false:=by simp;omega
 have b57:decide (r≤(57:Int))=false:=by simp;omega
 have b90:decide (r≤(90:Int))=false:=by simp;omega
 have b122:decide (r≤(122:Int))=false:=by simp;omega
 have b255:decide (r≤(255:Int))=true:=by simp;omega
 have b974:decide (r≤(974:Int))=true:=by simp;omega
 have b1119:decide (r≤(1119:Int))=true:=by simp;omega
 clear g0 g1
 go_enter Tryz.func120,Tryz.ntmps120
 go_wp2
 go_ret
 exact ⟨rfl,rfl⟩
theorem Zu9 (r:Int) (w:World) (g0:256≤r) (g1:r≤912):Calls Tryz.prog 120 #[.int .i64 r] w fun e w'=>e=.returned (.bool false)∧w=w':=by
 have q215:(r == 215)=false:=by simp;omega
 have n215:(r != 215)=true:=by simp;omega
 have q247:(r == 247)=false:=by simp;omega
 have n247:(r != 247)=true:=by simp;omega
 have q930:(r == 930)=false:=by simp;omega
 have n930:(r != 930)=true:=by simp;omega
 have a48:decide ((48:Int)≤r)=true:=by simp;omega
 have a65:decide ((65:Int)≤r)=true:=by simp;omega
 have a97:decide ((97:Int)≤r)=true:=by simp;omega
 have a192:decide ((192:Int)≤r)=true:=by simp;omega
 have a913:decide ((913:Int)≤r)=false:=by simp;omega
 have a1024:decide ((1024:Int)≤r)=false:=by simp;omega
 have b57:decide (r≤(57:Int))=false:=by simp;omega
 have b90:decide (r≤(90:Int))=false:=by simp;omega
 have b122:decide (r≤(122:Int))=false:=by simp;omega
 have b255:decide (r≤(255:Int))=false:=by simp;omega
 have b974:decide (r≤(974:Int))=true:=by simp;omega
 have b1119:decide (r≤(1119:Int))=true:=by simp;omega
 clear g0 g1
 go_enter Tryz.func120,Tryz.ntmps120
 go_wp2
 go_ret
 exact ⟨rfl,rfl⟩
theorem Zva (r:Int) (w:World) (g0:913≤r) (g1:r≤929):Calls Tryz.prog 120 #[.int .i64 r] w fun e w'=>e=.returned (.bool true)∧w=w':=by
 have q215:(r == 215)=false:=by simp;omega
 have n215:(r != 215)=true:=by simp;omega
 have q247:(r == 247)=false:=by simp;omega
 have n247:(r != 247)=true:=by simp;omega
 have q930:(r == 930)=false:=by simp;omega
 have n930:(r != 930)=true:=by simp;omega
 have a48:decide ((48:Int)≤r)=true:=by simp;omega
 have a65:decide ((65:Int)≤r)=true:=by simp;omega
 have a97:decide ((97:Int)≤r)=true:=by simp;omega
 have a192:decide ((192:Int)≤r)=true:=by simp;omega
 have a913:decide ((913:Int)≤r)=true:=by simp;omega
 have a1024:decide ((1024:Int)≤r)=false:=by simp;omega
 have b57:decide (r≤(57:Int))=false:=by simp;omega
 have b90:decide (r≤(90:Int))=false:=by simp;omega
 have b122:decide (r≤(122:Int))=false:=by simp;omega
 have b255:decide (r≤(255:Int))=false:=by simp;omega
 have b974:decide (r≤(974:Int))=true:=by simp;omega
 have b1119:decide (r≤(1119:Int))=true:=by simp;omega
 clear g0 g1
 go_enter Tryz.func120,Tryz.ntmps120
 go_wp2
 go_ret
 exact ⟨rfl,rfl⟩
theorem Zvb (r:Int) (w:World) (g0:930≤r) (g1:r≤930):Calls Tryz.prog 120 #[.int .i64 r] w fun e w'=>e=.returned (.bool false)∧w=w':=by
 have q215:(r == 215)=false:=by simp;omega
 have n215:(r != 215)=true:=by simp;omega
 have q247:(r == 247)=false:=by simp;omega
 have n247:(r != 247)=true:=by simp;omega
 have q930:(r == 930)=true:=by simp;omega
 have n930:(r != 930)=false:=by simp;omega
 have a48:decide ((48:Int)≤r)=true:=by simp;omega
 have a65:decide ((65:Int)≤r)=true:=by simp;omega
 have a97:decide ((97:Int)≤r)=true:=by simp;omega
 have a192:decide ((192:Int)≤r)=true:=by simp;omega
 have a913:decide ((913:Int)≤r)=true:=by simp;omega
 have a1024:decide ((1024:Int)≤r)=false:=by simp;omega
 have b57:decide (r≤(57:Int))=false:=by simp;omega
 have b90:decide (r≤(90:Int))=false:=by simp;omega
 have b122:decide (r≤(122:Int))=false:=by simp;omega
 have b255:decide (r≤(255:Int))=false:=by simp;omega
 have b974:decide (r≤(974:Int))=true:=by simp;omega
 have b1119:decide (r≤(1119:Int))=true:=by simp;omega
 clear g0 g1
 go_enter Tryz.func120,Tryz.ntmps120
 go_wp2
 go_ret
 exact ⟨rfl,rfl⟩
theorem Zvc (r:Int) (w:World) (g0:931≤r) (g1:r≤974):Calls Tryz.prog 120 #[.int .i64 r] w fun e w'=>e=.returned (.bool true)∧w=w':=by
 have q215:(r == 215)=false:=by simp;omega
 have n215:(r != 215)=true:=by simp;omega
 have q247:(r == 247)=false:=by simp;omega
 have n247:(r != 247)=true:=by simp;omega
 have q930:(r == 930)=false:=by simp;omega
 have n930:(r != 930)=true:=by simp;omega
 have a48:decide ((48:Int)≤r)=true:=by simp;omega
 have a65:decide ((65:Int)≤r)=true:=by simp;omega
 have a97:decide ((97:Int)≤r)=true:=by simp;omega
 have a192:decide ((192:Int)≤r)=true:=by simp;omega
 have a913:decide ((913:Int)≤r)=true:=by simp;omega
 have a1024:decide ((1024:Int)≤r)=false:=by simp;omega
 have b57:decide (r≤(57:Int))=false:=by simp;omega
 have b90:decide (r≤(90:Int))=false:=by simp;omega
 have b122:decide (r≤(122:Int))=false:=by simp;omega
 have b255:decide (r≤(255:Int))=false:=by simp;omega
 have b974:decide (r≤(974:Int))=true:=by simp;omega
 have b1119:decide (r≤(1119:Int))=true:=by simp;omega
 clear g0 g1
 go_enter Tryz.func120,Tryz.ntmps120
 go_wp2
 go_ret
 exact ⟨rfl,rfl⟩
theorem Zvd (r:Int) (w:World) (g0:975≤r) (g1:r≤1023):Calls Tryz.prog 120 #[.int .i64 r] w fun e w'=>e=.returned (.bool false)∧w=w':=by
 have q215:(r == 215)=false:=by simp;omega
 have n215:(r != 215)=true:=by simp;omega
 have q247:(r == 247)=false:=by simp;omega
 have n247:(r != 247)=true:=by simp;omega
 have q930:(r == 930)=false:=by simp;omega
 have n930:(r != 930)=true:=by simp;omega
 have a48:decide ((48:Int)≤r)=true:=by simp;omega
 have a65:decide ((65:Int)≤r)=true:=by simp;omega
 have a97:decide ((97:Int)≤r)=true:=by simp;omega
 have a192:decide ((192:Int)≤r)=true:=by simp;omega
 have a913:decide ((913:Int)≤r)=true:=by simp;omega
 have a1024:decide ((1024:Int)≤r)=false:=by simp;omega
 have b57:decide (r≤(57:Int))=false:=by simp;omega
 have b90:decide (r≤(90:Int))=false:=by simp;omega
 have b122:decide (r≤(122:Int))=false:=by simp;omega
 have b255:decide (r≤(255:Int))=false:=by simp;omega
 have b974:decide (r≤(974:Int))=false:=by simp;omega
 have b1119:decide (r≤(1119:Int))=true:=by simp;omega
 clear g0 g1
 go_enter Tryz.func120,Tryz.ntmps120
 go_wp2
 go_ret
 exact ⟨rfl,rfl⟩
theorem Zve (r:Int) (w:World) (g0:1024≤r) (g1:r≤1119):Calls Tryz.prog 120 #[.int .i64 r] w fun e w'=>e=.returned (.bool true)∧w=w':=by
 have q215:(r == 215)=false:=by simp;omega
 have n215:(r != 215)=true:=by simp;omega
 have q247:(r == 247)=false:=by simp;omega
 have n247:(r != 247)=true:=by simp;omega
 have q930:(r == 930)=false:=by simp;omega
 have n930:(r != 930)=true:=by simp;omega
 have a48:decide ((48:Int)≤r)=true:=by simp;omega
 have a65:decide ((65:Int)≤r)=true:=by simp;omega
 have a97:decide ((97:Int)≤r)=true:=by simp;omega
 have a192:decide ((192:Int)≤r)=true:=by simp;omega
 have a913:decide ((913:Int)≤r)=true:=by simp;omega
 have a1024:decide ((1024:Int)≤r)=true:=by simp;omega
 have b57:decide (r≤(57:Int))=false:=by simp;omega
 have b90:decide (r≤(90:Int))=false:=by simp;omega
 have b122:decide (r≤(122:Int))=false:=by simp;omega
 have b255:decide (r≤(255:Int))=false:=by simp;omega
 have b974:decide (r≤(974:Int))=false:=by simp;omega
 have b1119:decide (r≤(1119:Int))=true:=by simp;omega
 clear g0 g1
 go_enter Tryz.func120,Tryz.ntmps120
 go_wp2
 go_ret
 exact ⟨rfl,rfl⟩
theorem Zvf (r:Int) (w:World) (g0:1120≤r):Calls Tryz.prog 120 #[.int .i64 r] w fun e w'=>e=.returned (.bool false)∧w=w':=by
 have q215:(r == 215)=false:=by simp;omega
 have n215:(r != 215)=true:=by simp;omega
 have q247:(r == 247)=false:=by simp;omega
 have n247:(r != 247)=true:=by simp;omega
 have q930:(r == 930)=false:=by simp;omega
 have n930:(r != 930)=true:=by simp;omega
 have a48:decide ((48:Int)≤r)=true:=by simp;omega
 have a65:decide ((65:Int)≤r)=true:=by simp;omega
 have a97:decide ((97:Int)≤r)=true:=by simp;omega
 have a192:decide ((192:Int)≤r)=true:=by simp;omega
 have a913:decide ((913:Int)≤r)=true:=by simp;omega
 have a1024:decide ((1024:Int)≤r)=true:=by simp;omega
 have b57:decide (r≤(57:Int))=false:=by simp;omega
 have b90:decide (r≤(90:Int))=false:=by simp;omega
 have b122:decide (r≤(122:Int))=false:=by simp;omega
 have b255:decide (r≤(255:Int))=false:=by simp;omega
 have b974:decide (r≤(974:Int))=false:=by simp;omega
 have b1119:decide (r≤(1119:Int))=false:=by simp;omega
 clear g0
 go_enter Tryz.func120,Tryz.ntmps120
 go_wp2
 go_ret
 exact ⟨rfl,rfl⟩
theorem Zvo (r:Int) (w:World):Calls Tryz.prog 120 #[.int .i64 r] w fun e w'=>e=.returned (.bool (ZyM r))∧w=w':=by
 by_cases g0:r≤47
 ·have e:ZyM r=false:=by unfold ZyM;exact decide_eq_false (by omega)
  rw [e]
  exact Zu5 r w (by omega)
 by_cases g1:48≤r∧r≤57
 ·have e:ZyM r=true:=by unfold ZyM;exact decide_eq_true (by omega)
  rw [e]
  exact Zu6 r w (by omega) (by omega)
 by_cases g2:58≤r∧r≤64
 ·have e:ZyM r=false:=by unfold ZyM;exact decide_eq_false (by omega)
  rw [e]
  exact Zvg r w (by omega) (by omega)
 by_cases g3:65≤r∧r≤90
 ·have e:ZyM r=true:=by unfold ZyM;exact decide_eq_true (by omega)
  rw [e]
  exact Zvh r w (by omega) (by omega)
 by_cases g4:91≤r∧r≤96
 ·have e:ZyM r=false:=by unfold ZyM;exact decide_eq_false (by omega)
  rw [e]
  exact Zvi r w (by omega) (by omega)
 by_cases g5:97≤r∧r≤122
 ·have e:ZyM r=true:=by unfold ZyM;exact decide_eq_true (by omega)
  rw [e]
  exact Zvj r w (by omega) (by omega)
 by_cases g6:123≤r∧r≤191
 ·have e:ZyM r=false:=by unfold ZyM;exact decide_eq_false (by omega)
  rw [e]
  exact Zvk r w (by omega) (by omega)
 by_cases g7:192≤r∧r≤214
 ·have e:ZyM r=true:=by unfold ZyM;exact decide_eq_true (by omega)
  rw [e]
  exact Zvl r w (by omega) (by omega)
 by_cases g8:215≤r∧r≤215
 ·have e:ZyM r=false:=by unfold ZyM;exact decide_eq_false (by omega)
  rw [e]
  exact Zvm r w (by omega) (by omega)
 by_cases g9:216≤r∧r≤246
 ·have e:ZyM r=true:=by unfold ZyM;exact decide_eq_true (by omega)
  rw [e]
  exact Zvn r w (by omega) (by omega)
 by_cases g10:247≤r∧r≤247
 ·have e:ZyM r=false:=by unfold ZyM;exact decide_eq_false (by omega)
  rw [e]
  exact Zu7 r w (by omega) (by omega)
 by_cases g11:248≤r∧r≤255
 ·have e:ZyM r=true:=by unfold ZyM;exact decide_eq_true (by omega)
  rw [e]
  exact Zu8 r w (by omega) (by omega)
 by_cases g12:256≤r∧r≤912
 ·have e:ZyM r=false:=by unfold ZyM;exact decide_eq_false (by omega)
  rw [e]
  exact Zu9 r w (by omega) (by omega)
 by_cases g13:913≤r∧r≤929
 ·have e:ZyM r=true:=by unfold ZyM;exact decide_eq_true (by omega)
  rw [e]
  exact Zva r w (by omega) (by omega)
 by_cases g14:930≤r∧r≤930
 ·have e:ZyM r=false:=by unfold ZyM;exact decide_eq_false (by omega)
  rw [e]
  exact Zvb r w (by omega) (by omega)
 by_cases g15:931≤r∧r≤974
 ·have e:ZyM r=true:=by unfold ZyM;exact decide_eq_true (by omega)
  rw [e]
  exact Zvc r w (by omega) (by omega)
 by_cases g16:975≤r∧r≤1023
 ·have e:ZyM r=false:=by unfold ZyM;exact decide_eq_false (by omega)
  rw [e]
  exact Zvd r w (by omega) (by omega)
 by_cases g17:1024≤r∧r≤1119
 ·have e:ZyM r=true:=by unfold ZyM;exact decide_eq_true (by omega)
  rw [e]
  exact Zve r w (by omega) (by omega)
 by_cases g18:1120≤r
 ·have e:ZyM r=false:=by unfold ZyM;exact decide_eq_false (by omega)
  rw [e]
  exact Zvf r w (by omega)
 exfalso
 omega
end Go.Proofs.YtdijhifdjbnkfaaGreat.UM
