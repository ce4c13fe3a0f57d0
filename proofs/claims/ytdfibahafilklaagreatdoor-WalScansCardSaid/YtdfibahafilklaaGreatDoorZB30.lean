import Derived.Test.YtdfibahafilklaaGreatDoorZB28
import Derived.Test.YtdfibahafilklaaGreatDoorZB9
set_option maxRecDepth 100000
set_option maxHeartbeats 8000000
set_option linter.unusedVariables false
set_option linter.unusedSimpArgs false
namespace Go.Proofs.YtdfibahafilklaaGreatDoor.VP
open Go.RowKit MM VM
theorem puttext_any (v:Value) (l:List UInt8) (s:ByteArray) (w:World) (hr:BRow w v l) (hlen:l.length+s.size≤17592186044416) :
  Calls Tryz.prog 146 #[v,.string s] w (PutLeft w.heap.size (l++textL s.data.toList) w):=by
 have hz:s.data.toList.length=s.size:=(Lib.size_eq s).symm
 have hbl:=bytesL_length s.size
 have k1:=fun W=>size_any s.size W (by omega)
 have k2:=fun W (h:BRow W v l)=>room_any v l ((bytesL s.size).length+s.size:Int) ((bytesL s.size).length+s.size) W (by omega) h (by omega)
 have k3:=fun B u W (h:OwnB B W u l) hB=>app_any B u l s.size W (by omega) h (by omega) hB
 have hm:s.size≤9223372036854775807:=by omega
 have hlz:(l++bytesL s.size).length+s.size≤140737488355328:=by rw [List.length_append];omega
 unfold textL
 rw [hz,← List.append_assoc]
 obtain ⟨L,hL⟩:∃ L,(bytesL s.size).length=L:=⟨_,rfl⟩
 simp only [hL] at k1 k2
 have hL10:L≤10:=by omega
 obtain ⟨T,hT⟩:∃ T,l++bytesL s.size=T:=⟨_,rfl⟩
 simp only [hT] at k3 hlz
 rw [hT]
 have K1:=Lib.hid k1
 have K2:=Lib.hid k2
 have K3:=Lib.hid k3
 have HR:=Lib.hid hr
 clear k1 k2 k3 hr hL hbl hz hT
 go_enter Tryz.func146,Tryz.ntmps146
 go_wp2_with fail
 refine (K1.out _).mono ?_
 rintro e w1 ⟨rfl,rfl⟩
 go_wp2_with fail
 refine (K2.out _ HR.out).mono ?_
 rintro e w1 ⟨v1,rfl,hown1,hb1⟩
 have hsz:=hb1.size
 have HO:=Lib.hid hown1
 clear hown1
 go_wp2_with fail
 refine (K3.out _ _ _ HO.out hsz).mono ?_
 rintro e w2 ⟨v2,rfl,hown2,hb2⟩
 have hb:=hb1.trans hb2
 have hsz2:=hb.size
 have HO2:=Lib.hid hown2
 clear hown2
 go_wp2_with (at_builtin;refine wpList_append_text rfl _ _ rfl w.heap.size _ _ rfl HO2.out _ rfl hlz hsz2 ?_)
 intro v3 w3 hown3 hb3
 have HO3:=Lib.hid hown3
 clear hown3
 go_wp2_with fail
 go_ret
 exact ⟨_,rfl,HO3.out,hb.trans hb3⟩
end Go.Proofs.YtdfibahafilklaaGreatDoor.VP
namespace Go.Proofs.YtdfibahafilklaaGreatDoor.FP
open Go.RowKit MM VM CM FM VP CR
theorem own_nil (B:Nat) (w:World):OwnB B w (.slice none 0 0) []:=World.ownsRow_nil _ _ _ _
theorem prow_two {w:World} {v u:Value} {l m:List UInt8} (h:BRow w v l) (k:BRow w u m):PRow (w.alloc (.cells #[v,u] 31)) (.slice (some ⟨w.heap.size,0,none⟩) 2 2) [l,m] :=
 prow_lit [v,u] [l,m] rfl (by unfold maxLen;simp) (fun i hi=>by
  match i,hi with
  | 0,_=>exact ⟨v,rfl,h⟩
  | 1,_=>exact ⟨u,rfl,k⟩)
theorem flat_two (l m:List UInt8):[l,m].flatten=l++m:=by simp
theorem lit_sum (w:World) (s:Nat) (hs:s<4294967296):BRow (w.alloc (.cells #[.int .u8 ((s:Int) / 16777216),.int .u8 ((s:Int) / 65536%256),.int .u8 ((s:Int) / 256%256),.int .u8 ((s:Int)%256)] 5)) (.slice (some ⟨w.heap.size,0,none⟩) 4 4) (sumB s):=by
 have h:=own_lit w (Lib.byteCells (sumB s)) 5 0 (Nat.zero_le _) (by rw [byteCells_len];unfold maxLen;simp [sumB])
 have e:Lib.byteCells (sumB s)=[.int .u8 ((s:Int) / 16777216),.int .u8 ((s:Int) / 65536%256),.int .u8 ((s:Int) / 256%256),.int .u8 ((s:Int)%256)]:=by
  simp only [Lib.byteCells,sumB,List.map_cons,List.map_nil,UInt8.toNat_ofNat']
  rw [show ((s / 16777216%2^8:Nat):Int)=(s:Int) / 16777216 by omega,show ((s / 65536%2^8:Nat):Int)=(s:Int) / 65536%256 by omega,show ((s / 256%2^8:Nat):Int)=(s:Int) / 256%256 by omega,show ((s%2^8:Nat):Int)=(s:Int)%256 by omega]
 have hb:=BRow.of_own (l:=sumB s) h
 rw [e] at hb
 exact hb
end Go.Proofs.YtdfibahafilklaaGreatDoor.FP
namespace Go.Proofs.YtdfibahafilklaaGreatDoor.FP
open Go.RowKit MM VM CM FM VP CR
theorem own_empty (w:World) (B:Nat) (hB:B≤w.heap.size):OwnB B (w.alloc (.cells #[] 5)) (.slice (some ⟨w.heap.size,0,none⟩) 0 0) []:=own_lit w [] 5 B hB (by unfold maxLen;simp)
theorem cell_lt {w:World} {b o:Nat} {v:Value} (h:w.cell? ⟨b,o,none⟩=some v):b<w.heap.size:=by
 by_cases hb:b<w.heap.size
 ·exact hb
 ·simp [World.cell?,Array.getElem?_eq_none (Nat.le_of_not_lt hb)] at h
def PutsLeft (B:Nat) (l:List UInt8) (w:World) (e:Ending) (w':World):Prop:=∃ v',e=.returned (.tuple #[v',.int .i64 0])∧OwnB B w' v' l∧Below B w w'
end Go.Proofs.YtdfibahafilklaaGreatDoor.FP
