import Derived.Test.YtdfibahafilklaaGreatDoorZC24
import Derived.Test.YtdfibahafilklaaGreatDoorZC25
set_option maxRecDepth 100000
set_option maxHeartbeats 8000000
set_option linter.unusedVariables false
set_option linter.unusedSimpArgs false
namespace Go.Proofs.YtdfibahafilklaaGreatDoor.MM
open Go.RowKit
def IRow (w:World) (v:Value) (zs:List Int):Prop:=Row w v (zs.map (Value.int .i64))
def OwnI (B:Nat) (w:World) (v:Value) (zs:List Int):Prop:=w.ownsRow B 3 1 v zs.length (zs.map (Value.int .i64))
theorem OwnI.keep {w w':World} {B:Nat} {v:Value} {zs:List Int} (h:OwnI B w v zs) (hb:Below w.heap.size w w'):OwnI B w' v zs:=own_keep (B:=0) h hb
theorem IRow.below {w w':World} {v:Value} {zs:List Int} (h:IRow w v zs) (hb:Below w.heap.size w w'):IRow w' v zs:=Row.below (B:=0) h hb
theorem IRow.shape {w:World} {v:Value} {zs:List Int} (h:IRow w v zs):∃ p cap,v=.slice p zs.length cap∧zs.length≤cap∧cap≤maxLen:=by
 obtain ⟨p,cap,hv,h1,h2,_,_⟩:=h
 rw [List.length_map] at hv h1
 exact ⟨p,cap,hv,h1,h2⟩
theorem IRow.at_ {w:World} {p:Option Addr} {n cap:Nat} {zs:List Int} (h:IRow w (.slice p n cap) zs) {k:Nat} (hk:k<zs.length) :
  ∃ b off,p=some ⟨b,off,none⟩∧b<w.heap.size∧w.cell? ⟨b,off+k,none⟩=some (.int .i64 (zs.getD k 0)):=by
 obtain ⟨p',cap',hv,_,_,_,h⟩:=h
 simp only [Value.slice.injEq] at hv
 obtain ⟨rfl,_,_⟩:=hv
 rcases h with h | ⟨b,off,hp,hlt,hc⟩
 ·have:zs=[]:=List.map_eq_nil_iff.1 h
  subst this
  simp at hk
 ·exact ⟨b,off,hp,hlt,hc k _ (by simp [List.getD,hk])⟩
theorem IRow.take {w:World} {p:Option Addr} {n cap:Nat} {zs:List Int} (h:IRow w (.slice p n cap) zs) (k:Nat) (hk:k≤n):IRow w (.slice p k cap) (zs.take k):=by
 have:=RowIn.take h k hk
 rw [← List.map_take] at this
 exact this
end Go.Proofs.YtdfibahafilklaaGreatDoor.MM
namespace Go.Proofs.YtdfibahafilklaaGreatDoor.DK
open Go.RowKit MM Go.Maps
end Go.Proofs.YtdfibahafilklaaGreatDoor.DK
namespace Go.Proofs.YtdfibahafilklaaGreatDoor.DK
open Go.RowKit MM Go.Maps
def Disk (B:Nat) (w:World) (g:Nat) (d:DiskD):Prop:=∃ S mb V c,CObj S w g mb V c d∧∀ k,S k→B≤k
theorem Disk.below {B:Nat} {w w':World} {g:Nat} {d:DiskD} (h:Disk B w g d) (hb:Below w.heap.size w w'):Disk B w' g d:=by
 obtain ⟨S,mb,V,c,ho,hS⟩:=h
 exact ⟨S,mb,V,c,ho.below hb,hS⟩
end Go.Proofs.YtdfibahafilklaaGreatDoor.DK
namespace Go.Proofs.YtdfibahafilklaaGreatDoor.DK
open Go.RowKit MM Go.Maps
def Nob (w:World) (v:Value):Prop:=v=.pointer none∨∃ g,v=.pointer (some ⟨g,0,none⟩)∧w.heap[g]? = some (.cells #[.map none,.int .i64 0,.int .i64 0,.bool false] 111 (0,0))
theorem Nob.below {w w':World} {v:Value} (h:Nob w v) (hb:Below w.heap.size w w'):Nob w' v:=by
 rcases h with h | ⟨g,h1,h2⟩
 ·exact .inl h
 ·exact .inr ⟨g,h1,(hb.block g (Array.getElem?_eq_some_iff.1 h2).1).trans h2⟩
theorem Nob.shape {w:World} {v:Value} (h:Nob w v):∃ p,v=.pointer p:=by
 rcases h with h | ⟨g,h1,h2⟩
 ·exact ⟨_,h⟩
 ·exact ⟨_,h1⟩
theorem nob_made {w:World} {v:Value} (h:Nob w v):Calls Tryz.prog 73 #[v] w fun e w'=>e=.returned (.bool false)∧w=w':=by
 rcases h with rfl | ⟨g,rfl,hg⟩
 ·exact made_nil w
 ·exact made_none g w (by rw [cell_of_row w g 0 _ _ _ hg];rfl)
def NobC (r:Value) (w:World) (e:Ending) (w':World):Prop:=e=.returned r∧Below w.heap.size w w'
theorem nob_find (w:World) (v s:Value) (po:Option Addr) (no co:Nat) (h:Nob w v) (x:ByteArray):Calls Tryz.prog 64 #[v,.string x,.slice po no co] w (NobC (.tuple #[.agg #[.slice none 0 0,.int .i64 0],.int .i64 4]) w):=by
 obtain ⟨p,hp⟩:=h.shape
 have hba:∀ o,Below w.heap.size w (w.alloc o):=fun o=>(Below.refl _ _).alloc (Nat.le_refl _) _
 have HM:=Lib.hid (fun o=>nob_made (h.below (hba o)))
 obtain ⟨W0,hW0⟩:∃ W,w.alloc (.cells #[.slice none 0 0,.int .i64 0] 127)=W:=⟨_,rfl⟩
 have hb0:Below w.heap.size w W0:=by rw [← hW0];exact hba _
 have hf0:FV W0 w.heap.size (.slice none 0 0) 0:=by rw [← hW0];exact fv_new w _ 0
 have HE:=Lib.hid (hf0.two (.slice none 0 0) 0)
 have HB:=Lib.hid (show Below w.heap.size w _ from (hb0.setCell (p:=⟨w.heap.size,0,none⟩) (Nat.le_refl _) (.slice none 0 0)).setCell (p:=⟨w.heap.size,1,none⟩) (Nat.le_refl _) (.int .i64 0))
 have c0:=hf0.f0
 have c1:=hf0.f1
 have c2:=fun k=>hf0.free k
 have HW:=Lib.hid hW0
 subst hp
 clear h hba hb0 hf0 hW0
 go_enter Tryz.func64,Tryz.ntmps64
 go_wp2_with fail
 refine (HM.out _).mono ?_
 rintro e w' ⟨rfl,rfl⟩
 rw [HW.out]
 go_wp2_with fail
 refine bodyPost_ret (results_file_tmp rfl _ _ w.heap.size _ _ rfl HE.out) rfl ?_
 exact ⟨rfl,HB.out⟩
theorem nob_read (w:World) (v:Value) (h:Nob w v) (x:ByteArray) (a m:Int):Calls Tryz.prog 60 #[v,.string x,.int .i64 a,.int .i64 m] w (NobC (.tuple #[.slice none 0 0,.int .i64 4]) w):=by
 obtain ⟨p,hp⟩:=h.shape
 have HFI:=Lib.hid (nob_find w v v none 0 0 h x)
 subst hp
 clear h
 go_enter Tryz.func60,Tryz.ntmps60
 go_wp2_with fail
 refine HFI.out.mono ?_
 rintro e W1 ⟨rfl,hb1⟩
 have HB:=Lib.hid (fun o=>hb1.alloc hb1.size o)
 clear hb1 HFI
 go_wp2_with fail
 go_ret2
 exact ⟨rfl,HB.out _⟩
theorem nob_names (g:Nat) (w:World) (hg:w.cell? ⟨g,0,none⟩=some (.map none)):Calls Tryz.prog 74 #[.pointer (some ⟨g,0,none⟩)] w (NobC (.slice none 0 0) w):=by
 have hK:=callsIn_wide.1 (Tryz.maps_Keys_117 none w)
 have hS:=callsIn_wide.1 (Tryz.slices_Sorted_keys_nil_116_117 w)
 have HK:=Lib.hid hK
 have HS:=Lib.hid hS
 have HB:=Lib.hid (fun o=>(Below.refl w.heap.size w).alloc (Nat.le_refl _) o)
 clear hK hS
 go_enter Tryz.func74,Tryz.ntmps74
 go_wp2_with fail
 refine HK.out.mono ?_
 rintro e w1 ⟨rfl,hw1⟩
 subst hw1
 go_wp2_with fail
 refine HS.out.mono ?_
 rintro e w2 ⟨v,ss,rfl,hss,hrow,hnil,hb⟩
 obtain rfl:=hnil.2 hss
 have HF:=Lib.hid (show Below w.heap.size w w2 from (HB.out _).trans (hb.mono (by simp)))
 clear hss hrow hnil hb
 go_wp2_with fail
 go_ret
 exact ⟨rfl,HF.out⟩
theorem nob_list (w:World) (v:Value) (h:Nob w v):Calls Tryz.prog 78 #[v] w (NobC (.slice none 0 0) w):=by
 rcases h with rfl | ⟨g,rfl,hg⟩
 ·go_enter Tryz.func78,Tryz.ntmps78
  go_wp2_with fail
  go_ret
  exact ⟨rfl,Below.refl _ _⟩
 ·have c3:w.cell? ⟨g,3,none⟩=some (.bool false):=by rw [cell_of_row w g 3 _ _ _ hg];rfl
  have HN:=Lib.hid (nob_names g w (by rw [cell_of_row w g 0 _ _ _ hg];rfl))
  clear hg
  go_enter Tryz.func78,Tryz.ntmps78
  go_wp2_with fail
  refine HN.out.mono ?_
  rintro e w1 ⟨rfl,hb⟩
  have HB:=Lib.hid hb
  clear hb
  go_wp2_with fail
  go_ret
  exact ⟨rfl,HB.out⟩
end Go.Proofs.YtdfibahafilklaaGreatDoor.DK
