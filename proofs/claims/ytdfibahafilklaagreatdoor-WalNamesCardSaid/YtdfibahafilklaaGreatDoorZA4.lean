import Derived.Test.YtdfibahafilklaaGreatDoorZA1
import Derived.Test.YtdfibahafilklaaGreatDoorZA3
set_option maxRecDepth 100000
set_option maxHeartbeats 8000000
set_option linter.unusedVariables false
set_option linter.unusedSimpArgs false
namespace Go.Proofs.YtdfibahafilklaaGreatDoor.MM
open Go.RowKit
theorem OwnB.shape {B:Nat} {w:World} {v:Value} {l:List UInt8} (h:OwnB B w v l) (hl:l.length≠0):∃ g cap,v=.slice (some ⟨g,0,none⟩) l.length cap∧B≤g∧l.length≤cap∧cap≤maxLen:=by
 rcases h.2 with ⟨_,h0⟩ | ⟨g,cap,cur,hv,hb,_,hn,hm,_⟩
 ·exact absurd h0 hl
 ·exact ⟨g,cap,hv,hb,hn,hm⟩
theorem OwnB.free {B:Nat} {w:World} {g n cap:Nat} {l:List UInt8} (h:OwnB B w (.slice (some ⟨g,0,none⟩) n cap) l) (j:Nat):w.frozen? ⟨g,j,none⟩=false:=by
 rcases h.2 with ⟨hv,_⟩ | ⟨g',cap',cur,hv,hb,hh,_⟩
 ·cases hv
 ·simp only [Value.slice.injEq,Option.some.injEq,Addr.mk.injEq] at hv
  obtain ⟨⟨rfl,_⟩,_⟩:=hv
  exact frozen_of_row w g j cur _ hh
theorem OwnB.cell {B:Nat} {w:World} {g n cap j:Nat} {l:List UInt8} {c:UInt8} (h:OwnB B w (.slice (some ⟨g,0,none⟩) n cap) l) (hj:l[j]? = some c):w.cell? ⟨g,j,none⟩=some (.int .u8 (c.toNat:Int)):=by
 obtain ⟨hlt,he⟩:=List.getElem?_eq_some_iff.1 hj
 obtain ⟨b,off,hp,_,hc⟩:=h.brow.at_ hlt
 rcases h.2 with ⟨hv,_⟩ | ⟨g',cap',cur,hv,hb,hh,hn,hm,hs,ht⟩
 ·cases hv
 ·simp only [Value.slice.injEq,Option.some.injEq,Addr.mk.injEq] at hv hp
  obtain ⟨⟨rfl,_⟩,_⟩:=hv
  obtain ⟨rfl,rfl,_⟩:=hp
  rw [he,Nat.zero_add] at hc
  exact hc
theorem OwnB.set {B:Nat} {w:World} {g n cap j:Nat} {l:List UInt8} (h:OwnB B w (.slice (some ⟨g,0,none⟩) n cap) l) (c:UInt8) :
  OwnB B (w.setCell ⟨g,j,none⟩ (.int .u8 (c.toNat:Int))) (.slice (some ⟨g,0,none⟩) n cap) (l.set j c):=by
 refine ⟨by rw [byteCells_len];omega,?_⟩
 rcases h.2 with ⟨hv,_⟩ | ⟨g',cap',cur,hv,hb,hh,hn,hm,hs,ht⟩
 ·cases hv
 ·have hv':=hv
  simp only [Value.slice.injEq,Option.some.injEq,Addr.mk.injEq] at hv
  obtain ⟨⟨rfl,_⟩,hnn,rfl⟩:=hv
  refine .inr ⟨g,cap,cur.setIfInBounds j (.int .u8 (c.toNat:Int)),by rw [List.length_set,hnn],hb,heap_setCell_same w g j cur _ _ hh,by rw [List.length_set];exact hn,hm,by rw [Array.size_setIfInBounds];exact hs,?_⟩
  rw [List.length_set,Array.toList_setIfInBounds,List.take_set,ht]
  simp [Lib.byteCells,List.map_set]
end Go.Proofs.YtdfibahafilklaaGreatDoor.MM
namespace Go.Proofs.YtdfibahafilklaaGreatDoor.CR
open Go.RowKit MM CM
theorem low_code {m:Nat} (hm:m<4294967296):bits .and .u32 (m:Int) 1=((m%2:Nat):Int):=by
 have h:=u32_and_nat m 1 hm (by omega)
 rw [nat_mask1] at h
 exact h
theorem step_code {m:Nat} (hm:m<4294967296):bits .xor .u32 ((m:Int) / 2) ((m:Int)%2*3988292384)=((CM.step m:Nat):Int):=by
 unfold CM.step
 by_cases h:m%2=1
 ·rw [if_pos h,show (m:Int)%2*3988292384=((3988292384:Nat):Int) by omega,show (m:Int) / 2=((m / 2:Nat):Int) by omega]
  exact u32_xor_nat _ _ (by omega) (by omega)
 ·rw [if_neg h,show (m:Int)%2*3988292384=((0:Nat):Int) by omega,show (m:Int) / 2=((m / 2:Nat):Int) by omega,u32_xor_nat _ _ (by omega) (by omega),Nat.xor_zero]
theorem steps_more {k m r:Nat} (hk:k<8) (h:steps (8 - k) m=r):steps (8 - (k+1)) (CM.step m)=r:=by
 rw [show 8 - k=(8 - (k+1))+1 by omega] at h
 exact h
theorem turns_any (n:Nat) (w:World) (hn:n<4294967296):Calls Tryz.prog 203 #[.int .u32 n] w fun e w'=>e=.returned (.int .u32 (steps 8 n))∧w=w':=by
 obtain ⟨r,hr⟩:∃ r,steps 8 n=r:=⟨_,rfl⟩
 rw [hr]
 have HR:Hid (steps (8 - 0) n=r):=Lib.hid hr
 clear hr
 go_enter Tryz.func203,Tryz.ntmps203
 go_wp2_with fail
 go_loop [0,4] (fun s i=>∃ k m:Nat,k≤8∧i=.int .i64 k∧s=.int .u32 m∧m<4294967296∧Hid (steps (8 - k) m=r)) (fun _ i=>8 - (intOf i).toNat)
 case atStart=>exact ⟨0,n,by omega,rfl,rfl,hn,HR⟩
 case round =>
  obtain ⟨k,m,hk,rfl,rfl,hm,H⟩:=hrel
  clear HR
  have hl:=low_code hm
  have hx:=step_code hm
  have hs:=step_lt hm
  go_wp2_with fail
  ·have hlt:(k:Int)<8:=by assumption
   go_round
   case rel=>exact ⟨k+1,CM.step m,by omega,by go_num,rfl,hs,Lib.hid (steps_more (by omega) H.out)⟩
   case measure=>simp [intOf];omega
  ·have hge:(8:Int)≤k:=by assumption
   obtain rfl:k=8:=by omega
   have h:m=r:=H.out
   subst h
   go_ret
   exact ⟨rfl,rfl⟩
end Go.Proofs.YtdfibahafilklaaGreatDoor.CR
namespace Go.Proofs.YtdfibahafilklaaGreatDoor.CR
open Go.RowKit MM CM
theorem zero_arr:∃ Z:Array Value,Z.size=256∧Z[0]? = some (.int .u32 0)∧∀ W,Sem.run Tryz.prog (zeroValue 242) W=.ok (.agg Z) W :=
 ⟨Array.replicate 256 (.int .u32 0),by simp,by simp,fun W=>by kernel_rfl⟩
def Tab (B n:Nat) (w:World):Prop:=∃ cur:Array Value,w.heap[B]? = some (.cells cur 242 (0,0))∧cur.size=256∧∀ k,k<n→cur[k]? = some (.int .u32 (steps 8 k))
theorem Tab.cell {B n:Nat} {w:World} (h:Tab B n w) {k:Nat} (hk:k<n):w.cell? ⟨B,k,none⟩=some (.int .u32 (steps 8 k)):=by
 obtain ⟨cur,hb,_,hc⟩:=h
 rw [cell_of_row w B k cur _ _ hb]
 exact hc k hk
theorem Tab.there {B n:Nat} {w:World} (h:Tab B n w) {k:Nat} (hk:k<256):∃ v,w.cell? ⟨B,k,none⟩=some v:=by
 obtain ⟨cur,hb,hs,_⟩:=h
 exact ⟨cur[k],by rw [cell_of_row w B k cur _ _ hb];simp [hs,hk]⟩
theorem Tab.free {B n:Nat} {w:World} (h:Tab B n w) (k:Nat):w.frozen? ⟨B,k,none⟩=false:=by
 obtain ⟨cur,hb,_,_⟩:=h
 exact frozen_of_row w B k cur _ hb
theorem Tab.put {B n:Nat} {w:World} (h:Tab B n w) (hn:n<256):Tab B (n+1) (w.setCell ⟨B,n,none⟩ (.int .u32 (steps 8 n))):=by
 obtain ⟨cur,hb,hs,hc⟩:=h
 refine ⟨_,heap_setCell_same w B n cur _ _ hb,by simp [hs],fun k hk => ?_⟩
 by_cases hkn:k=n
 ·subst hkn
  simp [hs,hn]
 ·rw [Array.getElem?_setIfInBounds_ne (by omega)]
  exact hc k (by omega)
theorem Tab.mono {B n m:Nat} {w:World} (h:Tab B n w) (hm:m≤n):Tab B m w:=by
 obtain ⟨cur,hb,hs,hc⟩:=h
 exact ⟨cur,hb,hs,fun k hk=>hc k (by omega)⟩
def tab:Array Value:=((List.range 256).map (fun k=>Value.int .u32 (steps 8 k:Nat))).toArray
theorem tab_size:tab.size=256:=by simp [tab]
theorem tab_get {k:Nat} (hk:k<256):tab[k]? = some (.int .u32 (steps 8 k:Nat)):=by simp [tab,hk]
theorem Tab.all {B:Nat} {w:World} (h:Tab B 256 w):w.heap[B]? = some (.cells tab 242 (0,0)):=by
 obtain ⟨cur,hb,hs,hc⟩:=h
 have:cur=tab:=by
  apply Array.ext_getElem?
  intro k
  by_cases hk:k<256
  ·rw [hc k hk,tab_get hk]
  ·rw [Array.getElem?_eq_none (by omega),Array.getElem?_eq_none (by rw [tab_size];omega)]
 rw [← this]
 exact hb
theorem infoArr:(Tryz.prog.info? 242).map (·.size)=some 256:=by kernel_rfl
theorem pow_xor_all:∀ j:Fin 8,∀ k:Fin 128,k.val<2^j.val→2^j.val ^^^ k.val=2^j.val+k.val:=by decide +kernel
theorem pow_xor:∀ j,j<8→∀ k,k<2^j→2^j ^^^ k=2^j+k:=by
 intro j hj k hk
 have h1:2^j≤2^7:=Nat.pow_le_pow_right (by omega) (by omega)
 exact pow_xor_all ⟨j,hj⟩ ⟨k,by omega⟩ hk
theorem tab_one:tab.all (·.oneCell')=true:=by
 rw [Array.all_eq_true]
 intro k hk
 rw [tab_size] at hk
 have h:=tab_get hk
 rw [Array.getElem?_eq_some_iff] at h
 obtain ⟨_,h⟩:=h
 rw [h]
 rfl
theorem below_setRow {B g:Nat} {a w:World} (cs:Array Value) (h:Below B a w) (hg:B≤g):Below B a (w.setRow g cs) :=
 ⟨h.os,h.tape,h.output,by rw [setRow_size];exact h.size,fun i hi=>by rw [setRow_other w g i cs (by omega)];exact h.block i hi⟩
theorem pow_bits {j k:Nat} (hj:j<8) (hk:k<2^j):bits .xor .u32 ((steps 8 (2^j):Nat):Int) ((steps 8 k:Nat):Int)=((steps 8 (2^j+k):Nat):Int):=by
 have h1:2^j≤2^7:=Nat.pow_le_pow_right (by omega) (by omega)
 rw [u32_xor_nat _ _ (steps_lt 8 (by omega)) (steps_lt 8 (by omega)),← steps_xor,pow_xor j hj k hk]
theorem tab_any (w:World):Calls Tryz.prog 187 #[] w fun e w'=>e=.returned (.agg tab)∧Below w.heap.size w w':=by
 obtain ⟨T,hT⟩:∃ T,tab=T:=⟨_,rfl⟩
 have HTs:Hid (T.size=256):=Lib.hid (hT▸tab_size)
 have HT1:Hid (T.all (·.oneCell')=true):=Lib.hid (hT▸tab_one)
 have HTab:Hid (∀ W,Tab w.heap.size 256 W→W.heap[w.heap.size]? = some (.cells T 242 (0,0))):=Lib.hid (fun W h=>hT▸h.all)
 rw [hT]
 clear hT
 obtain ⟨Z,hZ,hZ0,hz⟩:=zero_arr
 have ht0:Tab w.heap.size 1 (w.alloc (.cells Z 242)):=⟨Z,heap_alloc_new _ _,hZ,fun k hk=>by obtain rfl:k=0:=(by omega);rw [hZ0,steps_none];rfl⟩
 have hb0:Below w.heap.size w (w.alloc (.cells Z 242)):=(Below.refl _ _).alloc (Nat.le_refl _) _
 have HT0:=Lib.hid ht0
 have HB0:=Lib.hid hb0
 clear ht0 hb0 hZ hZ0
 go_enter Tryz.func187,Tryz.ntmps187
 go_wp2_with fail
 go_loopw [1] (fun h wr=>∃ j H:Nat,j≤8∧Hid (2^j=H)∧h=.int .i64 H∧0<H∧H≤256∧Hid (Tab w.heap.size H wr)∧Hid (Below w.heap.size w wr)) (fun h _=>256 - (intOf h).toNat)
 case atStart=>exact ⟨0,1,by omega,Lib.hid rfl,rfl,by omega,by omega,HT0,HB0⟩
 case round =>
  obtain ⟨j,H,hj,HJ,rfl,h0,h256,HT,HB⟩:=hrel
  clear HT0 HB0 hz
  by_cases hlt:H<256
  ·have hu:H<4294967296:=by omega
   go_wp2_with fail
   refine (turns_any H _ hu).mono ?_
   rintro e w1 ⟨rfl,rfl⟩
   have hs0:=steps_lt 8 hu
   go_wp2_with fail
   go_loopw [12] (fun i wr2=>∃ k:Nat,k≤H∧i=.int .i64 k∧Hid (Tab w.heap.size (H+k) wr2)∧Hid (Below w.heap.size w wr2)) (fun i _=>H - (intOf i).toNat)
   case atStart=>exact ⟨0,by omega,rfl,HT,HB⟩
   case round =>
    obtain ⟨k,hk,rfl,HT2,HB2⟩:=hrel
    clear HT HB
    by_cases hkH:k<H
    ·have hcell:=HT2.out.cell (k:=k) (by omega)
     have hfz:=HT2.out.free (H+k)
     have hp:H=2^j:=HJ.out.symm
     have hj8:j<8:=by
      rcases Nat.lt_or_ge j 8 with h | h
      ·exact h
      ·have:j=8:=by omega
       rw [this] at hp
       omega
     have hxor:=pow_bits (j:=j) (k:=k) hj8 (hp▸hkH)
     have hp1:2^(j+1)=H*2:=by rw [Nat.pow_succ,← hp]
     have hp2:2^(j+1)≤2^8:=Nat.pow_le_pow_right (by omega) (by omega)
     have hH:H*2≤256:=by omega
     clear hp1 hp2
     obtain ⟨old,hold⟩:=HT2.out.there (k:=H+k) (by omega)
     have hb1:(0:Int)≤(H:Int)+k:=by omega
     have hb2:(H:Int)+k<256:=by omega
     rw [← hp] at hxor
     have HT3:=Lib.hid (HT2.out.put (by omega))
     have HB3:=Lib.hid (HB2.out.setCell (p:=⟨w.heap.size,H+k,none⟩) (Nat.le_refl _) (.int .u32 (steps 8 (H+k):Nat)))
     clear hp hj8 HT2 HB2
     go_wp2_with fail
     go_roundw
     case rel=>exact ⟨k+1,by omega,by go_num,HT3,HB3⟩
     case measure=>simp [intOf];omega
    ·obtain rfl:k=H:=by omega
     go_wp2_with fail
     go_roundw
     have hp:2^j=k:=HJ.out
     have hj8:j<8:=by
      rcases Nat.lt_or_ge j 8 with h | h
      ·exact h
      ·have:j=8:=by omega
       rw [this] at hp
       omega
     have hp1:2^(j+1)=k*2:=by rw [Nat.pow_succ,hp]
     have hp2:2^(j+1)≤2^8:=Nat.pow_le_pow_right (by omega) (by omega)
     case rel=>exact ⟨j+1,k*2,by omega,Lib.hid hp1,by go_num,by omega,by omega,Lib.hid (HT2.out.mono (by omega)),HB2⟩
     case measure=>simp [intOf];omega
  ·obtain rfl:H=256:=by omega
   have hg:=HTab.out _ HT.out
   have hs:=HTs.out
   have hi:(Tryz.prog.info? 242).map (·.size)=some T.size:=by rw [hs];exact infoArr
   have hg2:=setRow_heap wr w.heap.size T T _ _ hg
   have HG2:=Lib.hid hg2
   have HB3:=Lib.hid (below_setRow T HB.out (Nat.le_refl _))
   clear hg2 hs
   go_wp2_with (first | refine wpList_load_row rfl 242 (.tmp 0) rfl w.heap.size rfl 242 T (0,0) (.array 256 159) hg Tryz.underlying242 rfl hi ?_ | refine wpList_store_row rfl 242 (.tmp 0) (.tmp 25) rfl w.heap.size T rfl rfl 242 T hg hi rfl HT1.out ?_)
   refine bodyPost_ret (v:=.agg T) (results_cell_row rfl _ _ w.heap.size 242 T (0,0) (.array 256 159) rfl HG2.out Tryz.underlying242 rfl hi) rfl ⟨rfl,HB3.out⟩
end Go.Proofs.YtdfibahafilklaaGreatDoor.CR
