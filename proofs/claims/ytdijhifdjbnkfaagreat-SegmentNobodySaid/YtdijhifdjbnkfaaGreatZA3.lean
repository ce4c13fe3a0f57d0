/-
  
-/
import Derived.Test.YtdijhifdjbnkfaaGreatZA1
import Derived.Test.YtdijhifdjbnkfaaGreatZA2
set_option linter.unusedVariables false
namespace Go.Proofs.YtdijhifdjbnkfaaGreat.MM
open Go.RowKit
theorem same_list (l m:List UInt8):((⟨l.toArray⟩:ByteArray).toList == (⟨m.toArray⟩:ByteArray).toList)=decide (l=m):=by
 rw [Lib.toList_data,Lib.toList_data]
 by_cases h:l=m
 ·subst h;simp
 ·simp [h]
end Go.Proofs.YtdijhifdjbnkfaaGreat.MM
set_option linter.unusedVariables false
namespace Go.Proofs.YtdijhifdjbnkfaaGreat.SG
open Go Go.RowKit Go.Proofs.YtdijhifdjbnkfaaGreat.MM
def BoolSame (b:Bool) (w:World) (e:Ending) (w':World):Prop:=e=.returned (.bool b)∧w=w'
set_option maxRecDepth 100000 in
set_option maxHeartbeats 1000000 in
theorem equal_any (u v:Value) (xs ys:List UInt8) (w:World) (hu:BRow w u xs) (hv:BRow w v ys):Calls Tryz.prog 50 #[u,v] w (BoolSame (decide (xs=ys)) w):=by
 have h1:=BIn.conv hu
 have h2:=BIn.conv hv
 have hsl:=same_list xs ys
 obtain ⟨p1,c1,rfl,_⟩:=hu.shape
 obtain ⟨p2,c2,rfl,_⟩:=hv.shape
 clear hu hv
 cases hd:decide (xs=ys) with
 | true =>
   rw [hd] at hsl
   have r3:(xs == ys)=true:=by rw [beq_iff_eq];exact of_decide_eq_true hd
   clear hd
   go_enter Tryz.func50,Tryz.ntmps50
   go_wp2_with fail
   go_ret
   exact ⟨rfl,rfl⟩
 | false =>
   rw [hd] at hsl
   have r3:(xs == ys)=false:=by rw [beq_eq_false_iff_ne];exact of_decide_eq_false hd
   clear hd
   go_enter Tryz.func50,Tryz.ntmps50
   go_wp2_with fail
   go_ret
   exact ⟨rfl,rfl⟩
set_option maxRecDepth 100000 in
set_option maxHeartbeats 1000000 in
theorem hasp_any (u v:Value) (xs ys:List UInt8) (w:World) (hu:BRow w u xs) (hv:BRow w v ys):Calls Tryz.prog 152 #[u,v] w (BoolSame (decide (xs.take ys.length=ys)) w):=by
 obtain ⟨p1,c1,rfl,hl1,hm1⟩:=hu.shape
 obtain ⟨p2,c2,rfl,_⟩:=hv.shape
 unfold maxLen at hm1
 by_cases h:ys.length≤xs.length
 ·have hE:=equal_any _ _ _ ys w (BIn.take hu ys.length h) hv
  have q1:decide ((xs.length:Int)≥(ys.length:Int))=true:=by rw [decide_eq_true_eq];omega
  have q2:decide ((ys.length:Int)≤(xs.length:Int))=true:=by rw [decide_eq_true_eq];omega
  have q3:decide (ys.length≤xs.length)=true:=decide_eq_true h
  have i1:(ys.length:Int)≤(c1:Int):=by omega
  have HE:=Lib.hid hE
  obtain ⟨B,hB⟩:∃ B,decide (xs.take ys.length=ys)=B:=⟨_,rfl⟩
  rw [hB] at HE ⊢
  clear hu hv hE h hB
  go_enter Tryz.func152,Tryz.ntmps152
  go_wp2_with fail
  refine HE.out.mono ?_
  rintro e w1 ⟨rfl,rfl⟩
  go_wp2_with fail
  go_ret
  exact ⟨rfl,rfl⟩
 ·have e:decide (xs.take ys.length=ys)=false:=by
   rw [decide_eq_false_iff_not]
   intro h1
   have:=congrArg List.length h1
   rw [List.length_take] at this
   omega
  have q1:decide ((xs.length:Int)≥(ys.length:Int))=false:=by rw [decide_eq_false_iff_not];omega
  have q2:decide ((ys.length:Int)≤(xs.length:Int))=false:=by rw [decide_eq_false_iff_not];omega
  have q3:decide (ys.length≤xs.length)=false:=decide_eq_false h
  rw [e]
  clear hu hv h e
  go_enter Tryz.func152,Tryz.ntmps152
  go_wp2_with fail
  go_ret
  exact ⟨rfl,rfl⟩
def CutLeft (B:Nat) (xs ys:List UInt8) (w:World) (e:Ending) (w':World):Prop:=∃ u,e=.returned (.tuple #[u,.bool (decide (xs.take ys.length=ys))])∧(xs.take ys.length=ys→BIn B w' u (xs.drop ys.length))∧u.oneCell'=true∧w=w'
set_option maxRecDepth 100000 in
set_option maxHeartbeats 1000000 in
theorem cutp_any (B:Nat) (u v:Value) (xs ys:List UInt8) (w:World) (hu:BIn B w u xs) (hB:B≤w.heap.size) (hv:BRow w v ys):Calls Tryz.prog 99 #[u,v] w (CutLeft B xs ys w):=by
 have HP:=hasp_any u v xs ys w (hu.row hB) hv
 obtain ⟨p1,c1,rfl,hl1,hm1⟩:=hu.shape
 obtain ⟨p2,c2,rfl,_⟩:=hv.shape
 unfold maxLen at hm1
 unfold CutLeft
 by_cases h:xs.take ys.length=ys
 ·rw [decide_eq_true h] at HP ⊢
  have hl:ys.length≤xs.length:=by
   have:=congrArg List.length h
   rw [List.length_take] at this
   omega
  have HH:=Lib.hid HP
  have HD:=Lib.hid (BIn.drop3 hu ys.length hl)
  have i1:(ys.length:Int)≤(xs.length:Int):=by omega
  have i2:(xs.length:Int)≤(c1:Int):=by omega
  clear hu hv h HP
  by_cases hc:c1=ys.length
  ·subst hc
   go_enter Tryz.func99,Tryz.ntmps99
   go_wp2_with fail
   refine HH.out.mono ?_
   rintro e w1 ⟨rfl,rfl⟩
   go_wp2_with fail
   go_ret2
   exact ⟨_,rfl,fun _=>(by have h:=HD.out.1 trivial;rw [show xs.length - ys.length=0 by omega] at h;exact h),rfl,rfl⟩
  ·go_enter Tryz.func99,Tryz.ntmps99
   go_wp2_with fail
   refine HH.out.mono ?_
   rintro e w1 ⟨rfl,rfl⟩
   go_wp2_with fail
   go_ret2
   exact ⟨_,rfl,fun _=>HD.out.2 hc,rfl,rfl⟩
 ·rw [decide_eq_false h] at HP ⊢
  have HH:=Lib.hid HP
  have HN:=Lib.hid h
  clear hu hv h HP
  go_enter Tryz.func99,Tryz.ntmps99
  go_wp2_with fail
  refine HH.out.mono ?_
  rintro e w1 ⟨rfl,rfl⟩
  go_wp2_with fail
  go_ret2
  exact ⟨_,rfl,fun h=>absurd h HN.out,rfl,rfl⟩
end Go.Proofs.YtdijhifdjbnkfaaGreat.SG
set_option linter.unusedVariables false
namespace Go.Proofs.YtdijhifdjbnkfaaGreat.CR
open Go.RowKit Go.Proofs.YtdijhifdjbnkfaaGreat.MM Go.Proofs.YtdijhifdjbnkfaaGreat.CM
theorem zero_arr:∃ Z:Array Value,Z.size=256∧Z[0]? = some (.int .u32 0)∧∀ W,Sem.run Tryz.prog (zeroValue 308) W=.ok (.agg Z) W :=
 ⟨Array.replicate 256 (.int .u32 0),by simp,by simp,fun W=>by kernel_rfl⟩
def Tab (B n:Nat) (w:World):Prop:=∃ cur:Array Value,w.heap[B]? = some (.cells cur 308 (0,0))∧cur.size=256∧∀ k,k<n→cur[k]? = some (.int .u32 (steps 8 k))
theorem Tab.cell {B n:Nat} {w:World} (h:Tab B n w) {k:Nat} (hk:k<n):w.cell? ⟨B,k,none⟩=some (.int .u32 (steps 8 k)):=by
 obtain ⟨cur,hb,_,hc⟩:=h
 rw [cell_of_row w B k cur _ _ hb]
 exact hc k hk
theorem Tab.there {B n:Nat} {w:World} (h:Tab B n w) {k:Nat} (hk:k<256):∃ v,w.cell? ⟨B,k,none⟩=some v:=by
 obtain ⟨cur,hb,hs,_⟩:=h
 exact ⟨cur[k],by rw [cell_of_row w B k cur _ _ hb];simp [hs,hk]⟩
theorem Tab.free {B n:Nat} {w:World} (h:Tab B n w) (k:Nat):w.frozen? ⟨B,k,none⟩=false:=by
 obtain ⟨cur,hb,_,_⟩:=h
 exact frozen_of_row w B k cur _ hb
theorem Tab.put {B n:Nat} {w:World} (h:Tab B n w) (hn:n<256):Tab B (n+1) (w.setCell ⟨B,n,none⟩ (.int .u32 (steps 8 n))):=by
 obtain ⟨cur,hb,hs,hc⟩:=h
 refine ⟨_,heap_setCell_same w B n cur _ _ hb,by simp [hs],fun k hk => ?_⟩
 by_cases hkn:k=n
 ·subst hkn
  simp [hs,hn]
 ·rw [Array.getElem?_setIfInBounds_ne (by omega)]
  exact hc k (by omega)
theorem Tab.mono {B n m:Nat} {w:World} (h:Tab B n w) (hm:m≤n):Tab B m w:=by
 obtain ⟨cur,hb,hs,hc⟩:=h
 exact ⟨cur,hb,hs,fun k hk=>hc k (by omega)⟩
def tab:Array Value:=((List.range 256).map (fun k=>Value.int .u32 (steps 8 k:Nat))).toArray
theorem tab_size:tab.size=256:=by simp [tab]
theorem tab_get {k:Nat} (hk:k<256):tab[k]? = some (.int .u32 (steps 8 k:Nat)):=by simp [tab,hk]
theorem Tab.all {B:Nat} {w:World} (h:Tab B 256 w):w.heap[B]? = some (.cells tab 308 (0,0)):=by
 obtain ⟨cur,hb,hs,hc⟩:=h
 have:cur=tab:=by
  apply Array.ext_getElem?
  intro k
  by_cases hk:k<256
  ·rw [hc k hk,tab_get hk]
  ·rw [Array.getElem?_eq_none (by omega),Array.getElem?_eq_none (by rw [tab_size];omega)]
 rw [← this]
 exact hb
theorem infoArr:(Tryz.prog.info? 308).map (·.size)=some 256:=by kernel_rfl
theorem pow_xor_all:∀ j:Fin 8,∀ k:Fin 128,k.val<2^j.val→2^j.val ^^^ k.val=2^j.val+k.val:=by decide +kernel
theorem pow_xor:∀ j,j<8→∀ k,k<2^j→2^j ^^^ k=2^j+k:=by
 intro j hj k hk
 have h1:2^j≤2^7:=Nat.pow_le_pow_right (by omega) (by omega)
 exact pow_xor_all ⟨j,hj⟩ ⟨k,by omega⟩ hk
theorem tab_one:tab.all (·.oneCell')=true:=by
 rw [Array.all_eq_true]
 intro k hk
 rw [tab_size] at hk
 have h:=tab_get hk
 rw [Array.getElem?_eq_some_iff] at h
 obtain ⟨_,h⟩:=h
 rw [h]
 rfl
theorem below_setRow {B g:Nat} {a w:World} (cs:Array Value) (h:Below B a w) (hg:B≤g):Below B a (w.setRow g cs) :=
 ⟨h.os,h.tape,h.output,by rw [setRow_size];exact h.size,fun i hi=>by rw [setRow_other w g i cs (by omega)];exact h.block i hi⟩
theorem pow_bits {j k:Nat} (hj:j<8) (hk:k<2^j):bits .xor .u32 ((steps 8 (2^j):Nat):Int) ((steps 8 k:Nat):Int)=((steps 8 (2^j+k):Nat):Int):=by
 have h1:2^j≤2^7:=Nat.pow_le_pow_right (by omega) (by omega)
 rw [u32_xor_nat _ _ (steps_lt 8 (by omega)) (steps_lt 8 (by omega)),← steps_xor,pow_xor j hj k hk]
set_option maxRecDepth 100000 in
theorem tab_any (w:World):Calls Tryz.prog 245 #[] w fun e w'=>e=.returned (.agg tab)∧Below w.heap.size w w':=by
 obtain ⟨T,hT⟩:∃ T,tab=T:=⟨_,rfl⟩
 have HTs:Hid (T.size=256):=Lib.hid (hT▸tab_size)
 have HT1:Hid (T.all (·.oneCell')=true):=Lib.hid (hT▸tab_one)
 have HTab:Hid (∀ W,Tab w.heap.size 256 W→W.heap[w.heap.size]? = some (.cells T 308 (0,0))):=Lib.hid (fun W h=>hT▸h.all)
 rw [hT]
 clear hT
 obtain ⟨Z,hZ,hZ0,hz⟩:=zero_arr
 have ht0:Tab w.heap.size 1 (w.alloc (.cells Z 308)):=⟨Z,heap_alloc_new _ _,hZ,fun k hk=>by obtain rfl:k=0:=(by omega);rw [hZ0,steps_none];rfl⟩
 have hb0:Below w.heap.size w (w.alloc (.cells Z 308)):=(Below.refl _ _).alloc (Nat.le_refl _) _
 have HT0:=Lib.hid ht0
 have HB0:=Lib.hid hb0
 clear ht0 hb0 hZ hZ0
 go_enter Tryz.func245,Tryz.ntmps245
 go_wp2_with fail
 go_loopw [1] (fun h wr=>∃ j H:Nat,j≤8∧Hid (2^j=H)∧h=.int .i64 H∧0<H∧H≤256∧Hid (Tab w.heap.size H wr)∧Hid (Below w.heap.size w wr)) (fun h _=>256 - (intOf h).toNat)
 case atStart=>exact ⟨0,1,by omega,Lib.hid rfl,rfl,by omega,by omega,HT0,HB0⟩
 case round =>
  obtain ⟨j,H,hj,HJ,rfl,h0,h256,HT,HB⟩:=hrel
  clear HT0 HB0 hz
  by_cases hlt:H<256
  ·have hu:H<4294967296:=by omega
   go_wp2_with fail
   refine (turns_any H _ hu).mono ?_
   rintro e w1 ⟨rfl,rfl⟩
   have hs0:=steps_lt 8 hu
   go_wp2_with fail
   go_loopw [12] (fun i wr2=>∃ k:Nat,k≤H∧i=.int .i64 k∧Hid (Tab w.heap.size (H+k) wr2)∧Hid (Below w.heap.size w wr2)) (fun i _=>H - (intOf i).toNat)
   case atStart=>exact ⟨0,by omega,rfl,HT,HB⟩
   case round =>
    obtain ⟨k,hk,rfl,HT2,HB2⟩:=hrel
    clear HT HB
    by_cases hkH:k<H
    ·have hcell:=HT2.out.cell (k:=k) (by omega)
     have hfz:=HT2.out.free (H+k)
     have hp:H=2^j:=HJ.out.symm
     have hj8:j<8:=by
      rcases Nat.lt_or_ge j 8 with h | h
      ·exact h
      ·have:j=8:=by omega
       rw [this] at hp
       omega
     have hxor:=pow_bits (j:=j) (k:=k) hj8 (hp▸hkH)
     have hp1:2^(j+1)=H*2:=by rw [Nat.pow_succ,← hp]
     have hp2:2^(j+1)≤2^8:=Nat.pow_le_pow_right (by omega) (by omega)
     have hH:H*2≤256:=by omega
     clear hp1 hp2
     obtain ⟨old,hold⟩:=HT2.out.there (k:=H+k) (by omega)
     have hb1:(0:Int)≤(H:Int)+k:=by omega
     have hb2:(H:Int)+k<256:=by omega
     rw [← hp] at hxor
     have HT3:=Lib.hid (HT2.out.put (by omega))
     have HB3:=Lib.hid (HB2.out.setCell (p:=⟨w.heap.size,H+k,none⟩) (Nat.le_refl _) (.int .u32 (steps 8 (H+k):Nat)))
     clear hp hj8 HT2 HB2
     go_wp2_with fail
     go_roundw
     case rel=>exact ⟨k+1,by omega,by go_num,HT3,HB3⟩
     case measure=>simp [intOf];omega
    ·obtain rfl:k=H:=by omega
     go_wp2_with fail
     go_roundw
     have hp:2^j=k:=HJ.out
     have hj8:j<8:=by
      rcases Nat.lt_or_ge j 8 with h | h
      ·exact h
      ·have:j=8:=by omega
       rw [this] at hp
       omega
     have hp1:2^(j+1)=k*2:=by rw [Nat.pow_succ,hp]
     have hp2:2^(j+1)≤2^8:=Nat.pow_le_pow_right (by omega) (by omega)
     case rel=>exact ⟨j+1,k*2,by omega,Lib.hid hp1,by go_num,by omega,by omega,Lib.hid (HT2.out.mono (by omega)),HB2⟩
     case measure=>simp [intOf];omega
  ·obtain rfl:H=256:=by omega
   have hg:=HTab.out _ HT.out
   have hs:=HTs.out
   have hi:(Tryz.prog.info? 308).map (·.size)=some T.size:=by rw [hs];exact infoArr
   have hg2:=setRow_heap wr w.heap.size T T _ _ hg
   have HG2:=Lib.hid hg2
   have HB3:=Lib.hid (below_setRow T HB.out (Nat.le_refl _))
   clear hg2 hs
   go_wp2_with (first | refine wpList_load_row rfl 308 (.tmp 0) rfl w.heap.size rfl 308 T (0,0) (.array 256 183) hg Tryz.underlying308 rfl hi ?_ | refine wpList_store_row rfl 308 (.tmp 0) (.tmp 25) rfl w.heap.size T rfl rfl 308 T hg hi rfl HT1.out ?_)
   refine bodyPost_ret (v:=.agg T) (results_cell_row rfl _ _ w.heap.size 308 T (0,0) (.array 256 183) rfl HG2.out Tryz.underlying308 rfl hi) rfl ⟨rfl,HB3.out⟩
end Go.Proofs.YtdijhifdjbnkfaaGreat.CR
set_option linter.unusedVariables false
namespace Go.Proofs.YtdijhifdjbnkfaaGreat.CR
open Go.RowKit Go.Proofs.YtdijhifdjbnkfaaGreat.MM Go.Proofs.YtdijhifdjbnkfaaGreat.CM
def PRow (w:World) (v:Value) (ls:List (List UInt8)):Prop:=∃ xs,Row w v xs∧xs.length=ls.length∧∀ i (h:i<ls.length),∃ x,xs[i]? = some x∧BRow w x ls[i]
theorem PRow.below {w w':World} {v:Value} {ls:List (List UInt8)} (h:PRow w v ls) (hb:Below w.heap.size w w'):PRow w' v ls:=by
 obtain ⟨xs,hr,hl,hx⟩:=h
 refine ⟨xs,Row.below (B:=0) hr hb,hl,fun i hi => ?_⟩
 obtain ⟨x,h1,h2⟩:=hx i hi
 exact ⟨x,h1,h2.below hb⟩
theorem PRow.shape {w:World} {v:Value} {ls:List (List UInt8)} (h:PRow w v ls):∃ p cap,v=.slice p ls.length cap∧ls.length≤cap∧cap≤maxLen:=by
 obtain ⟨xs,⟨p,cap,hv,h1,h2,_,_⟩,hl,_⟩:=h
 rw [hl] at hv h1
 exact ⟨p,cap,hv,h1,h2⟩
theorem PRow.at_ {w:World} {p:Option Addr} {n cap:Nat} {ls:List (List UInt8)} (h:PRow w (.slice p n cap) ls) {k:Nat} (hk:k<ls.length) :
  ∃ b off x,p=some ⟨b,off,none⟩∧w.cell? ⟨b,off+k,none⟩=some x∧BRow w x ls[k]:=by
 obtain ⟨xs,⟨p',cap',hv,_,_,_,h⟩,hl,hx⟩:=h
 simp only [Value.slice.injEq] at hv
 obtain ⟨rfl,_,_⟩:=hv
 obtain ⟨x,h1,h2⟩:=hx k hk
 rcases h with h | ⟨b,off,hp,hlt,hc⟩
 ·rw [h] at h1;simp at h1
 ·exact ⟨b,off,x,hp,hc k _ h1,h2⟩
theorem prow_lit {w:World} (xs:List Value) (ls:List (List UInt8)) (hl:xs.length=ls.length) (hm:xs.length≤maxLen) (h:∀ i (h:i<ls.length),∃ x,xs[i]? = some x∧BRow w x ls[i]) :
  PRow (w.alloc (.cells xs.toArray 23)) (.slice (some ⟨w.heap.size,0,none⟩) xs.length xs.length) ls:=by
 have hb:Below w.heap.size w (w.alloc (.cells xs.toArray 23)):=(Below.refl _ _).alloc (Nat.le_refl _) _
 refine ⟨xs,⟨some ⟨w.heap.size,0,none⟩,xs.length,rfl,Nat.le_refl _,hm,(fun h=>by cases h),.inr ⟨w.heap.size,0,rfl,by simp,fun i u hi => ?_⟩⟩,hl,fun i hi => ?_⟩
 ·rw [cell_of_row _ w.heap.size _ _ _ _ (heap_alloc_new _ _)]
  simpa using hi
 ·obtain ⟨x,h1,h2⟩:=h i hi
  exact ⟨x,h1,h2.below hb⟩
theorem xor_low (q r b:Nat) (hr:r<256) (hb:b<256):(256*q+r) ^^^ b=256*q+(r ^^^ b):=by
 have h1:=Nat.xor_mod_two_pow (a:=256*q+r) (b:=b) (n:=8)
 have h2:=Nat.shiftRight_xor_distrib (a:=256*q+r) (b:=b) (i:=8)
 rw [Nat.shiftRight_eq_div_pow,Nat.shiftRight_eq_div_pow,Nat.shiftRight_eq_div_pow] at h2
 rw [show (2:Nat)^8=256 from rfl] at h1 h2
 rw [show (256*q+r)%256=r by omega,show b%256=b by omega] at h1
 rw [show (256*q+r) / 256=q by omega,show b / 256=0 by omega,Nat.xor_zero] at h2
 omega
theorem onB_table (m b:Nat) (hb:b<256):onB m b=steps 8 (m%256 ^^^ b) ^^^ m / 256:=by
 have hz:m%256 ^^^ b<256:=Nat.xor_lt_two_pow (n:=8) (by omega) hb
 have h1:=xor_low (m / 256) (m%256) b (by omega) hb
 have h2:=xor_low (m / 256) 0 (m%256 ^^^ b) (by omega) hz
 rw [Nat.zero_xor,Nat.add_zero] at h2
 rw [show 256*(m / 256)+m%256=m by omega] at h1
 unfold onB
 rw [h1,← h2,steps_xor,steps_byte,Nat.xor_comm]
theorem table_byte (m:Nat) (c:UInt8):bits .xor .u8 ((m:Int)%256) (c.toNat:Int)=((m%256 ^^^ c.toNat:Nat):Int):=by
 rw [show (m:Int)%256=((m%256:Nat):Int) by omega]
 exact u8_xor_nat _ _ (by omega) c.toNat_lt
theorem table_step (m:Nat) (c:UInt8) (hm:m<4294967296):bits .xor .u32 ((steps 8 (m%256 ^^^ c.toNat):Nat):Int) ((m:Int) / 256)=((onB m c.toNat:Nat):Int):=by
 have hz:m%256 ^^^ c.toNat<256:=Nat.xor_lt_two_pow (n:=8) (by omega) c.toNat_lt
 rw [show (m:Int) / 256=((m / 256:Nat):Int) by omega,u32_xor_nat _ _ (steps_lt 8 (by omega)) (by omega),onB_table m _ c.toNat_lt]
theorem run_flat_take {ls:List (List UInt8)} {k:Nat} (hk:k<ls.length):(ls.drop k).flatten=ls[k]++(ls.drop (k+1)).flatten:=by
 rw [List.drop_eq_getElem_cons hk,List.flatten_cons]
end Go.Proofs.YtdijhifdjbnkfaaGreat.CR
set_option linter.unusedVariables false
namespace Go.Proofs.YtdijhifdjbnkfaaGreat.CR
open Go.RowKit Go.Proofs.YtdijhifdjbnkfaaGreat.MM Go.Proofs.YtdijhifdjbnkfaaGreat.CM
theorem nat_not {n:Nat} (hn:n<4294967296):4294967295 ^^^ n=4294967295 - n:=by
 have h:=congrArg BitVec.toNat (BitVec.allOnes_xor (x:=BitVec.ofNat 32 n))
 simp only [BitVec.toNat_xor,BitVec.toNat_allOnes,BitVec.toNat_not,BitVec.toNat_ofNat] at h
 rw [show n%2^32=n by omega] at h
 simpa using h
theorem not_code {n:Nat} (hn:n<4294967296):bits .xor .u32 IntKind.u32.max (n:Int)=((notB n:Nat):Int):=by
 have h:=u32_xor_nat 4294967295 n (by omega) hn
 rw [nat_not hn] at h
 exact h
theorem u32_unsigned:IntKind.u32.signed=false:=rfl
theorem Tab.of_row {B:Nat} {w:World} {T:Array Value} (hT:tab=T) (h:w.heap[B]? = some (.cells T 308 (0,0))):Tab B 256 w:=by
 subst hT
 exact ⟨tab,h,tab_size,fun k hk=>tab_get hk⟩
theorem run_drop {l R:List UInt8} {m j r:Nat} (hj:j<l.length) (h:run m (l.drop j++R)=r):run (onB m (l[j]).toNat) (l.drop (j+1)++R)=r:=by
 rw [List.drop_eq_getElem_cons hj,List.cons_append,run_cons] at h
 exact h
set_option maxRecDepth 100000 in
theorem goon_any (s:Nat) (v:Value) (ls:List (List UInt8)) (w:World) (hs:s<4294967296) (hr:PRow w v ls) :
  Calls Tryz.prog 205 #[.int .u32 s,v] w fun e w'=>e=.returned (.int .u32 (nextL s ls.flatten:Nat))∧Below w.heap.size w w':=by
 obtain ⟨p,cap,rfl,hlc,hcm⟩:=hr.shape
 unfold maxLen at hcm
 obtain ⟨T,hT⟩:∃ T,tab=T:=⟨_,rfl⟩
 have HTs:Hid (T.size=256):=Lib.hid (hT▸tab_size)
 have HT1:Hid (T.all (·.oneCell')=true):=Lib.hid (hT▸tab_one)
 have HTab:Hid (∀ B W,W.heap[B]? = some (.cells T 308 (0,0))→Tab B 256 W):=Lib.hid (fun B W h=>Tab.of_row hT h)
 have hK:=fun W=>tab_any W
 rw [hT] at hK
 have HK:=Lib.hid hK
 obtain ⟨Z,hZ,hZ0,hz⟩:=zero_arr
 obtain ⟨r,hrr⟩:∃ r,run (notB s) ls.flatten=r:=⟨_,rfl⟩
 have HRes:Hid (nextL s ls.flatten=notB r):=Lib.hid (by unfold nextL;rw [hrr])
 have HR0:Hid (run (notB s) (ls.drop 0).flatten=r):=Lib.hid hrr
 have HZ:=Lib.hid hZ
 have HP:=Lib.hid hr
 obtain ⟨F,hF⟩:∃ F,nextL s ls.flatten=F:=⟨_,rfl⟩
 rw [hF]
 rw [hF] at HRes
 clear hT hK hZ hZ0 hrr hr hF
 go_enter Tryz.func205,Tryz.ntmps205
 go_wp2_with fail
 refine (HK.out _).mono ?_
 rintro e w1 ⟨rfl,hb1⟩
 have hb2:Below w.heap.size w (w1.alloc (.cells Z 308)):=hb1.alloc hb1.size _
 have hg2:(w1.alloc (.cells Z 308)).heap[w1.heap.size]? = some (.cells Z 308 (0,0)):=heap_alloc_new _ _
 have hg3:=setRow_heap _ w1.heap.size Z T _ _ hg2
 have HT3:=Lib.hid (HTab.out _ _ hg3)
 have HB3:=Lib.hid (below_setRow T hb2 hb1.size)
 have hi:(Tryz.prog.info? 308).map (·.size)=some T.size:=by rw [HTs.out];exact infoArr
 have hzt:Z.size=T.size:=by rw [HTs.out,HZ.out]
 have HG2:=Lib.hid hg2
 have HI:=Lib.hid hi
 have HZT:=Lib.hid hzt
 clear hg2 hg3 hi hzt hb2
 obtain ⟨w3,hw3⟩:∃ w3,(w1.alloc (.cells Z 308)).setRow w1.heap.size T=w3:=⟨_,rfl⟩
 rw [hw3] at HT3 HB3
 have HW3:=Lib.hid hw3
 have hsz1:=HB3.out.size
 have HP3:=Lib.hid (HP.out.below HB3.out)
 obtain ⟨g,hg⟩:∃ g,w1.heap.size=g:=⟨_,rfl⟩
 have HG:=Lib.hid hg
 clear hw3 hg
 have hu:=u32_unsigned
 have hn:=not_code hs
 have hnl:=notB_lt s
 go_wp2_with (refine wpList_store_row rfl 308 (.tmp 5) (.tmp 10) rfl w1.heap.size T rfl rfl 308 Z HG2.out HI.out HZT.out HT1.out ?_;rw [HW3.out])
 clear hz HG2 HI HZT HT1 HZ HTs HTab HK HW3 HP
 rw [HG.out] at HT3
 rw [HG.out]
 clear HG
 go_loop [0,15] (fun s i=>∃ k m:Nat,k≤ls.length∧i=.int .i64 k∧s=.int .u32 m∧m<4294967296∧Hid (run m (ls.drop k).flatten=r)) (fun _ i=>ls.length - (intOf i).toNat)
 case atStart=>exact ⟨0,notB s,by omega,rfl,rfl,hnl,HR0⟩
 case round =>
  obtain ⟨k,m,hk,rfl,rfl,hm,H⟩:=hrel
  clear HR0 hn hnl hs
  by_cases hlt:k<ls.length
  ·obtain ⟨b,off,x,rfl,hcell,hx⟩:=HP3.out.at_ hlt
   have h2:=H.out
   rw [run_flat_take hlt] at h2
   generalize ls[k]=l at h2 hx
   obtain ⟨p2,cap2,rfl,hlc2,hcm2⟩:=hx.shape
   unfold maxLen at hcm2
   obtain ⟨R,hR⟩:∃ R,(ls.drop (k+1)).flatten=R:=⟨_,rfl⟩
   rw [hR] at h2
   have HRR:=Lib.hid hR
   clear hR
   have H2:Hid (run m (l.drop 0++R)=r):=Lib.hid h2
   have HX:=Lib.hid hx
   clear h2 H hx
   go_wp2_with fail
   go_loop [0,21] (fun s i=>∃ j m:Nat,j≤l.length∧i=.int .i64 j∧s=.int .u32 m∧m<4294967296∧Hid (run m (l.drop j++R)=r)) (fun _ i=>l.length - (intOf i).toNat)
   case atStart=>exact ⟨0,m,by omega,rfl,rfl,hm,H2⟩
   case round =>
    obtain ⟨j,n,hj,rfl,rfl,hn,H3⟩:=hrel
    clear H2 hm hcell
    by_cases hjl:j<l.length
    ·obtain ⟨b2,off2,rfl,hbl2,hcell2⟩:=HX.out.at_ hjl
     have h4:=run_drop hjl H3.out
     generalize l[j]=c at h4 hcell2
     have hz:n%256 ^^^ c.toNat<256:=Nat.xor_lt_two_pow (n:=8) (by omega) c.toNat_lt
     have htab:=HT3.out.cell hz
     have e1:=table_byte n c
     have e2:=table_step n c hn
     have hn2:=onB_lt hn c.toNat_lt
     have hcb:=c.toNat_lt
     have hb1:(0:Int)≤((n%256 ^^^ c.toNat:Nat):Int):=by omega
     have hb2:((n%256 ^^^ c.toNat:Nat):Int)<256:=by omega
     generalize n%256 ^^^ c.toNat=z at *
     generalize onB n c.toNat=n2 at *
     have H4:=Lib.hid h4
     clear h4 H3
     go_wp2_with fail
     go_round
     case rel=>exact ⟨j+1,n2,by omega,by go_num,rfl,hn2,H4⟩
     case measure=>simp [intOf];omega
    ·obtain rfl:j=l.length:=by omega
     have h4:=H3.out
     rw [List.drop_length,List.nil_append,← HRR.out] at h4
     have H4:=Lib.hid h4
     clear h4 H3
     go_wp2_with fail
     go_round
     case rel=>exact ⟨k+1,n,by omega,by go_num,rfl,hn,H4⟩
     case measure=>simp [intOf];omega
  ·obtain rfl:k=ls.length:=by omega
   have hn:=not_code hm
   have h2:=H.out
   rw [List.drop_length] at h2
   have h3:m=r:=h2
   subst h3
   clear h2 H
   go_wp2_with fail
   have hF:=HRes.out
   subst hF
   go_ret
   exact ⟨rfl,HB3.out⟩
end Go.Proofs.YtdijhifdjbnkfaaGreat.CR
set_option linter.unusedVariables false
namespace Go.Proofs.YtdijhifdjbnkfaaGreat.CR
open Go.RowKit Go.Proofs.YtdijhifdjbnkfaaGreat.MM Go.Proofs.YtdijhifdjbnkfaaGreat.CM
def Told (n:Nat) (w:World) (e:Ending) (w':World):Prop:=e=.returned (.int .u32 n)∧Below w.heap.size w w'
set_option maxRecDepth 100000 in
theorem sum_any (v:Value) (ls:List (List UInt8)) (w:World) (hr:PRow w v ls):Calls Tryz.prog 155 #[v] w (Told (sumL ls.flatten) w):=by
 have h:=goon_any 0 v ls w (by omega) hr
 unfold sumL Told
 generalize nextL 0 ls.flatten=F at *
 have H:=Lib.hid h
 clear h hr
 go_enter Tryz.func155,Tryz.ntmps155
 go_wp2_with fail
 refine H.out.mono ?_
 rintro e w1 ⟨rfl,hb⟩
 go_wp2_with fail
 go_ret
 exact ⟨rfl,hb⟩
end Go.Proofs.YtdijhifdjbnkfaaGreat.CR
set_option linter.unusedVariables false
namespace Go.Proofs.YtdijhifdjbnkfaaGreat.MM
open Go.RowKit
structure Kep (S:Nat→Prop) (w w':World):Prop where
 os:w'.os=w.os
 tape:w'.tape=w.tape
 output:w'.output=w.output
 size:w.heap.size≤w'.heap.size
 block:∀ k,k<w.heap.size→S k→w'.heap[k]? = w.heap[k]?
theorem Kep.refl (S:Nat→Prop) (w:World):Kep S w w:=⟨rfl,rfl,rfl,Nat.le_refl _,fun _ _ _=>rfl⟩
theorem Kep.trans {S:Nat→Prop} {a b c:World} (h:Kep S a b) (k:Kep S b c):Kep S a c :=
 ⟨k.os.trans h.os,k.tape.trans h.tape,k.output.trans h.output,Nat.le_trans h.size k.size,fun i hi hs=>(k.block i (Nat.lt_of_lt_of_le hi h.size) hs).trans (h.block i hi hs)⟩
theorem Kep.mono {S T:Nat→Prop} {a b:World} (h:Kep S a b) (hT:∀ k,T k→S k):Kep T a b:=⟨h.os,h.tape,h.output,h.size,fun k hk ht=>h.block k hk (hT k ht)⟩
theorem Kep.mono' {S T:Nat→Prop} {a b:World} (h:Kep S a b) (hT:∀ k,k<a.heap.size→T k→S k):Kep T a b:=⟨h.os,h.tape,h.output,h.size,fun k hk ht=>h.block k hk (hT k hk ht)⟩
theorem Kep.drew {S:Nat→Prop} {a b:World} (h:Kep S a b):Kep S a b.drew:=⟨h.os,h.tape,h.output,h.size,h.block⟩
theorem Kep.drewN {S:Nat→Prop} {a b:World} (h:Kep S a b) (n:Nat):Kep S a (b.drewN n):=⟨h.os,h.tape,h.output,h.size,h.block⟩
theorem kep_below {w w':World} (S:Nat→Prop) (h:Below w.heap.size w w'):Kep S w w':=⟨h.os,h.tape,h.output,h.size,fun k hk _=>h.block k hk⟩
theorem kep_alloc (S:Nat→Prop) (w:World) (o:Obj):Kep S w (w.alloc o):=kep_below S ((Below.refl _ _).alloc (Nat.le_refl _) o)
theorem kep_set {S:Nat→Prop} {w:World} {g i:Nat} (hg:¬ S g) (u:Value):Kep S w (w.setCell ⟨g,i,none⟩ u) :=
 ⟨rfl,rfl,rfl,by simp,fun k _ hs=>Below.heap_setCell _ _ _ _ (fun e=>hg (by rw [← show k=g from e];exact hs))⟩
theorem kep_grown {S:Nat→Prop} {w w':World} {row:Option Nat} (h:w.grownBy w' row) (hr:∀ k,row=some k→¬ S k):Kep S w w' :=
 ⟨h.os,h.tape,h.output,h.size,fun k hk hs=>h.block k hk (fun e=>hr k e.symm hs)⟩
theorem Kep.below {S:Nat→Prop} {w w':World} {B:Nat} (h:Kep S w w') (hB:B≤w.heap.size) (hS:∀ k,k<B→S k):Below B w w' :=
 ⟨h.os,h.tape,h.output,h.size,fun k hk=>h.block k (Nat.lt_of_lt_of_le hk hB) (hS k hk)⟩
theorem Kep.andThen {S T:Nat→Prop} {a b c:World} (h:Kep S a b) (k:Kep T b c) (hT:∀ i,i<a.heap.size→S i→T i):Kep S a c :=
 ⟨k.os.trans h.os,k.tape.trans h.tape,k.output.trans h.output,Nat.le_trans h.size k.size,fun i hi hs=>(k.block i (Nat.lt_of_lt_of_le hi h.size) (hT i hi hs)).trans (h.block i hi hs)⟩
theorem kep_draw (S:Nat→Prop) (w:World):Kep S w w.drew:=(Kep.refl S w).drew
theorem Kep.cell {S:Nat→Prop} {w w':World} (h:Kep S w w') {b:Nat} (hb:b<w.heap.size) (hS:S b) (i:Nat):w'.cell? ⟨b,i,none⟩=w.cell? ⟨b,i,none⟩:=World.cell?_of_block (a:=⟨b,i,none⟩) (h.block b hb hS)
end Go.Proofs.YtdijhifdjbnkfaaGreat.MM
set_option linter.unusedVariables false
namespace Go.Proofs.YtdijhifdjbnkfaaGreat.MM
open Go Go.RowKit
structure Codec (α:Type) where
 size:Nat
 on:(Nat→Prop)→World→List Value→α→Prop
 pos:0<size
 len:∀ {S w vs a},on S w vs a→vs.length=size
 keep:∀ {S T w w' vs a},on S w vs a→Kep S w w'→(∀ b,b<w.heap.size→S b→T b)→on T w' vs a
 one:∀ {S w vs a},on S w vs a→∀ u∈vs,u.oneCell'=true
theorem Codec.weak {α:Type} (C:Codec α) {S T:Nat→Prop} {w:World} {vs:List Value} {a:α} (h:C.on S w vs a) (hT:∀ b,b<w.heap.size→S b→T b):C.on T w vs a:=C.keep h (Kep.refl _ _) hT
theorem Codec.all {α:Type} (C:Codec α) {S:Nat→Prop} {w:World} {vs:List Value} {a:α} (h:C.on S w vs a):C.on (fun _=>True) w vs a:=C.weak h fun _ _ _=>trivial
theorem Codec.below {α:Type} (C:Codec α) {w w':World} {vs:List Value} {a:α} (h:C.on (fun _=>True) w vs a) (hb:Below w.heap.size w w'):C.on (fun _=>True) w' vs a:=C.keep h (kep_below _ hb) fun _ _ h=>h
def cOne {α:Type} (f:α→Value) (hf:∀ a,(f a).oneCell'=true):Codec α where
 size:=1
 on:=fun _ _ vs a=>vs=[f a]
 pos:=by decide
 len:=fun h=>by rw [h];rfl
 keep:=fun h _ _=>h
 one:=fun h u hu=>by rw [h] at hu;simp at hu;rw [hu];exact hf _
def cInt:Codec Int:=cOne (fun z=>.int .i64 z) (fun _=>rfl)
def cU8:Codec UInt8:=cOne (fun c=>.int .u8 (c.toNat:Int)) (fun _=>rfl)
def cStr:Codec (List UInt8):=cOne (fun l=>.string ⟨l.toArray⟩) (fun _=>rfl)
def cPair {α β:Type} (C:Codec α) (D:Codec β):Codec (α×β) where
 size:=C.size+D.size
 on:=fun S w vs p=>∃ x y,vs=x++y∧C.on S w x p.1∧D.on S w y p.2
 pos:=by have:=C.pos;omega
 len:=fun ⟨x,y,h,h1,h2⟩=>by rw [h,List.length_append,C.len h1,D.len h2]
 keep:=fun ⟨x,y,h,h1,h2⟩ hk hT=>⟨x,y,h,C.keep h1 hk hT,D.keep h2 hk hT⟩
 one:=fun ⟨x,y,h,h1,h2⟩ u hu=>by
  rw [h,List.mem_append] at hu
  rcases hu with hu | hu
  ·exact C.one h1 u hu
  ·exact D.one h2 u hu
section
variable {α : Type} (C : Codec α)
def Mean (S:Nat→Prop) (w:World) (raw:List (List Value)) (es:List α):Prop:=raw.length=es.length∧∀ i (h:i<raw.length) (h':i<es.length),C.on S w raw[i] es[i]
variable {C}
theorem Mean.keep {S T:Nat→Prop} {w w':World} {raw:List (List Value)} {es:List α} (h:Mean C S w raw es) (hk:Kep S w w') (hT:∀ b,b<w.heap.size→S b→T b):Mean C T w' raw es :=
 ⟨h.1,fun i hi hi'=>C.keep (h.2 i hi hi') hk hT⟩
theorem Mean.nil_ (S:Nat→Prop) (w:World):Mean C S w [] []:=⟨rfl,fun i h=>by simp at h⟩
theorem Mean.append {S:Nat→Prop} {w:World} {xs ys:List (List Value)} {es bs:List α} (h:Mean C S w xs es) (k:Mean C S w ys bs):Mean C S w (xs++ys) (es++bs):=by
 refine ⟨by rw [List.length_append,List.length_append,h.1,k.1],fun i hi hi' => ?_⟩
 by_cases hlt:i<xs.length
 ·rw [List.getElem_append_left hlt,List.getElem_append_left (by rw [← h.1];exact hlt)]
  exact h.2 i hlt (by rw [← h.1];exact hlt)
 ·rw [List.length_append] at hi hi'
  have e:=h.1
  rw [List.getElem_append_right (by omega),List.getElem_append_right (by omega)]
  simp only [← e]
  exact k.2 (i - xs.length) (by omega) (by omega)
theorem Mean.single {S:Nat→Prop} {w:World} {vs:List Value} {a:α} (h:C.on S w vs a):Mean C S w [vs] [a] :=
 ⟨rfl,fun i hi hi'=>by obtain rfl:i=0:=(by simpa using hi);exact h⟩
theorem Mean.take {S:Nat→Prop} {w:World} {raw:List (List Value)} {es:List α} (h:Mean C S w raw es) (k:Nat):Mean C S w (raw.take k) (es.take k):=by
 refine ⟨by rw [List.length_take,List.length_take,h.1],fun i hi hi' => ?_⟩
 rw [List.getElem_take,List.getElem_take]
 exact h.2 i (by rw [List.length_take] at hi;omega) (by rw [List.length_take] at hi';omega)
theorem Mean.drop {S:Nat→Prop} {w:World} {raw:List (List Value)} {es:List α} (h:Mean C S w raw es) (k:Nat):Mean C S w (raw.drop k) (es.drop k):=by
 refine ⟨by rw [List.length_drop,List.length_drop,h.1],fun i hi hi' => ?_⟩
 rw [List.getElem_drop,List.getElem_drop]
 exact h.2 _ (by rw [List.length_drop] at hi;omega) (by rw [List.length_drop] at hi';omega)
theorem Mean.lens {S:Nat→Prop} {w:World} {raw:List (List Value)} {es:List α} (h:Mean C S w raw es):∀ r∈raw,r.length=C.size:=fun r hr=>by
 obtain ⟨i,hi,rfl⟩:=List.getElem_of_mem hr
 exact C.len (h.2 i hi (by rw [← h.1];exact hi))
theorem Mean.ones {S:Nat→Prop} {w:World} {raw:List (List Value)} {es:List α} (h:Mean C S w raw es):∀ u∈raw.flatten,u.oneCell'=true:=fun u hu=>by
 obtain ⟨r,hr,hu⟩:=List.mem_flatten.1 hu
 obtain ⟨i,hi,rfl⟩:=List.getElem_of_mem hr
 exact C.one (h.2 i hi (by rw [← h.1];exact hi)) u hu
theorem flat_len:∀ {raw:List (List Value)} {n:Nat},(∀ r∈raw,r.length=n)→raw.flatten.length=raw.length*n
 | [],n,_=>by simp
 | r::raw,n,h=>by
   rw [List.flatten_cons,List.length_append,flat_len fun x hx=>h x (by simp [hx]),h r (by simp),List.length_cons,Nat.succ_mul]
   omega
theorem flat_get:∀ {raw:List (List Value)} {n:Nat},(∀ r∈raw,r.length=n)→∀ (i:Nat) (hi:i<raw.length) (j:Nat) (u:Value),raw[i][j]? = some u→raw.flatten[i*n+j]? = some u
 | r::raw,n,h,0,_,j,u,hu=>by
   rw [List.getElem_cons_zero] at hu
   have hj:=(List.getElem?_eq_some_iff.1 hu).1
   rw [Nat.zero_mul,Nat.zero_add,List.flatten_cons,List.getElem?_append_left hj]
   exact hu
 | r::raw,n,h,i+1,hi,j,u,hu=>by
   have hr:=h r (by simp)
   have e:(i+1)*n+j=r.length+(i*n+j):=by rw [Nat.succ_mul,hr];omega
   rw [List.flatten_cons,e,List.getElem?_append_right (by omega),Nat.add_sub_cancel_left]
   exact flat_get (fun x hx=>h x (by simp [hx])) i (by simpa using hi) j u (by simpa using hu)
theorem flat_take:∀ {raw:List (List Value)} {n:Nat},(∀ r∈raw,r.length=n)→∀ k,(raw.take k).flatten=raw.flatten.take (k*n)
 | [],n,_,k=>by simp
 | r::raw,n,h,0=>by simp
 | r::raw,n,h,k+1=>by
   have hr:=h r (by simp)
   have e1:r.take (k*n+n)=r:=List.take_of_length_le (by omega)
   have e2:k*n+n - n=k*n:=by omega
   rw [List.take_succ_cons,List.flatten_cons,List.flatten_cons,flat_take (fun x hx=>h x (by simp [hx])) k,Nat.succ_mul,List.take_append,hr,e1,e2]
theorem flat_drop:∀ {raw:List (List Value)} {n:Nat},(∀ r∈raw,r.length=n)→∀ k,(raw.drop k).flatten=raw.flatten.drop (k*n)
 | [],n,_,k=>by simp
 | r::raw,n,h,0=>by simp
 | r::raw,n,h,k+1=>by
   have hr:=h r (by simp)
   have e1:r.drop (k*n+n)=[]:=List.drop_of_length_le (by omega)
   have e2:k*n+n - n=k*n:=by omega
   rw [List.drop_succ_cons,List.flatten_cons,flat_drop (fun x hx=>h x (by simp [hx])) k,Nat.succ_mul,List.drop_append,hr,e1,e2,List.nil_append]
variable (C)
def ROn (S:Nat→Prop) (w:World) (v:Value) (es:List α):Prop :=
 ∃ (p:Option Addr) (cap:Nat) (raw:List (List Value)),v=.slice p es.length cap∧es.length≤cap∧cap≤maxLen∧(p=none→cap=0)∧Mean C S w raw es ∧
   (es=[]∨∃ b off,p=some ⟨b,off,none⟩∧b<w.heap.size∧S b∧∀ j u,raw.flatten[j]? = some u→w.cell? ⟨b,off+j,none⟩=some u)
def RAny (w:World) (v:Value) (es:List α):Prop:=ROn C (fun _=>True) w v es
def RBel (B:Nat) (w:World) (v:Value) (es:List α):Prop:=ROn C (fun b=>b<B) w v es
variable {C}
theorem ROn.keep {S T:Nat→Prop} {w w':World} {v:Value} {es:List α} (h:ROn C S w v es) (hk:Kep S w w') (hT:∀ b,b<w.heap.size→S b→T b):ROn C T w' v es:=by
 obtain ⟨p,cap,raw,hv,h1,h2,h3,hm,h⟩:=h
 refine ⟨p,cap,raw,hv,h1,h2,h3,hm.keep hk hT,?_⟩
 rcases h with h | ⟨b,off,hp,hlt,hS,hc⟩
 ·exact .inl h
 ·exact .inr ⟨b,off,hp,Nat.lt_of_lt_of_le hlt hk.size,hT b hlt hS,fun j u hj=>by rw [hk.cell hlt hS];exact hc j u hj⟩
theorem ROn.weak {S T:Nat→Prop} {w:World} {v:Value} {es:List α} (h:ROn C S w v es) (hT:∀ b,b<w.heap.size→S b→T b):ROn C T w v es:=h.keep (Kep.refl _ _) hT
theorem ROn.any {S:Nat→Prop} {w:World} {v:Value} {es:List α} (h:ROn C S w v es):RAny C w v es:=h.weak fun _ _ _=>trivial
theorem RAny.below {w w':World} {v:Value} {es:List α} (h:RAny C w v es) (hb:Below w.heap.size w w'):RAny C w' v es:=ROn.keep h (kep_below _ hb) fun _ _ h=>h
theorem RAny.bel {w:World} {v:Value} {es:List α} (h:RAny C w v es):RBel C w.heap.size w v es:=ROn.weak h fun _ h _=>h
theorem kep_lt {B:Nat} {w w':World} (hb:Below B w w'):Kep (fun b=>b<B) w w':=⟨hb.os,hb.tape,hb.output,hb.size,fun k _ hk=>hb.block k hk⟩
theorem RBel.below {B:Nat} {w w':World} {v:Value} {es:List α} (h:RBel C B w v es) (hb:Below B w w'):RBel C B w' v es:=ROn.keep h (kep_lt hb) fun _ _ h=>h
theorem RBel.mono {B B':Nat} {w:World} {v:Value} {es:List α} (h:RBel C B w v es) (hB:B≤B'):RBel C B' w v es:=ROn.weak h fun _ _ h=>Nat.lt_of_lt_of_le h hB
theorem ROn.shape {S:Nat→Prop} {w:World} {v:Value} {es:List α} (h:ROn C S w v es):∃ p cap,v=.slice p es.length cap∧es.length≤cap∧cap≤maxLen∧(p=none→cap=0):=by
 obtain ⟨p,cap,raw,hv,h1,h2,h3,_⟩:=h
 exact ⟨p,cap,hv,h1,h2,h3⟩
theorem ROn.oneCell {S:Nat→Prop} {w:World} {v:Value} {es:List α} (h:ROn C S w v es):v.oneCell'=true:=by
 obtain ⟨p,cap,raw,rfl,_⟩:=h;rfl
theorem ROn.nil_ (S:Nat→Prop) (w:World):ROn C S w (.slice none 0 0) []:=⟨none,0,[],rfl,Nat.le_refl _,by unfold maxLen;omega,fun _=>rfl,Mean.nil_ _ _,.inl rfl⟩
theorem ROn.at_ {S:Nat→Prop} {w:World} {p:Option Addr} {n cap:Nat} {es:List α} (h:ROn C S w (.slice p n cap) es) {k:Nat} (hk:k<es.length) :
  ∃ b off vs,p=some ⟨b,off,none⟩∧b<w.heap.size∧S b∧C.on S w vs es[k]∧∀ j u,vs[j]? = some u→w.cell? ⟨b,off+k*C.size+j,none⟩=some u:=by
 obtain ⟨p',cap',raw,hv,_,_,_,hm,h⟩:=h
 simp only [Value.slice.injEq] at hv
 obtain ⟨rfl,_,_⟩:=hv
 rcases h with h | ⟨b,off,hp,hlt,hS,hc⟩
 ·subst h;simp at hk
 ·have hk':k<raw.length:=by rw [hm.1];exact hk
  exact ⟨b,off,raw[k],hp,hlt,hS,hm.2 k hk' hk,fun j u hj=>by rw [Nat.add_assoc];exact hc _ u (flat_get hm.lens k hk' j u hj)⟩
theorem ROn.take {S:Nat→Prop} {w:World} {p:Option Addr} {n cap:Nat} {es:List α} (h:ROn C S w (.slice p n cap) es) (k:Nat) (hk:k≤n):ROn C S w (.slice p k cap) (es.take k):=by
 obtain ⟨p',cap',raw,hv,h1,h2,h3,hm,h⟩:=h
 simp only [Value.slice.injEq] at hv
 obtain ⟨rfl,rfl,rfl⟩:=hv
 have hl:(es.take k).length=k:=by rw [List.length_take];omega
 refine ⟨_,_,raw.take k,by rw [hl],by omega,by omega,h3,hm.take k,?_⟩
 rcases h with h | ⟨b,off,rfl,hlt,hS,hc⟩
 ·subst h;left;simp
 ·refine .inr ⟨b,off,rfl,hlt,hS,fun j u hj=>hc j u ?_⟩
  rw [flat_take hm.lens,List.getElem?_take] at hj
  split at hj
  ·exact hj
  ·cases hj
theorem ROn.drop {S:Nat→Prop} {w:World} {p:Option Addr} {n cap:Nat} {es:List α} (h:ROn C S w (.slice p n cap) es) (k:Nat) (hk:k≤n) :
  ROn C S w (.slice (if cap=k then p else p.map (·.add (k*C.size))) (n - k) (cap - k)) (es.drop k):=by
 obtain ⟨p',cap',raw,hv,h1,h2,h3,hm,h⟩:=h
 simp only [Value.slice.injEq] at hv
 obtain ⟨rfl,rfl,rfl⟩:=hv
 refine ⟨_,_,raw.drop k,by rw [List.length_drop],by rw [List.length_drop];omega,by omega,fun hp => ?_,hm.drop k,?_⟩
 ·by_cases hc:cap=k
  ·omega
  ·rw [if_neg hc] at hp
   have:p=none:=by cases p<;>simp_all
   have:=h3 this
   omega
 by_cases hkn:k=es.length
 ·left;rw [hkn,List.drop_length]
 ·rcases h with h | ⟨b,off,rfl,hlt,hS,hc⟩
  ·subst h;simp at hk;simp at hkn;omega
  ·rw [if_neg (by omega)]
   refine .inr ⟨b,off+k*C.size,?_,hlt,hS,fun j u hj => ?_⟩
   ·simp only [Option.map_some,Option.some.injEq]
    rw [add_at]
   ·rw [flat_drop hm.lens,List.getElem?_drop] at hj
    rw [Nat.add_assoc]
    exact hc _ u hj
end
def cRow {α:Type} (C:Codec α):Codec (List α) where
 size:=1
 on:=fun S w vs es=>∃ v,vs=[v]∧ROn C S w v es
 pos:=by decide
 len:=fun ⟨v,h,_⟩=>by rw [h];rfl
 keep:=fun ⟨v,h,h1⟩ hk hT=>⟨v,h,h1.keep hk hT⟩
 one:=fun ⟨v,h,h1⟩ u hu=>by rw [h] at hu;simp at hu;rw [hu];exact h1.oneCell
theorem ron_row {α:Type} {f:α→Value} {hf:∀ a,(f a).oneCell'=true} {S:Nat→Prop} {B:Nat} {w:World} {v:Value} {es:List α} (h:ROn (cOne f hf) S w v es) (hS:∀ b,b<w.heap.size→S b→b<B):RowIn B w v (es.map f):=by
 obtain ⟨p,cap,raw,hv,h1,h2,h3,hm,h⟩:=h
 refine ⟨p,cap,by rw [List.length_map];exact hv,by rw [List.length_map];exact h1,h2,h3,?_⟩
 rcases h with h | ⟨b,off,hp,hlt,hSb,hc⟩
 ·subst h;exact .inl rfl
 ·refine .inr ⟨b,off,hp,hS b hlt hSb,fun i u hi=>hc i u ?_⟩
  rw [List.getElem?_map] at hi
  obtain ⟨a,ha,rfl⟩:=Option.map_eq_some_iff.1 hi
  obtain ⟨hl,rfl⟩:=List.getElem?_eq_some_iff.1 ha
  have hl':i<raw.length:=by rw [hm.1];exact hl
  have e:=hm.2 i hl' hl
  have:=flat_get hm.lens i hl' 0 (f es[i]) (by rw [show raw[i]=[f es[i]] from e];rfl)
  rw [show (cOne f hf).size=1 from rfl,Nat.mul_one,Nat.add_zero] at this
  exact this
theorem flat_singles {α:Type} (f:α→Value):∀ es:List α,(es.map fun a=>[f a]).flatten=es.map f
 | []=>rfl
 | a::es=>by rw [List.map_cons,List.flatten_cons,flat_singles f es];rfl
theorem row_ron {α:Type} {f:α→Value} {hf:∀ a,(f a).oneCell'=true} {B:Nat} {w:World} {v:Value} {es:List α} (h:RowIn B w v (es.map f)) (hB:B≤w.heap.size):ROn (cOne f hf) (fun b=>b<B) w v es:=by
 obtain ⟨p,cap,hv,h1,h2,h3,h⟩:=h
 rw [List.length_map] at hv h1
 refine ⟨p,cap,es.map fun a=>[f a],hv,h1,h2,h3,⟨by simp,fun i hi hi'=>by simp [cOne]⟩,?_⟩
 rcases h with h | ⟨b,off,hp,hlt,hc⟩
 ·exact .inl (List.map_eq_nil_iff.1 h)
 ·exact .inr ⟨b,off,hp,Nat.lt_of_lt_of_le hlt hB,hlt,fun i u hi=>hc i u (by rw [flat_singles] at hi;exact hi)⟩
def Apt (e:TypeId) (B:Nat) (w:World) (b:Nat):Prop:=b<B∨∀ cur fr,w.heap[b]? ≠ some (.cells cur e fr)
theorem apt_keep {e:TypeId} {B:Nat} {w w':World} {b:Nat} (h:Apt e B w b) (hb:w'.heap[b]? = w.heap[b]?):Apt e B w' b:=by
 rcases h with h | h
 ·exact .inl h
 ·exact .inr fun cur fr=>by rw [hb];exact h cur fr
theorem own_cells {e:TypeId} {B n size:Nat} {w:World} {v:Value} {xs:List Value} (h:w.ownsRow B e size v n xs) {g:Nat} (hg:v.ownBlock=some g):B≤g∧∃ cur fr,w.heap[g]? = some (.cells cur e fr):=by
 rcases h.2 with ⟨rfl,h0⟩ | ⟨g',cap,cur,rfl,hg',hh,_⟩
 ·cases hg
 ·have:g'=g:=Option.some.inj hg
  subst this
  exact ⟨hg',cur,_,hh⟩
theorem apt_not_own {e:TypeId} {B n size:Nat} {w:World} {v:Value} {xs:List Value} (h:w.ownsRow B e size v n xs) {b:Nat} (ha:Apt e B w b):v.ownBlock≠some b:=by
 intro he
 obtain ⟨h1,cur,fr,h2⟩:=own_cells h he
 rcases ha with ha | ha
 ·omega
 ·exact ha cur fr h2
section
variable {α : Type} (C : Codec α)
def OwnC (e:TypeId) (B:Nat) (w:World) (v:Value) (es:List α):Prop:=∃ raw,w.ownsRow B e C.size v es.length raw.flatten∧Mean C (Apt e B w) w raw es
variable {C}
theorem OwnC.nil_ (e:TypeId) (B:Nat) (w:World):OwnC C e B w (.slice none 0 0) []:=⟨[],World.ownsRow_nil _ _ _ _,Mean.nil_ _ _⟩
theorem OwnC.keep {e:TypeId} {B:Nat} {w w':World} {v:Value} {es:List α} (h:OwnC C e B w v es) (hb:Below w.heap.size w w'):OwnC C e B w' v es:=by
 obtain ⟨raw,h1,h2⟩:=h
 exact ⟨raw,own_keep (B:=0) h1 hb,h2.keep (kep_below _ hb) fun b hlt hA=>apt_keep hA (hb.block b hlt)⟩
theorem OwnC.alloc {e:TypeId} {B:Nat} {w:World} {v:Value} {es:List α} (h:OwnC C e B w v es) (o:Obj):OwnC C e B (w.alloc o) v es:=h.keep ((Below.refl _ _).alloc (Nat.le_refl _) o)
theorem OwnC.ron {e:TypeId} {B:Nat} {w:World} {v:Value} {es:List α} {S:Nat→Prop} (h:OwnC C e B w v es) (h1:∀ g,v.ownBlock=some g→S g) (h2:∀ b,b<w.heap.size→Apt e B w b→S b):ROn C S w v es:=by
 obtain ⟨raw,ho,hm⟩:=h
 rcases ho.2 with ⟨rfl,h0⟩ | ⟨g,cap,cur,rfl,hg,hh,hnc,hmx,hs,ht⟩
 ·have:es=[]:=List.eq_nil_of_length_eq_zero h0
  subst this
  exact ROn.nil_ _ _
 ·refine ⟨some ⟨g,0,none⟩,cap,raw,rfl,hnc,hmx,(fun h=>by cases h),hm.keep (Kep.refl _ _) h2,.inr ⟨g,0,rfl,(Array.getElem?_eq_some_iff.1 hh).1,h1 g rfl,fun j u hj => ?_⟩⟩
  have:=Lib.cells_of_row hh (es.length*C.size) j u (by rw [ht];exact hj)
  rw [add_at] at this
  exact this
theorem OwnC.any {e:TypeId} {B:Nat} {w:World} {v:Value} {es:List α} (h:OwnC C e B w v es):RAny C w v es:=h.ron (fun _ _=>trivial) (fun _ _ _=>trivial)
theorem OwnC.shape {e:TypeId} {B:Nat} {w:World} {v:Value} {es:List α} (h:OwnC C e B w v es):∃ p cap,v=.slice p es.length cap∧es.length≤cap∧cap≤maxLen∧(p=none→cap=0):=ROn.shape h.any
theorem OwnC.lt {e:TypeId} {B:Nat} {w:World} {v:Value} {es:List α} (h:OwnC C e B w v es):∀ k,v.ownBlock=some k→B≤k∧k<w.heap.size:=fun k hk=>by obtain ⟨raw,h1,_⟩:=h;exact World.ownsRow.lt h1 k hk
theorem lit_cells (w:World) (vs:List Value) (e:TypeId):∀ j u,vs[j]? = some u→(w.alloc (.cells vs.toArray e)).cell? ((⟨w.heap.size,0,none⟩:Addr).add j)=some u:=fun j u hj=>by
 rw [add_at,Nat.zero_add,cell_of_row _ _ j _ _ _ (heap_alloc_new w (.cells vs.toArray e))]
 simpa using hj
variable (C)
structure Elem (P:Program) (T e:TypeId) (bytes:Nat):Prop where
 under:P.underlying T=some (.slice e)
 info:∃ i z,P.info? e=some i∧i.zero=some z∧i.size=C.size∧i.bytes=bytes∧z.cells.size=C.size
variable {C}
theorem wp_append_c {P:Program} {T e:TypeId} {bytes:Nat} (E:Elem C P T e bytes) {w:World} {o:Oper} {a:Act} {K:Act→World→Prop} {Q:Exit→Act→World→Prop} (s x:Operand)
  (ho:o.op=.call { callee:=.builtin .append,args:=#[s,x],argTypes:=#[T,T] }) (B:Nat) (v:Value) (es:List α) (w0:World) (vs:List Value) (d:α) (hw:w=w0.alloc (.cells vs.toArray e)) (hs:a.eval s=v) (hown:OwnC C e B w0 v es)
  (hd:C.on (Apt e B w0) w0 vs d) (hx:a.eval x=.slice (some ⟨w0.heap.size,0,none⟩) 1 1) (hlen:es.length+1≤maxLen) (hby:(es.length+1)*bytes≤140737488355328) (hbase:B≤w0.heap.size)
  (h:∀ v' w',OwnC C e B w' v' (es++[d])→Below B w0 w'→Kep (fun k=>v.ownBlock≠some k) w w'→K (a.put o.dst v') w'):o.wp P a w K Q:=by
 subst hw
 have hb0:Below w0.heap.size w0 (w0.alloc (.cells vs.toArray e)):=(Below.refl _ _).alloc (Nat.le_refl _) _
 obtain ⟨i,z,hi,hz,hsz,hbt,hzs⟩:=E.info
 obtain ⟨raw,h1,h2⟩:=hown.alloc (.cells vs.toArray e)
 have hd2:C.on (Apt e B (w0.alloc (.cells vs.toArray e))) (w0.alloc (.cells vs.toArray e)) vs d:=C.keep hd (kep_below _ hb0) fun b hlt hA=>apt_keep hA (hb0.block b hlt)
 have hlo:∀ k,v.ownBlock=some k→B≤k:=fun k hk=>(World.ownsRow.lt h1 k hk).1
 have hl:=C.len hd
 refine wp_append_own _ s x T ho B e i z C.size bytes E.under hi hz hsz hbt hzs C.pos v es.length _ hs h1 ⟨w0.heap.size,0,none⟩ 1 1 vs hx (by rw [hl,Nat.one_mul]) (lit_cells w0 vs e) (C.one hd) hlen hby (by simp;omega) (fun v' w' h3 hg _ => ?_)
 have hb:Below B (w0.alloc (.cells vs.toArray e)) w':=(Below.refl B _).grown hg (by simp;omega) hlo
 have hk:Kep (Apt e B (w0.alloc (.cells vs.toArray e))) (w0.alloc (.cells vs.toArray e)) w':=kep_grown hg fun k hk hA=>apt_not_own h1 hA hk
 refine h v' w' ⟨raw++[vs],?_,?_⟩ ((hb0.mono hbase).trans hb) (kep_grown hg fun k hk hne=>hne hk)
 ·rw [List.length_append,List.flatten_append,List.flatten_singleton]
  exact h3
 ·exact (h2.append (Mean.single hd2)).keep hk fun b hlt hA=>apt_keep hA (hk.block b hlt hA)
theorem wpList_append_c {P:Program} {T e:TypeId} {bytes:Nat} (E:Elem C P T e bytes) {w:World} {ops:Array Oper} {rest:List Oper} {o:Oper} {a:Act} {Q:Exit→Act→World→Prop} (hgd:o.guard=none) (s x:Operand)
  (ho:o.op=.call { callee:=.builtin .append,args:=#[s,x],argTypes:=#[T,T] }) (B:Nat) (v:Value) (es:List α) (w0:World) (vs:List Value) (d:α) (hw:w=w0.alloc (.cells vs.toArray e)) (hs:a.eval s=v) (hown:OwnC C e B w0 v es)
  (hd:C.on (Apt e B w0) w0 vs d) (hx:a.eval x=.slice (some ⟨w0.heap.size,0,none⟩) 1 1) (hlen:es.length+1≤maxLen) (hby:(es.length+1)*bytes≤140737488355328) (hbase:B≤w0.heap.size)
  (h:∀ v' w',OwnC C e B w' v' (es++[d])→Below B w0 w'→Kep (fun k=>v.ownBlock≠some k) w w'→wpList P ops Q rest (a.put o.dst v') w'):wpList P ops Q (o::rest) a w :=
 wpList_plain hgd fun _ hK=>wp_append_c E s x ho B v es w0 vs d hw hs hown hd hx hlen hby hbase fun v' w' h1 h2 h3=>hK _ _ (h v' w' h1 h2 h3)
end
end Go.Proofs.YtdijhifdjbnkfaaGreat.MM
set_option linter.unusedVariables false
namespace Go.Proofs.YtdijhifdjbnkfaaGreat.MM
open Go.RowKit
theorem infoInt:(Tryz.prog.info? 3).map (fun i=>(i.zero,i.size,i.bytes))=some (some (.int .i64 0),1,8):=by kernel_rfl
def IRow (w:World) (v:Value) (zs:List Int):Prop:=Row w v (zs.map (Value.int .i64))
def OwnI (B:Nat) (w:World) (v:Value) (zs:List Int):Prop:=w.ownsRow B 3 1 v zs.length (zs.map (Value.int .i64))
theorem OwnI.irow {B:Nat} {w:World} {v:Value} {zs:List Int} (h:OwnI B w v zs):IRow w v zs:=Row.of_own h
theorem OwnI.keep {w w':World} {B:Nat} {v:Value} {zs:List Int} (h:OwnI B w v zs) (hb:Below w.heap.size w w'):OwnI B w' v zs:=own_keep (B:=0) h hb
theorem OwnI.nil_ (B:Nat) (w:World):OwnI B w (.slice none 0 0) []:=World.ownsRow_nil _ _ _ _
theorem IRow.below {w w':World} {v:Value} {zs:List Int} (h:IRow w v zs) (hb:Below w.heap.size w w'):IRow w' v zs:=Row.below (B:=0) h hb
theorem IRow.shape {w:World} {v:Value} {zs:List Int} (h:IRow w v zs):∃ p cap,v=.slice p zs.length cap∧zs.length≤cap∧cap≤maxLen:=by
 obtain ⟨p,cap,hv,h1,h2,_,_⟩:=h
 rw [List.length_map] at hv h1
 exact ⟨p,cap,hv,h1,h2⟩
theorem IRow.at_ {w:World} {p:Option Addr} {n cap:Nat} {zs:List Int} (h:IRow w (.slice p n cap) zs) {k:Nat} (hk:k<zs.length) :
  ∃ b off,p=some ⟨b,off,none⟩∧b<w.heap.size∧w.cell? ⟨b,off+k,none⟩=some (.int .i64 (zs.getD k 0)):=by
 obtain ⟨p',cap',hv,_,_,_,h⟩:=h
 simp only [Value.slice.injEq] at hv
 obtain ⟨rfl,_,_⟩:=hv
 rcases h with h | ⟨b,off,hp,hlt,hc⟩
 ·have:zs=[]:=List.map_eq_nil_iff.1 h
  subst this
  simp at hk
 ·exact ⟨b,off,hp,hlt,hc k _ (by simp [List.getD,hk])⟩
theorem IRow.take {w:World} {p:Option Addr} {n cap:Nat} {zs:List Int} (h:IRow w (.slice p n cap) zs) (k:Nat) (hk:k≤n):IRow w (.slice p k cap) (zs.take k):=by
 have:=RowIn.take h k hk
 rw [← List.map_take] at this
 exact this
theorem wpList_append_int {w:World} {ops:Array Oper} {rest:List Oper} {o:Oper} {a:Act} {Q:Exit→Act→World→Prop} (hgd:o.guard=none) (s x:Operand)
  (ho:o.op=.call { callee:=.builtin .append,args:=#[s,x],argTypes:=#[69,69] }) (B:Nat) (v:Value) (zs:List Int) (w0:World) (z:Int) (hw:w=w0.alloc (.cells #[.int .i64 z] 3)) (hs:a.eval s=v) (hown:OwnI B w0 v zs)
  (hx:a.eval x=.slice (some ⟨w0.heap.size,0,none⟩) 1 1) (hlen:zs.length≤4398046511104) (hbase:B≤w0.heap.size)
  (h:∀ v' w',OwnI B w' v' (zs++[z])→Below B w0 w'→wpList Tryz.prog ops Q rest (a.put o.dst v') w'):wpList Tryz.prog ops Q (o::rest) a w:=by
 subst hw
 obtain ⟨i0,hi,hz0,hz1,hz2⟩:=info_parts infoInt
 have hlo:∀ k,v.ownBlock=some k→B≤k:=fun k hk=>(World.ownsRow.lt hown k hk).1
 refine wpList_append_own _ hgd s x 69 ho B 3 i0 (.int .i64 0) 1 8 Tryz.underlying69 hi hz0 hz1 hz2 rfl (by decide) v zs.length _ hs (World.ownsRow.alloc hown _) ⟨w0.heap.size,0,none⟩ 1 1 [.int .i64 z] hx rfl (cell_new1 _ _ _) (int_one _ _)
  (by unfold maxLen;omega) (by omega) (by simp;omega) (fun v' w' h1 hg _=>h v' w' ?_ (below_app (Below.refl B w0) hbase hlo hg))
 unfold OwnI
 rw [List.length_append,List.map_append]
 exact h1
end Go.Proofs.YtdijhifdjbnkfaaGreat.MM
set_option linter.unusedVariables false
namespace Go.Proofs.YtdijhifdjbnkfaaGreat.MM
open Go.RowKit
theorem infoStr:(Tryz.prog.info? 9).map (fun i=>(i.zero,i.size,i.bytes))=some (some (.string ⟨#[]⟩),1,16):=by kernel_rfl
def strV (l:List UInt8):Value:=.string ⟨l.toArray⟩
def TIn (B:Nat) (w:World) (v:Value) (ss:List (List UInt8)):Prop:=RowIn B w v (ss.map strV)
def TRow (w:World) (v:Value) (ss:List (List UInt8)):Prop:=TIn w.heap.size w v ss
def OwnT (B:Nat) (w:World) (v:Value) (ss:List (List UInt8)):Prop:=w.ownsRow B 9 1 v ss.length (ss.map strV)
theorem OwnT.trow {B:Nat} {w:World} {v:Value} {ss:List (List UInt8)} (h:OwnT B w v ss):TRow w v ss:=Row.of_own h
theorem OwnT.keep {w w':World} {B:Nat} {v:Value} {ss:List (List UInt8)} (h:OwnT B w v ss) (hb:Below w.heap.size w w'):OwnT B w' v ss:=own_keep (B:=0) h hb
theorem OwnT.weaken {w:World} {B B':Nat} {v:Value} {ss:List (List UInt8)} (h:OwnT B w v ss) (hB:B'≤B):OwnT B' w v ss:=by
 refine ⟨h.1,?_⟩
 rcases h.2 with h0 | ⟨g,cap,cur,hv,hg,rest⟩
 ·exact .inl h0
 ·exact .inr ⟨g,cap,cur,hv,Nat.le_trans hB hg,rest⟩
theorem OwnT.nil_ (B:Nat) (w:World):OwnT B w (.slice none 0 0) []:=World.ownsRow_nil _ _ _ _
theorem OwnT.shape {w:World} {B:Nat} {v:Value} {ss:List (List UInt8)} (h:OwnT B w v ss):∃ p cap,v=.slice p ss.length cap∧ss.length≤cap∧cap≤maxLen:=by
 obtain ⟨p,cap,hv,h1,h2,_,_⟩:=h.trow
 rw [List.length_map] at hv h1
 exact ⟨p,cap,hv,h1,h2⟩
theorem TRow.below {w w':World} {v:Value} {ss:List (List UInt8)} (h:TRow w v ss) (hb:Below w.heap.size w w'):TRow w' v ss:=Row.below (B:=0) h hb
theorem TIn.below {B:Nat} {w w':World} {v:Value} {ss:List (List UInt8)} (h:TIn B w v ss) (hb:Below B w w'):TIn B w' v ss:=RowIn.below h hb
theorem TIn.mono {B B':Nat} {w:World} {v:Value} {ss:List (List UInt8)} (h:TIn B w v ss) (hB:B≤B'):TIn B' w v ss:=RowIn.mono h hB
theorem TIn.shape {B:Nat} {w:World} {v:Value} {ss:List (List UInt8)} (h:TIn B w v ss):∃ p cap,v=.slice p ss.length cap∧ss.length≤cap∧cap≤maxLen:=by
 obtain ⟨p,cap,hv,h1,h2,_,_⟩:=h
 rw [List.length_map] at hv h1
 exact ⟨p,cap,hv,h1,h2⟩
theorem TIn.at_ {B:Nat} {w:World} {p:Option Addr} {n cap:Nat} {ss:List (List UInt8)} (h:TIn B w (.slice p n cap) ss) {k:Nat} (hk:k<ss.length) :
  ∃ b off,p=some ⟨b,off,none⟩∧b<B∧w.cell? ⟨b,off+k,none⟩=some (.string ⟨(ss[k]).toArray⟩):=by
 obtain ⟨p',cap',hv,_,_,_,h⟩:=h
 simp only [Value.slice.injEq] at hv
 obtain ⟨rfl,_,_⟩:=hv
 rcases h with h | ⟨b,off,hp,hlt,hc⟩
 ·have:ss=[]:=List.map_eq_nil_iff.1 h
  subst this
  simp at hk
 ·exact ⟨b,off,hp,hlt,hc k _ (by simp [hk,strV])⟩
theorem wpList_append_str {w:World} {ops:Array Oper} {rest:List Oper} {o:Oper} {a:Act} {Q:Exit→Act→World→Prop} (hgd:o.guard=none) (s x:Operand)
  (ho:o.op=.call { callee:=.builtin .append,args:=#[s,x],argTypes:=#[40,40] }) (B:Nat) (v:Value) (ss:List (List UInt8)) (w0:World) (z:List UInt8) (hw:w=w0.alloc (.cells #[.string ⟨z.toArray⟩] 9)) (hs:a.eval s=v) (hown:OwnT B w0 v ss)
  (hx:a.eval x=.slice (some ⟨w0.heap.size,0,none⟩) 1 1) (hlen:ss.length≤1000000000000) (hbase:B≤w0.heap.size)
  (h:∀ v' w',OwnT B w' v' (ss++[z])→Below B w0 w'→wpList Tryz.prog ops Q rest (a.put o.dst v') w'):wpList Tryz.prog ops Q (o::rest) a w:=by
 subst hw
 obtain ⟨i0,hi,hz0,hz1,hz2⟩:=info_parts infoStr
 have hlo:∀ k,v.ownBlock=some k→B≤k:=fun k hk=>(World.ownsRow.lt hown k hk).1
 refine wpList_append_own _ hgd s x 40 ho B 9 i0 (.string ⟨#[]⟩) 1 16 Tryz.underlying40 hi hz0 hz1 hz2 rfl (by decide) v ss.length _ hs (World.ownsRow.alloc hown _) ⟨w0.heap.size,0,none⟩ 1 1 [.string ⟨z.toArray⟩] hx rfl (cell_new1 _ _ _) (by intro u hu;simp at hu;subst hu;rfl)
  (by unfold maxLen;omega) (by omega) (by simp;omega) (fun v' w' h1 hg _=>h v' w' ?_ (below_app (Below.refl B w0) hbase hlo hg))
 unfold OwnT
 rw [List.length_append,List.map_append]
 exact h1
end Go.Proofs.YtdijhifdjbnkfaaGreat.MM
set_option linter.unusedVariables false
namespace Go.Proofs.YtdijhifdjbnkfaaGreat.BL
open Go.RowKit Go.Proofs.YtdijhifdjbnkfaaGreat.MM Go.Proofs.YtdijhifdjbnkfaaGreat.BM
theorem place_int (a b i n:Nat) (ha:a<4294967296) (hb:b≤4294967296) (hi:i<4) (hn0:8≤n) (hn1:n≤131072) :
  wrap64 ((IntKind.u64.wrap ((a:Int)+IntKind.u64.wrap ((i:Int)*(b:Int)))).tmod (8*(n:Int)))=(((a+i*b)%(8*n):Nat):Int):=by
 have hm:i*b≤4*4294967296:=Nat.mul_le_mul (by omega) hb
 have e1:(i:Int)*(b:Int)=((i*b:Nat):Int):=by simp
 rw [e1]
 generalize i*b=X at *
 have e2:IntKind.u64.wrap (X:Int)=(X:Int):=by rw [wrap_u64];omega
 rw [e2]
 have e3:IntKind.u64.wrap ((a:Int)+(X:Int))=((a+X:Nat):Int):=by rw [wrap_u64];omega
 rw [e3,show (8*(n:Int))=((8*n:Nat):Int) by omega,← Int.ofNat_tmod]
 have hl:(a+X)%(8*n)<8*n:=Nat.mod_lt _ (by omega)
 generalize (a+X)%(8*n)=Z at *
 unfold wrap64
 omega
theorem has_at {L:List UInt8} {k:Nat} (hk:k / 8<L.length):hasL L k=bitB L[k / 8] (k%8):=by
 unfold hasL
 simp [List.getD,hk]
end Go.Proofs.YtdijhifdjbnkfaaGreat.BL
set_option linter.unusedVariables false
namespace Go.Proofs.YtdijhifdjbnkfaaGreat.BL
open Go.RowKit Go.Proofs.YtdijhifdjbnkfaaGreat.MM Go.Proofs.YtdijhifdjbnkfaaGreat.BM
def Pl (m:Nat) (s:List UInt8) (B n:Nat) (w:World):Prop:=∃ cur:Array Value,w.heap[B]? = some (.cells cur 257 (0,0))∧cur.size=4∧∀ k,k<n→cur[k]? = some (.int .i64 (placeL m s k:Nat))
theorem Pl.there {m B n:Nat} {s:List UInt8} {w:World} (h:Pl m s B n w) {k:Nat} (hk:k<4):∃ v,w.cell? ⟨B,k,none⟩=some v:=by
 obtain ⟨cur,hb,hs,_⟩:=h
 exact ⟨cur[k],by rw [cell_of_row w B k cur _ _ hb];simp [hs,hk]⟩
theorem Pl.free {m B n:Nat} {s:List UInt8} {w:World} (h:Pl m s B n w) (k:Nat):w.frozen? ⟨B,k,none⟩=false:=by
 obtain ⟨cur,hb,_,_⟩:=h
 exact frozen_of_row w B k cur _ hb
theorem Pl.put {m B n:Nat} {s:List UInt8} {w:World} (h:Pl m s B n w) (hn:n<4):Pl m s B (n+1) (w.setCell ⟨B,n,none⟩ (.int .i64 (placeL m s n:Nat))):=by
 obtain ⟨cur,hb,hs,hc⟩:=h
 refine ⟨_,heap_setCell_same w B n cur _ _ hb,by simp [hs],fun k hk => ?_⟩
 by_cases hkn:k=n
 ·subst hkn
  simp [hs,hn]
 ·rw [Array.getElem?_setIfInBounds_ne (by omega)]
  exact hc k (by omega)
def plA (m:Nat) (s:List UInt8):Array Value:=#[.int .i64 (placeL m s 0:Nat),.int .i64 (placeL m s 1:Nat),.int .i64 (placeL m s 2:Nat),.int .i64 (placeL m s 3:Nat)]
theorem Pl.all {m B:Nat} {s:List UInt8} {w:World} (h:Pl m s B 4 w):w.heap[B]? = some (.cells (plA m s) 257 (0,0)):=by
 obtain ⟨cur,hb,hs,hc⟩:=h
 have:cur=plA m s:=by
  apply Array.ext_getElem?
  intro k
  by_cases hk:k<4
  ·rw [hc k hk]
   match k,hk with
   | 0,_=>rfl
   | 1,_=>rfl
   | 2,_=>rfl
   | 3,_=>rfl
  ·rw [Array.getElem?_eq_none (by omega),Array.getElem?_eq_none (by simp [plA];omega)]
 rw [← this]
 exact hb
theorem plA_one (m:Nat) (s:List UInt8):(plA m s).all (·.oneCell')=true:=by
 simp only [plA,List.all_toArray,List.all_cons,List.all_nil]
 rfl
theorem infoFour:(Tryz.prog.info? 257).map (·.size)=some 4:=by kernel_rfl
theorem zero_four:∃ Z:Array Value,Z.size=4∧∀ W,Sem.run Tryz.prog (zeroValue 257) W=.ok (.agg Z) W :=
 ⟨#[.int .i64 0,.int .i64 0,.int .i64 0,.int .i64 0],rfl,fun W=>by kernel_rfl⟩
theorem below_setRow {B g:Nat} {a w:World} (cs:Array Value) (h:Below B a w) (hg:B≤g):Below B a (w.setRow g cs) :=
 ⟨h.os,h.tape,h.output,by rw [setRow_size];exact h.size,fun i hi=>by rw [setRow_other w g i cs (by omega)];exact h.block i hi⟩
theorem and_all (N:Nat) (hN:N<18446744073709551616):bits .and .u64 (N:Int) 4294967295=(N:Int)%4294967296:=by
 have:=bits_and_u64_nat N 4294967295 hN (by decide)
 rw [show (4294967295:Int)=((4294967295:Nat):Int) from rfl,this]
 have e:N &&& 4294967295=N%4294967296:=Nat.and_two_pow_sub_one_eq_mod N 32
 rw [e]
 omega
theorem or_one (Q:Nat) (hQ:Q<4294967296):bits .or .u64 (Q:Int) 1=((if Q%2=0 then Q+1 else Q:Nat):Int):=by
 have:=bits_or_u64_nat Q 1 (by omega) (by decide)
 rw [show (1:Int)=((1:Nat):Int) from rfl,this]
 congr 1
 apply Nat.eq_of_testBit_eq
 intro i
 rw [Nat.testBit_or]
 by_cases h:Q%2=0
 ·rw [if_pos h]
  cases i with
  | zero=>simp [Nat.testBit_zero];omega
  | succ i =>
    simp only [Nat.testBit_succ]
    rw [show (Q+1) / 2=Q / 2 by omega]
    simp
 ·rw [if_neg h]
  cases i with
  | zero=>simp [Nat.testBit_zero];omega
  | succ i=>simp [Nat.testBit_succ]
set_option maxRecDepth 100000 in
set_option maxHeartbeats 1000000 in
theorem places_any (s:List UInt8) (n:Nat) (w:World) (hs:s.length≤1000000000000) (hn0:8≤n) (hn1:n≤131072) :
  Calls Tryz.prog 171 #[.string ⟨s.toArray⟩,.int .i64 (8*(n:Int))] w fun e w'=>e=.returned (.agg (plA (8*n) s))∧Below w.heap.size w w':=by
 have HK:=Lib.hid (fun W=>cnum_any s W hs)
 obtain ⟨N,hN⟩:∃ N:Nat,numL s=(N:Int):=⟨(numL s).toNat,by have:=(numL_range s).1;omega⟩
 rw [hN] at HK
 have hr:=(numL_range s).2
 rw [hN] at hr
 have hN2:N<18446744073709551616:=by omega
 clear hr
 have hand:=and_all N hN2
 have hor:=or_one (N / 4294967296) (by omega)
 have e1:firstL s=N%4294967296:=by unfold firstL;rw [hN];omega
 have e2:secondL s=if N / 4294967296%2=0 then N / 4294967296+1 else N / 4294967296:=by
  have eh:halfL s=N / 4294967296:=by unfold halfL;rw [hN];omega
  unfold secondL;rw [eh]
 rw [← e2,show ((N / 4294967296:Nat):Int)=(N:Int) / 4294967296 by omega] at hor
 have hf:=firstL_lt s
 have hsc:=secondL_lt s
 have HPL:=Lib.hid (fun i (hi:i<4)=>place_int (firstL s) (secondL s) i n hf (by omega) hi hn0 hn1)
 have HPI:Hid (∀ i,(firstL s+i*secondL s)%(8*n)=placeL (8*n) s i):=Lib.hid (fun i=>rfl)
 have hand2:bits .and .u64 (N:Int) 4294967295=(firstL s:Int):=by rw [hand,e1];omega
 obtain ⟨P,hP⟩:∃ P,plA (8*n) s=P:=⟨_,rfl⟩
 have HAll:=Lib.hid (fun W (h:Pl (8*n) s w.heap.size 4 W)=>hP▸h.all)
 have HP4:Hid (P.size=4):=Lib.hid (hP▸rfl)
 have HP1:Hid (P.all (·.oneCell')=true):=Lib.hid (hP▸plA_one _ _)
 rw [hP]
 clear hP hand e1 e2 hN
 generalize firstL s=a at *
 generalize secondL s=b at *
 obtain ⟨Z,hZ,hz⟩:=zero_four
 have ht0:Pl (8*n) s w.heap.size 0 (w.alloc (.cells Z 257)):=⟨Z,heap_alloc_new _ _,hZ,fun k hk=>by omega⟩
 have hb0:Below w.heap.size w (w.alloc (.cells Z 257)):=(Below.refl _ _).alloc (Nat.le_refl _) _
 have HT0:=Lib.hid ht0
 have HB0:=Lib.hid hb0
 clear ht0 hb0 hZ
 have HAND:=Lib.hid hand2
 have HOR:=Lib.hid hor
 clear hand2 hor
 go_enter Tryz.func171,Tryz.ntmps171
 go_wp2_with fail
 refine (HK.out _).mono ?_
 rintro e w1 ⟨rfl,rfl⟩
 go_wp2_with fail
 rw [HAND.out,HOR.out]
 clear HAND HOR HK hz
 go_loopw [16] (fun iv wr=>∃ i:Nat,i≤4∧iv=.int .i64 i∧Hid (Pl (8*n) s w.heap.size i wr)∧Hid (Below w.heap.size w wr)) (fun iv _=>4 - (intOf iv).toNat)
 case atStart=>exact ⟨0,by omega,rfl,HT0,HB0⟩
 case round =>
  obtain ⟨i,hi,rfl,HT,HB⟩:=hrel
  clear HT0 HB0
  by_cases hlt:i<4
  ·have t1:decide ((i:Int)<4)=true:=by simp;omega
   have hfz:=HT.out.free i
   obtain ⟨old,hold⟩:=HT.out.there hlt
   have hpl:=HPL.out i hlt
   rw [HPI.out] at hpl
   have HT3:=Lib.hid (HT.out.put hlt)
   have HB3:=Lib.hid (HB.out.setCell (p:=⟨w.heap.size,i,none⟩) (Nat.le_refl _) (.int .i64 (placeL (8*n) s i:Nat)))
   obtain ⟨X,hX⟩:∃ X,placeL (8*n) s i=X:=⟨_,rfl⟩
   rw [hX] at HT3 HB3 hpl
   have HX:=Lib.hid hpl
   clear hX HT HB hpl
   go_wp2_with fail
   rw [HX.out]
   go_roundw
   case rel=>exact ⟨i+1,by omega,by go_num,HT3,HB3⟩
   case measure=>simp [intOf];omega
  ·obtain rfl:i=4:=by omega
   have t1:decide ((4:Int)<4)=false:=by simp
   have hg:=HAll.out _ HT.out
   have hs:=HP4.out
   have hi:(Tryz.prog.info? 257).map (·.size)=some P.size:=by rw [hs];exact infoFour
   have hg2:=setRow_heap wr w.heap.size P P _ _ hg
   have HG2:=Lib.hid hg2
   have HB3:=Lib.hid (below_setRow P HB.out (Nat.le_refl _))
   clear hg2 hs
   go_wp2_with (first | refine wpList_load_row rfl 257 (.tmp 4) rfl w.heap.size rfl 257 P (0,0) (.array 4 3) hg Tryz.underlying257 rfl hi ?_ | refine wpList_store_row rfl 257 (.tmp 4) (.tmp 32) rfl w.heap.size P rfl rfl 257 P hg hi rfl HP1.out ?_)
   refine bodyPost_ret (v:=.agg P) (results_cell_row rfl _ _ w.heap.size 257 P (0,0) (.array 4 3) rfl HG2.out Tryz.underlying257 rfl hi) rfl ⟨rfl,HB3.out⟩
end Go.Proofs.YtdijhifdjbnkfaaGreat.BL
