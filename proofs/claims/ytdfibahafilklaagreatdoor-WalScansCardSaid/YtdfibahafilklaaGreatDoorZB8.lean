import Derived.Test.YtdfibahafilklaaGreatDoorZB4
set_option maxRecDepth 100000
set_option maxHeartbeats 8000000
set_option linter.unusedVariables false
set_option linter.unusedSimpArgs false
namespace Go.Proofs.YtdfibahafilklaaGreatDoor.CR
open Go.RowKit MM CM
theorem zero_arr:∃ Z:Array Value,Z.size=256∧Z[0]? = some (.int .u32 0)∧∀ W,Sem.run Tryz.prog (zeroValue 242) W=.ok (.agg Z) W :=
 ⟨Array.replicate 256 (.int .u32 0),by simp,by simp,fun W=>by kernel_rfl⟩
def Tab (B n:Nat) (w:World):Prop:=∃ cur:Array Value,w.heap[B]? = some (.cells cur 242 (0,0))∧cur.size=256∧∀ k,k<n→cur[k]? = some (.int .u32 (steps 8 k))
theorem Tab.cell {B n:Nat} {w:World} (h:Tab B n w) {k:Nat} (hk:k<n):w.cell? ⟨B,k,none⟩=some (.int .u32 (steps 8 k)):=by
 obtain ⟨cur,hb,_,hc⟩:=h
 rw [cell_of_row w B k cur _ _ hb]
 exact hc k hk
theorem Tab.there {B n:Nat} {w:World} (h:Tab B n w) {k:Nat} (hk:k<256):∃ v,w.cell? ⟨B,k,none⟩=some v:=by
 obtain ⟨cur,hb,hs,_⟩:=h
 exact ⟨cur[k],by rw [cell_of_row w B k cur _ _ hb];simp [hs,hk]⟩
theorem Tab.free {B n:Nat} {w:World} (h:Tab B n w) (k:Nat):w.frozen? ⟨B,k,none⟩=false:=by
 obtain ⟨cur,hb,_,_⟩:=h
 exact frozen_of_row w B k cur _ hb
theorem Tab.put {B n:Nat} {w:World} (h:Tab B n w) (hn:n<256):Tab B (n+1) (w.setCell ⟨B,n,none⟩ (.int .u32 (steps 8 n))):=by
 obtain ⟨cur,hb,hs,hc⟩:=h
 refine ⟨_,heap_setCell_same w B n cur _ _ hb,by simp [hs],fun k hk => ?_⟩
 by_cases hkn:k=n
 ·subst hkn
  simp [hs,hn]
 ·rw [Array.getElem?_setIfInBounds_ne (by omega)]
  exact hc k (by omega)
theorem Tab.mono {B n m:Nat} {w:World} (h:Tab B n w) (hm:m≤n):Tab B m w:=by
 obtain ⟨cur,hb,hs,hc⟩:=h
 exact ⟨cur,hb,hs,fun k hk=>hc k (by omega)⟩
def tab:Array Value:=((List.range 256).map (fun k=>Value.int .u32 (steps 8 k:Nat))).toArray
theorem tab_size:tab.size=256:=by simp [tab]
theorem tab_get {k:Nat} (hk:k<256):tab[k]? = some (.int .u32 (steps 8 k:Nat)):=by simp [tab,hk]
theorem Tab.all {B:Nat} {w:World} (h:Tab B 256 w):w.heap[B]? = some (.cells tab 242 (0,0)):=by
 obtain ⟨cur,hb,hs,hc⟩:=h
 have:cur=tab:=by
  apply Array.ext_getElem?
  intro k
  by_cases hk:k<256
  ·rw [hc k hk,tab_get hk]
  ·rw [Array.getElem?_eq_none (by omega),Array.getElem?_eq_none (by rw [tab_size];omega)]
 rw [← this]
 exact hb
theorem infoArr:(Tryz.prog.info? 242).map (·.size)=some 256:=by kernel_rfl
theorem pow_xor_all:∀ j:Fin 8,∀ k:Fin 128,k.val<2^j.val→2^j.val ^^^ k.val=2^j.val+k.val:=by decide +kernel
theorem pow_xor:∀ j,j<8→∀ k,k<2^j→2^j ^^^ k=2^j+k:=by
 intro j hj k hk
 have h1:2^j≤2^7:=Nat.pow_le_pow_right (by omega) (by omega)
 exact pow_xor_all ⟨j,hj⟩ ⟨k,by omega⟩ hk
theorem tab_one:tab.all (·.oneCell')=true:=by
 rw [Array.all_eq_true]
 intro k hk
 rw [tab_size] at hk
 have h:=tab_get hk
 rw [Array.getElem?_eq_some_iff] at h
 obtain ⟨_,h⟩:=h
 rw [h]
 rfl
theorem below_setRow {B g:Nat} {a w:World} (cs:Array Value) (h:Below B a w) (hg:B≤g):Below B a (w.setRow g cs) :=
 ⟨h.os,h.tape,h.output,by rw [setRow_size];exact h.size,fun i hi=>by rw [setRow_other w g i cs (by omega)];exact h.block i hi⟩
theorem pow_bits {j k:Nat} (hj:j<8) (hk:k<2^j):bits .xor .u32 ((steps 8 (2^j):Nat):Int) ((steps 8 k:Nat):Int)=((steps 8 (2^j+k):Nat):Int):=by
 have h1:2^j≤2^7:=Nat.pow_le_pow_right (by omega) (by omega)
 rw [u32_xor_nat _ _ (steps_lt 8 (by omega)) (steps_lt 8 (by omega)),← steps_xor,pow_xor j hj k hk]
theorem tab_any (w:World):Calls Tryz.prog 187 #[] w fun e w'=>e=.returned (.agg tab)∧Below w.heap.size w w':=by
 obtain ⟨T,hT⟩:∃ T,tab=T:=⟨_,rfl⟩
 have HTs:Hid (T.size=256):=Lib.hid (hT▸tab_size)
 have HT1:Hid (T.all (·.oneCell')=true):=Lib.hid (hT▸tab_one)
 have HTab:Hid (∀ W,Tab w.heap.size 256 W→W.heap[w.heap.size]? = some (.cells T 242 (0,0))):=Lib.hid (fun W h=>hT▸h.all)
 rw [hT]
 clear hT
 obtain ⟨Z,hZ,hZ0,hz⟩:=zero_arr
 have ht0:Tab w.heap.size 1 (w.alloc (.cells Z 242)):=⟨Z,heap_alloc_new _ _,hZ,fun k hk=>by obtain rfl:k=0:=(by omega);rw [hZ0,steps_none];rfl⟩
 have hb0:Below w.heap.size w (w.alloc (.cells Z 242)):=(Below.refl _ _).alloc (Nat.le_refl _) _
 have HT0:=Lib.hid ht0
 have HB0:=Lib.hid hb0
 clear ht0 hb0 hZ hZ0
 go_enter Tryz.func187,Tryz.ntmps187
 go_wp2_with fail
 go_loopw [1] (fun h wr=>∃ j H:Nat,j≤8∧Hid (2^j=H)∧h=.int .i64 H∧0<H∧H≤256∧Hid (Tab w.heap.size H wr)∧Hid (Below w.heap.size w wr)) (fun h _=>256 - (intOf h).toNat)
 case atStart=>exact ⟨0,1,by omega,Lib.hid rfl,rfl,by omega,by omega,HT0,HB0⟩
 case round =>
  obtain ⟨j,H,hj,HJ,rfl,h0,h256,HT,HB⟩:=hrel
  clear HT0 HB0 hz
  by_cases hlt:H<256
  ·have hu:H<4294967296:=by omega
   go_wp2_with fail
   refine (turns_any H _ hu).mono ?_
   rintro e w1 ⟨rfl,rfl⟩
   have hs0:=steps_lt 8 hu
   go_wp2_with fail
   go_loopw [12] (fun i wr2=>∃ k:Nat,k≤H∧i=.int .i64 k∧Hid (Tab w.heap.size (H+k) wr2)∧Hid (Below w.heap.size w wr2)) (fun i _=>H - (intOf i).toNat)
   case atStart=>exact ⟨0,by omega,rfl,HT,HB⟩
   case round =>
    obtain ⟨k,hk,rfl,HT2,HB2⟩:=hrel
    clear HT HB
    by_cases hkH:k<H
    ·have hcell:=HT2.out.cell (k:=k) (by omega)
     have hfz:=HT2.out.free (H+k)
     have hp:H=2^j:=HJ.out.symm
     have hj8:j<8:=by
      rcases Nat.lt_or_ge j 8 with h | h
      ·exact h
      ·have:j=8:=by omega
       rw [this] at hp
       omega
     have hxor:=pow_bits (j:=j) (k:=k) hj8 (hp▸hkH)
     have hp1:2^(j+1)=H*2:=by rw [Nat.pow_succ,← hp]
     have hp2:2^(j+1)≤2^8:=Nat.pow_le_pow_right (by omega) (by omega)
     have hH:H*2≤256:=by omega
     clear hp1 hp2
     obtain ⟨old,hold⟩:=HT2.out.there (k:=H+k) (by omega)
     have hb1:(0:Int)≤(H:Int)+k:=by omega
     have hb2:(H:Int)+k<256:=by omega
     rw [← hp] at hxor
     have HT3:=Lib.hid (HT2.out.put (by omega))
     have HB3:=Lib.hid (HB2.out.setCell (p:=⟨w.heap.size,H+k,none⟩) (Nat.le_refl _) (.int .u32 (steps 8 (H+k):Nat)))
     clear hp hj8 HT2 HB2
     go_wp2_with fail
     go_roundw
     case rel=>exact ⟨k+1,by omega,by go_num,HT3,HB3⟩
     case measure=>simp [intOf];omega
    ·obtain rfl:k=H:=by omega
     go_wp2_with fail
     go_roundw
     have hp:2^j=k:=HJ.out
     have hj8:j<8:=by
      rcases Nat.lt_or_ge j 8 with h | h
      ·exact h
      ·have:j=8:=by omega
       rw [this] at hp
       omega
     have hp1:2^(j+1)=k*2:=by rw [Nat.pow_succ,hp]
     have hp2:2^(j+1)≤2^8:=Nat.pow_le_pow_right (by omega) (by omega)
     case rel=>exact ⟨j+1,k*2,by omega,Lib.hid hp1,by go_num,by omega,by omega,Lib.hid (HT2.out.mono (by omega)),HB2⟩
     case measure=>simp [intOf];omega
  ·obtain rfl:H=256:=by omega
   have hg:=HTab.out _ HT.out
   have hs:=HTs.out
   have hi:(Tryz.prog.info? 242).map (·.size)=some T.size:=by rw [hs];exact infoArr
   have hg2:=setRow_heap wr w.heap.size T T _ _ hg
   have HG2:=Lib.hid hg2
   have HB3:=Lib.hid (below_setRow T HB.out (Nat.le_refl _))
   clear hg2 hs
   go_wp2_with (first | refine wpList_load_row rfl 242 (.tmp 0) rfl w.heap.size rfl 242 T (0,0) (.array 256 159) hg Tryz.underlying242 rfl hi ?_ | refine wpList_store_row rfl 242 (.tmp 0) (.tmp 25) rfl w.heap.size T rfl rfl 242 T hg hi rfl HT1.out ?_)
   refine bodyPost_ret (v:=.agg T) (results_cell_row rfl _ _ w.heap.size 242 T (0,0) (.array 256 159) rfl HG2.out Tryz.underlying242 rfl hi) rfl ⟨rfl,HB3.out⟩
end Go.Proofs.YtdfibahafilklaaGreatDoor.CR
namespace Go.Proofs.YtdfibahafilklaaGreatDoor.CR
open Go.RowKit MM CM
def PRow (w:World) (v:Value) (ls:List (List UInt8)):Prop:=∃ xs,Row w v xs∧xs.length=ls.length∧∀ i (h:i<ls.length),∃ x,xs[i]? = some x∧BRow w x ls[i]
theorem PRow.below {w w':World} {v:Value} {ls:List (List UInt8)} (h:PRow w v ls) (hb:Below w.heap.size w w'):PRow w' v ls:=by
 obtain ⟨xs,hr,hl,hx⟩:=h
 refine ⟨xs,Row.below (B:=0) hr hb,hl,fun i hi => ?_⟩
 obtain ⟨x,h1,h2⟩:=hx i hi
 exact ⟨x,h1,h2.below hb⟩
theorem PRow.shape {w:World} {v:Value} {ls:List (List UInt8)} (h:PRow w v ls):∃ p cap,v=.slice p ls.length cap∧ls.length≤cap∧cap≤maxLen:=by
 obtain ⟨xs,⟨p,cap,hv,h1,h2,_,_⟩,hl,_⟩:=h
 rw [hl] at hv h1
 exact ⟨p,cap,hv,h1,h2⟩
theorem PRow.at_ {w:World} {p:Option Addr} {n cap:Nat} {ls:List (List UInt8)} (h:PRow w (.slice p n cap) ls) {k:Nat} (hk:k<ls.length) :
  ∃ b off x,p=some ⟨b,off,none⟩∧w.cell? ⟨b,off+k,none⟩=some x∧BRow w x ls[k]:=by
 obtain ⟨xs,⟨p',cap',hv,_,_,_,h⟩,hl,hx⟩:=h
 simp only [Value.slice.injEq] at hv
 obtain ⟨rfl,_,_⟩:=hv
 obtain ⟨x,h1,h2⟩:=hx k hk
 rcases h with h | ⟨b,off,hp,hlt,hc⟩
 ·rw [h] at h1;simp at h1
 ·exact ⟨b,off,x,hp,hc k _ h1,h2⟩
theorem prow_lit {w:World} (xs:List Value) (ls:List (List UInt8)) (hl:xs.length=ls.length) (hm:xs.length≤maxLen) (h:∀ i (h:i<ls.length),∃ x,xs[i]? = some x∧BRow w x ls[i]) :
  PRow (w.alloc (.cells xs.toArray 31)) (.slice (some ⟨w.heap.size,0,none⟩) xs.length xs.length) ls:=by
 have hb:Below w.heap.size w (w.alloc (.cells xs.toArray 31)):=(Below.refl _ _).alloc (Nat.le_refl _) _
 refine ⟨xs,⟨some ⟨w.heap.size,0,none⟩,xs.length,rfl,Nat.le_refl _,hm,(fun h=>by cases h),.inr ⟨w.heap.size,0,rfl,by simp,fun i u hi => ?_⟩⟩,hl,fun i hi => ?_⟩
 ·rw [cell_of_row _ w.heap.size _ _ _ _ (heap_alloc_new _ _)]
  simpa using hi
 ·obtain ⟨x,h1,h2⟩:=h i hi
  exact ⟨x,h1,h2.below hb⟩
theorem xor_low (q r b:Nat) (hr:r<256) (hb:b<256):(256*q+r) ^^^ b=256*q+(r ^^^ b):=by
 have h1:=Nat.xor_mod_two_pow (a:=256*q+r) (b:=b) (n:=8)
 have h2:=Nat.shiftRight_xor_distrib (a:=256*q+r) (b:=b) (i:=8)
 rw [Nat.shiftRight_eq_div_pow,Nat.shiftRight_eq_div_pow,Nat.shiftRight_eq_div_pow] at h2
 rw [show (2:Nat)^8=256 from rfl] at h1 h2
 rw [show (256*q+r)%256=r by omega,show b%256=b by omega] at h1
 rw [show (256*q+r) / 256=q by omega,show b / 256=0 by omega,Nat.xor_zero] at h2
 omega
theorem onB_table (m b:Nat) (hb:b<256):onB m b=steps 8 (m%256 ^^^ b) ^^^ m / 256:=by
 have hz:m%256 ^^^ b<256:=Nat.xor_lt_two_pow (n:=8) (by omega) hb
 have h1:=xor_low (m / 256) (m%256) b (by omega) hb
 have h2:=xor_low (m / 256) 0 (m%256 ^^^ b) (by omega) hz
 rw [Nat.zero_xor,Nat.add_zero] at h2
 rw [show 256*(m / 256)+m%256=m by omega] at h1
 unfold onB
 rw [h1,← h2,steps_xor,steps_byte,Nat.xor_comm]
theorem table_byte (m:Nat) (c:UInt8):bits .xor .u8 ((m:Int)%256) (c.toNat:Int)=((m%256 ^^^ c.toNat:Nat):Int):=by
 rw [show (m:Int)%256=((m%256:Nat):Int) by omega]
 exact u8_xor_nat _ _ (by omega) c.toNat_lt
theorem table_step (m:Nat) (c:UInt8) (hm:m<4294967296):bits .xor .u32 ((steps 8 (m%256 ^^^ c.toNat):Nat):Int) ((m:Int) / 256)=((onB m c.toNat:Nat):Int):=by
 have hz:m%256 ^^^ c.toNat<256:=Nat.xor_lt_two_pow (n:=8) (by omega) c.toNat_lt
 rw [show (m:Int) / 256=((m / 256:Nat):Int) by omega,u32_xor_nat _ _ (steps_lt 8 (by omega)) (by omega),onB_table m _ c.toNat_lt]
theorem run_flat_take {ls:List (List UInt8)} {k:Nat} (hk:k<ls.length):(ls.drop k).flatten=ls[k]++(ls.drop (k+1)).flatten:=by
 rw [List.drop_eq_getElem_cons hk,List.flatten_cons]
end Go.Proofs.YtdfibahafilklaaGreatDoor.CR
namespace Go.Proofs.YtdfibahafilklaaGreatDoor.CR
open Go.RowKit MM CM
theorem nat_not {n:Nat} (hn:n<4294967296):4294967295 ^^^ n=4294967295 - n:=by
 have h:=congrArg BitVec.toNat (BitVec.allOnes_xor (x:=BitVec.ofNat 32 n))
 simp only [BitVec.toNat_xor,BitVec.toNat_allOnes,BitVec.toNat_not,BitVec.toNat_ofNat] at h
 rw [show n%2^32=n by omega] at h
 simpa using h
theorem not_code {n:Nat} (hn:n<4294967296):bits .xor .u32 IntKind.u32.max (n:Int)=((notB n:Nat):Int):=by
 have h:=u32_xor_nat 4294967295 n (by omega) hn
 rw [nat_not hn] at h
 exact h
theorem u32_unsigned:IntKind.u32.signed=false:=rfl
theorem Tab.of_row {B:Nat} {w:World} {T:Array Value} (hT:tab=T) (h:w.heap[B]? = some (.cells T 242 (0,0))):Tab B 256 w:=by
 subst hT
 exact ⟨tab,h,tab_size,fun k hk=>tab_get hk⟩
theorem run_drop {l R:List UInt8} {m j r:Nat} (hj:j<l.length) (h:run m (l.drop j++R)=r):run (onB m (l[j]).toNat) (l.drop (j+1)++R)=r:=by
 rw [List.drop_eq_getElem_cons hj,List.cons_append,run_cons] at h
 exact h
theorem goon_any (s:Nat) (v:Value) (ls:List (List UInt8)) (w:World) (hs:s<4294967296) (hr:PRow w v ls) :
  Calls Tryz.prog 166 #[.int .u32 s,v] w fun e w'=>e=.returned (.int .u32 (nextL s ls.flatten:Nat))∧Below w.heap.size w w':=by
 obtain ⟨p,cap,rfl,hlc,hcm⟩:=hr.shape
 unfold maxLen at hcm
 obtain ⟨T,hT⟩:∃ T,tab=T:=⟨_,rfl⟩
 have HTs:Hid (T.size=256):=Lib.hid (hT▸tab_size)
 have HT1:Hid (T.all (·.oneCell')=true):=Lib.hid (hT▸tab_one)
 have HTab:Hid (∀ B W,W.heap[B]? = some (.cells T 242 (0,0))→Tab B 256 W):=Lib.hid (fun B W h=>Tab.of_row hT h)
 have hK:=fun W=>tab_any W
 rw [hT] at hK
 have HK:=Lib.hid hK
 obtain ⟨Z,hZ,hZ0,hz⟩:=zero_arr
 obtain ⟨r,hrr⟩:∃ r,run (notB s) ls.flatten=r:=⟨_,rfl⟩
 have HRes:Hid (nextL s ls.flatten=notB r):=Lib.hid (by unfold nextL;rw [hrr])
 have HR0:Hid (run (notB s) (ls.drop 0).flatten=r):=Lib.hid hrr
 have HZ:=Lib.hid hZ
 have HP:=Lib.hid hr
 obtain ⟨F,hF⟩:∃ F,nextL s ls.flatten=F:=⟨_,rfl⟩
 rw [hF]
 rw [hF] at HRes
 clear hT hK hZ hZ0 hrr hr hF
 go_enter Tryz.func166,Tryz.ntmps166
 go_wp2_with fail
 refine (HK.out _).mono ?_
 rintro e w1 ⟨rfl,hb1⟩
 have hb2:Below w.heap.size w (w1.alloc (.cells Z 242)):=hb1.alloc hb1.size _
 have hg2:(w1.alloc (.cells Z 242)).heap[w1.heap.size]? = some (.cells Z 242 (0,0)):=heap_alloc_new _ _
 have hg3:=setRow_heap _ w1.heap.size Z T _ _ hg2
 have HT3:=Lib.hid (HTab.out _ _ hg3)
 have HB3:=Lib.hid (below_setRow T hb2 hb1.size)
 have hi:(Tryz.prog.info? 242).map (·.size)=some T.size:=by rw [HTs.out];exact infoArr
 have hzt:Z.size=T.size:=by rw [HTs.out,HZ.out]
 have HG2:=Lib.hid hg2
 have HI:=Lib.hid hi
 have HZT:=Lib.hid hzt
 clear hg2 hg3 hi hzt hb2
 obtain ⟨w3,hw3⟩:∃ w3,(w1.alloc (.cells Z 242)).setRow w1.heap.size T=w3:=⟨_,rfl⟩
 rw [hw3] at HT3 HB3
 have HW3:=Lib.hid hw3
 have hsz1:=HB3.out.size
 have HP3:=Lib.hid (HP.out.below HB3.out)
 obtain ⟨g,hg⟩:∃ g,w1.heap.size=g:=⟨_,rfl⟩
 have HG:=Lib.hid hg
 clear hw3 hg
 have hu:=u32_unsigned
 have hn:=not_code hs
 have hnl:=notB_lt s
 go_wp2_with (refine wpList_store_row rfl 242 (.tmp 5) (.tmp 10) rfl w1.heap.size T rfl rfl 242 Z HG2.out HI.out HZT.out HT1.out ?_;rw [HW3.out])
 clear hz HG2 HI HZT HT1 HZ HTs HTab HK HW3 HP
 rw [HG.out] at HT3
 rw [HG.out]
 clear HG
 go_loop [0,15] (fun s i=>∃ k m:Nat,k≤ls.length∧i=.int .i64 k∧s=.int .u32 m∧m<4294967296∧Hid (run m (ls.drop k).flatten=r)) (fun _ i=>ls.length - (intOf i).toNat)
 case atStart=>exact ⟨0,notB s,by omega,rfl,rfl,hnl,HR0⟩
 case round =>
  obtain ⟨k,m,hk,rfl,rfl,hm,H⟩:=hrel
  clear HR0 hn hnl hs
  by_cases hlt:k<ls.length
  ·obtain ⟨b,off,x,rfl,hcell,hx⟩:=HP3.out.at_ hlt
   have h2:=H.out
   rw [run_flat_take hlt] at h2
   generalize ls[k]=l at h2 hx
   obtain ⟨p2,cap2,rfl,hlc2,hcm2⟩:=hx.shape
   unfold maxLen at hcm2
   obtain ⟨R,hR⟩:∃ R,(ls.drop (k+1)).flatten=R:=⟨_,rfl⟩
   rw [hR] at h2
   have HRR:=Lib.hid hR
   clear hR
   have H2:Hid (run m (l.drop 0++R)=r):=Lib.hid h2
   have HX:=Lib.hid hx
   clear h2 H hx
   go_wp2_with fail
   go_loop [0,21] (fun s i=>∃ j m:Nat,j≤l.length∧i=.int .i64 j∧s=.int .u32 m∧m<4294967296∧Hid (run m (l.drop j++R)=r)) (fun _ i=>l.length - (intOf i).toNat)
   case atStart=>exact ⟨0,m,by omega,rfl,rfl,hm,H2⟩
   case round =>
    obtain ⟨j,n,hj,rfl,rfl,hn,H3⟩:=hrel
    clear H2 hm hcell
    by_cases hjl:j<l.length
    ·obtain ⟨b2,off2,rfl,hbl2,hcell2⟩:=HX.out.at_ hjl
     have h4:=run_drop hjl H3.out
     generalize l[j]=c at h4 hcell2
     have hz:n%256 ^^^ c.toNat<256:=Nat.xor_lt_two_pow (n:=8) (by omega) c.toNat_lt
     have htab:=HT3.out.cell hz
     have e1:=table_byte n c
     have e2:=table_step n c hn
     have hn2:=onB_lt hn c.toNat_lt
     have hcb:=c.toNat_lt
     have hb1:(0:Int)≤((n%256 ^^^ c.toNat:Nat):Int):=by omega
     have hb2:((n%256 ^^^ c.toNat:Nat):Int)<256:=by omega
     generalize n%256 ^^^ c.toNat=z at *
     generalize onB n c.toNat=n2 at *
     have H4:=Lib.hid h4
     clear h4 H3
     go_wp2_with fail
     go_round
     case rel=>exact ⟨j+1,n2,by omega,by go_num,rfl,hn2,H4⟩
     case measure=>simp [intOf];omega
    ·obtain rfl:j=l.length:=by omega
     have h4:=H3.out
     rw [List.drop_length,List.nil_append,← HRR.out] at h4
     have H4:=Lib.hid h4
     clear h4 H3
     go_wp2_with fail
     go_round
     case rel=>exact ⟨k+1,n,by omega,by go_num,rfl,hn,H4⟩
     case measure=>simp [intOf];omega
  ·obtain rfl:k=ls.length:=by omega
   have hn:=not_code hm
   have h2:=H.out
   rw [List.drop_length] at h2
   have h3:m=r:=h2
   subst h3
   clear h2 H
   go_wp2_with fail
   have hF:=HRes.out
   subst hF
   go_ret
   exact ⟨rfl,HB3.out⟩
end Go.Proofs.YtdfibahafilklaaGreatDoor.CR
