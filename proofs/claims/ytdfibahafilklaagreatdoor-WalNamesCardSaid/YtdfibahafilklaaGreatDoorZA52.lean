import Derived.Test.YtdfibahafilklaaGreatDoorZA12
import Derived.Lib.SmallJoins
set_option maxRecDepth 100000
set_option maxHeartbeats 8000000
set_option linter.unusedVariables false
set_option linter.unusedSimpArgs false
namespace Go.Proofs.YtdfibahafilklaaGreatDoor.WL
open Go Go.RowKit MM WM
def padL (m:Nat):Nat→List UInt8
 | 0=>[108,111,103,45,48,48,48,48,48,48,48,48]
 | j+1=>(padL m j).set (11 - j) (digW m (7 - j))
theorem pad_len (m:Nat):∀ j,(padL m j).length=12
 | 0=>rfl
 | j+1=>by rw [padL,List.length_set,pad_len m j]
theorem pad_all (m:Nat):padL m 8=nameW m:=rfl
theorem pad_dig (m j:Nat) (hj:j≤7):(digW m (7 - j)).toNat=48+m / 10^j%10:=by
 rw [digW_nat,show 7 - (7 - j)=j by omega]
def Lit12 (w:World) (R:Nat) (l:List UInt8):Prop:=l.length=12∧w.heap[R]? = some (.cells (Lib.byteCells l).toArray 5 (12,13))
theorem Lit12.lt {w:World} {R:Nat} {l:List UInt8} (h:Lit12 w R l):R<w.heap.size:=(Array.getElem?_eq_some_iff.1 h.2).1
theorem Lit12.cell {w:World} {R:Nat} {l:List UInt8} (h:Lit12 w R l) {i:Nat} {c:UInt8} (hi:l[i]? = some c):w.cell? ⟨R,i,none⟩=some (.int .u8 (c.toNat:Int)):=by
 rw [Joins.cell_of_block h.2]
 simp [Lib.byteCells,hi]
theorem Lit12.free {w:World} {R:Nat} {l:List UInt8} (h:Lit12 w R l) {i:Nat} (hi:i<12):w.frozen? ⟨R,i,none⟩=false:=by
 simp [World.frozen?,h.2]
 omega
theorem Lit12.set {w:World} {R:Nat} {l:List UInt8} (h:Lit12 w R l) (i:Nat) (c:UInt8):Lit12 (w.setCell ⟨R,i,none⟩ (.int .u8 (c.toNat:Int))) R (l.set i c):=by
 refine ⟨by rw [List.length_set];exact h.1,?_⟩
 rw [Joins.block_setCell h.2]
 congr 2
 simp [Lib.byteCells,List.map_set]
theorem Lit12.row {w:World} {R:Nat} {l:List UInt8} (h:Lit12 w R l):BRow w (.slice (some ⟨R,0,none⟩) 12 12) l:=by
 have hl:=h.1
 refine ⟨some ⟨R,0,none⟩,12,by simp [Lib.byteCells,hl],by simp [Lib.byteCells,hl],by unfold maxLen;omega,(fun h=>by cases h),.inr ⟨R,0,rfl,h.lt,fun i u hi => ?_⟩⟩
 rw [Nat.zero_add,Joins.cell_of_block h.2]
 simpa using hi
theorem rname_any (n:Int) (w:World):Calls Tryz.prog 9 #[.int .i64 n] w (NameLeft n w):=by
 unfold NameLeft nameI
 by_cases h0:n<0
 ·have t1:decide (n<0)=true:=decide_eq_true h0
  rw [if_pos (.inl h0)]
  clear h0
  go_enter Tryz.func9,Tryz.ntmps9
  go_wp2_with fail
  go_ret2
  exact ⟨rfl,Below.refl _ _⟩
 ·have t1:decide (n<0)=false:=decide_eq_false h0
  by_cases h1:99999999<n
  ·have t2:decide (n>99999999)=true:=decide_eq_true h1
   have t3:decide (99999999<n)=true:=decide_eq_true h1
   rw [if_pos (.inr h1)]
   clear h0 h1
   go_enter Tryz.func9,Tryz.ntmps9
   go_wp2_with fail
   go_ret2
   exact ⟨rfl,Below.refl _ _⟩
  ·have t2:decide (n>99999999)=false:=decide_eq_false h1
   have t3:decide (99999999<n)=false:=decide_eq_false h1
   rw [if_neg (by omega)]
   obtain ⟨m,rfl⟩:∃ m:Nat,n=(m:Int):=⟨n.toNat,by omega⟩
   have hm:m≤99999999:=by omega
   rw [show ((m:Int)).toNat=m by omega]
   obtain ⟨R,hR⟩:∃ R,w.heap.size=R:=⟨_,rfl⟩
   obtain ⟨w1,hw1⟩:∃ w1,w.alloc (.cells #[.int .u8 108,.int .u8 111,.int .u8 103,.int .u8 45,.int .u8 48,.int .u8 48,.int .u8 48,.int .u8 48,.int .u8 48,.int .u8 48,.int .u8 48,.int .u8 48] 5 (12,13))=w1:=⟨_,rfl⟩
   have hb1:Below R w w1:=by rw [← hw1,← hR];exact (Below.refl _ _).alloc (Nat.le_refl _) _
   have ho1:Lit12 w1 R (padL m 0):=⟨rfl,by rw [← hw1,← hR];exact heap_alloc_new w _⟩
   have hcv0:=Joins.run_convert_bytes_const_at (P:=Tryz.prog) w 31 5 #[.int .u8 108,.int .u8 111,.int .u8 103,.int .u8 45,.int .u8 48,.int .u8 48,.int .u8 48,.int .u8 48,.int .u8 48,.int .u8 48,.int .u8 48,.int .u8 48] 12 12 R hR.symm Tryz.underlying31 Tryz.underlying5
   simp only [List.size_toArray,List.length_cons,List.length_nil,Nat.reduceAdd] at hcv0
   have HW1:=Lib.hid hw1
   have HO1:=Lib.hid ho1
   have HB1:=Lib.hid hb1
   clear h0 h1 hw1 ho1 hb1
   rw [hR]
   go_enter Tryz.func9,Tryz.ntmps9
   go_wp2_with (rw [HW1.out])
   go_loopw [0,5] (fun nv iv wr=>∃ j:Nat,j≤8∧nv=.int .i64 ((m / 10^j:Nat):Int)∧iv=.int .i64 ((11 - j:Nat):Int)∧Hid (Lit12 wr R (padL m j))∧Hid (Below R w wr)) (fun _ iv _=>(intOf iv).toNat)
   case atStart=>exact ⟨0,by omega,by simp,rfl,HO1,HB1⟩
   case round =>
    obtain ⟨j,hj,rfl,rfl,HO,HB⟩:=hrel
    clear HO1 HB1
    by_cases hlt:j≤7
    ·have q1:decide (((11 - j:Nat):Int)≥4)=true:=by rw [decide_eq_true_eq];omega
     have q2:decide (4≤11 - j)=true:=by rw [decide_eq_true_eq];omega
     have q3:decide ((4:Int)≤((11 - j:Nat):Int))=true:=by rw [decide_eq_true_eq];omega
     have hd:=pad_dig m j hlt
     obtain ⟨c,hc⟩:∃ c,digW m (7 - j)=c:=⟨_,rfl⟩
     obtain ⟨k,hk⟩:∃ k,m / 10^j=k:=⟨_,rfl⟩
     have hk1:m / 10^(j+1)=k / 10:=by rw [Nat.pow_succ,← Nat.div_div_eq_div_mul,hk]
     have hkm:k≤99999999:=by rw [← hk];exact Nat.le_trans (Nat.div_le_self _ _) hm
     rw [hc,hk] at hd
     obtain ⟨r,hr⟩:∃ r,k%10=r:=⟨_,rfl⟩
     obtain ⟨q,hq⟩:∃ q,k / 10=q:=⟨_,rfl⟩
     have hr10:r<10:=by rw [← hr];exact Nat.mod_lt _ (by decide)
     have hq9:q≤99999999:=by rw [← hq];exact Nat.le_trans (Nat.div_le_self _ _) hkm
     have e8:(k:Int)%10=(r:Int):=by rw [← hr];rfl
     have e9:(k:Int) / 10=(q:Int):=by rw [← hq];rfl
     have e1:(k:Int).tmod 10=(r:Int):=by rw [Int.tmod_eq_emod_of_nonneg (by omega)];exact e8
     have e2:(k:Int).tdiv 10=(q:Int):=by rw [Int.tdiv_eq_ediv_of_nonneg (by omega)];exact e9
     rw [hr] at hd
     rw [hq] at hk1
     clear hr hq
     have e3:IntKind.u8.wrap (48+(r:Int))=(c.toNat:Int):=by rw [hd,IntKind.wrap_u8];omega
     have e4:wrap64 (48+(r:Int))=48+(r:Int):=by unfold wrap64;omega
     have e7:wrap64 (q:Int)=(q:Int):=by unfold wrap64;omega
     have e5:wrap64 (((11 - j:Nat):Int) - 1)=((11 - (j+1):Nat):Int):=by unfold wrap64;omega
     have e6:((11 - j:Nat):Int) - 1=((11 - (j+1):Nat):Int):=by omega
     obtain ⟨i,hi⟩:∃ i,11 - j=i:=⟨_,rfl⟩
     have hi12:i<12:=by omega
     have q4:decide (i<12)=true:=decide_eq_true hi12
     have q5:(i:Int)<12:=by omega
     have ho:=HO.out
     obtain ⟨old,hold⟩:∃ x,(padL m j)[i]? = some x:=⟨_,List.getElem?_eq_getElem (by rw [pad_len];exact hi12)⟩
     have c0:=ho.cell hold
     have f0:=ho.free hi12
     have HO2:Hid (Lit12 (wr.setCell ⟨R,i,none⟩ (.int .u8 (c.toNat:Int))) R (padL m (j+1))):=Lib.hid (by rw [padL,hi,hc];exact ho.set i c)
     have HB2:Hid (Below R w (wr.setCell ⟨R,i,none⟩ (.int .u8 (c.toNat:Int)))):=Lib.hid (HB.out.setCell (Nat.le_refl R) _)
     rw [hi] at q1 q2 q3 e5 e6 ⊢
     rw [hk]
     have HK:=Lib.hid hk1
     have HJL:=Lib.hid hlt
     have HE7:=Lib.hid e7
     have HJ:=Lib.hid hi
     obtain ⟨i2,hi2⟩:∃ x,11 - (j+1)=x:=⟨_,rfl⟩
     rw [hi2] at e5 e6
     have HI2:=Lib.hid hi2
     clear hd hc hk hold ho HO HB hk1 e8 e9 hi2 q2 hlt hj hkm hr10 hq9 hm
     go_wp2_with fail
     go_roundw
     case rel=>exact ⟨j+1,by have:=HJL.out;omega,by rw [HK.out,HE7.out],by rw [HI2.out],HO2,HB2⟩
     case measure=>have:=HJ.out;have:=HI2.out;have:=HJL.out;simp [intOf];omega
    ·obtain rfl:j=8:=by omega
     have q1:decide (((11 - 8:Nat):Int)≥4)=false:=rfl
     have q3:decide ((4:Int)≤3)=false:=rfl
     have ho:=HO.out
     rw [pad_all] at ho
     have hcv:=BIn.conv ho.row
     have HBF:=HB
     clear hlt HO
     go_wp2_with fail
     go_ret2
     exact ⟨rfl,HBF.out⟩
theorem mul_add_wrap {v r:Nat} (h1:v<100000000) (h2:r<10):wrap64 (10*(v:Int)+(r:Int))=((10*v+r:Nat):Int):=by unfold wrap64;omega
theorem mul_wrap {v:Nat} (h1:v<100000000):wrap64 (10*(v:Int))=10*(v:Int):=by unfold wrap64;omega
theorem dig_nine {c r:Nat} (h:¬ 57<c) (hr:c - 48=r):r<10:=by omega
theorem val_next {l:List UInt8} {k:Nat} (hk:k<l.length):valW (l.take (k+1))=10*valW (l.take k)+(l[k].toNat - 48):=by
 unfold valW
 rw [List.take_succ_eq_append_getElem hk,List.foldl_append]
 rfl
theorem val_lt {l:List UInt8} (h:l.all digitW=true):∀ k,k≤l.length→valW (l.take k)<10^k
 | 0,_=>by rw [List.take_zero];decide
 | k+1,hk=>by
   have h1:=val_lt h k (by omega)
   have h2:digitW l[k]=true:=List.all_eq_true.1 h _ (List.getElem_mem _)
   have h3:=(dig_lt h2).1
   rw [val_next (by omega),Nat.pow_succ]
   omega
theorem all_next {l:List UInt8} {k:Nat} (hk:k<l.length) (h:(l.take k).all digitW=true) (hc:digitW l[k]=true):(l.take (k+1)).all digitW=true:=by
 rw [List.take_succ_eq_append_getElem hk,List.all_append,h]
 simp [hc]
theorem take_bound {l:List UInt8} {k:Nat} (h:(l.take k).all digitW=true) (hk:k≤8) (hl:k≤l.length):valW (l.take k)<100000000:=by
 have h1:=val_lt h k (by rw [List.length_take];omega)
 rw [List.take_take,Nat.min_self] at h1
 exact Nat.lt_of_lt_of_le h1 (Nat.pow_le_pow_right (n:=10) (by decide) hk)
theorem rnumber_any (s:List UInt8) (w:World) (hs:s.length≤281474976710656):Calls Tryz.prog 11 #[.string ⟨s.toArray⟩] w (NumLeft s w):=by
 unfold NumLeft numberW
 have hz:(⟨s.toArray⟩:ByteArray).size=s.length:=by rw [Lib.size_eq]
 by_cases hl:s.length=12
 ·have t0:(((s.length:Nat):Int) != 12)=false:=by rw [hl];rfl
  have hcut:=text_cut s 0 4
  simp only [List.drop_zero,Nat.sub_zero] at hcut
  by_cases hp:s.take 4=[108,111,103,45]
  ·have t1:(((⟨s.toArray⟩:ByteArray).extract 0 4).toList == [108,111,103,45])=true:=by rw [hcut,hp];rfl
   obtain ⟨RES,hR⟩:∃ r,(if s.length=12∧s.take 4=[108,111,103,45]∧(s.drop 4).all digitW=true then some (valW (s.drop 4)) else none)=r:=⟨_,rfl⟩
   rw [hR]
   rw [hp] at hR
   have HR:=Lib.hid hR
   have HL:=Lib.hid hl
   have HD:Hid ((s.drop 4).length=8):=Lib.hid (by rw [List.length_drop];omega)
   have hsz12:(⟨s.toArray⟩:ByteArray).size=12:=by rw [hz,hl]
   clear hp hR hl hz hcut hs
   go_enter Tryz.func11,Tryz.ntmps11
   go_wp2_with fail
   go_loopw [4,5] (fun nv iv wr=>∃ k:Nat,k≤8∧nv=.int .i64 ((valW ((s.drop 4).take k):Nat):Int)∧iv=.int .i64 ((4+k:Nat):Int)∧Hid (((s.drop 4).take k).all digitW=true)∧w=wr) (fun _ iv _=>12 - (intOf iv).toNat)
   case atStart=>exact ⟨0,by omega,rfl,rfl,Lib.hid rfl,rfl⟩
   case round =>
    obtain ⟨k,hk,rfl,rfl,HA,rfl⟩:=hrel
    have hbd:=take_bound HA.out hk (by rw [HD.out];exact hk)
    by_cases hlt:k<8
    ·obtain ⟨i,hi⟩:∃ i,4+k=i:=⟨_,rfl⟩
     have q1:decide ((i:Int)<12)=true:=by rw [decide_eq_true_eq];omega
     have q2:decide (i<12)=true:=by rw [decide_eq_true_eq];omega
     have hkd:k<(s.drop 4).length:=by rw [HD.out];exact hlt
     obtain ⟨c,hc⟩:∃ c,(s.drop 4)[k]=c:=⟨_,rfl⟩
     have hsi:s[i]? = some c:=by
      rw [← hc,← hi,List.getElem_drop,List.getElem?_eq_getElem (by rw [HL.out];omega)]
     have hix:=text_index (show (⟨s.toArray⟩:ByteArray).data.toList=s by simp) hsi
     have hvn:=val_next hkd
     have han:=all_next hkd HA.out
     rw [hc] at hvn han
     have hc256:=c.toNat_lt
     obtain ⟨v,hv⟩:∃ v,valW ((s.drop 4).take k)=v:=⟨_,rfl⟩
     rw [hv] at hbd hvn ⊢
     have e6:wrap64 ((i:Int)+1)=((4+(k+1):Nat):Int):=by unfold wrap64;omega
     have e5:(i:Int)+1=((4+(k+1):Nat):Int):=by omega
     obtain ⟨i2,hi2⟩:∃ x,4+(k+1)=x:=⟨_,rfl⟩
     rw [hi2] at e5 e6
     have e7:wrap64 (i2:Int)=(i2:Int):=by rw [← e5];exact e6.trans e5.symm
     have HE7:=Lib.hid e7
     have HI:=Lib.hid hi
     have HI2:=Lib.hid hi2
     have HVN:=Lib.hid hvn
     have HAN:=Lib.hid han
     have HKL:=Lib.hid hlt
     have HC2:Hid (digitW c=false→∃ x∈s.drop 4,digitW x=false):=Lib.hid (fun h=>⟨c,by rw [← hc];exact List.getElem_mem _,h⟩)
     by_cases hlo:c.toNat<48
     ·have t2:decide ((c.toNat:Int)<48)=true:=by rw [decide_eq_true_eq];omega
      have t3:decide (c.toNat<48)=true:=decide_eq_true hlo
      have hno:digitW c=false:=by unfold digitW;rw [decide_eq_false (by omega)];rfl
      have hres:RES=none:=by
       obtain ⟨x,hx,hxf⟩:=HC2.out hno
       rw [← HR.out,if_neg]
       rintro ⟨_,_,h⟩
       have:=List.all_eq_true.1 h x hx
       rw [hxf] at this
       cases this
      subst hres
      rw [hi]
      clear hc hsi hvn han hv hi hi2 HVN HAN HC2 hlo hkd hbd hc256 hlt hk e5 e6 e7
      go_wp2_with fail
      go_ret2
      exact ⟨rfl,Below.refl _ _⟩
     ·have t2:decide ((c.toNat:Int)<48)=false:=by rw [decide_eq_false_iff_not];omega
      have t3:decide (c.toNat<48)=false:=decide_eq_false hlo
      by_cases hhi:57<c.toNat
      ·have t4:decide ((c.toNat:Int)>57)=true:=by rw [decide_eq_true_eq];omega
       have t5:decide (57<c.toNat)=true:=decide_eq_true hhi
       have t6:decide ((57:Int)<(c.toNat:Int))=true:=by rw [decide_eq_true_eq];omega
       have hno:digitW c=false:=by unfold digitW;rw [decide_eq_true (by omega),decide_eq_false (by omega)];rfl
       have hres:RES=none:=by
        obtain ⟨x,hx,hxf⟩:=HC2.out hno
        rw [← HR.out,if_neg]
        rintro ⟨_,_,h⟩
        have:=List.all_eq_true.1 h x hx
        rw [hxf] at this
        cases this
       subst hres
       rw [hi]
       clear hc hsi hvn han hv hi hi2 HVN HAN HC2 hlo hhi hkd hbd hc256 hlt hk e5 e6 e7
       go_wp2_with fail
       go_ret2
       exact ⟨rfl,Below.refl _ _⟩
      ·have t4:decide ((c.toNat:Int)>57)=false:=by rw [decide_eq_false_iff_not];omega
       have t5:decide (57<c.toNat)=false:=decide_eq_false hhi
       have t6:decide ((57:Int)<(c.toNat:Int))=false:=by rw [decide_eq_false_iff_not];omega
       have hyes:digitW c=true:=by unfold digitW;rw [decide_eq_true (by omega),decide_eq_true (by omega)];rfl
       obtain ⟨r,hr⟩:∃ r,c.toNat - 48=r:=⟨_,rfl⟩
       obtain ⟨v2,hv2⟩:∃ x,10*v+r=x:=⟨_,rfl⟩
       obtain ⟨cn,hcn⟩:∃ n,c.toNat=n:=⟨_,rfl⟩
       rw [hcn] at hlo hhi hr hc256
       have e1:IntKind.u8.wrap ((cn:Int) - 48)=(r:Int):=by clear hbd hv2;rw [IntKind.wrap_u8];omega
       have e2:wrap64 (r:Int)=(r:Int):=by clear hbd hv2;unfold wrap64;omega
       have e3:=mul_wrap hbd
       have e4:=mul_add_wrap hbd (dig_nine hhi hr)
       rw [hv2] at e4
       rw [← hcn] at e1 hr
       have HR4:=Lib.hid hr
       have HAT:=Lib.hid (HAN.out hyes)
       rw [hr] at hvn
       have HVN2:=Lib.hid hvn
       have HV2:=Lib.hid hv2
       have HE4:=Lib.hid e4
       rw [hi]
       clear hc hsi hvn han hv hi hi2 HVN HAN HC2 hlo hhi hyes hr hv2 hkd hbd hc256 hlt hk hcn
       go_wp2_with fail
       go_roundw
       case rel=>exact ⟨k+1,by have:=HKL.out;omega,by rw [HVN2.out,HV2.out,HE4.out],by rw [HI2.out,HE7.out],HAT,by first | rfl | trivial⟩
       case measure=>have:=HI.out;have:=HI2.out;have:=HKL.out;rw [HE7.out];simp [intOf];omega
    ·obtain rfl:k=8:=by omega
     have q1:decide (((4+8:Nat):Int)<12)=false:=rfl
     have q3:decide ((12:Int)<12)=false:=rfl
     have hall:=HA.out
     have htk:(s.drop 4).take 8=s.drop 4:=List.take_of_length_le (by rw [HD.out];exact Nat.le_refl _)
     rw [htk] at hall ⊢
     have hres:RES=some (valW (s.drop 4)):=by rw [← HR.out,if_pos ⟨HL.out,(by first | rfl | trivial),hall⟩]
     subst hres
     clear htk hall HA HR hbd hlt
     go_wp2_with fail
     go_ret2
     refine ⟨?_,Below.refl _ _⟩
     unfold numT
     rfl
  ·have t1:(((⟨s.toArray⟩:ByteArray).extract 0 4).toList == [108,111,103,45])=false:=by rw [hcut,beq_eq_false_iff_ne];exact hp
   rw [if_neg (fun h=>hp h.2.1)]
   have hsz12:(⟨s.toArray⟩:ByteArray).size=12:=by rw [hz,hl]
   clear hl hp hz hcut
   go_enter Tryz.func11,Tryz.ntmps11
   go_wp2_with fail
   go_ret2
   exact ⟨rfl,Below.refl _ _⟩
 ·have t0:(((s.length:Nat):Int) != 12)=true:=by rw [bne_iff_ne];omega
  rw [if_neg (fun h=>hl h.1)]
  clear hl
  go_enter Tryz.func11,Tryz.ntmps11
  go_wp2_with fail
  go_ret2
  exact ⟨rfl,Below.refl _ _⟩
end Go.Proofs.YtdfibahafilklaaGreatDoor.WL
