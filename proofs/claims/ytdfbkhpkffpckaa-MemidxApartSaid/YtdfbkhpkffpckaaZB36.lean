import Derived.Test.YtdfbkhpkffpckaaZB18
import Derived.Test.YtdfbkhpkffpckaaZB33
import Derived.Test.YtdfbkhpkffpckaaZB34
import Derived.Test.YtdfbkhpkffpckaaZB35
set_option maxRecDepth 100000
set_option maxHeartbeats 8000000
set_option linter.unusedVariables false
set_option linter.unusedSimpArgs false
namespace Go.Proofs.Ytdfbkhpkffpckaa.TK
open Go.RowKit MM
open UM (lowerZ wordZ encL runesL)
theorem irow_ints {w:World} {v:Value} {zs:List Int} (h:IRow w v zs):UM.IntRow w v zs:=by
 obtain ⟨p,cap,hv,_,_,_,h⟩:=h
 rw [List.length_map] at hv
 refine ⟨p,cap,hv,?_⟩
 rcases h with h | ⟨b,off,hp,hlt,hc⟩
 ·exact .inl (List.map_eq_nil_iff.1 h)
 ·exact .inr ⟨b,off,hp,hlt,fun i hi=>hc i _ (by simp [List.getD,hi])⟩
def Big (row:List Int) (n:Nat):Prop:=∀ m,n<m→m≤row.length→m≤32→32<(lowL (row.take m)).length
theorem big_end {row:List Int} {n:Nat} (hn:n≤row.length) (h32:n≤32) (hb:Big row n) (hs:(lowL (row.take n)).length≤32):cutW row=lowL (row.take n):=by
 refine cutW_take row n hn hs ?_
 by_cases h1:n=row.length
 ·exact .inl h1
 ·right
  by_cases h2:n<32
  ·exact hb (n+1) (by omega) (by omega) (by omega)
  ·have:=(lowL_len (row.take (n+1))).1
   rw [List.length_take] at this
   omega
theorem big_start (row:List Int):Big row (min row.length 32):=fun m h1 h2 h3=>by omega
theorem big_next {row:List Int} {n:Nat} (hb:Big row (n+1)) (h:32<(lowL (row.take (n+1))).length):Big row n:=fun m h1 h2 h3=>by
 by_cases e:m=n+1
 ·subst e;exact h
 ·exact hb m (by omega) h2 h3
def lenV:Value→Nat
 | .slice _ n _=>n
 | _=>0
theorem text_size (l:List UInt8):(⟨l.toArray⟩:ByteArray).size=l.length:=by rw [Lib.size_eq]
def StrLeft (l:List UInt8) (w:World) (e:Ending) (w':World):Prop:=e=.returned (.string ⟨l.toArray⟩)∧Below w.heap.size w w'
theorem wordOf_any (v:Value) (row:List Int) (w:World) (hr:IRow w v row) (hl:row.length≤1000000):Calls Try.prog 131 #[v] w (StrLeft (cutW row) w):=by
 obtain ⟨i0,hi,hz0,hz1,hz2⟩:=info_parts infoInt
 obtain ⟨p,cap,rfl,hlc,hcm⟩:=hr.shape
 unfold maxLen at hcm
 obtain ⟨N,hN⟩:∃ N,min row.length 32=N:=⟨_,rfl⟩
 obtain ⟨L,hL⟩:∃ L,row.map lowerZ=L:=⟨_,rfl⟩
 have hLl:L.length=row.length:=by rw [← hL,List.length_map]
 have HLl:=Lib.hid hLl
 have HLL:=Lib.hid hL
 clear hL hLl
 have hmin:min (row.length:Int) 32=(N:Int):=by omega
 have i1:(N:Int)≤(cap:Int):=by omega
 have HR:=Lib.hid hr
 have HN:=Lib.hid hN
 clear hr hN
 go_enter Try.func131,Try.ntmps131
 go_wp2_with (at_make;refine wpList_make_own w rfl _ _ 27 rfl w.heap.size 3 i0 (.int .i64 0) 1 Try.underlying27 hi hz0 hz1 .i64 .i64 32 32 rfl rfl rfl (by rw [hz2];omega) (by unfold maxLen;omega) (Nat.le_refl _) ?_)
 intro w1 hown1 hg1
 have b1:=(Below.refl w.heap.size w).grown hg1 (Nat.le_refl _) (fun k h=>by cases h)
 have HO0:Hid (OwnI w.heap.size w1 _ (L.take 0)):=Lib.hid hown1
 have HB0:=Lib.hid b1
 clear hown1 hg1 b1
 go_wp2_with fail
 go_loopw [3,14] (fun u i wr=>∃ k:Nat,k≤N∧i=.int .i64 k∧Hid (OwnI w.heap.size wr u (L.take k))∧Hid (Below w.heap.size w wr)) (fun _ i _=>N - (intOf i).toNat)
 case atStart=>exact ⟨0,by omega,rfl,HO0,HB0⟩
 case round =>
  obtain ⟨k,hk,rfl,HO,HB⟩:=hrel
  clear HO0 HB0
  have hnr:N≤row.length:=by have:=HN.out;omega
  have hsz:=HB.out.size
  by_cases hlt:k<N
  ·have t1:decide ((k:Int)<(N:Int))=true:=by simp;omega
   have hkr:k<row.length:=by omega
   obtain ⟨b,off,rfl,hbl,hcell⟩:=HR.out.at_ hkr
   have hcell2:=(HB.out.cell (p:=⟨b,off+k,none⟩) hbl).trans hcell
   have hnx:L.take (k+1)=L.take k++[lowerZ (row.getD k 0)]:=by
    rw [← HLL.out,List.take_succ_eq_append_getElem (by rw [List.length_map];exact hkr)];simp [List.getD,hkr]
   have hlow:=fun W=>UM.lower_any (row.getD k 0) W
   have hll:(L.take k).length≤32:=by rw [List.length_take];have:=HN.out;omega
   obtain ⟨r,hrr⟩:∃ r,row.getD k 0=r:=⟨_,rfl⟩
   rw [hrr] at hcell2 hnx
   simp only [hrr] at hlow
   have HNX:=Lib.hid hnx
   have HL:=Lib.hid hlow
   clear hcell hnx hlow hrr hmin hi hz0 hz1 hz2
   go_wp2_with fail
   refine (HL.out _).mono ?_
   rintro e w2 ⟨rfl,hb2⟩
   have HO2:=Lib.hid (HO.out.keep hb2)
   have HB2:=Lib.hid (HB.out.trans (hb2.mono hsz))
   have hsz2:=HB2.out.size
   clear hb2
   go_wp2_with (at_builtin;refine wpList_append_int rfl _ _ rfl w.heap.size _ _ w2 (lowerZ r) rfl rfl HO2.out rfl (by omega) hsz2 ?_)
   intro v3 w3 hown3 hb3
   rw [← HNX.out] at hown3
   have HO3:=Lib.hid hown3
   have HB3:=Lib.hid (HB2.out.trans hb3)
   clear hown3 hb3
   go_wp2_with fail
   go_roundw
   case rel=>exact ⟨k+1,by omega,by go_num,HO3,HB3⟩
   case measure=>simp [intOf];omega
  ·obtain rfl:k=N:=by omega
   have hir:=HO.out.irow
   obtain ⟨q,capq,rfl,hqc,hqm⟩:=hir.shape
   have hlen:(L.take k).length=k:=by rw [List.length_take,HLl.out];omega
   rw [hlen] at hir hqc ⊢
   have hen:=UM.enc_any _ _ wr (irow_ints hir) (by rw [hlen];omega)
   have HEN:=Lib.hid hen
   have HI:=Lib.hid hir
   have HLe:=Lib.hid hlen
   clear hen hir hlen HO hi hz0 hz1 hz2
   have t1:decide ((k:Int)<(k:Int))=false:=by simp
   go_wp2_with fail
   refine (HEN.out).mono ?_
   rintro e w2 ⟨rfl,hb2⟩
   have HB2:=Lib.hid (HB.out.trans (hb2.mono hsz))
   have HI2:=Lib.hid (HI.out.below hb2)
   clear HEN hb2 HB HI hmin hlt t1 hqm
   go_wp2_with fail
   have HG0:Hid (Big row k):=Lib.hid (by have:=big_start row;rw [HN.out] at this;exact this)
   go_loopw [3,6] (fun u t wr=>∃ n:Nat,n≤k∧u=.slice q n capq∧t=.string ⟨(encL (L.take n)).toArray⟩∧Hid (Big row n)∧Hid (IRow wr (.slice q n capq) (L.take n))∧Hid (Below w.heap.size w wr)) (fun u _ _=>lenV u)
   case atStart=>exact ⟨k,Nat.le_refl _,rfl,rfl,HG0,HI2,HB2⟩
   case round =>
    obtain ⟨n,hnk,rfl,rfl,HG,HI,HB⟩:=hrel
    clear HG0 HI2 HB2
    have hsz:=HB.out.size
    have hlow:encL (L.take n)=lowL (row.take n):=by rw [← HLL.out,← List.map_take];rfl
    rw [hlow]
    have hts:=text_size (lowL (row.take n))
    by_cases hbig:32<(lowL (row.take n)).length
    ·have hn0:n≠0:=by intro h;subst h;simp [lowL_nil] at hbig
     obtain ⟨m,rfl⟩:∃ m,n=m+1:=⟨n - 1,by omega⟩
     have HGm:=Lib.hid (big_next HG.out hbig)
     have HIm:=Lib.hid (IRow.take HI.out m (by omega))
     have eLm:(L.take (m+1)).take m=L.take m:=by rw [List.take_take,Nat.min_eq_left (by omega)]
     rw [eLm] at HIm
     have hlenm:(L.take m).length=m:=by rw [List.length_take,HLl.out];omega
     have HEN:=Lib.hid (UM.enc_any _ _ wr (irow_ints HIm.out) (by rw [hlenm];omega))
     obtain ⟨y,hy⟩:∃ y:ByteArray,y=⟨(lowL (row.take (m+1))).toArray⟩:=⟨_,rfl⟩
     rw [← hy] at hts ⊢
     have t1:decide ((y.size:Int)>32)=true:=by simp;omega
     have e1:((m+1:Nat):Int) - 1=(m:Int):=by omega
     have i2:(m:Int)≤(capq:Int):=by omega
     clear hts hy HG HI hlow hbig eLm
     go_wp2_with fail
     refine (HEN.out).mono ?_
     rintro e w3 ⟨rfl,hb3⟩
     have HB3:=Lib.hid (HB.out.trans (hb3.mono hsz))
     have HI3:=Lib.hid (HIm.out.below hb3)
     clear hb3 HIm HEN
     go_wp2
     go_roundw
     case rel=>exact ⟨m,by omega,rfl,rfl,HGm,HI3,HB3⟩
     case measure=>simp [lenV]
    ·have HF:=Lib.hid (big_end (row:=row) (n:=n) (by omega) (by have:=HN.out;omega) HG.out (by omega))
     obtain ⟨y,hy⟩:∃ y:ByteArray,y=⟨(lowL (row.take n)).toArray⟩:=⟨_,rfl⟩
     rw [← hy] at hts ⊢
     have t1:decide ((y.size:Int)>32)=false:=by simp;omega
     have HY:=Lib.hid hy
     clear hts hy HG HI hlow hbig
     go_wp2_with fail
     go_ret
     unfold StrLeft
     rw [HF.out,HY.out]
     exact ⟨rfl,HB.out⟩
end Go.Proofs.Ytdfbkhpkffpckaa.TK
