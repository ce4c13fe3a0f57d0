import Derived.Test.YtidhgicajlaafaaGreatZD5
import Derived.Test.YtidhgicajlaafaaGreatZD7
import Derived.Test.YtidhgicajlaafaaGreatZD23
import Derived.Test.YtidhgicajlaafaaGreatZD25
set_option maxRecDepth 100000
set_option maxHeartbeats 8000000
set_option linter.unusedVariables false
set_option linter.unusedSimpArgs false
namespace Go.Proofs.YtidhgicajlaafaaGreat.TK
open Go.RowKit MM
open UM (lowerZ wordZ encL runesL)
theorem irow_ints {w:World} {v:Value} {zs:List Int} (h:IRow w v zs):UM.IntRow w v zs:=by
 obtain ⟨p,cap,hv,_,_,_,h⟩:=h
 rw [List.length_map] at hv
 refine ⟨p,cap,hv,?_⟩
 rcases h with h | ⟨b,off,hp,hlt,hc⟩
 ·exact .inl (List.map_eq_nil_iff.1 h)
 ·exact .inr ⟨b,off,hp,hlt,fun i hi=>hc i _ (by simp [List.getD,hi])⟩
def Big (row:List Int) (n:Nat):Prop:=∀ m,n<m→m≤row.length→m≤32→32<(lowL (row.take m)).length
theorem big_end {row:List Int} {n:Nat} (hn:n≤row.length) (h32:n≤32) (hb:Big row n) (hs:(lowL (row.take n)).length≤32):cutW row=lowL (row.take n):=by
 refine cutW_take row n hn hs ?_
 by_cases h1:n=row.length
 ·exact .inl h1
 ·right
  by_cases h2:n<32
  ·exact hb (n+1) (by omega) (by omega) (by omega)
  ·have:=(lowL_len (row.take (n+1))).1
   rw [List.length_take] at this
   omega
theorem big_start (row:List Int):Big row (min row.length 32):=fun m h1 h2 h3=>by omega
theorem big_next {row:List Int} {n:Nat} (hb:Big row (n+1)) (h:32<(lowL (row.take (n+1))).length):Big row n:=fun m h1 h2 h3=>by
 by_cases e:m=n+1
 ·subst e;exact h
 ·exact hb m (by omega) h2 h3
def lenV:Value→Nat
 | .slice _ n _=>n
 | _=>0
theorem text_size (l:List UInt8):(⟨l.toArray⟩:ByteArray).size=l.length:=by rw [Lib.size_eq]
def StrLeft (l:List UInt8) (w:World) (e:Ending) (w':World):Prop:=e=.returned (.string ⟨l.toArray⟩)∧Below w.heap.size w w'
theorem wordOf_any (v:Value) (row:List Int) (w:World) (hr:IRow w v row) (hl:row.length≤1000000):Calls Tryz.prog 153 #[v] w (StrLeft (cutW row) w):=by
 obtain ⟨i0,hi,hz0,hz1,hz2⟩:=info_parts infoInt
 obtain ⟨p,cap,rfl,hlc,hcm⟩:=hr.shape
 unfold maxLen at hcm
 obtain ⟨N,hN⟩:∃ N,min row.length 32=N:=⟨_,rfl⟩
 obtain ⟨L,hL⟩:∃ L,row.map lowerZ=L:=⟨_,rfl⟩
 have hLl:L.length=row.length:=by rw [← hL,List.length_map]
 have HLl:=Lib.hid hLl
 have HLL:=Lib.hid hL
 clear hL hLl
 have hmin:min (row.length:Int) 32=(N:Int):=by omega
 have i1:(N:Int)≤(cap:Int):=by omega
 have HR:=Lib.hid hr
 have HN:=Lib.hid hN
 clear hr hN
 go_enter Tryz.func153,Tryz.ntmps153
 go_wp2_with (at_make;refine wpList_make_own w rfl _ _ 73 rfl w.heap.size 3 i0 (.int .i64 0) 1 Tryz.underlying73 hi hz0 hz1 .i64 .i64 32 32 rfl rfl rfl (by rw [hz2];omega) (by unfold maxLen;omega) (Nat.le_refl _) ?_)
 intro w1 hown1 hg1
 have b1:=(Below.refl w.heap.size w).grown hg1 (Nat.le_refl _) (fun k h=>by cases h)
 have HO0:Hid (OwnI w.heap.size w1 _ (L.take 0)):=Lib.hid hown1
 have HB0:=Lib.hid b1
 clear hown1 hg1 b1
 go_wp2_with fail
 go_loopw [3,14] (fun u i wr=>∃ k:Nat,k≤N∧i=.int .i64 k∧Hid (OwnI w.heap.size wr u (L.take k))∧Hid (Below w.heap.size w wr)) (fun _ i _=>N - (intOf i).toNat)
 case atStart=>exact ⟨0,by omega,rfl,HO0,HB0⟩
 case round =>
  obtain ⟨k,hk,rfl,HO,HB⟩:=hrel
  clear HO0 HB0
  have hnr:N≤row.length:=by have:=HN.out;omega
  have hsz:=HB.out.size
  by_cases hlt:k<N
  ·have t1:decide ((k:Int)<(N:Int))=true:=by simp;omega
   have hkr:k<row.length:=by omega
   obtain ⟨b,off,rfl,hbl,hcell⟩:=HR.out.at_ hkr
   have hcell2:=(HB.out.cell (p:=⟨b,off+k,none⟩) hbl).trans hcell
   have hnx:L.take (k+1)=L.take k++[lowerZ (row.getD k 0)]:=by
    rw [← HLL.out,List.take_succ_eq_append_getElem (by rw [List.length_map];exact hkr)];simp [List.getD,hkr]
   have hlow:=fun W=>UM.lower_any (row.getD k 0) W
   have hll:(L.take k).length≤32:=by rw [List.length_take];have:=HN.out;omega
   obtain ⟨r,hrr⟩:∃ r,row.getD k 0=r:=⟨_,rfl⟩
   rw [hrr] at hcell2 hnx
   simp only [hrr] at hlow
   have HNX:=Lib.hid hnx
   have HL:=Lib.hid hlow
   clear hcell hnx hlow hrr hmin hi hz0 hz1 hz2
   go_wp2_with fail
   refine (HL.out _).mono ?_
   rintro e w2 ⟨rfl,hb2⟩
   have HO2:=Lib.hid (HO.out.keep hb2)
   have HB2:=Lib.hid (HB.out.trans (hb2.mono hsz))
   have hsz2:=HB2.out.size
   clear hb2
   go_wp2_with (at_builtin;refine wpList_append_int rfl _ _ rfl w.heap.size _ _ w2 (lowerZ r) rfl rfl HO2.out rfl (by omega) hsz2 ?_)
   intro v3 w3 hown3 hb3
   rw [← HNX.out] at hown3
   have HO3:=Lib.hid hown3
   have HB3:=Lib.hid (HB2.out.trans hb3)
   clear hown3 hb3
   go_wp2_with fail
   go_roundw
   case rel=>exact ⟨k+1,by omega,by go_num,HO3,HB3⟩
   case measure=>simp [intOf];omega
  ·obtain rfl:k=N:=by omega
   have hir:=HO.out.irow
   obtain ⟨q,capq,rfl,hqc,hqm⟩:=hir.shape
   have hlen:(L.take k).length=k:=by rw [List.length_take,HLl.out];omega
   rw [hlen] at hir hqc ⊢
   have hen:=UM.enc_any _ _ wr (irow_ints hir) (by rw [hlen];omega)
   have HEN:=Lib.hid hen
   have HI:=Lib.hid hir
   have HLe:=Lib.hid hlen
   clear hen hir hlen HO hi hz0 hz1 hz2
   have t1:decide ((k:Int)<(k:Int))=false:=by simp
   go_wp2_with fail
   refine (HEN.out).mono ?_
   rintro e w2 ⟨rfl,hb2⟩
   have HB2:=Lib.hid (HB.out.trans (hb2.mono hsz))
   have HI2:=Lib.hid (HI.out.below hb2)
   clear HEN hb2 HB HI hmin hlt t1 hqm
   go_wp2_with fail
   have HG0:Hid (Big row k):=Lib.hid (by have:=big_start row;rw [HN.out] at this;exact this)
   go_loopw [3,6] (fun u t wr=>∃ n:Nat,n≤k∧u=.slice q n capq∧t=.string ⟨(encL (L.take n)).toArray⟩∧Hid (Big row n)∧Hid (IRow wr (.slice q n capq) (L.take n))∧Hid (Below w.heap.size w wr)) (fun u _ _=>lenV u)
   case atStart=>exact ⟨k,Nat.le_refl _,rfl,rfl,HG0,HI2,HB2⟩
   case round =>
    obtain ⟨n,hnk,rfl,rfl,HG,HI,HB⟩:=hrel
    clear HG0 HI2 HB2
    have hsz:=HB.out.size
    have hlow:encL (L.take n)=lowL (row.take n):=by rw [← HLL.out,← List.map_take];rfl
    rw [hlow]
    have hts:=text_size (lowL (row.take n))
    by_cases hbig:32<(lowL (row.take n)).length
    ·have hn0:n≠0:=by intro h;subst h;simp [lowL_nil] at hbig
     obtain ⟨m,rfl⟩:∃ m,n=m+1:=⟨n - 1,by omega⟩
     have HGm:=Lib.hid (big_next HG.out hbig)
     have HIm:=Lib.hid (IRow.take HI.out m (by omega))
     have eLm:(L.take (m+1)).take m=L.take m:=by rw [List.take_take,Nat.min_eq_left (by omega)]
     rw [eLm] at HIm
     have hlenm:(L.take m).length=m:=by rw [List.length_take,HLl.out];omega
     have HEN:=Lib.hid (UM.enc_any _ _ wr (irow_ints HIm.out) (by rw [hlenm];omega))
     obtain ⟨y,hy⟩:∃ y:ByteArray,y=⟨(lowL (row.take (m+1))).toArray⟩:=⟨_,rfl⟩
     rw [← hy] at hts ⊢
     have t1:decide ((y.size:Int)>32)=true:=by simp;omega
     have e1:((m+1:Nat):Int) - 1=(m:Int):=by omega
     have i2:(m:Int)≤(capq:Int):=by omega
     clear hts hy HG HI hlow hbig eLm
     go_wp2_with fail
     refine (HEN.out).mono ?_
     rintro e w3 ⟨rfl,hb3⟩
     have HB3:=Lib.hid (HB.out.trans (hb3.mono hsz))
     have HI3:=Lib.hid (HIm.out.below hb3)
     clear hb3 HIm HEN
     go_wp2
     go_roundw
     case rel=>exact ⟨m,by omega,rfl,rfl,HGm,HI3,HB3⟩
     case measure=>simp [lenV]
    ·have HF:=Lib.hid (big_end (row:=row) (n:=n) (by omega) (by have:=HN.out;omega) HG.out (by omega))
     obtain ⟨y,hy⟩:∃ y:ByteArray,y=⟨(lowL (row.take n)).toArray⟩:=⟨_,rfl⟩
     rw [← hy] at hts ⊢
     have t1:decide ((y.size:Int)>32)=false:=by simp;omega
     have HY:=Lib.hid hy
     clear hts hy HG HI hlow hbig
     go_wp2_with fail
     go_ret
     unfold StrLeft
     rw [HF.out,HY.out]
     exact ⟨rfl,HB.out⟩
theorem rcut_any (v:Value) (row:List Int) (w:World) (hr:IRow w v row) (hl:row.length≤1000000):Calls Tryz.prog 81 #[v] w (StrLeft (cutW row) w):=by
 obtain ⟨p,cap,rfl,hlc,hcm⟩:=hr.shape
 unfold maxLen at hcm
 have HR:=Lib.hid hr
 have HB0:Hid (Below w.heap.size w w):=Lib.hid (Below.refl _ _)
 have HS0:Hid (([]:List UInt8)++cutGo (32 - ([]:List UInt8).length) (row.drop 0)=cutW row∧([]:List UInt8).length≤32):=Lib.hid ⟨rfl,by simp⟩
 clear hr
 go_enter Tryz.func81,Tryz.ntmps81
 go_wp2_with fail
 go_loopw [3,4] (fun t i wr=>∃ (k:Nat) (x:List UInt8),k≤row.length∧i=.int .i64 k∧t=.string ⟨x.toArray⟩∧Hid (x++cutGo (32 - x.length) (row.drop k)=cutW row∧x.length≤32)∧Hid (Below w.heap.size w wr)) (fun _ i _=>row.length - (intOf i).toNat)
 case atStart=>exact ⟨0,[],by omega,rfl,rfl,HS0,HB0⟩
 case round =>
  obtain ⟨k,x,hk,rfl,rfl,HS,HB⟩:=hrel
  clear HS0 HB0
  have hsz:=HB.out.size
  by_cases hlt:k<row.length
  ·have t1:decide ((k:Int)<(row.length:Int))=true:=by simp;omega
   obtain ⟨b,off,rfl,hbl,hcell⟩:=HR.out.at_ hlt
   have hcell2:=(HB.out.cell (p:=⟨b,off+k,none⟩) hbl).trans hcell
   have hdr:row.drop k=row.getD k 0::row.drop (k+1):=by rw [List.drop_eq_getElem_cons hlt];simp [List.getD,hlt]
   have hs:=HS.out
   rw [hdr,cutGo] at hs
   have hlow:=fun W=>UM.rlower_any (row.getD k 0) W
   obtain ⟨r,hrr⟩:∃ r,row.getD k 0=r:=⟨_,rfl⟩
   rw [hrr] at hcell2 hs
   simp only [hrr] at hlow
   have HL:=Lib.hid hlow
   have HSS:=Lib.hid hs
   clear hcell hlow hrr hdr hs HS
   go_wp2_with fail
   refine (HL.out _).mono ?_
   rintro e w2 ⟨rfl,rfl⟩
   have hone:IRow (wr.alloc (.cells #[.int .i64 (lowerZ r)] 3)) (.slice (some ⟨wr.heap.size,0,none⟩) 1 1) [lowerZ r]:=Row.of_own (own_lit wr [.int .i64 (lowerZ r)] 3 0 (Nat.zero_le _) (by unfold maxLen;simp))
   have HEN:=Lib.hid (UM.renc_any _ _ _ (irow_ints hone) (by simp))
   have ba:Below wr.heap.size wr (wr.alloc (.cells #[.int .i64 (lowerZ r)] 3)):=(Below.refl _ _).alloc (Nat.le_refl _) _
   have HBa:=Lib.hid (HB.out.trans (ba.mono hsz))
   clear hone ba
   go_wp2_with fail
   refine (HEN.out).mono ?_
   rintro e w3 ⟨rfl,hb3⟩
   rw [show encL [lowerZ r]=lowB r by simp [encL,lowB]]
   have HB3:=Lib.hid (HBa.out.trans (hb3.mono (by simp;omega)))
   clear HBa hb3 HEN HL
   have hsx:=text_size x
   have hsb:=text_size (lowB r)
   have hcat:=bytes_cat x (lowB r)
   obtain ⟨X,hX⟩:∃ y:ByteArray,y=⟨x.toArray⟩:=⟨_,rfl⟩
   obtain ⟨Y,hY⟩:∃ y:ByteArray,y=⟨(lowB r).toArray⟩:=⟨_,rfl⟩
   obtain ⟨Z,hZ⟩:∃ y:ByteArray,y=⟨(x++lowB r).toArray⟩:=⟨_,rfl⟩
   rw [← hX] at hsx hcat ⊢
   rw [← hY] at hsb hcat ⊢
   rw [← hZ] at hcat
   have hs:=HSS.out
   have hb4:=(lowB_len r).2
   have hx32:=hs.2
   by_cases hbig:(lowB r).length≤32 - x.length
   ·rw [if_pos hbig] at hs
    have t2:decide (32<(x.length:Int)+((lowB r).length:Int))=false:=by simp;omega
    have HF:Hid ((x++lowB r)++cutGo (32 - (x++lowB r).length) (row.drop (k+1))=cutW row∧(x++lowB r).length≤32):=Lib.hid ⟨by rw [← hs.1,List.append_assoc,List.length_append,Nat.sub_sub],by rw [List.length_append];omega⟩
    have HZ:=Lib.hid hZ
    have HC:=Lib.hid hcat
    clear hs HSS hbig hX hY hZ hcat
    go_wp2_with fail
    rw [HC.out,HZ.out]
    go_roundw
    case rel=>exact ⟨k+1,_,by omega,by go_num,rfl,HF,HB3⟩
    case measure=>simp [intOf];omega
   ·rw [if_neg hbig] at hs
    have t2:decide (32<(x.length:Int)+((lowB r).length:Int))=true:=by simp;omega
    have HF:Hid (x=cutW row):=Lib.hid (by rw [← hs.1,List.append_nil])
    have HXX:=Lib.hid hX
    clear hs HSS hbig hX hY hZ hcat
    go_wp2_with fail
    go_ret
    rw [HXX.out,HF.out]
    exact ⟨rfl,HB3.out⟩
  ·obtain rfl:k=row.length:=by omega
   have t1:decide ((row.length:Int)<(row.length:Int))=false:=by simp
   have hs:=HS.out.1
   rw [List.drop_length,cutGo,List.append_nil] at hs
   have HF:=Lib.hid hs
   clear hs HS
   go_wp2_with fail
   go_ret
   rw [HF.out]
   exact ⟨rfl,HB.out⟩
end Go.Proofs.YtidhgicajlaafaaGreat.TK
namespace Go.Proofs.YtidhgicajlaafaaGreat.TK
open Go.RowKit MM
open UM (lowerZ wordZ encL runesL)
def IIn (B:Nat) (w:World) (v:Value) (zs:List Int):Prop:=RowIn B w v (zs.map (Value.int .i64))
theorem IIn.below {B:Nat} {w w':World} {v:Value} {zs:List Int} (h:IIn B w v zs) (hb:Below B w w'):IIn B w' v zs:=RowIn.below h hb
theorem IIn.row {B:Nat} {w:World} {v:Value} {zs:List Int} (h:IIn B w v zs) (hB:B≤w.heap.size):IRow w v zs:=RowIn.mono h hB
theorem IIn.shape {B:Nat} {w:World} {v:Value} {zs:List Int} (h:IIn B w v zs):∃ p cap,v=.slice p zs.length cap∧zs.length≤cap∧cap≤maxLen:=by
 obtain ⟨p,cap,hv,h1,h2,_,_⟩:=h
 rw [List.length_map] at hv h1
 exact ⟨p,cap,hv,h1,h2⟩
theorem IIn.at_ {B:Nat} {w:World} {p:Option Addr} {n cap:Nat} {zs:List Int} (h:IIn B w (.slice p n cap) zs) {k:Nat} (hk:k<zs.length) :
  ∃ b off,p=some ⟨b,off,none⟩∧b<B∧w.cell? ⟨b,off+k,none⟩=some (.int .i64 (zs.getD k 0)):=by
 obtain ⟨p',cap',hv,_,_,_,h⟩:=h
 simp only [Value.slice.injEq] at hv
 obtain ⟨rfl,_,_⟩:=hv
 rcases h with h | ⟨b,off,hp,hlt,hc⟩
 ·have:zs=[]:=List.map_eq_nil_iff.1 h
  subst this
  simp at hk
 ·exact ⟨b,off,hp,hlt,hc k _ (by simp [List.getD,hk])⟩
theorem IIn.take {B:Nat} {w:World} {p:Option Addr} {n cap:Nat} {zs:List Int} (h:IIn B w (.slice p n cap) zs) (k:Nat) (hk:k≤n):IIn B w (.slice p k cap) (zs.take k):=by
 have:=RowIn.take h k hk
 rw [← List.map_take] at this
 exact this
theorem IIn.drop2 {B:Nat} {w:World} {b off n cap:Nat} {zs:List Int} (h:IIn B w (.slice (some ⟨b,off,none⟩) n cap) zs) (k:Nat) (hk:k≤n) :
  (cap=k→IIn B w (.slice (some ⟨b,off,none⟩) (n - k) 0) (zs.drop k))∧(¬ cap=k→IIn B w (.slice (some ⟨b,off+k,none⟩) (n - k) (cap - k)) (zs.drop k)):=by
 have h1:=RowIn.drop h k hk
 rw [← List.map_drop] at h1
 constructor
 ·intro hc
  rw [if_pos hc,hc,Nat.sub_self] at h1
  exact h1
 ·intro hc
  rw [if_neg hc,Option.map_some,add_at] at h1
  exact h1
theorem IIn.drop3 {B:Nat} {w:World} {b off n cap:Nat} {zs:List Int} (h:IIn B w (.slice (some ⟨b,off,none⟩) n cap) zs) (k:Nat) (hk:k≤n) :
  IIn B w (.slice (if cap=k then some ⟨b,off,none⟩ else some ⟨b,off+k,none⟩) (n - k) (cap - k)) (zs.drop k):=by
 have h1:=RowIn.drop h k hk
 rw [← List.map_drop,Option.map_some,add_at] at h1
 exact h1
def WithLeft (B:Nat) (ss:List (List UInt8)) (w:World) (e:Ending) (w':World):Prop:=∃ v,e=.returned v∧OwnT B w' v ss∧Below B w w'
theorem with_any (B:Nat) (u:Value) (ss:List (List UInt8)) (v:Value) (zs:List Int) (w:World) (hB:B≤w.heap.size) (hown:OwnT B w u ss) (hr:IRow w v zs) (hl:zs.length≤1000000) (hs:ss.length≤1000000) :
  Calls Tryz.prog 146 #[u,v] w (WithLeft B (ss++(one zs).map cutW) w):=by
 obtain ⟨p,cap,rfl,hlc,hcm⟩:=hr.shape
 by_cases hz:zs=[]
 ·subst hz
  rw [one_nil,List.map_nil,List.append_nil]
  have HO:=Lib.hid hown
  clear hown hr
  go_enter Tryz.func146,Tryz.ntmps146
  go_wp2_with fail
  go_ret
  exact ⟨_,rfl,HO.out,Below.refl _ _⟩
 ·have hw:=Lib.hid (wordOf_any _ _ _ hr hl)
  have hlp:=List.length_pos_iff.2 hz
  have t1:((zs.length:Int) == 0)=false:=by simp;omega
  rw [one_ne hz,List.map_singleton]
  have HO:=Lib.hid hown
  clear hown hr hz
  go_enter Tryz.func146,Tryz.ntmps146
  go_wp2_with fail
  refine hw.out.mono ?_
  rintro e w2 ⟨rfl,hb2⟩
  have HO2:=Lib.hid (HO.out.keep hb2)
  have HB2:=Lib.hid (hb2.mono hB)
  have hsz2:=HB2.out.size
  clear hb2 hw
  go_wp2_with (at_builtin;refine wpList_append_str rfl _ _ rfl B u ss w2 (cutW zs) rfl rfl HO2.out rfl (by omega) (Nat.le_trans hB hsz2) ?_)
  intro v3 w3 hown3 hb3
  have HO3:=Lib.hid hown3
  have HB3:=Lib.hid (HB2.out.trans hb3)
  clear hown3 hb3
  go_wp2_with fail
  go_ret
  exact ⟨_,rfl,HO3.out,HB3.out⟩
def WordsLeft (ss:List (List UInt8)) (w:World) (e:Ending) (w':World):Prop:=∃ v,e=.returned v∧OwnT w.heap.size w' v ss∧Below w.heap.size w w'
def Far (all rest:List Int) (ss:List (List UInt8)):Prop:=ss++wordsR rest=wordsR all∧ss.length+rest.length≤all.length
theorem far_stop {all rest:List Int} {ss:List (List UInt8)} {k:Nat} (h:Far all rest ss) (hk:k<rest.length) (hw:∀ r∈rest.take k,wordZ r=true) (hn:wordZ (rest.getD k 0)=false):Far all (rest.drop (k+1)) (ss++(one (rest.take k)).map cutW):=by
 have e:rest=rest.take k++rest.getD k 0::rest.drop (k+1):=by
  have h1:=List.take_append_drop k rest
  rw [List.drop_eq_getElem_cons hk] at h1
  rw [← h1]
  simp [List.getD,hk]
 have h1:wordsR rest=(one (rest.take k)).map cutW++wordsR (rest.drop (k+1)):=by
  conv=>lhs;rw [e]
  unfold wordsR
  rw [rowsL_part hw hn,List.map_append]
 refine ⟨by rw [List.append_assoc,← h1];exact h.1,?_⟩
 have h2:=h.2
 have h3:(one (rest.take k)).length≤1:=by unfold one;split<;>simp
 rw [List.length_append,List.length_map,List.length_drop]
 omega
theorem far_end {all rest:List Int} {ss:List (List UInt8)} (h:Far all rest ss) (hw:∀ r∈rest,wordZ r=true):ss++(one rest).map cutW=wordsR all:=by
 rw [← h.1]
 congr 1
 unfold wordsR
 rw [rowsL_all hw]
theorem take_more {rest:List Int} {k:Nat} (hk:k<rest.length) (hw:∀ r∈rest.take k,wordZ r=true) (hr:wordZ (rest.getD k 0)=true):∀ r∈rest.take (k+1),wordZ r=true:=by
 intro r h
 rw [List.take_succ_eq_append_getElem hk,List.mem_append] at h
 rcases h with h | h
 ·exact hw r h
 ·simp at h
  subst h
  simpa [List.getD,hk] using hr
theorem words_any (s:ByteArray) (w:World) (hs:s.size≤1000000):Calls Tryz.prog 129 #[.string s] w (WordsLeft (wordsB s.data.toList) w):=by
 have hrun:=UM.runes_any s w hs
 have hlen:=UM.runesL_length s.data.toList
 rw [← Lib.size_eq] at hlen
 unfold UM.RunesLeft at hrun
 unfold wordsB
 obtain ⟨zs,hz⟩:∃ zs,runesL s.data.toList=zs:=⟨_,rfl⟩
 rw [hz] at hrun hlen ⊢
 have HR:=Lib.hid hrun
 have hzl:zs.length≤1000000:=by omega
 clear hrun hz hlen
 go_enter Tryz.func129,Tryz.ntmps129
 go_wp2_with fail
 go_step3
 go_wp2_with fail
 refine HR.out.mono ?_
 rintro e w1 ⟨v,rfl,hown,hb1⟩
 have hir:IIn w1.heap.size w1 v zs:=OwnI.irow hown
 have HI0:=Lib.hid hir
 have HB1:=Lib.hid hb1
 have hsz1:=hb1.size
 have HO0:Hid (OwnT w1.heap.size w1 (.slice none 0 0) []):=Lib.hid (OwnT.nil_ _ _)
 have HF0:Hid (Far zs zs []):=Lib.hid ⟨rfl,by simp⟩
 have HB0:Hid (Below w1.heap.size w1 w1):=Lib.hid (Below.refl _ _)
 clear hir hown hb1 HR
 go_wp2_with fail
 go_step3
 go_wp2_with fail
 go_loopw [3,4] (fun u t wr=>∃ (rest:List Int) (ss:List (List UInt8)),Hid (Far zs rest ss)∧Hid (IIn w1.heap.size wr t rest)∧Hid (OwnT w1.heap.size wr u ss)∧Hid (Below w1.heap.size w1 wr)) (fun _ t _=>lenV t)
 case atStart=>exact ⟨zs,[],HF0,HI0,HO0,HB0⟩
 case round =>
  obtain ⟨rest,ss,HF,HI,HO,HB⟩:=hrel
  clear HF0 HI0 HO0 HB0
  obtain ⟨p,cap,rfl,hlc,hcm⟩:=HI.out.shape
  unfold maxLen at hcm
  have hf2:=HF.out.2
  by_cases hre:rest=[]
  ·subst hre
   have hf:=HF.out.1
   have e0:wordsR []=[]:=rfl
   rw [e0,List.append_nil] at hf
   subst hf
   have HOw:=Lib.hid (HO.out.weaken hsz1)
   have HBw:=Lib.hid (HB1.out.trans (HB.out.mono hsz1))
   clear HO HI HF hf2
   go_wp2_with fail
   go_ret
   exact ⟨_,rfl,HOw.out,HBw.out⟩
  ·have hrl:=List.length_pos_iff.2 hre
   have t1:decide ((rest.length:Int)>0)=true:=by simp;omega
   have HW0:Hid (∀ r∈rest.take 0,wordZ r=true):=Lib.hid (by simp)
   clear hre
   go_wp2_with fail
   go_loopw [3,4,14] (fun u t i wr=>∃ k:Nat,k≤rest.length∧i=.int .i64 k∧t=.slice p rest.length cap∧Hid (∀ r∈rest.take k,wordZ r=true)∧Hid (IIn w1.heap.size wr (.slice p rest.length cap) rest)∧Hid (OwnT w1.heap.size wr u ss)∧Hid (Below w1.heap.size w1 wr)) (fun _ _ i _=>rest.length - (intOf i).toNat)
   case atStart=>exact ⟨0,by omega,rfl,rfl,HW0,HI,HO,HB⟩
   case round =>
    obtain ⟨k,hk,rfl,rfl,HW,HI,HO,HB⟩:=hrel
    clear HW0
    have hsz:=HB.out.size
    by_cases hlt:k<rest.length
    ·have t2:decide ((k:Int)<(rest.length:Int))=true:=by simp;omega
     obtain ⟨b,off,rfl,hbl,hcell⟩:=HI.out.at_ hlt
     have hword:=fun W=>UM.word_any (rest.getD k 0) W
     obtain ⟨r,hrr⟩:∃ r,rest.getD k 0=r:=⟨_,rfl⟩
     rw [hrr] at hcell
     simp only [hrr] at hword
     cases hz:wordZ r with
     | true =>
       simp only [hz] at hword
       have HWn:=Lib.hid (take_more hlt HW.out (by rw [hrr];exact hz))
       have HWd:=Lib.hid hword
       clear hword hz hrr HW
       go_wp2_with fail
       refine (HWd.out _).mono ?_
       rintro e w2 ⟨rfl,hb2⟩
       have HB2:=Lib.hid (HB.out.trans (hb2.mono hsz))
       have HO2:=Lib.hid (HO.out.keep hb2)
       have HI2:=Lib.hid (HI.out.below (hb2.mono hsz))
       clear hb2 HWd hcell
       go_wp2_with fail
       go_roundw
       case rel=>exact ⟨k+1,by omega,by go_num,rfl,HWn,HI2,HO2,HB2⟩
       case measure=>simp [intOf];omega
     | false =>
       simp only [hz] at hword
       have HFn:=Lib.hid (far_stop HF.out hlt HW.out (by rw [hrr];exact hz))
       have HWd:=Lib.hid hword
       have i1:(k:Int)≤(cap:Int):=by omega
       have i2:(k:Int)+1≤(rest.length:Int):=by omega
       have i3:(rest.length:Int)≤(cap:Int):=by omega
       clear hword hz hrr HW
       go_wp2_with fail
       refine (HWd.out _).mono ?_
       rintro e w2 ⟨rfl,hb2⟩
       have HB2:=Lib.hid (HB.out.trans (hb2.mono hsz))
       have HO2:=Lib.hid (HO.out.keep hb2)
       have HI2:=Lib.hid (HI.out.below (hb2.mono hsz))
       have hsz2:=HB2.out.size
       clear hb2 HWd hcell
       have hwi:=with_any w1.heap.size _ ss _ _ w2 hsz2 HO2.out ((HI2.out.take k (by omega)).row hsz2) (by rw [List.length_take];omega) (by omega)
       have HWi:=Lib.hid hwi
       clear hwi
       go_wp2_with fail
       refine HWi.out.mono ?_
       rintro e w3 ⟨v3,rfl,hown3,hb3⟩
       have HO3:=Lib.hid hown3
       have HB3:=Lib.hid (HB2.out.trans hb3)
       have HI3:=Lib.hid ((HI2.out.below hb3).drop3 (k+1) (by omega))
       clear hown3 hb3 HWi
       go_wp2_with fail
       go_roundw
       case rel=>exact ⟨_,_,HFn,HI3,HO3,HB3⟩
       case measure=>simp [lenV];omega
    ·obtain rfl:k=rest.length:=by omega
     have t2:decide ((rest.length:Int)<(rest.length:Int))=false:=by simp
     have hwa:=HW.out
     rw [List.take_length] at hwa
     have hfe:=far_end HF.out hwa
     have hwi:=with_any w1.heap.size _ ss _ _ wr hsz HO.out (HI.out.row hsz) (by omega) (by omega)
     rw [hfe] at hwi
     have HWi:=Lib.hid hwi
     clear hwi hwa hfe
     go_wp2_with fail
     refine HWi.out.mono ?_
     rintro e w3 ⟨v3,rfl,hown3,hb3⟩
     have HO3:=Lib.hid (hown3.weaken hsz1)
     have HB3:=Lib.hid (HB1.out.trans ((HB.out.trans hb3).mono hsz1))
     clear hown3 hb3 HWi
     go_wp2_with fail
     go_ret
     exact ⟨_,rfl,HO3.out,HB3.out⟩
end Go.Proofs.YtidhgicajlaafaaGreat.TK
