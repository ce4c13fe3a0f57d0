import Derived.Test.YtdfibahafilklaaGreatDoorZB31
import Derived.Test.YtdfibahafilklaaGreatDoorZB24
set_option maxRecDepth 100000
set_option maxHeartbeats 8000000
set_option linter.unusedVariables false
set_option linter.unusedSimpArgs false
namespace Go.Proofs.YtdfibahafilklaaGreatDoor.EV
open Go Go.RowKit MM EM VM GB
open VP
theorem bytesL_ne (n:Nat):bytesL n≠[]:=by
 intro h
 have:=(bytesL_length n).1
 rw [h] at this
 simp at this
theorem intL_ne (z:Int):intL z≠[]:=bytesL_ne _
theorem textL_ne (s:List UInt8):textL s≠[]:=by
 intro h
 have:=(textL_len s).2
 rw [h] at this
 simp at this
theorem intL_len (z:Int):(intL z).length≤10:=(bytesL_length _).2
theorem brow_nil (w:World):BRow w (.slice none 0 0) []:=BIn.nil_ _ w
theorem put0_text (t:List UInt8) (ht:t.length≤4096) (W:World):Calls Tryz.prog 146 #[.slice none 0 0,.string ⟨t.toArray⟩] W (PutLeft W.heap.size (textL t) W):=by
 have h:=puttext_any (.slice none 0 0) [] ⟨t.toArray⟩ W (brow_nil _) (by rw [str_sz];simp;omega)
 rw [List.nil_append,str_list] at h
 exact h
theorem grown_ron {α:Type} {C:Codec α} {w w':World} {v v' u:Value} {xs:List α} (h:ROn C (fun b=>v.ownBlock≠some b) w u xs) (hg:Grown w w' v v'):ROn C (fun b=>v.ownBlock≠some b) w' u xs:=h.keep hg.kep fun _ _ h=>h
theorem fits (m:Nat) (L:List UInt8) (fs:List Fld) (z:Int) (h16:fs.length≤16) (hx:∀ f∈fs,f.1.length≤4096∧f.2.length≤4096) (hl:L.length≤1000000000):∀ k,(L++intL z++bytesL m++bytesF (fs.take k)).length≤1001000000:=fun k=>by
 have h1:=intL_len z
 have h2:=(bytesL_length m).2
 have h3:=bytesF_len (fs.take k)
 have h4:sizeF (fs.take k)≤8192*(fs.take k).length:=by
  have:∀ gs:List Fld,(∀ f∈gs,f.1.length≤4096∧f.2.length≤4096)→sizeF gs≤8192*gs.length:=by
   intro gs
   induction gs with
   | nil=>simp [sizeF]
   | cons f r ih =>
     intro h
     have h1:=h f (by simp)
     have h2:=ih fun g hg=>h g (by simp [hg])
     have e:sizeF (f::r)=f.1.length+f.2.length+sizeF r:=by simp [sizeF]
     rw [e,List.length_cons]
     omega
  exact this _ fun f hf=>hx f (List.mem_of_mem_take hf)
 have h5:(fs.take k).length≤fs.length:=List.length_take_le' _ _
 simp only [List.length_append]
 omega
theorem appe_any (v:Value) (l:List UInt8) (z:Int) (u:Value) (fs:List Fld) (w:World) (hown:OwnB 0 w v l) (hr:ROn fldC (fun b=>v.ownBlock≠some b) w u fs) (h0 : -9223372036854775808≤z) (h1:z≤9223372036854775807) (h16:fs.length≤16) (hx:∀ f∈fs,f.1.length≤4096∧f.2.length≤4096) (hl:l.length≤1000000000) :
  Calls Tryz.prog 102 #[v,.agg #[.int .i64 z,u]] w (AppL (l++bytesE (z,fs)) v w):=by
 obtain ⟨p,cap,rfl,hlc,hcm,_⟩:=hr.shape
 unfold maxLen at hcm
 have hbx:=box_below w z (.slice p fs.length cap)
 have HP:=Lib.hid (putint_any (.slice none 0 0) [] z (evBox w z (.slice p fs.length cap)) h0 h1 (brow_nil _) (by simp))
 have HLN:=Lib.hid (fits fs.length l fs z h16 hx hl)
 have HX:=Lib.hid hx
 have HO:=Lib.hid hown
 have HR:=Lib.hid hr
 have HOL:=Lib.hid (own_lt hown)
 have HBX:=Lib.hid hbx
 have HEND:Hid (l++intL z++bytesL fs.length++bytesF (fs.take fs.length)=l++bytesE (z,fs)):=Lib.hid (by rw [List.take_length];unfold bytesE;simp)
 clear hown hr hx hl hbx
 go_enter Tryz.func102,Tryz.ntmps102
 go_wp2_with fail
 refine HP.out.mono ?_
 rintro e w1 ⟨v1,rfl,ho1,hb1⟩
 rw [List.nil_append] at ho1
 have hbw1:Below w.heap.size w w1:=HBX.out.trans (hb1.mono HBX.out.size)
 have hsz1:w.heap.size<w1.heap.size:=by have:=hb1.size;rw [box_size] at this;omega
 have HOV1:=Lib.hid (HO.out.keep hbw1)
 have HO1:=Lib.hid ho1
 have HC1:=Lib.hid (box_in hb1)
 have HB1:=Lib.hid hbw1
 have HIL:=Lib.hid (intL_len z)
 have hvo:v.ownBlock≠some w.heap.size:=fun e=>absurd (HOL.out _ e) (Nat.lt_irrefl _)
 clear ho1 hb1 hbw1 HP
 go_wp2_with (at_builtin;go_loud (refine wpList_append_grown rfl _ _ rfl v l rfl HOV1.out _ (intL z) rfl HO1.out.brow (intL_ne z) (by have:=HLN.out 0;simp only [List.length_append] at this;omega) ?_;intro v2 w2 ho2 hg2;have d1:=(hg2.kep.cell hsz1 hvo 1).trans HC1.out.2.1;have hsz2:w.heap.size<w2.heap.size:=Nat.lt_of_lt_of_le hsz1 hg2.1.size;have hvo2:v2.ownBlock≠some w.heap.size:=fun e=>(hg2.2 _ e).elim hvo fun h=>absurd hsz1 (Nat.not_lt.2 h);have HO2:=Lib.hid ho2;have HG2:=Lib.hid (Grown.of_below HB1.out hg2 HOL.out);clear ho2 hg2))
 have HQ:=Lib.hid (put_any (.slice none 0 0) [] fs.length w2 (by omega) (brow_nil _) (by simp))
 refine HQ.out.mono ?_
 rintro e w3 ⟨v3,rfl,ho3,hb3⟩
 rw [List.nil_append] at ho3
 have HO3:=Lib.hid ho3
 have HOV3:=Lib.hid (HO2.out.keep hb3)
 have e1:=(hb3.cell (p:=⟨w.heap.size,1,none⟩) hsz2).trans d1
 have HG3:=Lib.hid (Grown.below HG2.out hb3)
 have hsz3:w.heap.size<w3.heap.size:=Nat.lt_of_lt_of_le hsz2 hb3.size
 clear ho3 hb3 HQ d1
 go_wp2_with (at_builtin;go_loud (refine wpList_append_grown rfl _ _ rfl v2 (l++intL z) rfl HOV3.out _ (bytesL fs.length) rfl HO3.out.brow (bytesL_ne _) (by have:=HLN.out 0;simp only [List.length_append] at this;simp only [List.length_append];omega) ?_;intro v4 w4 ho4 hg4;have d1:=(hg4.kep.cell hsz3 hvo2 1).trans e1;have HO4:Hid (OwnB 0 w4 v4 (l++intL z++bytesL fs.length++bytesF (fs.take 0))):=Lib.hid (by rw [show l++intL z++bytesL fs.length++bytesF (fs.take 0)=l++intL z++bytesL fs.length by simp [EM.bytesF]];exact ho4);have HG4:=Lib.hid (HG3.out.trans hg4);clear ho4 hg4))
 go_loopw [0,22] (fun bv iv wr=>∃ k:Nat,k≤fs.length∧iv=.int .i64 k∧Hid (OwnB 0 wr bv (l++intL z++bytesL fs.length++bytesF (fs.take k)))∧Hid (Grown w wr v bv)) (fun _ iv _=>fs.length - (intOf iv).toNat)
 case atStart=>exact ⟨0,by omega,rfl,HO4,HG4⟩
 case round =>
  obtain ⟨k,hk,rfl,HOk,HGk⟩:=hrel
  clear HO4 HG4 HOV3 HO3 HG3 HO2 HG2 HOV1 HO1 d1 e1
  by_cases hlt:k<fs.length
  ·have q1:decide ((k:Int)<(fs.length:Int))=true:=by rw [decide_eq_true_eq];omega
   have q2:decide (k<fs.length)=true:=by rw [decide_eq_true_eq];omega
   have q3:(k:Int)<(fs.length:Int):=by omega
   obtain ⟨b,off,rfl,hbl,hbS,c1,c2⟩:=fld_at (grown_ron HR.out HGk.out) hlt
   have hxk:=HX.out fs[k] (List.getElem_mem hlt)
   have hnx:=bytesF_next hlt
   have hll:=HLN.out (k+1)
   rw [hnx] at hll
   generalize fs[k].1=nm at *
   generalize fs[k].2=tx at *
   have hn2:l++intL z++bytesL fs.length++bytesF (fs.take (k+1))=l++intL z++bytesL fs.length++bytesF (fs.take k)++textL nm++textL tx:=by rw [hnx];simp
   obtain ⟨L,hL⟩:∃ L,l++intL z++bytesL fs.length++bytesF (fs.take k)=L:=⟨_,rfl⟩
   have hlen:(L++textL nm++textL tx).length≤1001000000:=by rw [← hL];rw [← List.append_assoc] at hll;rw [← List.append_assoc] at hll;exact hll
   rw [hL] at hn2
   have ho:=HOk.out
   rw [hL] at ho
   have HOL0:=Lib.hid ho
   have HN2:=Lib.hid hn2
   have HT1:=Lib.hid (fun W=>put0_text nm hxk.1 W)
   have HT2:=Lib.hid (fun W=>put0_text tx hxk.2 W)
   have HLT:=Lib.hid hlt
   have HUL:=Lib.hid (own_lt ho)
   clear hnx hll hL ho hn2 HOk hlt
   go_wp2_with fail
   have hba:Below wr.heap.size wr (wr.alloc (.cells #[.string ⟨nm.toArray⟩,.string ⟨tx.toArray⟩] 84)):=(Below.refl _ _).alloc (Nat.le_refl _) _
   have hnw:=(new_two wr (.string ⟨nm.toArray⟩) (.string ⟨tx.toArray⟩) 84).2
   refine (HT1.out _).mono ?_
   rintro e w5 ⟨v5,rfl,ho5,hb5⟩
   have hb15:Below wr.heap.size wr w5:=hba.trans (hb5.mono hba.size)
   have hszr5:wr.heap.size<w5.heap.size:=by have:=hb5.size;rw [World.size_alloc] at this;omega
   have k1:=(hb5.cell (p:=⟨wr.heap.size,1,none⟩) (by rw [World.size_alloc];exact Nat.lt_succ_self _)).trans hnw
   have HO5:=Lib.hid ho5
   have HV5:=Lib.hid (HOL0.out.keep hb15)
   have HG5:=Lib.hid (Grown.below HGk.out hb15)
   have hvr:u0.ownBlock≠some wr.heap.size:=fun e=>absurd (HUL.out _ e) (Nat.lt_irrefl _)
   clear hba hnw ho5 hb5 hb15 HT1 c1 c2 HGk
   go_wp2_with (at_builtin;go_loud (refine wpList_append_grown rfl _ _ rfl u0 L rfl HV5.out _ (textL nm) rfl HO5.out.brow (textL_ne _) (by simp only [List.length_append] at hlen;omega) ?_;intro v6 w6 ho6 hg6;have k2:=(hg6.kep.cell hszr5 hvr 1).trans k1;have HO6:=Lib.hid ho6;have HG6:=Lib.hid (HG5.out.trans hg6);clear ho6 hg6))
   refine (HT2.out _).mono ?_
   rintro e w7 ⟨v7,rfl,ho7,hb7⟩
   have HO7:=Lib.hid ho7
   have HV7:=Lib.hid (HO6.out.keep hb7)
   have HG7:=Lib.hid (Grown.below HG6.out hb7)
   clear ho7 hb7 HT2 k1 k2 HO6 HG6 HO5 HV5 HG5
   go_wp2_with (at_builtin;go_loud (refine wpList_append_grown rfl _ _ rfl v6 (L++textL nm) rfl HV7.out _ (textL tx) rfl HO7.out.brow (textL_ne _) (by simp only [List.length_append] at hlen;simp only [List.length_append];omega) ?_;intro v8 w8 ho8 hg8;rw [← HN2.out] at ho8;have HO8:=Lib.hid ho8;have HG8:=Lib.hid (HG7.out.trans hg8);clear ho8 hg8))
   have hlt:=HLT.out
   go_roundw
   case rel=>exact ⟨k+1,by omega,by go_num,HO8,HG8⟩
   case measure=>simp [intOf];omega
  ·obtain rfl:k=fs.length:=by omega
   have q1:decide ((fs.length:Int)<(fs.length:Int))=false:=by simp
   have q2:decide (fs.length<fs.length)=false:=by simp
   have ho:=HOk.out
   rw [HEND.out] at ho
   have HO9:=Lib.hid ho
   clear HOk ho hlt
   go_wp2_with fail
   go_ret
   exact ⟨_,rfl,HO9.out,HGk.out⟩
end Go.Proofs.YtdfibahafilklaaGreatDoor.EV
