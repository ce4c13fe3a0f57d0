import Derived.Test.YtdfibahafilklaaGreatDoorZB50
set_option maxRecDepth 100000
set_option maxHeartbeats 8000000
set_option linter.unusedVariables false
set_option linter.unusedSimpArgs false
namespace Go.Proofs.YtdfibahafilklaaGreatDoor.EV
open Go Go.RowKit MM EM VM
theorem dec_e1 {l:List UInt8} (h:(getL l).2.2≠0∨1099511627776<(getL l).1):decB l=none:=by
 unfold decB rdB
 rw [if_pos h]
theorem dec_e2 {l:List UInt8} (h1:¬ ((getL l).2.2≠0∨1099511627776<(getL l).1)) (h:(getL (l.drop (getL l).2.1)).2.2≠0∨64<(getL (l.drop (getL l).2.1)).1):decB l=none:=by
 unfold decB rdB
 rw [if_neg h1,if_pos h]
def endB (n:Int):Option (List Ev×List UInt8)→Option Bat
 | none=>none
 | some (es,r)=>if 0<r.length∨checkB (n,es)≠0 then none else some (n,es)
theorem dec_e3 {l:List UInt8} (h1:¬ ((getL l).2.2≠0∨1099511627776<(getL l).1)) (h:¬ ((getL (l.drop (getL l).2.1)).2.2≠0∨64<(getL (l.drop (getL l).2.1)).1)) :
  decB l=endB ((getL l).1:Nat) (getBa (getL (l.drop (getL l).2.1)).1 [] ((l.drop (getL l).2.1).drop (getL (l.drop (getL l).2.1)).2.1)):=by
 unfold decB rdB
 rw [if_neg h1,if_neg h]
 cases getBa (getL (l.drop (getL l).2.1)).1 [] ((l.drop (getL l).2.1).drop (getL (l.drop (getL l).2.1)).2.1) with
 | none=>rfl
 | some p=>obtain ⟨es,r⟩:=p;rfl
theorem getBa_cases (k:Nat) (acc:List Ev) (l:List UInt8):(∃ er,(getR l).2.2=er∧er≠0∧getBa (k+1) acc l=none)∨((getR l).2.2=0∧getBa (k+1) acc l=getBa k (acc++[(getR l).1]) (getR l).2.1):=by
 rw [getBa]
 cases h:getE l with
 | none=>exact .inl ⟨100,by rw [getR_none h],by omega,rfl⟩
 | some p =>
   obtain ⟨e,r⟩:=p
   rw [getR_some h]
   exact .inr ⟨rfl,rfl⟩
theorem rdec_new (B:Nat) (v:Value) (l:List UInt8) (w:World) (hv:BIn B w v l) (hB:B≤w.heap.size):Calls Tryz.prog 49 #[v] w (DecNew (decR l) w):=by
 obtain ⟨R,hR⟩:∃ R,w.heap.size=R:=⟨_,rfl⟩
 obtain ⟨wa,hwa⟩:∃ wa,w.alloc (.cells #[.int .i64 0,.slice none 0 0] 82)=wa:=⟨_,rfl⟩
 have hba:Below w.heap.size w wa:=by rw [← hwa];exact (Below.refl _ _).alloc (Nat.le_refl _) _
 have hsa:wa.heap.size=R+1:=by rw [← hwa,← hR];simp
 have t0:Two wa R 82 (.int .i64 0) (.slice none 0 0):=by rw [← hwa,← hR];exact two_new w 82 _ _
 have hva:BIn B wa v l:=hv.below (hba.mono hB)
 have HG:=Lib.hid (VG.rget_in B v l wa hva (by omega))
 have HNUM:=Lib.hid (fun v l W (h:BIn B W v l) (hb:B≤W.heap.size)=>VG.rget_in B v l W h hb)
 have HFAIL:Hid (∀ W a b,Two W R 82 a b→Below w.heap.size w W→decB l=none →
   DecNew (decR l) w (.returned (.tuple #[.agg #[.int .i64 0,.slice none 0 0],.int .i64 100])) ((W.setCell ⟨R,0,none⟩ (.int .i64 0)).setCell ⟨R,1,none⟩ (.slice none 0 0))):=Lib.hid (fun W a b ht hb hn=>by
  rw [decR_none hn]
  exact ⟨_,rfl,ROn.nil_ _ _,hb.trans ((kep_set01 (.int .i64 0) (.slice none 0 0)).below (B:=w.heap.size) (by have:=ht.lt;omega) (fun k hk=>by omega))⟩)
 have HE1:=Lib.hid (@dec_e1 l)
 have HE2:=Lib.hid (@dec_e2 l)
 have HE3:=Lib.hid (@dec_e3 l)
 have T0:=Lib.hid t0
 have HBA:=Lib.hid hba
 have HWA:=Lib.hid hwa
 have hrl:(getL l).2.2=0→VG.restL l=l.drop (getL l).2.1:=fun h=>by unfold VG.restL;exact if_pos h
 have HRL:=Lib.hid hrl
 have hnb:=(getL_bounds l).1
 generalize (getL l).1=n at *
 generalize (getL l).2.2=er1 at *
 generalize l.drop (getL l).2.1=d1 at *
 generalize VG.restL l=l1 at *
 clear hv hba hwa t0 hva hrl
 go_enter Tryz.func49,Tryz.ntmps49
 go_wp2_with fail
 rw [HWA.out]
 refine HG.out.mono ?_
 rintro e w1 ⟨v1,rfl,hv1,hb1⟩
 have hs1:=hb1.size
 have ht1:=T0.out.below hb1 (by omega)
 have HT1:=Lib.hid ht1
 have HB1:=Lib.hid (HBA.out.trans (hb1.mono HBA.out.size))
 have HV1:=Lib.hid hv1
 clear hb1 hv1 HG T0 HBA HWA ht1
 by_cases hz1:er1≠0∨1099511627776<n
 ·have HQ:=Lib.hid (HFAIL.out w1 _ _ HT1.out HB1.out (HE1.out hz1))
  have HX:=Lib.hid (HT1.out.s01 (.int .i64 0) (.slice none 0 0))
  obtain ⟨_,_,b2,b3,b4,b5⟩:=HT1.out.all (.int .i64 0)
  by_cases hz3:er1=0
  ·have t2:(er1 != 0)=false:=by rw [bne_eq_false_iff_eq];exact hz3
   have t3:decide ((n:Int)>1099511627776)=true:=decide_eq_true (by omega)
   clear HFAIL HE1 HE2 HE3 HRL HNUM hz1
   go_wp2_with fail
   refine bodyPost_ret (results_box2 (p:=2) (u:=3) rfl Tryz.underlying82 rfl infoBat2 _ _ R _ _ rfl HX.out) rfl HQ.out
  ·have t2:(er1 != 0)=true:=by rw [bne_iff_ne];exact hz3
   clear HFAIL HE1 HE2 HE3 HRL HNUM hz1
   go_wp2_with fail
   refine bodyPost_ret (results_box2 (p:=2) (u:=3) rfl Tryz.underlying82 rfl infoBat2 _ _ R _ _ rfl HX.out) rfl HQ.out
 ·have he2:=HE2.out hz1
  have he3:=HE3.out hz1
  have hz2:er1=0:=Classical.byContradiction fun h=>hz1 (.inl h)
  have hn40:n≤1099511627776:=Nat.not_lt.1 fun h=>hz1 (.inr h)
  subst hz2
  have hl1:=HRL.out rfl
  subst hl1
  have t3:decide ((n:Int)>1099511627776)=false:=decide_eq_false (by omega)
  have t4:IntKind.i64.wrap (n:Int)=(n:Int):=by rw [IntKind.wrap_i64];omega
  have HK2:=Lib.hid (HNUM.out v1 l1 w1 HV1.out (by omega))
  have hrl2:(getL l1).2.2=0→VG.restL l1=l1.drop (getL l1).2.1:=fun h=>by unfold VG.restL;exact if_pos h
  have hnb2:=(getL_bounds l1).1
  generalize (getL l1).1=m at *
  generalize (getL l1).2.2=er2 at *
  generalize l1.drop (getL l1).2.1=d2 at *
  generalize VG.restL l1=l2 at *
  have HE2':=Lib.hid he2
  have HE3':=Lib.hid he3
  have HRL2:=Lib.hid hrl2
  clear he2 he3 hrl2 HE1 HE2 HE3 HRL HNUM hz1
  go_wp2_with fail
  refine HK2.out.mono ?_
  rintro e w2 ⟨v2,rfl,hv2,hb2⟩
  have hs2:=hb2.size
  have HT2:=Lib.hid (HT1.out.below hb2 HT1.out.lt)
  have HB2:=Lib.hid (HB1.out.trans (hb2.mono (by have:=HB1.out.size;omega)))
  have HV2:=Lib.hid hv2
  clear hb2 hv2 HK2 HT1 HB1 HV1
  by_cases hz2:er2≠0∨64<m
  ·have HQ:=Lib.hid (HFAIL.out w2 _ _ HT2.out HB2.out (HE2'.out hz2))
   have HX:=Lib.hid (HT2.out.s01 (.int .i64 0) (.slice none 0 0))
   obtain ⟨_,_,b2,b3,b4,b5⟩:=HT2.out.all (.int .i64 0)
   by_cases hz3:er2=0
   ·have t5:(er2 != 0)=false:=by rw [bne_eq_false_iff_eq];exact hz3
    have t6:decide ((m:Int)>64)=true:=decide_eq_true (by omega)
    clear HFAIL HE2' HE3' HRL2 hz2
    go_wp2_with fail
    refine bodyPost_ret (results_box2 (p:=2) (u:=3) rfl Tryz.underlying82 rfl infoBat2 _ _ R _ _ rfl HX.out) rfl HQ.out
   ·have t5:(er2 != 0)=true:=by rw [bne_iff_ne];exact hz3
    clear HFAIL HE2' HE3' HRL2 hz2
    go_wp2_with fail
    refine bodyPost_ret (results_box2 (p:=2) (u:=3) rfl Tryz.underlying82 rfl infoBat2 _ _ R _ _ rfl HX.out) rfl HQ.out
  ·have he3:=HE3'.out hz2
   have hz3:er2=0:=Classical.byContradiction fun h=>hz2 (.inl h)
   have hm64:m≤64:=Nat.not_lt.1 fun h=>hz2 (.inr h)
   subst hz3
   have hl2:=HRL2.out rfl
   subst hl2
   have t6:decide ((m:Int)>64)=false:=decide_eq_false (by omega)
   have t7:IntKind.i64.wrap (m:Int)=(m:Int):=by rw [IntKind.wrap_i64];omega
   obtain ⟨A,hA⟩:∃ A,getBa m [] l2=A:=⟨_,rfl⟩
   have HGA:Hid (decB l=endB (n:Int) A):=Lib.hid (by rw [he3,hA])
   have HA3:Hid (getBa (m - 0) [] l2=A):=Lib.hid hA
   obtain ⟨q,hq⟩:∃ q,w2.heap.size=q:=⟨_,rfl⟩
   have hqR:R<q:=by have:=HT2.out.lt;omega
   have hbq:Below w2.heap.size w2 (w2.alloc (.cells #[.int .i64 (n:Int),.slice none 0 0] 82)):=(Below.refl _ _).alloc (Nat.le_refl _) _
   have hsq:(w2.alloc (.cells #[.int .i64 (n:Int),.slice none 0 0] 82)).heap.size=q+1:=by simp [hq]
   have HX3:Hid (Two (w2.alloc (.cells #[.int .i64 (n:Int),.slice none 0 0] 82)) q 82 (.int .i64 (n:Int)) (.slice none 0 0)):=Lib.hid (by rw [← hq];exact two_new w2 82 _ _)
   have HT3:=Lib.hid (HT2.out.below hbq HT2.out.lt)
   have HB3:=Lib.hid (HB2.out.trans (hbq.mono HB2.out.size))
   have HV3:=Lib.hid (HV2.out.below (hbq.mono (by omega)))
   have HO3:=Lib.hid (OwnX.nil_ (C:=evC) 87 (q+1) (fun _=>False) (w2.alloc (.cells #[.int .i64 (n:Int),.slice none 0 0] 82)))
   have HS3:Hid (∀ b,(fun _=>False) b→q<b∧IsF (w2.alloc (.cells #[.int .i64 (n:Int),.slice none 0 0] 82)) b):=Lib.hid (fun _ h=>h.elim)
   clear he3 HE2' HE3' HRL2 hz2 hA hbq HT2 HB2 HV2
   go_wp2_with fail
   go_loopw [8,11] (fun bv iv wr=>∃ (i:Nat) (es:List Ev) (li:List UInt8) (u:Value) (S:Nat→Prop),i≤m∧iv=.int .i64 i∧es.length=i∧Hid (getBa (m - i) es li=A)∧Hid (BIn B wr bv li)∧Hid (OwnX evC 87 (q+1) S wr u es)∧Hid (∀ b,S b→q<b∧IsF wr b)∧Hid (Two wr q 82 (.int .i64 (n:Int)) u)∧Hid (Two wr R 82 (.int .i64 0) (.slice none 0 0))∧Hid (Below w.heap.size w wr)) (fun _ iv _=>m - (intOf iv).toNat)
   case atStart=>exact ⟨0,[],l2,_,_,by omega,rfl,rfl,HA3,HV3,HO3,HS3,HX3,HT3,HB3⟩
   case round =>
    obtain ⟨i,es,li,u,S,hi,rfl,hel,HA,HV,HO,HS,HX,HT,HBk⟩:=hrel
    clear HA3 HV3 HO3 HS3 HX3 HT3 HB3
    have hqw:=HX.out.lt
    have hszk:=HBk.out.size
    by_cases hlt:i<m
    ·have q1:decide ((i:Int)<(m:Int))=true:=by rw [decide_eq_true_eq];omega
     have HGE:=Lib.hid (rget_in B u8 li wr HV.out (by omega))
     have hcs:=getBa_cases (m - (i+1)) es li
     have hAi:=HA.out
     rw [show m - i=m - (i+1)+1 by omega] at hAi
     rw [hAi] at hcs
     obtain ⟨⟨⟨z,fs⟩,l4,er⟩,hG⟩:∃ G,getR li=G:=⟨_,rfl⟩
     rw [hG] at hcs HGE
     dsimp only at hcs
     have HCS:=Lib.hid hcs
     have HLT:=Lib.hid hlt
     clear hcs hAi HA hlt hG HV
     go_wp2_with fail
     refine HGE.out.mono ?_
     rintro e w5 ⟨ue,v5,rfl,hue,hv5,hb5⟩
     dsimp only at hue hv5 ⊢
     obtain ⟨pe,ce,rfl,_⟩:=hue.shape
     have hs5:=hb5.size
     obtain ⟨g5,hg5⟩:∃ g5,w5.heap.size=g5:=⟨_,rfl⟩
     obtain ⟨w6,hw6⟩:∃ w6,w5.alloc (.cells #[.int .i64 z,.slice pe fs.length ce] 87)=w6:=⟨_,rfl⟩
     have hba:Below w5.heap.size w5 w6:=by rw [← hw6];exact (Below.refl _ _).alloc (Nat.le_refl _) _
     have hs6:w6.heap.size=g5+1:=by rw [← hw6,← hg5];simp
     have x6:Two w6 g5 87 (.int .i64 z) (.slice pe fs.length ce):=by rw [← hw6,← hg5];exact two_new w5 87 _ _
     have h06:Below wr.heap.size wr w6:=hb5.trans (hba.mono hs5)
     have HV6:=Lib.hid (hv5.below (hba.mono (by omega)))
     have HE6:=Lib.hid (ROn.keep hue (kep_below _ hba) fun _ _ h=>h)
     have HX6:=Lib.hid (HX.out.below h06 hqw)
     have HT6:=Lib.hid (HT.out.below h06 HT.out.lt)
     have HB6:=Lib.hid (HBk.out.trans (h06.mono hszk))
     have ho6:=HO.out.keep (kep_below (fun _=>True) h06) (fun _ _ _=>trivial) (fun _ _=>trivial)
     have HO6:=Lib.hid (ho6.weak (T:=fun b=>S b∨NewF wr w5 b) (fun b _ hb=>.inl hb))
     have HS6:Hid (∀ b,(S b∨NewF wr w5 b)→q<b∧IsF w6 b):=Lib.hid (fun b hb=>hb.elim (fun h=>⟨(HS.out b h).1,(HS.out b h).2.keep (kep_below (fun _=>True) h06) trivial⟩) (fun h=>⟨by have:=h.1;omega,h.2.keep (kep_below (fun _=>True) hba) trivial⟩))
     have HW6:=Lib.hid hw6
     have HN6:=Lib.hid x6
     have m0:=x6.c0
     have m1:=x6.c1
     rw [← hw6] at m0 m1
     have y1:=HX6.out.c1
     rw [← hw6] at y1
     have HSH:=Lib.hid hue
     clear hb5 hba hv5 x6 h06 ho6 HX HT HBk HO HS HGE hue hw6
     rcases HCS.out with ⟨er',rfl,hne,hAn⟩ | ⟨rfl,hAn⟩
     ·have t8:(er != 0)=true:=by rw [bne_iff_ne];exact hne
      have HQ:=Lib.hid (HFAIL.out w6 _ _ HT6.out HB6.out (by rw [HGA.out,hAn];rfl))
      have HXr:=Lib.hid (HT6.out.s01 (.int .i64 0) (.slice none 0 0))
      obtain ⟨b0,b1,b2,b3,b4,b5⟩:=HT6.out.all (.int .i64 0)
      rw [← HW6.out] at HQ HXr b0 b1 b2 b3 b4 b5
      clear HFAIL HCS hAn
      go_wp2_with fail
      refine bodyPost_ret (results_box2 (p:=2) (u:=3) rfl Tryz.underlying82 rfl infoBat2 _ _ R _ _ rfl HXr.out) rfl HQ.out
     ·have HAn:=Lib.hid hAn
      have HON:=Lib.hid (show evC.on (fun b=>S b∨NewF wr w5 b) w6 [.int .i64 z,.slice pe fs.length ce] (z,fs) from ev_on.2 ⟨_,rfl,HE6.out.weak fun b _ hb=>.inr hb⟩)
      have HS7:=Lib.hid (src_lit (C:=evC) (S:=fun b=>S b∨NewF wr w5 b) (w:=w6) (vs:=[.int .i64 z,.slice pe fs.length ce]) (d:=(z,fs)) 87 HON.out)
      have HO7:=Lib.hid (HO6.out.alloc (.cells #[.int .i64 z,.slice pe fs.length ce] 87))
      have hka:Kep (fun _=>True) w6 (w6.alloc (.cells #[.int .i64 z,.slice pe fs.length ce] 87)):=kep_alloc _ _ _
      have HSS7:Hid (∀ b,(S b∨NewF wr w5 b)→q<b∧IsF (w6.alloc (.cells #[.int .i64 z,.slice pe fs.length ce] 87)) b):=Lib.hid (fun b hb=>⟨(HS6.out b hb).1,(HS6.out b hb).2.keep hka trivial⟩)
      have HX7:=Lib.hid (HX6.out.keep hka trivial)
      have HT7:=Lib.hid (HT6.out.keep hka trivial)
      have HB7:=Lib.hid (HB6.out.trans (hka.below (B:=w.heap.size) (by have:=HB6.out.size;omega) (fun _ _=>trivial)))
      have HV7:=Lib.hid (HV6.out.below (hka.below (B:=B) (by omega) (fun _ _=>trivial)))
      have hub:u.ownBlock≠some q:=fun e=>by have:=(HO6.out.cells e).1;omega
      have huR:u.ownBlock≠some R:=fun e=>by have:=(HO6.out.cells e).1;omega
      have HLO:=Lib.hid (fun k (h:u.ownBlock=some k)=>(HO6.out.cells h).1)
      rw [hs6] at HS7
      rw [← HW6.out] at HS7 HO7 HSS7 HX7 HT7 HB7 HV7
      clear HCS hAn hka HX6 HT6 HB6 HV6 HO6 HS6 HE6 HON
      go_wp2_with (at_builtin;go_loud (refine wpList_append_x evE rfl _ _ rfl (q+1) u es rfl HO7.out (fun b _ hb=>isF_apt (HSS7.out b hb).2) _ [(z,fs)] rfl HS7.out (by unfold maxLen;simp;omega) (by simp;omega) (by simp;omega) ?_;intro v8 w8 ho8 hb8 hk8;obtain ⟨p8,c8,rfl,_⟩:=ho8.any.shape;have x8:=HX7.out.keep hk8 hub;obtain ⟨k0,k2,k3,k4,_,_⟩:=x8.all (.int .i64 (n:Int));have HO8:=Lib.hid ho8;have HX8:=Lib.hid x8;have HT8:=Lib.hid (HT7.out.keep hk8 huR);have HV8:=Lib.hid (HV7.out.below (hk8.below (B:=B) (by simp;omega) (fun k hk e=>by have:=HLO.out k e;omega)));have HB8:=Lib.hid (HB7.out.trans (hk8.below (B:=w.heap.size) (by simp;omega) (fun k hk e=>by have:=HLO.out k e;omega)));have HS8:Hid (∀ b,(S b∨NewF wr w5 b)→q<b∧IsF w8 b):=Lib.hid (fun b hb=>⟨(HSS7.out b hb).1,(HSS7.out b hb).2.keep hk8 (isF_own HO7.out (HSS7.out b hb).2)⟩);have hs8:=hk8.size;clear ho8 hb8 hk8 x8 HO7 HS7 HX7 HT7 HB7 HV7 HSS7))
      have hl9:(es++[(z,fs)]).length=i+1:=by rw [List.length_append,hel];rfl
      have hkb:Kep (fun b=>b≠q) w8 (w8.setCell ⟨q,1,none⟩ (.slice p8 (es++[(z,fs)]).length c8)):=kep_set0 _
      have HO9:=Lib.hid (HO8.out.keep hkb (fun b _ hb=>by have:=(HS8.out b hb).1;omega) (fun k hk=>by have:=(HO8.out.cells hk).1;omega))
      have HX9:=Lib.hid (HX8.out.s1 (.slice p8 (es++[(z,fs)]).length c8))
      have HT9:=Lib.hid (HT8.out.keep hkb (by omega))
      have HV9:=Lib.hid (HV8.out.below (hkb.below (B:=B) (by have:=HX8.out.lt;omega) (fun k hk=>by omega)))
      have HB9:=Lib.hid (HB8.out.trans (hkb.below (B:=w.heap.size) (by have:=HX8.out.lt;omega) (fun k hk=>by omega)))
      have HS9:Hid (∀ b,(S b∨NewF wr w5 b)→q<b∧IsF (w8.setCell ⟨q,1,none⟩ (.slice p8 (es++[(z,fs)]).length c8)) b):=Lib.hid (fun b hb=>⟨(HS8.out b hb).1,(HS8.out b hb).2.keep hkb (by have:=(HS8.out b hb).1;omega)⟩)
      rw [hl9] at HO9 HX9 HT9 HV9 HB9 HS9
      clear hkb HO8 HX8 HT8 HV8 HB8 HS8
      have hlt:=HLT.out
      go_roundw
      case rel=>exact ⟨i+1,es++[(z,fs)],_,_,_,by omega,by go_num,hl9,Lib.hid HAn.out.symm,HV9,HO9,HS9,HX9,HT9,HB9⟩
      case measure=>simp [intOf];omega
    ·obtain rfl:i=m:=by omega
     have q1:decide ((i:Int)<(i:Int))=false:=by simp
     have hAi:=HA.out
     rw [Nat.sub_self,getBa] at hAi
     obtain ⟨pl,cl,rfl,_⟩:=HV.out.shape
     have k0:=HX.out.c0
     have k1:=HX.out.c1
     obtain ⟨pu,cu,hpu,_⟩:=(OwnX.any HO.out).shape
     have HU:=Lib.hid (HO.out.ron (T:=fun b=>R<b∧EvB wr b) (fun k hk=>⟨by have:=(HO.out.cells hk).1;omega,.inr (HO.out.cells hk).2.2⟩) (fun b _ hb=>⟨by have:=(HS.out b hb).1;omega,.inl (HS.out b hb).2⟩))
     have HCK:=Lib.hid (rcbatch_any (n:Int) u es wr HU.out.any)
     obtain ⟨c,hc⟩:∃ c,checkB ((n:Int),es)=c:=⟨_,rfl⟩
     rw [hc] at HCK
     have HGE:Hid (decB l=if 0<li.length∨c≠0 then none else some ((n:Int),es)):=Lib.hid (by rw [HGA.out,← hAi];unfold endB;dsimp only;rw [hc])
     subst hpu
     rw [hel] at HCK HU
     have HXR:=Lib.hid (HT.out.s01 (.int .i64 0) (.slice none 0 0))
     obtain ⟨_,_,b2,b3,b4,b5⟩:=HT.out.all (.int .i64 0)
     clear hAi HA hlt hc HGA HO HS HV
     by_cases hl0:0<li.length
     ·have t8:decide ((li.length:Int)>0)=true:=decide_eq_true (by omega)
      have HQ:=Lib.hid (HFAIL.out wr _ _ HT.out HBk.out (by rw [HGE.out,if_pos (.inl hl0)]))
      clear HFAIL HGE HCK HU HX HT
      go_wp2_with fail
      refine bodyPost_ret (results_box2 (p:=2) (u:=3) rfl Tryz.underlying82 rfl infoBat2 _ _ R _ _ rfl HXR.out) rfl HQ.out
     ·have t8:decide ((li.length:Int)>0)=false:=decide_eq_false (by omega)
      clear HXR b2 b3 b4 b5
      go_wp2_with fail
      refine HCK.out.mono ?_
      rintro e w10 ⟨rfl,hb10⟩
      have HT10:=Lib.hid (HT.out.below hb10 HT.out.lt)
      have HX10:=Lib.hid (HX.out.below hb10 HX.out.lt)
      have HB10:=Lib.hid (HBk.out.trans (hb10.mono HBk.out.size))
      have HU10:=Lib.hid ((ROn.keep HU.out (kep_below _ hb10) fun _ _ h=>h).weak (T:=fun b=>R<b∧EvB w10 b) fun b _ h=>⟨h.1,h.2.keep (kep_below (fun _=>True) hb10) trivial⟩)
      obtain ⟨_,_,b2,b3,b4,b5⟩:=HT10.out.all (.int .i64 0)
      obtain ⟨_,_,_,_,c4,c5⟩:=HT10.out.all (.int .i64 (n:Int))
      clear hb10 HCK HU HX HT HBk k0 k1
      by_cases h0:c=0
      ·subst h0
       have hdr:=decR_some (HGE.out.trans (if_neg (fun h=>h.elim hl0 (fun h=>h rfl))))
       have k0:=HX10.out.c0
       have k1:=HX10.out.c1
       rw [hel] at k1
       have HX:=Lib.hid (HT10.out.s01 (.int .i64 (n:Int)) (.slice pu i cu))
       have hk5:Kep (fun b=>b≠R) w10 ((w10.setCell ⟨R,0,none⟩ (.int .i64 (n:Int))).setCell ⟨R,1,none⟩ (.slice pu i cu)):=kep_set01 _ _
       have HQ:Hid (DecNew (decR l) w (.returned (.tuple #[.agg #[.int .i64 (n:Int),.slice pu i cu],.int .i64 0])) ((w10.setCell ⟨R,0,none⟩ (.int .i64 (n:Int))).setCell ⟨R,1,none⟩ (.slice pu i cu))):=Lib.hid (by
        rw [hdr]
        refine ⟨_,rfl,ROn.keep HU10.out (hk5.mono fun b h=>by have:=h.1;omega) fun b _ h=>⟨by have:=h.1;omega,h.2.keep hk5 (by have:=h.1;omega)⟩,?_⟩
        exact HB10.out.trans (hk5.below (B:=w.heap.size) (by have:=HT10.out.lt;omega) (fun k hk=>by omega)))
       clear hdr hk5 HFAIL HGE HU10 HX10 HT10 HB10
       go_wp2_with fail
       refine bodyPost_ret (results_box2 (p:=2) (u:=3) rfl Tryz.underlying82 rfl infoBat2 _ _ R _ _ rfl HX.out) rfl HQ.out
      ·have t9:(c != 0)=true:=by rw [bne_iff_ne];exact h0
       have HQ:=Lib.hid (HFAIL.out w10 _ _ HT10.out HB10.out (by rw [HGE.out,if_pos (.inr h0)]))
       have HX:=Lib.hid (HT10.out.s01 (.int .i64 0) (.slice none 0 0))
       clear HFAIL HGE HU10 HX10 HT10 HB10
       go_wp2_with fail
       refine bodyPost_ret (results_box2 (p:=2) (u:=3) rfl Tryz.underlying82 rfl infoBat2 _ _ R _ _ rfl HX.out) rfl HQ.out
end Go.Proofs.YtdfibahafilklaaGreatDoor.EV
