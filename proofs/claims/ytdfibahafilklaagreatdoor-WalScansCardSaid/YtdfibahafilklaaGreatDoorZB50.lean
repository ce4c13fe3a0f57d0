import Derived.Test.YtdfibahafilklaaGreatDoorZB44
set_option maxRecDepth 100000
set_option maxHeartbeats 8000000
set_option linter.unusedVariables false
set_option linter.unusedSimpArgs false
namespace Go.Proofs.YtdfibahafilklaaGreatDoor.EV
open Go Go.RowKit MM EM VM
open VP
theorem get_e1 {l:List UInt8} (h:(getI l).2.2≠0):getE l=none:=by
 unfold getE rdE
 rw [if_pos h]
theorem get_e2 {l:List UInt8} (h1:(getI l).2.2=0) (h:(getL (l.drop (getI l).2.1)).2.2≠0∨16<(getL (l.drop (getI l).2.1)).1):getE l=none:=by
 unfold getE rdE
 rw [if_neg (by simpa using h1),if_pos h]
def endE (z:Int):Option (List Fld×List UInt8)→Option (Ev×List UInt8)
 | none=>none
 | some (fs,r)=>if checkE (z,fs)=0 then some ((z,fs),r) else none
theorem get_e3 {l:List UInt8} (h1:(getI l).2.2=0) (h:¬ ((getL (l.drop (getI l).2.1)).2.2≠0∨16<(getL (l.drop (getI l).2.1)).1)) :
  getE l=endE (getI l).1 (getFa (getL (l.drop (getI l).2.1)).1 [] ((l.drop (getI l).2.1).drop (getL (l.drop (getI l).2.1)).2.1)):=by
 unfold getE rdE
 rw [if_neg (by simpa using h1),if_neg h]
 cases getFa (getL (l.drop (getI l).2.1)).1 [] ((l.drop (getI l).2.1).drop (getL (l.drop (getI l).2.1)).2.1) with
 | none=>rfl
 | some p=>obtain ⟨fs,r⟩:=p;rfl
theorem getFa_stop {k:Nat} {acc:List Fld} {l:List UInt8} (h:(getT l 32).2.2≠0∨(getT (VG.restT l 32) 4096).2.2≠0):getFa (k+1) acc l=none:=by
 rw [getFa]
 by_cases h1:(getT l 32).2.2=0
 ·unfold VG.restT at h
  rw [if_pos h1] at h
  rw [if_pos h]
 ·rw [if_pos (.inl h1)]
theorem getFa_on {k:Nat} {acc:List Fld} {l:List UInt8} (h1:(getT l 32).2.2=0) (h2:(getT (VG.restT l 32) 4096).2.2=0):getFa (k+1) acc l=getFa k (acc++[((getT l 32).1,(getT (VG.restT l 32) 4096).1)]) (VG.restT (VG.restT l 32) 4096):=by
 have e:VG.restT l 32=l.drop (getT l 32).2.1:=by unfold VG.restT;rw [if_pos h1]
 rw [getFa]
 rw [e] at h2 ⊢
 rw [if_neg (fun h=>h.elim (fun h=>h h1) (fun h=>h h2))]
 unfold VG.restT
 rw [if_pos h2]
def RGot (B:Nat) (s:Ev×List UInt8×Int) (w:World) (e:Ending) (w':World):Prop :=
 ∃ u v,e=.returned (.tuple #[.agg #[.int .i64 s.1.1,u],v,.int .i64 s.2.2])∧ROn fldC (NewF w w') w' u s.1.2∧BIn B w' v s.2.1∧Below w.heap.size w w'
theorem rget_in (B:Nat) (v:Value) (l:List UInt8) (w:World) (hv:BIn B w v l) (hB:B≤w.heap.size):Calls Tryz.prog 97 #[v] w (RGot B (getR l) w):=by
 obtain ⟨R,hR⟩:∃ R,w.heap.size=R:=⟨_,rfl⟩
 obtain ⟨wa,hwa⟩:∃ wa,w.alloc (.cells #[.int .i64 0,.slice none 0 0] 87)=wa:=⟨_,rfl⟩
 have hba:Below w.heap.size w wa:=by rw [← hwa];exact (Below.refl _ _).alloc (Nat.le_refl _) _
 have hsa:wa.heap.size=R+1:=by rw [← hwa,← hR];simp
 have t0:Two wa R 87 (.int .i64 0) (.slice none 0 0):=by rw [← hwa,← hR];exact two_new w 87 _ _
 have hva:BIn B wa v l:=hv.below (hba.mono hB)
 have HG:=Lib.hid (VG.rgetint_in B v l wa hva (by omega))
 have HNUM:=Lib.hid (fun v l W (h:BIn B W v l) (hb:B≤W.heap.size)=>VG.rget_in B v l W h hb)
 have HFAIL:Hid (∀ W a b,Two W R 87 a b→Below w.heap.size w W→getE l=none →
   RGot B (getR l) w (.returned (.tuple #[.agg #[.int .i64 0,.slice none 0 0],.slice none 0 0,.int .i64 100])) ((W.setCell ⟨R,0,none⟩ (.int .i64 0)).setCell ⟨R,1,none⟩ (.slice none 0 0))):=Lib.hid (fun W a b ht hb hn=>by
  rw [getR_none hn]
  exact ⟨_,_,rfl,ROn.nil_ _ _,BIn.nil_ _ _,hb.trans ((kep_set01 (.int .i64 0) (.slice none 0 0)).below (B:=w.heap.size) (by have:=ht.lt;omega) (fun k hk=>by omega))⟩)
 have HE1:=Lib.hid (@get_e1 l)
 have HE2:=Lib.hid (@get_e2 l)
 have HE3:=Lib.hid (@get_e3 l)
 have T0:=Lib.hid t0
 have HBA:=Lib.hid hba
 have HWA:=Lib.hid hwa
 have HRZ:=Lib.hid hR
 have hrl:(getI l).2.2=0→VG.restL l=l.drop (getI l).2.1:=fun h=>by unfold VG.restL;exact if_pos h
 have HRL:=Lib.hid hrl
 generalize (getI l).1=z at *
 generalize (getI l).2.2=er1 at *
 generalize l.drop (getI l).2.1=d1 at *
 generalize VG.restL l=l1 at *
 clear hv hba hwa t0 hva hrl
 go_enter Tryz.func97,Tryz.ntmps97
 go_wp2_with fail
 rw [HWA.out]
 refine HG.out.mono ?_
 rintro e w1 ⟨v1,rfl,hv1,hb1⟩
 have hs1:=hb1.size
 have ht1:=T0.out.below hb1 (by omega)
 have HT1:=Lib.hid ht1
 have HB1:=Lib.hid (HBA.out.trans (hb1.mono HBA.out.size))
 have HV1:=Lib.hid hv1
 clear hb1 hv1 HG T0 HBA HWA
 by_cases hz1:er1=0
 ·subst hz1
  have hl1:=HRL.out rfl
  subst hl1
  have HK2:=Lib.hid (HNUM.out v1 l1 w1 HV1.out (by omega))
  have he2:=HE2.out rfl
  have he3:=HE3.out rfl
  have hrl2:(getL l1).2.2=0→VG.restL l1=l1.drop (getL l1).2.1:=fun h=>by unfold VG.restL;exact if_pos h
  have hnb:=(getL_bounds l1).1
  generalize (getL l1).1=n at *
  generalize (getL l1).2.2=er2 at *
  generalize l1.drop (getL l1).2.1=d2 at *
  generalize VG.restL l1=l2 at *
  have HE2':=Lib.hid he2
  have HE3':=Lib.hid he3
  have HRL2:=Lib.hid hrl2
  clear he2 he3 hrl2 HE1 HE2 HE3 HRL HNUM
  have t1:(er2 != 0) = !(decide (er2=0)):=rfl
  go_wp2_with fail
  refine HK2.out.mono ?_
  rintro e w2 ⟨v2,rfl,hv2,hb2⟩
  have hs2:=hb2.size
  have HT2:=Lib.hid (HT1.out.below hb2 HT1.out.lt)
  have HB2:=Lib.hid (HB1.out.trans (hb2.mono (by have:=HB1.out.size;omega)))
  have HV2:=Lib.hid hv2
  clear hb2 hv2 HK2 HT1 HB1 HV1
  by_cases hz2:er2≠0∨16<n
  ·have HQ:=Lib.hid (HFAIL.out w2 _ _ HT2.out HB2.out (HE2'.out hz2))
   have HX:=Lib.hid (HT2.out.s01 (.int .i64 0) (.slice none 0 0))
   obtain ⟨_,_,b2,b3,b4,b5⟩:=HT2.out.all (.int .i64 0)
   by_cases hz3:er2=0
   ·have t2:(er2 != 0)=false:=by rw [bne_eq_false_iff_eq];exact hz3
    have t3:decide ((n:Int)>16)=true:=decide_eq_true (by omega)
    clear HFAIL HE2' HE3' HRL2 hz2 t1
    go_wp2_with fail
    refine bodyPost_ret (results_box3 (p:=2) (u:=3) (v:=4) rfl Tryz.underlying87 rfl infoEv2 _ _ R _ _ rfl HX.out) rfl HQ.out
   ·have t2:(er2 != 0)=true:=by rw [bne_iff_ne];exact hz3
    clear HFAIL HE2' HE3' HRL2 hz2 t1
    go_wp2_with fail
    refine bodyPost_ret (results_box3 (p:=2) (u:=3) (v:=4) rfl Tryz.underlying87 rfl infoEv2 _ _ R _ _ rfl HX.out) rfl HQ.out
  ·have he3:=HE3'.out hz2
   have hz3:er2=0:=Classical.byContradiction fun h=>hz2 (.inl h)
   have hn16:n≤16:=Nat.not_lt.1 fun h=>hz2 (.inr h)
   subst hz3
   have hl2:=HRL2.out rfl
   subst hl2
   have t3:decide ((n:Int)>16)=false:=decide_eq_false (by omega)
   have t4:IntKind.i64.wrap (n:Int)=(n:Int):=by rw [IntKind.wrap_i64];omega
   have HGE:=Lib.hid he3
   clear he3 HE2' HE3' HRL2 hz2 t1
   obtain ⟨q,hq⟩:∃ q,w2.heap.size=q:=⟨_,rfl⟩
   have hqR:R<q:=by have:=HT2.out.lt;omega
   have hbq:Below w2.heap.size w2 (w2.alloc (.cells #[.int .i64 z,.slice none 0 0] 87)):=(Below.refl _ _).alloc (Nat.le_refl _) _
   have hsq:(w2.alloc (.cells #[.int .i64 z,.slice none 0 0] 87)).heap.size=q+1:=by simp [hq]
   have HX3:Hid (Two (w2.alloc (.cells #[.int .i64 z,.slice none 0 0] 87)) q 87 (.int .i64 z) (.slice none 0 0)):=Lib.hid (by rw [← hq];exact two_new w2 87 _ _)
   have HT3:=Lib.hid (HT2.out.below hbq HT2.out.lt)
   have HB3:=Lib.hid (HB2.out.trans (hbq.mono HB2.out.size))
   have HV3:=Lib.hid (HV2.out.below (hbq.mono (by omega)))
   have HO3:=Lib.hid (OwnX.nil_ (C:=fldC) 84 (q+1) (fun _=>False) (w2.alloc (.cells #[.int .i64 z,.slice none 0 0] 87)))
   obtain ⟨A,hA⟩:∃ A,getFa n [] l2=A:=⟨_,rfl⟩
   have HA3:=Lib.hid hA
   have HGA:Hid (getE l=endE z A):=Lib.hid (by rw [HGE.out,hA])
   clear hbq hA HGE HT2 HB2 HV2
   go_wp2_with fail
   go_loopw [0,9] (fun bv iv wr=>∃ (i:Nat) (fs:List Fld) (li:List UInt8) (u:Value),i≤n∧iv=.int .i64 i∧fs.length=i∧Hid (getFa (n - i) fs li=A)∧Hid (BIn B wr bv li)∧Hid (OwnX fldC 84 (q+1) (fun _=>False) wr u fs)∧Hid (Two wr q 87 (.int .i64 z) u)∧Hid (Two wr R 87 (.int .i64 0) (.slice none 0 0))∧Hid (Below w.heap.size w wr)) (fun _ iv _=>n - (intOf iv).toNat)
   case atStart=>exact ⟨0,[],l2,_,by omega,rfl,rfl,HA3,HV3,HO3,HX3,HT3,HB3⟩
   case round =>
    obtain ⟨i,fs,li,u,hi,rfl,hfl,HA,HV,HO,HXq,HT,HBk⟩:=hrel
    clear HA3 HV3 HO3 HX3 HT3 HB3
    have hqw:=HXq.out.lt
    by_cases hlt:i<n
    ·have q1:decide ((i:Int)<(n:Int))=true:=by rw [decide_eq_true_eq];omega
     have HTX:=Lib.hid (VG.rgettext_in B u0 li 32 wr (by omega) (by omega) HV.out (by omega))
     have HTY:=Lib.hid (fun v W (h:BIn B W v (VG.restT li 32)) (hb:B≤W.heap.size)=>VG.rgettext_in B v (VG.restT li 32) 4096 W (by omega) (by omega) h hb)
     have hstop:=getFa_stop (k:=n - (i+1)) (acc:=fs) (l:=li)
     have hon:=getFa_on (k:=n - (i+1)) (acc:=fs) (l:=li)
     have hAi:=HA.out
     rw [show n - i=n - (i+1)+1 by omega] at hAi
     rw [hAi] at hstop hon
     generalize (getT li 32).1=s1 at *
     generalize (getT li 32).2.2=e1 at *
     generalize VG.restT li 32=l3 at *
     generalize (getT l3 4096).1=s2 at *
     generalize (getT l3 4096).2.2=e2 at *
     generalize VG.restT l3 4096=l4 at *
     have HSTOP:=Lib.hid hstop
     have HON:=Lib.hid hon
     have HLT:=Lib.hid hlt
     clear hstop hon hAi HA hlt HV
     go_wp2_with fail
     refine HTX.out.mono ?_
     rintro e w4 ⟨v4,rfl,hv4,hb4⟩
     have HY:=Lib.hid (HTY.out v4 w4 hv4 (by have:=hb4.size;omega))
     have HB4:=Lib.hid hb4
     clear hv4 hb4 HTX HTY
     go_wp2_with fail
     refine HY.out.mono ?_
     rintro e w5 ⟨v5,rfl,hv5,hb5⟩
     have hb45:Below wr.heap.size wr w5:=HB4.out.trans (hb5.mono HB4.out.size)
     have hs5:=hb45.size
     have HV5:=Lib.hid hv5
     have HX5:=Lib.hid (HXq.out.below hb45 hqw)
     have HT5:=Lib.hid (HT.out.below hb45 HT.out.lt)
     have HB5:=Lib.hid (HBk.out.trans (hb45.mono HBk.out.size))
     have HO5:=Lib.hid (HO.out.keep (kep_below (fun _=>True) hb45) (fun _ _ _=>trivial) (fun _ _=>trivial))
     clear hv5 hb5 hb45 HB4 HXq HT HBk HO HY
     by_cases hbad:e1≠0∨e2≠0
     ·have hAn:=HSTOP.out hbad
      have HQ:=Lib.hid (HFAIL.out w5 _ _ HT5.out HB5.out (by rw [HGA.out,hAn];rfl))
      have HXr:=Lib.hid (HT5.out.s01 (.int .i64 0) (.slice none 0 0))
      obtain ⟨_,_,b2,b3,b4,b5⟩:=HT5.out.all (.int .i64 0)
      by_cases h1:e1=0
      ·have t1:(e1 != 0)=false:=by rw [bne_eq_false_iff_eq];exact h1
       have t2:(e2 != 0)=true:=by rw [bne_iff_ne];exact hbad.elim (fun h=>absurd h1 h) id
       clear HFAIL HSTOP HON hbad hAn h1
       go_wp2_with fail
       refine bodyPost_ret (results_box3 (p:=2) (u:=3) (v:=4) rfl Tryz.underlying87 rfl infoEv2 _ _ R _ _ rfl HXr.out) rfl HQ.out
      ·have t1:(e1 != 0)=true:=by rw [bne_iff_ne];exact h1
       clear HFAIL HSTOP HON hbad hAn h1
       go_wp2_with fail
       refine bodyPost_ret (results_box3 (p:=2) (u:=3) (v:=4) rfl Tryz.underlying87 rfl infoEv2 _ _ R _ _ rfl HXr.out) rfl HQ.out
     ·have h1:e1=0:=Classical.byContradiction fun h=>hbad (.inl h)
      have h2:e2=0:=Classical.byContradiction fun h=>hbad (.inr h)
      have HAn:=Lib.hid (HON.out h1 h2)
      have t1:(e1 != 0)=false:=by rw [bne_eq_false_iff_eq];exact h1
      have t2:(e2 != 0)=false:=by rw [bne_eq_false_iff_eq];exact h2
      have HO6:=Lib.hid (HO5.out.alloc (.cells #[.string ⟨s1.toArray⟩,.string ⟨s2.toArray⟩] 84))
      have HS6:=Lib.hid (src_lit (C:=fldC) (S:=fun _=>False) (w:=w5) (vs:=[.string ⟨s1.toArray⟩,.string ⟨s2.toArray⟩]) (d:=(s1,s2)) 84 (fld_on.2 rfl))
      have k1:=HX5.out.c1
      have hba:Kep (fun _=>True) w5 (w5.alloc (.cells #[.string ⟨s1.toArray⟩,.string ⟨s2.toArray⟩] 84)):=kep_alloc _ _ _
      have HX6:=Lib.hid (HX5.out.keep hba trivial)
      have HT6:=Lib.hid (HT5.out.keep hba trivial)
      have hub:u.ownBlock≠some q:=fun e=>by have:=(HO5.out.cells e).1;omega
      have huR:u.ownBlock≠some R:=fun e=>by have:=(HO5.out.cells e).1;omega
      have HLO:=Lib.hid (fun k (h:u.ownBlock=some k)=>(HO5.out.cells h).1)
      have HB6:=Lib.hid (HB5.out.trans ((kep_alloc (fun _=>True) w5 (.cells #[.string ⟨s1.toArray⟩,.string ⟨s2.toArray⟩] 84)).below (B:=w.heap.size) (by have:=HB5.out.size;omega) (fun _ _=>trivial)))
      have HV6:=Lib.hid (HV5.out.below (hba.below (B:=B) (by omega) (fun _ _=>trivial)))
      clear HSTOP HON hbad h1 h2 hba HX5 HT5 HB5 HV5 HO5
      go_wp2_with (at_builtin;go_loud (refine wpList_append_x fldE rfl _ _ rfl (q+1) u fs rfl HO6.out (fun _ _ h=>h.elim) _ [(s1,s2)] rfl HS6.out (by unfold maxLen;simp;omega) (by simp;omega) (by simp;omega) ?_;intro v7 w7 ho7 hb7 hk7;obtain ⟨p7,c7,rfl,_⟩:=ho7.any.shape;have x7:=HX6.out.keep hk7 hub;obtain ⟨k0,k2,k3,k4,_,_⟩:=x7.all (.int .i64 z);have HO7:=Lib.hid ho7;have HX7:=Lib.hid x7;have HT7:=Lib.hid (HT6.out.keep hk7 huR);have HV7:=Lib.hid (HV6.out.below (hk7.below (B:=B) (by simp;omega) (fun k hk e=>by have:=HLO.out k e;omega)));have HB7:=Lib.hid (HB6.out.trans (hk7.below (B:=w.heap.size) (by simp;omega) (fun k hk e=>by have:=HLO.out k e;omega)));have hs7:=hk7.size;clear ho7 hb7 hk7 x7 HO6 HS6 HX6 HT6 HB6 HV6))
      have hkb:Kep (fun b=>b≠q) w7 (w7.setCell ⟨q,1,none⟩ (.slice p7 (fs++[(s1,s2)]).length c7)):=kep_set0 _
      have HO8:=Lib.hid (HO7.out.keep hkb (fun _ _ h=>h.elim) (fun k hk=>by have:=(HO7.out.cells hk).1;omega))
      have HX8:=Lib.hid (HX7.out.s1 (.slice p7 (fs++[(s1,s2)]).length c7))
      have HT8:=Lib.hid (HT7.out.keep hkb (by omega))
      have HV8:=Lib.hid (HV7.out.below (hkb.below (B:=B) (by have:=hkb.size;have:=HX7.out.lt;omega) (fun k hk=>by omega)))
      have HB8:=Lib.hid (HB7.out.trans (hkb.below (B:=w.heap.size) (by have:=HX7.out.lt;omega) (fun k hk=>by omega)))
      have hlt:=HLT.out
      have hl9:(fs++[(s1,s2)]).length=i+1:=by rw [List.length_append,hfl];rfl
      rw [hl9] at HO8 HX8 HT8 HV8 HB8
      clear hkb HO7 HX7 HT7 HV7 HB7
      go_roundw
      case rel=>exact ⟨i+1,fs++[(s1,s2)],_,_,by omega,by go_num,hl9,Lib.hid HAn.out.symm,HV8,HO8,HX8,HT8,HB8⟩
      case measure=>simp [intOf];omega
    ·obtain rfl:i=n:=by omega
     have q1:decide ((i:Int)<(i:Int))=false:=by simp
     have hAi:=HA.out
     rw [Nat.sub_self,getFa] at hAi
     have k0:=HXq.out.c0
     have k1:=HXq.out.c1
     obtain ⟨pu,cu,hpu,_⟩:=(OwnX.any HO.out).shape
     have HCK:=Lib.hid (rcheck_any z u fs wr HO.out.any)
     obtain ⟨c,hc⟩:∃ c,checkE (z,fs)=c:=⟨_,rfl⟩
     rw [hc] at HCK
     have HGE:Hid (getE l=if c=0 then some ((z,fs),li) else none):=Lib.hid (by rw [HGA.out,← hAi];unfold endE;dsimp only;rw [hc])
     subst hpu
     rw [hfl] at HCK
     clear hAi HA hlt hc HGA
     go_wp2_with fail
     refine HCK.out.mono ?_
     rintro e w9 ⟨rfl,hb9⟩
     have hs9:=hb9.size
     have HT9:=Lib.hid (HT.out.below hb9 HT.out.lt)
     have HX9:=Lib.hid (HXq.out.below hb9 hqw)
     have HV9:=Lib.hid (HV.out.below (hb9.mono (by omega)))
     have HB9:=Lib.hid (HBk.out.trans (hb9.mono HBk.out.size))
     have HU9:=Lib.hid (HO.out.keep (kep_below (fun _=>True) hb9) (fun _ _ _=>trivial) (fun _ _=>trivial))
     clear hb9 HT HXq HV HBk HO HCK k0 k1
     obtain ⟨_,_,b2,b3,b4,b5⟩:=HT9.out.all (.int .i64 0)
     obtain ⟨_,_,_,_,c4,c5⟩:=HT9.out.all (.int .i64 z)
     by_cases h0:c=0
     ·subst h0
      have k0:=HX9.out.c0
      have k1:=HX9.out.c1
      have hgr:=getR_some HGE.out
      have HX:=Lib.hid (HT9.out.s01 (.int .i64 z) (.slice pu fs.length cu))
      have hk5:Kep (fun b=>b≠R) w9 ((w9.setCell ⟨R,0,none⟩ (.int .i64 z)).setCell ⟨R,1,none⟩ (.slice pu fs.length cu)):=kep_set01 _ _
      have HQ:Hid (RGot B (getR l) w (.returned (.tuple #[.agg #[.int .i64 z,.slice pu fs.length cu],u0,.int .i64 0])) ((w9.setCell ⟨R,0,none⟩ (.int .i64 z)).setCell ⟨R,1,none⟩ (.slice pu fs.length cu))):=Lib.hid (by
       rw [hgr]
       refine ⟨_,_,rfl,?_,?_,?_⟩
       ·have hok:=HU9.out.keep hk5 (fun _ _ h=>h.elim) (fun k hk=>by have:=(HU9.out.cells hk).1;omega)
        exact hok.ron (fun k hk=>⟨by have:=(hok.cells hk).1;omega,(hok.cells hk).2.2⟩) (fun _ _ h=>h.elim)
       ·exact HV9.out.below (hk5.below (B:=B) (by omega) (fun k hk=>by omega))
       ·exact HB9.out.trans (hk5.below (B:=w.heap.size) (by omega) (fun k hk=>by omega)))
      rw [hfl] at HX HQ
      clear hgr hk5 HGE HFAIL HU9 HV9 HB9 HX9 HT9
      go_wp2_with fail
      refine bodyPost_ret (results_box3 (p:=2) (u:=3) (v:=4) rfl Tryz.underlying87 rfl infoEv2 _ _ R _ _ rfl HX.out) rfl HQ.out
     ·have t1:(c != 0)=true:=by rw [bne_iff_ne];exact h0
      have HQ:=Lib.hid (HFAIL.out w9 _ _ HT9.out HB9.out (by rw [HGE.out,if_neg h0]))
      have HX:=Lib.hid (HT9.out.s01 (.int .i64 0) (.slice none 0 0))
      clear HGE HFAIL HU9 HV9 HB9 HX9 HT9
      go_wp2_with fail
      refine bodyPost_ret (results_box3 (p:=2) (u:=3) (v:=4) rfl Tryz.underlying87 rfl infoEv2 _ _ R _ _ rfl HX.out) rfl HQ.out
 ·have HQ:=Lib.hid (HFAIL.out w1 _ _ HT1.out HB1.out (HE1.out hz1))
  have HX:=Lib.hid (HT1.out.s01 (.int .i64 0) (.slice none 0 0))
  obtain ⟨_,_,b2,b3,b4,b5⟩:=HT1.out.all (.int .i64 0)
  have q1:(er1 != 0)=true:=by rw [bne_iff_ne];exact hz1
  clear HFAIL HE1 HE2 HE3 HRL HNUM
  go_wp2_with fail
  refine bodyPost_ret (results_box3 (p:=2) (u:=3) (v:=4) rfl Tryz.underlying87 rfl infoEv2 _ _ R _ _ rfl HX.out) rfl HQ.out
end Go.Proofs.YtdfibahafilklaaGreatDoor.EV
