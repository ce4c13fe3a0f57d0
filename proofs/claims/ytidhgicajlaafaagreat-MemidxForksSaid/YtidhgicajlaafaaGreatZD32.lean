import Derived.Test.YtidhgicajlaafaaGreatZD13
import Derived.Test.YtidhgicajlaafaaGreatZD31
set_option maxRecDepth 100000
set_option maxHeartbeats 8000000
set_option linter.unusedVariables false
set_option linter.unusedSimpArgs false
namespace Go.Proofs.YtidhgicajlaafaaGreat.MX
open Go Go.RowKit MM EM SM
open SG (PostD postC postE Tab found zeroPosts post_on)
open EV (fldC trmC trm_at foldP_len_le evBox box_in box_size box_below box_at)
open RM (termsE_len)
theorem pos_more:∀ (qs:List (List UInt8×PostD)) {l:List (EM.Tr PostD)} (s:List UInt8),Rising l→(posOf (foldP l qs) s).length≤(posOf l s).length+qs.length
 | [],l,s,_=>Nat.le_refl _
 | (x,p)::qs,l,s,h=>by
   have e:foldP l ((x,p)::qs)=foldP (addP l x p) qs:=rfl
   have h1:=pos_more qs s (addP_rising x p h)
   rw [posOf_add x p s h] at h1
   rw [e,List.length_cons]
   split at h1
   ·rename_i h2
    rw [List.length_append,List.length_singleton] at h1
    subst h2
    omega
   ·omega
def AddLeft (U:Nat→Prop) (mb:Nat) (T:List (EM.Tr PostD)) (w:World) (e:Ending) (w':World):Prop :=
 e=.returned (.tuple #[])∧(∃ X F,RowsU (Since U w.heap.size w'.heap.size) mb T X F w')∧Kep (fun b=>¬ U b) w w'
theorem add_any (U X:Nat→Prop) (mb k:Nat) (T:List (EM.Tr PostD)) (F:List UInt8→Option Value) (t:Int) (v:Value) (fs:List Fld) (w:World) (h:RowsU U mb T X F w) (hU:∀ b,U b→b<w.heap.size) (hv:RAny fldC w v fs)
  (hlT:T.length≤1000000000000) (hlp:∀ s,(posOf T s).length≤1000000000000) (hle:(termsE (t,fs)).length≤100000) :
  Calls Tryz.prog 45 #[.map (some mb),.int .i64 (k:Int),.agg #[.int .i64 t,v]] w (AddLeft U mb (foldP T (pairK k (termsE (t,fs)))) w):=by
 obtain ⟨pf,cf,rfl,_⟩:=hv.shape
 obtain ⟨w1,hw1⟩:∃ w1,evBox w t (.slice pf fs.length cf)=w1:=⟨_,rfl⟩
 have hb1:Below w.heap.size w w1:=by rw [← hw1];exact box_below _ _ _
 have HC:=Lib.hid (EV.terms_new t (.slice pf fs.length cf) fs w1 (hv.below hb1))
 obtain ⟨E,hE⟩:∃ E,termsE (t,fs)=E:=⟨_,rfl⟩
 have HSL:=Lib.hid (fun (x:Trm) (hx:x∈E)=>(termsE_len (e:=(t,fs)) (by rw [hE];exact hx)).2)
 rw [hE] at HC hle ⊢
 have h1:RowsU (Since U w.heap.size w1.heap.size) mb T X F w1:=(h.keep (kep_below (fun _=>True) hb1) fun _ _ _=>trivial).weak fun b hb=>.inl hb
 have H1:=Lib.hid h1
 have HB1:=Lib.hid hb1
 have hba:=box_at w t (.slice pf fs.length cf)
 rw [hw1] at hba
 have hw1':w.alloc (.cells #[.int .i64 t,.slice pf fs.length cf] 51)=w1:=hw1
 have HW1:=Lib.hid hw1'
 have HU:=Lib.hid hU
 have HT:=Lib.hid hlT
 have HP:=Lib.hid hlp
 have HR:=Lib.hid h.tab.rise
 have hs1:w1.heap.size=w.heap.size+1:=by rw [← hw1];exact box_size _ _ _
 clear hw1 hw1' hb1 h1 h hU hlT hlp hv hE
 obtain ⟨ha0,ha1⟩:=hba
 go_enter Tryz.func45,Tryz.ntmps45
 go_wp2_with (rw [HW1.out])
 refine HC.out.mono ?_
 rintro e w2 ⟨u,rfl,hu,hb2⟩
 obtain ⟨pu,cu,rfl,hcu,hcm2,_⟩:=ROn.shape hu
 unfold maxLen at hcm2
 have hX:=H1.out.tab.more hb2
 obtain ⟨X',hX'⟩:∃ X':Nat→Prop,(fun b=>X b∨(w1.heap.size≤b∧b<w2.heap.size))=X':=⟨_,rfl⟩
 have hux:ROn trmC X' w2 (.slice pu E.length cu) E:=ROn.weak hu fun b hb h=>by rw [← hX'];exact .inr ⟨h,hb⟩
 have hr2:RowsU (Since U w.heap.size w2.heap.size) mb T X' F w2:=by
  refine ⟨by rw [← hX'];exact hX,(H1.out.umb).le hb2.size,fun s v g h1 h2=>(H1.out.uown s v g h1 h2).le hb2.size,fun b hb => ?_⟩
  rw [← hX'] at hb
  rcases hb with hb | hb
  ·exact (H1.out.ux b hb).le hb2.size
  ·exact .inr ⟨by omega,hb.2⟩
 have H2:Hid (∃ F,RowsU (Since U w.heap.size w2.heap.size) mb (foldP T (pairK k (E.take 0))) X' F w2):=Lib.hid ⟨F,by rw [show pairK k (E.take 0)=[] from rfl];exact hr2⟩
 have HU2:=Lib.hid hux
 have HK2:Hid (Kep (fun b=>¬ U b) w w2):=Lib.hid ((kep_below _ HB1.out).trans (kep_below _ hb2))
 clear hu hb2 hX hux hX' hr2 HC H1 HB1 HW1 ha0 ha1
 go_wp2_with fail
 go_loopw [11] (fun jv wj=>∃ j:Nat,j≤E.length∧jv=.int .i64 j∧Hid (∃ F,RowsU (Since U w.heap.size wj.heap.size) mb (foldP T (pairK k (E.take j))) X' F wj)∧Hid (ROn trmC X' wj (.slice pu E.length cu) E)∧Hid (Kep (fun b=>¬ U b) w wj)) (fun jv _=>E.length - (intOf jv).toNat)
 case atStart=>exact ⟨0,by omega,rfl,H2,HU2,HK2⟩
 case round =>
  obtain ⟨j,hj,rfl,HF,HUJ,HK⟩:=hrel
  clear H2 HU2 HK2
  by_cases hlj:j<E.length
  ·have r1:decide ((j:Int)<(E.length:Int))=true:=by rw [decide_eq_true_eq];omega
   have r2:decide (j<E.length)=true:=by rw [decide_eq_true_eq];omega
   have r3:(j:Int)<(E.length:Int):=by omega
   obtain ⟨g,o,pv,rfl,hgl,hgX,d0,d1,hzs⟩:=trm_at HUJ.out hlj
   have hpk:=pairK_next k hlj
   obtain ⟨⟨s,zs⟩,hts⟩:∃ x,E[j]=x:=⟨_,rfl⟩
   rw [hts] at d0 hzs hpk
   dsimp only at d0 hzs hpk
   obtain ⟨pz,cz,rfl,_⟩:=hzs.shape
   have hsl:s.length≤maxLen:=by
    have:=HSL.out E[j] (List.getElem_mem hlj)
    rw [hts] at this
    dsimp only at this
    unfold maxLen
    omega
   obtain ⟨F,hF⟩:=HF.out
   obtain ⟨R,hR⟩:∃ R,foldP T (pairK k (E.take j))=R:=⟨_,rfl⟩
   have hR1:foldP T (pairK k (E.take (j+1)))=addP R s ((k:Int),zs):=by rw [hpk,foldP_append,hR];rfl
   have hjl:(pairK k (E.take j)).length≤100000:=by rw [pairK_len,List.length_take];omega
   have hpl:(posOf R s).length≤1000000200000:=by
    rw [← hR]
    have h1:=pos_more (pairK k (E.take j)) s HR.out
    have h2:=HP.out s
    omega
   have htl2:R.length≤1000000200000:=by
    rw [← hR]
    have h1:=foldP_len_le (pairK k (E.take j)) T
    have h2:=HT.out
    omega
   rw [hR] at hF
   obtain ⟨wd,hwd⟩:∃ wd,(wr.alloc (.cells #[.string ⟨s.toArray⟩,.slice pz zs.length cz] 120)).drew=wd:=⟨_,rfl⟩
   have hkd:Below wr.heap.size wr wd:=by rw [← hwd];exact ((Below.refl _ _).alloc (Nat.le_refl _) _).drew
   have hbt:Two wd wr.heap.size 120 (.string ⟨s.toArray⟩) (.slice pz zs.length cz):=by rw [← hwd];exact (two_new wr 120 _ _).keep (kep_draw (fun _=>True) _) trivial
   have hPd:Tab 0 mb X' R F wd:=hF.tab.below hkd
   have hfd:=hPd.found s
   have hfw:=hF.tab.found s
   have hmbl:=hF.tab.map.lt
   have hUd:ROn trmC X' wd (.slice (some ⟨g,o,none⟩) E.length cu) E:=ROn.keep HUJ.out (kep_below _ hkd) fun _ _ h=>h
   have hzd:ROn cInt X' wd (.slice pz zs.length cz) zs:=ROn.keep hzs (kep_below _ hkd) fun _ _ h=>h
   have hmx:Tryz.prog.follows .mixedOrders=true:=by kernel_rfl
   have hwsz:w.heap.size≤wr.heap.size:=HK.out.size
   have hG:∀ W',Kep (fun b=>b≠mb∧(found F s).ownBlock≠some b) wd W'→W'.cell? ⟨wr.heap.size,0,none⟩=some (.string ⟨s.toArray⟩)∧W'.cell? ⟨wr.heap.size,1,none⟩=some (.slice pz zs.length cz):=fun W' hW =>
    have h:=hbt.keep hW ⟨by omega,fun e=>by have:=(hfw.2 _ e).2.2;omega⟩
    ⟨h.c0,h.c1⟩
   have hfU:∀ b,(found F s).ownBlock=some b→Since U w.heap.size wr.heap.size b:=fun b e=>by
    unfold found at e
    cases hFs:F s with
    | none=>rw [hFs] at e;cases e
    | some u0=>rw [hFs] at e;exact hF.uown s u0 b hFs e
   have hkU:∀ b,b<w.heap.size→¬ U b→b≠mb∧(found F s).ownBlock≠some b:=fun b hb hn=>⟨fun e=>by
     rcases hF.umb with h1 | h1
     ·rw [e] at hn;exact hn h1
     ·omega,
    fun e=>by
     rcases hfU b e with h1 | h1
     ·exact hn h1
     ·omega⟩
   have hend:∀ W',Kep (fun b=>b≠mb∧(found F s).ownBlock≠some b) wd W'→ROn trmC X' W' (.slice (some ⟨g,o,none⟩) E.length cu) E∧Kep (fun b=>¬ U b) w W':=fun W' hW =>
    ⟨ROn.keep hUd (hW.mono' fun b _ hb=>⟨(hPd.hi b hb).2,fun e=>(OwnS.lt hfd.1 b e).2 hb⟩) fun _ _ h=>h,
     (HK.out.trans (kep_below _ hkd)).andThen hW fun b hb hn=>hkU b hb hn⟩
   have hrow:∀ W' v',Kep (fun b=>b≠mb∧(found F s).ownBlock≠some b) wd W'→Tab 0 mb X' (addP R s ((k:Int),zs)) (fun q=>if q=s then some v' else F q) W'→(∀ g,v'.ownBlock=some g→g<W'.heap.size∧((found F s).ownBlock=some g∨wd.heap.size≤g))→RowsU (Since U w.heap.size W'.heap.size) mb (addP R s ((k:Int),zs)) X' (fun q=>if q=s then some v' else F q) W':=fun W' v' hW ht hg=>by
    have hsz:=hW.size
    have hsz2:=hkd.size
    refine ⟨ht,hF.umb.le (by omega),fun q u g0 h1 h2 => ?_,fun b hb=>(hF.ux b hb).le (by omega)⟩
    by_cases e:q=s
    ·rw [if_pos e] at h1
     obtain rfl:=Option.some.inj h1
     obtain ⟨h3,h4⟩:=hg g0 h2
     rcases h4 with h4 | h4
     ·exact (hfU g0 h4).le (by omega)
     ·exact .inr ⟨by omega,h3⟩
    ·rw [if_neg e] at h1
     exact (hF.uown q u g0 h1 h2).le (by omega)
   have HROW:=Lib.hid hrow
   have HG:=Lib.hid hG
   have HEND:=Lib.hid hend
   have HPD:=Lib.hid hPd
   have HFD:=Lib.hid hfd
   have HR1:=Lib.hid hR1
   have HZD:=Lib.hid hzd
   have HLJ:=Lib.hid hlj
   have HLK:=Lib.hid (fun W' (h:Tab 0 mb X' R F W')=>tlook h s hsl)
   have HTL:=Lib.hid htl2
   have HPL:=Lib.hid hpl
   clear hpk hts hzs hR1 hpl htl2 hF hkd hbt hPd hfd hfw hmbl hUd hzd hG hend hR HF HUJ HK hlj hrow hfU hkU hjl
   go_wp2_with fail
   refine RT.begin_ (T:=fun b=>b≠mb∧(found F s).ownBlock≠some b) (.take 0<|.take 1<|.take 2<|.take 3<|.take 4<|.take 5<|.take 7<|.take 8<|.take 9<|.take 10<|.both 6 11 (.alone 11<|.alone 12<|.alone 13<|.done) (.alone 6<|.alone 12<|.alone 13<|.done)) hmx (by kernel_rfl) rfl (by kernel_rfl) (fun _ _ d _ _ h=>by cases d<;>exact h) ?_
   simp only [RT.ordered,List.getElem?_toArray,List.getElem?_cons_succ,List.getElem?_cons_zero]
   rw [hwd]
   clear hwd
   repeat (refine RT.take (by rfl) (by intro W' hW;obtain ⟨g3,g7⟩:=HG.out W' hW;go_simp;with_reducible rfl) ?_;simp only [Act.put,List.setIfInBounds_toArray,List.set_cons_zero,List.set_cons_succ])
   refine RT.both ?_ ?_
   case' refine_1 =>
    refine RT.step (by rfl) (fun K hK => ?_)
    have hlk:=HLK.out wd HPD.out
    go_simp
    refine hK.out _ _ (Kep.refl _ _) ?_
    clear hK K hlk
    try simp only [Act.put,List.setIfInBounds_toArray,List.set_cons_zero,List.set_cons_succ]
    refine RT.alone (RT.step (by rfl) (fun K hK => ?_))
    go_simp
    refine hK.out _ _ (kep_alloc _ _ _) ?_
    clear hK K
   case' refine_2 =>
    refine RT.step (by rfl) (fun K hK => ?_)
    go_simp
    refine hK.out _ _ (kep_alloc _ _ _) ?_
    clear hK K
    try simp only [Act.put,List.setIfInBounds_toArray,List.set_cons_zero,List.set_cons_succ]
    refine RT.alone (RT.step (by rfl) (fun K hK => ?_))
    have hlk:=HLK.out _ (HPD.out.below ((Below.refl _ _).alloc (Nat.le_refl _) (.cells #[.int .i64 (k:Int),.slice pz zs.length cz] 75)))
    go_simp
    refine hK.out _ _ (Kep.refl _ _) ?_
    clear hK K hlk
   all_goals
    try simp only [Act.put,List.setIfInBounds_toArray,List.set_cons_zero,List.set_cons_succ]
    refine RT.alone (RT.step (by rfl) (fun K hK => ?_))
    have hpl:=HPL.out
    refine wp_append_s postE (S:=X') _ _ rfl (found F s) (posOf R s) wd [.int .i64 (k:Int),.slice pz zs.length cz] ((k:Int),zs) rfl rfl HFD.out.1 (post_on.2 ⟨_,rfl,HZD.out⟩) rfl (by unfold maxLen;omega) (by omega) ?_
    intro v' w3 ho3 hk3 hg3 hk3'
    refine hK.out _ _ (hk3'.mono fun b hb=>hb.2) ?_
    clear hK K
    try simp only [Act.put,List.setIfInBounds_toArray,List.set_cons_zero,List.set_cons_succ]
    refine RT.alone (RT.step (by rfl) (fun K hK => ?_))
    have htl:=HTL.out
    refine wp_mapV_store Tryz.underlying58 _ _ _ rfl mb R.length F rfl (HPD.out.map.kep hk3 fun e=>(HFD.out.2 _ e).2.1 rfl) (by unfold maxLen;omega) s v' rfl rfl hsl ?_
    intro w4 hm4 hk4
    refine hK.out _ _ (hk4.mono fun b hb=>hb.1) ?_
    clear hK K hpl htl
    have hput:=HPD.out.put (Nat.zero_le _) hk3 (more_own HPD.out ho3 hg3) hg3 hm4 hk4
    have hkep:Kep (fun b=>b≠mb∧(found F s).ownBlock≠some b) wd w4:=(hk3.mono fun b hb=>hb.2).trans (hk4.mono fun b hb=>hb.1)
    obtain ⟨n1,n2⟩:=HEND.out w4 hkep
    have hro:=HROW.out w4 v' hkep hput fun g0 h0=>⟨Nat.lt_of_lt_of_le (OwnS.lt ho3 g0 h0).1 hk4.size,hg3 g0 h0⟩
    rw [← HR1.out] at hro
    have HF4:Hid (∃ F,RowsU (Since U w.heap.size w4.heap.size) mb (foldP T (pairK k (E.take (j+1)))) X' F w4):=Lib.hid ⟨_,hro⟩
    have HN1:=Lib.hid n1
    have HN2:=Lib.hid n2
    clear hput hkep n1 n2 hm4 hk4 ho3 hk3 hg3 hk3' hro HROW
    refine RT.done ?_
    go_wp2_with fail
    have hlj:=HLJ.out
    go_roundw
    case rel=>exact ⟨j+1,by omega,by go_num,HF4,HN1,HN2⟩
    case measure=>simp [intOf];omega
  ·obtain rfl:j=E.length:=by omega
   have r1:decide ((E.length:Int)<(E.length:Int))=false:=by simp
   have r2:decide (E.length<E.length)=false:=by simp
   have hf:=HF.out
   rw [List.take_length] at hf
   have HF9:=Lib.hid hf
   clear HF hf hlj
   go_wp2_with fail
   obtain ⟨F,hF⟩:=HF9.out
   refine bodyPost_end (results_none rfl _ _ _) rfl ?_
   exact ⟨rfl,⟨X',F,hF⟩,HK.out⟩
end Go.Proofs.YtidhgicajlaafaaGreat.MX
