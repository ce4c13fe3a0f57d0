import Derived.Test.YtdfibahafilklaaGreatDoorZC22
set_option maxRecDepth 100000
set_option maxHeartbeats 8000000
set_option linter.unusedVariables false
set_option linter.unusedSimpArgs false
namespace Go.Proofs.YtdfibahafilklaaGreatDoor.DK
open Go.RowKit MM Go.Maps
theorem app_steps (d:DiskD) (n b:List UInt8) (E:Int) (hE:findE (namedL n) d.stopped (findL d.L n).isSome=E) :
  (E≠0→E≠61→appendD d n b=(d,E))∧(E=0∨E=61→(roomE d n b.length≠0→appendD d n b=(d,roomE d n b.length)) ∧
   (roomE d n b.length=0→appendD d n b=if (callD d).2=true then ((callD d).1,63) else ({ (callD d).1 with L:=withL d.L ⟨n,curB d n++b,curS d n⟩ },0))):=by
 subst hE
 have hb:(b.length≠0)↔b≠[]:=by simp
 have hL:=(call_L d).1
 unfold appendD findE roomE
 rw [hL]
 cases hn:namedL n
 ·simp
 cases hs:d.stopped
 ·cases hf:findL d.L n with
  | none =>
    by_cases h1:1024≤d.L.length
    ·simp [h1]
    ·by_cases h2:67108864<b.length
     ·simp [h1,h2,curB,hf]
     ·by_cases h3:0<d.quota∧b≠[]∧d.quota<(usedL d.L:Int)+b.length
      ·simp [h1,h2,h3,curB,curS,hf]
      ·have h3':¬ (0<d.quota∧¬ b=[]∧d.quota<(usedL d.L:Int)+b.length):=h3
       simp [h1,h2,h3',curB,curS,hf]
  | some f =>
    by_cases h2:67108864<f.b.length+b.length
    ·simp [h2,curB,hf]
    ·by_cases h3:0<d.quota∧b≠[]∧d.quota<(usedL d.L:Int)+b.length
     ·simp [h2,h3,curB,curS,hf]
     ·have h3':¬ (0<d.quota∧¬ b=[]∧d.quota<(usedL d.L:Int)+b.length):=h3
      simp [h2,h3',curB,curS,hf]
 ·simp
theorem bin_kep {T:Nat→Prop} {B:Nat} {w w':World} {v:Value} {l:List UInt8} (h:BIn B w v l) (hk:Kep T w w') (hT:∀ k,(∃ i x,w.cell? ⟨k,i,none⟩=some (.int .u8 x))→T k):BIn B w' v l:=by
 obtain ⟨p,cap,hv,h1,h2,h3,h⟩:=h
 refine ⟨p,cap,hv,h1,h2,h3,?_⟩
 rcases h with h | ⟨b,off,hp,hlt,hc⟩
 ·exact .inl h
 ·refine .inr ⟨b,off,hp,hlt,fun i u hi => ?_⟩
  have hcu:=hc i u hi
  obtain ⟨x,hx⟩:∃ x,u=.int .u8 x:=by
   obtain ⟨y,_,rfl⟩:=List.mem_map.1 (List.mem_of_getElem? hi)
   exact ⟨_,rfl⟩
  have hb:b<w.heap.size:=by
   rcases Nat.lt_or_ge b w.heap.size with h | h
   ·exact h
   ·have:w.cell? ⟨b,off+i,none⟩=none:=by simp [World.cell?,Array.getElem?_eq_none h]
    rw [this] at hcu
    cases hcu
  rw [hk.cell hb (hT b ⟨off+i,x,by rw [← hx];exact hcu⟩)]
  exact hcu
theorem CObj.noByte {S:Nat→Prop} {w:World} {g mb:Nat} {V:List UInt8→Value} {c:Int} {d:DiskD} (h:CObj S w g mb V c d):∀ i x,w.cell? ⟨g,i,none⟩≠some (.int .u8 x):=fun i x e=>by
 rw [cell_of_row w g i _ _ _ h.obj] at e
 match i with
 | 0=>simp at e
 | 1=>simp at e
 | 2=>simp at e
 | 3=>simp at e
 | i+4=>simp at e
theorem cappend_any (S:Nat→Prop) (g mb:Nat) (V:List UInt8→Value) (c:Int) (d:DiskD) (n:List UInt8) (vb:Value) (b:List UInt8) (w:World) (h:CObj S w g mb V c d) (hF:Fits d) (hu:usedL d.L≤1000000000000000) (hn:n.length≤1000000000000) (hb:BRow w vb b) (hbl:b.length≤100000000000) :
  Calls Tryz.prog 28 #[.pointer (some ⟨g,0,none⟩),.string ⟨n.toArray⟩,vb] w (DoneC g mb (appendD d n b) S w):=by
 have hfind:=cfind_any S 0 g mb V c d (.slice none 0 0) [] n w h (Nat.zero_le _) hn (SIn.nil_ _ _) (by simp) (by simp)
 rw [ok_one] at hfind
 obtain ⟨E,hE⟩:∃ E,findE (namedL n) d.stopped (findL d.L n).isSome=E:=⟨_,rfl⟩
 obtain ⟨s1,s2⟩:=app_steps d n b E hE
 unfold FindC at hfind
 rw [hE] at hfind
 obtain ⟨pb,capb,rfl,_,_⟩:=hb.shape
 obtain ⟨R,hR⟩:∃ R,appendD d n b=R:=⟨_,rfl⟩
 rw [hR] at s1 s2 ⊢
 obtain ⟨p,cap,hv,_,_⟩:=own_slice (cur_own h.tab n)
 have hz:E≠0→E=61→curV d V n=.slice none 0 0∧(curS d n:Int)=0:=fun h0 h1=>by
  subst h1
  have:(findL d.L n).isSome=false:=by
   unfold findE at hE
   cases h1:namedL n<;>cases h2:d.stopped<;>cases h3:(findL d.L n).isSome<;>simp [h1,h2,h3] at hE ⊢
  unfold curV curS
  cases hf:findL d.L n with
  | none=>simp
  | some f=>rw [hf] at this;cases this
 have HZ:=Lib.hid hz
 have HE:=Lib.hid hE
 have HV:=Lib.hid hv
 have HFI:=Lib.hid hfind
 have HS1:=Lib.hid s1
 have HS2:=Lib.hid s2
 have HH:=Lib.hid h
 have HFT:=Lib.hid hF
 have HU:=Lib.hid hu
 have HN:=Lib.hid hn
 have HBB:=Lib.hid hb
 have hmg:g≠mb:=h.gm
 obtain ⟨sn,hsn⟩:∃ s,(curS d n:Int)=s:=⟨_,rfl⟩
 have HSN:=Lib.hid hsn
 rw [hsn,hv] at HFI
 clear hfind s1 s2 hE hR hv hz h hF hu hn hb hsn
 go_enter Tryz.func28,Tryz.ntmps28
 go_wp2_with fail
 refine HFI.out.mono ?_
 rintro e W1 ⟨rfl,hb1⟩
 have HB1:=Lib.hid hb1
 clear hb1 HFI
 have hba:∀ o,Below W1.heap.size W1 (W1.alloc o):=fun o=>(Below.refl _ _).alloc (Nat.le_refl _) _
 by_cases hno:E≠0∧E≠61
 ·obtain ⟨h0,h1⟩:=hno
  obtain rfl:=HS1.out h0 h1
  have t1:(E == 0)=false:=by rw [beq_eq_false_iff_ne];exact h0
  have t2:(E == 61)=false:=by rw [beq_eq_false_iff_ne];exact h1
  rw [if_neg h0]
  have HF:=Lib.hid (show ∀ o,∃ S' V' c',CObj S' (W1.alloc o) g mb V' c' d∧Ext S S' w (W1.alloc o) from fun o=>⟨S,V,c,(HH.out.below HB1.out).below (hba o),Ext.refl_ ((kep_below _ HB1.out).trans (kep_below _ (hba o)))⟩)
  clear h0 h1 hba
  go_wp2_with fail
  go_ret
  exact ⟨rfl,HF.out _⟩
 ·obtain ⟨x1,x2⟩:=HS2.out (by omega)
  obtain ⟨ER,hER⟩:∃ E,roomE d n b.length=E:=⟨_,rfl⟩
  have HROOM:=Lib.hid (fun W (hW:CObj S W g mb V c d)=>room_any S g mb V c d n b.length W hW HFT.out HU.out HN.out (by omega))
  rw [hER] at x1 x2 HROOM
  have hval:(if E=0 then Value.agg #[.slice p (curB d n).length cap,.int .i64 sn] else .agg #[.slice none 0 0,.int .i64 0])=.agg #[.slice p (curB d n).length cap,.int .i64 sn]:=by
   by_cases h0:E=0
   ·rw [if_pos h0]
   ·rw [if_neg h0]
    obtain ⟨z1,z2⟩:=HZ.out h0 (by omega)
    rw [HV.out] at z1
    rw [HSN.out] at z2
    rw [z1,z2]
  rw [hval]
  have tE:((E == 0)||(E == 61))=true:=by
   rw [Bool.or_eq_true,beq_iff_eq,beq_iff_eq]
   omega
  have HX1:=Lib.hid x1
  have HX2:=Lib.hid x2
  obtain ⟨W2,hW2⟩:∃ W,W1.alloc (.cells #[.slice p (curB d n).length cap,.int .i64 sn] 127)=W:=⟨_,rfl⟩
  have hf2:FV W2 W1.heap.size (.slice p (curB d n).length cap) sn:=by rw [← hW2];exact fv_new W1 _ _
  have hb2:Below W1.heap.size W1 W2:=by rw [← hW2];exact hba _
  have HB2:=Lib.hid (HB1.out.trans (hb2.mono HB1.out.size))
  have HF2:=Lib.hid hf2
  have HO2:=Lib.hid ((HH.out.below HB1.out).below hb2)
  have HW2:=Lib.hid hW2
  have HS:=Lib.hid HB1.out.size
  clear x1 x2 hER hval hba hb2 hf2 hW2
  obtain rfl | h61:E=0∨E=61:=by omega
  case' inr =>
   subst h61
  all_goals (
   clear hno tE
   go_wp2_with fail
   rw [HW2.out]
   refine (HROOM.out W2 HO2.out).mono ?_
   rintro e W3 ⟨rfl,hb3⟩
   have HB3:=Lib.hid (HB2.out.trans (hb3.mono HB2.out.size))
   have HF3:=Lib.hid (HF2.out.below hb3 HF2.out.lt)
   have HO3:=Lib.hid (HO2.out.below hb3)
   clear hb3 HROOM
   by_cases hr0:ER=0
   ·subst hr0
    have hx2:=HX2.out rfl
    have hst:d.stopped=false:=by
     have hE:=HE.out
     unfold findE at hE
     cases h1:namedL n<;>cases h2:d.stopped<;>cases h3:(findL d.L n).isSome<;>simp [h1,h2,h3] at hE ⊢
    obtain ⟨cb,hcb⟩:∃ cb,(callD d).2=cb:=⟨_,rfl⟩
    have hcount:=count_any S g mb V c d W3 HO3.out hst
    unfold CountLeft at hcount
    rw [hcb] at hx2 hcount
    have HX3:=Lib.hid hx2
    have HCO:=Lib.hid hcount
    clear hx2 hcount HX1 HX2 hst hcb
    cases cb with
    | true =>
      have hx3:=HX3.out
      rw [if_pos rfl] at hx3
      subst hx3
      go_wp2_with fail
      refine HCO.out.mono ?_
      rintro e W4 ⟨rfl,hobj,hk,hsz⟩
      have HF:=Lib.hid (show ∃ S' V' c',CObj S' W4 g mb V' c' (callD d).1∧Ext S S' w W4 from ⟨S,V,countC c,hobj,Ext.refl_ ((kep_below _ HB3.out).trans (kep_not HH.out.gS hk))⟩)
      clear hobj hk hsz
      go_wp2_with fail
      go_ret
      exact ⟨rfl,HF.out⟩
    | false =>
      have hx3:=HX3.out
      rw [if_neg Bool.false_ne_true] at hx3
      have HX4:=Lib.hid hx3
      clear hx3 HX3
      go_wp2_with fail
      refine HCO.out.mono ?_
      rintro e W4 ⟨rfl,hobj,hk,hsz⟩
      have HO4:=Lib.hid hobj
      have HK4:=Lib.hid hk
      have HBB4:=Lib.hid (show BRow W4 (.slice pb b.length capb) b from (bin_kep (BRow.below HBB.out HB3.out) hk fun k ⟨i,x,h⟩ e=>HO3.out.noByte i x (by rw [← e];exact h)).mono hk.size)
      have hcl:(curB d n).length≤67108864:=by
       unfold curB
       cases hf:findL d.L n with
       | none=>simp
       | some f=>exact HFT.out.bytes f (find_mem hf).1
      have hgl:=HO3.out.glt
      have hlt2:=HF3.out.lt
      have hgl2:=HO4.out.glt
      have HF4:=Lib.hid (HF3.out.kep hk (show W1.heap.size≠g by have:=HH.out.glt;have:=HS.out;omega))
      clear hobj hk hsz HCO
      have hrow4:=fun (W:World) (h:CObj S W g mb V (countC c) (callD d).1)=>(show OwnB 0 W (.slice p (curB d n).length cap) (curB d n) by
       have ht:=h.tab
       rw [(call_L d).1] at ht
       have:=cur_own ht n
       rw [HV.out] at this
       exact this)
      have HROW:=Lib.hid hrow4
      have howns:∀ k,(Value.slice p (curB d n).length cap).ownBlock=some k→k≠g∧k≠mb∧k<w.heap.size:=fun k hk=>by
       obtain ⟨k1,k2⟩:=HO4.out.row (hrow4 W4 HO4.out) hk
       refine ⟨k1,k2,?_⟩
       have ho:=cur_own HH.out.tab n
       rw [HV.out] at ho
       exact (World.ownsRow.lt ho k hk).2
      have HOW:=Lib.hid howns
      have hs1:=HS.out
      have hmlt:=HH.out.mlt
      have hgl0:=HH.out.glt
      clear hrow4 howns
      go_wp2_with fail
      refine RK.begin_ (T:=fun k=>k≠mb∧(Value.slice p (curB d n).length cap).ownBlock≠some k) [(0,true),(1,true),(2,true),(3,true),(4,true),(5,true),(6,true),(7,false),(8,false)] (by kernel_rfl) (by kernel_rfl) rfl (by kernel_rfl) (fun _ _ d _ _ h=>by cases d<;>exact h) ?_
      simp only [RK.ordered,List.map_cons,List.map_nil,List.getElem?_toArray,List.getElem?_cons_succ,List.getElem?_cons_zero]
      obtain ⟨wd,hwd⟩:∃ wd,W4.drew=wd:=⟨_,rfl⟩
      have hbd:Below W4.heap.size W4 wd:=by rw [← hwd];exact (Below.refl _ _).drew
      have HOD:=Lib.hid (HO4.out.below hbd)
      have HFD:=Lib.hid (HF4.out.below hbd HF4.out.lt)
      have HBD:=Lib.hid hbd
      rw [hwd]
      clear hwd hbd HW2
      have g0:=fun W (hW:Kep (fun k=>k≠mb∧(Value.slice p (curB d n).length cap).ownBlock≠some k) wd W)=>(show W.cell? ⟨g,0,none⟩=some (.map (some mb)) by rw [hW.cell HOD.out.glt ⟨hmg,fun e=>(HOW.out g e).1 rfl⟩];exact HOD.out.g0)
      have hne:W1.heap.size≠mb∧(Value.slice p (curB d n).length cap).ownBlock≠some W1.heap.size:=⟨by omega,fun e=>by have:=(HOW.out _ e).2.2;omega⟩
      have f0:=fun W (hW:Kep (fun k=>k≠mb∧(Value.slice p (curB d n).length cap).ownBlock≠some k) wd W)=>(HFD.out.kep hW hne).f0
      have f1:=fun W (hW:Kep (fun k=>k≠mb∧(Value.slice p (curB d n).length cap).ownBlock≠some k) wd W)=>(HFD.out.kep hW hne).f1
      repeat (refine RK.take (by rfl) (by intro W hW;go_simp;with_reducible rfl) ?_;simp only [Act.put,List.setIfInBounds_toArray,List.set_cons_zero,List.set_cons_succ])
      refine RK.alone (by rfl) (fun K hK => ?_)
      go_simp
      have hkb:Kep (fun k=>k≠g) w wd:=((kep_below _ HB3.out).trans HK4.out).trans (kep_below _ HBD.out)
      have hbb:BRow wd (.slice pb b.length capb) b:=BRow.below HBB4.out HBD.out
      refine (longer_any (.slice p (curB d n).length cap) (.slice pb b.length capb) (curB d n) b sn wd (HROW.out _ HOD.out) hbb (by omega)).mono ?_
      rintro e W5 ⟨v5,rfl,hown5,hk5,hlies5⟩
      go_simp
      refine hK.out _ _ (hk5.mono fun k h=>h.2) ?_
      clear hK K g0 f0 f1
      have HOWN5:=Lib.hid hown5
      have HK5:=Lib.hid hk5
      have HL5:=Lib.hid hlies5
      have hdl:(callD d).1.L=d.L:=(call_L d).1
      have hft:=HFT.out
      have htd:Tab S wd mb V d.L:=by have:=HOD.out.tab;rw [hdl] at this;exact this
      have hm5:MapV W5 mb d.L.length (tabF d.L V):=htd.map.kep hk5 (fun e=>(HOW.out mb e).2.1 rfl)
      refine RK.alone (by rfl) (fun K hK => ?_)
      refine wp_mapV_store _ _ _ rfl mb _ _ rfl hm5 (by have:=hft.len;unfold maxLen;omega) n _ rfl rfl (by have:=HN.out;unfold maxLen;omega) ?_
      intro W6 hm6 hk6
      refine hK.out _ _ (hk6.mono fun k h=>h.1) ?_
      clear hK K
      refine RK.done ?_
      have hnv:∀ f,findL d.L n=some f→V n=.slice p (curB d n).length cap:=fun f hf=>by
       rw [← HV.out]
       unfold curV
       rw [hf]
       rfl
      have hv5:∀ k,v5.ownBlock=some k→k≠mb∧k<W5.heap.size:=fun k hk=>by
       refine ⟨fun e => ?_,(World.ownsRow.lt hown5 k hk).2⟩
       rcases hlies5 k hk with h | h
       ·exact (HOW.out k h).2.1 e
       ·have:=HOD.out.mlt
        omega
      have hrows:∀ x∈d.L,∀ k,(V x.name).ownBlock=some k→k≠mb:=fun x hx k hk=>(HOD.out.row (htd.own x hx) hk).2
      have hs5:=hk5.size
      have hs6:=hk6.size
      have hsd:w.heap.size≤wd.heap.size:=Nat.le_trans HB3.out.size (Nat.le_trans HK4.out.size HBD.out.size)
      have hin:∀ k,(Value.slice p (curB d n).length cap).ownBlock=some k→S k:=fun k hk=>by
       cases hf:findL d.L n with
       | none =>
         have hcv:curV d V n=.slice none 0 0:=by unfold curV;rw [hf];rfl
         rw [HV.out] at hcv
         rw [hcv] at hk
         cases hk
       | some f=>exact htd.inS f (find_mem hf).1 k (by rw [(find_mem hf).2,hnv f hf];exact hk)
      have ht6:Tab (fun k=>S k∨v5.ownBlock=some k) W6 mb (fun k=>if k=n then v5 else V k) (withL d.L ⟨n,curB d n++b,curS d n⟩):=by
       refine Tab.put hft.good.rise htd n ⟨n,curB d n++b,curS d n⟩ v5 rfl ?_ ?_ (OwnB.kepB hown5 hk6 fun k hk=>(hv5 k hk).1) ?_ (fun _ h=>.inl h) HOD.out.lt hrows
       ·refine Kep.trans (hk5.mono fun k h => ?_) (hk6.mono fun k h=>h.1)
        intro e
        cases hf:findL d.L n with
        | none =>
          have hcv:curV d V n=.slice none 0 0:=by unfold curV;rw [hf];rfl
          rw [HV.out] at hcv
          rw [hcv] at e
          cases e
        | some f=>exact h.2 f hf (by rw [hnv f hf];exact e)
       ·rw [show fileCV v5 (curS d n)=.agg #[v5,.int .i64 sn] by unfold fileCV;rw [HSN.out]]
        exact hm6
       ·intro k hk
        rcases hlies5 k hk with h | h
        ·cases hf:findL d.L n with
         | none =>
           have hcv:curV d V n=.slice none 0 0:=by unfold curV;rw [hf];rfl
           rw [HV.out] at hcv
           rw [hcv] at h
           cases h
         | some f=>exact .inl ⟨f,rfl,by rw [hnv f hf];exact h⟩
        ·exact .inr ⟨h,.inr hk⟩
      have hres:=HOD.out.retab (T:=fun k=>S k∨v5.ownBlock=some k) (U:=fun k=>k≠mb∧(Value.slice p (curB d n).length cap).ownBlock≠some k) (Kep.trans (hk5.mono fun k h=>h.2) (hk6.mono fun k h=>h.1)) ⟨hmg,fun e=>(HOW.out g e).1 rfl⟩ ht6 (fun _ h=>.inl h)
       (fun k hS=>by
        rcases hS with h | h
        ·have:=HOD.out.lt k h
         omega
        ·have:=(hv5 k h).2
         omega)
      have hdone:∃ S' V' c',CObj S' W6 g mb V' c' { (callD d).1 with L:=withL d.L ⟨n,curB d n++b,curS d n⟩ }∧Ext S S' w W6:=by
       refine ⟨_,_,_,hres,⟨fun _ h=>.inl h,fun k h=>h.elim .inl fun h=>(hlies5 k h).elim (fun h=>.inl (hin k h)) fun h=>.inr (by omega),?_⟩⟩
       exact (((kep_below _ HB3.out).trans (kep_not HH.out.gS HK4.out)).trans (kep_below _ HBD.out)).trans ((hk5.mono fun k h e=>h (hin k e)).trans (kep_not HH.out.tab.mS hk6))
      have HDONE:=Lib.hid hdone
      have hx4:=HX4.out
      clear hdone hres ht6 hrows hv5 hnv hm6 hk6 hm5 htd hft hdl hown5 hk5 hlies5 hin hs5 hs6 hsd
      subst hx4
      go_wp2_with fail
      go_ret
      exact ⟨rfl,HDONE.out⟩
   ·have t3:(ER == 0)=false:=by rw [beq_eq_false_iff_ne];exact hr0
    obtain rfl:=HX1.out hr0
    have HF:=Lib.hid (show ∃ S' V' c',CObj S' W3 g mb V' c' d∧Ext S S' w W3 from ⟨S,V,c,HO3.out,Ext.refl_ (kep_below _ HB3.out)⟩)
    clear hr0
    go_wp2_with fail
    go_ret
    exact ⟨rfl,HF.out⟩)
end Go.Proofs.YtdfibahafilklaaGreatDoor.DK
