import Derived.Test.YtidhgicajlaafaaGreatZD43
import Derived.Test.YtidhgicajlaafaaGreatZD17
import Derived.Test.YtidhgicajlaafaaGreatZD27
import Derived.Test.YtidhgicajlaafaaGreatZD18
set_option maxRecDepth 100000
set_option maxHeartbeats 8000000
set_option linter.unusedVariables false
set_option linter.unusedSimpArgs false
namespace Go.Proofs.YtidhgicajlaafaaGreat.EV
open Go Go.RowKit MM EM
open TK (wordsB wordsB_count numT numT_len numT_at rtokens_any KIn KRow)
def FewN (m:Nat) (T:List Trm):Prop:=T.length≤m∧∀ t∈T,t.1.length≤10000∧t.2.length≤m
theorem FewN.few {m:Nat} {T:List Trm} (h:FewN m T) (hm:m≤100000):Few T:=⟨Nat.le_trans h.1 hm,fun t ht=>⟨(h.2 t ht).1,Nat.le_trans (h.2 t ht).2 hm⟩⟩
theorem FewN.mono {m n:Nat} {T:List Trm} (h:FewN m T) (hm:m≤n):FewN n T:=⟨Nat.le_trans h.1 hm,fun t ht=>⟨(h.2 t ht).1,Nat.le_trans (h.2 t ht).2 hm⟩⟩
theorem mem_add:∀ {l:List Trm} {s:List UInt8} {p:Int} {m:Nat},s.length≤10000→(∀ t∈l,t.1.length≤10000∧t.2.length≤m)→∀ t∈addP l s p,t.1.length≤10000∧t.2.length≤m+1
 | [],s,p,m,hs,_=>by
   intro t ht
   simp only [addP,List.mem_singleton] at ht
   subst ht
   exact ⟨hs,by simp⟩
 | u::r,s,p,m,hs,h=>by
   intro t ht
   have hu:=h u (by simp)
   have hr:∀ v∈r,v.1.length≤10000∧v.2.length≤m:=fun v hv=>h v (by simp [hv])
   rw [addP] at ht
   split at ht
   ·rcases List.mem_cons.1 ht with rfl | ht
    ·exact ⟨hu.1,by omega⟩
    ·exact mem_add hs hr t ht
   ·split at ht
    ·rcases List.mem_cons.1 ht with rfl | ht
     ·exact ⟨hs,by rw [List.length_append];simp;exact hu.2⟩
     ·exact ⟨(hr t ht).1,by have:=(hr t ht).2;omega⟩
    ·rcases List.mem_cons.1 ht with rfl | ht
     ·exact ⟨hs,by simp⟩
     ·exact ⟨(h t ht).1,by have:=(h t ht).2;omega⟩
theorem FewN.add {m:Nat} {T:List Trm} (h:FewN m T) {s:List UInt8} (p:Int) (hs:s.length≤10000):FewN (m+1) (addP T s p) :=
 ⟨by have:=addP_len_le T s p;have:=h.1;omega,mem_add hs h.2⟩
theorem word_few (l:List UInt8):∀ s∈wordsB l,s.length≤32:=fun s hs=>(TK.word_self l s hs).2
theorem baseW_le {fs:List Fld} (hx:∀ f∈fs,f.2.length≤4096):∀ k,k≤fs.length→0≤baseF (fs.take k)∧baseF (fs.take k)≤4160*(k:Int)
 | 0,_=>by simp [baseF]
 | k+1,h=>by
   have hk:k<fs.length:=by omega
   have ih:=baseW_le hx k (by omega)
   have h1:=wordsB_count fs[k].2
   have h2:=hx fs[k] (List.getElem_mem hk)
   rw [baseF_next hk]
   push_cast
   omega
theorem rterms_new (z:Int) (v:Value) (fs:List Fld) (w:World) (hr:RAny fldC w v fs):Calls Tryz.prog 35 #[.agg #[.int .i64 z,v]] w (TermsNew (termsE (z,fs)) w):=by
 obtain ⟨p,cap,rfl,hlc,hcm,_⟩:=hr.shape
 unfold maxLen at hcm
 have hbx:=box_below w z (.slice p fs.length cap)
 have HCK:=Lib.hid (rcheck_any z _ fs _ (hr.below hbx))
 have HBX:=Lib.hid hbx
 clear hbx
 obtain ⟨c,hc⟩:∃ c,checkE (z,fs)=c:=⟨_,rfl⟩
 rw [hc] at HCK
 by_cases h0:c=0
 ·subst h0
  have e0:termsE (z,fs)=termsF fs:=by unfold termsE;rw [if_neg (by simp [hc])]
  rw [e0]
  obtain ⟨h16,hall⟩:=checkE_ok.1 hc
  have hnm:∀ f∈fs,f.1.length≤4096:=fun f hf=>by have:=name_len (hall f hf).1;omega
  have hx:∀ f∈fs,f.2.length≤4096:=fun f hf=>(hall f hf).2
  have HNM:=Lib.hid hnm
  have HX:=Lib.hid hx
  have HR:=Lib.hid hr
  have h16':fs.length≤16:=by simpa using h16
  clear e0 hall hr hc hnm hx h16
  go_enter Tryz.func35,Tryz.ntmps35
  go_wp2_with fail
  refine HCK.out.mono ?_
  rintro e w1 ⟨rfl,hb1⟩
  obtain ⟨c0,c1,hbw⟩:=box_in hb1
  have HBB:=Lib.hid hb1
  have HF0:Hid (FewN (4096*0) (foldP [] (pairsF 0 (fs.take 0)))):=Lib.hid (by simp [FewN,pairsF,foldP])
  have HU0:Hid (RNew w.heap.size w1 (.slice none 0 0) (foldP [] (pairsF 0 (fs.take 0)))):=Lib.hid (ROn.nil_ _ _)
  have HE0:Hid ((0:Int)=baseF (fs.take 0)):=Lib.hid (by simp [baseF])
  clear hb1 hbw HCK
  go_wp2_with fail
  go_loopw [3,4,5] (fun lv ev iv wr=>∃ (i:Nat) (E:Int),i≤fs.length∧ev=.int .i64 E∧iv=.int .i64 i∧0≤E∧E≤100000∧Hid (E=baseF (fs.take i))∧Hid (FewN (4096*i) (foldP [] (pairsF 0 (fs.take i))))∧Hid (RNew w.heap.size wr lv (foldP [] (pairsF 0 (fs.take i))))∧Hid (Below (evBox w z (.slice p fs.length cap)).heap.size (evBox w z (.slice p fs.length cap)) wr)) (fun _ _ iv _=>fs.length - (intOf iv).toNat)
  case atStart=>exact ⟨0,0,by omega,rfl,rfl,by omega,by omega,HE0,HF0,HU0,HBB⟩
  case round =>
   obtain ⟨i,E,hi,rfl,rfl,hE0,hE1,HE,HF,HU,HB⟩:=hrel
   clear HF0 HU0 HE0 HBB c0 c1
   obtain ⟨c0,c1,hbw⟩:=box_in HB.out
   by_cases hlt:i<fs.length
   ·have q1:decide ((i:Int)<(fs.length:Int))=true:=by rw [decide_eq_true_eq];omega
    have q2:decide (i<fs.length)=true:=by rw [decide_eq_true_eq];omega
    obtain ⟨b,off,rfl,hbl,_,d0,d1⟩:=fld_at HR.out hlt
    have HD:=Lib.hid (fun W (hW:Below w.heap.size w W)=>(show W.cell? ⟨b,off+i*2,none⟩=some (.string ⟨fs[i].1.toArray⟩) from (hW.cell (p:=⟨b,off+i*2,none⟩) hbl).trans d0))
    have d3:=(hbw.cell (p:=⟨b,off+i*2+1,none⟩) hbl).trans d1
    have hxi:=HX.out fs[i] (List.getElem_mem hlt)
    have hni:=HNM.out fs[i] (List.getElem_mem hlt)
    have hbn:=baseF_next hlt
    have hpn:=pairsF_next hlt
    have hble:=(baseW_le HX.out (i+1) (by omega)).2
    have hwc:=wordsB_count fs[i].2
    have hwd:=word_few fs[i].2
    have htok:=fun W=>rtokens_any ⟨fs[i].2.toArray⟩ W (by rw [str_sz];omega)
    simp only [str_list] at htok
    rw [← HE.out] at hbn hpn
    have hU:=HU.out
    have hF:=HF.out
    generalize fs[i].1=nm at *
    generalize fs[i].2=tx at *
    generalize wordsB tx=ws at *
    obtain ⟨U,hUU⟩:∃ U,foldP [] (pairsF 0 (fs.take i))=U:=⟨_,rfl⟩
    rw [hUU] at hU hF
    have HNF:Hid (foldP [] (pairsF 0 (fs.take (i+1)))=foldP U (pairsW nm ws E)):=Lib.hid (by rw [hpn,foldP_append,hUU])
    have hE2:E+(ws.length:Int)+64=baseF (fs.take (i+1)):=hbn.symm
    have hE3:E+(ws.length:Int)+64≤100000:=by rw [hE2];push_cast at hble;omega
    have hwl:ws.length≤4096:=by omega
    have HTK:=Lib.hid (htok wr)
    have HE2:=Lib.hid hE2
    have HLT:=Lib.hid hlt
    have HWD:=Lib.hid hwd
    have HUU:=Lib.hid hU
    have HFF:=Lib.hid hF
    clear hbn hpn hble htok hlt d0 d1 hE2 HE hbw hU hF hUU HU HF hwd
    go_wp2_with fail
    refine HTK.out.mono ?_
    rintro e w5 ⟨vt,rfl,hkr,hb5⟩
    obtain ⟨pt,ct,rfl,hct,hcm2⟩:=KIn.shape hkr
    rw [numT_len] at hct hkr ⊢
    unfold maxLen at hcm2
    have HU5:Hid (RNew w.heap.size w5 u3 (foldP U (pairsW nm (ws.take 0) E))):=Lib.hid (HUU.out.below hb5)
    have HF5:Hid (FewN (4096*i+0) (foldP U (pairsW nm (ws.take 0) E))):=Lib.hid HFF.out
    have HB5:=Lib.hid (HB.out.trans (hb5.mono HB.out.size))
    have HK5:=Lib.hid hkr
    clear hkr hb5 HTK HB c0 c1 d3 HUU HFF
    go_wp2_with fail
    go_loopw [3,7] (fun lv kv wk=>∃ k:Nat,k≤ws.length∧kv=.int .i64 k∧Hid (FewN (4096*i+k) (foldP U (pairsW nm (ws.take k) E)))∧Hid (RNew w.heap.size wk lv (foldP U (pairsW nm (ws.take k) E)))∧Hid (Below (evBox w z (.slice (some ⟨b,off,none⟩) fs.length cap)).heap.size (evBox w z (.slice (some ⟨b,off,none⟩) fs.length cap)) wk)∧Hid (KRow wk (.slice pt ws.length ct) (numT ws))) (fun _ kv _=>ws.length - (intOf kv).toNat)
    case atStart=>exact ⟨0,by omega,rfl,HF5,HU5,HB5,HK5⟩
    case round =>
     obtain ⟨k,hk,rfl,HF6,HU6,HB6,HK6⟩:=hrel
     clear HF5 HU5 HB5 HK5
     by_cases hlk:k<ws.length
     ·have r1:decide ((k:Int)<(ws.length:Int))=true:=by rw [decide_eq_true_eq];omega
      have r2:decide (k<ws.length)=true:=by rw [decide_eq_true_eq];omega
      obtain ⟨c0,c1,hbw⟩:=box_in HB6.out
      obtain ⟨g,o,rfl,hgl,t0,t1⟩:=KIn.at_ HK6.out (k:=k) (by rw [numT_len];exact hlk)
      rw [numT_at] at t0 t1
      have hxk:=HWD.out ws[k] (List.getElem_mem hlk)
      have hnx:=pairsW_next nm hlk E
      generalize ws[k]=x at *
      dsimp only at t0 t1
      have d0:=HD.out _ hbw
      have hU:=HU6.out
      have hF:=HF6.out
      have hFn:foldP U (pairsW nm (ws.take (k+1)) E)=addP (foldP U (pairsW nm (ws.take k) E)) (nm++58::x) (E+(k:Int)):=by rw [hnx,foldP_append];rfl
      obtain ⟨V,hV⟩:∃ V,foldP U (pairsW nm (ws.take k) E)=V:=⟨_,rfl⟩
      rw [hV] at hU hF hFn
      have hcat:(⟨nm.toArray⟩:ByteArray)++⟨#[58]⟩++⟨x.toArray⟩=⟨(nm++58::x).toArray⟩:=by
       rw [show (⟨#[58]⟩:ByteArray)=⟨[58].toArray⟩ from rfl,bytes_cat,bytes_cat,List.append_assoc];rfl
      have hx1:(⟨nm.toArray⟩:ByteArray).size≤4096:=by rw [str_sz];exact hni
      have hx2:(⟨x.toArray⟩:ByteArray).size≤32:=by rw [str_sz];exact hxk
      have hsl:(nm++58::x).length≤10000:=by rw [List.length_append,List.length_cons];omega
      have HFN:=Lib.hid hFn
      have HLK:=Lib.hid hlk
      go_wp2_with fail
      refine RG.begin_ [(0,true),(1,true),(2,true),(3,true),(4,true),(5,true),(6,true),(7,true),(8,true),(9,true),(10,true),(11,true),(12,true),(13,true),(14,true),(15,true),(16,true),(17,true),(18,true),(19,true),(20,true),(21,false),(22,true)] (by kernel_rfl) (by kernel_rfl) rfl (by kernel_rfl) (fun _ _ d _ _ h=>by cases d<;>exact h) ?_
      simp only [RG.ordered,List.map_cons,List.map_nil,List.getElem?_toArray,List.getElem?_cons_succ,List.getElem?_cons_zero]
      obtain ⟨wd,hwd⟩:∃ wd,wr.drew=wd:=⟨_,rfl⟩
      have hbd:Below wr.heap.size wr wd:=by rw [← hwd];exact (Below.refl _ _).drew
      have hwl:w.heap.size<wr.heap.size:=by have:=HB6.out.size;rw [box_size] at this;omega
      have hbl2:b<wr.heap.size:=by omega
      have G:=Lib.hid (fun W (hW:Below wd.heap.size wd W)=>(show W.cell? ⟨w.heap.size,1,none⟩=some (.slice (some ⟨b,off,none⟩) fs.length cap)∧W.cell? ⟨b,off+i*2,none⟩=some (.string ⟨nm.toArray⟩)∧W.cell? ⟨g,o+k*2,none⟩=some (.string ⟨x.toArray⟩)∧W.cell? ⟨g,o+k*2+1,none⟩=some (.int .i64 (k:Int)) from
       ⟨((grow hbd hW).cell (p:=⟨w.heap.size,1,none⟩) hwl).trans c1,((grow hbd hW).cell (p:=⟨b,off+i*2,none⟩) hbl2).trans d0,((grow hbd hW).cell (p:=⟨g,o+k*2,none⟩) hgl).trans t0,((grow hbd hW).cell (p:=⟨g,o+k*2+1,none⟩) hgl).trans t1⟩))
      have HWS:Hid (w.heap.size≤wd.heap.size):=Lib.hid (by have:=hbd.size;omega)
      have HCALL:=Lib.hid (radd_on (fun b=>w.heap.size≤b) u3 V (nm++58::x) (E+(k:Int)) wd (hU.below hbd) (hF.few (by omega)) hsl)
      have HFA:=Lib.hid (hF.add (E+(k:Int)) hsl)
      have HBD:=Lib.hid (HB6.out.trans (hbd.mono HB6.out.size))
      have HKD:=Lib.hid (KRow.below HK6.out hbd)
      change RG.walk _ _ _ _ _ wr.drew
      rw [hwd]
      clear hwd hbd hwl hbl2 c0 c1 d0 t0 t1 hgl hU hF hFn hV hbw hlk hnx HF6 HU6 HB6 HK6
      repeat (refine RG.take (by rfl) (by intro W hW;obtain ⟨f1,f2,f3,f4⟩:=G.out W hW;go_simp;first | with_reducible rfl | (rw [if_neg (by omega)]) | (rw [if_pos HLK.out])) ?_;simp only [Act.put,List.setIfInBounds_toArray,List.set_cons_zero,List.set_cons_succ])
      have hwrp:IntKind.i64.wrap (E+(k:Int))=E+(k:Int):=by rw [IntWalk.i64_left];exact IntWalk.wrap64_in _ ⟨by omega,by omega⟩
      try rw [hwrp]
      clear hwrp
      try rw [hcat]
      refine RG.alone (by rfl) (fun K hK => ?_)
      go_simp
      try rw [hcat]
      refine HCALL.out.mono ?_
      rintro e w7 ⟨lw,rfl,hru,hbel⟩
      go_simp
      refine hK.out _ _ hbel ?_
      clear hK K
      have HF8:Hid (FewN (4096*i+(k+1)) (foldP U (pairsW nm (ws.take (k+1)) E))):=Lib.hid (by rw [HFN.out];exact HFA.out)
      have HU8:Hid (RNew w.heap.size w7 lw (foldP U (pairsW nm (ws.take (k+1)) E))):=Lib.hid (by rw [HFN.out];exact RNew.of HWS.out hru)
      have HB8:=Lib.hid (HBD.out.trans (hbel.mono HBD.out.size))
      have HK8:=Lib.hid (KRow.below HKD.out hbel)
      clear hru hbel HCALL HFA HBD HKD HFN hcat
      repeat (refine RG.take (by rfl) (by intro W hW;go_simp;with_reducible rfl) ?_;simp only [Act.put,List.setIfInBounds_toArray,List.set_cons_zero,List.set_cons_succ])
      refine RG.done ?_
      clear G
      go_wp2_with fail
      have hlk:=HLK.out
      go_roundw
      case rel=>exact ⟨k+1,by omega,by go_num,HF8,HU8,HB8,HK8⟩
      case measure=>simp [intOf];omega
     ·obtain rfl:k=ws.length:=by omega
      have r1:decide ((ws.length:Int)<(ws.length:Int))=false:=by simp
      have r2:decide (ws.length<ws.length)=false:=by simp
      have hu:=HU6.out
      have hf:=HF6.out
      rw [List.take_length,← HNF.out] at hu hf
      have HU7:=Lib.hid hu
      have HF7:Hid (FewN (4096*(i+1)) (foldP [] (pairsF 0 (fs.take (i+1))))):=Lib.hid (hf.mono (by omega))
      clear hlk hu hf
      go_wp2_with fail
      have hlt:=HLT.out
      go_roundw
      case rel=>exact ⟨i+1,E+(ws.length:Int)+64,by omega,rfl,by go_num,by omega,by omega,HE2,HF7,HU7,HB6⟩
      case measure=>simp [intOf];omega
   ·obtain rfl:i=fs.length:=by omega
    have q1:decide ((fs.length:Int)<(fs.length:Int))=false:=by simp
    have q2:decide (fs.length<fs.length)=false:=by simp
    have hu:=HU.out
    rw [List.take_length] at hu
    have HU7:=Lib.hid hu
    have HBW9:=Lib.hid hbw
    clear hlt hu hbw c0
    go_wp2_with fail
    go_ret
    exact ⟨_,rfl,HU7.out,HBW9.out⟩
 ·have t1:(c != 0)=true:=by simp [h0]
  have e0:termsE (z,fs)=[]:=by unfold termsE;rw [if_pos (by rw [hc];exact h0)]
  rw [e0]
  clear hc h0 e0 hr
  go_enter Tryz.func35,Tryz.ntmps35
  go_wp2_with fail
  refine HCK.out.mono ?_
  rintro e w1 ⟨rfl,hb1⟩
  have HB1:=Lib.hid (grow HBX.out hb1)
  clear hb1
  go_wp2_with fail
  go_ret
  exact ⟨_,rfl,ROn.nil_ _ _,HB1.out⟩
end Go.Proofs.YtidhgicajlaafaaGreat.EV
