import Derived.Test.YtidhgicajlaafaaGreatZC23
import Derived.Test.YtidhgicajlaafaaGreatZC24
import Derived.Test.YtidhgicajlaafaaGreatZC20
import Derived.Test.YtidhgicajlaafaaGreatZC21
import Derived.Test.YtidhgicajlaafaaGreatZC25
set_option maxRecDepth 100000
set_option maxHeartbeats 8000000
set_option linter.unusedVariables false
set_option linter.unusedSimpArgs false
namespace Go.Proofs.YtidhgicajlaafaaGreat.EV
open Go Go.RowKit MM EM
open TK (wordsB wordsB_count numT numT_len numT_at rtokens_any KIn KRow)
def FewN (m:Nat) (T:List Trm):Prop:=T.length≤m∧∀ t∈T,t.1.length≤10000∧t.2.length≤m
theorem FewN.few {m:Nat} {T:List Trm} (h:FewN m T) (hm:m≤100000):Few T:=⟨Nat.le_trans h.1 hm,fun t ht=>⟨(h.2 t ht).1,Nat.le_trans (h.2 t ht).2 hm⟩⟩
theorem FewN.mono {m n:Nat} {T:List Trm} (h:FewN m T) (hm:m≤n):FewN n T:=⟨Nat.le_trans h.1 hm,fun t ht=>⟨(h.2 t ht).1,Nat.le_trans (h.2 t ht).2 hm⟩⟩
theorem mem_add:∀ {l:List Trm} {s:List UInt8} {p:Int} {m:Nat},s.length≤10000→(∀ t∈l,t.1.length≤10000∧t.2.length≤m)→∀ t∈addP l s p,t.1.length≤10000∧t.2.length≤m+1
 | [],s,p,m,hs,_=>by
   intro t ht
   simp only [addP,List.mem_singleton] at ht
   subst ht
   exact ⟨hs,by simp⟩
 | u::r,s,p,m,hs,h=>by
   intro t ht
   have hu:=h u (by simp)
   have hr:∀ v∈r,v.1.length≤10000∧v.2.length≤m:=fun v hv=>h v (by simp [hv])
   rw [addP] at ht
   split at ht
   ·rcases List.mem_cons.1 ht with rfl | ht
    ·exact ⟨hu.1,by omega⟩
    ·exact mem_add hs hr t ht
   ·split at ht
    ·rcases List.mem_cons.1 ht with rfl | ht
     ·exact ⟨hs,by rw [List.length_append];simp;exact hu.2⟩
     ·exact ⟨(hr t ht).1,by have:=(hr t ht).2;omega⟩
    ·rcases List.mem_cons.1 ht with rfl | ht
     ·exact ⟨hs,by simp⟩
     ·exact ⟨(h t ht).1,by have:=(h t ht).2;omega⟩
theorem FewN.add {m:Nat} {T:List Trm} (h:FewN m T) {s:List UInt8} (p:Int) (hs:s.length≤10000):FewN (m+1) (addP T s p) :=
 ⟨by have:=addP_len_le T s p;have:=h.1;omega,mem_add hs h.2⟩
theorem word_few (l:List UInt8):∀ s∈wordsB l,s.length≤32:=fun s hs=>(TK.word_self l s hs).2
theorem baseW_le {fs:List Fld} (hx:∀ f∈fs,f.2.length≤4096):∀ k,k≤fs.length→0≤baseF (fs.take k)∧baseF (fs.take k)≤4160*(k:Int)
 | 0,_=>by simp [baseF]
 | k+1,h=>by
   have hk:k<fs.length:=by omega
   have ih:=baseW_le hx k (by omega)
   have h1:=wordsB_count fs[k].2
   have h2:=hx fs[k] (List.getElem_mem hk)
   rw [baseF_next hk]
   push_cast
   omega
theorem rterms_new (z:Int) (v:Value) (fs:List Fld) (w:World) (hr:RAny fldC w v fs):Calls Tryz.prog 35 #[.agg #[.int .i64 z,v]] w (TermsNew (termsE (z,fs)) w):=by
 obtain ⟨p,cap,rfl,hlc,hcm,_⟩:=hr.shape
 unfold maxLen at hcm
 have hbx:=box_below w z (.slice p fs.length cap)
 have HCK:=Lib.hid (rcheck_any z _ fs _ (hr.below hbx))
 have HBX:=Lib.hid hbx
 clear hbx
 obtain ⟨c,hc⟩:∃ c,checkE (z,fs)=c:=⟨_,rfl⟩
 rw [hc] at HCK
 by_cases h0:c=0
 ·subst h0
  have e0:termsE (z,fs)=termsF fs:=by unfold termsE;rw [if_neg (by simp [hc])]
  rw [e0]
  obtain ⟨h16,hall⟩:=checkE_ok.1 hc
  have hnm:∀ f∈fs,f.1.length≤4096:=fun f hf=>by have:=name_len (hall f hf).1;omega
  have hx:∀ f∈fs,f.2.length≤4096:=fun f hf=>(hall f hf).2
  have HNM:=Lib.hid hnm
  have HX:=Lib.hid hx
  have HR:=Lib.hid hr
  have h16':fs.length≤16:=by simpa using h16
  clear e0 hall hr hc hnm hx h16
  go_enter Tryz.func35,Tryz.ntmps35
  go_wp2_with fail
  refine HCK.out.mono ?_
  rintro e w1 ⟨rfl,hb1⟩
  obtain ⟨c0,c1,hbw⟩:=box_in hb1
  have HBB:=Lib.hid hb1
  have HF0:Hid (FewN (4096*0) (foldP [] (pairsF 0 (fs.take 0)))):=Lib.hid (by simp [FewN,pairsF,foldP])
  have HU0:Hid (RNew w.heap.size w1 (.slice none 0 0) (foldP [] (pairsF 0 (fs.take 0)))):=Lib.hid (ROn.nil_ _ _)
  have HE0:Hid ((0:Int)=baseF (fs.take 0)):=Lib.hid (by simp [baseF])
  clear hb1 hbw HCK
  go_wp2_with fail
  go_loopw [3,4,5] (fun lv ev iv wr=>∃ (i:Nat) (E:Int),i≤fs.length∧ev=.int .i64 E∧iv=.int .i64 i∧0≤E∧E≤100000∧Hid (E=baseF (fs.take i))∧Hid (FewN (4096*i) (foldP [] (pairsF 0 (fs.take i))))∧Hid (RNew w.heap.size wr lv (foldP [] (pairsF 0 (fs.take i))))∧Hid (Below (evBox w z (.slice p fs.length cap)).heap.size (evBox w z (.slice p fs.length cap)) wr)) (fun _ _ iv _=>fs.length - (intOf iv).toNat)
  case atStart=>exact ⟨0,0,by omega,rfl,rfl,by omega,by omega,HE0,HF0,HU0,HBB⟩
  case round =>
   obtain ⟨i,E,hi,rfl,rfl,hE0,hE1,HE,HF,HU,HB⟩:=hrel
   clear HF0 HU0 HE0 HBB c0 c1
   obtain ⟨c0,c1,hbw⟩:=box_in HB.out
   by_cases hlt:i<fs.length
   ·have q1:decide ((i:Int)<(fs.length:Int))=true:=by rw [decide_eq_true_eq];omega
    have q2:decide (i<fs.length)=true:=by rw [decide_eq_true_eq];omega
    obtain ⟨b,off,rfl,hbl,_,d0,d1⟩:=fld_at HR.out hlt
    have HD:=Lib.hid (fun W (hW:Below w.heap.size w W)=>(show W.cell? ⟨b,off+i*2,none⟩=some (.string ⟨fs[i].1.toArray⟩) from (hW.cell (p:=⟨b,off+i*2,none⟩) hbl).trans d0))
    have d3:=(hbw.cell (p:=⟨b,off+i*2+1,none⟩) hbl).trans d1
    have hxi:=HX.out fs[i] (List.getElem_mem hlt)
    have hni:=HNM.out fs[i] (List.getElem_mem hlt)
    have hbn:=baseF_next hlt
    have hpn:=pairsF_next hlt
    have hble:=(baseW_le HX.out (i+1) (by omega)).2
    have hwc:=wordsB_count fs[i].2
    have hwd:=word_few fs[i].2
    have htok:=fun W=>rtokens_any ⟨fs[i].2.toArray⟩ W (by rw [str_sz];omega)
    simp only [str_list] at htok
    rw [← HE.out] at hbn hpn
    have hU:=HU.out
    have hF:=HF.out
    generalize fs[i].1=nm at *
    generalize fs[i].2=tx at *
    generalize wordsB tx=ws at *
    obtain ⟨U,hUU⟩:∃ U,foldP [] (pairsF 0 (fs.take i))=U:=⟨_,rfl⟩
    rw [hUU] at hU hF
    have HNF:Hid (foldP [] (pairsF 0 (fs.take (i+1)))=foldP U (pairsW nm ws E)):=Lib.hid (by rw [hpn,foldP_append,hUU])
    have hE2:E+(ws.length:Int)+64=baseF (fs.take (i+1)):=hbn.symm
    have hE3:E+(ws.length:Int)+64≤100000:=by rw [hE2];push_cast at hble;omega
    have hwl:ws.length≤4096:=by omega
    have HTK:=Lib.hid (htok wr)
    have HE2:=Lib.hid hE2
    have HLT:=Lib.hid hlt
    have HWD:=Lib.hid hwd
    have HUU:=Lib.hid hU
    have HFF:=Lib.hid hF
    clear hbn hpn hble htok hlt d0 d1 hE2 HE hbw hU hF hUU HU HF hwd
    go_wp2_with fail
    refine HTK.out.mono ?_
    rintro e w5 ⟨vt,rfl,hkr,hb5⟩
    obtain ⟨pt,ct,rfl,hct,hcm2⟩:=KIn.shape hkr
    rw [numT_len] at hct hkr ⊢
    unfold maxLen at hcm2
    have HU5:Hid (RNew w.heap.size w5 u3 (foldP U (pairsW nm (ws.take 0) E))):=Lib.hid (HUU.out.below hb5)
    have HF5:Hid (FewN (4096*i+0) (foldP U (pairsW nm (ws.take 0) E))):=Lib.hid HFF.out
    have HB5:=Lib.hid (HB.out.trans (hb5.mono HB.out.size))
    have HK5:=Lib.hid hkr
    clear hkr hb5 HTK HB c0 c1 d3 HUU HFF
    go_wp2_with fail
    go_loopw [3,7] (fun lv kv wk=>∃ k:Nat,k≤ws.length∧kv=.int .i64 k∧Hid (FewN (4096*i+k) (foldP U (pairsW nm (ws.take k) E)))∧Hid (RNew w.heap.size wk lv (foldP U (pairsW nm (ws.take k) E)))∧Hid (Below (evBox w z (.slice (some ⟨b,off,none⟩) fs.length cap)).heap.size (evBox w z (.slice (some ⟨b,off,none⟩) fs.length cap)) wk)∧Hid (KRow wk (.slice pt ws.length ct) (numT ws))) (fun _ kv _=>ws.length - (intOf kv).toNat)
    case atStart=>exact ⟨0,by omega,rfl,HF5,HU5,HB5,HK5⟩
    case round =>
     obtain ⟨k,hk,rfl,HF6,HU6,HB6,HK6⟩:=hrel
     clear HF5 HU5 HB5 HK5
     by_cases hlk:k<ws.length
     ·have r1:decide ((k:Int)<(ws.length:Int))=true:=by rw [decide_eq_true_eq];omega
      have r2:decide (k<ws.length)=true:=by rw [decide_eq_true_eq];omega
      obtain ⟨c0,c1,hbw⟩:=box_in HB6.out
      obtain ⟨g,o,rfl,hgl,t0,t1⟩:=KIn.at_ HK6.out (k:=k) (by rw [numT_len];exact hlk)
      rw [numT_at] at t0 t1
      have hxk:=HWD.out ws[k] (List.getElem_mem hlk)
      have hnx:=pairsW_next nm hlk E
      generalize ws[k]=x at *
      dsimp only at t0 t1
      have d0:=HD.out _ hbw
      have hU:=HU6.out
      have hF:=HF6.out
      have hFn:foldP U (pairsW nm (ws.take (k+1)) E)=addP (foldP U (pairsW nm (ws.take k) E)) (nm++58::x) (E+(k:Int)):=by rw [hnx,foldP_append];rfl
      obtain ⟨V,hV⟩:∃ V,foldP U (pairsW nm (ws.take k) E)=V:=⟨_,rfl⟩
      rw [hV] at hU hF hFn
      have hcat:(⟨nm.toArray⟩:ByteArray)++⟨#[58]⟩++⟨x.toArray⟩=⟨(nm++58::x).toArray⟩:=by
       rw [show (⟨#[58]⟩:ByteArray)=⟨[58].toArray⟩ from rfl,bytes_cat,bytes_cat,List.append_assoc];rfl
      have hx1:(⟨nm.toArray⟩:ByteArray).size≤4096:=by rw [str_sz];exact hni
      have hx2:(⟨x.toArray⟩:ByteArray).size≤32:=by rw [str_sz];exact hxk
      have hsl:(nm++58::x).length≤10000:=by rw [List.length_append,List.length_cons];omega
      have HFN:=Lib.hid hFn
      have HLK:=Lib.hid hlk
      go_wp2_with fail
      refine RG.begin_ [(0,true),(1,true),(2,true),(3,true),(4,true),(5,true),(6,true),(7,true),(8,true),(9,true),(10,true),(11,true),(12,true),(13,true),(14,true),(15,true),(16,true),(17,true),(18,true),(19,true),(20,true),(21,false),(22,true)] (by kernel_rfl) (by kernel_rfl) rfl (by kernel_rfl) (fun _ _ d _ _ h=>by cases d<;>exact h) ?_
      simp only [RG.ordered,List.map_cons,List.map_nil,List.getElem?_toArray,List.getElem?_cons_succ,List.getElem?_cons_zero]
      obtain ⟨wd,hwd⟩:∃ wd,wr.drew=wd:=⟨_,rfl⟩
      have hbd:Below wr.heap.size wr wd:=by rw [← hwd];exact (Below.refl _ _).drew
      have hwl:w.heap.size<wr.heap.size:=by have:=HB6.out.size;rw [box_size] at this;omega
      have hbl2:b<wr.heap.size:=by omega
      have G:=Lib.hid (fun W (hW:Below wd.heap.size wd W)=>(show W.cell? ⟨w.heap.size,1,none⟩=some (.slice (some ⟨b,off,none⟩) fs.length cap)∧W.cell? ⟨b,off+i*2,none⟩=some (.string ⟨nm.toArray⟩)∧W.cell? ⟨g,o+k*2,none⟩=some (.string ⟨x.toArray⟩)∧W.cell? ⟨g,o+k*2+1,none⟩=some (.int .i64 (k:Int)) from
       ⟨((grow hbd hW).cell (p:=⟨w.heap.size,1,none⟩) hwl).trans c1,((grow hbd hW).cell (p:=⟨b,off+i*2,none⟩) hbl2).trans d0,((grow hbd hW).cell (p:=⟨g,o+k*2,none⟩) hgl).trans t0,((grow hbd hW).cell (p:=⟨g,o+k*2+1,none⟩) hgl).trans t1⟩))
      have HWS:Hid (w.heap.size≤wd.heap.size):=Lib.hid (by have:=hbd.size;omega)
      have HCALL:=Lib.hid (radd_on (fun b=>w.heap.size≤b) u3 V (nm++58::x) (E+(k:Int)) wd (hU.below hbd) (hF.few (by omega)) hsl)
      have HFA:=Lib.hid (hF.add (E+(k:Int)) hsl)
      have HBD:=Lib.hid (HB6.out.trans (hbd.mono HB6.out.size))
      have HKD:=Lib.hid (KRow.below HK6.out hbd)
      change RG.walk _ _ _ _ _ wr.drew
      rw [hwd]
      clear hwd hbd hwl hbl2 c0 c1 d0 t0 t1 hgl hU hF hFn hV hbw hlk hnx HF6 HU6 HB6 HK6
      repeat (refine RG.take (by rfl) (by intro W hW;obtain ⟨f1,f2,f3,f4⟩:=G.out W hW;go_simp;first | with_reducible rfl | (rw [if_neg (by omega)]) | (rw [if_pos HLK.out])) ?_;simp only [Act.put,List.setIfInBounds_toArray,List.set_cons_zero,List.set_cons_succ])
      have hwrp:IntKind.i64.wrap (E+(k:Int))=E+(k:Int):=by rw [IntWalk.i64_left];exact IntWalk.wrap64_in _ ⟨by omega,by omega⟩
      try rw [hwrp]
      clear hwrp
      try rw [hcat]
      refine RG.alone (by rfl) (fun K hK => ?_)
      go_simp
      try rw [hcat]
      refine HCALL.out.mono ?_
      rintro e w7 ⟨lw,rfl,hru,hbel⟩
      go_simp
      refine hK.out _ _ hbel ?_
      clear hK K
      have HF8:Hid (FewN (4096*i+(k+1)) (foldP U (pairsW nm (ws.take (k+1)) E))):=Lib.hid (by rw [HFN.out];exact HFA.out)
      have HU8:Hid (RNew w.heap.size w7 lw (foldP U (pairsW nm (ws.take (k+1)) E))):=Lib.hid (by rw [HFN.out];exact RNew.of HWS.out hru)
      have HB8:=Lib.hid (HBD.out.trans (hbel.mono HBD.out.size))
      have HK8:=Lib.hid (KRow.below HKD.out hbel)
      clear hru hbel HCALL HFA HBD HKD HFN hcat
      repeat (refine RG.take (by rfl) (by intro W hW;go_simp;with_reducible rfl) ?_;simp only [Act.put,List.setIfInBounds_toArray,List.set_cons_zero,List.set_cons_succ])
      refine RG.done ?_
      clear G
      go_wp2_with fail
      have hlk:=HLK.out
      go_roundw
      case rel=>exact ⟨k+1,by omega,by go_num,HF8,HU8,HB8,HK8⟩
      case measure=>simp [intOf];omega
     ·obtain rfl:k=ws.length:=by omega
      have r1:decide ((ws.length:Int)<(ws.length:Int))=false:=by simp
      have r2:decide (ws.length<ws.length)=false:=by simp
      have hu:=HU6.out
      have hf:=HF6.out
      rw [List.take_length,← HNF.out] at hu hf
      have HU7:=Lib.hid hu
      have HF7:Hid (FewN (4096*(i+1)) (foldP [] (pairsF 0 (fs.take (i+1))))):=Lib.hid (hf.mono (by omega))
      clear hlk hu hf
      go_wp2_with fail
      have hlt:=HLT.out
      go_roundw
      case rel=>exact ⟨i+1,E+(ws.length:Int)+64,by omega,rfl,by go_num,by omega,by omega,HE2,HF7,HU7,HB6⟩
      case measure=>simp [intOf];omega
   ·obtain rfl:i=fs.length:=by omega
    have q1:decide ((fs.length:Int)<(fs.length:Int))=false:=by simp
    have q2:decide (fs.length<fs.length)=false:=by simp
    have hu:=HU.out
    rw [List.take_length] at hu
    have HU7:=Lib.hid hu
    have HBW9:=Lib.hid hbw
    clear hlt hu hbw c0
    go_wp2_with fail
    go_ret
    exact ⟨_,rfl,HU7.out,HBW9.out⟩
 ·have t1:(c != 0)=true:=by simp [h0]
  have e0:termsE (z,fs)=[]:=by unfold termsE;rw [if_pos (by rw [hc];exact h0)]
  rw [e0]
  clear hc h0 e0 hr
  go_enter Tryz.func35,Tryz.ntmps35
  go_wp2_with fail
  refine HCK.out.mono ?_
  rintro e w1 ⟨rfl,hb1⟩
  have HB1:=Lib.hid (grow HBX.out hb1)
  clear hb1
  go_wp2_with fail
  go_ret
  exact ⟨_,rfl,ROn.nil_ _ _,HB1.out⟩
end Go.Proofs.YtidhgicajlaafaaGreat.EV
namespace Go.Proofs.YtidhgicajlaafaaGreat.MX
open Go Go.RowKit MM EM
open EV (docC fldC doc_at trmC trm_at RNew rterms_new)
theorem withL_len:∀ (l:List (List UInt8)) (s:List UInt8),(withL l s).length≤l.length+1
 | [],s=>by simp [withL]
 | t::r,s=>by
   have:=withL_len r s
   rw [withL]
   split
   ·rw [List.length_cons,List.length_cons];omega
   ·split
    ·omega
    ·rw [List.length_cons];omega
theorem withA_len:∀ (ss l:List (List UInt8)),(withA l ss).length≤l.length+ss.length
 | [],l=>by simp [withA]
 | s::ss,l=>by
   have e:withA l (s::ss)=withA (withL l s) ss:=rfl
   have h1:=withA_len ss (withL l s)
   have h2:=withL_len l s
   rw [e,List.length_cons]
   omega
theorem withA_next (l:List (List UInt8)) {T:List Trm} {k:Nat} (hk:k<T.length):withA l ((T.map (·.1)).take (k+1))=withL (withA l ((T.map (·.1)).take k)) T[k].1:=by
 have h:k<(T.map (·.1)).length:=by rw [List.length_map];exact hk
 rw [List.take_succ_eq_append_getElem h,withA_append,List.getElem_map]
 rfl
theorem termsM_len:∀ (es:List Ev) (k:Nat),k≤es.length→(termsM (es.take k)).length≤65536*k
 | es,0,_=>by simp [termsM,withA]
 | es,k+1,h=>by
   have h1:=termsM_len es k (by omega)
   have h2:=withA_len ((termsE es[k]).map (·.1)) (termsM (es.take k))
   have h3:=terms_fewM es[k]
   rw [List.length_map] at h2
   rw [termsM_next (by omega)]
   omega
theorem termsM_txt {es:List Ev} {x:List UInt8} (h:x∈termsM es):x.length≤65:=by
 obtain ⟨e,_,hp⟩:=termsM_mem.1 h
 have:=RM.posOf_some hp
 exact (RM.termsE_len this).2
theorem rterms14_any (l:List SM.Doc) (lv:Value) (w:World) (hl:RAny docC w lv l) (hln:l.length≤65536):Calls Tryz.prog 13 #[.agg #[lv]] w (TxtD (termsM (l.map (·.2))) w):=by
 obtain ⟨p,cap,rfl,hlc,hcm,_⟩:=hl.shape
 unfold maxLen at hcm
 obtain ⟨w1,hw1⟩:∃ w1,w.alloc (.cells #[.slice p l.length cap] 30)=w1:=⟨_,rfl⟩
 have hb1:Below w.heap.size w w1:=by rw [← hw1];exact (Below.refl _ _).alloc (Nat.le_refl _) _
 have h1:w1.heap[w.heap.size]? = some (.cells #[.slice p l.length cap] 30 (0,0)):=by rw [← hw1];exact heap_alloc_new _ _
 have hs1:w1.heap.size=w.heap.size+1:=by rw [← hw1];simp
 have hlt1:w.heap.size<w1.heap.size:=by omega
 have HL:=Lib.hid hl
 have HX:=Lib.hid h1
 have HW1:=Lib.hid hw1
 have HB1:=Lib.hid (show Below w1.heap.size w1 w1 from Below.refl _ _)
 have HBA:=Lib.hid hb1
 have HNX:=Lib.hid (fun (k:Nat) (hk:k<l.length)=>(show termsM ((l.map (·.2)).take (k+1))=withA (termsM ((l.map (·.2)).take k)) ((termsE l[k].2).map (·.1)) by rw [termsM_next (by rw [List.length_map];exact hk)];simp))
 have HLN:=Lib.hid (fun (k:Nat) (hk:k≤l.length)=>termsM_len (l.map (·.2)) k (by rw [List.length_map];exact hk))
 have HTX:=Lib.hid (fun (k:Nat) x (h:x∈termsM ((l.map (·.2)).take k))=>termsM_txt h)
 obtain ⟨R,hR⟩:∃ R,termsM (l.map (·.2))=R:=⟨_,rfl⟩
 have HM:Hid (termsM ((l.map (·.2)).take l.length)=R):=Lib.hid (by rw [← hR,List.take_of_length_le (by simp)])
 rw [hR]
 have HO0:Hid (RAny cStr w1 (.slice none 0 0) (termsM ((l.map (·.2)).take 0))):=Lib.hid (ROn.nil_ _ _)
 clear hl hb1 h1 hw1 hR hs1
 go_enter Tryz.func13,Tryz.ntmps13
 go_wp2_with (rw [HW1.out])
 go_loopw [3,4] (fun uv iv wr=>∃ i:Nat,i≤l.length∧iv=.int .i64 i∧Hid (RAny cStr wr uv (termsM ((l.map (·.2)).take i)))∧Hid (Below w1.heap.size w1 wr)) (fun _ iv _=>l.length - (intOf iv).toNat)
 case atStart=>exact ⟨0,by omega,rfl,HO0,HB1⟩
 case round =>
  obtain ⟨i,hi,rfl,HO,HB⟩:=hrel
  clear HO0 HB1
  obtain ⟨wo,hwo⟩:∃ wo,wo=wr:=⟨_,rfl⟩
  subst hwo
  have hx:=(HB.out.block w.heap.size hlt1).trans HX.out
  have y0:wo.cell? ⟨w.heap.size,0,none⟩=some (.slice p l.length cap):=row_cell hx 0
  have HBW:=Lib.hid (HBA.out.trans (HB.out.mono (Nat.le_of_lt hlt1)))
  obtain ⟨pu,cu,hlv,_⟩:=HO.out.shape
  obtain ⟨n,hn⟩:∃ n,(termsM ((l.map (·.2)).take i)).length=n:=⟨_,rfl⟩
  rw [hn] at hlv
  subst hlv
  clear hx hn
  by_cases hlt:i<l.length
  ·have q1:decide ((i:Int)<(l.length:Int))=true:=by rw [decide_eq_true_eq];omega
   have q2:decide (i<l.length)=true:=by rw [decide_eq_true_eq];omega
   have q3:(i:Int)<(l.length:Int):=by omega
   obtain ⟨b,off,fv,rfl,hbl,_,k0,k1,k2,hf⟩:=doc_at (HL.out.below HBW.out) hlt
   have hnx:=HNX.out i hlt
   replace k1:wo.cell? ⟨b,off+i*3+1,none⟩=some (.int .i64 (l[i]).2.1):=k1
   replace hf:ROn fldC (fun _=>True) wo fv (l[i]).2.2:=hf
   obtain ⟨⟨sq,⟨t,fs⟩⟩,hd⟩:∃ d,l[i]=d:=⟨_,rfl⟩
   rw [hd] at k1 hf hnx
   change ROn fldC _ wo fv fs at hf
   change wo.cell? ⟨b,off+i*3+1,none⟩=some (.int .i64 t) at k1
   obtain ⟨pf,cf,rfl,_⟩:=hf.shape
   have k3:wo.cell? ⟨b,off+i*3+1+1,none⟩=some (.slice pf fs.length cf):=k2
   have HT:=Lib.hid (rterms_new t (.slice pf fs.length cf) fs wo hf.any)
   have htl:=terms_fewM (t,fs)
   have hty:=fun x (h:x∈termsE (t,fs))=>(RM.termsE_len h).2
   obtain ⟨T,hT⟩:∃ T,termsE (t,fs)=T:=⟨_,rfl⟩
   replace hnx:termsM ((l.map (·.2)).take (i+1))=withA (termsM ((l.map (·.2)).take i)) ((termsE (t,fs)).map (·.1)):=hnx
   have hmn:=HLN.out i (by omega)
   have hmt:=HTX.out i
   obtain ⟨M,hM⟩:∃ M,termsM ((l.map (·.2)).take i)=M:=⟨_,rfl⟩
   rw [hT] at HT hnx htl hty
   rw [hM] at HO hnx hmn hmt
   have hml:M.length≤4294967296:=by omega
   have HNN:=Lib.hid hnx
   have HLT:=Lib.hid hlt
   have HTY:=Lib.hid hty
   have HMT:=Lib.hid hmt
   have HWN:=Lib.hid (fun (k:Nat) (hk:k<T.length)=>withA_next M hk)
   have HWL:=Lib.hid (fun (k:Nat)=>(show (withA M ((T.map (·.1)).take k)).length≤4295032832 by have:=withA_len ((T.map (·.1)).take k) M;rw [List.length_take,List.length_map] at this;omega))
   have HWM:=Lib.hid (fun (k:Nat) x (h:x∈withA M ((T.map (·.1)).take k))=>(show x.length≤65 from (withA_mem.1 h).elim (fun h=>HMT.out x h) fun h=>by obtain ⟨u,hu,rfl⟩:=List.mem_map.1 (List.mem_of_mem_take h);exact HTY.out u hu))
   clear hf hd hnx hlt k0 hT hM hmn hmt hty
   go_wp2_with fail
   refine HT.out.mono ?_
   rintro e w2 ⟨tv,rfl,ht2,hb2⟩
   obtain ⟨pt,ct,rfl,htc,htm,_⟩:=ht2.shape
   unfold maxLen at htm
   have HT2:=Lib.hid ht2
   have HB2:=Lib.hid (HB.out.trans (hb2.mono HB.out.size))
   have HO2:Hid (RAny cStr w2 (.slice pu n cu) (withA M ((T.map (·.1)).take 0))):=Lib.hid (by rw [List.take_zero];exact HO.out.below hb2)
   clear ht2 hb2 HT k1 k2 k3 y0 HO HB
   go_wp2_with fail
   go_loopw [3,6] (fun uv jv wk=>∃ j:Nat,j≤T.length∧jv=.int .i64 j∧Hid (RNew wo.heap.size wk (.slice pt T.length ct) T)∧Hid (RAny cStr wk uv (withA M ((T.map (·.1)).take j)))∧Hid (Below w1.heap.size w1 wk)) (fun _ jv _=>T.length - (intOf jv).toNat)
   case atStart=>exact ⟨0,Nat.zero_le _,rfl,HT2,HO2,HB2⟩
   case round =>
    obtain ⟨j,hj,rfl,HT3,HO3,HB3⟩:=hrel
    clear HT2 HO2 HB2
    obtain ⟨wk,hwk⟩:∃ wk,wk=wr:=⟨_,rfl⟩
    subst hwk
    obtain ⟨pw,cw,hlv,_⟩:=HO3.out.shape
    obtain ⟨m,hm⟩:∃ m,(withA M ((T.map (·.1)).take j)).length=m:=⟨_,rfl⟩
    rw [hm] at hlv
    subst hlv
    clear hm
    by_cases hlj:j<T.length
    ·have s1:decide ((j:Int)<(T.length:Int))=true:=by rw [decide_eq_true_eq];omega
     have s2:(j:Int)<(T.length:Int):=by omega
     obtain ⟨bt,ot,vt,rfl,hbt,_,d1,d2,hpos⟩:=trm_at HT3.out hlj
     have hwn:=HWN.out j hlj
     have htj:=HTY.out T[j] (List.getElem_mem hlj)
     obtain ⟨⟨x,zs⟩,hx⟩:∃ t,T[j]=t:=⟨_,rfl⟩
     rw [hx] at d1 hwn htj
     dsimp only at d1 hwn htj
     have HWI:=Lib.hid (with_any _ _ x wk HO3.out (by have:=HWL.out j;omega) (fun y hy=>by have:=HWM.out j y hy;omega) (by omega))
     rw [← hwn] at HWI
     have HLJ:=Lib.hid hlj
     clear hx d2 hpos hwn hlj
     go_wp2_with fail
     refine HWI.out.mono ?_
     rintro e w4 ⟨u4,rfl,ho4,hb4⟩
     have HO4:=Lib.hid ho4
     have HT4:=Lib.hid (HT3.out.below hb4)
     have HB4:=Lib.hid (HB3.out.trans (hb4.mono HB3.out.size))
     clear ho4 hb4 HWI d1
     go_wp2_with fail
     have hlj:=HLJ.out
     go_roundw
     case rel=>exact ⟨j+1,by omega,by go_num,HT4,HO4,HB4⟩
     case measure=>simp [intOf];omega
    ·obtain rfl:j=T.length:=by omega
     have s1:decide ((T.length:Int)<(T.length:Int))=false:=by simp
     have ho:=HO3.out
     rw [List.take_of_length_le (by rw [List.length_map];exact Nat.le_refl _),← HNN.out] at ho
     have HO9:=Lib.hid ho
     clear ho HO3 hlj
     go_wp2_with fail
     have hlt:=HLT.out
     go_roundw
     case rel=>exact ⟨i+1,by omega,by go_num,HO9,HB3⟩
     case measure=>simp [intOf];omega
  ·obtain rfl:i=l.length:=by omega
   have q1:decide ((l.length:Int)<(l.length:Int))=false:=by simp
   have q2:decide (l.length<l.length)=false:=by simp
   have hI:=HO.out
   rw [HM.out] at hI
   have HI9:=Lib.hid hI
   clear hI hlt
   go_wp2_with fail
   go_ret
   exact ⟨_,rfl,HI9.out,HBW.out⟩
end Go.Proofs.YtidhgicajlaafaaGreat.MX
