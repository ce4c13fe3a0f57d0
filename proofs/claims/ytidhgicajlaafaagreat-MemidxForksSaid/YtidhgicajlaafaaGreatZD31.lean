import Derived.Test.YtidhgicajlaafaaGreatZD28
import Derived.Test.YtidhgicajlaafaaGreatZD30
import Derived.Test.YtidhgicajlaafaaGreatZD17
set_option maxRecDepth 100000
set_option maxHeartbeats 8000000
set_option linter.unusedVariables false
set_option linter.unusedSimpArgs false
namespace Go.Proofs.YtidhgicajlaafaaGreat.EV
open Go Go.RowKit Go.Shelf MM EM SM
open TK (wordsB wordsB_count numT numT_len numT_at KRow KIn Tagged)
open RF (Vows Grows Left rangeW_)
attribute [local go_sem] Oper.semAt_some
def BoxAt (w:World) (b:Nat) (t:TypeId) (cs:List Value):Prop:=∃ fr,w.heap[b]? = some (.cells cs.toArray t fr)
theorem BoxAt.new (w:World) (t:TypeId) (cs:List Value):BoxAt (w.alloc (.cells cs.toArray t)) w.heap.size t cs:=⟨_,heap_alloc_new w _⟩
theorem BoxAt.kep {S:Nat→Prop} {w w':World} {b:Nat} {t:TypeId} {cs:List Value} (h:BoxAt w b t cs) (hk:Kep S w w') (hS:S b):BoxAt w' b t cs:=by
 obtain ⟨fr,h⟩:=h
 exact ⟨fr,(hk.block b (Array.getElem?_eq_some_iff.1 h).1 hS).trans h⟩
theorem BoxAt.below {w w':World} {b:Nat} {t:TypeId} {cs:List Value} (h:BoxAt w b t cs) (hb:Below w.heap.size w w'):BoxAt w' b t cs:=h.kep (kep_below (fun _=>True) hb) trivial
theorem BoxAt.cell {w:World} {b:Nat} {t:TypeId} {cs:List Value} (h:BoxAt w b t cs) (i:Nat) (u:Value) (hi:cs[i]? = some u):w.cell? ⟨b,i,none⟩=some u:=by
 obtain ⟨fr,h⟩:=h
 rw [cell_of_row _ _ i _ _ _ h]
 simpa using hi
theorem BoxAt.not_ints {w:World} {b:Nat} {t:TypeId} {cs:List Value} (h:BoxAt w b t cs) (ht:t≠3):¬ IntsOf w b:=fun ⟨cur,fr,hc⟩=>by
 obtain ⟨fr2,h⟩:=h
 rw [h] at hc
 simp only [Option.some.injEq,Obj.cells.injEq] at hc
 exact ht hc.2.1
theorem BoxAt.ne_map {w:World} {b mb m:Nat} {t:TypeId} {cs:List Value} {F:List UInt8→Option Value} (h:BoxAt w b t cs) (hm:MapV w mb m F):b≠mb:=by
 rintro rfl
 obtain ⟨fr,h⟩:=h
 obtain ⟨es,c,hc⟩:=hm.obj
 rw [h] at hc
 cases hc
theorem BoxAt.own (t:TypeId) (cs:List Value) (b B:Nat):OwnFrom B (fun (_:Unit) W=>BoxAt W b t cs):=fun _ W W' row h hg hr=>by
 obtain ⟨fr,h⟩:=h
 refine ⟨fr,(hg.block b (Array.getElem?_eq_some_iff.1 h).1 (fun e => ?_)).trans h⟩
 obtain ⟨_,o,ho,hc⟩:=hr b e.symm
 rw [h] at ho
 cases ho
 cases hc
def Inv (B mb cb:Nat) (w:World) (pre:List Item) (W:World):Prop:=(∃ F,Plc B mb (foldP [] (pairsI pre)) F W)∧BoxAt W cb 130 [.map (some mb)]∧Below B w W∧(pairsI pre).length≤4096*pre.length
theorem plc_own {B mb D:Nat} (T:List Trm) (F:List UInt8→Option Value) (hm:mb<D):OwnFrom D (fun (_:Unit) W=>Plc B mb T F W):=fun _ W W' row h hg hr =>
 h.keep (S:=fun k=>row≠some k) (kep_grown hg fun k hk hne=>hne hk) (fun e=>by have:=(hr mb e).1;omega) fun b ⟨cur,fr,hb⟩ e=>by
  obtain ⟨_,o,ho,hc⟩:=hr b e
  rw [hb] at ho
  cases ho
  cases hc
theorem inv_own (B mb cb D:Nat) (w:World) (hm:mb<D) (hB:B≤w.heap.size) (hBD:B≤D):OwnFrom D (Inv B mb cb w):=fun pre W W' row h hg hr=>by
 obtain ⟨⟨F,h1⟩,h2,h3,h4⟩:=h
 exact ⟨⟨F,plc_own _ F hm () W W' row h1 hg hr⟩,BoxAt.own _ _ _ D () W W' row h2 hg hr,ownFrom_below (β:=Unit) (n₀:=B) (B:=D) (w₀:=w) hB hBD () W W' row h3 hg hr,h4⟩
theorem Tagged.own (g B:Nat):OwnFrom B (fun (_:Unit) W=>Tagged W g):=fun _ W W' row h hg hr=>by
 obtain ⟨cur,fr,h⟩:=h
 refine ⟨cur,fr,(hg.block g (Array.getElem?_eq_some_iff.1 h).1 (fun e => ?_)).trans h⟩
 obtain ⟨_,o,ho,hc⟩:=hr g e.symm
 rw [h] at ho
 cases ho
 cases hc
theorem vow_own (D:Nat):OwnFrom D Vow:=fun x W W' row h hg hr=>by
 obtain ⟨⟨g,hv,htg⟩,hk,hrest⟩:=h
 refine ⟨⟨g,hv,Tagged.own g D () W W' row htg hg hr⟩,?_,hrest⟩
 obtain ⟨p,cap,hv,h1,h2,h3⟩:=hk
 refine ⟨p,cap,hv,h1,h2,?_⟩
 rcases h3 with h3 | ⟨b,off,hp,hlt,hc⟩
 ·exact .inl h3
 ·refine .inr ⟨b,off,hp,Nat.lt_of_lt_of_le hlt hg.size,fun i hi => ?_⟩
  exact ⟨cell_kept (hc i hi).1 hg fun r e=>(hr r e).2,cell_kept (hc i hi).2 hg fun r e=>(hr r e).2⟩
def TokAt (w:World) (g:Nat) (ws:List (List UInt8)):Prop:=Tagged w g∧KRow w (.slice (some ⟨g,0,none⟩) ws.length ws.length) (numT ws)
theorem TokAt.kep {S:Nat→Prop} {w w':World} {g:Nat} {ws:List (List UInt8)} (h:TokAt w g ws) (hk:Kep S w w') (hS:S g):TokAt w' g ws:=by
 obtain ⟨⟨cur,fr,ht⟩,p,cap,hv,h1,h2,h3⟩:=h
 have hlt:=(Array.getElem?_eq_some_iff.1 ht).1
 refine ⟨⟨cur,fr,(hk.block g hlt hS).trans ht⟩,p,cap,hv,h1,h2,?_⟩
 rcases h3 with h3 | ⟨b,off,hp,hb,hc⟩
 ·exact .inl h3
 ·simp only [Value.slice.injEq] at hv
  rw [hp] at hv
  simp only [Option.some.injEq,Addr.mk.injEq] at hv
  obtain ⟨⟨rfl,rfl,_⟩,_⟩:=hv
  refine .inr ⟨g,0,hp,Nat.lt_of_lt_of_le hb hk.size,fun i hi => ?_⟩
  rw [hk.cell hb hS,hk.cell hb hS]
  exact hc i hi
theorem TokAt.at_ {w:World} {g:Nat} {ws:List (List UInt8)} (h:TokAt w g ws) {k:Nat} (hk:k<ws.length):w.cell? ⟨g,k*2,none⟩=some (.string ⟨ws[k].toArray⟩)∧w.cell? ⟨g,k*2+1,none⟩=some (.int .i64 (k:Int))∧g<w.heap.size:=by
 obtain ⟨b,off,hp,hb,h1,h2⟩:=KIn.at_ h.2 (k:=k) (by rw [numT_len];exact hk)
 simp only [Option.some.injEq,Addr.mk.injEq] at hp
 obtain ⟨rfl,rfl,_⟩:=hp
 rw [numT_at,Nat.zero_add] at h1 h2
 exact ⟨h1,h2,hb⟩
theorem tag_ints {w:World} {g:Nat} (h:Tagged w g) (hg:IntsOf w g):False:=by
 obtain ⟨c1,f1,h1⟩:=h
 obtain ⟨c2,f2,h2⟩:=hg
 rw [h1] at h2
 simp only [Option.some.injEq,Obj.cells.injEq] at h2
 exact absurd h2.2.1 (by decide)
theorem tag_map {w:World} {g m:Nat} {F:List UInt8→Option Value} (h:Tagged w g) (hm:MapV w g m F):False:=by
 obtain ⟨c1,f1,h1⟩:=h
 obtain ⟨es,c,h2⟩:=hm.obj
 rw [h1] at h2
 cases h2
theorem keepsFrom_kep {S:Nat→Prop} {w w':World} {D:Nat} (hk:Kep S w w') (hS:∀ k,D≤k→k<w.heap.size→¬ S k→∃ o,w.heap[k]? = some o∧o.isCells=true):KeepsFrom D w w' :=
 ⟨hk.size,fun k o hD hk0 ho=>by
  have hlt:=(Array.getElem?_eq_some_iff.1 hk0).1
  by_cases h:S k
  ·rw [hk.block k hlt h];exact hk0
  ·obtain ⟨o2,h2,h3⟩:=hS k hD hlt h
   rw [hk0] at h2
   cases h2
   rw [ho] at h3
   cases h3⟩
theorem terms_new (z:Int) (v:Value) (fs:List Fld) (w:World) (hr:RAny fldC w v fs):Calls Tryz.prog 68 #[.agg #[.int .i64 z,v]] w (TermsNew (termsE (z,fs)) w):=by
 have hbx:=box_below w z v
 have hck:=check_any z v fs (evBox w z v) (hr.below hbx)
 obtain ⟨p,cap,rfl,hlc,hcm,_⟩:=hr.shape
 unfold maxLen at hcm
 have HCK:=Lib.hid hck
 have HBX:=Lib.hid hbx
 clear hck hbx
 by_cases h0:checkE (z,fs)=0
 ·rw [h0] at HCK
  have e0:termsE (z,fs)=termsF fs:=by unfold termsE;rw [if_neg (by simp [h0])]
  rw [e0]
  obtain ⟨h16,hall⟩:=checkE_ok.1 h0
  have hnm:∀ f∈fs,f.1.length≤4096:=fun f hf=>by have:=name_len (hall f hf).1;omega
  have hx:∀ f∈fs,f.2.length≤4096:=fun f hf=>(hall f hf).2
  have HNM:=Lib.hid hnm
  have HX:=Lib.hid hx
  have HR:=Lib.hid hr.bel
  clear h0 e0 hall hnm hx hr
  refine (callsIn_wide (n:=5)).1 ?_
  refine callsIn_of_wp_marks Tryz.func68 rfl trivial ?_ rfl
  simp only [Tryz.ntmps68,List.size_toArray,List.length_cons,List.length_nil,Nat.reduceAdd,Nat.reduceSub,Array.replicate_succ,Array.replicate_zero,List.push_toArray,List.append_toArray,List.nil_append,List.cons_append]
  gi_wp2
  refine ⟨trivial,(callsIn_wide.2 HCK.out).mono ?_⟩
  rintro e w2 ⟨rfl,hb2⟩
  have hB2:=Lib.hid (grow HBX.out hb2)
  obtain ⟨_,cb1,_⟩:=box_in (hb2)
  have cb0:=(box_in hb2).1
  have hmm:=@run_makeMap Tryz.prog
  have hlt2:w.heap.size<w2.heap.size:=by have:=hb2.size;rw [box_size] at this;omega
  obtain ⟨W1,hW1⟩:∃ W1,(w2.alloc (.map #[] 0)).alloc (.cells #[.map (some w2.heap.size)] 130)=W1:=⟨_,rfl⟩
  have hb21:Below w2.heap.size w2 W1:=by rw [← hW1];exact ((Below.refl _ _).alloc (Nat.le_refl _) _).alloc (by simp) _
  have d0:((w2.alloc (.map #[] 0)).alloc (.cells #[.map (some w2.heap.size)] 130)).cell? ⟨w.heap.size,0,none⟩=some (.int .i64 z):=by rw [hW1];exact (hb21.cell (p:=⟨w.heap.size,0,none⟩) hlt2).trans cb0
  have d1:((w2.alloc (.map #[] 0)).alloc (.cells #[.map (some w2.heap.size)] 130)).cell? ⟨w.heap.size,1,none⟩=some (.slice p fs.length cap):=by rw [hW1];exact (hb21.cell (p:=⟨w.heap.size,1,none⟩) hlt2).trans cb1
  have HW1:=Lib.hid hW1
  clear hW1
  clear HCK hb2
  gi_wp2
  refine ⟨trivial,(fields_in 4 z p fs.length cap _).mono ?_⟩
  rintro e w0 ⟨rfl,hw0⟩
  have hBm:w.heap.size≤w2.heap.size:=Nat.le_of_lt hlt2
  have hz0:w0.heap.size=w2.heap.size+1+1+1:=by rw [hw0];simp
  have hP0:Plc w.heap.size w2.heap.size [] (fun _=>none) w0:=by
   rw [hw0]
   exact ((Plc.made w2 w.heap.size hBm).below ((Below.refl _ _).alloc (Nat.le_refl _) _)).below ((Below.refl _ _).alloc (Nat.le_refl _) _)
  have hc0:BoxAt w0 (w2.heap.size+1) 130 [.map (some w2.heap.size)]:=by
   rw [hw0]
   have:=BoxAt.new (w2.alloc (.map #[] 0)) 130 [.map (some w2.heap.size)]
   rw [show (w2.alloc (.map #[] 0)).heap.size=w2.heap.size+1 by simp] at this
   exact this.below ((Below.refl _ _).alloc (Nat.le_refl _) _)
  have hv0:w0.cell? ⟨w2.heap.size+1+1,1,none⟩=some (.slice p fs.length cap):=by
   rw [hw0]
   have:=(new_two ((w2.alloc (.map #[] 0)).alloc (.cells #[.map (some w2.heap.size)] 130)) (.int .i64 z) (.slice p fs.length cap) 51).2
   rwa [show ((w2.alloc (.map #[] 0)).alloc (.cells #[.map (some w2.heap.size)] 130)).heap.size=w2.heap.size+1+1 by simp] at this
  have hb0:Below w.heap.size w w0:=by
   rw [hw0]
   exact hB2.out.trans ((((Below.refl _ _).alloc (Nat.le_refl _) _).alloc (by simp) _).alloc (by simp;omega) _ |>.mono hBm)
  have hI0:Inv w.heap.size w2.heap.size (w2.heap.size+1) w [] w0:=⟨⟨_,hP0⟩,hc0,hb0,by simp [pairsI]⟩
  have hRB:=HR.out.below hb0
  clear hw0 d0 d1 cb0 cb1 hb21 HW1 hP0 hc0
  gi_wp2
  refine rangeW_ rfl (by omega) (gf:=106) (lb:=#[.pointer (some ⟨w2.heap.size+1+1,0,none⟩)]) rfl trivial (enters_of Tryz.func106 (by kernel_rfl) rfl)
   (fields_vow 4 (by omega) (w2.heap.size+1+1) w.heap.size _ fs h16 HNM.out HX.out w0 (by omega) (by omega) hv0 hRB) (Below.refl _ _) (by omega) (fun _=>rfl)
   (fun pre W=>Inv w.heap.size w2.heap.size (w2.heap.size+1) w pre W) (fun _ _=>False) (inv_own _ _ _ _ w (by omega) (Nat.le_refl _) (by omega)) (fun _ _ _ _ h _ _=>h) (vow_own _) hI0
   (fun x a' W=>∃ Bx,BoxAt W Bx 135 [.string ⟨x.2.1.toArray⟩,x.2.2.1]∧w.heap.size≤Bx∧a'={ tmps:=#[.agg #[.int .i64 z,.slice p fs.length cap],.pointer (some ⟨w.heap.size,0,none⟩),.slice none 0 0,.pointer (some ⟨w2.heap.size+1,0,none⟩),.int .i64 x.1,.pointer (some ⟨Bx,0,none⟩),
    undef,undef,undef,undef,undef,undef,.agg #[.int .i64 z,.slice p fs.length cap],.int .i64 0,.bool false,.map (some w2.heap.size),.agg #[.int .i64 z,.slice p fs.length cap],.func (.func 106) #[] #[.pointer (some ⟨w2.heap.size+1+1,0,none⟩)],
    .int .i64 x.1,.agg #[.string ⟨x.2.1.toArray⟩,x.2.2.1],undef,undef,undef,undef,undef,undef,undef,undef,undef,undef,undef,undef,undef,undef,undef,undef,undef,undef,undef,undef,undef,undef,undef,undef,undef,undef,undef,undef,undef,undef,undef,undef,undef,undef,undef,undef,undef,undef,undef,undef,undef,undef,undef,undef],defers:=[] })
   (fun a' x W W' row h hg hr=>by obtain ⟨Bx,h1,h2,h3⟩:=h;exact ⟨Bx,BoxAt.own _ _ _ _ () W W' row h1 hg hr,h2,h3⟩) ?assign ?body ?done ?stop
  case assign =>
   rintro l pre ⟨bs,nm,tv,ws⟩ W K hI hV hK
   obtain ⟨g,htv,_⟩:=hV.1
   dsimp only at htv
   subst htv
   gi_wp2
   have hbW:Below W.heap.size W (W.alloc (.cells #[.string ⟨nm.toArray⟩,.slice (some ⟨g,0,none⟩) ws.length ws.length] 135)):=(Below.refl _ _).alloc (Nat.le_refl _) _
   have hsW:=hI.2.2.1.size
   refine hK _ _ ((KeepsOthers.alloc _ _).from _) (hbW.mono hsW) ?_ ((vow_own w0.heap.size).alloc (s:=(bs,nm,.slice (some ⟨g,0,none⟩) ws.length ws.length,ws)) _ hV) ⟨W.heap.size,BoxAt.new W 135 [.string ⟨nm.toArray⟩,.slice (some ⟨g,0,none⟩) ws.length ws.length],hsW,rfl⟩
   exact (inv_own _ _ _ w0.heap.size w (by omega) (Nat.le_refl _) (by omega)).alloc (s:=pre) _ hI
  case body =>
   rintro l pre ⟨bs,nm,tv,ws⟩ a' W hDW hInv hVow ⟨Bx,hbx,hBx,rfl⟩ hlen
   obtain ⟨⟨g,htv,htg⟩,hkr,hnl,hwl,hwsl,hbs0,hbs1⟩:=hVow
   dsimp only at hbx htv htg hkr hnl hwl hwsl hbs0 hbs1 ⊢
   subst htv
   have hbx1:=hbx.cell 1 _ rfl
   have hbx0:=hbx.cell 0 _ rfl
   have HIV:=Lib.hid hInv
   have HTA:Hid (TokAt W g ws):=Lib.hid ⟨htg,hkr⟩
   have HBXA:=Lib.hid hbx
   have HWS:=Lib.hid hwsl
   clear hInv htg hkr hbx hI0 hRB hv0 hwsl
   gi_wp2
   obtain ⟨T0,hT0⟩:∃ T0,foldP [] (pairsI pre)=T0:=⟨_,rfl⟩
   have hres:pairsI (pre++[(bs,nm,.slice (some ⟨g,0,none⟩) ws.length ws.length,ws)])=pairsI pre++pairsW nm ws bs:=pairsI_snoc _ _
   have HRES:=Lib.hid hres
   have HT0:=Lib.hid hT0
   have hst:Hid (∃ F,Plc w.heap.size w2.heap.size (foldP T0 (pairsW nm (ws.take 0) bs)) F W):=Lib.hid (by
    obtain ⟨F,hF⟩:=HIV.out.1
    rw [← hT0]
    exact ⟨F,hF⟩)
   have HCB:=Lib.hid HIV.out.2.1
   have HBW:=Lib.hid HIV.out.2.2.1
   have HPN:=Lib.hid HIV.out.2.2.2
   have hlen16:pre.length≤15:=by omega
   clear hT0 hres hbx1
   gi_loopw [23] (fun iv wr=>∃ k:Nat,k≤ws.length∧iv=.int .i64 k∧Hid (∃ F,Plc w.heap.size w2.heap.size (foldP T0 (pairsW nm (ws.take k) bs)) F wr)∧Hid (BoxAt wr (w2.heap.size+1) 130 [.map (some w2.heap.size)])∧Hid (TokAt wr g ws)∧Hid (BoxAt wr Bx 135 [.string ⟨nm.toArray⟩,.slice (some ⟨g,0,none⟩) ws.length ws.length])∧Hid (KeepsFrom w0.heap.size W wr)∧Hid (Below w.heap.size W wr)∧W.heap.size≤wr.heap.size) (fun iv _=>ws.length - (intOf iv).toNat)
   case atStart=>exact ⟨0,by omega,rfl,hst,HCB,HTA,HBXA,Lib.hid (KeepsFrom.refl _ _),Lib.hid (Below.refl _ _),Nat.le_refl _⟩
   case round =>
    obtain ⟨k,hk,rfl,HF,HC,HT,HBX2,HKF,HB,hszr⟩:=hrel
    clear hst HTA HBXA
    by_cases hlt:k<ws.length
    ·have q1:decide ((k:Int)<(ws.length:Int))=true:=by rw [decide_eq_true_eq];omega
     have q2:decide (k<ws.length)=true:=by rw [decide_eq_true_eq];omega
     obtain ⟨c1,c2,hgl⟩:=HT.out.at_ hlt
     have hwk:=HWS.out ws[k] (List.getElem_mem hlt)
     have hnx:=pairsW_next nm hlt bs
     generalize ws[k]=x at *
     have HNX:=Lib.hid hnx
     have HLT:=Lib.hid hlt
     have b1:=(HBX2.out.kep (kep_alloc (fun _=>True) wr (.cells #[.string ⟨x.toArray⟩,.int .i64 (k:Int)] 114)) trivial).cell 0 _ rfl
     have hx1:(⟨nm.toArray⟩:ByteArray).size≤4096:=by rw [str_sz];exact hnl
     have hx2:(⟨x.toArray⟩:ByteArray).size≤4096:=by rw [str_sz];exact hwk
     clear hnx hlt HIV
     gi_wp2
     have hcat:(⟨nm.toArray⟩:ByteArray)++⟨#[58]⟩++⟨x.toArray⟩=⟨(nm++58::x).toArray⟩:=by
      rw [show (⟨#[58]⟩:ByteArray)=⟨[58].toArray⟩ from rfl,bytes_cat,bytes_cat,List.append_assoc];rfl
     rw [hcat]
     have hsl:(nm++58::x).length≤maxLen:=by rw [List.length_append,List.length_cons];unfold maxLen;omega
     have hnx:=HNX.out
     generalize nm++58::x=s at *
     obtain ⟨F,hF⟩:=HF.out
     obtain ⟨T,hT⟩:∃ T,foldP T0 (pairsW nm (ws.take k) bs)=T:=⟨_,rfl⟩
     have hT1:foldP T0 (pairsW nm (ws.take (k+1)) bs)=addP T s (bs+(k:Int)):=by rw [hnx,foldP_append,foldP_one,hT]
     rw [hT] at hF
     have HT1:=Lib.hid hT1
     obtain ⟨wd,hwd⟩:∃ wd,(wr.alloc (.cells #[.string ⟨x.toArray⟩,.int .i64 (k:Int)] 114)).drew=wd:=⟨_,rfl⟩
     have hkd:Below wr.heap.size wr wd:=by rw [← hwd];exact ((Below.refl _ _).alloc (Nat.le_refl _) _).drew
     have hbt:BoxAt wd wr.heap.size 114 [.string ⟨x.toArray⟩,.int .i64 (k:Int)]:=by rw [← hwd];exact (BoxAt.new wr 114 [.string ⟨x.toArray⟩,.int .i64 (k:Int)]).kep (kep_draw (fun _=>True) _) trivial
     have hPd:=hF.below hkd
     have hCd:=HC.out.below hkd
     have hBd:=HBX2.out.below hkd
     have hTd:=HT.out.kep (kep_below (fun _=>True) hkd) trivial
     have hKFd:KeepsFrom w0.heap.size W wd:=by rw [← hwd];exact ((HKF.out.trans ((KeepsOthers.alloc _ _).from _)).trans ((KeepsOthers.drew _).from _))
     have hBWd:Below w.heap.size W wd:=HB.out.trans (hkd.mono (Nat.le_trans HBW.out.size hszr))
     have hsd:W.heap.size≤wd.heap.size:=Nat.le_trans hszr hkd.size
     have hfd:=hPd.found s
     have HLK:=Lib.hid (fun W' (h:Plc w.heap.size w2.heap.size T F W')=>h.look s hsl)
     have hmx:Tryz.prog.follows .mixedOrders=true:=by kernel_rfl
     have hG3:∀ W',Kep (fun b=>b≠w2.heap.size∧(found F s).ownBlock≠some b) wd W'→W'.cell? ⟨w2.heap.size+1,0,none⟩=some (.map (some w2.heap.size)):=fun W' hW=>(hCd.kep hW ⟨hCd.ne_map hPd.map,fun e=>hCd.not_ints (by decide) (hfd.2 _ e).2.2.1⟩).cell 0 _ rfl
     have hG7:∀ W',Kep (fun b=>b≠w2.heap.size∧(found F s).ownBlock≠some b) wd W'→W'.cell? ⟨wr.heap.size,1,none⟩=some (.int .i64 (k:Int)):=fun W' hW=>(hbt.kep hW ⟨hbt.ne_map hPd.map,fun e=>hbt.not_ints (by decide) (hfd.2 _ e).2.2.1⟩).cell 1 _ rfl
     have hend:∀ W',Kep (fun b=>b≠w2.heap.size∧(found F s).ownBlock≠some b) wd W'→BoxAt W' (w2.heap.size+1) 130 [.map (some w2.heap.size)]∧TokAt W' g ws∧BoxAt W' Bx 135 [.string ⟨nm.toArray⟩,.slice (some ⟨g,0,none⟩) ws.length ws.length]∧KeepsFrom w0.heap.size W W'∧Below w.heap.size W W'∧W.heap.size≤W'.heap.size:=fun W' hW=>by
      refine ⟨hCd.kep hW ⟨hCd.ne_map hPd.map,fun e=>hCd.not_ints (by decide) (hfd.2 _ e).2.2.1⟩,hTd.kep hW ⟨fun e=>tag_map hTd.1 (e▸hPd.map),fun e=>tag_ints hTd.1 (hfd.2 _ e).2.2.1⟩,hBd.kep hW ⟨hBd.ne_map hPd.map,fun e=>hBd.not_ints (by decide) (hfd.2 _ e).2.2.1⟩,hKFd.trans (keepsFrom_kep hW fun b hD hb hn => ?_),hBWd.trans (hW.below (by omega) fun b hb=>⟨by omega,fun e=>by have:=(hfd.2 _ e).1;omega⟩),Nat.le_trans hsd hW.size⟩
      by_cases e1:b=w2.heap.size
      ·omega
      ·by_cases e2:(found F s).ownBlock=some b
       ·obtain ⟨cur,fr,hc⟩:=(hfd.2 _ e2).2.2.1
        exact ⟨_,hc,rfl⟩
       ·exact absurd ⟨e1,e2⟩ hn
     have HG3:=Lib.hid hG3
     have HG7:=Lib.hid hG7
     have HEND:=Lib.hid hend
     have HPD:=Lib.hid hPd
     have HFD:=Lib.hid hfd
     have hkB:w.heap.size≤wd.heap.size:=by have:=HBW.out.size;omega
     have hTP:T=foldP [] (pairsI pre++pairsW nm (ws.take k) bs):=by rw [foldP_append,HT0.out,hT]
     have hql:(pairsI pre++pairsW nm (ws.take k) bs).length≤100000:=by
      rw [List.length_append,show (pairsW nm (ws.take k) bs).length=(ws.take k).length by simp [pairsW],List.length_take]
      have:=HPN.out
      omega
     have hpl:(posOf T s).length≤100000:=by rw [hTP];exact Nat.le_trans (posOf_len_le _ _) hql
     have htl:T.length≤100000:=by rw [hTP];exact Nat.le_trans (foldP_len_le _ _) (by simpa using hql)
     have HTL:=Lib.hid htl
     have HPL:=Lib.hid hpl
     clear hnx hT1 hF hkd hbt hPd hCd hBd hTd hKFd hBWd hfd hG3 hG7 hend HF HC HT HBX2 HKF HB HNX b1 c1 c2 hcat hT hpl hTP hql htl
     refine RF.beginR (T:=fun b=>b≠w2.heap.size∧(found F s).ownBlock≠some b) (.take 0<|.take 1<|.take 2<|.take 3<|.take 5<|.take 6<|.take 7<|.take 8<|.both 4 9 (.alone 9<|.alone 10<|.alone 11<|.done) (.alone 4<|.alone 10<|.alone 11<|.done)) hmx (by kernel_rfl) rfl (by kernel_rfl) (fun ⟨_,_,h⟩=>h) (by kernel_rfl) (fun _ _ d _ _ h=>by cases d<;>exact h) ?_
     simp only [RT.ordered,List.getElem?_toArray,List.getElem?_cons_succ,List.getElem?_cons_zero]
     rw [hwd]
     clear hwd
     repeat (refine RT.take (by rfl) (by intro W' hW;have g3:=HG3.out W' hW;have g7:=HG7.out W' hW;go_simp;with_reducible rfl) ?_;simp only [Act.put,List.setIfInBounds_toArray,List.set_cons_zero,List.set_cons_succ])
     have hwrp:IntKind.i64.wrap (bs+(k:Int))=bs+(k:Int):=by rw [IntWalk.i64_left];exact IntWalk.wrap64_in _ ⟨by omega,by omega⟩
     rw [hwrp]
     clear hwrp
     refine RT.both ?_ ?_
     ·refine RT.step (by rfl) (fun K hK => ?_)
      have hlk:=HLK.out wd HPD.out
      go_simp
      refine hK.out _ _ (Kep.refl _ _) ?_
      clear hK K hlk
      try simp only [Act.put,List.setIfInBounds_toArray,List.set_cons_zero,List.set_cons_succ]
      refine RT.alone (RT.step (by rfl) (fun K hK => ?_))
      go_simp
      refine hK.out _ _ (kep_alloc _ _ _) ?_
      clear hK K
      try simp only [Act.put,List.setIfInBounds_toArray,List.set_cons_zero,List.set_cons_succ]
      refine RT.alone (RT.step (by rfl) (fun K hK => ?_))
      have hpl:=HPL.out
      refine wp_append_s intE (S:=NoS) _ _ rfl (found F s) (posOf T s) wd [.int .i64 (bs+(k:Int))] (bs+(k:Int)) rfl rfl HFD.out.1 rfl rfl (by unfold maxLen;omega) (by omega) ?_
      intro v' w3 ho3 hk3 hg3 hk3'
      refine hK.out _ _ (hk3'.mono fun b hb=>hb.2) ?_
      clear hK K
      try simp only [Act.put,List.setIfInBounds_toArray,List.set_cons_zero,List.set_cons_succ]
      refine RT.alone (RT.step (by rfl) (fun K hK => ?_))
      have htl:=HTL.out
      refine wp_mapV_store Tryz.underlying130 _ _ _ rfl w2.heap.size T.length F rfl (HPD.out.map.kep hk3 fun e=>(HFD.out.2 _ e).2.1 rfl) (by unfold maxLen;omega) s v' rfl rfl hsl ?_
      intro w4 hm4 hk4
      refine hK.out _ _ (hk4.mono fun b hb=>hb.1) ?_
      clear hK K hpl htl
      have hput:=HPD.out.put hkB hk3 (OwnZ.of ho3) hg3 hm4 hk4
      rw [← HT1.out] at hput
      have hkep:Kep (fun b=>b≠w2.heap.size∧(found F s).ownBlock≠some b) wd w4:=(hk3.mono fun b hb=>hb.2).trans (hk4.mono fun b hb=>hb.1)
      obtain ⟨n1,n2,n3,n4,n5,n6⟩:=HEND.out w4 hkep
      have HF4:Hid (∃ F,Plc w.heap.size w2.heap.size (foldP T0 (pairsW nm (ws.take (k+1)) bs)) F w4):=Lib.hid ⟨_,hput⟩
      have HN1:=Lib.hid n1
      have HN2:=Lib.hid n2
      have HN3:=Lib.hid n3
      have HN4:=Lib.hid n4
      have HN5:=Lib.hid n5
      clear hput hkep n1 n2 n3 n4 n5 hm4 hk4 ho3 hk3 hg3 hk3'
      refine RT.done ?_
      gi_wp2
      have hlt:=HLT.out
      go_roundw
      case rel=>exact ⟨k+1,by omega,by go_num,HF4,HN1,HN2,HN3,HN4,HN5,n6⟩
      case measure=>simp [intOf];omega
     ·refine RT.step (by rfl) (fun K hK => ?_)
      go_simp
      refine hK.out _ _ (kep_alloc _ _ _) ?_
      clear hK K
      try simp only [Act.put,List.setIfInBounds_toArray,List.set_cons_zero,List.set_cons_succ]
      refine RT.alone (RT.step (by rfl) (fun K hK => ?_))
      have hlk:=HLK.out _ (HPD.out.below ((Below.refl _ _).alloc (Nat.le_refl _) (.cells #[.int .i64 (bs+(k:Int))] 3)))
      go_simp
      refine hK.out _ _ (Kep.refl _ _) ?_
      clear hK K hlk
      try simp only [Act.put,List.setIfInBounds_toArray,List.set_cons_zero,List.set_cons_succ]
      refine RT.alone (RT.step (by rfl) (fun K hK => ?_))
      have hpl:=HPL.out
      refine wp_append_s intE (S:=NoS) _ _ rfl (found F s) (posOf T s) wd [.int .i64 (bs+(k:Int))] (bs+(k:Int)) rfl rfl HFD.out.1 rfl rfl (by unfold maxLen;omega) (by omega) ?_
      intro v' w3 ho3 hk3 hg3 hk3'
      refine hK.out _ _ (hk3'.mono fun b hb=>hb.2) ?_
      clear hK K
      try simp only [Act.put,List.setIfInBounds_toArray,List.set_cons_zero,List.set_cons_succ]
      refine RT.alone (RT.step (by rfl) (fun K hK => ?_))
      have htl:=HTL.out
      refine wp_mapV_store Tryz.underlying130 _ _ _ rfl w2.heap.size T.length F rfl (HPD.out.map.kep hk3 fun e=>(HFD.out.2 _ e).2.1 rfl) (by unfold maxLen;omega) s v' rfl rfl hsl ?_
      intro w4 hm4 hk4
      refine hK.out _ _ (hk4.mono fun b hb=>hb.1) ?_
      clear hK K hpl htl
      have hput:=HPD.out.put hkB hk3 (OwnZ.of ho3) hg3 hm4 hk4
      rw [← HT1.out] at hput
      have hkep:Kep (fun b=>b≠w2.heap.size∧(found F s).ownBlock≠some b) wd w4:=(hk3.mono fun b hb=>hb.2).trans (hk4.mono fun b hb=>hb.1)
      obtain ⟨n1,n2,n3,n4,n5,n6⟩:=HEND.out w4 hkep
      have HF4:Hid (∃ F,Plc w.heap.size w2.heap.size (foldP T0 (pairsW nm (ws.take (k+1)) bs)) F w4):=Lib.hid ⟨_,hput⟩
      have HN1:=Lib.hid n1
      have HN2:=Lib.hid n2
      have HN3:=Lib.hid n3
      have HN4:=Lib.hid n4
      have HN5:=Lib.hid n5
      clear hput hkep n1 n2 n3 n4 n5 hm4 hk4 ho3 hk3 hg3 hk3'
      refine RT.done ?_
      gi_wp2
      have hlt:=HLT.out
      go_roundw
      case rel=>exact ⟨k+1,by omega,by go_num,HF4,HN1,HN2,HN3,HN4,HN5,n6⟩
      case measure=>simp [intOf];omega
    ·obtain rfl:k=ws.length:=by omega
     have q1:decide ((ws.length:Int)<(ws.length:Int))=false:=by simp
     have q2:decide (ws.length<ws.length)=false:=by simp
     gi_wp2
     refine ⟨HKF.out,HB.out,?_,HC.out,HBW.out.trans HB.out,?_⟩
     ·rw [HRES.out,foldP_append,HT0.out]
      have:=HF.out
      rw [List.take_length] at this
      exact this
     ·rw [HRES.out,List.length_append,List.length_append,List.length_singleton,show (pairsW nm ws bs).length=ws.length by simp [pairsW]]
      have:=HPN.out
      omega
  case stop =>
   rintro D pre W hD _ h _
   exact h.elim
  case done =>
   rintro D xs W hD hT hInv hK
   obtain ⟨⟨F,hF⟩,hC,hB,hN⟩:=hInv
   have hTT:foldP [] (pairsI xs)=termsF fs:=by rw [hT.told,List.take_length];rfl
   rw [hTT] at hF
   have hln:(termsF fs).length≤100000:=by
    rw [← hTT]
    have h1:=foldP_len_le (pairsI xs) ([]:List Trm)
    have h2:=hT.len
    simp only [List.length_nil,Nat.zero_add] at h1
    omega
   generalize termsF fs=T at *
   have HF:=Lib.hid hF
   have HB:=Lib.hid hB
   have HK:=Lib.hid hK
   have cC:=hC.cell 0 _ rfl
   have hl1:=fun ty=>MapV.len Tryz.underlying130 hF.map ty
   clear hF hB hK hT hTT hN hI0 hRB hv0
   simp only [Exit.then]
   apply_assumption
   refine wpIn_wide.2 ?_
   obtain ⟨iT,hiT,hzT0,hzT1,hzT2⟩:=info_parts (show (Tryz.prog.info? 120).map (fun i=>(i.zero,i.size,i.bytes))=some (some (.agg #[.string ⟨#[]⟩,.slice none 0 0]),2,40) by kernel_rfl)
   have hszW:=HB.out.size
   have HC:=Lib.hid hC
   clear hC
   go_wp2_with (first | (at_make;refine wpList_make_own W rfl _ _ 118 rfl w.heap.size 120 iT (.agg #[.string ⟨#[]⟩,.slice none 0 0]) 2 Tryz.underlying118 hiT hzT0 hzT1 .i64 .i64 _ T.length rfl rfl rfl (by rw [hzT2];omega) (by unfold maxLen;omega) hszW ?_;intro w3 ho3 hg3;have hb3:=(Below.refl W.heap.size W).grown hg3 (Nat.le_refl _) (fun k h=>by cases h);have HF3:=Lib.hid (HF.out.below hb3);have HB3:=Lib.hid (HB.out.trans (hb3.mono hszW));have HB30:=Lib.hid hb3;have cC3:=(HC.out.below hb3).cell 0 _ rfl;have HO3:=Lib.hid ho3;clear ho3 hg3 hb3) | (at_range;go_loud (refine wpList_range_map Tryz.underlying130 rfl _ rfl w2.heap.size _ _ rfl HF3.out.map ?_;intro w4 cnt0 hrg0 hb0 hs0)))
   have hd3:w3.heap[D]? = some (.deferred (some [])):=by
    have hl:=(Array.getElem?_eq_some_iff.1 HK.out).1
    exact (HB30.out.block D hl).trans HK.out
   have hd4:w4.heap[D]? = some (.deferred (some [])):=(hb0.block D (Array.getElem?_eq_some_iff.1 hd3).1).trans hd3
   have hDr:D<w3.heap.size:=(Array.getElem?_eq_some_iff.1 hd3).1
   have HO4:=Lib.hid (ownT_start (own_keep (B:=0) HO3.out hb0))
   have HF4:=Lib.hid (HF3.out.below hb0)
   have HB4:=Lib.hid (HB3.out.trans (hb0.mono HB3.out.size))
   have HR4:=Lib.hid hrg0
   have HD4:=Lib.hid hd4
   have HC0:=Lib.hid (Coll.start F)
   have hBr:w.heap.size≤w3.heap.size:=HB3.out.size
   have hmbr:w2.heap.size<w3.heap.size:=HF3.out.map.lt
   clear hd3 hd4 hb0 hs0 hrg0 HO3 HF3 HB3 HB30 cC3 HF HC HB HK hzT0 hzT1 hzT2 hiT
   go_frame
   go_loopw [9] (fun v wr=>∃ (d:List TCell) (left:List UInt8→Bool) (cnt g cp:Nat),v=.slice (some ⟨g,0,none⟩) d.length cp∧Hid (OwnC tcC 120 w.heap.size wr (.slice (some ⟨g,0,none⟩) d.length cp) d)∧Hid (Coll F left d)∧Hid (RangeV wr w2.heap.size w3.heap.size T.length F left cnt)∧Hid (Plc w.heap.size w2.heap.size T F wr)∧Hid (Below w.heap.size w wr)∧Hid (wr.heap[D]? = some (.deferred (some [])))) (fun _ wr=>wr.rangeLeft w2.heap.size w3.heap.size)
   case atStart=>exact ⟨[],_,cnt0,_,_,rfl,HO4,HC0,HR4,HF4,HB4,HD4⟩
   case round =>
    obtain ⟨d,left,cnt,g,cp,rfl,HO,HCL,HRG,HF,HB,HD⟩:=hrel
    clear HO4 HC0 HR4 HF4 HB4 HD4
    have hdl:=coll_len HF.out HCL.out
    go_wp2_with (at_next;go_loud (refine wpList_next_map rfl _ rfl w2.heap.size w3.heap.size _ _ left cnt rfl HRG.out ?_ ?_))
    ·intro hl0
     obtain ⟨hcells,hfr,hglt,hcp1,hcp2,hgB,htg⟩:=ownT_cells HO.out
     have hsort:=sort_any g cp d wr hcells hfr hglt (by omega)
     have HS:=Lib.hid hsort
     have HTG:=Lib.hid htg
     have HL0:=Lib.hid hl0
     clear hcells hfr hsort htg hl0
     go_wp2_with fail
     refine HS.out.mono ?_
     rintro e w6 ⟨rfl,d',hp',hs',hc',hk'⟩
     have HP':=Lib.hid hp'
     have HS':=Lib.hid hs'
     have HCC:=Lib.hid hc'
     have HKK:=Lib.hid hk'
     clear hp' hs' hc' hk' HS
     go_wp2_with fail
     have hne:D≠g:=fun e=>by
      obtain ⟨cur,fr,hc⟩:=HTG.out
      have:=HD.out
      rw [e,hc] at this
      cases this
     have hK6:w6.heap[D]? = some (.deferred (some [])):=(HKK.out.block D (Array.getElem?_eq_some_iff.1 HD.out).1 hne).trans HD.out
     have hg7:=grownBy_putObj' w6 D (.deferred none)
     have hk7:Kep (fun k=>k≠D) w6 (w6.putObj D (.deferred none)):=kep_grown hg7 fun k hk e=>e (Option.some.inj hk).symm
     have hP6:=HF.out.keep HKK.out (fun e=>terms_map HTG.out (e▸HF.out.map)) fun b hb e=>terms_ints HTG.out (e▸hb)
     have hP7:=hP6.keep hk7 (by omega) fun b hb e=>by
      obtain ⟨cur,fr,hc⟩:=hb
      rw [e,hK6] at hc
      cases hc
     have hg6:g<w6.heap.size:=Nat.lt_of_lt_of_le hglt HKK.out.size
     have hc7:CellsT (w6.putObj D (.deferred none)) g d':=fun i hi=>⟨(hk7.cell hg6 (fun e=>hne e.symm) _).trans (HCC.out i hi).1,(hk7.cell hg6 (fun e=>hne e.symm) _).trans (HCC.out i hi).2⟩
     have hrow:=coll_new hP7 HCL.out HL0.out HP'.out HS'.out hc7 (Nat.lt_of_lt_of_le hg6 hk7.size) hcp1 hcp2 hgB
     have hbl:Below w.heap.size w (w6.putObj D (.deferred none)):=(HB.out.trans (HKK.out.below HB.out.size fun k hk e=>by omega)).grown hg7 (Nat.le_trans HB.out.size HKK.out.size) fun k hk=>by
      have:=Option.some.inj hk
      omega
     refine ⟨by simp,.inl ⟨_,_,rfl,run_takeDeferred hK6,?_⟩⟩
     refine ⟨.slice (some ⟨g,0,none⟩) d.length cp,?_,_,rfl,hrow,hbl⟩
     simp [results,Tryz.f68,go_sem]
    ·intro n v w5 cnt5 hn hl hFn hrg5 hlt5 hk5 hsz5 hen
     obtain ⟨hz,hpne,_⟩:=HF.out.own n v hFn
     obtain ⟨pv,cv,rfl⟩:=hz.shape
     have hone:(Value.slice pv (posOf T n).length cv).oneCell'=true:=rfl
     have HNX:=Lib.hid (HCL.out.next hone hl hFn)
     have hog:∀ x,(Value.slice (some ⟨g,0,none⟩) d.length cp).ownBlock=some x→x=g:=fun x hx=>(Option.some.inj hx).symm
     obtain ⟨_,_,hglt,_,_,hgB,htg⟩:=ownT_cells HO.out
     have hgr:g≠w3.heap.size:=fun e=>terms_walk htg (e▸HRG.out)
     have htg5:TermsOf w5 g:=by
      obtain ⟨cur,fr,hc⟩:=htg
      exact ⟨cur,fr,(hk5.block g hglt hgr).trans hc⟩
     have HTG5:=Lib.hid htg5
     have hr5:=HRG.out.lt
     have HO5:=Lib.hid (ownT_kep HO.out hk5 fun x hx=>by rw [hog x hx];exact hgr)
     have hP5:=HF.out.keep hk5 (by omega) fun b hb e=>by
      obtain ⟨cur,fr,hc⟩:=hb
      subst e
      obtain ⟨Dd,lf,hr,_⟩:=HRG.out
      obtain ⟨es,clock,since,seen,c0,g1,g2,g3,g4,g5,rest⟩:=hr
      rw [hc] at g5
      cases g5
     have HP5:=Lib.hid hP5
     have HB5:=Lib.hid (HB.out.trans (hk5.below HB.out.size fun k hk e=>by omega))
     have HD5:=Lib.hid ((hk5.block D (Array.getElem?_eq_some_iff.1 HD.out).1 (by omega)).trans HD.out)
     have HR5:=Lib.hid hrg5
     have HLQ:=Lib.hid hrg5.left_eq
     have HRL:=Lib.hid HRG.out.left_eq
     have HCN:=Lib.hid hlt5
     have hB5:=HB5.out.size
     clear hrg5 hlt5 hFn hk5 hz hpne htg htg5 hr5 hP5 hl hsz5
     go_wp2_with (at_builtin;go_loud (refine wpList_append_c termE rfl _ _ rfl w.heap.size _ d w5 (encT (n,⟨.slice pv (posOf T n).length cv,hone⟩)) (n,⟨.slice pv (posOf T n).length cv,hone⟩) rfl rfl HO5.out rfl rfl (by unfold maxLen;omega) (by omega) hB5 ?_;intro v6 w6 ho6 hb6 hk6;obtain ⟨g6,cp6,rfl⟩:=ownT_some ho6 (by simp);have HO6:=Lib.hid ho6;have HBB6:=Lib.hid hb6;have HKK6:=Lib.hid hk6;clear ho6 hb6 hk6))
     have hk6:Kep (fun k=>k≠g) w5 w6:=(kep_alloc _ _ _).trans (HKK6.out.mono fun k hk e=>hk (hog k e))
     have hr5:=HR5.out.lt
     have hk6r:w3.heap.size≠g:=fun e=>hgr e.symm
     have hmg:w2.heap.size≠g:=fun e=>terms_map HTG5.out (e▸HP5.out.map)
     have HR6:=Lib.hid (HR5.out.kep hk6 hmg hk6r)
     have HP6:=Lib.hid (HP5.out.keep hk6 hmg fun b hb e=>terms_ints HTG5.out (e▸hb))
     have HB6:=Lib.hid (HB5.out.trans HBB6.out)
     have HD6:=Lib.hid ((hk6.block D (Array.getElem?_eq_some_iff.1 HD5.out).1 (fun e=>by
      obtain ⟨cur,fr,hc⟩:=HTG5.out
      have:=HD5.out
      rw [e,hc] at this
      cases this)).trans HD5.out)
     clear hk6 hr5 hk6r hmg
     go_wp2_with fail
     go_roundw
     case rel=>exact ⟨_,_,cnt5,g6,cp6,(by rw [List.length_append];rfl),HO6,HNX,HR6,HP6,HB6,HD6⟩
     case measure =>
      rw [HRL.out,HR6.out.left_eq]
      exact HCN.out
 ·have e0:termsE (z,fs)=[]:=by unfold termsE;rw [if_pos h0]
  rw [e0]
  obtain ⟨c,hc⟩:∃ c,checkE (z,fs)=c:=⟨_,rfl⟩
  rw [hc] at HCK h0
  have q1:(c != 0)=true:=by simp [h0]
  clear e0 hc h0 hr
  go_enter Tryz.func68,Tryz.ntmps68
  go_wp2_with fail
  refine HCK.out.mono ?_
  rintro e w2 ⟨rfl,hb2⟩
  have HB2:=Lib.hid (grow HBX.out hb2)
  clear hb2
  go_wp2_with fail
  go_ret
  exact ⟨_,rfl,ROn.nil_ _ _,HB2.out⟩
end Go.Proofs.YtidhgicajlaafaaGreat.EV
