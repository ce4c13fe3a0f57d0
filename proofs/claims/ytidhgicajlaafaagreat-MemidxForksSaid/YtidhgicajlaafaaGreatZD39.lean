import Derived.Test.YtidhgicajlaafaaGreatZD38
set_option maxRecDepth 100000
set_option maxHeartbeats 8000000
set_option linter.unusedVariables false
set_option linter.unusedSimpArgs false
namespace Go.Proofs.YtidhgicajlaafaaGreat.MX
open Go Go.RowKit MM EM SM
open SG (PostD postC postE Tab found post_on)
open RM (rowsE)
def Part (B n i:Nat) (w:World) (v:Value) (ps:List PostD):Prop :=
 ∃ raw:List (List Value),w.ownsRow B 75 2 v ps.length raw.flatten∧raw.length=ps.length∧∀ (j:Nat) (h:j<raw.length) (h':j<ps.length),postC.on (fun b=>(if j<i then n≤b else b<B)∧v.ownBlock≠some b) w raw[j] ps[j]
section
variable {B n i : Nat} {w w' : World} {v : Value} {ps : List PostD}
theorem Part.start (h:OwnX postC 75 B (fun b=>b<B) w v ps):Part B n 0 w v ps:=by
 obtain ⟨raw,h1,h2⟩:=h
 refine ⟨raw,h1,h2.1,fun j hj hj'=>Codec.weak postC (h2.2 j hj hj') fun b _ hb=>⟨by rw [if_neg (by omega)];exact hb,fun e => ?_⟩⟩
 have:=(World.ownsRow.lt h1 b e).1
 omega
theorem part_lens {raw:List (List Value)} {S:Nat→Nat→Prop} (h2:raw.length=ps.length) (h3:∀ (j:Nat) (h:j<raw.length) (h':j<ps.length),postC.on (S j) w raw[j] ps[j]):∀ r∈raw,r.length=2:=fun r hr=>by
 obtain ⟨j,hj,rfl⟩:=List.getElem_of_mem hr
 exact postC.len (h3 j hj (by omega))
theorem Part.keep (h:Part B n i w v ps) (hb:Below w.heap.size w w'):Part B n i w' v ps:=by
 obtain ⟨raw,h1,h2,h3⟩:=h
 exact ⟨raw,own_row_kep h1 (kep_below (fun _=>True) hb) fun _ _=>trivial,h2,fun j hj hj'=>postC.keep (h3 j hj hj') (kep_below _ hb) fun _ _ h=>h⟩
theorem Part.shape (h:Part B n i w v ps):∃ p cap,v=.slice p ps.length cap∧ps.length≤cap∧cap≤maxLen∧(∀ a,p=some a→∃ g,a=⟨g,0,none⟩∧B≤g∧g<w.heap.size)∧(p=none→ps=[]):=by
 obtain ⟨raw,h1,h2,h3⟩:=h
 have h1':=h1
 rcases h1.2 with ⟨hv,hx⟩ | ⟨g,cap,cur,hv,hb,hh,hn,hm,hs,ht⟩
 ·have hl:ps.length=0:=by
   have h5:=h1.1
   first | exact hx.1 | exact hx | exact hx.symm | omega
  exact ⟨none,0,by rw [hv,hl],by omega,by unfold maxLen;omega,fun a h=>(by cases h),fun _=>List.eq_nil_of_length_eq_zero hl⟩
 ·refine ⟨some ⟨g,0,none⟩,cap,hv,hn,hm,fun a h=>⟨g,(Option.some.inj h).symm,?_⟩,fun h=>(by cases h)⟩
  exact World.ownsRow.lt h1' g (by rw [hv];rfl)
theorem Part.elem {g cap:Nat} (h:Part B n i w (.slice (some ⟨g,0,none⟩) ps.length cap) ps) (hi:i<ps.length) (hg:g<n) :
  ∃ u,w.cell? ⟨g,i*2+1,none⟩=some u∧w.frozen? ⟨g,i*2+1,none⟩=false∧RAny cInt w u ps[i].2 ∧
    ∀ u',ROn cInt (fun b=>n≤b) w u' ps[i].2→Part B n (i+1) (w.setCell ⟨g,i*2+1,none⟩ u') (.slice (some ⟨g,0,none⟩) ps.length cap) ps:=by
 obtain ⟨raw,h1,h2,h3⟩:=h
 have hl2:=part_lens (S:=fun j b=>(if j<i then n≤b else b<B)∧(Value.slice (some ⟨g,0,none⟩) ps.length cap).ownBlock≠some b) h2 h3
 have hk':i<raw.length:=by omega
 obtain ⟨u,he,hr⟩:=post_on.1 (h3 i hk' hi)
 have hcell:∀ j x,raw[i][j]? = some x→w.cell? ⟨g,i*2+j,none⟩=some x:=fun j x hj=>by
  have hf:=flat_get hl2 i hk' j x hj
  have hlt:=(List.getElem?_eq_some_iff.1 hf).1
  rw [World.ownsRow.cellAt h1 _ (by rw [flat_len hl2,h2] at hlt;exact hlt)]
  exact hf
 refine ⟨u,hcell 1 u (by rw [he];rfl),World.ownsRow.frozenAt h1 _,hr.any,fun u' hu' => ?_⟩
 have hs:=(World.ownsRow.stored h1 (i*2+1) u').1
 rw [flat_set hl2 i hk' 1 u' (by omega)] at hs
 have hkp:Kep (fun b=>b≠g) w (w.setCell ⟨g,i*2+1,none⟩ u'):=kep_set (by simp) u'
 refine ⟨raw.set i (raw[i].set 1 u'),hs,by rw [List.length_set,h2],fun j hj hj' => ?_⟩
 rw [List.length_set] at hj
 by_cases hij:j=i
 ·subst hij
  rw [List.getElem_set_self,he]
  refine postC.keep (S:=fun b=>n≤b) (post_on.2 ⟨u',rfl,hu'⟩) (hkp.mono fun b hb=>by omega) fun b _ hb=>⟨by rw [if_pos (by omega)];exact hb,fun e => ?_⟩
  have:g=b:=by simpa [Value.ownBlock] using e
  omega
 ·rw [List.getElem_set_ne (fun e=>hij e.symm)]
  refine postC.keep (h3 j hj hj') (hkp.mono fun b hb=>fun e=>hb.2 (by rw [e];rfl)) fun b _ hb=>⟨?_,hb.2⟩
  have h5:=hb.1
  by_cases hji:j<i
  ·rw [if_pos hji] at h5
   rw [if_pos (by omega)]
   exact h5
  ·rw [if_neg hji] at h5
   rw [if_neg (by omega)]
   exact h5
theorem Part.own (h:Part B n ps.length w v ps):OwnX postC 75 B (fun b=>n≤b) w v ps:=by
 obtain ⟨raw,h1,h2,h3⟩:=h
 exact ⟨raw,h1,h2,fun j hj hj'=>Codec.weak postC (h3 j hj hj') fun b _ hb=>by have:=hb.1;rw [if_pos hj'] at this;exact this⟩
theorem Part.done (h:Part B n ps.length w v ps) (hn:B≤n):ROn postC (fun b=>B≤b) w v ps :=
 h.own.ron (fun g hg=>(h.own.cells hg).1) fun b _ hb=>Nat.le_trans hn hb
end
def PostsBack (ps:List PostD) (w:World) (e:Ending) (w':World):Prop:=(∃ u,e=.returned u∧ROn postC (fun b=>w.heap.size≤b) w' u ps)∧Below w.heap.size w w'
def PostsOwn (ps:List PostD) (w:World) (e:Ending) (w':World):Prop:=(∃ u,e=.returned u∧∃ n,w.heap.size≤n∧(∀ g,u.ownBlock=some g→g<n)∧OwnX postC 75 w.heap.size (fun b=>n≤b) w' u ps)∧Below w.heap.size w w'
def FewP (ps:List PostD):Prop:=ps.length≤1000000000000∧∀ p∈ps,p.2.length≤2000000
theorem rposts_own (mp:Option Nat) (fv:Value) (s:List UInt8) (ps:List PostD) (w:World) (hlk:∀ W,Below w.heap.size w W→(Instr.lookup 58 (.map mp) (.string ⟨s.toArray⟩) false).run Tryz.prog W=.ok fv W) (hr:RAny postC w fv ps) (hf:FewP ps) :
  Calls Tryz.prog 32 #[.map mp,.string ⟨s.toArray⟩] w (PostsOwn ps w):=by
 obtain ⟨pf,cf,rfl,_⟩:=hr.shape
 have hlk0:=hlk w (Below.refl _ _)
 have HC:=Lib.hid (clonep_any (.slice pf ps.length cf) ps w hr hf.1)
 have HF:=Lib.hid hf.2
 have hn:=hf.1
 clear hlk hr hf
 go_enter Tryz.func32,Tryz.ntmps32
 go_wp2_with fail
 refine HC.out.mono ?_
 rintro e w1 ⟨u,rfl,hu,hb1⟩
 have hp1:=Part.start (n:=w1.heap.size) hu
 obtain ⟨p,cap,rfl,hcl,hcm,hpg,hpn⟩:=hp1.shape
 unfold maxLen at hcm
 have HP1:=Lib.hid hp1
 have HB1:=Lib.hid hb1
 have HPN:=Lib.hid hpn
 have hg1:∀ a,p=some a→∃ g,a=⟨g,0,none⟩∧g<w1.heap.size:=fun a h=>by obtain ⟨g,h1,_,h2⟩:=hpg a h;exact ⟨g,h1,h2⟩
 have HPG:=Lib.hid hg1
 obtain ⟨n1,hn1⟩:∃ n1,w1.heap.size=n1:=⟨_,rfl⟩
 rw [hn1] at HP1 HPG
 have hbn:w.heap.size≤n1:=by rw [← hn1];exact HB1.out.size
 have HN1:=Lib.hid hn1
 clear hu hb1 hp1 hpg hpn hg1 HC hlk0 hn1
 go_wp2_with fail
 go_loopw [13] (fun iv wr=>∃ i:Nat,i≤ps.length∧iv=.int .i64 i∧Hid (Part w.heap.size n1 i wr (.slice p ps.length cap) ps)∧Hid (Below w.heap.size w wr)∧Hid (n1≤wr.heap.size)) (fun iv _=>ps.length - (intOf iv).toNat)
 case atStart=>exact ⟨0,by omega,rfl,HP1,HB1,Lib.hid (by rw [HN1.out];exact Nat.le_refl _)⟩
 case round =>
  obtain ⟨i,hi,rfl,HP,HB,HS⟩:=hrel
  clear HP1 HB1
  by_cases hlt:i<ps.length
  ·have q1:decide ((i:Int)<(ps.length:Int))=true:=by rw [decide_eq_true_eq];omega
   have q2:decide (i<ps.length)=true:=by rw [decide_eq_true_eq];omega
   have q3:(i:Int)<(ps.length:Int):=by omega
   cases p with
   | none=>exact absurd (HPN.out rfl) (by intro h;rw [h] at hlt;simp at hlt)
   | some a =>
     obtain ⟨g,rfl,hg⟩:=HPG.out a rfl
     obtain ⟨u,c1,f1,hu,hst⟩:=HP.out.elem hlt hg
     have hz:=HF.out ps[i] (List.getElem_mem hlt)
     obtain ⟨zs,hzs⟩:∃ zs,(ps[i]).2=zs:=⟨_,rfl⟩
     have HZS:=Lib.hid (show ∀ h:i<ps.length,(ps[i]).2=zs from fun _=>hzs)
     rw [hzs] at hu hz
     obtain ⟨pu,cu,rfl,_⟩:=hu.shape
     have HC:=Lib.hid (clonei_any (.slice pu zs.length cu) zs wr hu hz)
     have HLT:=Lib.hid hlt
     have HHG:=Lib.hid hg
     have HNG:=Lib.hid (fun W (hb:Below wr.heap.size wr W)=>(hb.cell (p:=⟨g,i*2+1,none⟩) (show g<wr.heap.size by have:=HS.out;omega)).trans c1)
     clear hst f1 hu hz hzs hg hlt
     go_wp2_with fail
     refine HC.out.mono ?_
     rintro e w2 ⟨u2,rfl,hu2,hb2⟩
     obtain ⟨pu2,cu2,rfl,_⟩:=hu2.shape
     have hp2:=HP.out.keep hb2
     obtain ⟨u3,c3,f3,_,hst⟩:=hp2.elem HLT.out HHG.out
     have hnx:=hst (.slice pu2 zs.length cu2) (by rw [HZS.out HLT.out];exact hu2.weak fun b _ h=>Nat.le_trans HS.out h)
     obtain ⟨w3,hw3⟩:∃ w3,w2.setCell ⟨g,i*2+1,none⟩ (.slice pu2 zs.length cu2)=w3:=⟨_,rfl⟩
     have hgB:w.heap.size≤g:=by
      obtain ⟨p9,c9,h9,_,_,h8,_⟩:=hp2.shape
      simp only [Value.slice.injEq] at h9
      obtain ⟨g9,e9,h7,_⟩:=h8 _ h9.1.symm
      injection e9 with e9
      omega
     have hks:Kep (fun b=>b≠g) w2 (w2.setCell ⟨g,i*2+1,none⟩ (.slice pu2 zs.length cu2)):=kep_set (by simp) _
     rw [hw3] at hnx hks
     have hb02:=HB.out.trans (hb2.mono HB.out.size)
     have HNX:=Lib.hid hnx
     have HB3:=Lib.hid (hb02.trans (hks.below hb02.size fun k hk=>by omega))
     have HS3:=Lib.hid (Nat.le_trans HS.out (Nat.le_trans hb2.size hks.size))
     have HW3:=Lib.hid hw3
     have c4:=HNG.out w2 hb2
     have hlt:=HLT.out
     have q3:(i:Int)<(ps.length:Int):=by omega
     clear hst hnx hks hw3 hu2 hb2 hp2 hb02 hgB HC HP HB HS HNG c1 c3
     go_wp2_with (rw [HW3.out])
     go_roundw
     case rel=>exact ⟨i+1,by omega,by go_num,HNX,HB3,HS3⟩
     case measure=>simp [intOf];omega
  ·obtain rfl:i=ps.length:=by omega
   have q1:decide ((ps.length:Int)<(ps.length:Int))=false:=by simp
   have q2:decide (ps.length<ps.length)=false:=by simp
   have HROW:=Lib.hid (show ∃ n,w.heap.size≤n∧(∀ g,(Value.slice p ps.length cap).ownBlock=some g→g<n)∧OwnX postC 75 w.heap.size (fun b=>n≤b) wr (.slice p ps.length cap) ps from ⟨n1,hbn,fun g hg=>by
    cases p with
    | none=>cases hg
    | some a =>
      obtain ⟨g',rfl,h⟩:=HPG.out a rfl
      have:g'=g:=by simpa [Value.ownBlock] using hg
      omega,HP.out.own⟩)
   clear hlt HP
   go_wp2_with fail
   go_ret
   exact ⟨⟨_,rfl,HROW.out⟩,HB.out⟩
theorem rposts_at (mp:Option Nat) (fv:Value) (s:List UInt8) (ps:List PostD) (w:World) (hlk:∀ W,Below w.heap.size w W→(Instr.lookup 58 (.map mp) (.string ⟨s.toArray⟩) false).run Tryz.prog W=.ok fv W) (hr:RAny postC w fv ps) (hf:FewP ps) :
  Calls Tryz.prog 32 #[.map mp,.string ⟨s.toArray⟩] w (PostsBack ps w) :=
 (rposts_own mp fv s ps w hlk hr hf).mono fun e w' ⟨⟨u,he,n,hn,_,ho⟩,hb⟩=>⟨⟨u,he,ho.ron (fun g hg=>(ho.cells hg).1) fun b _ h=>Nat.le_trans hn h⟩,hb⟩
theorem fewp_rows {l:List Doc} (h:BigM l) (s:List UInt8):FewP (posOf (rowsE (evM l)) s):=by
 refine ⟨posts_big h s,fun p hp => ?_⟩
 have hn:posOf (rowsE (evM l)) s≠[]:=fun e=>by rw [e] at hp;cases hp
 have h1:=(RM.rowsE_may (es:=evM l) (by rw [evM_len];exact h.1) (RM.posOf_some hn)).1
 have h2:=((PM.isL_iff _).1 h1).2 p hp
 have:=PM.riseL_len h2.2
 omega
theorem posts_idx {A:Nat→Prop} {w:World} {g:Nat} {l:List Doc} (h:Idx A w g l) (s:List UInt8) (hs:s.length≤maxLen):Calls Tryz.prog 9 #[.pointer (some ⟨g,0,none⟩),.string ⟨s.toArray⟩] w (PostsBack (posOf (rowsE (evM l)) s) w):=by
 obtain ⟨dp,dc,mb,X,F,hp,_,hr⟩:=h.cellp
 have hfw:=fewp_rows h.big s
 have HO:=Lib.hid (ornone_p hp)
 have HC:=Lib.hid (fun W (hb:Below w.heap.size w W)=>rposts_at (some mb) (found F s) s (posOf (rowsE (evM l)) s) W (fun W2 hb2=>tlook ((hr.tab.below hb).below hb2) s hs) (OwnS.any ((hr.tab.below hb).found s).1) hfw)
 clear h hp hr hfw
 go_enter Tryz.func9,Tryz.ntmps9
 go_wp2_with fail
 refine HO.out.mono ?_
 rintro e w1 ⟨rfl,hb⟩
 have HB:=Lib.hid hb
 have HC1:=Lib.hid (HC.out w1 hb)
 unfold ixA
 have f1:=ix_f2 (.int .i64 (l.length:Int)) (.int .i64 (sizeM l:Int)) (.int .i64 (timesM l).1) (.int .i64 (timesM l).2.1) (.int .i64 (seqsM l).1) (.int .i64 (seqsM l).2) (.slice dp l.length dc) (.map (some mb)) w1
 clear hb HO HC
 go_wp2_with fail
 refine HC1.out.mono ?_
 rintro e w2 ⟨⟨u,rfl,hu⟩,hb2⟩
 obtain ⟨pu,cu,rfl,_⟩:=hu.shape
 have HQ:=Lib.hid (show PostsBack (posOf (rowsE (evM l)) s) w (.returned (.slice pu (posOf (rowsE (evM l)) s).length cu)) w2 from ⟨⟨_,rfl,hu.weak fun b _ h=>Nat.le_trans HB.out.size h⟩,HB.out.trans (hb2.mono HB.out.size)⟩)
 clear hu hb2 HC1
 go_wp2_with fail
 go_ret
 exact HQ.out
end Go.Proofs.YtidhgicajlaafaaGreat.MX
