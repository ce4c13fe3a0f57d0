import Derived.Test.YtdfbkhpkffpckaaZB50
import Derived.Test.YtdfbkhpkffpckaaZB54
set_option maxRecDepth 100000
set_option maxHeartbeats 8000000
set_option linter.unusedVariables false
set_option linter.unusedSimpArgs false
namespace Go.Proofs.Ytdfbkhpkffpckaa.MX
open Go Go.RowKit MM EM SM
open EV (docC evC ev_on fldC batC doc_at)
open SG (PostD postC post_on)
open RM (rowsE)
open PW (findL)
theorem pon_one (w:World) (d:Int) (v:Value) (zs:List Int) (h:PW.IOn (fun _=>True) w v zs):PW.PRow (w.alloc (.cells #[.int .i64 d,v] 69)) (.slice (some ⟨w.heap.size,0,none⟩) 1 1) [(d,zs)]:=by
 have hb:Below w.heap.size w (w.alloc (.cells #[.int .i64 d,v] 69)):=(Below.refl _ _).alloc (Nat.le_refl _) _
 have hx:=heap_alloc_new w (.cells #[.int .i64 d,v] 69)
 refine ⟨some ⟨w.heap.size,0,none⟩,1,[(d,v)],rfl,Nat.le_refl _,by unfold maxLen;omega,(fun h=>by cases h),⟨rfl,fun i hi hi' => ?_⟩,.inr ⟨w.heap.size,0,rfl,by simp,trivial,fun i hi => ?_⟩⟩
 ·obtain rfl:i=0:=by simpa using hi
  exact ⟨rfl,PW.IOn.keep h (kep_below _ hb) fun _ _ h=>h⟩
 ·obtain rfl:i=0:=by simpa using hi
  exact ⟨row_cell hx 0,row_cell hx 1⟩
def Held3 (w:World) (e:Ending) (w':World):Prop:=e=.returned (.bool true)∧Below w.heap.size w w'
theorem apart_call (v:Value) (bs0:List Bat) (s0:List UInt8) (w:World) (hv:RAny batC w v bs0) (hs0:s0.length≤maxLen):Calls Try.prog 6 #[v,.string ⟨s0.toArray⟩] w (Held3 w):=by
 have HF:=Lib.hid (few_any v bs0 w hv)
 obtain ⟨pv,cv,rfl,_⟩:=hv.shape
 clear hv
 go_enter Try.func6,Try.ntmps6
 go_wp2_with fail
 refine HF.out.mono ?_
 rintro e w1 ⟨vv,ok,bs,rfl,hbs,hb1⟩
 obtain ⟨p,cap,rfl,hlc,hcm,_⟩:=hbs.shape
 have HB1:=Lib.hid hb1
 cases ok with
 | false =>
   have HAW:=Lib.hid (awake_any w1)
   clear hbs hb1 HF
   go_wp2_with fail
   refine HAW.out.mono ?_
   rintro e w3 ⟨rfl,hb3⟩
   have HB3:=Lib.hid (HB1.out.trans (hb3.mono HB1.out.size))
   clear hb3
   go_wp2_with fail
   go_ret
   exact ⟨rfl,HB3.out⟩
 | true =>
   have HSH:=Lib.hid (short_any s0 w1 hs0)
   have HFI:=Lib.hid (filled_any (.slice p bs.length cap) bs w1 hbs)
   obtain ⟨s,hs⟩:∃ s,s0.take 80=s:=⟨_,rfl⟩
   rw [hs] at HSH
   have hsl:s.length≤maxLen:=by rw [← hs,List.length_take];unfold maxLen;omega
   have hmx:Try.prog.follows .mixedOrders=true:=by kernel_rfl
   clear hbs hb1 HF hs
   go_wp2_with fail
   refine HSH.out.mono ?_
   rintro e w1' ⟨rfl,rfl⟩
   go_wp2_with fail
   refine HFI.out.mono ?_
   rintro e w2 ⟨g,A,l,rv,rfl,hI,hA,hra,hrr,hb2⟩
   obtain ⟨pr,cr,rfl,_⟩:=hra.shape
   obtain ⟨w3,hw3⟩:∃ w3,w2.alloc (.cells #[.slice pr l.length cr] 49)=w3:=⟨_,rfl⟩
   have hb3:Below w2.heap.size w2 w3:=by rw [← hw3];exact (Below.refl _ _).alloc (Nat.le_refl _) _
   have hbig:=hI.big
   have HBIG:=Lib.hid hbig
   have HI3:=Lib.hid (hI.below hb3)
   have HDO:=Lib.hid (docs_idx (hI.below hb3))
   have HB3:=Lib.hid (HB1.out.trans ((hb2.trans (hb3.mono hb2.size)).mono HB1.out.size))
   have HW3:=Lib.hid hw3
   clear hI hA hra hrr hb2 hw3 hb3 hbig HSH HFI HB1
   go_wp2_with (rw [HW3.out])
   refine HDO.out.mono ?_
   rintro e w4 ⟨⟨u,rfl,hu⟩,hb4⟩
   obtain ⟨pd,cd,rfl,hdc,hdm,_⟩:=hu.shape
   have HLM:Hid (l.length≤2^63 - 1):=Lib.hid (by unfold maxLen at hdm;omega)
   have HU4:=Lib.hid hu.any
   have HP:=Lib.hid (posts_idx (HI3.out.below hb4) s hsl)
   obtain ⟨ps,hps⟩:∃ ps,posOf (rowsE (evM l)) s=ps:=⟨_,rfl⟩
   rw [hps] at HP
   have HPS:=Lib.hid hps
   have HB4:=Lib.hid (HB3.out.trans (hb4.mono HB3.out.size))
   clear hu hb4 hps HDO HI3 HB3 HW3
   go_wp2_with fail
   refine HP.out.mono ?_
   rintro e w5 ⟨⟨u5,rfl,hu5⟩,hb5⟩
   obtain ⟨pp,cp,rfl,_⟩:=hu5.shape
   have HU5:=Lib.hid (HU4.out.below hb5)
   have HP5:=Lib.hid (SG.ron_pon hu5.any).row
   have HB5:=Lib.hid (HB4.out.trans (hb5.mono HB4.out.size))
   clear hu5 hb5 HP HU4 HB4
   go_wp2_with fail
   have HBW5:=Lib.hid (Below.refl w5.heap.size w5)
   go_loopw [10] (fun kv wr=>∃ k:Nat,k≤l.length∧kv=.int .i64 k∧Hid (Below w5.heap.size w5 wr)) (fun kv _=>l.length - (intOf kv).toNat)
   case atStart=>exact ⟨0,by omega,rfl,HBW5⟩
   case round =>
    obtain ⟨k,hk,rfl,HBW⟩:=hrel
    clear HBW5
    by_cases hlt:k<l.length
    ·have q1:decide ((k:Int)<(l.length:Int))=true:=by rw [decide_eq_true_eq];omega
     have q2:decide (k<l.length)=true:=by rw [decide_eq_true_eq];omega
     have q3:(k:Int)<(l.length:Int):=by omega
     have HN:=Lib.hid (new_any wr)
     have HLT:=Lib.hid hlt
     clear hlt
     go_wp2_with fail
     refine HN.out.mono ?_
     rintro e w6 ⟨g2,rfl,hi6,hg6,hb6⟩
     have HW5:=Lib.hid (HBW.out.size)
     have hb56:Below w5.heap.size w5 w6:=HBW.out.trans (hb6.mono HBW.out.size)
     have hud:RBel docC w5.heap.size w6 (.slice pd l.length cd) l:=RBel.below (RAny.bel HU5.out) hb56
     obtain ⟨b,off,fv,rfl,hbl,hbn,k0,k1,k2,hf⟩:=doc_at hud HLT.out
     have hlk:=HLT.out
     replace k1:w6.cell? ⟨b,off+k*3+1,none⟩=some (.int .i64 (l[k]).2.1):=k1
     replace hf:ROn fldC (fun b=>b<w5.heap.size) w6 fv (l[k]).2.2:=hf
     have hmem:l[k]∈l:=List.getElem_mem hlk
     have hadd:=alone_add HBIG.out hmem
     have hfnd:=find_doc hlk s
     rw [HPS.out] at hfnd
     obtain ⟨⟨sq,⟨t,fs⟩⟩,hd⟩:∃ d,l[k]=d:=⟨_,rfl⟩
     rw [hd] at k1 hf hadd hfnd
     change ROn fldC _ w6 fv fs at hf
     change w6.cell? ⟨b,off+k*3+1,none⟩=some (.int .i64 t) at k1
     obtain ⟨pf,cf,rfl,_⟩:=hf.shape
     have k3:w6.cell? ⟨b,off+k*3+1+1,none⟩=some (.slice pf fs.length cf):=k2
     obtain ⟨w7,hw7⟩:∃ w7,w6.alloc (.cells #[.int .i64 t,.slice pf fs.length cf] 33)=w7:=⟨_,rfl⟩
     have hb7:Below w6.heap.size w6 w7:=by rw [← hw7];exact (Below.refl _ _).alloc (Nat.le_refl _) _
     have hev:ROn evC (fun k=>k<w5.heap.size∨w6.heap.size≤k) w7 (.slice (some ⟨w6.heap.size,0,none⟩) 1 1) [(t,fs)]:=by
      rw [← hw7]
      refine ROn.weak (ron_lit (e:=33) (S:=fun k=>k<w5.heap.size) w6 [[.int .i64 t,.slice pf fs.length cf]] [(t,fs)] (by unfold maxLen;simp) (Mean.single ((ev_on (e:=(t,fs))).2 ⟨_,rfl,hf⟩))) fun k _ h => ?_
      rcases h with h | h
      ·exact .inl h
      ·exact .inr (by omega)
     have HAD:=Lib.hid (add_idx _ g2 [] 1 _ [(t,fs)] w7 (hi6.below hb7) (hev.weak fun k _ h hA=>by have h1:=hA.1;have h2:=hA.2;have:=HW5.out;omega))
     have HB67:=Lib.hid (hb6.trans (hb7.mono hb6.size))
     have HADD:=Lib.hid hadd
     have HFND:=Lib.hid hfnd
     have HW7:=Lib.hid hw7
     clear hb56 hud hbn k0 k2 hf hmem hadd hfnd hd hw7 hb7 hev hi6 hb6 HN
     go_wp2_with (rw [HW7.out])
     refine HAD.out.mono ?_
     rintro e w8 ⟨rfl,hi8,hk8⟩
     rw [HADD.out] at hi8 ⊢
     have hb8:Below wr.heap.size wr w8:=HB67.out.trans (hk8.below HB67.out.size fun k hk h=>by have:=h.1;omega)
     have HB8:=Lib.hid hb8
     have hp8:=posts_idx hi8 s hsl
     have hev1:posOf (rowsE (evM [((1:Int),(t,fs))])) s=if posOf (termsE (t,fs)) s=[] then [] else [(0,posOf (termsE (t,fs)) s)]:=alone_posts (t,fs) s
     obtain ⟨PT,hPT⟩:∃ PT,posOf (termsE (t,fs)) s=PT:=⟨_,rfl⟩
     rw [hPT] at hev1 HFND
     rw [hev1] at hp8
     have HP8:=Lib.hid hp8
     clear hi8 hk8 hb8 hp8 hev1 hPT HAD HB67 k1 k3 hbl
     go_wp2_with fail
     refine HP8.out.mono ?_
     rintro e w9 ⟨⟨u9,rfl,hu9⟩,hb9⟩
     have hb59:Below w5.heap.size w5 w9:=HBW.out.trans ((HB8.out.trans (hb9.mono HB8.out.size)).mono HBW.out.size)
     have HFI:=Lib.hid (PW.rfind_any (.slice pp ps.length cp) ps (k:Int) w9 (HP5.out.below hb59))
     rw [HFND.out] at HFI
     have HB9:=Lib.hid hb59
     by_cases hpt:PT=[]
     case' pos =>
      subst hpt
      rw [if_pos rfl] at hu9 HFI
      obtain ⟨p9,c9,rfl,_⟩:=hu9.shape
      clear hu9 hb9 hb59
      go_wp2_with fail
      refine HFI.out.mono ?_
      rintro e w10 ⟨u10,rfl,hz10,hb10⟩
      obtain ⟨p10,c10,rfl,_⟩:=hz10.shape
      have HB10:=Lib.hid (HB9.out.trans (hb10.mono HB9.out.size))
      clear hz10 hb10 HFI
      go_wp2_with fail
     case' neg =>
      rw [if_neg hpt] at hu9 HFI
      obtain ⟨p9,c9,rfl,_⟩:=hu9.shape
      have HU9:=Lib.hid hu9.any
      clear hu9 hb9 hb59
      go_wp2_with fail
      refine HFI.out.mono ?_
      rintro e w10 ⟨u10,rfl,hz10,hb10⟩
      replace hz10:PW.IOn (fun _=>True) w10 u10 PT:=hz10
      obtain ⟨p10,c10,rfl,_⟩:=hz10.shape
      obtain ⟨w11,hw11⟩:∃ w11,w10.alloc (.cells #[.int .i64 0,.slice p10 PT.length c10] 69)=w11:=⟨_,rfl⟩
      have hb11:Below w10.heap.size w10 w11:=by rw [← hw11];exact (Below.refl _ _).alloc (Nat.le_refl _) _
      have hpr:PW.PRow w11 (.slice (some ⟨w10.heap.size,0,none⟩) 1 1) [(0,PT)]:=by rw [← hw11];exact pon_one w10 0 _ PT hz10
      have HSA:=Lib.hid (PW.rsame_any (.slice p9 1 c9) (.slice (some ⟨w10.heap.size,0,none⟩) 1 1) [(0,PT)] [(0,PT)] w11 (SG.ron_pon ((HU9.out.below hb10).below hb11)).row hpr)
      rw [decide_eq_true rfl] at HSA
      have HB11:=Lib.hid ((HB9.out.trans (hb10.mono HB9.out.size)).trans (hb11.mono (HB9.out.trans (hb10.mono HB9.out.size)).size))
      have HW11:=Lib.hid hw11
      clear hz10 hb10 hw11 hb11 hpr HFI HU9
      go_wp2_with (rw [HW11.out])
      refine HSA.out.mono ?_
      rintro e w12 ⟨rfl,hb12⟩
      have HB10:=Lib.hid (HB11.out.trans (hb12.mono HB11.out.size))
      clear hb12 HSA
      go_wp2_with fail
     all_goals
      have HWK:Hid (wrap64 ((k:Int)+1)=(k:Int)+1):=Lib.hid (by have h1:=HLT.out;have h2:=HLM.out;exact IntWalk.wrap64_in _ ⟨by omega,by omega⟩)
      go_roundw
      case rel=>exact ⟨k+1,HLT.out,by rw [HWK.out];rfl,HB10⟩
      case measure=>have h:=HLT.out;rw [HWK.out];simp only [intOf];omega
    ·obtain rfl:k=l.length:=by omega
     have q1:decide ((l.length:Int)<(l.length:Int))=false:=by simp
     have q2:decide (l.length<l.length)=false:=by simp
     have HAW:=Lib.hid (awake_any wr)
     have HBB:=Lib.hid (HB5.out.trans (HBW.out.mono HB5.out.size))
     clear hlt
     go_wp2_with fail
     refine HAW.out.mono ?_
     rintro e w6 ⟨rfl,hb6⟩
     have HB6:=Lib.hid (HBB.out.trans (hb6.mono HBB.out.size))
     clear hb6
     go_wp2_with fail
     go_ret
     exact ⟨rfl,HB6.out⟩
theorem apart_walk (v:Value) (bs0:List Bat) (s0:ByteArray) (w:World) (hv:RAny batC w v bs0) (hs0:s0.size≤maxLen):Calls Try.prog 6 #[v,.string s0] w (Held3 w):=by
 have h:=apart_call v bs0 s0.data.toList w hv (by rw [Array.length_toList];exact hs0)
 rw [Array.toArray_toList] at h
 exact h
end Go.Proofs.Ytdfbkhpkffpckaa.MX
