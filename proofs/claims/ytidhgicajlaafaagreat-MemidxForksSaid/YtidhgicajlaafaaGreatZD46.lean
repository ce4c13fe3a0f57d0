import Derived.Test.YtidhgicajlaafaaGreatZD44
import Derived.Test.YtidhgicajlaafaaGreatZD19
import Derived.Test.YtidhgicajlaafaaGreatZD45
import Derived.Test.YtidhgicajlaafaaGreatZD35
set_option maxRecDepth 100000
set_option maxHeartbeats 8000000
set_option linter.unusedVariables false
set_option linter.unusedSimpArgs false
namespace Go.Proofs.YtidhgicajlaafaaGreat.MX
open Go Go.RowKit MM EM
open EV (fldC trmC trm_at RNew rterms_new evBox box_below box_size box_at box_in)
theorem own_int_base {e:TypeId} {B B':Nat} {w:World} {v:Value} {zs:List Int} (h:OwnC cInt e B w v zs) (hB:B'≤B):OwnC cInt e B' w v zs:=by
 obtain ⟨raw,h1,h2⟩:=h
 refine ⟨raw,⟨h1.1,?_⟩,h2.1,fun i hi hi'=>h2.2 i hi hi'⟩
 rcases h1.2 with h | ⟨g,cap,cur,hv,hg,rest⟩
 ·exact .inl h
 ·exact .inr ⟨g,cap,cur,hv,Nat.le_trans hB hg,rest⟩
theorem own_c_len {α:Type} {C:Codec α} {e:TypeId} {B:Nat} {w:World} {v:Value} {es:List α} (h:OwnC C e B w v es):∃ p n cap,v=.slice p n cap∧n=es.length:=by
 obtain ⟨p,cap,rfl,_⟩:=OwnC.shape h
 exact ⟨p,_,cap,rfl,rfl⟩
theorem selM_whole (s x:List UInt8):selM s true x=decide (x=s):=rfl
theorem rof_any (z:Int) (v:Value) (fs:List Fld) (s:List UInt8) (whole:Bool) (w:World) (hr:RAny fldC w v fs) (hs:s.length≤1000000000000) :
  Calls Tryz.prog 38 #[.agg #[.int .i64 z,v],.string ⟨s.toArray⟩,.bool whole] w (MergeD w.heap.size (ofE (z,fs) s whole) w):=by
 obtain ⟨p,cap,rfl,hlc,hcm,_⟩:=hr.shape
 unfold maxLen at hcm
 have hbx:=box_below w z (.slice p fs.length cap)
 have HT:=Lib.hid (rterms_new z _ fs _ (hr.below hbx))
 obtain ⟨b0,b1⟩:=box_at w z (.slice p fs.length cap)
 obtain ⟨wb,hwb⟩:∃ wb,evBox w z (.slice p fs.length cap)=wb:=⟨_,rfl⟩
 have hbs:=box_size w z (.slice p fs.length cap)
 rw [hwb] at hbx HT b0 b1 hbs
 have HWB:Hid (w.alloc (.cells #[.int .i64 z,.slice p fs.length cap] 51)=wb):=Lib.hid hwb
 have HBX:=Lib.hid hbx
 have hT:=terms_fewM (z,fs)
 have HOL:=Lib.hid (ofT_take_len (z,fs) s whole)
 have HPL:=Lib.hid (fun t (h:t∈termsE (z,fs))=>place_few (z,fs) h)
 have HTL:=Lib.hid (fun t (h:t∈termsE (z,fs))=>(RM.termsE_len h).2)
 obtain ⟨M,hM⟩:∃ M,ofE (z,fs) s whole=M:=⟨_,rfl⟩
 have HM:Hid (ofT (termsE (z,fs)) s whole=M):=Lib.hid hM
 rw [hM]
 obtain ⟨T,hTT⟩:∃ T,termsE (z,fs)=T:=⟨_,rfl⟩
 rw [hTT] at HT hT HOL HPL HTL HM
 have HNX:=Lib.hid (fun (k:Nat) (hk:k<T.length)=>ofT_next hk s whole)
 have HO0:Hid (OwnC cInt 3 w.heap.size wb (.slice none 0 0) (ofT (T.take 0) s whole)):=Lib.hid (OwnC.nil_ _ _ _)
 clear hr hM hTT hwb hbx
 go_enter Tryz.func38,Tryz.ntmps38
 go_wp2_with (rw [HWB.out])
 refine HT.out.mono ?_
 rintro e w1 ⟨tv,rfl,ht,hb1⟩
 obtain ⟨pt,ct,rfl,htc,htm,_⟩:=ht.shape
 unfold maxLen at htm
 have HT1:=Lib.hid ht
 have HB1:=Lib.hid (HBX.out.trans (hb1.mono HBX.out.size))
 have HO1:=Lib.hid (HO0.out.keep hb1)
 clear ht hb1 HT HO0 HWB b0 b1
 go_wp2_with fail
 go_loopw [7,9] (fun lv iv wr=>∃ i:Nat,i≤T.length∧iv=.int .i64 i∧Hid (RNew wb.heap.size wr (.slice pt T.length ct) T)∧Hid (OwnC cInt 3 w.heap.size wr lv (ofT (T.take i) s whole))∧Hid (Below w.heap.size w wr)) (fun _ iv _=>T.length - (intOf iv).toNat)
 case atStart=>exact ⟨0,Nat.zero_le _,rfl,HT1,HO1,HB1⟩
 case round =>
  obtain ⟨i,hi,rfl,HTI,HO,HB⟩:=hrel
  clear HT1 HO1 HB1
  obtain ⟨pu,n,cu,rfl,hn⟩:=own_c_len HO.out
  have HNN:=Lib.hid hn
  clear hn
  have hsz:=HB.out.size
  by_cases hlt:i<T.length
  ·have q1:decide ((i:Int)<(T.length:Int))=true:=by rw [decide_eq_true_eq];omega
   have q2:(i:Int)<(T.length:Int):=by omega
   obtain ⟨bt,ot,vt,rfl,hbt,_,d1,d2,hpos⟩:=trm_at HTI.out hlt
   have hnx:=HNX.out i hlt
   have hxl:=HTL.out T[i] (List.getElem_mem hlt)
   have hpl:=HPL.out T[i] (List.getElem_mem hlt)
   have hol:=HOL.out i
   obtain ⟨⟨X,zs⟩,hx⟩:∃ t,T[i]=t:=⟨_,rfl⟩
   rw [hx] at d1 hpos hnx hxl hpl
   dsimp only at d1 hpos hnx hxl hpl
   obtain ⟨pz,cz,rfl,_⟩:=hpos.shape
   have HLT:=Lib.hid hlt
   clear hx hlt
   obtain ⟨L,hL⟩:∃ L,ofT (T.take i) s whole=L:=⟨_,rfl⟩
   rw [hL] at hnx hol HO
   have HMG:=Lib.hid (rmerge_any _ _ L zs wr HO.out.any hpos.any (by omega))
   cases whole with
   | true =>
     rw [selM_whole] at hnx
     by_cases hxs:X=s
     ·rw [if_pos (decide_eq_true hxs)] at hnx
      have q3:(X == s)=true:=by rw [beq_iff_eq];exact hxs
      have HN:=Lib.hid hnx
      clear hnx hxs
      go_wp2_with fail
      refine HMG.out.mono ?_
      rintro e w3 ⟨⟨u3,rfl,ho3⟩,hb3⟩
      obtain ⟨pw,m,cw,rfl,hm⟩:=own_c_len ho3
      clear hm
      have ho4:OwnC cInt 3 w.heap.size w3 (.slice pw m cw) (mergeL L zs):=own_int_base ho3 hsz
      rw [← HN.out] at ho4
      have HO4:=Lib.hid ho4
      have HB4:=Lib.hid (HB.out.trans (hb3.mono hsz))
      have HT4:=Lib.hid (HTI.out.below hb3)
      clear ho3 hb3 ho4 HMG d1 d2 hpos
      go_wp2_with fail
      have hlt:=HLT.out
      go_roundw
      case rel=>exact ⟨i+1,by omega,by go_num,HT4,HO4,HB4⟩
      case measure=>simp [intOf];omega
     ·rw [if_neg (by rw [decide_eq_false hxs];exact Bool.false_ne_true)] at hnx
      have q3:(X == s)=false:=by rw [beq_eq_false_iff_ne];exact hxs
      have HN:=Lib.hid hnx
      clear hnx hxs HMG
      have HO4:Hid (OwnC cInt 3 w.heap.size wr (.slice pu n cu) (ofT (T.take (i+1)) s true)):=Lib.hid (by rw [HN.out];exact HO.out)
      go_wp2_with fail
      have hlt:=HLT.out
      go_roundw
      case rel=>exact ⟨i+1,by omega,by go_num,HTI,HO4,HB⟩
      case measure=>simp [intOf];omega
   | false =>
     have HBG:=Lib.hid (begins_any X s wr (by omega) hs)
     have HSZ:=Lib.hid hsz
     cases hsel:selM s false X with
     | true =>
       rw [hsel] at HBG
       rw [if_pos hsel] at hnx
       have HN:=Lib.hid hnx
       clear hnx hsel HMG
       go_wp2_with fail
       refine HBG.out.mono ?_
       rintro e w2 ⟨rfl,hb2⟩
       have HMG:=Lib.hid (rmerge_any _ _ L zs w2 (HO.out.any.below hb2) (hpos.any.below hb2) (by omega))
       have HB2:=Lib.hid (HB.out.trans (hb2.mono HSZ.out))
       have HT2:=Lib.hid (HTI.out.below hb2)
       have hsz2:=HB2.out.size
       have e1:=(hb2.cell (p:=⟨bt,ot+i*2,none⟩) hbt).trans d1
       have e2:=(hb2.cell (p:=⟨bt,ot+i*2+1,none⟩) hbt).trans d2
       have hbt2:bt<w2.heap.size:=Nat.lt_of_lt_of_le hbt hb2.size
       clear hb2 HTI HB HO HBG d1 d2
       have d1:=e1
       have d2:=e2
       have HB:=HB2
       have HTI:=HT2
       clear hsz
       have hsz:=hsz2
       clear e1 e2 HB2 HT2 hsz2
       go_wp2_with fail
       refine HMG.out.mono ?_
       rintro e w3 ⟨⟨u3,rfl,ho3⟩,hb3⟩
       obtain ⟨pw,m,cw,rfl,hm⟩:=own_c_len ho3
       clear hm
       have ho4:OwnC cInt 3 w.heap.size w3 (.slice pw m cw) (mergeL L zs):=own_int_base ho3 hsz
       rw [← HN.out] at ho4
       have HO4:=Lib.hid ho4
       have HB4:=Lib.hid (HB.out.trans (hb3.mono hsz))
       have HT4:=Lib.hid (HTI.out.below hb3)
       clear ho3 hb3 ho4 HMG d1 d2 hpos
       go_wp2_with fail
       have hlt:=HLT.out
       go_roundw
       case rel=>exact ⟨i+1,by omega,by go_num,HT4,HO4,HB4⟩
       case measure=>simp [intOf];omega
     | false =>
       rw [hsel] at HBG
       rw [if_neg (by rw [hsel];exact Bool.false_ne_true)] at hnx
       have HN:=Lib.hid hnx
       clear hnx hsel HMG
       go_wp2_with fail
       refine HBG.out.mono ?_
       rintro e w2 ⟨rfl,hb2⟩
       have HO4:Hid (OwnC cInt 3 w.heap.size w2 (.slice pu n cu) (ofT (T.take (i+1)) s false)):=Lib.hid (by rw [HN.out];exact HO.out.keep hb2)
       have HB4:=Lib.hid (HB.out.trans (hb2.mono HSZ.out))
       have HT4:=Lib.hid (HTI.out.below hb2)
       clear hb2 HTI HB HO HBG d1 d2 hpos
       go_wp2_with fail
       have hlt:=HLT.out
       go_roundw
       case rel=>exact ⟨i+1,by omega,by go_num,HT4,HO4,HB4⟩
       case measure=>simp [intOf];omega
  ·obtain rfl:i=T.length:=by omega
   have q1:decide ((T.length:Int)<(T.length:Int))=false:=by simp
   have ho:=HO.out
   rw [List.take_length,HM.out] at ho
   have HO2:=Lib.hid ho
   clear ho HO
   go_wp2_with fail
   go_ret
   exact ⟨⟨_,rfl,HO2.out⟩,HB.out⟩
end Go.Proofs.YtidhgicajlaafaaGreat.MX
namespace Go.Proofs.YtidhgicajlaafaaGreat.MX
open Go Go.RowKit MM EM
open EV (docC fldC doc_at)
theorem ints_apt {B:Nat} {w:World} {v:Value} {zs:List Int} (h:OwnC cInt 3 B w v zs):PW.IOn (PW.Apt B w) w v zs:=by
 obtain ⟨raw,ho,hm⟩:=h
 rcases ho.2 with ⟨rfl,h0⟩ | ⟨g,cap,cur,rfl,hg,hh,hnc,hmx,hs,ht⟩
 ·have:zs=[]:=List.eq_nil_of_length_eq_zero h0
  subst this
  exact PW.IOn.nil_ _ _
 ·refine SG.ron_ion ⟨some ⟨g,0,none⟩,cap,raw,rfl,hnc,hmx,(fun h=>by cases h),⟨hm.1,fun i hi hi'=>hm.2 i hi hi'⟩,.inr ⟨g,0,rfl,(Array.getElem?_eq_some_iff.1 hh).1,.inr fun cur' fr e => ?_,fun j u hj => ?_⟩⟩
  ·rw [hh] at e
   simp only [Option.some.injEq,Obj.cells.injEq] at e
   exact absurd e.2.1 (by decide)
  ·have:=Lib.cells_of_row hh (zs.length*cInt.size) j u (by rw [ht];exact hj)
   rw [add_at] at this
   exact this
def RPostsD (ps:List PM.Post) (w:World) (e:Ending) (w':World):Prop:=(∃ u,e=.returned u∧PW.PRow w' u ps)∧Below w.heap.size w w'
theorem rposts14_any (l:List SM.Doc) (lv:Value) (s:List UInt8) (whole:Bool) (w:World) (hl:RAny docC w lv l) (hln:l.length≤65536) (hs:s.length≤1000000000000) :
  Calls Tryz.prog 15 #[.agg #[lv],.string ⟨s.toArray⟩,.bool whole] w (RPostsD (postsM (l.map (·.2)) s whole) w):=by
 obtain ⟨p,cap,rfl,hlc,hcm,_⟩:=hl.shape
 unfold maxLen at hcm
 obtain ⟨w1,hw1⟩:∃ w1,w.alloc (.cells #[.slice p l.length cap] 30)=w1:=⟨_,rfl⟩
 have hb1:Below w.heap.size w w1:=by rw [← hw1];exact (Below.refl _ _).alloc (Nat.le_refl _) _
 have h1:w1.heap[w.heap.size]? = some (.cells #[.slice p l.length cap] 30 (0,0)):=by rw [← hw1];exact heap_alloc_new _ _
 have hs1:w1.heap.size=w.heap.size+1:=by rw [← hw1];simp
 have hlt1:w.heap.size<w1.heap.size:=by omega
 have HL:=Lib.hid hl
 have HX:=Lib.hid h1
 have HW1:=Lib.hid hw1
 have HB1:=Lib.hid (show Below w1.heap.size w1 w1 from Below.refl _ _)
 have HBA:=Lib.hid hb1
 have HNX:=Lib.hid (fun (k:Nat) (hk:k<l.length)=>(show postsM ((l.map (·.2)).take (k+1)) s whole=postsM ((l.map (·.2)).take k) s whole++if ofE l[k].2 s whole=[] then [] else [((k:Int),ofE l[k].2 s whole)] by rw [postsM_next (by rw [List.length_map];exact hk)];simp))
 have HLN:=Lib.hid (fun (k:Nat)=>postsM_len ((l.map (·.2)).take k) s whole)
 obtain ⟨M,hM⟩:∃ M,postsM (l.map (·.2)) s whole=M:=⟨_,rfl⟩
 have HM:Hid (postsM ((l.map (·.2)).take l.length) s whole=M):=Lib.hid (by rw [← hM,List.take_of_length_le (by simp)])
 rw [hM]
 have HO0:Hid (PW.OwnP w1.heap.size w1 (.slice none 0 0) (postsM ((l.map (·.2)).take 0) s whole)):=Lib.hid (PW.OwnP.nil_ _ _)
 clear hl hb1 h1 hw1 hM hs1
 go_enter Tryz.func15,Tryz.ntmps15
 go_wp2_with (rw [HW1.out])
 go_loopw [7,8] (fun uv iv wr=>∃ i:Nat,i≤l.length∧iv=.int .i64 i∧Hid (PW.OwnP w1.heap.size wr uv (postsM ((l.map (·.2)).take i) s whole))∧Hid (Below w1.heap.size w1 wr)) (fun _ iv _=>l.length - (intOf iv).toNat)
 case atStart=>exact ⟨0,by omega,rfl,HO0,HB1⟩
 case round =>
  obtain ⟨i,hi,rfl,HO,HB⟩:=hrel
  clear HO0 HB1
  have hx:=(HB.out.block w.heap.size hlt1).trans HX.out
  have y0:wr.cell? ⟨w.heap.size,0,none⟩=some (.slice p l.length cap):=row_cell hx 0
  have HBW:=Lib.hid (HBA.out.trans (HB.out.mono (Nat.le_of_lt hlt1)))
  obtain ⟨pu,cu,hlv,_⟩:=HO.out.shape
  obtain ⟨n,hn⟩:∃ n,(postsM ((l.map (·.2)).take i) s whole).length=n:=⟨_,rfl⟩
  rw [hn] at hlv
  subst hlv
  have hln2:=HLN.out i
  rw [hn,List.length_take,List.length_map] at hln2
  have HN:=Lib.hid hn
  clear hx hn
  by_cases hlt:i<l.length
  ·have q1:decide ((i:Int)<(l.length:Int))=true:=by rw [decide_eq_true_eq];omega
   have q2:decide (i<l.length)=true:=by rw [decide_eq_true_eq];omega
   have q3:(i:Int)<(l.length:Int):=by omega
   obtain ⟨b,off,fv,rfl,hbl,_,k0,k1,k2,hf⟩:=doc_at (HL.out.below HBW.out) hlt
   have hnx:=HNX.out i hlt
   replace k1:wr.cell? ⟨b,off+i*3+1,none⟩=some (.int .i64 (l[i]).2.1):=k1
   replace hf:ROn fldC (fun _=>True) wr fv (l[i]).2.2:=hf
   obtain ⟨⟨sq,⟨t,fs⟩⟩,hd⟩:∃ d,l[i]=d:=⟨_,rfl⟩
   rw [hd] at k1 hf hnx
   change ROn fldC _ wr fv fs at hf
   change wr.cell? ⟨b,off+i*3+1,none⟩=some (.int .i64 t) at k1
   obtain ⟨pf,cf,rfl,_⟩:=hf.shape
   have k3:wr.cell? ⟨b,off+i*3+1+1,none⟩=some (.slice pf fs.length cf):=k2
   have HC:=Lib.hid (rof_any t (.slice pf fs.length cf) fs s whole wr hf.any hs)
   obtain ⟨E,hE⟩:∃ E,ofE (t,fs) s whole=E:=⟨_,rfl⟩
   rw [hE] at HC
   replace hnx:postsM ((l.map (·.2)).take (i+1)) s whole=postsM ((l.map (·.2)).take i) s whole++if E=[] then [] else [((i:Int),E)]:=by rw [← hE];exact hnx
   have HNN:=Lib.hid hnx
   have HLT:=Lib.hid hlt
   clear hf hd hnx hE hlt k0
   go_wp2_with fail
   refine HC.out.mono ?_
   rintro e w2 ⟨⟨u,rfl,ho2⟩,hb2⟩
   obtain ⟨pv,m,cv,rfl,hm⟩:=own_c_len ho2
   have hsz:=HB.out.size
   have HO2:=Lib.hid (own_int_base ho2 hsz)
   have HB2:=Lib.hid (HB.out.trans (hb2.mono hsz))
   have HP2:=Lib.hid (HO.out.keep hb2)
   have hx2:=(HB2.out.block w.heap.size hlt1).trans HX.out
   clear ho2 hb2 HC k1 k2 k3 y0
   by_cases hE:E=[]
   ·subst hE
    obtain rfl:m=0:=hm
    have HP3:Hid (PW.OwnP w1.heap.size w2 (.slice pu n cu) (postsM ((l.map (·.2)).take (i+1)) s whole)):=Lib.hid (by rw [HNN.out,if_pos rfl,List.append_nil];exact HP2.out)
    clear hx2
    go_wp2_with fail
    have hlt:=HLT.out
    go_roundw
    case rel=>exact ⟨i+1,by omega,by go_num,HP3,HB2⟩
    case measure=>simp [intOf];omega
   ·have hpos:=List.length_pos_iff.2 hE
    have q5:decide ((m:Int)>0)=true:=by rw [decide_eq_true_eq];omega
    have q6:decide (0<m)=true:=by rw [decide_eq_true_eq];omega
    have q7:0<m:=by omega
    have hnx:=HNN.out
    rw [if_neg hE] at hnx
    have HN3:=Lib.hid hnx
    have hsz2:=HB2.out.size
    clear hm hx2 hE hpos hnx
    go_wp2_with (at_builtin;go_loud (refine PW.wpList_append_post rfl _ _ rfl w1.heap.size (.slice pu n cu) (postsM ((l.map (·.2)).take i) s whole) w2 (i:Int) (.slice pv m cv) E rfl rfl HP2.out (ints_apt HO2.out) rfl (by rw [HN.out];omega) hsz2 ?_))
    intro v7 w7 ho7 hb7 _
    rw [← HN3.out] at ho7
    have HO7:=Lib.hid ho7
    have HB7:=Lib.hid (HB2.out.trans hb7)
    clear ho7 hb7
    go_wp2_with fail
    have hlt:=HLT.out
    go_roundw
    case rel=>exact ⟨i+1,by omega,by go_num,HO7,HB7⟩
    case measure=>simp [intOf];omega
  ·obtain rfl:i=l.length:=by omega
   have q1:decide ((l.length:Int)<(l.length:Int))=false:=by simp
   have q2:decide (l.length<l.length)=false:=by simp
   have hI:=HO.out
   rw [HM.out] at hI
   have HI9:=Lib.hid hI
   clear hI hlt
   go_wp2_with fail
   go_ret
   exact ⟨⟨_,rfl,HI9.out.prow⟩,HBW.out⟩
end Go.Proofs.YtidhgicajlaafaaGreat.MX
