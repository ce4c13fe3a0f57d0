import Derived.Test.YtidhgicajlaafaaGreatZD36
set_option maxRecDepth 100000
set_option maxHeartbeats 8000000
set_option linter.unusedVariables false
set_option linter.unusedSimpArgs false
namespace Go.Proofs.YtidhgicajlaafaaGreat.MX
open Go Go.RowKit MM EM
open EV (batC bat_on evC ev_at SomeBool)
theorem batE:Elem batC Tryz.prog 22 45 32:=⟨Tryz.underlying22,by
 have h:(Tryz.prog.info? 45).map (fun i=>(i.zero,i.size,i.bytes))=some (some (.agg #[.int .i64 0,.slice none 0 0]),2,32):=by kernel_rfl
 obtain ⟨i,h1,h2,h3,h4⟩:=info_parts h
 exact ⟨i,_,h1,h2,h3,h4,rfl⟩⟩
theorem bat_at {S:Nat→Prop} {w:World} {p:Option Addr} {n cap:Nat} {bs:List Bat} (h:ROn batC S w (.slice p n cap) bs) {k:Nat} (hk:k<bs.length) :
  ∃ b off v,p=some ⟨b,off,none⟩∧b<w.heap.size∧S b∧w.cell? ⟨b,off+k*2,none⟩=some (.int .i64 bs[k].1)∧w.cell? ⟨b,off+k*2+1,none⟩=some v∧ROn evC S w v bs[k].2:=by
 obtain ⟨b,off,vs,hp,hlt,hS,hon,hc⟩:=h.at_ hk
 rw [bat_on] at hon
 obtain ⟨v,rfl,hr⟩:=hon
 exact ⟨b,off,v,hp,hlt,hS,hc 0 _ rfl,hc 1 _ rfl,hr⟩
def FewLeft2 (n:Nat) (w:World) (e:Ending) (w':World):Prop:=∃ v ok bs,e=.returned (.tuple #[v,.bool ok])∧RAny batC w' v bs∧Below w.heap.size w w'∧(ok=true→0<n→bs≠[])
def FewLeft (w:World) (e:Ending) (w':World):Prop:=∃ v ok bs,e=.returned (.tuple #[v,.bool ok])∧RAny batC w' v bs∧Below w.heap.size w w'
theorem few_len (v:Value) (bs:List Bat) (w:World) (hv:RAny batC w v bs):Calls Tryz.prog 5 #[v] w (FewLeft2 bs.length w):=by
 obtain ⟨p,cap,rfl,hlc,hcm,_⟩:=hv.shape
 unfold maxLen at hcm
 have HV:=Lib.hid hv.bel
 have HO0:Hid (OwnX batC 45 w.heap.size (fun b=>b<w.heap.size) w (.slice none 0 0) []):=Lib.hid (OwnX.nil_ _ _ _ _)
 have HB0:=Lib.hid (Below.refl w.heap.size w)
 clear hv
 go_enter Tryz.func5,Tryz.ntmps5
 go_wp2_with fail
 go_loopw [4,5,6] (fun ov nv iv wr=>∃ (i:Nat) (n:Int) (q:Option Addr) (m c:Nat),i≤bs.length∧i≤8∧iv=.int .i64 i∧nv=.int .i64 n∧m=i∧ov=.slice q m c∧Hid (∃ cs:List Bat,cs.length=m∧OwnX batC 45 w.heap.size (fun b=>b<w.heap.size) wr (.slice q m c) cs)∧Hid (Below w.heap.size w wr)) (fun _ _ iv _=>bs.length - (intOf iv).toNat)
 case atStart=>exact ⟨0,0,none,0,0,by omega,by omega,rfl,rfl,rfl,rfl,Lib.hid ⟨[],rfl,HO0.out⟩,HB0⟩
 case round =>
  obtain ⟨i,n,q,m,c,hi,hi8,rfl,rfl,rfl,rfl,HO,HB⟩:=hrel
  clear HO0 HB0
  by_cases hlt:m<bs.length
  ·by_cases h8:m<8
   ·have q1:decide ((m:Int)<(bs.length:Int))=true:=by rw [decide_eq_true_eq];omega
    have q2:decide ((m:Int)<8)=true:=by rw [decide_eq_true_eq];omega
    have q3:(m:Int)<(bs.length:Int):=by omega
    have q4:decide (m<bs.length)=true:=by rw [decide_eq_true_eq];omega
    have q5:decide (m<8)=true:=by rw [decide_eq_true_eq];omega
    obtain ⟨b,off,ev,rfl,hbl,_,c1,c2,hf⟩:=bat_at (HV.out.below HB.out) hlt
    obtain ⟨⟨sq,es⟩,hd⟩:∃ d,bs[m]=d:=⟨_,rfl⟩
    replace c1:wr.cell? ⟨b,off+m*2,none⟩=some (.int .i64 (bs[m]).1):=c1
    replace hf:ROn evC (fun b=>b<w.heap.size) wr ev (bs[m]).2:=hf
    rw [hd] at c1 hf
    change ROn evC _ wr ev es at hf
    change wr.cell? ⟨b,off+m*2,none⟩=some (.int .i64 sq) at c1
    obtain ⟨pe,ce,rfl,hec,hem,_⟩:=hf.shape
    unfold maxLen at hem
    obtain ⟨w1,hw1⟩:∃ w1,wr.alloc (.cells #[.int .i64 sq,.slice pe es.length ce] 45)=w1:=⟨_,rfl⟩
    have hb1:Below wr.heap.size wr w1:=by rw [← hw1];exact (Below.refl _ _).alloc (Nat.le_refl _) _
    have hx1:Two w1 wr.heap.size 45 (.int .i64 sq) (.slice pe es.length ce):=by rw [← hw1];exact two_new wr _ _ _
    obtain ⟨g,hg⟩:∃ g,wr.heap.size=g:=⟨_,rfl⟩
    have HB1:=Lib.hid (HB.out.trans (hb1.mono HB.out.size))
    have HO1:Hid (∃ cs:List Bat,cs.length=m∧OwnX batC 45 w.heap.size (fun b=>b<w.heap.size) w1 (.slice q m c) cs):=by
     obtain ⟨cs,h1,h2⟩:=HO.out
     exact Lib.hid ⟨cs,h1,h2.keep (kep_below (fun _=>True) hb1) (fun _ _ _=>trivial) fun _ _=>trivial⟩
    have HF1:=Lib.hid (show ROn evC (fun b=>b<w.heap.size) w1 (.slice pe es.length ce) es from ROn.keep hf (kep_below _ hb1) fun _ _ h=>h)
    have y0:=hx1.c0
    have y1:=hx1.c1
    rw [hg] at hx1 y0 y1
    have HX1:=Lib.hid hx1
    have HW1:=Lib.hid hw1
    have HGW:Hid (w.heap.size≤g):=Lib.hid (by rw [← hg];exact HB.out.size)
    have HG:=Lib.hid hg
    have HLT:=Lib.hid hlt
    have HH8:=Lib.hid h8
    have hnb:=fun (k:Int)=>(rfl:k=k)
    clear hf hd hw1 hb1 hx1 HO HB hlt h8 hnb
    by_cases hn:80<wrap64 (n+min 66 (es.length:Int))
    ·have t1:decide (wrap64 (n+min 66 (es.length:Int))>80)=true:=by rw [decide_eq_true_eq];exact hn
     have t2:decide (80<wrap64 (n+min 66 (es.length:Int)))=true:=by rw [decide_eq_true_eq];exact hn
     clear hn
     go_wp2_with (rw [HW1.out])
     go_ret2
     exact ⟨_,_,[],rfl,ROn.nil_ _ _,HB1.out,fun h=>by cases h⟩
    ·have t1:decide (wrap64 (n+min 66 (es.length:Int))>80)=false:=by rw [decide_eq_false_iff_not];exact hn
     have t2:decide (80<wrap64 (n+min 66 (es.length:Int)))=false:=by rw [decide_eq_false_iff_not];exact hn
     clear hn
     go_wp2_with (rw [HW1.out])
     go_loopw [8] (fun jv wj=>∃ j:Nat,j≤es.length∧j≤66∧jv=.int .i64 j∧Hid (Two wj g 45 (.int .i64 sq) (.slice pe es.length ce))∧Hid (∃ cs:List Bat,cs.length=m∧OwnX batC 45 w.heap.size (fun b=>b<w.heap.size) wj (.slice q m c) cs)∧Hid (ROn evC (fun b=>b<w.heap.size) wj (.slice pe es.length ce) es)∧Hid (Below w.heap.size w wj)∧Hid (g<wj.heap.size)) (fun jv _=>es.length - (intOf jv).toNat)
     case atStart=>exact ⟨0,by omega,by omega,rfl,HX1,HO1,HF1,HB1,Lib.hid HX1.out.lt⟩
     case round =>
      obtain ⟨j,hj,hj66,rfl,HX,HO,HF,HB,HGL⟩:=hrel
      clear HX1 HO1 HF1 HB1 y0 y1 c1 c2
      have y0:=HX.out.c0
      have y1:=HX.out.c1
      by_cases hgo:j<es.length∧j<66
      ·obtain ⟨hjl,h66⟩:=hgo
       have r1:decide ((j:Int)<(es.length:Int))=true:=by rw [decide_eq_true_eq];omega
       have r2:decide ((j:Int)<66)=true:=by rw [decide_eq_true_eq];omega
       have r4:decide (j<es.length)=true:=by rw [decide_eq_true_eq];omega
       have r5:decide (j<66)=true:=by rw [decide_eq_true_eq];omega
       have r3:(j:Int)<(es.length:Int):=by omega
       obtain ⟨b2,off2,fv,rfl,hbl2,hx2,k1,k2,hf2⟩:=ev_at HF.out hjl
       replace k1:wr.cell? ⟨b2,off2+j*2,none⟩=some (.int .i64 (es[j]).1):=k1
       replace hf2:ROn EV.fldC (fun b=>b<w.heap.size) wr fv (es[j]).2:=hf2
       obtain ⟨⟨t,fs⟩,hd⟩:∃ d,es[j]=d:=⟨_,rfl⟩
       rw [hd] at k1 hf2
       change ROn EV.fldC _ wr fv fs at hf2
       change wr.cell? ⟨b2,off2+j*2,none⟩=some (.int .i64 t) at k1
       obtain ⟨pf,cf,rfl,_⟩:=hf2.shape
       have HC:=Lib.hid (EV.light_any t (.slice pf fs.length cf) fs wr hf2.any)
       have HJL:=Lib.hid hjl
       clear hf2 hd hx2 hbl2 hjl
       go_wp2_with fail
       refine HC.out.mono ?_
       rintro e w2 ⟨ok,rfl,hb2⟩
       have HB2:=Lib.hid (HB.out.trans (hb2.mono HB.out.size))
       cases ok with
       | false =>
         clear hb2 HC
         go_wp2_with fail
         go_ret2
         exact ⟨_,_,[],rfl,ROn.nil_ _ _,HB2.out,fun h=>by cases h⟩
       | true =>
         have HX2:=Lib.hid (HX.out.keep (kep_below (fun _=>True) hb2) trivial)
         have HO2:Hid (∃ cs:List Bat,cs.length=m∧OwnX batC 45 w.heap.size (fun b=>b<w.heap.size) w2 (.slice q m c) cs):=by
          obtain ⟨cs,h1,h2⟩:=HO.out
          exact Lib.hid ⟨cs,h1,h2.keep (kep_below (fun _=>True) hb2) (fun _ _ _=>trivial) fun _ _=>trivial⟩
         have HF2:Hid (ROn evC (fun b=>b<w.heap.size) w2 (.slice (some ⟨b2,off2,none⟩) es.length ce) es):=Lib.hid (ROn.keep HF.out (kep_below _ hb2) fun _ _ h=>h)
         have HGL2:=Lib.hid (Nat.lt_of_lt_of_le HGL.out hb2.size)
         clear hb2 HC
         go_wp2_with fail
         have hjl:=HJL.out
         go_roundw
         case rel=>exact ⟨j+1,by omega,by omega,by go_num,HX2,HO2,HF2,HB2,HGL2⟩
         case measure=>simp [intOf];omega
      ·by_cases hjl:j<es.length
       case' pos =>
        have r1:decide ((j:Int)<(es.length:Int))=true:=by rw [decide_eq_true_eq];omega
        have r2:decide ((j:Int)<66)=false:=by rw [decide_eq_false_iff_not];omega
        have r3:decide (j<es.length)=true:=by rw [decide_eq_true_eq];omega
        have r4:decide (j<66)=false:=by rw [decide_eq_false_iff_not];omega
        clear hjl hgo
       case' neg =>
        have r1:decide ((j:Int)<(es.length:Int))=false:=by rw [decide_eq_false_iff_not];omega
        have r3:decide (j<es.length)=false:=by rw [decide_eq_false_iff_not];omega
        clear hjl hgo
       all_goals
        obtain ⟨cs,hcl,hcs⟩:=HO.out
        obtain ⟨wa,hwa⟩:∃ wa,wr.alloc (.cells #[.int .i64 sq,.slice pe es.length ce] 45)=wa:=⟨_,rfl⟩
        have hba:Below wr.heap.size wr wa:=by rw [← hwa];exact (Below.refl _ _).alloc (Nat.le_refl _) _
        have HSA:Hid (SrcX batC (fun b=>b<w.heap.size) wa (.slice (some ⟨wr.heap.size,0,none⟩) 1 1) [(sq,es)]):=Lib.hid (by
         have:=src_lit (S:=fun b=>b<w.heap.size) (w:=wr) (vs:=[.int .i64 sq,.slice pe es.length ce]) (d:=(sq,es)) 45 (bat_on.2 ⟨_,rfl,HF.out⟩)
         rw [show (wr.alloc (.cells [Value.int .i64 sq,.slice pe es.length ce].toArray 45))=wa from hwa] at this
         exact this)
        have HOA:=Lib.hid (hcs.keep (kep_below (fun _=>True) hba) (fun _ _ _=>trivial) fun _ _=>trivial)
        have HBA:=Lib.hid (HB.out.trans (hba.mono HB.out.size))
        have HWA:=Lib.hid hwa
        have HCL:=Lib.hid hcl
        have h8:=HH8.out
        clear hcs hwa hba hcl HO HF HX HB
        go_wp2_with (first | (rw [HWA.out]) | (at_builtin;go_loud (refine wpList_append_x batE rfl _ _ rfl w.heap.size _ cs rfl HOA.out (fun b _ hb=>.inl hb) _ [(sq,es)] rfl HSA.out (by have:=HCL.out;unfold maxLen;simp;omega) (by have:=HCL.out;simp;omega) (by have:=HBA.out.size;exact this) ?_;intro v' w4 ho4 hb4 _;obtain ⟨q4,c4,rfl,_⟩:=ho4.any.shape;have HB4:=Lib.hid (HBA.out.trans hb4);have HO4:Hid (∃ cs:List Bat,cs.length=m+1∧OwnX batC 45 w.heap.size (fun b=>b<w.heap.size) w4 (.slice q4 (m+1) c4) cs):=(by have h5:(cs++[(sq,es)]).length=m+1:=(by rw [List.length_append,HCL.out];rfl);rw [h5] at ho4;exact Lib.hid ⟨_,h5,ho4⟩);rw [show (cs++[(sq,es)]).length=m+1 by rw [List.length_append,HCL.out];rfl];clear ho4 hb4)))
        have hlt:=HLT.out
        go_roundw
        case rel=>exact ⟨m+1,_,q4,m+1,c4,by omega,by omega,by go_num,rfl,rfl,rfl,HO4,HB4⟩
        case measure=>simp [intOf];omega
   ·have q1:decide ((m:Int)<(bs.length:Int))=true:=by rw [decide_eq_true_eq];omega
    have q2:decide ((m:Int)<8)=false:=by rw [decide_eq_false_iff_not];omega
    have q3:decide (m<bs.length)=true:=by rw [decide_eq_true_eq];omega
    have q4:decide (m<8)=false:=by rw [decide_eq_false_iff_not];omega
    have HM0:=Lib.hid (show m=8 by omega)
    clear h8 hlt
    go_wp2_with fail
    go_ret2
    obtain ⟨cs,h1,h2⟩:=HO.out
    exact ⟨_,_,cs,rfl,h2.any,HB.out,fun _ _ e=>by subst e;have:=HM0.out;simp at h1;omega⟩
  ·have q1:decide ((m:Int)<(bs.length:Int))=false:=by rw [decide_eq_false_iff_not];omega
   have q3:decide (m<bs.length)=false:=by rw [decide_eq_false_iff_not];omega
   have HM0:=Lib.hid (show m=bs.length by omega)
   clear hlt
   go_wp2_with fail
   go_ret2
   obtain ⟨cs,h1,h2⟩:=HO.out
   exact ⟨_,_,cs,rfl,h2.any,HB.out,fun _ hn e=>by subst e;have:=HM0.out;simp at h1;omega⟩
theorem few_any (v:Value) (bs:List Bat) (w:World) (hv:RAny batC w v bs):Calls Tryz.prog 5 #[v] w (FewLeft w):=(few_len v bs w hv).mono fun e w' ⟨u,ok,cs,h1,h2,h3,_⟩=>⟨u,ok,cs,h1,h2,h3⟩
theorem short_any (s:List UInt8) (w:World) (hs:s.length≤maxLen):Calls Tryz.prog 7 #[.string ⟨s.toArray⟩] w fun e w'=>e=.returned (.string ⟨(s.take 80).toArray⟩)∧w=w':=by
 by_cases h:80<s.length
 ·have t1:decide ((s.length:Int)>80)=true:=by rw [decide_eq_true_eq];omega
  go_enter Tryz.func7,Tryz.ntmps7
  go_wp2_with fail
  go_ret
  refine ⟨?_,rfl⟩
  rw [text_part]
  simp
 ·have t1:decide ((s.length:Int)>80)=false:=by rw [decide_eq_false_iff_not];omega
  have e:s.take 80=s:=List.take_of_length_le (by omega)
  rw [e]
  go_enter Tryz.func7,Tryz.ntmps7
  go_wp2_with fail
  go_ret
  exact ⟨rfl,rfl⟩
end Go.Proofs.YtidhgicajlaafaaGreat.MX
