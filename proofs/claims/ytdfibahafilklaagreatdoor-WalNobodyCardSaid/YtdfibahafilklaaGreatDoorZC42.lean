import Derived.Test.YtdfibahafilklaaGreatDoorZC34
import Derived.Test.YtdfibahafilklaaGreatDoorZC14
import Derived.Test.YtdfibahafilklaaGreatDoorZC29
set_option maxRecDepth 100000
set_option maxHeartbeats 8000000
set_option linter.unusedVariables false
set_option linter.unusedSimpArgs false
namespace Go.Proofs.YtdfibahafilklaaGreatDoor.EV
open Go Go.RowKit MM EM VM GB
open VP
def CodeLeft (l:List UInt8) (x:Int) (w:World) (e:Ending) (w':World):Prop:=∃ v,e=.returned (.tuple #[v,.int .i64 x])∧OwnB w.heap.size w' v l∧Below w.heap.size w w'
theorem own_none (B:Nat) (w:World):OwnB B w (.slice none 0 0) []:=World.ownsRow_nil _ _ _ _
end Go.Proofs.YtdfibahafilklaaGreatDoor.EV
namespace Go.Proofs.YtdfibahafilklaaGreatDoor.EV
open Go Go.RowKit MM EM VM GB
open VP
theorem grown_low {B:Nat} {wr w':World} {u u':Value} {L L':List UInt8} (hB:B≤wr.heap.size) (ho:OwnB B wr u L) (hg:Grown wr w' u u') (ho':OwnB 0 w' u' L'):OwnB B w' u' L'∧Below B wr w':=by
 have h1:∀ k,u.ownBlock=some k→B≤k:=fun k hk=>(World.ownsRow.lt ho k hk).1
 refine ⟨OwnB.from ho' fun k hk => ?_,hg.kep.below hB fun k hk e=>by have:=h1 k e;omega⟩
 rcases hg.2 k hk with e | e
 ·exact h1 k e
 ·omega
end Go.Proofs.YtdfibahafilklaaGreatDoor.EV
namespace Go.Proofs.YtdfibahafilklaaGreatDoor.EV
open Go Go.RowKit MM EM VM GB
open VP
def encR (b:Bat):List UInt8:=if checkB b=0 then encB b else []
theorem ok_bytes {e:Ev} (h:checkE e=0):e.2.length≤16∧(∀ f∈e.2,f.1.length≤4096∧f.2.length≤4096)∧(bytesE e).length≤140000:=by
 have hok:=checkE_ok.1 h
 have h1:=(bytesE_len e).1
 have h2:=sizeF_of_ok hok.2
 have h3:=hok.1
 refine ⟨h3,fun f hf=>⟨Nat.le_trans (name_len (hok.2 f hf).1) (by omega),(hok.2 f hf).2⟩,?_⟩
 have h4:4128*e.2.length≤4128*16:=Nat.mul_le_mul_left _ h3
 omega
theorem bytesB_le:∀ {es:List Ev},(∀ e∈es,checkE e=0)→(bytesB es).length≤140000*es.length
 | [],_=>by simp [bytesB]
 | e::r,h=>by
   have h1:=(ok_bytes (h e (by simp))).2.2
   have h2:=bytesB_le (es:=r) fun g hg=>h g (List.mem_cons_of_mem _ hg)
   rw [bytesB_cons,List.length_append,List.length_cons]
   omega
theorem enc_fits (m n:Nat) {es:List Ev} (h:∀ e∈es,checkE e=0) (h64:es.length≤64):∀ k,(bytesL m++bytesL n++bytesB (es.take k)).length≤9000000:=fun k=>by
 have h1:=(bytesL_length m).2
 have h2:=(bytesL_length n).2
 have h3:=bytesB_le (es:=es.take k) fun e he=>h e (List.mem_of_mem_take he)
 have h4:(es.take k).length≤es.length:=List.length_take_le' _ _
 have h5:140000*(es.take k).length≤140000*64:=Nat.mul_le_mul_left _ (by omega)
 simp only [List.length_append]
 omega
theorem cencode_any (seq:Int) (v:Value) (es:List Ev) (w:World) (hr:RAny evC w v es) (hf:∀ e∈es,FitE e) :
  Calls Tryz.prog 53 #[.agg #[.int .i64 seq,v]] w (CodeLeft (encR (seq,es)) (checkB (seq,es)) w):=by
 have hbx:=btbox_below w seq v
 have hck:=cbatch_any seq v es _ (RAny.below hr hbx)
 obtain ⟨p,cap,rfl,hlc,hcm,_⟩:=hr.shape
 unfold maxLen at hcm
 obtain ⟨c,hc⟩:∃ c,checkB (seq,es)=c:=⟨_,rfl⟩
 rw [hc] at hck
 have HCK:=Lib.hid hck
 obtain ⟨X,hX⟩:∃ X,encR (seq,es)=X:=⟨_,rfl⟩
 rw [hX,hc]
 have HBX:=Lib.hid hbx
 by_cases h0:c=0
 ·subst h0
  obtain ⟨hl1,hl64,hall,_,hs1,hs2⟩:=checkB_ok hc
  have hl64:es.length≤64:=hl64
  have hs1:1≤seq:=hs1
  have hs2:seq≤1099511627776:=by have:seq≤1099511627776 - ((es.length:Int) - 1):=hs2;omega
  obtain ⟨m,rfl⟩:∃ m:Nat,seq=(m:Int):=⟨seq.toNat,by omega⟩
  have hXe:X=bytesL m++bytesL es.length++bytesB es:=by rw [← hX];unfold encR;rw [if_pos hc];rfl
  have HALL:=Lib.hid hall
  have HF:=Lib.hid hf
  have HFT:=Lib.hid (enc_fits m es.length hall hl64)
  have HR:=Lib.hid hr.bel
  have HXE:=Lib.hid hXe
  have q1:IntKind.u64.wrap (m:Int)=(m:Int):=by rw [IntKind.wrap_u64];omega
  have q2:IntKind.u64.wrap (es.length:Int)=(es.length:Int):=by rw [IntKind.wrap_u64];omega
  clear hall hf hr hX hXe hc hck hbx
  go_enter Tryz.func53,Tryz.ntmps53
  go_wp2_with fail
  refine HCK.out.mono ?_
  rintro e w1 ⟨rfl,hb1⟩
  obtain ⟨c0,c1,hbw1⟩:=btbox_in hb1
  have HBB1:=Lib.hid hb1
  have HBW1:=Lib.hid hbw1
  clear hb1 hbw1 HCK
  go_wp2_with fail
  refine (put_any (.slice none 0 0) [] m w1 (by omega) (brow_nil _) (by simp)).mono ?_
  rintro e w2 ⟨v2,rfl,ho2,hb2⟩
  rw [List.nil_append] at ho2
  have HBB2:=Lib.hid (HBB1.out.trans (hb2.mono HBB1.out.size))
  obtain ⟨d0,d1,hbw2⟩:=btbox_in HBB2.out
  have HBW2:=Lib.hid hbw2
  have hbs:=btbox_size w (m:Int) (.slice p es.length cap)
  have HO2:=Lib.hid (OwnB.weaken ho2 (show w.heap.size+1≤w1.heap.size by have:=HBB1.out.size;omega))
  clear ho2 hb2 hbw2 c0 c1 HBB1 HBW1
  go_wp2_with fail
  refine (put_any (.slice none 0 0) [] es.length w2 (by omega) (brow_nil _) (by simp)).mono ?_
  rintro e w3 ⟨v3,rfl,ho3,hb3⟩
  rw [List.nil_append] at ho3
  have HO3:=Lib.hid ho3.brow
  have HV3:=Lib.hid (OwnB.keep HO2.out hb3)
  have HBB3:=Lib.hid (HBB2.out.trans (hb3.mono HBB2.out.size))
  clear ho3 hb3 d0 d1 HBB2 HBW2 HO2
  go_wp2_with (at_builtin;go_loud (refine wpList_append_bytes rfl _ _ rfl (w.heap.size+1) v2 (bytesL m) rfl HV3.out _ (bytesL es.length) rfl HO3.out (by have:=HFT.out 0;simp only [List.length_append] at this;omega) (by have:=HBB3.out.size;omega) ?_;intro v4 w4 ho4 hb4;have HO4:Hid (OwnB w.heap.size w4 v4 (bytesL m++bytesL es.length++bytesB (es.take 0))):=Lib.hid (by rw [show bytesL m++bytesL es.length++bytesB (es.take 0)=bytesL m++bytesL es.length by simp [bytesB]];exact OwnB.weaken ho4 (Nat.le_succ _));have hbb4:=HBB3.out.trans (by rw [hbs];exact hb4);obtain ⟨f0,f1,hbw4⟩:=btbox_in hbb4;have HB4:=Lib.hid hbw4;clear ho4 hb4 hbb4 hbw4))
  have HB04:=HB4
  clear HBB3 HO3 HV3 HB4 f0 f1
  go_loopw [5,27] (fun bv iv wr=>∃ k:Nat,k≤es.length∧iv=.int .i64 k∧Hid (OwnB w.heap.size wr bv (bytesL m++bytesL es.length++bytesB (es.take k)))∧Hid (Below w.heap.size w wr)) (fun _ iv _=>es.length - (intOf iv).toNat)
  case atStart=>exact ⟨0,by omega,rfl,HO4,HB04⟩
  case round =>
   obtain ⟨k,hk,rfl,HOk,HBk⟩:=hrel
   clear HO4 HB04
   have hszk:=HBk.out.size
   by_cases hlt:k<es.length
   ·have q3:decide ((k:Int)<(es.length:Int))=true:=by rw [decide_eq_true_eq];omega
    have q4:decide (k<es.length)=true:=by rw [decide_eq_true_eq];omega
    have q5:(k:Int)<(es.length:Int):=by omega
    obtain ⟨b,off,vf,rfl,hbl,_,k1,k2,hfr⟩:=ev_at (HR.out.below HBk.out) hlt
    have hnx:=bytesB_next hlt
    have hok:=ok_bytes (HALL.out es[k] (List.getElem_mem hlt))
    have hfe:=HF.out es[k] (List.getElem_mem hlt)
    obtain ⟨⟨z,fs⟩,hz2⟩:∃ e,es[k]=e:=⟨_,rfl⟩
    rw [hz2] at k1 hfr hnx hok hfe
    obtain ⟨h16,hx,_⟩:=hok
    change ROn fldC _ wr vf fs at hfr
    change wr.cell? ⟨b,off+k*2,none⟩=some (.int .i64 z) at k1
    obtain ⟨pf,cf,rfl,_⟩:=hfr.shape
    obtain ⟨L,hL⟩:∃ L,bytesL m++bytesL es.length++bytesB (es.take k)=L:=⟨_,rfl⟩
    have hn2:bytesL m++bytesL es.length++bytesB (es.take (k+1))=L++bytesE (z,fs):=by rw [hnx,← hL];simp
    have hlen:L.length≤9000000:=by rw [← hL];exact HFT.out k
    have ho:=HOk.out
    rw [hL] at ho
    have hlo:∀ i,u5.ownBlock=some i→w.heap.size≤i∧i<wr.heap.size:=fun i hi=>World.ownsRow.lt ho i hi
    have hba:Below wr.heap.size wr (wr.alloc (.cells #[.int .i64 z,.slice pf fs.length cf] 87)):=(Below.refl _ _).alloc (Nat.le_refl _) _
    have HA:=Lib.hid (appe_any u5 L z (.slice pf fs.length cf) fs _ (GB.OwnB.zero (OwnB.keep ho hba)) ((hfr.weak (T:=fun i=>u5.ownBlock≠some i) (fun i _ hi e=>by have h1:=hlo i e;have h2:i<w.heap.size:=hi;omega)).keep (kep_below (fun i=>u5.ownBlock≠some i) hba) fun _ _ h=>h) hfe.1 hfe.2 h16 hx (by omega))
    have HN2:=Lib.hid hn2
    have HLT:=Lib.hid hlt
    have HLO:=Lib.hid hlo
    have HOB:=Lib.hid (OwnB.keep ho hba)
    have HBA:=Lib.hid (HBk.out.trans (hba.mono hszk))
    have n0:=(new_two wr (.int .i64 z) (.slice pf fs.length cf) 87).1
    have n1:=(new_two wr (.int .i64 z) (.slice pf fs.length cf) 87).2
    clear hnx hz2 hfr hL hn2 ho HOk hlt hx hfe hlo hba HBk
    go_wp2_with fail
    refine HA.out.mono ?_
    rintro e w6 ⟨v6,rfl,ho6,hg6⟩
    obtain ⟨ho7,hb7⟩:=grown_low (B:=w.heap.size) (by simp;omega) HOB.out hg6 ho6
    rw [← HN2.out] at ho7
    have HO7:=Lib.hid ho7
    have HB7:=Lib.hid (HBA.out.trans hb7)
    clear ho6 hg6 ho7 hb7 HA n0 n1 k1 k2
    go_wp2_with fail
    have hlt:=HLT.out
    go_roundw
    case rel=>exact ⟨k+1,by omega,by go_num,HO7,HB7⟩
    case measure=>simp [intOf];omega
   ·obtain rfl:k=es.length:=by omega
    have q3:decide ((es.length:Int)<(es.length:Int))=false:=by simp
    have q4:decide (es.length<es.length)=false:=by simp
    have ho:=HOk.out
    rw [List.take_length,← HXE.out] at ho
    have HO9:=Lib.hid ho
    clear HOk ho hlt
    go_wp2_with fail
    go_ret2
    exact ⟨_,rfl,HO9.out,HBk.out⟩
 ·have t0:(c != 0)=true:=by rw [bne_iff_ne];exact h0
  have hXe:X=[]:=by rw [← hX];unfold encR;rw [if_neg (by rw [hc];exact h0)]
  subst hXe
  clear hr hX hc hck hbx
  go_enter Tryz.func53,Tryz.ntmps53
  go_wp2_with fail
  refine HCK.out.mono ?_
  rintro e w1 ⟨rfl,hb1⟩
  obtain ⟨c0,c1,hb01⟩:=btbox_in hb1
  have HB1:=Lib.hid hb01
  clear hb1 hb01 HCK
  go_wp2_with fail
  go_ret2
  exact ⟨_,rfl,own_none _ _,HB1.out⟩
end Go.Proofs.YtdfibahafilklaaGreatDoor.EV
namespace Go.Proofs.YtdfibahafilklaaGreatDoor.MM
open Go Go.RowKit
variable {α : Type} {C : Codec α}
theorem wpListIn_append_none {F:Fence} {n:Nat} {P:Program} {w:World} {ops:Array Oper} {rest:List Oper} {o:Oper} {a:Act} {Q:Exit→Act→World→Prop} (hgd:o.guard=none) (s x:Operand) (t:TypeId)
  (ho:o.op=.call { callee:=.builtin .append,args:=#[s,x],argTypes:=#[t,t] })
  (base:Nat) (e:TypeId) (i:TypeInfo) (size:Nat) (ht:P.underlying t=some (.slice e)) (hi:P.info? e=some i)
  (v:Value) (k:Nat) (xs:List Value) (hs:a.eval s=v) (hown:w.ownsRow base e size v k xs) (hx:a.eval x=.slice none 0 0)
  (h:wpListIn F n P ops Q rest (a.put o.dst v) w):wpListIn F n P ops Q (o::rest) a w:=by
 refine wpListIn_plain hgd fun K hK' => ?_
 have hrun:=run_append_owned_none (P:=P) (w:=w) base t o.type e i size ht hi v k xs hown
 unfold Oper.wpIn
 refine ⟨?_,?_⟩
 ·simp [Oper.about,ho,resolve,Target.leads,Sem.run_pure]
 ·rw [Oper.semAt_plain F _ _ (by rw [ho];intro c hc';cases hc')]
  simp [execOp,ho,resolve,invoke,builtin,hs,hx,hrun,Result.andThen]
  exact hK' _ _ h
theorem wpListIn_append_any {F:Fence} {n:Nat} {P:Program} {T e:TypeId} {bytes:Nat} (E:Elem C P T e bytes) {S:Nat→Prop} {w:World} {ops:Array Oper} {rest:List Oper} {o:Oper} {a:Act} {Q:Exit→Act→World→Prop} (hgd:o.guard=none) (s x:Operand)
  (ho:o.op=.call { callee:=.builtin .append,args:=#[s,x],argTypes:=#[T,T] }) (B:Nat) (v:Value) (es:List α) (hs:a.eval s=v) (hown:OwnX C e B S w v es) (hS:∀ b,b<w.heap.size→S b→Apt e B w b)
  (src:Value) (ds:List α) (hx:a.eval x=src) (hr:SrcX C S w src ds) (hlen:es.length+ds.length≤maxLen) (hby:(es.length+ds.length)*bytes≤140737488355328) (hbase:B≤w.heap.size)
  (h:∀ v' w',OwnX C e B S w' v' (es++ds)→Below B w w'→w.grownBy w' v.ownBlock→wpListIn F n P ops Q rest (a.put o.dst v') w'):wpListIn F n P ops Q (o::rest) a w:=by
 obtain ⟨p,cap,raw,rfl,h1,h3,hm,hc⟩:=hr
 obtain ⟨i,z,hi,hz,hsz,hbt,hzs⟩:=E.info
 have hlo:∀ k,v.ownBlock=some k→B≤k:=fun k hk=>by obtain ⟨raw1,g1,_⟩:=hown;exact (World.ownsRow.lt g1 k hk).1
 cases p with
 | none =>
   have h0:=h3 rfl
   subst h0
   have hd:ds=[]:=List.eq_nil_of_length_eq_zero (by omega)
   subst hd
   obtain ⟨raw1,g1,g2⟩:=id hown
   refine wpListIn_append_none hgd s x T ho B e i C.size E.under hi v es.length _ hs g1 hx (h v w ?_ (Below.refl _ _) ?_)
   ·rw [List.append_nil];exact hown
   ·exact World.grownBy.refl _ _
 | some ad =>
   obtain ⟨raw1,g1,g2⟩:=hown
   have hl:raw.flatten.length=ds.length*C.size:=by rw [flat_len hm.lens,hm.1]
   refine wpListIn_append_own w hgd s x T ho B e i z C.size bytes E.under hi hz hsz hbt hzs C.pos v es.length _ hs g1 ad ds.length cap raw.flatten hx hl ?_ hm.ones hlen hby hbase (fun v' w' h4 hg _ => ?_)
   ·intro j u hj
    rcases hc with hc | ⟨b,off,he,hc⟩
    ·subst hc
     have:raw=[]:=List.eq_nil_of_length_eq_zero (by rw [hm.1];rfl)
     subst this
     simp at hj
    ·obtain rfl:ad=⟨b,off,none⟩:=Option.some.inj he
     rw [add_at]
     exact hc j u hj
   ·have hb:Below B w w':=(Below.refl B w).grown hg hbase hlo
    have hk:Kep (Apt e B w) w w':=kep_grown hg fun k hk hA=>apt_not_own g1 hA hk
    refine h v' w' ⟨raw1++raw,?_,?_⟩ hb hg
    ·rw [List.length_append,List.flatten_append]
     exact h4
    ·have hm2:=g2.append hm
     refine ⟨hm2.1,fun i hi hi' => ?_⟩
     exact C.keep (C.keep (hm2.2 i hi hi') (Kep.refl _ _) (T:=fun b=>S b∧b<w.heap.size) fun b hb hs=>⟨hs,hb⟩) (hk.mono' (T:=fun b=>S b∧b<w.heap.size) fun b hb hs=>hS b hb hs.1) fun b hb hs=>hs.1
end Go.Proofs.YtdfibahafilklaaGreatDoor.MM
