import Derived.Test.YtdfibahafilklaaGreatDoorZB39
import Derived.Test.YtdfibahafilklaaGreatDoorZB36
import Derived.Test.YtdfibahafilklaaGreatDoorZB33
set_option maxRecDepth 100000
set_option maxHeartbeats 8000000
set_option linter.unusedVariables false
set_option linter.unusedSimpArgs false
namespace Go.Proofs.YtdfibahafilklaaGreatDoor.EV
open Go Go.RowKit MM EM VM
theorem num_ok {m:Nat} {l:List UInt8} (o:Bool) (h:(getL l).2.2=0) (h2:(getL l).1≤m):numSt m l o=((getL l).1,l.drop (getL l).2.1,o):=by
 unfold numSt VG.restL
 rw [if_pos ⟨h,h2⟩,if_pos h]
theorem num_no {m:Nat} {l:List UInt8} (o:Bool) (h:(getL l).2.2≠0∨m<(getL l).1):numSt m l o=(0,[],true):=by
 unfold numSt
 rw [if_neg (fun hc=>h.elim (fun h=>h hc.1) (fun h=>by omega))]
theorem num_le (m:Nat) (l:List UInt8) (o:Bool):(numSt m l o).1≤m:=by
 unfold numSt
 split
 ·rename_i h;exact h.2
 ·exact Nat.zero_le _
theorem num_odd (m:Nat) (l:List UInt8):(numSt m l true).2.2=true:=by
 unfold numSt
 split<;>rfl
theorem tim_ok {l:List UInt8} (o:Bool) (h:(getI l).2.2=0):timSt l o=((getI l).1,l.drop (getI l).2.1,o):=by
 unfold timSt VG.restL
 have h':(getL l).2.2=0:=h
 rw [if_pos h',h]
 simp [getI]
theorem tim_no {l:List UInt8} (o:Bool) (h:(getI l).2.2≠0):(timSt l o).2.2=true:=by
 unfold timSt
 have:((getI l).2.2 != 0)=true:=by rw [bne_iff_ne];exact h
 simp [this]
theorem tim_odd (l:List UInt8):(timSt l true).2.2=true:=by unfold timSt;simp
theorem txt_ok {m:Int} {l:List UInt8} (o:Bool) (h:(getT l m).2.2=0):txtSt m l o=((getT l m).1,l.drop (getT l m).2.1,o):=by
 unfold txtSt VG.restT
 rw [if_pos h,h]
 simp
theorem txt_no {m:Int} {l:List UInt8} (o:Bool) (h:(getT l m).2.2≠0):(txtSt m l o).2.2=true:=by
 unfold txtSt
 have:((getT l m).2.2 != 0)=true:=by rw [bne_iff_ne];exact h
 simp [this]
theorem txt_odd (m:Int) (l:List UInt8):(txtSt m l true).2.2=true:=by unfold txtSt;simp
abbrev FSt:=List Fld×List UInt8×Bool
def stepF (s:FSt):FSt :=
 (s.1++[((txtSt 32 s.2.1 s.2.2).1,(txtSt 4096 (txtSt 32 s.2.1 s.2.2).2.1 (txtSt 32 s.2.1 s.2.2).2.2).1)],(txtSt 4096 (txtSt 32 s.2.1 s.2.2).2.1 (txtSt 32 s.2.1 s.2.2).2.2).2.1,(txtSt 4096 (txtSt 32 s.2.1 s.2.2).2.1 (txtSt 32 s.2.1 s.2.2).2.2).2.2)
def fldsN:Nat→FSt→FSt
 | 0,s=>s
 | k+1,s=>stepF (fldsN k s)
theorem fldsN_front:∀ (k:Nat) (s:FSt),fldsN (k+1) s=fldsN k (stepF s)
 | 0,s=>rfl
 | k+1,s=>by rw [fldsN,fldsN_front k s,← fldsN]
theorem stepF_odd {s:FSt} (h:s.2.2=true):(stepF s).2.2=true:=by
 unfold stepF
 rw [h]
 have:=txt_odd 32 s.2.1
 rw [this]
 exact txt_odd _ _
theorem fldsN_odd:∀ (k:Nat) {s:FSt},s.2.2=true→(fldsN k s).2.2=true
 | 0,_,h=>h
 | k+1,_,h=>stepF_odd (fldsN_odd k h)
theorem fldsN_len:∀ (k:Nat) (s:FSt),(fldsN k s).1.length=s.1.length+k
 | 0,s=>rfl
 | k+1,s=>by rw [fldsN];unfold stepF;simp [fldsN_len k s];omega
theorem flds_some:∀ (k:Nat) (acc:List Fld) (l:List UInt8) (o:Bool) (fs:List Fld) (r:List UInt8),getFa k acc l=some (fs,r)→fldsN k (acc,l,o)=(fs,r,o)
 | 0,acc,l,o,fs,r,h=>by
   rw [getFa] at h
   simp only [Option.some.injEq,Prod.mk.injEq] at h
   rw [fldsN,h.1,h.2]
 | k+1,acc,l,o,fs,r,h=>by
   rw [getFa] at h
   split at h
   ·cases h
   ·rename_i hn
    have h1:(getT l 32).2.2=0:=Classical.byContradiction fun hc=>hn (.inl hc)
    have h2:(getT (l.drop (getT l 32).2.1) 4096).2.2=0:=Classical.byContradiction fun hc=>hn (.inr hc)
    rw [fldsN_front]
    have e:stepF (acc,l,o)=(acc++[((getT l 32).1,(getT (l.drop (getT l 32).2.1) 4096).1)],(l.drop (getT l 32).2.1).drop (getT (l.drop (getT l 32).2.1) 4096).2.1,o):=by
     unfold stepF
     dsimp only
     rw [txt_ok o h1]
     dsimp only
     rw [txt_ok o h2]
    rw [e]
    exact flds_some k _ _ _ _ _ h
theorem flds_none:∀ (k:Nat) (acc:List Fld) (l:List UInt8) (o:Bool),getFa k acc l=none→(fldsN k (acc,l,o)).2.2=true
 | 0,acc,l,o,h=>by rw [getFa] at h;cases h
 | k+1,acc,l,o,h=>by
   rw [getFa] at h
   rw [fldsN_front]
   by_cases h1:(getT l 32).2.2=0
   ·by_cases h2:(getT (l.drop (getT l 32).2.1) 4096).2.2=0
    ·rw [if_neg (fun hc=>hc.elim (fun h=>h h1) (fun h=>h h2))] at h
     have e:stepF (acc,l,o)=(acc++[((getT l 32).1,(getT (l.drop (getT l 32).2.1) 4096).1)],(l.drop (getT l 32).2.1).drop (getT (l.drop (getT l 32).2.1) 4096).2.1,o):=by
      unfold stepF
      dsimp only
      rw [txt_ok o h1]
      dsimp only
      rw [txt_ok o h2]
     rw [e]
     exact flds_none k _ _ _ h
    ·refine fldsN_odd k ?_
     unfold stepF
     dsimp only
     rw [txt_ok o h1]
     dsimp only
     exact txt_no o h2
   ·refine fldsN_odd k ?_
    unfold stepF
    dsimp only
    rw [txt_no o h1]
    exact txt_odd _ _
def evSt (l:List UInt8) (o:Bool):Ev×List UInt8×Bool :=
 (((timSt l o).1,(fldsN (numSt 16 (timSt l o).2.1 (timSt l o).2.2).1 ([],(numSt 16 (timSt l o).2.1 (timSt l o).2.2).2.1,(numSt 16 (timSt l o).2.1 (timSt l o).2.2).2.2)).1),
   (fldsN (numSt 16 (timSt l o).2.1 (timSt l o).2.2).1 ([],(numSt 16 (timSt l o).2.1 (timSt l o).2.2).2.1,(numSt 16 (timSt l o).2.1 (timSt l o).2.2).2.2)).2.1,
   (fldsN (numSt 16 (timSt l o).2.1 (timSt l o).2.2).1 ([],(numSt 16 (timSt l o).2.1 (timSt l o).2.2).2.1,(numSt 16 (timSt l o).2.1 (timSt l o).2.2).2.2)).2.2)
theorem evSt_odd (l:List UInt8):(evSt l true).2.2=true:=by
 unfold evSt
 dsimp only
 refine fldsN_odd _ ?_
 dsimp only
 rw [tim_odd]
 exact num_odd _ _
theorem evSt_len (l:List UInt8) (o:Bool):(evSt l o).1.2.length≤16:=by
 unfold evSt
 dsimp only
 rw [fldsN_len]
 have:=num_le 16 (timSt l o).2.1 (timSt l o).2.2
 simp only [List.length_nil]
 omega
theorem ev_some {l r:List UInt8} {e:Ev} (o:Bool) (h:rdE l=some (e,r)):evSt l o=(e,r,o):=by
 unfold rdE at h
 split at h
 ·cases h
 ·rename_i h1
  split at h
  ·cases h
  ·rename_i h2
   have h1:(getI l).2.2=0:=by simpa using h1
   have h3:(getL (l.drop (getI l).2.1)).2.2=0:=Classical.byContradiction fun hc=>h2 (.inl hc)
   have h4:(getL (l.drop (getI l).2.1)).1≤16:=Nat.not_lt.1 fun hc=>h2 (.inr hc)
   cases hg:getFa (getL (l.drop (getI l).2.1)).1 [] ((l.drop (getI l).2.1).drop (getL (l.drop (getI l).2.1)).2.1) with
   | none=>rw [hg] at h;cases h
   | some p =>
     obtain ⟨fs,r2⟩:=p
     rw [hg] at h
     simp only [Option.some.injEq,Prod.mk.injEq] at h
     obtain ⟨rfl,rfl⟩:=h
     unfold evSt
     rw [tim_ok o h1]
     dsimp only
     rw [num_ok o h3 h4]
     dsimp only
     rw [flds_some _ _ _ o _ _ hg]
theorem ev_none {l:List UInt8} (o:Bool) (h:rdE l=none):(evSt l o).2.2=true:=by
 unfold evSt
 dsimp only
 by_cases h1:(getI l).2.2=0
 ·rw [tim_ok o h1]
  dsimp only
  by_cases h2:(getL (l.drop (getI l).2.1)).2.2≠0∨16<(getL (l.drop (getI l).2.1)).1
  ·rw [num_no o h2]
   exact fldsN_odd _ rfl
  ·have h3:(getL (l.drop (getI l).2.1)).2.2=0:=Classical.byContradiction fun hc=>h2 (.inl hc)
   have h4:(getL (l.drop (getI l).2.1)).1≤16:=Nat.not_lt.1 fun hc=>h2 (.inr hc)
   rw [num_ok o h3 h4]
   dsimp only
   unfold rdE at h
   rw [if_neg (by simpa using h1),if_neg h2] at h
   cases hg:getFa (getL (l.drop (getI l).2.1)).1 [] ((l.drop (getI l).2.1).drop (getL (l.drop (getI l).2.1)).2.1) with
   | none=>exact flds_none _ _ _ _ hg
   | some p=>rw [hg] at h;cases h
 ·refine fldsN_odd _ ?_
  dsimp only
  rw [tim_no o h1]
  exact num_odd _ _
abbrev BSt:=List Ev×List UInt8×Bool
def stepE (s:BSt):BSt:=(s.1++[(evSt s.2.1 s.2.2).1],(evSt s.2.1 s.2.2).2.1,(evSt s.2.1 s.2.2).2.2)
def evsN:Nat→BSt→BSt
 | 0,s=>s
 | k+1,s=>stepE (evsN k s)
theorem evsN_front:∀ (k:Nat) (s:BSt),evsN (k+1) s=evsN k (stepE s)
 | 0,s=>rfl
 | k+1,s=>by rw [evsN,evsN_front k s,← evsN]
theorem evsN_odd:∀ (k:Nat) {s:BSt},s.2.2=true→(evsN k s).2.2=true
 | 0,_,h=>h
 | k+1,s,h=>by
   rw [evsN]
   unfold stepE
   dsimp only
   rw [evsN_odd k h]
   exact evSt_odd _
theorem evsN_len:∀ (k:Nat) (s:BSt),(evsN k s).1.length=s.1.length+k
 | 0,s=>rfl
 | k+1,s=>by rw [evsN];unfold stepE;simp [evsN_len k s];omega
theorem evsN_mem:∀ (k:Nat) {s:BSt} {e:Ev},e∈s.1→e∈(evsN k s).1
 | 0,_,_,h=>h
 | k+1,s,e,h=>by
   rw [evsN]
   unfold stepE
   exact List.mem_append_left _ (evsN_mem k h)
theorem evs_some:∀ (k:Nat) (acc:List Ev) (l:List UInt8) (o:Bool) (es:List Ev) (r:List UInt8),getBa k acc l=some (es,r)→evsN k (acc,l,o)=(es,r,o)
 | 0,acc,l,o,es,r,h=>by
   rw [getBa] at h
   simp only [Option.some.injEq,Prod.mk.injEq] at h
   rw [evsN,h.1,h.2]
 | k+1,acc,l,o,es,r,h=>by
   rw [getBa] at h
   cases hg:getE l with
   | none=>rw [hg] at h;cases h
   | some p =>
     obtain ⟨e,r1⟩:=p
     rw [hg] at h
     dsimp only at h
     have hr:rdE l=some (e,r1):=by
      unfold getE at hg
      cases hr:rdE l with
      | none=>rw [hr] at hg;cases hg
      | some q =>
        rw [hr] at hg
        obtain ⟨e2,r2⟩:=q
        dsimp only at hg
        split at hg
        ·rw [Option.some.injEq] at hg;rw [hg]
        ·cases hg
     rw [evsN_front]
     have e:stepE (acc,l,o)=(acc++[e],r1,o):=by
      unfold stepE
      dsimp only
      rw [ev_some o hr]
     rw [e]
     exact evs_some k _ _ _ _ _ h
theorem evs_none:∀ (k:Nat) (acc:List Ev) (l:List UInt8) (o:Bool),getBa k acc l=none→(evsN k (acc,l,o)).2.2=true∨∃ e∈(evsN k (acc,l,o)).1,checkE e≠0
 | 0,acc,l,o,h=>by rw [getBa] at h;cases h
 | k+1,acc,l,o,h=>by
   rw [getBa] at h
   rw [evsN_front]
   cases hr:rdE l with
   | none =>
     refine .inl (evsN_odd k ?_)
     unfold stepE
     exact ev_none o hr
   | some q =>
     obtain ⟨e,r⟩:=q
     have es:stepE (acc,l,o)=(acc++[e],r,o):=by
      unfold stepE
      dsimp only
      rw [ev_some o hr]
     rw [es]
     by_cases hc:checkE e=0
     ·have hg:getE l=some (e,r):=by unfold getE;rw [hr];dsimp only;rw [if_pos hc]
      rw [hg] at h
      exact evs_none k _ _ _ h
     ·exact .inr ⟨e,evsN_mem k (by simp),hc⟩
def decSt (l:List UInt8):Bat×List UInt8×Bool :=
 (((numSt 1099511627776 l false).1,(evsN (numSt 64 (numSt 1099511627776 l false).2.1 (numSt 1099511627776 l false).2.2).1 ([],(numSt 64 (numSt 1099511627776 l false).2.1 (numSt 1099511627776 l false).2.2).2.1,(numSt 64 (numSt 1099511627776 l false).2.1 (numSt 1099511627776 l false).2.2).2.2)).1),
   (evsN (numSt 64 (numSt 1099511627776 l false).2.1 (numSt 1099511627776 l false).2.2).1 ([],(numSt 64 (numSt 1099511627776 l false).2.1 (numSt 1099511627776 l false).2.2).2.1,(numSt 64 (numSt 1099511627776 l false).2.1 (numSt 1099511627776 l false).2.2).2.2)).2.1,
   (evsN (numSt 64 (numSt 1099511627776 l false).2.1 (numSt 1099511627776 l false).2.2).1 ([],(numSt 64 (numSt 1099511627776 l false).2.1 (numSt 1099511627776 l false).2.2).2.1,(numSt 64 (numSt 1099511627776 l false).2.1 (numSt 1099511627776 l false).2.2).2.2)).2.2)
theorem decSt_some {l r:List UInt8} {b:Bat} (h:rdB l=some (b,r)):decSt l=(b,r,false):=by
 unfold rdB at h
 split at h
 ·cases h
 ·rename_i h1
  split at h
  ·cases h
  ·rename_i h2
   have a1:(getL l).2.2=0:=Classical.byContradiction fun hc=>h1 (.inl hc)
   have a2:(getL l).1≤1099511627776:=Nat.not_lt.1 fun hc=>h1 (.inr hc)
   have a3:(getL (l.drop (getL l).2.1)).2.2=0:=Classical.byContradiction fun hc=>h2 (.inl hc)
   have a4:(getL (l.drop (getL l).2.1)).1≤64:=Nat.not_lt.1 fun hc=>h2 (.inr hc)
   cases hg:getBa (getL (l.drop (getL l).2.1)).1 [] ((l.drop (getL l).2.1).drop (getL (l.drop (getL l).2.1)).2.1) with
   | none=>rw [hg] at h;cases h
   | some p =>
     obtain ⟨es,r2⟩:=p
     rw [hg] at h
     simp only [Option.some.injEq,Prod.mk.injEq] at h
     obtain ⟨rfl,rfl⟩:=h
     unfold decSt
     rw [num_ok false a1 a2]
     dsimp only
     rw [num_ok false a3 a4]
     dsimp only
     rw [evs_some _ _ _ false _ _ hg]
theorem decSt_none {l:List UInt8} (h:rdB l=none):(decSt l).2.2=true∨∃ e∈(decSt l).1.2,checkE e≠0:=by
 unfold decSt
 dsimp only
 by_cases h1:(getL l).2.2≠0∨1099511627776<(getL l).1
 ·rw [num_no false h1]
  refine .inl (evsN_odd _ ?_)
  exact num_odd _ _
 ·have a1:(getL l).2.2=0:=Classical.byContradiction fun hc=>h1 (.inl hc)
  have a2:(getL l).1≤1099511627776:=Nat.not_lt.1 fun hc=>h1 (.inr hc)
  rw [num_ok false a1 a2]
  dsimp only
  by_cases h2:(getL (l.drop (getL l).2.1)).2.2≠0∨64<(getL (l.drop (getL l).2.1)).1
  ·rw [num_no false h2]
   exact .inl (evsN_odd _ rfl)
  ·have a3:(getL (l.drop (getL l).2.1)).2.2=0:=Classical.byContradiction fun hc=>h2 (.inl hc)
   have a4:(getL (l.drop (getL l).2.1)).1≤64:=Nat.not_lt.1 fun hc=>h2 (.inr hc)
   rw [num_ok false a3 a4]
   dsimp only
   unfold rdB at h
   rw [if_neg h1,if_neg h2] at h
   cases hg:getBa (getL (l.drop (getL l).2.1)).1 [] ((l.drop (getL l).2.1).drop (getL (l.drop (getL l).2.1)).2.1) with
   | none=>exact evs_none _ _ _ _ hg
   | some p=>rw [hg] at h;cases h
end Go.Proofs.YtdfibahafilklaaGreatDoor.EV
namespace Go.Proofs.YtdfibahafilklaaGreatDoor.EV
open Go Go.RowKit MM EM VM GB
open VP
def encR (b:Bat):List UInt8:=if checkB b=0 then encB b else []
theorem ok_bytes {e:Ev} (h:checkE e=0):e.2.length≤16∧(∀ f∈e.2,f.1.length≤4096∧f.2.length≤4096)∧(bytesE e).length≤140000:=by
 have hok:=checkE_ok.1 h
 have h1:=(bytesE_len e).1
 have h2:=sizeF_of_ok hok.2
 have h3:=hok.1
 refine ⟨h3,fun f hf=>⟨Nat.le_trans (name_len (hok.2 f hf).1) (by omega),(hok.2 f hf).2⟩,?_⟩
 have h4:4128*e.2.length≤4128*16:=Nat.mul_le_mul_left _ h3
 omega
theorem bytesB_le:∀ {es:List Ev},(∀ e∈es,checkE e=0)→(bytesB es).length≤140000*es.length
 | [],_=>by simp [bytesB]
 | e::r,h=>by
   have h1:=(ok_bytes (h e (by simp))).2.2
   have h2:=bytesB_le (es:=r) fun g hg=>h g (List.mem_cons_of_mem _ hg)
   rw [bytesB_cons,List.length_append,List.length_cons]
   omega
theorem enc_fits (m n:Nat) {es:List Ev} (h:∀ e∈es,checkE e=0) (h64:es.length≤64):∀ k,(bytesL m++bytesL n++bytesB (es.take k)).length≤9000000:=fun k=>by
 have h1:=(bytesL_length m).2
 have h2:=(bytesL_length n).2
 have h3:=bytesB_le (es:=es.take k) fun e he=>h e (List.mem_of_mem_take he)
 have h4:(es.take k).length≤es.length:=List.length_take_le' _ _
 have h5:140000*(es.take k).length≤140000*64:=Nat.mul_le_mul_left _ (by omega)
 simp only [List.length_append]
 omega
theorem cencode_any (seq:Int) (v:Value) (es:List Ev) (w:World) (hr:RAny evC w v es) (hf:∀ e∈es,FitE e) :
  Calls Tryz.prog 53 #[.agg #[.int .i64 seq,v]] w (CodeLeft (encR (seq,es)) (checkB (seq,es)) w):=by
 have hbx:=btbox_below w seq v
 have hck:=cbatch_any seq v es _ (RAny.below hr hbx)
 obtain ⟨p,cap,rfl,hlc,hcm,_⟩:=hr.shape
 unfold maxLen at hcm
 obtain ⟨c,hc⟩:∃ c,checkB (seq,es)=c:=⟨_,rfl⟩
 rw [hc] at hck
 have HCK:=Lib.hid hck
 obtain ⟨X,hX⟩:∃ X,encR (seq,es)=X:=⟨_,rfl⟩
 rw [hX,hc]
 have HBX:=Lib.hid hbx
 by_cases h0:c=0
 ·subst h0
  obtain ⟨hl1,hl64,hall,_,hs1,hs2⟩:=checkB_ok hc
  have hl64:es.length≤64:=hl64
  have hs1:1≤seq:=hs1
  have hs2:seq≤1099511627776:=by have:seq≤1099511627776 - ((es.length:Int) - 1):=hs2;omega
  obtain ⟨m,rfl⟩:∃ m:Nat,seq=(m:Int):=⟨seq.toNat,by omega⟩
  have hXe:X=bytesL m++bytesL es.length++bytesB es:=by rw [← hX];unfold encR;rw [if_pos hc];rfl
  have HALL:=Lib.hid hall
  have HF:=Lib.hid hf
  have HFT:=Lib.hid (enc_fits m es.length hall hl64)
  have HR:=Lib.hid hr.bel
  have HXE:=Lib.hid hXe
  have q1:IntKind.u64.wrap (m:Int)=(m:Int):=by rw [IntKind.wrap_u64];omega
  have q2:IntKind.u64.wrap (es.length:Int)=(es.length:Int):=by rw [IntKind.wrap_u64];omega
  clear hall hf hr hX hXe hc hck hbx
  go_enter Tryz.func53,Tryz.ntmps53
  go_wp2_with fail
  refine HCK.out.mono ?_
  rintro e w1 ⟨rfl,hb1⟩
  obtain ⟨c0,c1,hbw1⟩:=btbox_in hb1
  have HBB1:=Lib.hid hb1
  have HBW1:=Lib.hid hbw1
  clear hb1 hbw1 HCK
  go_wp2_with fail
  refine (put_any (.slice none 0 0) [] m w1 (by omega) (brow_nil _) (by simp)).mono ?_
  rintro e w2 ⟨v2,rfl,ho2,hb2⟩
  rw [List.nil_append] at ho2
  have HBB2:=Lib.hid (HBB1.out.trans (hb2.mono HBB1.out.size))
  obtain ⟨d0,d1,hbw2⟩:=btbox_in HBB2.out
  have HBW2:=Lib.hid hbw2
  have hbs:=btbox_size w (m:Int) (.slice p es.length cap)
  have HO2:=Lib.hid (OwnB.weaken ho2 (show w.heap.size+1≤w1.heap.size by have:=HBB1.out.size;omega))
  clear ho2 hb2 hbw2 c0 c1 HBB1 HBW1
  go_wp2_with fail
  refine (put_any (.slice none 0 0) [] es.length w2 (by omega) (brow_nil _) (by simp)).mono ?_
  rintro e w3 ⟨v3,rfl,ho3,hb3⟩
  rw [List.nil_append] at ho3
  have HO3:=Lib.hid ho3.brow
  have HV3:=Lib.hid (OwnB.keep HO2.out hb3)
  have HBB3:=Lib.hid (HBB2.out.trans (hb3.mono HBB2.out.size))
  clear ho3 hb3 d0 d1 HBB2 HBW2 HO2
  go_wp2_with (at_builtin;go_loud (refine wpList_append_bytes rfl _ _ rfl (w.heap.size+1) v2 (bytesL m) rfl HV3.out _ (bytesL es.length) rfl HO3.out (by have:=HFT.out 0;simp only [List.length_append] at this;omega) (by have:=HBB3.out.size;omega) ?_;intro v4 w4 ho4 hb4;have HO4:Hid (OwnB w.heap.size w4 v4 (bytesL m++bytesL es.length++bytesB (es.take 0))):=Lib.hid (by rw [show bytesL m++bytesL es.length++bytesB (es.take 0)=bytesL m++bytesL es.length by simp [bytesB]];exact OwnB.weaken ho4 (Nat.le_succ _));have hbb4:=HBB3.out.trans (by rw [hbs];exact hb4);obtain ⟨f0,f1,hbw4⟩:=btbox_in hbb4;have HB4:=Lib.hid hbw4;clear ho4 hb4 hbb4 hbw4))
  have HB04:=HB4
  clear HBB3 HO3 HV3 HB4 f0 f1
  go_loopw [5,27] (fun bv iv wr=>∃ k:Nat,k≤es.length∧iv=.int .i64 k∧Hid (OwnB w.heap.size wr bv (bytesL m++bytesL es.length++bytesB (es.take k)))∧Hid (Below w.heap.size w wr)) (fun _ iv _=>es.length - (intOf iv).toNat)
  case atStart=>exact ⟨0,by omega,rfl,HO4,HB04⟩
  case round =>
   obtain ⟨k,hk,rfl,HOk,HBk⟩:=hrel
   clear HO4 HB04
   have hszk:=HBk.out.size
   by_cases hlt:k<es.length
   ·have q3:decide ((k:Int)<(es.length:Int))=true:=by rw [decide_eq_true_eq];omega
    have q4:decide (k<es.length)=true:=by rw [decide_eq_true_eq];omega
    have q5:(k:Int)<(es.length:Int):=by omega
    obtain ⟨b,off,vf,rfl,hbl,_,k1,k2,hfr⟩:=ev_at (HR.out.below HBk.out) hlt
    have hnx:=bytesB_next hlt
    have hok:=ok_bytes (HALL.out es[k] (List.getElem_mem hlt))
    have hfe:=HF.out es[k] (List.getElem_mem hlt)
    obtain ⟨⟨z,fs⟩,hz2⟩:∃ e,es[k]=e:=⟨_,rfl⟩
    rw [hz2] at k1 hfr hnx hok hfe
    obtain ⟨h16,hx,_⟩:=hok
    change ROn fldC _ wr vf fs at hfr
    change wr.cell? ⟨b,off+k*2,none⟩=some (.int .i64 z) at k1
    obtain ⟨pf,cf,rfl,_⟩:=hfr.shape
    obtain ⟨L,hL⟩:∃ L,bytesL m++bytesL es.length++bytesB (es.take k)=L:=⟨_,rfl⟩
    have hn2:bytesL m++bytesL es.length++bytesB (es.take (k+1))=L++bytesE (z,fs):=by rw [hnx,← hL];simp
    have hlen:L.length≤9000000:=by rw [← hL];exact HFT.out k
    have ho:=HOk.out
    rw [hL] at ho
    have hlo:∀ i,u5.ownBlock=some i→w.heap.size≤i∧i<wr.heap.size:=fun i hi=>World.ownsRow.lt ho i hi
    have hba:Below wr.heap.size wr (wr.alloc (.cells #[.int .i64 z,.slice pf fs.length cf] 87)):=(Below.refl _ _).alloc (Nat.le_refl _) _
    have HA:=Lib.hid (appe_any u5 L z (.slice pf fs.length cf) fs _ (GB.OwnB.zero (OwnB.keep ho hba)) ((hfr.weak (T:=fun i=>u5.ownBlock≠some i) (fun i _ hi e=>by have h1:=hlo i e;have h2:i<w.heap.size:=hi;omega)).keep (kep_below (fun i=>u5.ownBlock≠some i) hba) fun _ _ h=>h) hfe.1 hfe.2 h16 hx (by omega))
    have HN2:=Lib.hid hn2
    have HLT:=Lib.hid hlt
    have HLO:=Lib.hid hlo
    have HOB:=Lib.hid (OwnB.keep ho hba)
    have HBA:=Lib.hid (HBk.out.trans (hba.mono hszk))
    have n0:=(new_two wr (.int .i64 z) (.slice pf fs.length cf) 87).1
    have n1:=(new_two wr (.int .i64 z) (.slice pf fs.length cf) 87).2
    clear hnx hz2 hfr hL hn2 ho HOk hlt hx hfe hlo hba HBk
    go_wp2_with fail
    refine HA.out.mono ?_
    rintro e w6 ⟨v6,rfl,ho6,hg6⟩
    obtain ⟨ho7,hb7⟩:=grown_low (B:=w.heap.size) (by simp;omega) HOB.out hg6 ho6
    rw [← HN2.out] at ho7
    have HO7:=Lib.hid ho7
    have HB7:=Lib.hid (HBA.out.trans hb7)
    clear ho6 hg6 ho7 hb7 HA n0 n1 k1 k2
    go_wp2_with fail
    have hlt:=HLT.out
    go_roundw
    case rel=>exact ⟨k+1,by omega,by go_num,HO7,HB7⟩
    case measure=>simp [intOf];omega
   ·obtain rfl:k=es.length:=by omega
    have q3:decide ((es.length:Int)<(es.length:Int))=false:=by simp
    have q4:decide (es.length<es.length)=false:=by simp
    have ho:=HOk.out
    rw [List.take_length,← HXE.out] at ho
    have HO9:=Lib.hid ho
    clear HOk ho hlt
    go_wp2_with fail
    go_ret2
    exact ⟨_,rfl,HO9.out,HBk.out⟩
 ·have t0:(c != 0)=true:=by rw [bne_iff_ne];exact h0
  have hXe:X=[]:=by rw [← hX];unfold encR;rw [if_neg (by rw [hc];exact h0)]
  subst hXe
  clear hr hX hc hck hbx
  go_enter Tryz.func53,Tryz.ntmps53
  go_wp2_with fail
  refine HCK.out.mono ?_
  rintro e w1 ⟨rfl,hb1⟩
  obtain ⟨c0,c1,hb01⟩:=btbox_in hb1
  have HB1:=Lib.hid hb01
  clear hb1 hb01 HCK
  go_wp2_with fail
  go_ret2
  exact ⟨_,rfl,own_none _ _,HB1.out⟩
end Go.Proofs.YtdfibahafilklaaGreatDoor.EV
