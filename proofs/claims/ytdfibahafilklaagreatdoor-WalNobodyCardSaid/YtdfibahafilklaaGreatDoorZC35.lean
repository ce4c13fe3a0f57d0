import Derived.Test.YtdfibahafilklaaGreatDoorZC34
set_option maxRecDepth 100000
set_option maxHeartbeats 8000000
set_option linter.unusedVariables false
set_option linter.unusedSimpArgs false
namespace Go.Proofs.YtdfibahafilklaaGreatDoor.EV
open Go Go.RowKit MM EM VM
theorem num_ok {m:Nat} {l:List UInt8} (o:Bool) (h:(getL l).2.2=0) (h2:(getL l).1≤m):numSt m l o=((getL l).1,l.drop (getL l).2.1,o):=by
 unfold numSt VG.restL
 rw [if_pos ⟨h,h2⟩,if_pos h]
theorem num_no {m:Nat} {l:List UInt8} (o:Bool) (h:(getL l).2.2≠0∨m<(getL l).1):numSt m l o=(0,[],true):=by
 unfold numSt
 rw [if_neg (fun hc=>h.elim (fun h=>h hc.1) (fun h=>by omega))]
theorem num_le (m:Nat) (l:List UInt8) (o:Bool):(numSt m l o).1≤m:=by
 unfold numSt
 split
 ·rename_i h;exact h.2
 ·exact Nat.zero_le _
theorem num_odd (m:Nat) (l:List UInt8):(numSt m l true).2.2=true:=by
 unfold numSt
 split<;>rfl
theorem tim_ok {l:List UInt8} (o:Bool) (h:(getI l).2.2=0):timSt l o=((getI l).1,l.drop (getI l).2.1,o):=by
 unfold timSt VG.restL
 have h':(getL l).2.2=0:=h
 rw [if_pos h',h]
 simp [getI]
theorem tim_no {l:List UInt8} (o:Bool) (h:(getI l).2.2≠0):(timSt l o).2.2=true:=by
 unfold timSt
 have:((getI l).2.2 != 0)=true:=by rw [bne_iff_ne];exact h
 simp [this]
theorem tim_odd (l:List UInt8):(timSt l true).2.2=true:=by unfold timSt;simp
theorem txt_ok {m:Int} {l:List UInt8} (o:Bool) (h:(getT l m).2.2=0):txtSt m l o=((getT l m).1,l.drop (getT l m).2.1,o):=by
 unfold txtSt VG.restT
 rw [if_pos h,h]
 simp
theorem txt_no {m:Int} {l:List UInt8} (o:Bool) (h:(getT l m).2.2≠0):(txtSt m l o).2.2=true:=by
 unfold txtSt
 have:((getT l m).2.2 != 0)=true:=by rw [bne_iff_ne];exact h
 simp [this]
theorem txt_odd (m:Int) (l:List UInt8):(txtSt m l true).2.2=true:=by unfold txtSt;simp
abbrev FSt:=List Fld×List UInt8×Bool
def stepF (s:FSt):FSt :=
 (s.1++[((txtSt 32 s.2.1 s.2.2).1,(txtSt 4096 (txtSt 32 s.2.1 s.2.2).2.1 (txtSt 32 s.2.1 s.2.2).2.2).1)],(txtSt 4096 (txtSt 32 s.2.1 s.2.2).2.1 (txtSt 32 s.2.1 s.2.2).2.2).2.1,(txtSt 4096 (txtSt 32 s.2.1 s.2.2).2.1 (txtSt 32 s.2.1 s.2.2).2.2).2.2)
def fldsN:Nat→FSt→FSt
 | 0,s=>s
 | k+1,s=>stepF (fldsN k s)
theorem fldsN_front:∀ (k:Nat) (s:FSt),fldsN (k+1) s=fldsN k (stepF s)
 | 0,s=>rfl
 | k+1,s=>by rw [fldsN,fldsN_front k s,← fldsN]
theorem stepF_odd {s:FSt} (h:s.2.2=true):(stepF s).2.2=true:=by
 unfold stepF
 rw [h]
 have:=txt_odd 32 s.2.1
 rw [this]
 exact txt_odd _ _
theorem fldsN_odd:∀ (k:Nat) {s:FSt},s.2.2=true→(fldsN k s).2.2=true
 | 0,_,h=>h
 | k+1,_,h=>stepF_odd (fldsN_odd k h)
theorem fldsN_len:∀ (k:Nat) (s:FSt),(fldsN k s).1.length=s.1.length+k
 | 0,s=>rfl
 | k+1,s=>by rw [fldsN];unfold stepF;simp [fldsN_len k s];omega
theorem flds_some:∀ (k:Nat) (acc:List Fld) (l:List UInt8) (o:Bool) (fs:List Fld) (r:List UInt8),getFa k acc l=some (fs,r)→fldsN k (acc,l,o)=(fs,r,o)
 | 0,acc,l,o,fs,r,h=>by
   rw [getFa] at h
   simp only [Option.some.injEq,Prod.mk.injEq] at h
   rw [fldsN,h.1,h.2]
 | k+1,acc,l,o,fs,r,h=>by
   rw [getFa] at h
   split at h
   ·cases h
   ·rename_i hn
    have h1:(getT l 32).2.2=0:=Classical.byContradiction fun hc=>hn (.inl hc)
    have h2:(getT (l.drop (getT l 32).2.1) 4096).2.2=0:=Classical.byContradiction fun hc=>hn (.inr hc)
    rw [fldsN_front]
    have e:stepF (acc,l,o)=(acc++[((getT l 32).1,(getT (l.drop (getT l 32).2.1) 4096).1)],(l.drop (getT l 32).2.1).drop (getT (l.drop (getT l 32).2.1) 4096).2.1,o):=by
     unfold stepF
     dsimp only
     rw [txt_ok o h1]
     dsimp only
     rw [txt_ok o h2]
    rw [e]
    exact flds_some k _ _ _ _ _ h
theorem flds_none:∀ (k:Nat) (acc:List Fld) (l:List UInt8) (o:Bool),getFa k acc l=none→(fldsN k (acc,l,o)).2.2=true
 | 0,acc,l,o,h=>by rw [getFa] at h;cases h
 | k+1,acc,l,o,h=>by
   rw [getFa] at h
   rw [fldsN_front]
   by_cases h1:(getT l 32).2.2=0
   ·by_cases h2:(getT (l.drop (getT l 32).2.1) 4096).2.2=0
    ·rw [if_neg (fun hc=>hc.elim (fun h=>h h1) (fun h=>h h2))] at h
     have e:stepF (acc,l,o)=(acc++[((getT l 32).1,(getT (l.drop (getT l 32).2.1) 4096).1)],(l.drop (getT l 32).2.1).drop (getT (l.drop (getT l 32).2.1) 4096).2.1,o):=by
      unfold stepF
      dsimp only
      rw [txt_ok o h1]
      dsimp only
      rw [txt_ok o h2]
     rw [e]
     exact flds_none k _ _ _ h
    ·refine fldsN_odd k ?_
     unfold stepF
     dsimp only
     rw [txt_ok o h1]
     dsimp only
     exact txt_no o h2
   ·refine fldsN_odd k ?_
    unfold stepF
    dsimp only
    rw [txt_no o h1]
    exact txt_odd _ _
def evSt (l:List UInt8) (o:Bool):Ev×List UInt8×Bool :=
 (((timSt l o).1,(fldsN (numSt 16 (timSt l o).2.1 (timSt l o).2.2).1 ([],(numSt 16 (timSt l o).2.1 (timSt l o).2.2).2.1,(numSt 16 (timSt l o).2.1 (timSt l o).2.2).2.2)).1),
   (fldsN (numSt 16 (timSt l o).2.1 (timSt l o).2.2).1 ([],(numSt 16 (timSt l o).2.1 (timSt l o).2.2).2.1,(numSt 16 (timSt l o).2.1 (timSt l o).2.2).2.2)).2.1,
   (fldsN (numSt 16 (timSt l o).2.1 (timSt l o).2.2).1 ([],(numSt 16 (timSt l o).2.1 (timSt l o).2.2).2.1,(numSt 16 (timSt l o).2.1 (timSt l o).2.2).2.2)).2.2)
theorem evSt_odd (l:List UInt8):(evSt l true).2.2=true:=by
 unfold evSt
 dsimp only
 refine fldsN_odd _ ?_
 dsimp only
 rw [tim_odd]
 exact num_odd _ _
theorem evSt_len (l:List UInt8) (o:Bool):(evSt l o).1.2.length≤16:=by
 unfold evSt
 dsimp only
 rw [fldsN_len]
 have:=num_le 16 (timSt l o).2.1 (timSt l o).2.2
 simp only [List.length_nil]
 omega
theorem ev_some {l r:List UInt8} {e:Ev} (o:Bool) (h:rdE l=some (e,r)):evSt l o=(e,r,o):=by
 unfold rdE at h
 split at h
 ·cases h
 ·rename_i h1
  split at h
  ·cases h
  ·rename_i h2
   have h1:(getI l).2.2=0:=by simpa using h1
   have h3:(getL (l.drop (getI l).2.1)).2.2=0:=Classical.byContradiction fun hc=>h2 (.inl hc)
   have h4:(getL (l.drop (getI l).2.1)).1≤16:=Nat.not_lt.1 fun hc=>h2 (.inr hc)
   cases hg:getFa (getL (l.drop (getI l).2.1)).1 [] ((l.drop (getI l).2.1).drop (getL (l.drop (getI l).2.1)).2.1) with
   | none=>rw [hg] at h;cases h
   | some p =>
     obtain ⟨fs,r2⟩:=p
     rw [hg] at h
     simp only [Option.some.injEq,Prod.mk.injEq] at h
     obtain ⟨rfl,rfl⟩:=h
     unfold evSt
     rw [tim_ok o h1]
     dsimp only
     rw [num_ok o h3 h4]
     dsimp only
     rw [flds_some _ _ _ o _ _ hg]
theorem ev_none {l:List UInt8} (o:Bool) (h:rdE l=none):(evSt l o).2.2=true:=by
 unfold evSt
 dsimp only
 by_cases h1:(getI l).2.2=0
 ·rw [tim_ok o h1]
  dsimp only
  by_cases h2:(getL (l.drop (getI l).2.1)).2.2≠0∨16<(getL (l.drop (getI l).2.1)).1
  ·rw [num_no o h2]
   exact fldsN_odd _ rfl
  ·have h3:(getL (l.drop (getI l).2.1)).2.2=0:=Classical.byContradiction fun hc=>h2 (.inl hc)
   have h4:(getL (l.drop (getI l).2.1)).1≤16:=Nat.not_lt.1 fun hc=>h2 (.inr hc)
   rw [num_ok o h3 h4]
   dsimp only
   unfold rdE at h
   rw [if_neg (by simpa using h1),if_neg h2] at h
   cases hg:getFa (getL (l.drop (getI l).2.1)).1 [] ((l.drop (getI l).2.1).drop (getL (l.drop (getI l).2.1)).2.1) with
   | none=>exact flds_none _ _ _ _ hg
   | some p=>rw [hg] at h;cases h
 ·refine fldsN_odd _ ?_
  dsimp only
  rw [tim_no o h1]
  exact num_odd _ _
abbrev BSt:=List Ev×List UInt8×Bool
def stepE (s:BSt):BSt:=(s.1++[(evSt s.2.1 s.2.2).1],(evSt s.2.1 s.2.2).2.1,(evSt s.2.1 s.2.2).2.2)
def evsN:Nat→BSt→BSt
 | 0,s=>s
 | k+1,s=>stepE (evsN k s)
theorem evsN_front:∀ (k:Nat) (s:BSt),evsN (k+1) s=evsN k (stepE s)
 | 0,s=>rfl
 | k+1,s=>by rw [evsN,evsN_front k s,← evsN]
theorem evsN_odd:∀ (k:Nat) {s:BSt},s.2.2=true→(evsN k s).2.2=true
 | 0,_,h=>h
 | k+1,s,h=>by
   rw [evsN]
   unfold stepE
   dsimp only
   rw [evsN_odd k h]
   exact evSt_odd _
theorem evsN_len:∀ (k:Nat) (s:BSt),(evsN k s).1.length=s.1.length+k
 | 0,s=>rfl
 | k+1,s=>by rw [evsN];unfold stepE;simp [evsN_len k s];omega
theorem evsN_mem:∀ (k:Nat) {s:BSt} {e:Ev},e∈s.1→e∈(evsN k s).1
 | 0,_,_,h=>h
 | k+1,s,e,h=>by
   rw [evsN]
   unfold stepE
   exact List.mem_append_left _ (evsN_mem k h)
theorem evs_some:∀ (k:Nat) (acc:List Ev) (l:List UInt8) (o:Bool) (es:List Ev) (r:List UInt8),getBa k acc l=some (es,r)→evsN k (acc,l,o)=(es,r,o)
 | 0,acc,l,o,es,r,h=>by
   rw [getBa] at h
   simp only [Option.some.injEq,Prod.mk.injEq] at h
   rw [evsN,h.1,h.2]
 | k+1,acc,l,o,es,r,h=>by
   rw [getBa] at h
   cases hg:getE l with
   | none=>rw [hg] at h;cases h
   | some p =>
     obtain ⟨e,r1⟩:=p
     rw [hg] at h
     dsimp only at h
     have hr:rdE l=some (e,r1):=by
      unfold getE at hg
      cases hr:rdE l with
      | none=>rw [hr] at hg;cases hg
      | some q =>
        rw [hr] at hg
        obtain ⟨e2,r2⟩:=q
        dsimp only at hg
        split at hg
        ·rw [Option.some.injEq] at hg;rw [hg]
        ·cases hg
     rw [evsN_front]
     have e:stepE (acc,l,o)=(acc++[e],r1,o):=by
      unfold stepE
      dsimp only
      rw [ev_some o hr]
     rw [e]
     exact evs_some k _ _ _ _ _ h
theorem evs_none:∀ (k:Nat) (acc:List Ev) (l:List UInt8) (o:Bool),getBa k acc l=none→(evsN k (acc,l,o)).2.2=true∨∃ e∈(evsN k (acc,l,o)).1,checkE e≠0
 | 0,acc,l,o,h=>by rw [getBa] at h;cases h
 | k+1,acc,l,o,h=>by
   rw [getBa] at h
   rw [evsN_front]
   cases hr:rdE l with
   | none =>
     refine .inl (evsN_odd k ?_)
     unfold stepE
     exact ev_none o hr
   | some q =>
     obtain ⟨e,r⟩:=q
     have es:stepE (acc,l,o)=(acc++[e],r,o):=by
      unfold stepE
      dsimp only
      rw [ev_some o hr]
     rw [es]
     by_cases hc:checkE e=0
     ·have hg:getE l=some (e,r):=by unfold getE;rw [hr];dsimp only;rw [if_pos hc]
      rw [hg] at h
      exact evs_none k _ _ _ h
     ·exact .inr ⟨e,evsN_mem k (by simp),hc⟩
def decSt (l:List UInt8):Bat×List UInt8×Bool :=
 (((numSt 1099511627776 l false).1,(evsN (numSt 64 (numSt 1099511627776 l false).2.1 (numSt 1099511627776 l false).2.2).1 ([],(numSt 64 (numSt 1099511627776 l false).2.1 (numSt 1099511627776 l false).2.2).2.1,(numSt 64 (numSt 1099511627776 l false).2.1 (numSt 1099511627776 l false).2.2).2.2)).1),
   (evsN (numSt 64 (numSt 1099511627776 l false).2.1 (numSt 1099511627776 l false).2.2).1 ([],(numSt 64 (numSt 1099511627776 l false).2.1 (numSt 1099511627776 l false).2.2).2.1,(numSt 64 (numSt 1099511627776 l false).2.1 (numSt 1099511627776 l false).2.2).2.2)).2.1,
   (evsN (numSt 64 (numSt 1099511627776 l false).2.1 (numSt 1099511627776 l false).2.2).1 ([],(numSt 64 (numSt 1099511627776 l false).2.1 (numSt 1099511627776 l false).2.2).2.1,(numSt 64 (numSt 1099511627776 l false).2.1 (numSt 1099511627776 l false).2.2).2.2)).2.2)
theorem decSt_some {l r:List UInt8} {b:Bat} (h:rdB l=some (b,r)):decSt l=(b,r,false):=by
 unfold rdB at h
 split at h
 ·cases h
 ·rename_i h1
  split at h
  ·cases h
  ·rename_i h2
   have a1:(getL l).2.2=0:=Classical.byContradiction fun hc=>h1 (.inl hc)
   have a2:(getL l).1≤1099511627776:=Nat.not_lt.1 fun hc=>h1 (.inr hc)
   have a3:(getL (l.drop (getL l).2.1)).2.2=0:=Classical.byContradiction fun hc=>h2 (.inl hc)
   have a4:(getL (l.drop (getL l).2.1)).1≤64:=Nat.not_lt.1 fun hc=>h2 (.inr hc)
   cases hg:getBa (getL (l.drop (getL l).2.1)).1 [] ((l.drop (getL l).2.1).drop (getL (l.drop (getL l).2.1)).2.1) with
   | none=>rw [hg] at h;cases h
   | some p =>
     obtain ⟨es,r2⟩:=p
     rw [hg] at h
     simp only [Option.some.injEq,Prod.mk.injEq] at h
     obtain ⟨rfl,rfl⟩:=h
     unfold decSt
     rw [num_ok false a1 a2]
     dsimp only
     rw [num_ok false a3 a4]
     dsimp only
     rw [evs_some _ _ _ false _ _ hg]
theorem decSt_none {l:List UInt8} (h:rdB l=none):(decSt l).2.2=true∨∃ e∈(decSt l).1.2,checkE e≠0:=by
 unfold decSt
 dsimp only
 by_cases h1:(getL l).2.2≠0∨1099511627776<(getL l).1
 ·rw [num_no false h1]
  refine .inl (evsN_odd _ ?_)
  exact num_odd _ _
 ·have a1:(getL l).2.2=0:=Classical.byContradiction fun hc=>h1 (.inl hc)
  have a2:(getL l).1≤1099511627776:=Nat.not_lt.1 fun hc=>h1 (.inr hc)
  rw [num_ok false a1 a2]
  dsimp only
  by_cases h2:(getL (l.drop (getL l).2.1)).2.2≠0∨64<(getL (l.drop (getL l).2.1)).1
  ·rw [num_no false h2]
   exact .inl (evsN_odd _ rfl)
  ·have a3:(getL (l.drop (getL l).2.1)).2.2=0:=Classical.byContradiction fun hc=>h2 (.inl hc)
   have a4:(getL (l.drop (getL l).2.1)).1≤64:=Nat.not_lt.1 fun hc=>h2 (.inr hc)
   rw [num_ok false a3 a4]
   dsimp only
   unfold rdB at h
   rw [if_neg h1,if_neg h2] at h
   cases hg:getBa (getL (l.drop (getL l).2.1)).1 [] ((l.drop (getL l).2.1).drop (getL (l.drop (getL l).2.1)).2.1) with
   | none=>exact evs_none _ _ _ _ hg
   | some p=>rw [hg] at h;cases h
end Go.Proofs.YtdfibahafilklaaGreatDoor.EV
