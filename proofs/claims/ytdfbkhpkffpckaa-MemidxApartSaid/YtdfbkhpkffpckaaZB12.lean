import Derived.Test.YtdfbkhpkffpckaaZB6
set_option maxRecDepth 100000
set_option maxHeartbeats 8000000
set_option linter.unusedVariables false
set_option linter.unusedSimpArgs false
namespace Go.Proofs.Ytdfbkhpkffpckaa.PM
open VM
abbrev Post:=Int×List Int
def riseF (fin:Int):Int→List Int→Bool
 | _,[]=>true
 | a,z::zs=>decide (a<z)&&decide (z<fin)&&riseF fin z zs
def riseL (fin:Int) (zs:List Int):Bool:=riseF fin (-1) zs
theorem riseF_len (fin:Int):∀ (zs:List Int) (a:Int),riseF fin a zs=true→zs≠[]→(zs.length:Int)≤fin - a - 1
 | [],_,_,h=>absurd rfl h
 | [z],a,h,_=>by simp [riseF] at h;simp;omega
 | z::y::zs,a,h,_=>by
   rw [riseF,Bool.and_eq_true,Bool.and_eq_true,decide_eq_true_eq] at h
   have:=riseF_len fin (y::zs) z h.2 (by simp)
   rw [List.length_cons,Int.natCast_add]
   omega
def oddL (p:Post):Bool:=p.2.isEmpty || !riseL 1048576 p.2
def docsL (ps:List Post):List Int:=ps.map (·.1)
def isL (ps:List Post):Bool:=riseL 65536 (docsL ps) && !ps.any oddL
theorem isL_iff (ps:List Post):isL ps=true↔riseL 65536 (docsL ps)=true∧∀ p∈ps,p.2≠[]∧riseL 1048576 p.2=true:=by
 unfold isL
 rw [Bool.and_eq_true,Bool.not_eq_true',List.any_eq_false]
 constructor
 ·rintro ⟨h1,h2⟩
  refine ⟨h1,fun p hp => ?_⟩
  have:=h2 p hp
  unfold oddL at this
  simp at this
  exact ⟨by simpa using this.1,this.2⟩
 ·rintro ⟨h1,h2⟩
  refine ⟨h1,fun p hp => ?_⟩
  have:=h2 p hp
  unfold oddL
  simp [this.1,this.2]
def okP (n:Int) (p:Post):Prop:=n≤p.1∧p.1<65536∧p.2≠[]∧riseL 1048576 p.2=true
def okL:Int→List Post→Prop
 | _,[]=>True
 | n,p::ps=>okP n p∧okL (p.1+1) ps
theorem okL_iff:∀ (ps:List Post) (n:Int),okL n ps↔riseF 65536 (n - 1) (docsL ps)=true∧∀ p∈ps,p.2≠[]∧riseL 1048576 p.2=true
 | [],n=>by simp [okL,docsL,riseF]
 | p::ps,n=>by
   have e:docsL (p::ps)=p.1::docsL ps:=rfl
   have ih:=okL_iff ps (p.1+1)
   rw [show p.1+1 - 1=p.1 by omega] at ih
   rw [okL,ih,e,riseF,Bool.and_eq_true,Bool.and_eq_true,decide_eq_true_eq,decide_eq_true_eq,List.forall_mem_cons]
   unfold okP
   constructor
   ·rintro ⟨⟨h1,h2,h3,h4⟩,h5,h6⟩;exact ⟨⟨⟨by omega,h2⟩,h5⟩,⟨h3,h4⟩,h6⟩
   ·rintro ⟨⟨⟨h1,h2⟩,h5⟩,⟨h3,h4⟩,h6⟩;exact ⟨⟨by omega,h2,h3,h4⟩,h5,h6⟩
theorem isL_ok (ps:List Post):isL ps=true↔okL 0 ps:=by
 rw [isL_iff,okL_iff];rfl
def nextL:Int→List Post→Int
 | n,[]=>n
 | _,p::ps=>nextL (p.1+1) ps
theorem nextL_bound:∀ (ps:List Post) (n:Int),okL n ps→n≤nextL n ps∧(n≤65536→nextL n ps≤65536)∧(ps.length:Int)≤nextL n ps - n
 | [],n,_=>by simp [nextL]
 | p::ps,n,h=>by
   rw [okL] at h
   have h1:=h.1
   unfold okP at h1
   have:=nextL_bound ps (p.1+1) h.2
   rw [nextL,List.length_cons,Int.natCast_add]
   omega
theorem okL_len (ps:List Post) (h:okL 0 ps):ps.length≤65536:=by
 have:=nextL_bound ps 0 h
 omega
def gapsL:Int→List Int→List UInt8
 | _,[]=>[]
 | n,z::zs=>bytesL (z - n).toNat++gapsL (z+1) zs
def postL (n:Int) (p:Post):List UInt8:=bytesL (p.1 - n).toNat++(bytesL p.2.length++gapsL 0 p.2)
def bodyL:Int→List Post→List UInt8
 | _,[]=>[]
 | n,p::ps=>postL n p++bodyL (p.1+1) ps
def endL (ps:List Post) (i:Nat):Nat:=(bodyL 0 (ps.take (32*i))).length
def h1L (ps:List Post) (i:Nat):Nat:=(nextL 0 (ps.take (32*(i+1))) - 1).toNat
def h2L (ps:List Post) (i:Nat):Nat:=endL ps (i+1) - endL ps i
def headL (ps:List Post) (i:Nat):List UInt8:=bytesL (h1L ps i)++bytesL (h2L ps i)
def headsR (ps:List Post):Nat→Nat→List UInt8
 | _,0=>[]
 | i,c+1=>headL ps i++headsR ps (i+1) c
def cnt (n:Nat):Nat:=(n+31) / 32
def encL (ps:List Post):List UInt8:=bytesL ps.length++headsR ps 0 (cnt ps.length)++bodyL 0 ps
theorem riseL_len {zs:List Int} (h:riseL 1048576 zs=true):zs.length≤1048576:=by
 by_cases h0:zs=[]
 ·subst h0;simp
 ·have:=riseF_len 1048576 zs (-1) h h0
  omega
end Go.Proofs.Ytdfbkhpkffpckaa.PM
