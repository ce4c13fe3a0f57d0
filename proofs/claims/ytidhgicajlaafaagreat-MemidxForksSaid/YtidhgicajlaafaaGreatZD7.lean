import Derived.Test.YtidhgicajlaafaaGreatZD2
set_option maxRecDepth 100000
set_option maxHeartbeats 8000000
set_option linter.unusedVariables false
set_option linter.unusedSimpArgs false
namespace Go.Proofs.YtidhgicajlaafaaGreat.PM
open VM
abbrev Post:=Int×List Int
def riseF (fin:Int):Int→List Int→Bool
 | _,[]=>true
 | a,z::zs=>decide (a<z)&&decide (z<fin)&&riseF fin z zs
def riseL (fin:Int) (zs:List Int):Bool:=riseF fin (-1) zs
theorem riseF_len (fin:Int):∀ (zs:List Int) (a:Int),riseF fin a zs=true→zs≠[]→(zs.length:Int)≤fin - a - 1
 | [],_,_,h=>absurd rfl h
 | [z],a,h,_=>by simp [riseF] at h;simp;omega
 | z::y::zs,a,h,_=>by
   rw [riseF,Bool.and_eq_true,Bool.and_eq_true,decide_eq_true_eq] at h
   have:=riseF_len fin (y::zs) z h.2 (by simp)
   rw [List.length_cons,Int.natCast_add]
   omega
def oddL (p:Post):Bool:=p.2.isEmpty || !riseL 1048576 p.2
def docsL (ps:List Post):List Int:=ps.map (·.1)
def isL (ps:List Post):Bool:=riseL 65536 (docsL ps) && !ps.any oddL
theorem isL_iff (ps:List Post):isL ps=true↔riseL 65536 (docsL ps)=true∧∀ p∈ps,p.2≠[]∧riseL 1048576 p.2=true:=by
 unfold isL
 rw [Bool.and_eq_true,Bool.not_eq_true',List.any_eq_false]
 constructor
 ·rintro ⟨h1,h2⟩
  refine ⟨h1,fun p hp => ?_⟩
  have:=h2 p hp
  unfold oddL at this
  simp at this
  exact ⟨by simpa using this.1,this.2⟩
 ·rintro ⟨h1,h2⟩
  refine ⟨h1,fun p hp => ?_⟩
  have:=h2 p hp
  unfold oddL
  simp [this.1,this.2]
def okP (n:Int) (p:Post):Prop:=n≤p.1∧p.1<65536∧p.2≠[]∧riseL 1048576 p.2=true
def okL:Int→List Post→Prop
 | _,[]=>True
 | n,p::ps=>okP n p∧okL (p.1+1) ps
theorem okL_iff:∀ (ps:List Post) (n:Int),okL n ps↔riseF 65536 (n - 1) (docsL ps)=true∧∀ p∈ps,p.2≠[]∧riseL 1048576 p.2=true
 | [],n=>by simp [okL,docsL,riseF]
 | p::ps,n=>by
   have e:docsL (p::ps)=p.1::docsL ps:=rfl
   have ih:=okL_iff ps (p.1+1)
   rw [show p.1+1 - 1=p.1 by omega] at ih
   rw [okL,ih,e,riseF,Bool.and_eq_true,Bool.and_eq_true,decide_eq_true_eq,decide_eq_true_eq,List.forall_mem_cons]
   unfold okP
   constructor
   ·rintro ⟨⟨h1,h2,h3,h4⟩,h5,h6⟩;exact ⟨⟨⟨by omega,h2⟩,h5⟩,⟨h3,h4⟩,h6⟩
   ·rintro ⟨⟨⟨h1,h2⟩,h5⟩,⟨h3,h4⟩,h6⟩;exact ⟨⟨by omega,h2,h3,h4⟩,h5,h6⟩
theorem isL_ok (ps:List Post):isL ps=true↔okL 0 ps:=by
 rw [isL_iff,okL_iff];rfl
def nextL:Int→List Post→Int
 | n,[]=>n
 | _,p::ps=>nextL (p.1+1) ps
theorem nextL_bound:∀ (ps:List Post) (n:Int),okL n ps→n≤nextL n ps∧(n≤65536→nextL n ps≤65536)∧(ps.length:Int)≤nextL n ps - n
 | [],n,_=>by simp [nextL]
 | p::ps,n,h=>by
   rw [okL] at h
   have h1:=h.1
   unfold okP at h1
   have:=nextL_bound ps (p.1+1) h.2
   rw [nextL,List.length_cons,Int.natCast_add]
   omega
theorem okL_len (ps:List Post) (h:okL 0 ps):ps.length≤65536:=by
 have:=nextL_bound ps 0 h
 omega
def gapsL:Int→List Int→List UInt8
 | _,[]=>[]
 | n,z::zs=>bytesL (z - n).toNat++gapsL (z+1) zs
def postL (n:Int) (p:Post):List UInt8:=bytesL (p.1 - n).toNat++(bytesL p.2.length++gapsL 0 p.2)
def bodyL:Int→List Post→List UInt8
 | _,[]=>[]
 | n,p::ps=>postL n p++bodyL (p.1+1) ps
def endL (ps:List Post) (i:Nat):Nat:=(bodyL 0 (ps.take (32*i))).length
def h1L (ps:List Post) (i:Nat):Nat:=(nextL 0 (ps.take (32*(i+1))) - 1).toNat
def h2L (ps:List Post) (i:Nat):Nat:=endL ps (i+1) - endL ps i
def headL (ps:List Post) (i:Nat):List UInt8:=bytesL (h1L ps i)++bytesL (h2L ps i)
def headsR (ps:List Post):Nat→Nat→List UInt8
 | _,0=>[]
 | i,c+1=>headL ps i++headsR ps (i+1) c
def cnt (n:Nat):Nat:=(n+31) / 32
def encL (ps:List Post):List UInt8:=bytesL ps.length++headsR ps 0 (cnt ps.length)++bodyL 0 ps
theorem riseL_len {zs:List Int} (h:riseL 1048576 zs=true):zs.length≤1048576:=by
 by_cases h0:zs=[]
 ·subst h0;simp
 ·have:=riseF_len 1048576 zs (-1) h h0
  omega
end Go.Proofs.YtidhgicajlaafaaGreat.PM
namespace Go.Proofs.YtidhgicajlaafaaGreat.MM
open Go.RowKit
theorem infoInt:(Tryz.prog.info? 3).map (fun i=>(i.zero,i.size,i.bytes))=some (some (.int .i64 0),1,8):=by kernel_rfl
def IRow (w:World) (v:Value) (zs:List Int):Prop:=Row w v (zs.map (Value.int .i64))
def OwnI (B:Nat) (w:World) (v:Value) (zs:List Int):Prop:=w.ownsRow B 3 1 v zs.length (zs.map (Value.int .i64))
theorem OwnI.irow {B:Nat} {w:World} {v:Value} {zs:List Int} (h:OwnI B w v zs):IRow w v zs:=Row.of_own h
theorem OwnI.keep {w w':World} {B:Nat} {v:Value} {zs:List Int} (h:OwnI B w v zs) (hb:Below w.heap.size w w'):OwnI B w' v zs:=own_keep (B:=0) h hb
theorem IRow.below {w w':World} {v:Value} {zs:List Int} (h:IRow w v zs) (hb:Below w.heap.size w w'):IRow w' v zs:=Row.below (B:=0) h hb
theorem IRow.shape {w:World} {v:Value} {zs:List Int} (h:IRow w v zs):∃ p cap,v=.slice p zs.length cap∧zs.length≤cap∧cap≤maxLen:=by
 obtain ⟨p,cap,hv,h1,h2,_,_⟩:=h
 rw [List.length_map] at hv h1
 exact ⟨p,cap,hv,h1,h2⟩
theorem IRow.at_ {w:World} {p:Option Addr} {n cap:Nat} {zs:List Int} (h:IRow w (.slice p n cap) zs) {k:Nat} (hk:k<zs.length) :
  ∃ b off,p=some ⟨b,off,none⟩∧b<w.heap.size∧w.cell? ⟨b,off+k,none⟩=some (.int .i64 (zs.getD k 0)):=by
 obtain ⟨p',cap',hv,_,_,_,h⟩:=h
 simp only [Value.slice.injEq] at hv
 obtain ⟨rfl,_,_⟩:=hv
 rcases h with h | ⟨b,off,hp,hlt,hc⟩
 ·have:zs=[]:=List.map_eq_nil_iff.1 h
  subst this
  simp at hk
 ·exact ⟨b,off,hp,hlt,hc k _ (by simp [List.getD,hk])⟩
theorem IRow.take {w:World} {p:Option Addr} {n cap:Nat} {zs:List Int} (h:IRow w (.slice p n cap) zs) (k:Nat) (hk:k≤n):IRow w (.slice p k cap) (zs.take k):=by
 have:=RowIn.take h k hk
 rw [← List.map_take] at this
 exact this
theorem wpList_append_int {w:World} {ops:Array Oper} {rest:List Oper} {o:Oper} {a:Act} {Q:Exit→Act→World→Prop} (hgd:o.guard=none) (s x:Operand)
  (ho:o.op=.call { callee:=.builtin .append,args:=#[s,x],argTypes:=#[73,73] }) (B:Nat) (v:Value) (zs:List Int) (w0:World) (z:Int) (hw:w=w0.alloc (.cells #[.int .i64 z] 3)) (hs:a.eval s=v) (hown:OwnI B w0 v zs)
  (hx:a.eval x=.slice (some ⟨w0.heap.size,0,none⟩) 1 1) (hlen:zs.length≤4398046511104) (hbase:B≤w0.heap.size)
  (h:∀ v' w',OwnI B w' v' (zs++[z])→Below B w0 w'→wpList Tryz.prog ops Q rest (a.put o.dst v') w'):wpList Tryz.prog ops Q (o::rest) a w:=by
 subst hw
 obtain ⟨i0,hi,hz0,hz1,hz2⟩:=info_parts infoInt
 have hlo:∀ k,v.ownBlock=some k→B≤k:=fun k hk=>(World.ownsRow.lt hown k hk).1
 refine wpList_append_own _ hgd s x 73 ho B 3 i0 (.int .i64 0) 1 8 Tryz.underlying73 hi hz0 hz1 hz2 rfl (by decide) v zs.length _ hs (World.ownsRow.alloc hown _) ⟨w0.heap.size,0,none⟩ 1 1 [.int .i64 z] hx rfl (cell_new1 _ _ _) (int_one _ _)
  (by unfold maxLen;omega) (by omega) (by simp;omega) (fun v' w' h1 hg _=>h v' w' ?_ (below_app (Below.refl B w0) hbase hlo hg))
 unfold OwnI
 rw [List.length_append,List.map_append]
 exact h1
end Go.Proofs.YtidhgicajlaafaaGreat.MM
namespace Go.Proofs.YtidhgicajlaafaaGreat.MM
open Go Go.RowKit
theorem int_at {S:Nat→Prop} {w:World} {p:Option Addr} {n cap:Nat} {zs:List Int} (h:ROn cInt S w (.slice p n cap) zs) {k:Nat} (hk:k<zs.length):∃ b off,p=some ⟨b,off,none⟩∧b<w.heap.size∧S b∧w.cell? ⟨b,off+k,none⟩=some (.int .i64 zs[k]):=by
 obtain ⟨b,off,vs,hp,hlt,hS,hon,hc⟩:=h.at_ hk
 have hon:vs=[.int .i64 zs[k]]:=hon
 subst hon
 have:=hc 0 _ rfl
 rw [show cInt.size=1 from rfl,Nat.mul_one,Nat.add_zero] at this
 exact ⟨b,off,hp,hlt,hS,this⟩
theorem drop_eq {α:Type} [DecidableEq α] {a b:List α} {i:Nat} (ha:i<a.length) (hb:i<b.length):decide (a.drop i=b.drop i)=(decide (a[i]=b[i])&&decide (a.drop (i+1)=b.drop (i+1))):=by
 rw [List.drop_eq_getElem_cons ha,List.drop_eq_getElem_cons hb]
 rw [Bool.eq_iff_iff,decide_eq_true_eq,Bool.and_eq_true,decide_eq_true_eq,decide_eq_true_eq,List.cons.injEq]
theorem sameints_any (u v:Value) (xs ys:List Int) (w:World) (hu:RAny cInt w u xs) (hv:RAny cInt w v ys):Calls Tryz.prog 37 #[u,v] w fun e w'=>e=.returned (.bool (decide (xs=ys)))∧Below w.heap.size w w':=by
 obtain ⟨p1,cap1,rfl,hl1,hm1,_⟩:=hu.shape
 obtain ⟨p2,cap2,rfl,hl2,hm2,_⟩:=hv.shape
 unfold maxLen at hm1 hm2
 by_cases hn:xs.length=ys.length
 ·have t0:(((xs.length:Int)) != ((ys.length:Int)))=false:=by simp [hn]
  obtain ⟨n,hnn⟩:∃ n,xs.length=n:=⟨_,rfl⟩
  have hnb:ys.length=n:=by omega
  obtain ⟨RES,hRES⟩:∃ RES,decide (xs=ys)=RES:=⟨_,rfl⟩
  have h0:decide (xs.drop 0=ys.drop 0)=RES:=hRES
  rw [hRES]
  have H0:=Lib.hid h0
  have HU:=Lib.hid hu
  have HV:=Lib.hid hv
  have HNA:=Lib.hid hnn
  have HNB:=Lib.hid hnb
  rw [hnn,hnb] at t0
  rw [hnn] at hl1 ⊢
  rw [hnb] at hl2 ⊢
  clear h0 hu hv hRES hn hnn hnb
  go_enter Tryz.func37,Tryz.ntmps37
  go_wp2_with fail
  go_loopw [5] (fun iv wr=>∃ i:Nat,i≤n∧iv=.int .i64 i∧Hid (decide (xs.drop i=ys.drop i)=RES)∧Hid (Below w.heap.size w wr)) (fun iv _=>n - (intOf iv).toNat)
  case atStart=>exact ⟨0,by omega,rfl,H0,Lib.hid (Below.refl _ _)⟩
  case round =>
   obtain ⟨i,hi,rfl,HI,HB⟩:=hrel
   clear H0
   by_cases hlt:i<n
   ·have q1:decide ((i:Int)<(n:Int))=true:=by rw [decide_eq_true_eq];omega
    have q2:decide (i<n)=true:=by rw [decide_eq_true_eq];omega
    have q3:(i:Int)<n:=by omega
    have ha:i<xs.length:=by rw [HNA.out];exact hlt
    have hb:i<ys.length:=by rw [HNB.out];exact hlt
    have hu1:=HU.out.below HB.out
    have hv1:=HV.out.below HB.out
    rw [HNA.out] at hu1
    rw [HNB.out] at hv1
    obtain ⟨b1,o1,rfl,hb1,_,c1⟩:=int_at hu1 ha
    obtain ⟨b2,o2,rfl,hb2,_,c3⟩:=int_at hv1 hb
    have hnx:=HI.out
    rw [drop_eq ha hb] at hnx
    generalize xs[i]=X at *
    generalize ys[i]=Y at *
    have HN:=Lib.hid hnx
    have HLT:=Lib.hid hlt
    clear HI hu1 hv1 ha hb hnx hlt
    by_cases e:X=Y
    ·have hn:=HN.out
     rw [decide_eq_true e,Bool.true_and] at hn
     have t1:(X != Y)=false:=by simp [e]
     have HN2:=Lib.hid hn
     clear HN hn e
     go_wp2_with fail
     go_quiet (fail)
     go_wp2_with fail
     have hlt:=HLT.out
     go_roundw
     case rel=>exact ⟨i+1,by omega,by go_num,HN2,Lib.hid (MM.below_drewN HB.out _)⟩
     case measure=>simp [intOf];omega
    ·have hn:=HN.out
     rw [decide_eq_false e,Bool.false_and] at hn
     have t1:(X != Y)=true:=by simp [e]
     subst hn
     clear HN e
     go_wp2_with fail
     go_quiet (fail)
     go_wp2_with fail
     go_ret
     exact ⟨rfl,MM.below_drewN HB.out _⟩
   ·obtain rfl:i=n:=by omega
    have q1:decide ((i:Int)<(i:Int))=false:=by simp
    have q2:decide (i<i)=false:=by simp
    have hf:RES=true:=by
     rw [← HI.out,List.drop_of_length_le (by rw [HNA.out];exact Nat.le_refl _),List.drop_of_length_le (by rw [HNB.out];exact Nat.le_refl _)]
     simp
    subst hf
    clear HI
    go_wp2_with fail
    go_ret
    exact ⟨rfl,HB.out⟩
 ·have t0:(((xs.length:Int)) != ((ys.length:Int)))=true:=by simp;omega
  have e:decide (xs=ys)=false:=decide_eq_false fun h=>hn (by rw [h])
  rw [e]
  clear hu hv e hn
  go_enter Tryz.func37,Tryz.ntmps37
  go_wp2_with fail
  go_ret
  exact ⟨rfl,Below.refl _ _⟩
end Go.Proofs.YtidhgicajlaafaaGreat.MM
