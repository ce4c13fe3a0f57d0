/-
  
-/
import Derived.WalkKit
import Derived.Lib.Hide
import Derived.Test.YtdijhifdjbnkfaaGreatZA1
import Derived.Laws.BitsAllLaws
import Derived.Laws.Bits64b
set_option linter.unusedVariables false
namespace Go.Proofs.YtdijhifdjbnkfaaGreat.CM
def step (s:Nat):Nat:=if s%2=1 then s / 2 ^^^ 3988292384 else s / 2
def steps:Nat→Nat→Nat
 | 0,s=>s
 | k+1,s=>steps k (step s)
def onB (s b:Nat):Nat:=steps 8 (s ^^^ b)
def run (s:Nat) (l:List UInt8):Nat:=l.foldl (fun s b=>onB s b.toNat) s
def notB (s:Nat):Nat:=4294967295 - s
def nextL (s:Nat) (l:List UInt8):Nat:=notB (run (notB s) l)
def sumL (l:List UInt8):Nat:=nextL 0 l
theorem xor_half (a b:Nat):(a ^^^ b) / 2=a / 2 ^^^ b / 2:=by
 have h:=Nat.shiftRight_xor_distrib (a:=a) (b:=b) (i:=1)
 rw [Nat.shiftRight_eq_div_pow,Nat.shiftRight_eq_div_pow,Nat.shiftRight_eq_div_pow] at h
 exact h
theorem xor_odd (a b:Nat):(a ^^^ b)%2=(a%2+b%2)%2:=by
 have h:=Nat.xor_mod_two_pow (a:=a) (b:=b) (n:=1)
 have ha:a%2=0∨a%2=1:=by omega
 have hb:b%2=0∨b%2=1:=by omega
 rw [show (2:Nat)^1=2 from rfl] at h
 rw [h]
 rcases ha with ha | ha<;>rcases hb with hb | hb<;>rw [ha,hb]<;>rfl
theorem xor4 (a b p:Nat):(a ^^^ p) ^^^ (b ^^^ p)=a ^^^ b:=by
 rw [Nat.xor_assoc,Nat.xor_comm b p,← Nat.xor_assoc p,Nat.xor_self,Nat.zero_xor]
theorem step_xor (a b:Nat):step (a ^^^ b)=step a ^^^ step b:=by
 unfold step
 rw [xor_odd,xor_half]
 by_cases ha:a%2=1<;>by_cases hb:b%2=1
 ·rw [if_pos ha,if_pos hb,if_neg (by omega),xor4]
 ·rw [if_pos ha,if_neg hb,if_pos (by omega),Nat.xor_assoc,Nat.xor_assoc,Nat.xor_comm 3988292384]
 ·rw [if_neg ha,if_pos hb,if_pos (by omega),Nat.xor_assoc]
 ·rw [if_neg ha,if_neg hb,if_neg (by omega)]
theorem step_lt {a:Nat} (h:a<4294967296):step a<4294967296:=by
 unfold step
 split
 ·exact Nat.xor_lt_two_pow (n:=32) (by omega) (by omega)
 ·omega
theorem step_even (x:Nat):step (2*x)=x:=by
 unfold step
 rw [if_neg (by omega)]
 omega
theorem steps_xor:∀ (k a b:Nat),steps k (a ^^^ b)=steps k a ^^^ steps k b
 | 0,_,_=>rfl
 | k+1,a,b=>by rw [steps,steps,steps,step_xor,steps_xor k]
theorem steps_lt:∀ (k:Nat) {a:Nat},a<4294967296→steps k a<4294967296
 | 0,_,h=>h
 | k+1,_,h=>steps_lt k (step_lt h)
theorem steps_none:∀ k,steps k 0=0
 | 0=>rfl
 | k+1=>by rw [steps,show step 0=0 from by decide,steps_none k]
theorem steps_byte (x:Nat):steps 8 (256*x)=x:=by
 have e:256*x=2*(2*(2*(2*(2*(2*(2*(2*x))))))):=by omega
 rw [e]
 simp only [steps,step_even]
theorem onB_lt {s b:Nat} (hs:s<4294967296) (hb:b<256):onB s b<4294967296:=steps_lt 8 (Nat.xor_lt_two_pow (n:=32) hs (by omega))
theorem run_cons (s:Nat) (b:UInt8) (l:List UInt8):run s (b::l)=run (onB s b.toNat) l:=rfl
theorem run_append (s:Nat) (l m:List UInt8):run s (l++m)=run (run s l) m:=by unfold run;rw [List.foldl_append]
theorem run_lt:∀ (l:List UInt8) {s:Nat},s<4294967296→run s l<4294967296
 | [],_,h=>h
 | b::l,_,h=>by rw [run_cons];exact run_lt l (onB_lt h b.toNat_lt)
theorem notB_lt (s:Nat):notB s<4294967296:=by unfold notB;omega
theorem notB_notB {s:Nat} (h:s<4294967296):notB (notB s)=s:=by unfold notB;omega
theorem nextL_lt (s:Nat) (l:List UInt8):nextL s l<4294967296:=notB_lt _
theorem nextL_append (s:Nat) (l m:List UInt8):nextL s (l++m)=nextL (nextL s l) m:=by
 unfold nextL
 rw [run_append,notB_notB (run_lt l (notB_lt s))]
end Go.Proofs.YtdijhifdjbnkfaaGreat.CM
namespace Go.Proofs.YtdijhifdjbnkfaaGreat.BM
open Go
def stepN (h:Int) (c:UInt8):Int:=IntKind.u64.wrap (bits .xor .u64 h (c.toNat:Int)*1099511628211)
def numL (l:List UInt8):Int:=l.foldl stepN 14695981039346656037
theorem wrap_u64 (x:Int):IntKind.u64.wrap x=x%18446744073709551616:=by
 simp [IntKind.wrap,IntKind.signed,IntKind.bits]
theorem numL_range (l:List UInt8):0≤numL l∧numL l<18446744073709551616:=by
 unfold numL
 rcases List.eq_nil_or_concat l with rfl | ⟨l',c,rfl⟩
 ·simp
 ·rw [List.concat_eq_append,List.foldl_append]
  simp only [List.foldl_cons,List.foldl_nil,stepN,wrap_u64]
  omega
theorem numL_next {l:List UInt8} {k:Nat} (hk:k<l.length):numL (l.take (k+1))=stepN (numL (l.take k)) l[k]:=by
 unfold numL
 rw [List.take_succ_eq_append_getElem hk,List.foldl_append]
 rfl
def firstL (l:List UInt8):Nat:=(numL l).toNat%4294967296
def halfL (l:List UInt8):Nat:=(numL l).toNat / 4294967296
def secondL (l:List UInt8):Nat:=if halfL l%2=0 then halfL l+1 else halfL l
theorem firstL_lt (l:List UInt8):firstL l<4294967296:=Nat.mod_lt _ (by decide)
theorem halfL_lt (l:List UInt8):halfL l<4294967296:=by have:=(numL_range l).2;unfold halfL;omega
theorem secondL_lt (l:List UInt8):secondL l<4294967296:=by have:=halfL_lt l;unfold secondL;split<;>omega
def placeL (m:Nat) (l:List UInt8) (i:Nat):Nat:=(firstL l+i*secondL l)%m
theorem placeL_lt {m:Nat} (l:List UInt8) (i:Nat) (h:0<m):placeL m l i<m:=Nat.mod_lt _ h
def bitB (c:UInt8) (j:Nat):Bool:=c.toNat / 2^j%2 == 1
def putB (c:UInt8) (j:Nat):UInt8:=if bitB c j then c else UInt8.ofNat (c.toNat+2^j)
def hasL (L:List UInt8) (k:Nat):Bool:=bitB (L.getD (k / 8) 0) (k%8)
def putL (L:List UInt8) (k:Nat):List UInt8:=L.set (k / 8) (putB (L.getD (k / 8) 0) (k%8))
theorem putL_len (L:List UInt8) (k:Nat):(putL L k).length=L.length:=by simp [putL]
def put1 (st:List UInt8×Nat) (k:Nat):List UInt8×Nat:=if hasL st.1 k then st else (putL st.1 k,st.2+1)
theorem put1_len (st:List UInt8×Nat) (k:Nat):(put1 st k).1.length=st.1.length:=by unfold put1;split<;>simp [putL_len]
def addI (L:List UInt8) (s:List UInt8) (i:Nat):List UInt8×Nat:=(List.range i).foldl (fun st i=>put1 st (placeL (8*L.length) s i)) (L,0)
theorem addI_next (L s:List UInt8) (i:Nat):addI L s (i+1)=put1 (addI L s i) (placeL (8*L.length) s i):=by
 unfold addI
 rw [List.range_succ,List.foldl_append]
 rfl
theorem addI_len (L s:List UInt8) (i:Nat):(addI L s i).1.length=L.length:=by
 induction i with
 | zero=>rfl
 | succ i ih=>rw [addI_next,put1_len,ih]
theorem put1_count (st:List UInt8×Nat) (k:Nat):(put1 st k).2≤st.2+1:=by unfold put1;split<;>simp
theorem addI_count (L s:List UInt8) (i:Nat):(addI L s i).2≤i:=by
 induction i with
 | zero=>exact Nat.le_refl _
 | succ i ih=>rw [addI_next];have:=put1_count (addI L s i) (placeL (8*L.length) s i);omega
def addT (L:List UInt8) (s:List UInt8):List UInt8×Nat:=addI L s 4
theorem addT_len (L s:List UInt8):(addT L s).1.length=L.length:=addI_len L s 4
theorem addT_count (L s:List UInt8):(addT L s).2≤4:=addI_count L s 4
def addA (L:List UInt8) (ss:List (List UInt8)):List UInt8×Nat:=ss.foldl (fun st s=>((addT st.1 s).1,st.2+(addT st.1 s).2)) (L,0)
theorem addA_next {L:List UInt8} {ss:List (List UInt8)} {k:Nat} (hk:k<ss.length):addA L (ss.take (k+1))=((addT (addA L (ss.take k)).1 ss[k]).1,(addA L (ss.take k)).2+(addT (addA L (ss.take k)).1 ss[k]).2):=by
 unfold addA
 rw [List.take_succ_eq_append_getElem hk,List.foldl_append]
 rfl
theorem addA_len (L:List UInt8) (ss:List (List UInt8)) (k:Nat):(addA L (ss.take k)).1.length=L.length:=by
 induction k with
 | zero=>rfl
 | succ k ih =>
   by_cases hk:k<ss.length
   ·rw [addA_next hk,addT_len,ih]
   ·rw [List.take_of_length_le (by omega)] at ih ⊢
    exact ih
theorem addA_count (L:List UInt8) (ss:List (List UInt8)) (k:Nat):(addA L (ss.take k)).2≤4*k:=by
 induction k with
 | zero=>exact Nat.le_refl _
 | succ k ih =>
   by_cases hk:k<ss.length
   ·rw [addA_next hk]
    have:=addT_count (addA L (ss.take k)).1 ss[k]
    dsimp only
    omega
   ·rw [List.take_of_length_le (by omega)] at ih ⊢
    omega
theorem addA_all (L:List UInt8) (ss:List (List UInt8)):(addA L ss).1.length=L.length:=by
 have:=addA_len L ss ss.length
 rwa [List.take_length] at this
def mayI (L s:List UInt8) (i:Nat):Bool:=(List.range i).all fun i=>hasL L (placeL (8*L.length) s i)
theorem mayI_next (L s:List UInt8) (i:Nat):mayI L s (i+1)=(mayI L s i&&hasL L (placeL (8*L.length) s i)):=by
 unfold mayI
 rw [List.range_succ,List.all_append]
 simp
def mayL (L s:List UInt8):Bool:=mayI L s 4
theorem mayI_false {L s:List UInt8} {i:Nat} (hi:i<4) (h:hasL L (placeL (8*L.length) s i)=false):mayL L s=false:=by
 unfold mayL mayI
 rw [List.all_eq_false]
 exact ⟨i,by simpa using hi,by simp [h]⟩
def roomL (n:Nat):Nat:=(min (max (10*n) 64) 1048576+7) / 8
theorem roomL_le (n:Nat):8≤roomL n∧roomL n≤131072:=by unfold roomL;omega
def newL (n:Nat):List UInt8:=List.replicate (roomL n) 0
theorem newL_len (n:Nat):(newL n).length=roomL n:=by simp [newL]
end Go.Proofs.YtdijhifdjbnkfaaGreat.BM
set_option linter.unusedVariables false
namespace Go.Proofs.YtdijhifdjbnkfaaGreat.CR
open Go.RowKit Go.Proofs.YtdijhifdjbnkfaaGreat.MM Go.Proofs.YtdijhifdjbnkfaaGreat.CM
theorem low_code {m:Nat} (hm:m<4294967296):bits .and .u32 (m:Int) 1=((m%2:Nat):Int):=by
 have h:=u32_and_nat m 1 hm (by omega)
 rw [nat_mask1] at h
 exact h
theorem step_code {m:Nat} (hm:m<4294967296):bits .xor .u32 ((m:Int) / 2) ((m:Int)%2*3988292384)=((CM.step m:Nat):Int):=by
 unfold CM.step
 by_cases h:m%2=1
 ·rw [if_pos h,show (m:Int)%2*3988292384=((3988292384:Nat):Int) by omega,show (m:Int) / 2=((m / 2:Nat):Int) by omega]
  exact u32_xor_nat _ _ (by omega) (by omega)
 ·rw [if_neg h,show (m:Int)%2*3988292384=((0:Nat):Int) by omega,show (m:Int) / 2=((m / 2:Nat):Int) by omega,u32_xor_nat _ _ (by omega) (by omega),Nat.xor_zero]
theorem steps_more {k m r:Nat} (hk:k<8) (h:steps (8 - k) m=r):steps (8 - (k+1)) (CM.step m)=r:=by
 rw [show 8 - k=(8 - (k+1))+1 by omega] at h
 exact h
set_option maxRecDepth 100000 in
theorem turns_any (n:Nat) (w:World) (hn:n<4294967296):Calls Tryz.prog 266 #[.int .u32 n] w fun e w'=>e=.returned (.int .u32 (steps 8 n))∧w=w':=by
 obtain ⟨r,hr⟩:∃ r,steps 8 n=r:=⟨_,rfl⟩
 rw [hr]
 have HR:Hid (steps (8 - 0) n=r):=Lib.hid hr
 clear hr
 go_enter Tryz.func266,Tryz.ntmps266
 go_wp2_with fail
 go_loop [0,4] (fun s i=>∃ k m:Nat,k≤8∧i=.int .i64 k∧s=.int .u32 m∧m<4294967296∧Hid (steps (8 - k) m=r)) (fun _ i=>8 - (intOf i).toNat)
 case atStart=>exact ⟨0,n,by omega,rfl,rfl,hn,HR⟩
 case round =>
  obtain ⟨k,m,hk,rfl,rfl,hm,H⟩:=hrel
  clear HR
  have hl:=low_code hm
  have hx:=step_code hm
  have hs:=step_lt hm
  go_wp2_with fail
  ·have hlt:(k:Int)<8:=by assumption
   go_round
   case rel=>exact ⟨k+1,CM.step m,by omega,by go_num,rfl,hs,Lib.hid (steps_more (by omega) H.out)⟩
   case measure=>simp [intOf];omega
  ·have hge:(8:Int)≤k:=by assumption
   obtain rfl:k=8:=by omega
   have h:m=r:=H.out
   subst h
   go_ret
   exact ⟨rfl,rfl⟩
end Go.Proofs.YtdijhifdjbnkfaaGreat.CR
set_option linter.unusedVariables false
namespace Go.Proofs.YtdijhifdjbnkfaaGreat.MM
open Go.RowKit
theorem OwnB.shape {B:Nat} {w:World} {v:Value} {l:List UInt8} (h:OwnB B w v l) (hl:l.length≠0):∃ g cap,v=.slice (some ⟨g,0,none⟩) l.length cap∧B≤g∧l.length≤cap∧cap≤maxLen:=by
 rcases h.2 with ⟨_,h0⟩ | ⟨g,cap,cur,hv,hb,_,hn,hm,_⟩
 ·exact absurd h0 hl
 ·exact ⟨g,cap,hv,hb,hn,hm⟩
theorem OwnB.free {B:Nat} {w:World} {g n cap:Nat} {l:List UInt8} (h:OwnB B w (.slice (some ⟨g,0,none⟩) n cap) l) (j:Nat):w.frozen? ⟨g,j,none⟩=false:=by
 rcases h.2 with ⟨hv,_⟩ | ⟨g',cap',cur,hv,hb,hh,_⟩
 ·cases hv
 ·simp only [Value.slice.injEq,Option.some.injEq,Addr.mk.injEq] at hv
  obtain ⟨⟨rfl,_⟩,_⟩:=hv
  exact frozen_of_row w g j cur _ hh
theorem OwnB.cell {B:Nat} {w:World} {g n cap j:Nat} {l:List UInt8} {c:UInt8} (h:OwnB B w (.slice (some ⟨g,0,none⟩) n cap) l) (hj:l[j]? = some c):w.cell? ⟨g,j,none⟩=some (.int .u8 (c.toNat:Int)):=by
 obtain ⟨hlt,he⟩:=List.getElem?_eq_some_iff.1 hj
 obtain ⟨b,off,hp,_,hc⟩:=h.brow.at_ hlt
 rcases h.2 with ⟨hv,_⟩ | ⟨g',cap',cur,hv,hb,hh,hn,hm,hs,ht⟩
 ·cases hv
 ·simp only [Value.slice.injEq,Option.some.injEq,Addr.mk.injEq] at hv hp
  obtain ⟨⟨rfl,_⟩,_⟩:=hv
  obtain ⟨rfl,rfl,_⟩:=hp
  rw [he,Nat.zero_add] at hc
  exact hc
theorem OwnB.set {B:Nat} {w:World} {g n cap j:Nat} {l:List UInt8} (h:OwnB B w (.slice (some ⟨g,0,none⟩) n cap) l) (c:UInt8) :
  OwnB B (w.setCell ⟨g,j,none⟩ (.int .u8 (c.toNat:Int))) (.slice (some ⟨g,0,none⟩) n cap) (l.set j c):=by
 refine ⟨by rw [byteCells_len];omega,?_⟩
 rcases h.2 with ⟨hv,_⟩ | ⟨g',cap',cur,hv,hb,hh,hn,hm,hs,ht⟩
 ·cases hv
 ·have hv':=hv
  simp only [Value.slice.injEq,Option.some.injEq,Addr.mk.injEq] at hv
  obtain ⟨⟨rfl,_⟩,hnn,rfl⟩:=hv
  refine .inr ⟨g,cap,cur.setIfInBounds j (.int .u8 (c.toNat:Int)),by rw [List.length_set,hnn],hb,heap_setCell_same w g j cur _ _ hh,by rw [List.length_set];exact hn,hm,by rw [Array.size_setIfInBounds];exact hs,?_⟩
  rw [List.length_set,Array.toList_setIfInBounds,List.take_set,ht]
  simp [Lib.byteCells,List.map_set]
end Go.Proofs.YtdijhifdjbnkfaaGreat.MM
set_option linter.unusedVariables false
namespace Go.Proofs.YtdijhifdjbnkfaaGreat.BL
open Go.RowKit Go.Proofs.YtdijhifdjbnkfaaGreat.MM Go.Proofs.YtdijhifdjbnkfaaGreat.BM
theorem step_same (h:Int) (c:UInt8):IntKind.u64.wrap (bits .xor .u64 h (IntKind.u64.wrap (c.toNat:Int))*1099511628211)=stepN h c:=by
 have:=c.toNat_lt
 unfold stepN
 rw [show IntKind.u64.wrap (c.toNat:Int)=(c.toNat:Int) by rw [wrap_u64];omega]
set_option maxRecDepth 100000 in
set_option maxHeartbeats 1000000 in
theorem rnum_any (s:List UInt8) (w:World) (hs:s.length≤1000000000000):Calls Tryz.prog 114 #[.string ⟨s.toArray⟩] w fun e w'=>e=.returned (.int .u64 (numL s))∧w=w':=by
 obtain ⟨R,hR⟩:∃ R,numL s=R:=⟨_,rfl⟩
 rw [hR]
 have HR:=Lib.hid hR
 clear hR
 go_enter Tryz.func114,Tryz.ntmps114
 go_wp2_with fail
 go_loopw [3,4] (fun h i wr=>∃ k:Nat,k≤s.length∧h=.int .u64 (numL (s.take k))∧i=.int .i64 k∧wr=w) (fun _ i _=>s.length - (intOf i).toNat)
 case atStart=>exact ⟨0,by omega,rfl,rfl,rfl⟩
 case round =>
  obtain ⟨k,hk,rfl,rfl,rfl⟩:=hrel
  by_cases hlt:k<s.length
  ·have t1:decide ((k:Int)<(s.length:Int))=true:=by simp;omega
   have HN:=Lib.hid (numL_next hlt)
   obtain ⟨h,hh⟩:∃ h,numL (s.take k)=h:=⟨_,rfl⟩
   rw [hh] at HN ⊢
   clear hh
   go_wp2_with fail
   go_roundw
   case rel=>exact ⟨k+1,by omega,by rw [HN.out];exact congrArg (Value.int .u64) (step_same h s[k]),by go_num,trivial⟩
   case measure=>simp [intOf];omega
  ·obtain rfl:k=s.length:=by omega
   rw [List.take_length,HR.out]
   have t1:decide ((s.length:Int)<(s.length:Int))=false:=by simp
   go_wp2_with fail
   go_ret
   exact ⟨rfl,rfl⟩
set_option maxRecDepth 100000 in
set_option maxHeartbeats 1000000 in
theorem cnum_any (s:List UInt8) (w:World) (hs:s.length≤1000000000000):Calls Tryz.prog 215 #[.string ⟨s.toArray⟩] w fun e w'=>e=.returned (.int .u64 (numL s))∧w=w':=by
 obtain ⟨R,hR⟩:∃ R,numL s=R:=⟨_,rfl⟩
 rw [hR]
 have HR:=Lib.hid hR
 clear hR
 go_enter Tryz.func215,Tryz.ntmps215
 go_wp2_with fail
 go_loopw [3,7] (fun h i wr=>∃ k:Nat,k≤s.length∧h=.int .u64 (numL (s.take k))∧i=.int .i64 k∧wr=w) (fun _ i _=>s.length - (intOf i).toNat)
 case atStart=>exact ⟨0,by omega,rfl,rfl,rfl⟩
 case round =>
  obtain ⟨k,hk,rfl,rfl,rfl⟩:=hrel
  by_cases hlt:k<s.length
  ·have t1:decide ((k:Int)<(s.length:Int))=true:=by simp;omega
   have HN:=Lib.hid (numL_next hlt)
   obtain ⟨h,hh⟩:∃ h,numL (s.take k)=h:=⟨_,rfl⟩
   rw [hh] at HN ⊢
   clear hh
   go_wp2_with fail
   go_roundw
   case rel=>exact ⟨k+1,by omega,by rw [HN.out];exact congrArg (Value.int .u64) (step_same h s[k]),by go_num,trivial⟩
   case measure=>simp [intOf];omega
  ·obtain rfl:k=s.length:=by omega
   rw [List.take_length,HR.out]
   have t1:decide ((s.length:Int)<(s.length:Int))=false:=by simp
   go_wp2_with fail
   go_ret
   exact ⟨rfl,rfl⟩
end Go.Proofs.YtdijhifdjbnkfaaGreat.BL
