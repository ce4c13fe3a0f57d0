/-
  
-/
import Derived.Test.YtdijhifdjbnkfaaGreatZA21
import Derived.Laws.Cover1
import Derived.Test.YtdijhifdjbnkfaaGreatZA22
import Derived.Test.YtdijhifdjbnkfaaGreatZA11
import Derived.Test.YtdijhifdjbnkfaaGreatZA3
import Derived.Test.YtdijhifdjbnkfaaGreatZA15
import Derived.Test.YtdijhifdjbnkfaaGreatZA9
set_option linter.unusedSimpArgs false
set_option linter.unusedVariables false
namespace Go.Proofs.YtdijhifdjbnkfaaGreat.DT
open Go Go.RowKit Go.Proofs.YtdijhifdjbnkfaaGreat.MM Go.Proofs.YtdijhifdjbnkfaaGreat.DM
open Go.Proofs.YtdijhifdjbnkfaaGreat.EM (lessL less_bytes lessL_irr lessL_asym lessL_total)
theorem le_less (x t:List UInt8):(lessL x t||(x == t)) = !lessL t x:=by
 by_cases e:x=t
 ·subst e;simp [lessL_irr]
 ·have e2:(x == t)=false:=by rw [beq_eq_false_iff_ne];exact e
  rw [e2,Bool.or_false]
  cases h:lessL x t with
  | true=>rw [lessL_asym h];rfl
  | false=>rw [lessL_total h e];rfl
theorem rises_drop {l:List Ent} {i:Nat} (hi:i<l.length) (t:List UInt8):rises t (l.drop i)=(lessL t l[i].1&&rises l[i].1 (l.drop (i+1))):=by
 rw [List.drop_eq_getElem_cons hi,rises]
set_option maxRecDepth 100000 in
set_option maxHeartbeats 1000000 in
theorem rising_any (v:Value) (l:List Ent) (t0:List UInt8) (w:World) (hv:RAny entC w v l):Calls Tryz.prog 105 #[v,.string ⟨t0.toArray⟩] w fun e w'=>e=.returned (.bool (rises t0 l))∧Below w.heap.size w w':=by
 obtain ⟨p,cap,rfl,hlc,hcm,_⟩:=hv.shape
 unfold maxLen at hcm
 obtain ⟨RES,hRES⟩:∃ RES,rises t0 l=RES:=⟨_,rfl⟩
 have H0:Hid (rises t0 (l.drop 0)=RES):=Lib.hid hRES
 rw [hRES]
 have HV:=Lib.hid hv
 clear hv hRES
 go_enter Tryz.func105,Tryz.ntmps105
 go_wp2_with fail
 go_loopw [1,9] (fun tv iv wr=>∃ (i:Nat) (t:List UInt8),i≤l.length∧tv=.string ⟨t.toArray⟩∧iv=.int .i64 i∧Hid (rises t (l.drop i)=RES)∧Hid (Below w.heap.size w wr)) (fun _ iv _=>l.length - (intOf iv).toNat)
 case atStart=>exact ⟨0,t0,by omega,rfl,rfl,H0,Lib.hid (Below.refl _ _)⟩
 case round =>
  obtain ⟨i,t,hi,rfl,rfl,HI,HB⟩:=hrel
  clear H0
  by_cases hlt:i<l.length
  ·have q1:decide ((i:Int)<(l.length:Int))=true:=by rw [decide_eq_true_eq];omega
   have q2:decide (i<l.length)=true:=by rw [decide_eq_true_eq];omega
   have q3:(i:Int)<(l.length:Int):=by omega
   obtain ⟨b,off,rfl,hbl,_,c1,c2,c3,c4⟩:=ent_at (RAny.below HV.out HB.out) hlt
   have hnx:=HI.out
   rw [rises_drop hlt] at hnx
   generalize l[i]=X at *
   obtain ⟨X1,x2,x3,x4⟩:=X
   dsimp only at *
   have hle:=le_less X1 t
   have hlb:=less_bytes X1 t
   generalize lessL X1 t=b1 at *
   obtain ⟨b2,hb2⟩:∃ b,(X1 == t)=b:=⟨_,rfl⟩
   rw [hb2] at hle
   obtain ⟨W,hW⟩:∃ W,wr.alloc (.cells #[.string ⟨X1.toArray⟩,.int .i64 x2,.int .i64 x3,.int .i64 x4] 102)=W:=⟨_,rfl⟩
   have HB2:Hid (Below w.heap.size w (wr.alloc (.cells #[.string ⟨X1.toArray⟩,.int .i64 x2,.int .i64 x3,.int .i64 x4] 102))):=Lib.hid (HB.out.trans ((Below.refl _ _).alloc HB.out.size _))
   clear HI hW
   obtain ⟨b3,hb3⟩:∃ b,lessL t X1=b:=⟨_,rfl⟩
   rw [hb3] at hle hnx
   clear hb3
   cases b3 with
   | true =>
     rw [Bool.true_and] at hnx
     have HN:=Lib.hid hnx
     obtain ⟨rfl,rfl⟩:b1=false∧b2=false:=by cases b1<;>cases b2<;>simp_all
     clear hnx hle
     go_wp2_with fail
     go_roundw
     case rel=>exact ⟨i+1,X1,by omega,rfl,by go_num,HN,HB2⟩
     case measure=>simp [intOf];omega
   | false =>
     rw [Bool.false_and] at hnx
     subst hnx
     have HLE:Hid ((b1||b2)=true):=Lib.hid hle
     clear hle
     cases b1 with
     | true =>
       clear HLE hb2
       go_wp2_with fail
       go_ret
       exact ⟨rfl,HB2.out⟩
     | false =>
       obtain rfl:b2=true:=by have:=HLE.out;simpa using this
       clear HLE
       go_wp2_with fail
       go_ret
       exact ⟨rfl,HB2.out⟩
  ·obtain rfl:i=l.length:=by omega
   have q1:decide ((l.length:Int)<(l.length:Int))=false:=by simp
   have q2:decide (l.length<l.length)=false:=by simp
   have hf:RES=true:=by rw [← HI.out,List.drop_length];rfl
   subst hf
   clear HI hlt
   go_wp2_with fail
   go_ret
   exact ⟨rfl,HB.out⟩
instance (x:Ent):Decidable (okW x):=by unfold okW;exact inferInstance
set_option maxRecDepth 100000 in
set_option maxHeartbeats 1000000 in
theorem isodd_any (x:Ent) (w:World):Calls Tryz.prog 131 #[entV x] w fun e w'=>e=.returned (.bool (!decide (okW x)))∧Below w.heap.size w w':=by
 obtain ⟨X1,a,b,c⟩:=x
 unfold entV
 dsimp only
 have hz:=str_sz X1
 have HB:Hid (Below w.heap.size w (w.alloc (.cells #[.string ⟨X1.toArray⟩,.int .i64 a,.int .i64 b,.int .i64 c] 102))):=Lib.hid ((Below.refl _ _).alloc (Nat.le_refl _) _)
 have HW:Hid (decide (okW (X1,a,b,c))=decide (X1.length≤65∧(0≤a∧a≤67108864)∧(0≤b∧b≤67108864)∧(0≤c∧c≤67108864))):=Lib.hid (by simp only [okW])
 go_enter Tryz.func131,Tryz.ntmps131
 go_wp2_with fail
 all_goals go_ret
 all_goals refine ⟨congrArg (fun b=>Ending.returned (.bool b)) ?_,HB.out⟩
 all_goals rw [HW.out,Bool.eq_iff_iff]
 all_goals simp only [Bool.or_eq_true,Bool.not_eq_true',decide_eq_true_eq,decide_eq_false_iff_not,true_iff]
 all_goals omega
end Go.Proofs.YtdijhifdjbnkfaaGreat.DT
set_option linter.unusedVariables false
namespace Go.Proofs.YtdijhifdjbnkfaaGreat.DT
open Go Go.RowKit Go.Proofs.YtdijhifdjbnkfaaGreat.MM Go.Proofs.YtdijhifdjbnkfaaGreat.DM
def oddX (x:Ent):Bool := !decide (okW x)
theorem any_drop {l:List Ent} {i:Nat} (hi:i<l.length):(l.drop i).any oddX=(oddX l[i]||(l.drop (i+1)).any oddX):=by
 rw [List.drop_eq_getElem_cons hi,List.any_cons]
set_option maxRecDepth 100000 in
set_option maxHeartbeats 1000000 in
theorem ixf_any (v:Value) (l:List Ent) (w:World) (hv:RAny entC w v l):Calls Tryz.prog 192 #[v,.func (.func 131) #[] #[]] w fun e w'=>∃ r:Int,e=.returned (.int .i64 r)∧decide (r≥0)=l.any oddX∧Below w.heap.size w w':=by
 obtain ⟨p,cap,rfl,hlc,hcm,_⟩:=hv.shape
 unfold maxLen at hcm
 obtain ⟨RES,hRES⟩:∃ RES,l.any oddX=RES:=⟨_,rfl⟩
 have H0:Hid ((l.drop 0).any oddX=RES):=Lib.hid hRES
 rw [hRES]
 have HV:=Lib.hid hv
 clear hv hRES
 go_enter Tryz.func192,Tryz.ntmps192
 go_wp2_with fail
 go_loopw [8] (fun iv wr=>∃ i:Nat,i≤l.length∧iv=.int .i64 i∧Hid ((l.drop i).any oddX=RES)∧Hid (Below w.heap.size w wr)) (fun iv _=>l.length - (intOf iv).toNat)
 case atStart=>exact ⟨0,by omega,rfl,H0,Lib.hid (Below.refl _ _)⟩
 case round =>
  obtain ⟨i,hi,rfl,HI,HB⟩:=hrel
  clear H0
  by_cases hlt:i<l.length
  ·have q1:decide ((i:Int)<(l.length:Int))=true:=by rw [decide_eq_true_eq];omega
   have q2:decide (i<l.length)=true:=by rw [decide_eq_true_eq];omega
   have q3:(i:Int)<(l.length:Int):=by omega
   obtain ⟨b,off,rfl,hbl,_,c1,c2,c3,c4⟩:=ent_at (RAny.below HV.out HB.out) hlt
   have hnx:=HI.out
   rw [any_drop hlt] at hnx
   generalize l[i]=X at *
   have hC:=isodd_any X wr
   have ho:oddX X = !decide (okW X):=rfl
   rw [← ho] at hC
   generalize oddX X=o at *
   obtain ⟨X1,x2,x3,x4⟩:=X
   unfold entV at hC
   dsimp only at *
   have HC:=Lib.hid hC
   clear hC ho HI
   cases o with
   | true =>
     rw [Bool.true_or] at hnx
     subst hnx
     go_wp2_with fail
     refine HC.out.mono ?_
     rintro e w1 ⟨rfl,hb1⟩
     have HB1:=Lib.hid (HB.out.trans (hb1.mono HB.out.size))
     clear hb1 HC
     go_wp2_with fail
     go_ret
     exact ⟨_,rfl,decide_eq_true (by omega),HB1.out⟩
   | false =>
     rw [Bool.false_or] at hnx
     have HN:=Lib.hid hnx
     clear hnx
     go_wp2_with fail
     refine HC.out.mono ?_
     rintro e w1 ⟨rfl,hb1⟩
     have HB1:=Lib.hid (HB.out.trans (hb1.mono HB.out.size))
     clear hb1 HC
     go_wp2_with fail
     go_roundw
     case rel=>exact ⟨i+1,by omega,by go_num,HN,HB1⟩
     case measure=>simp [intOf];omega
  ·obtain rfl:i=l.length:=by omega
   have q1:decide ((l.length:Int)<(l.length:Int))=false:=by simp
   have q2:decide (l.length<l.length)=false:=by simp
   have hf:RES=false:=by rw [← HI.out,List.drop_length];rfl
   subst hf
   clear HI hlt
   go_wp2_with fail
   go_ret
   exact ⟨_,rfl,by decide,HB.out⟩
set_option maxRecDepth 100000 in
theorem cf_any (v:Value) (l:List Ent) (w:World) (hv:RAny entC w v l):Calls Tryz.prog 130 #[v,.func (.func 131) #[] #[]] w fun e w'=>e=.returned (.bool (l.any oddX))∧Below w.heap.size w w':=by
 have HC:=Lib.hid (ixf_any v l w hv)
 generalize l.any oddX=RES at *
 clear hv
 go_enter Tryz.func130,Tryz.ntmps130
 go_wp2_with fail
 refine HC.out.mono ?_
 rintro e w1 ⟨r,rfl,hr,hb⟩
 have HB:=Lib.hid hb
 clear hb HC
 go_wp2_with fail
 go_ret
 exact ⟨by rw [← hr];rfl,HB.out⟩
end Go.Proofs.YtdijhifdjbnkfaaGreat.DT
set_option linter.unusedVariables false
namespace Go.Proofs.YtdijhifdjbnkfaaGreat.DT
open Go Go.RowKit Go.Proofs.YtdijhifdjbnkfaaGreat.MM Go.Proofs.YtdijhifdjbnkfaaGreat.DM
open Go.Proofs.YtdijhifdjbnkfaaGreat.EM (lessL lessL_irr lessL_trans lessL_total)
theorem rises_all:∀ {l:List Ent} {t:List UInt8},rises t l=true→∀ {j:Nat},j<l.length→lessL t (tK l j)=true
 | [],_,_,j,h=>by simp at h
 | x::r,t,h,j,hj=>by
   rw [rises,Bool.and_eq_true] at h
   match j,hj with
   | 0,_=>simpa [tK] using h.1
   | j+1,hj =>
     have e1:tK (x::r) (j+1)=tK r j:=by simp [tK]
     rw [e1]
     exact lessL_trans h.1 (rises_all h.2 (by simpa using hj))
theorem rises_lt:∀ {l:List Ent} {t:List UInt8},rises t l=true→∀ {i j:Nat},i<j→j<l.length→lessL (tK l i) (tK l j)=true
 | [],_,_,i,j,_,h=>by simp at h
 | x::r,t,h,i,j,hij,hj=>by
   rw [rises,Bool.and_eq_true] at h
   obtain ⟨j,rfl⟩:∃ k,j=k+1:=⟨j - 1,by omega⟩
   have hj':j<r.length:=by simpa using hj
   have e1:tK (x::r) (j+1)=tK r j:=by simp [tK]
   rw [e1]
   match i,hij with
   | i+1,hij =>
     have e2:tK (x::r) (i+1)=tK r i:=by simp [tK]
     rw [e2]
     exact rises_lt h.2 (by omega) hj'
   | 0,_ =>
     have e2:tK (x::r) 0=x.1:=by simp [tK]
     rw [e2]
     exact rises_all h.2 hj'
theorem filter_mid:∀ (p:Ent→Bool) (l:List Ent) (a b:Nat),(∀ k (h:k<l.length),k<a→p l[k]=false)→(∀ k (h:k<l.length),a≤k→k<b→p l[k]=true)→(∀ k (h:k<l.length),b≤k→p l[k]=false)→l.filter p=(l.take b).drop a
 | p,[],a,b,_,_,_=>by simp
 | p,x::r,0,0,h1,h2,h3=>by
   have ih:=filter_mid p r 0 0 (fun k h hk=>by omega) (fun k h _ hk=>by omega) (fun k h hk=>h3 (k+1) (Nat.succ_lt_succ h) (by omega))
   have e0:p x=false:=h3 0 (by simp) (by omega)
   simp only [List.filter_cons,e0,ih]
   simp
 | p,x::r,0,b+1,h1,h2,h3=>by
   have ih:=filter_mid p r 0 b (fun k h hk=>by omega) (fun k h _ hk=>h2 (k+1) (Nat.succ_lt_succ h) (by omega) (by omega)) (fun k h hk=>h3 (k+1) (Nat.succ_lt_succ h) (by omega))
   have e0:p x=true:=h2 0 (by simp) (by omega) (by omega)
   simp only [List.filter_cons,e0,ih]
   simp
 | p,x::r,a+1,0,h1,h2,h3=>by
   have ih:=filter_mid p r a 0 (fun k h hk=>h1 (k+1) (Nat.succ_lt_succ h) (by omega)) (fun k h _ hk=>by omega) (fun k h hk=>h3 (k+1) (Nat.succ_lt_succ h) (by omega))
   have e0:p x=false:=h3 0 (by simp) (by omega)
   simp only [List.filter_cons,e0,ih]
   simp
 | p,x::r,a+1,b+1,h1,h2,h3=>by
   have ih:=filter_mid p r a b (fun k h hk=>h1 (k+1) (Nat.succ_lt_succ h) (by omega)) (fun k h hk1 hk=>h2 (k+1) (Nat.succ_lt_succ h) (by omega) (by omega)) (fun k h hk=>h3 (k+1) (Nat.succ_lt_succ h) (by omega))
   have e0:p x=false:=h1 0 (by simp) (by omega)
   simp only [List.filter_cons,e0,ih]
   simp
def Down (q:List UInt8→Bool):Prop:=∀ s t,lessL s t=true→q t=true→q s=true
theorem turns_all {l:List Ent} {q:List UInt8→Bool} {c:Nat} {t:List UInt8} (hr:rises t l=true) (hq:Down q) (h:TurnsAt (fun k => !q (tK l k)) l.length c):(∀ k,k<c→q (tK l k)=true)∧(∀ k,c≤k→k<l.length→q (tK l k)=false):=by
 obtain ⟨h1,h2,h3⟩:=h
 dsimp only at h2 h3
 refine ⟨fun k hk => ?_,fun k hk hkl => ?_⟩
 ·have hc:q (tK l (c - 1))=true:=by simpa using h2 (by omega)
  by_cases e:k=c - 1
  ·rw [e];exact hc
  ·exact hq _ _ (rises_lt hr (show k<c - 1 by omega) (by omega)) hc
 ·have hc:q (tK l c)=false:=by simpa using h3 (by omega)
  by_cases e:k=c
  ·rw [e];exact hc
  ·cases hq2:q (tK l k) with
   | false=>rfl
   | true =>
     have:=hq _ _ (rises_lt hr (show c<k by omega) hkl) hq2
     rw [hc] at this
     cases this
theorem down_less (u:List UInt8):Down fun t=>lessL t u:=fun s t h1 h2=>lessL_trans h1 h2
theorem floor_turns {l:List Ent} {u:List UInt8} {c:Nat} {t:List UInt8} (hr:rises t l=true) (h:TurnsAt (fun k => !lessL (tK l k) u) l.length c):floorD l u=c:=by
 obtain ⟨h1,h2⟩:=turns_all hr (down_less u) h
 have hc:=h.1
 unfold floorD
 rw [filter_mid (fun x=>lessL x.1 u) l 0 c (fun k _ hk=>by omega) (fun k hk _ hkc=>by rw [← tK_at hk];exact h1 k hkc) (fun k hk hkc=>by rw [← tK_at hk];exact h2 k hkc hk),List.drop_zero,List.length_take]
 omega
def hasT (p t:List UInt8):Bool:=decide (p.length≤t.length)&&decide (t.take p.length=p)
theorem hasT_cons (a b:UInt8) (p t:List UInt8):hasT (a::p) (b::t)=(decide (b=a)&&hasT p t):=by
 unfold hasT
 by_cases h:b=a<;>by_cases h2:p.length≤t.length<;>simp [h,h2]
theorem less_begin:∀ {p t:List UInt8},hasT p t=true→lessL t p=false
 | [],t,_=>by cases t<;>rfl
 | a::p,[],h=>by simp [hasT] at h
 | a::p,b::t,h=>by
   rw [hasT_cons,Bool.and_eq_true,decide_eq_true_eq] at h
   obtain ⟨rfl,h⟩:=h
   rw [lessL]
   simp [less_begin h]
theorem begin_ahead:∀ {p s t:List UInt8},lessL s t=true→hasT p t=true→lessL s p=false→hasT p s=true
 | [],s,t,_,_,_=>by simp [hasT]
 | a::p,s,[],_,h,_=>by simp [hasT] at h
 | a::p,[],b::t,_,_,h=>by simp [lessL] at h
 | a::p,c::s,b::t,h1,h2,h3=>by
   rw [hasT_cons,Bool.and_eq_true,decide_eq_true_eq] at h2
   obtain ⟨rfl,h2⟩:=h2
   rw [lessL] at h1 h3
   rw [hasT_cons]
   by_cases e:c=b
   ·subst e
    simp at h1 h3
    simp [begin_ahead h1 h2 h3]
   ·simp [e] at h1 h3
    omega
def upTo (p t:List UInt8):Bool:=lessL t p||hasT p t
theorem down_upTo (p:List UInt8):Down (upTo p):=fun s t h1 h2=>by
 unfold upTo at h2 ⊢
 cases h:lessL s p with
 | true=>rfl
 | false =>
   rw [Bool.or_eq_true] at h2
   rcases h2 with h2 | h2
   ·rw [lessL_trans h1 h2] at h;cases h
   ·rw [begin_ahead h1 h2 h];rfl
theorem pref_turns {l:List Ent} {p:List UInt8} {a b:Nat} {t:List UInt8} (hr:rises t l=true) (h1:TurnsAt (fun k => !lessL (tK l k) p) l.length a) (h2:TurnsAt (fun k => !upTo p (tK l k)) l.length b):prefD l p=(l.take b).drop a:=by
 obtain ⟨f1,f2⟩:=turns_all hr (down_less p) h1
 obtain ⟨g1,g2⟩:=turns_all hr (down_upTo p) h2
 have hP:∀ x:Ent,hasP p x=hasT p x.1:=fun _=>rfl
 unfold prefD
 refine filter_mid _ l a b (fun k hk hka => ?_) (fun k hk hka hkb => ?_) (fun k hk hkb => ?_)
 ·rw [hP,← tK_at hk]
  have:=f1 k hka
  cases h:hasT p (tK l k) with
  | false=>rfl
  | true=>rw [less_begin h] at this;cases this
 ·rw [hP,← tK_at hk]
  have h3:=f2 k hka hk
  have h4:=g1 k hkb
  unfold upTo at h4
  rw [h3] at h4
  exact h4
 ·rw [hP,← tK_at hk]
  have h4:=g2 k hkb hk
  unfold upTo at h4
  rw [Bool.or_eq_false_iff] at h4
  exact h4.2
theorem find_floor {l:List Ent} {u:List UInt8} {t:List UInt8} (hr:rises t l=true):findD l u=match atD l (floorD l u:Int) with
  | none=>none
  | some x=>if x.1=u then some x else none:=by
 have hle:=floorD_le l u
 have hat:∀ k:Nat,atD l (k:Int)=l[k]? := fun k=>by
  unfold atD
  by_cases h:k<l.length
  ·rw [if_pos ⟨by omega,by omega⟩,Int.toNat_natCast]
  ·rw [if_neg (by omega),List.getElem?_eq_none (by omega)]
 rw [hat]
 have hfil:∀ k (hk:k<l.length),l[k].1=u→floorD l u=k:=fun k hk he=>by
  refine floor_turns hr ⟨by omega,fun h0 => ?_,fun _ => ?_⟩
  ·have:=rises_lt hr (show k - 1<k by omega) hk
   rw [tK_at hk,he] at this
   dsimp only
   rw [this];rfl
  ·dsimp only
   rw [tK_at hk,he,lessL_irr];rfl
 cases hf:findD l u with
 | some x =>
   have hx:=List.find?_some hf
   have hm:=List.mem_of_find?_eq_some hf
   obtain ⟨k,hk,rfl⟩:=List.getElem_of_mem hm
   have he:l[k].1=u:=by simpa using hx
   rw [hfil k hk he,List.getElem?_eq_getElem hk]
   simp [he]
 | none =>
   cases hg:l[floorD l u]? with
   | none=>rfl
   | some x =>
     obtain ⟨hk,rfl⟩:=List.getElem?_eq_some_iff.1 hg
     have:=List.find?_eq_none.1 hf l[floorD l u] (List.getElem_mem hk)
     have hne:l[floorD l u].1≠u:=by simpa using this
     simp [hne]
end Go.Proofs.YtdijhifdjbnkfaaGreat.DT
set_option linter.unusedVariables false
namespace Go.Proofs.YtdijhifdjbnkfaaGreat.DT
open Go Go.RowKit Go.Proofs.YtdijhifdjbnkfaaGreat.MM Go.Proofs.YtdijhifdjbnkfaaGreat.DM
open Go.Proofs.YtdijhifdjbnkfaaGreat.EM (lessL less_bytes)
theorem good_all {l:List Ent} (h:areD l=true):(∀ x∈l,okW x)∧rises [] l=true∧l.length≤262144:=by
 unfold areD at h
 rw [Bool.and_eq_true,decide_eq_true_eq,areR_none] at h
 exact ⟨h.2.1,h.2.2,h.1⟩
set_option maxRecDepth 100000 in
theorem fc_any (bt:Nat) (t u:List UInt8) (w:World) (h:w.cell? ⟨bt,0,none⟩=some (.string ⟨u.toArray⟩)):Calls Tryz.prog 212 (#[.string ⟨t.toArray⟩]++#[.pointer (some ⟨bt,0,none⟩)]) w fun e w'=>e=.returned (.bool (lessL t u))∧Below w.heap.size w w':=by
 have hlb:=less_bytes t u
 generalize lessL t u=b at *
 go_enter Tryz.func212,Tryz.ntmps212
 go_wp2_with fail
 go_ret
 exact ⟨rfl,Below.refl _ _⟩
theorem hasPrefix_hasT (t u:List UInt8):Lib.hasPrefix t u=hasT u t:=by
 unfold Lib.hasPrefix hasT
 rw [Bool.eq_iff_iff,List.isPrefixOf_iff_prefix,Bool.and_eq_true,decide_eq_true_eq,decide_eq_true_eq]
 constructor
 ·intro h
  exact ⟨h.length_le,(List.prefix_iff_eq_take.1 h).symm⟩
 ·rintro ⟨_,h⟩
  exact List.prefix_iff_eq_take.2 h.symm
set_option maxRecDepth 100000 in
theorem pc_any (bt:Nat) (t u:List UInt8) (w:World) (h:w.cell? ⟨bt,0,none⟩=some (.string ⟨u.toArray⟩)):Calls Tryz.prog 176 (#[.string ⟨t.toArray⟩]++#[.pointer (some ⟨bt,0,none⟩)]) w fun e w'=>e=.returned (.bool (upTo u t))∧Below w.heap.size w w':=by
 have hlb:=less_bytes t u
 have hh:=Tryz.strings_HasPrefix ⟨t.toArray⟩ ⟨u.toArray⟩ w
 rw [str_list,str_list,hasPrefix_hasT] at hh
 have HH:=Lib.hid hh
 clear hh
 unfold upTo
 cases hb:lessL t u with
 | true =>
   rw [hb] at hlb
   clear hb
   go_enter Tryz.func176,Tryz.ntmps176
   go_wp2_with fail
   go_ret
   exact ⟨rfl,Below.refl _ _⟩
 | false =>
   rw [hb] at hlb
   rw [Bool.false_or]
   generalize hasT u t=b at *
   clear hb
   go_enter Tryz.func176,Tryz.ntmps176
   go_wp2_with fail
   refine HH.out.mono ?_
   rintro e w1 ⟨rfl,rfl⟩
   go_wp2_with fail
   go_ret
   exact ⟨rfl,Below.refl _ _⟩
theorem fc_tells (R:Nat) (u:List UInt8) (w:World) (h:w.cell? ⟨R,0,none⟩=some (.string ⟨u.toArray⟩)):Tells 212 #[.pointer (some ⟨R,0,none⟩)] (fun t=>lessL t u) w :=
 ⟨enters_of Tryz.func212 (by kernel_rfl) rfl,fun W t hW=>fc_any R t u W ((hW.cell (p:=⟨R,0,none⟩) (World.block_lt_of_cell? _ _ h)).trans h)⟩
theorem pc_tells (R:Nat) (u:List UInt8) (w:World) (h:w.cell? ⟨R,0,none⟩=some (.string ⟨u.toArray⟩)):Tells 176 #[.pointer (some ⟨R,0,none⟩)] (upTo u) w :=
 ⟨enters_of Tryz.func176 (by kernel_rfl) rfl,fun W t hW=>pc_any R t u W ((hW.cell (p:=⟨R,0,none⟩) (World.block_lt_of_cell? _ _ h)).trans h)⟩
set_option maxRecDepth 100000 in
set_option maxHeartbeats 1000000 in
theorem floor_any (p:Option Addr) (l:List Ent) (u:List UInt8) (w:World) (hp:DictP (fun _=>True) w p l) (hl:areD l=true):Calls Tryz.prog 166 #[.pointer p,.string ⟨u.toArray⟩] w fun e w'=>e=.returned (.int .i64 (floorD l u:Int))∧TurnsAt (fun k => !lessL (tK l k) u) l.length (floorD l u)∧Below w.heap.size w w':=by
 obtain ⟨hw,hr,hn⟩:=good_all hl
 obtain ⟨R,hR⟩:∃ R,w.heap.size=R:=⟨_,rfl⟩
 obtain ⟨wa,hwa⟩:∃ W,w.alloc (.cells #[.string ⟨u.toArray⟩] 9)=W:=⟨_,rfl⟩
 have hba:Below w.heap.size w wa:=by rw [← hwa];exact (Below.refl _ _).alloc (Nat.le_refl _) _
 have x2:wa.cell? ⟨R,0,none⟩=some (.string ⟨u.toArray⟩):=by rw [← hwa,← hR,cell_of_row _ _ 0 _ _ _ (heap_alloc_new w _)];rfl
 have HC:=Lib.hid (count_any p l 212 _ _ wa (hp.below hba) (fc_tells R u wa x2) hw hn)
 have HBA:=Lib.hid hba
 have HWA:=Lib.hid hwa
 clear hba hwa x2 hp
 go_enter Tryz.func166,Tryz.ntmps166
 go_wp2_with fail
 rw [HWA.out]
 go_wp2_with fail
 refine HC.out.mono ?_
 rintro e w1 ⟨c,rfl,hT,hb1⟩
 have hc:=floor_turns hr hT
 subst hc
 have HT:=Lib.hid hT
 have HB:=Lib.hid (HBA.out.trans (hb1.mono HBA.out.size))
 clear hT hb1 HC
 go_wp2_with fail
 go_ret
 exact ⟨rfl,HT.out,HB.out⟩
end Go.Proofs.YtdijhifdjbnkfaaGreat.DT
set_option linter.unusedVariables false
namespace Go.Proofs.YtdijhifdjbnkfaaGreat.DT
open Go Go.RowKit Go.Proofs.YtdijhifdjbnkfaaGreat.MM Go.Proofs.YtdijhifdjbnkfaaGreat.DM
open Go.Proofs.YtdijhifdjbnkfaaGreat.EM (lessL less_bytes)
def pickT (u:List UInt8):Option Ent→Option Ent
 | none=>none
 | some x=>if x.1=u then some x else none
set_option maxRecDepth 100000 in
set_option maxHeartbeats 1000000 in
theorem get_any (p:Option Addr) (l:List Ent) (u:List UInt8) (w:World) (hp:DictP (fun _=>True) w p l) (hl:areD l=true):Calls Tryz.prog 111 #[.pointer p,.string ⟨u.toArray⟩] w (Found (findD l u) w):=by
 obtain ⟨hw,hr,hn⟩:=good_all hl
 have hfind:findD l u=pickT u (atD l (floorD l u:Int)):=by rw [find_floor hr];cases atD l (floorD l u:Int)<;>rfl
 have hfle:=floorD_le l u
 obtain ⟨R,hR⟩:∃ R,w.heap.size=R:=⟨_,rfl⟩
 obtain ⟨wa,hwa⟩:∃ wa,w.alloc (.cells #[.string ⟨#[]⟩,.int .i64 0,.int .i64 0,.int .i64 0] 102)=wa:=⟨_,rfl⟩
 have hba:Below w.heap.size w wa:=by rw [← hwa];exact (Below.refl _ _).alloc (Nat.le_refl _) _
 have FR0:Hid (Four wa R 102 (.string ⟨#[]⟩) (.int .i64 0) (.int .i64 0) (.int .i64 0)):=Lib.hid (by rw [← hwa,← hR];exact four_new w 102 _ _ _ _)
 have hsa:wa.heap.size=R+1:=by rw [← hwa,← hR];simp
 have hd:=hp.below hba
 have HF:=Lib.hid (floor_any p l u wa hd hl)
 have HAT:=Lib.hid (fun W (hW:Below wa.heap.size wa W)=>at_any p l (floorD l u:Int) W (hd.below hW) hw hn (by omega) (by omega))
 have HB0:=Lib.hid hba
 have HWA:=Lib.hid hwa
 obtain ⟨o,ho⟩:∃ o,atD l (floorD l u:Int)=o:=⟨_,rfl⟩
 obtain ⟨c,hc⟩:∃ c,floorD l u=c:=⟨_,rfl⟩
 rw [hc] at ho hfind HF HAT
 rw [ho] at hfind HAT
 obtain ⟨RES,hRES⟩:∃ r,findD l u=r:=⟨_,rfl⟩
 rw [hRES] at hfind ⊢
 have HFIND:=Lib.hid hfind
 clear hwa hba hp hd hfind ho hc hfle hRES
 go_enter Tryz.func111,Tryz.ntmps111
 go_wp2_with fail
 rw [HWA.out]
 refine HF.out.mono ?_
 rintro e w1 ⟨rfl,_,hb1⟩
 have hs1:=hb1.size
 have HA:=Lib.hid (HAT.out w1 hb1)
 have FR1:=Lib.hid (FR0.out.below hb1 (by omega))
 have HB1:=Lib.hid (HB0.out.trans (hb1.mono (by omega)))
 clear hb1 HAT HF FR0
 go_wp2_with fail
 refine HA.out.mono ?_
 rintro e w2 ⟨rfl,hb2⟩
 have hs2:=hb2.size
 obtain ⟨q,hq⟩:∃ q,w2.heap.size=q:=⟨_,rfl⟩
 cases o with
 | none =>
   obtain rfl:RES=none:=HFIND.out
   dsimp only [Option.getD_none,Option.isSome_none]
   clear HFIND
   have FR2:=FR1.out.below hb2 (by omega)
   have hb3:Below w2.heap.size w2 (w2.alloc (.cells #[.string ⟨#[]⟩,.int .i64 0,.int .i64 0,.int .i64 0] 102)):=(Below.refl _ _).alloc (Nat.le_refl _) _
   have FR3:=FR2.below hb3 (by omega)
   obtain ⟨m1,m2,m3,m4,⟨k1,k2⟩,⟨k3,k4⟩,k5,k6⟩:=FR3.all (.string ⟨#[]⟩) (.int .i64 0) (.int .i64 0)
   obtain ⟨n0,n1,n2,n3⟩:=FR3.cells
   have HX1:=Lib.hid FR3
   have HX2:=Lib.hid (FR3.set (.string ⟨#[]⟩) (.int .i64 0) (.int .i64 0) (.int .i64 0))
   have hb4:=(HB1.out.trans (hb2.mono (by omega))).trans (hb3.mono (by omega))
   have HB4:=Lib.hid hb4
   have HB5:=Lib.hid (hb4.trans ((kep_set4 (g:=R) (w:=w2.alloc (.cells #[.string ⟨#[]⟩,.int .i64 0,.int .i64 0,.int .i64 0] 102)) (.string ⟨#[]⟩) (.int .i64 0) (.int .i64 0) (.int .i64 0)).below (B:=w.heap.size) (by simp;omega) (fun b hb=>by omega)))
   unfold entV nilX
   clear FR2 hb3 FR3 hb4 hb2 HA FR1 HB1
   go_wp2_with fail
   refine bodyPost_ret (results_four2 (p:=4) (u:=5) rfl Tryz.underlying102 rfl infoEnt _ _ R _ _ _ _ rfl HX2.out) rfl ?_
   exact ⟨rfl,HB5.out⟩
 | some X =>
   obtain ⟨X1,x2,x3,x4⟩:=X
   dsimp only [Option.getD_some,Option.isSome_some]
   unfold entV
   dsimp only
   have FR2:=FR1.out.below hb2 (by omega)
   have hb3:Below w2.heap.size w2 (w2.alloc (.cells #[.string ⟨X1.toArray⟩,.int .i64 x2,.int .i64 x3,.int .i64 x4] 102)):=(Below.refl _ _).alloc (Nat.le_refl _) _
   have FR3:=FR2.below hb3 (by omega)
   have FQ3:=four_new w2 102 (.string ⟨X1.toArray⟩) (.int .i64 x2) (.int .i64 x3) (.int .i64 x4)
   rw [hq] at FQ3
   obtain ⟨n0,n1,n2,n3⟩:=FR3.cells
   obtain ⟨e0,e1,e2,e3⟩:=FQ3.cells
   have hb4:=(HB1.out.trans (hb2.mono (by omega))).trans (hb3.mono (by omega))
   have HB4:=Lib.hid hb4
   have HX1:=Lib.hid FR3
   by_cases he:X1=u
   ·have t0:(X1 == u)=true:=by rw [he];simp
    obtain ⟨m1,m2,m3,m4,⟨k1,k2⟩,⟨k3,k4⟩,k5,k6⟩:=FR3.all (.string ⟨X1.toArray⟩) (.int .i64 x2) (.int .i64 x3)
    have HX2:=Lib.hid (FR3.set (.string ⟨X1.toArray⟩) (.int .i64 x2) (.int .i64 x3) (.int .i64 x4))
    have HB5:=Lib.hid (hb4.trans ((kep_set4 (g:=R) (w:=w2.alloc (.cells #[.string ⟨X1.toArray⟩,.int .i64 x2,.int .i64 x3,.int .i64 x4] 102)) (.string ⟨X1.toArray⟩) (.int .i64 x2) (.int .i64 x3) (.int .i64 x4)).below (B:=w.heap.size) (by simp;omega) (fun b hb=>by omega)))
    subst he
    have t0:(X1 == X1)=true:=by simp
    obtain rfl:RES=some (X1,x2,x3,x4):=by have:=HFIND.out;unfold pickT at this;dsimp only at this;rw [if_pos rfl] at this;exact this
    clear FR2 hb3 FR3 FQ3 hb4 hb2 HA FR1 HB1 HFIND
    go_wp2_with fail
    refine bodyPost_ret (results_four2 (p:=4) (u:=5) rfl Tryz.underlying102 rfl infoEnt _ _ R _ _ _ _ rfl HX2.out) rfl ?_
    exact ⟨rfl,HB5.out⟩
   ·have t0:(X1 == u)=false:=by rw [beq_eq_false_iff_ne];exact he
    obtain ⟨m1,m2,m3,m4,⟨k1,k2⟩,⟨k3,k4⟩,k5,k6⟩:=FR3.all (.string ⟨#[]⟩) (.int .i64 0) (.int .i64 0)
    have HX2:=Lib.hid (FR3.set (.string ⟨#[]⟩) (.int .i64 0) (.int .i64 0) (.int .i64 0))
    have HB5:=Lib.hid (hb4.trans ((kep_set4 (g:=R) (w:=w2.alloc (.cells #[.string ⟨X1.toArray⟩,.int .i64 x2,.int .i64 x3,.int .i64 x4] 102)) (.string ⟨#[]⟩) (.int .i64 0) (.int .i64 0) (.int .i64 0)).below (B:=w.heap.size) (by simp;omega) (fun b hb=>by omega)))
    obtain rfl:RES=none:=by have:=HFIND.out;unfold pickT at this;dsimp only at this;rw [if_neg he] at this;exact this
    clear FR2 hb3 FR3 FQ3 hb4 hb2 HA FR1 HB1 HFIND he
    go_wp2_with fail
    refine bodyPost_ret (results_four2 (p:=4) (u:=5) rfl Tryz.underlying102 rfl infoEnt _ _ R _ _ _ _ rfl HX2.out) rfl ?_
    exact ⟨rfl,HB5.out⟩
end Go.Proofs.YtdijhifdjbnkfaaGreat.DT
set_option linter.unusedVariables false
namespace Go.Proofs.YtdijhifdjbnkfaaGreat.DT
open Go Go.RowKit Go.Proofs.YtdijhifdjbnkfaaGreat.MM Go.Proofs.YtdijhifdjbnkfaaGreat.DM
open Go.Proofs.YtdijhifdjbnkfaaGreat.EM (lessL less_bytes)
theorem cut_more {l:List Ent} {a i m:Nat} (ha:a≤i) (hi:i≤l.length):(l.take (i+m)).drop a=(l.take i).drop a++(l.drop i).take m:=by
 rw [List.take_add,List.drop_append_of_le_length (by rw [List.length_take];omega)]
theorem chunk_cut {l:List Ent} {i J M m:Nat} (h:i=16*J+M) (hm:m≤16 - M):((chunk l J).drop M).take m=(l.drop i).take m:=by
 subst h
 unfold chunk
 rw [List.drop_take,List.drop_drop,List.take_take,Nat.min_eq_left hm]
theorem src_ent {S T:Nat→Prop} {w:World} {v:Value} {ds:List Ent} (h:SrcX entC S w v ds):SrcX entC T w v ds:=by
 obtain ⟨p,cap,raw,hv,h1,h3,hm,hc⟩:=h
 exact ⟨p,cap,raw,hv,h1,h3,⟨hm.1,fun i hi hi'=>ent_on.2 (ent_on.1 (hm.2 i hi hi'))⟩,hc⟩
set_option maxRecDepth 100000 in
set_option maxHeartbeats 1000000 in
theorem between_any (p:Option Addr) (l:List Ent) (a b:Nat) (w:World) (hp:DictP (fun _=>True) w p l) (hl:areD l=true) (hb:b≤l.length) (ha:a≤l.length):Calls Tryz.prog 174 #[.pointer p,.int .i64 (a:Int),.int .i64 (b:Int)] w (EntsLeft ((l.take b).drop a) w):=by
 obtain ⟨hw,hr,hn⟩:=good_all hl
 have HP:=Lib.hid hp
 have HO0:Hid (OwnX entC 102 w.heap.size (fun _=>False) w (.slice none 0 0) ((l.take a).drop a)):=Lib.hid (by
  rw [List.drop_of_length_le (by rw [List.length_take];omega)]
  exact OwnX.nil_ _ _ _ _)
 clear hp hr hl
 go_enter Tryz.func174,Tryz.ntmps174
 go_wp2_with fail
 go_loopw [1,7] (fun iv lv wr=>∃ i:Nat,iv=.int .i64 (i:Int)∧a≤i∧i≤l.length∧(i≤b∨i=a)∧Hid (OwnX entC 102 w.heap.size (fun _=>False) wr lv ((l.take i).drop a))∧Hid (Below w.heap.size w wr)) (fun iv _ _=>b - (intOf iv).toNat)
 case atStart=>exact ⟨a,rfl,Nat.le_refl _,ha,.inr rfl,HO0,Lib.hid (Below.refl _ _)⟩
 case round =>
  obtain ⟨i,rfl,hai,hil,hib,HO,HB⟩:=hrel
  clear HO0
  by_cases hlt:i<b
  ·have q1:decide ((i:Int)<(b:Int))=true:=by rw [decide_eq_true_eq];omega
   have q2:decide (i<b)=true:=by rw [decide_eq_true_eq];omega
   rcases HP.out.below HB.out with ⟨_,h0⟩ | ⟨g,hg,v,h2,_,h3⟩
   ·rw [h0] at hb;simp at hb;omega
   subst hg
   have hj:i / 16<chunksN l:=by unfold chunksN;omega
   obtain ⟨pb,cb,rfl,hcb,hcm,_⟩:=h3.shape
   rw [blksOf_len] at h3 h2 hcb
   obtain ⟨bb,off,vb,rfl,hbl,b0,b1,hbody⟩:=blk_at h3 hj
   obtain ⟨J,hJ⟩:∃ J,i / 16=J:=⟨_,rfl⟩
   obtain ⟨M,hM⟩:∃ M,i%16=M:=⟨_,rfl⟩
   have d1:(i:Int) / 16=(J:Int):=by omega
   have d2:(i:Int).tdiv 16=(J:Int):=by rw [Int.tdiv_eq_ediv_of_nonneg (by omega)];omega
   have d3:(i:Int)%16=(M:Int):=by omega
   have d4:(i:Int).tmod 16=(M:Int):=by rw [Int.tmod_eq_emod_of_nonneg (by omega)];omega
   rw [hJ] at b0 b1 hbody hj
   have hcl:(chunk l J).length=min 16 (l.length - 16*J):=chunk_size l J
   obtain ⟨FT,hFT⟩:∃ s:ByteArray,(⟨((chunk l J).headD nilX).1.toArray⟩:ByteArray)=s:=⟨_,rfl⟩
   rw [hFT] at b0
   have HENTS:=Lib.hid (blkents_any FT vb (chunk l J) wr (chunk_w hw J) (by omega) hbody)
   obtain ⟨pv,cv,rfl,_⟩:=hbody.shape
   have c1:=h2.c1
   have hj2:(J:Int)<(chunksN l:Int):=by omega
   have hNm:chunksN l≤16384:=by unfold chunksN;omega
   generalize chunksN l=N at *
   obtain ⟨n2,hn2⟩:∃ n,(chunk l J).length=n:=⟨_,rfl⟩
   rw [hn2] at hcl
   obtain ⟨m,hm⟩:∃ m,min (n2 - M) (b - i)=m:=⟨_,rfl⟩
   have hsub1:(b:Int) - (i:Int)=((b - i:Nat):Int):=by omega
   have hsub2:IntKind.i64.wrap ((b:Int) - (i:Int))=(b:Int) - (i:Int):=by rw [IntKind.wrap_i64];omega
   have hmin1:min ((n2 - M:Nat):Int) ((b:Int) - (i:Int))=(m:Int):=by omega
   have hmin2:min ((n2 - M:Nat):Int) ((b - i:Nat):Int)=(m:Int):=by omega
   have hm0:0<m:=by omega
   have HNX:Hid ((l.take (i+m)).drop a=(l.take i).drop a++((chunk l J).drop M).take m):=Lib.hid (by rw [cut_more hai hil,chunk_cut (i:=i) (by omega) (by omega)])
   have hMn:(M:Int)≤(n2:Int):=by omega
   have HLEN:Hid (((l.take i).drop a).length+(((chunk l J).drop M).take m).length≤262144):=Lib.hid (by rw [List.length_drop,List.length_take,List.length_take,List.length_drop];omega)
   have HM1:Hid (M<n2∧m≤n2 - M∧M+m≤16∧i+m≤b):=Lib.hid (by omega)
   have HN2:=Lib.hid hn2
   obtain ⟨AC,hAC⟩:∃ A,(l.take i).drop a=A:=⟨_,rfl⟩
   rw [hAC] at HO HNX HLEN
   obtain ⟨pl,cl,rfl,_⟩:=HO.out.any.shape
   have HSW:Hid (w.heap.size≤wr.heap.size):=Lib.hid HB.out.size
   clear h2 h3 hbody hFT hcl hJ hM hn2 hm hAC
   go_wp2_with fail
   refine HENTS.out.mono ?_
   rintro e w2 ⟨v2,rfl,ho2,hb2⟩
   obtain ⟨p2,c2,rfl,hl2,hm2,hp2⟩:=ho2.any.shape
   rw [HN2.out] at hl2 ⊢
   have hMc:(M:Int)≤(c2:Int):=by omega
   have hra:=ho2.any
   rw [HN2.out] at hra
   obtain ⟨b2,off2,rfl,hb2l,_⟩:=ent_at hra (k:=M) (by rw [HN2.out];exact HM1.out.1)
   have hsr:=((ROn.drop hra M (by omega)).take m HM1.out.2.1)
   rw [if_neg (by omega),Option.map_some,add_at,ent_size] at hsr
   have HSR:Hid (SrcX entC (fun _=>False) w2 _ _):=Lib.hid (src_ent hsr.src)
   have hml:(((chunk l J).drop M).take m).length=m:=by rw [List.length_take,List.length_drop,HN2.out];omega
   have HML:=Lib.hid hml
   have hs2:=hb2.size
   have HO2:=Lib.hid (HO.out.keep (kep_below (fun _=>True) hb2) (fun _ _ h=>h.elim) (fun _ _=>trivial))
   have HB2:=Lib.hid (HB.out.trans (hb2.mono HSW.out))
   have hcM:c2≠M:=by omega
   have hmc:(m:Int)≤((c2 - M:Nat):Int):=by omega
   have HSW2:Hid (w.heap.size≤w2.heap.size):=Lib.hid (by have:=HSW.out;omega)
   clear ho2 hb2 hra hsr hml HO HB HENTS hp2
   go_wp2_with (at_builtin;go_loud (refine wpList_append_x entE rfl _ _ rfl w.heap.size (.slice pl AC.length cl) AC rfl HO2.out (fun _ _ h=>h.elim) _ (((chunk l J).drop M).take m) rfl HSR.out (by unfold maxLen;have:=HLEN.out;omega) (by have:=HLEN.out;omega) HSW2.out ?_;intro v3 w3 ho3 hb3 hk3;have HO3:=Lib.hid ho3;have HB3:=Lib.hid (HB2.out.trans hb3);clear ho3 hb3 hk3 HO2 HB2 HSR))
   rw [← HNX.out] at HO3
   obtain ⟨him1,him2⟩:i+m≤b∧i+m≤l.length:=by have:=HM1.out;omega
   go_roundw
   case rel=>exact ⟨i+m,by go_num,by omega,him2,.inl him1,HO3,HB3⟩
   case measure=>simp [intOf];omega
  ·have q1:decide ((i:Int)<(b:Int))=false:=by rw [decide_eq_false_iff_not];omega
   have q2:decide (i<b)=false:=by rw [decide_eq_false_iff_not];omega
   have he:(l.take b).drop a=(l.take i).drop a:=by
    rcases hib with h | h
    ·rw [show i=b by omega]
    ·subst h
     rw [List.drop_of_length_le (by rw [List.length_take];omega),List.drop_of_length_le (by rw [List.length_take];omega)]
   have ho:=HO.out
   rw [← he] at ho
   have HO9:=Lib.hid ho
   clear he hlt ho HO
   go_wp2_with fail
   go_ret
   exact ⟨_,rfl,HO9.out,HB.out⟩
end Go.Proofs.YtdijhifdjbnkfaaGreat.DT
set_option linter.unusedVariables false
namespace Go.Proofs.YtdijhifdjbnkfaaGreat.DT
open Go Go.RowKit Go.Proofs.YtdijhifdjbnkfaaGreat.MM Go.Proofs.YtdijhifdjbnkfaaGreat.DM
open Go.Proofs.YtdijhifdjbnkfaaGreat.EM (lessL less_bytes)
set_option maxRecDepth 100000 in
set_option maxHeartbeats 1000000 in
theorem prefix_any (p:Option Addr) (l:List Ent) (u:List UInt8) (w:World) (hp:DictP (fun _=>True) w p l) (hl:areD l=true):Calls Tryz.prog 115 #[.pointer p,.string ⟨u.toArray⟩] w (EntsLeft (prefD l u) w):=by
 obtain ⟨hw,hr,hn⟩:=good_all hl
 obtain ⟨R,hR⟩:∃ R,w.heap.size=R:=⟨_,rfl⟩
 obtain ⟨wa,hwa⟩:∃ W,w.alloc (.cells #[.string ⟨u.toArray⟩] 9)=W:=⟨_,rfl⟩
 have hba:Below w.heap.size w wa:=by rw [← hwa];exact (Below.refl _ _).alloc (Nat.le_refl _) _
 have x2:wa.cell? ⟨R,0,none⟩=some (.string ⟨u.toArray⟩):=by rw [← hwa,← hR,cell_of_row _ _ 0 _ _ _ (heap_alloc_new w _)];rfl
 have hsa:wa.heap.size=R+1:=by rw [← hwa,← hR];simp
 have hpa:=hp.below hba
 have HF:=Lib.hid (floor_any p l u wa hpa hl)
 have HC:=Lib.hid (fun W (hW:Below wa.heap.size wa W)=>count_any p l 176 _ _ W (hpa.below hW) ((pc_tells R u wa x2).below hW) hw hn)
 have HBT:=Lib.hid (fun a b W (hW:Below wa.heap.size wa W) (hb:b≤l.length) (ha:a≤l.length)=>between_any p l a b W (hpa.below hW) hl hb ha)
 have HBA:=Lib.hid hba
 have HWA:=Lib.hid hwa
 obtain ⟨RES,hRES⟩:∃ r,prefD l u=r:=⟨_,rfl⟩
 obtain ⟨c,hc⟩:∃ c,floorD l u=c:=⟨_,rfl⟩
 rw [hRES]
 rw [hc] at HF
 have HRES:=Lib.hid hRES
 clear hba hwa x2 hp hpa hc hRES
 go_enter Tryz.func115,Tryz.ntmps115
 go_wp2_with fail
 rw [HWA.out]
 refine HF.out.mono ?_
 rintro e w1 ⟨rfl,hT1,hb1⟩
 have HC1:=Lib.hid (HC.out w1 hb1)
 have HT1:=Lib.hid hT1
 have HB1:=Lib.hid hb1
 clear hT1 hb1 HC HF
 go_wp2_with fail
 refine HC1.out.mono ?_
 rintro e w2 ⟨d,rfl,hT2,hb2⟩
 have hb12:=HB1.out.trans (hb2.mono HB1.out.size)
 have HBT1:=Lib.hid (HBT.out c d w2 hb12 hT2.1 HT1.out.1)
 have HB2:=Lib.hid hb12
 have HP:=Lib.hid (pref_turns hr HT1.out hT2)
 clear hT2 hb2 hb12 HBT HC1 HB1
 go_wp2_with fail
 refine HBT1.out.mono ?_
 rintro e w3 ⟨v3,rfl,ho3,hb3⟩
 have hs2:=HB2.out.size
 have HO3:=Lib.hid (ownx_base ho3 (B':=w.heap.size) (by omega))
 have HB3:=Lib.hid ((HBA.out.trans (HB2.out.mono HBA.out.size)).trans (hb3.mono (by omega)))
 rw [← HP.out,HRES.out] at HO3
 clear ho3 hb3 HBT1
 go_wp2_with fail
 go_ret
 exact ⟨_,rfl,HO3.out,HB3.out⟩
end Go.Proofs.YtdijhifdjbnkfaaGreat.DT
set_option linter.unusedVariables false
namespace Go.Proofs.YtdijhifdjbnkfaaGreat.SG
open Go Go.RowKit Go.Proofs.YtdijhifdjbnkfaaGreat.MM
open Go.Proofs.YtdijhifdjbnkfaaGreat.EM (Tr)
open Go.Proofs.YtdijhifdjbnkfaaGreat.DM (Ent areD areD_all)
open Go.Proofs.YtdijhifdjbnkfaaGreat.DT (DictP prefD entC ent_at)
open Go.Proofs.YtdijhifdjbnkfaaGreat.PM (Post)
open Go.Proofs.YtdijhifdjbnkfaaGreat.GM (entsG prefixG ents_prefix)
set_option maxRecDepth 100000 in
set_option maxHeartbeats 2000000 in
theorem begun_any (tp:Option Addr) (rv fp:Value) (hrv:rv.oneCell'=true) (hfp:fp.oneCell'=true) (rows:List (Tr Post)) (u:List UInt8) (w:World) (hd:DictP (fun _=>True) w tp (entsG 0 rows)) (hA:areD (entsG 0 rows)=true) :
  Calls Tryz.prog 64 #[.agg #[.pointer tp,rv,fp],.string ⟨u.toArray⟩] w fun e w'=>(∃ v,e=.returned v∧TRow w' v (prefixG rows u))∧Below w.heap.size w w':=by
 obtain ⟨q,hq⟩:∃ q,w.heap.size=q:=⟨_,rfl⟩
 obtain ⟨wa,hwa⟩:∃ wa,w.alloc (.cells #[.pointer tp,rv,fp] 84)=wa:=⟨_,rfl⟩
 have hba:Below w.heap.size w wa:=by rw [← hwa];exact (Below.refl _ _).alloc (Nat.le_refl _) _
 have T0:Hid (Three wa q 84 (.pointer tp) rv fp):=Lib.hid (by rw [← hwa,← hq];exact three_new w 84 _ _ _)
 obtain ⟨x0,x1,x2⟩:=T0.out.cells
 have HP:=Lib.hid (DT.prefix_any tp (entsG 0 rows) u wa (hd.below hba) hA)
 have hres:=ents_prefix rows u 0
 have hle:(prefD (entsG 0 rows) u).length≤262144:=Nat.le_trans (List.length_filter_le _ _) (areD_all hA).1
 obtain ⟨L,hL⟩:∃ L,prefD (entsG 0 rows) u=L:=⟨_,rfl⟩
 rw [hL] at HP hres hle
 obtain ⟨M,hM⟩:∃ M:List (List UInt8),L.map (·.1)=M:=⟨_,rfl⟩
 have hml:M.length=L.length:=by rw [← hM,List.length_map]
 have HMN:=Lib.hid (fun (k:Nat) (hk:k<L.length)=>(show M.take (k+1)=M.take k++[L[k].1] by subst hM;rw [List.take_succ_eq_append_getElem (by simpa using hk),List.getElem_map]))
 have HML:=Lib.hid hml
 rw [hM] at hres
 clear hM hml
 have HRES:=Lib.hid hres
 have HBA:=Lib.hid hba
 have HWA:=Lib.hid hwa
 clear hd hba hwa hL hA hres
 go_enter Tryz.func64,Tryz.ntmps64
 go_wp2_with fail
 rw [HWA.out]
 go_wp2_with fail
 refine HP.out.mono ?_
 rintro e w2 ⟨v2,rfl,ho2,hb2⟩
 obtain ⟨pe,ce,rfl,hce,hcm,_⟩:=ho2.any.shape
 unfold maxLen at hcm
 have HE:=Lib.hid ho2.any.bel
 have HB2:=Lib.hid (HBA.out.trans (hb2.mono HBA.out.size))
 have H0:Hid (OwnT w2.heap.size w2 (.slice none 0 0) (M.take 0)):=Lib.hid (OwnT.nil_ _ _)
 clear ho2 hb2 HP x0 x1 x2 T0 HWA
 go_wp2_with fail
 go_loopw [5,13] (fun sv iv wr=>∃ k:Nat,k≤L.length∧iv=.int .i64 k∧Hid (OwnT w2.heap.size wr sv (M.take k))∧Hid (Below w2.heap.size w2 wr)) (fun _ iv _=>L.length - (intOf iv).toNat)
 case atStart=>exact ⟨0,by omega,rfl,H0,Lib.hid (Below.refl _ _)⟩
 case round =>
  obtain ⟨k,hk,rfl,HO,HB⟩:=hrel
  clear H0
  by_cases hlt:k<L.length
  ·have t1:decide ((k:Int)<(L.length:Int))=true:=by simp;omega
   have t2:decide (k<L.length)=true:=decide_eq_true hlt
   have t3:(k:Int)<(L.length:Int):=by omega
   obtain ⟨b,off,rfl,hbl,_,c0,c1,c2,c3⟩:=ent_at (HE.out.below HB.out) hlt
   have hnx:=HMN.out k hlt
   have hlk:(M.take k).length=k:=by rw [List.length_take,HML.out];omega
   obtain ⟨⟨s,z0,z1,z2⟩,hx⟩:∃ x,L[k]=x:=⟨_,rfl⟩
   rw [hx] at c0 c1 c2 c3 hnx
   dsimp only at c0 c1 c2 c3 hnx
   have ho:=HO.out
   obtain ⟨pu,cu,hv,_⟩:=OwnT.shape ho
   rw [hlk] at hv
   subst hv
   have hb1:Below wr.heap.size wr (wr.alloc (.cells #[.string ⟨s.toArray⟩,.int .i64 z0,.int .i64 z1,.int .i64 z2] 102)):=(Below.refl _ _).alloc (Nat.le_refl _) _
   have HO1:=Lib.hid (ho.keep hb1)
   have HB1:=Lib.hid (HB.out.trans (hb1.mono HB.out.size))
   have HS1:Hid (w2.heap.size≤(wr.alloc (.cells #[.string ⟨s.toArray⟩,.int .i64 z0,.int .i64 z1,.int .i64 z2] 102)).heap.size):=Lib.hid HB1.out.size
   have HN:=Lib.hid hnx
   clear hx hb1 HO hnx ho
   go_wp2_with (at_builtin;go_loud (refine wpList_append_str rfl _ _ rfl w2.heap.size _ (M.take k) (wr.alloc (.cells #[.string ⟨s.toArray⟩,.int .i64 z0,.int .i64 z1,.int .i64 z2] 102)) s rfl rfl HO1.out (by rw [World.size_alloc];rfl) (by omega) HS1.out ?_))
   intro v4 w4 hown4 hb4
   rw [← HN.out] at hown4
   have HO4:=Lib.hid hown4
   have HB4:=Lib.hid (HB1.out.trans hb4)
   clear hown4 hb4
   go_wp2_with fail
   go_roundw
   case rel=>exact ⟨k+1,by omega,by go_num,HO4,HB4⟩
   case measure=>simp [intOf];omega
  ·obtain rfl:k=L.length:=by omega
   have t1:decide ((L.length:Int)<(L.length:Int))=false:=by simp
   have ho:=HO.out
   rw [← HML.out,List.take_length,HRES.out] at ho
   have HO2:=Lib.hid (OwnT.trow ho)
   have HB9:=Lib.hid (HB2.out.trans (HB.out.mono HB2.out.size))
   clear HO ho HB2 HB
   go_wp2_with fail
   go_ret
   exact ⟨⟨_,rfl,HO2.out⟩,HB9.out⟩
end Go.Proofs.YtdijhifdjbnkfaaGreat.SG
