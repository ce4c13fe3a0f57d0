import Derived.Test.YtdfibahafilklaaGreatDoorZC9
set_option maxRecDepth 100000
set_option maxHeartbeats 8000000
set_option linter.unusedVariables false
set_option linter.unusedSimpArgs false
namespace Go.Proofs.YtdfibahafilklaaGreatDoor.WM
open Go VM
open EM (Ev Bat checkB checkB_ok encB decB decB_put decB_back FitE bytesE bytesE_len sizeE sizeF sizeB bytesB checkE_ok checkE)
open FM (frameL frameL_bounds framesL framesL_nil framesL_cons framesL_append framesL_take frameL_ne frameL_inj getR getR_put getR_back getR_err getR_torn)
def digW (n i:Nat):UInt8:=UInt8.ofNat (48+n / 10^(7 - i)%10)
def nameW (n:Nat):List UInt8:=[108,111,103,45,digW n 0,digW n 1,digW n 2,digW n 3,digW n 4,digW n 5,digW n 6,digW n 7]
def digitW (c:UInt8):Bool:=decide (48≤c.toNat)&&decide (c.toNat≤57)
def valW (l:List UInt8):Nat:=l.foldl (fun n c=>10*n+(c.toNat - 48)) 0
def numberW (s:List UInt8):Option Nat:=if s.length=12∧s.take 4=[108,111,103,45]∧(s.drop 4).all digitW=true then some (valW (s.drop 4)) else none
theorem digW_nat (n i:Nat):(digW n i).toNat=48+n / 10^(7 - i)%10:=by
 unfold digW
 rw [UInt8.toNat_ofNat']
 have:=Nat.mod_lt (n / 10^(7 - i)) (show 0<10 by decide)
 omega
theorem digitW_dig (n i:Nat):digitW (digW n i)=true:=by
 unfold digitW
 rw [digW_nat,Bool.and_eq_true,decide_eq_true_eq,decide_eq_true_eq]
 have:=Nat.mod_lt (n / 10^(7 - i)) (show 0<10 by decide)
 omega
theorem numberW_name {n:Nat} (h:n≤99999999):numberW (nameW n)=some n:=by
 unfold numberW nameW
 rw [if_pos]
 ·congr 1
  simp only [List.drop_succ_cons,List.drop_zero,valW,List.foldl_cons,List.foldl_nil,digW_nat]
  omega
 ·refine ⟨rfl,rfl,?_⟩
  simp only [List.drop_succ_cons,List.drop_zero,List.all_cons,List.all_nil,digitW_dig,Bool.and_self]
inductive Scans:Option Int→List UInt8→List Bat→Nat→Int→Prop
 | none_ {p:Option Int}:Scans p [] [] 0 0
 | stop {p:Option Int} {l:List UInt8} {e:Int}:l≠[]→getR l=([],0,e)→e≠0→Scans p l [] 0 e
 | odd {p:Option Int} {x r:List UInt8}:x.length≤16777216→(∀ b,decB x=some b→∃ n,p=some n∧b.1≠n)→Scans p (frameL x++r) [] 0 150
 | more {p:Option Int} {x r:List UInt8} {b:Bat} {bs:List Bat} {k:Nat} {e:Int}:x.length≤16777216→decB x=some b→(∀ n,p=some n→b.1=n)→Scans (some (b.1+(b.2.length:Int))) r bs k e →
   Scans p (frameL x++r) (b::bs) ((frameL x).length+k) e
theorem scans_ex:∀ (n:Nat) (p:Option Int) (l:List UInt8),l.length≤n→∃ bs k e,Scans p l bs k e
 | n,p,[],_=>⟨[],0,0,.none_⟩
 | 0,p,_::_,h=>by simp at h
 | n+1,p,c::l,h=>by
   rcases getR_err (c::l) with ⟨x,k,hg⟩ | hg | hg
   ·obtain ⟨hx,hk,hb⟩:=getR_back hg
    have hf:=(frameL_bounds x).1
    by_cases ho:∀ b,decB x=some b→∃ n,p=some n∧b.1≠n
    ·refine ⟨[],0,150,?_⟩
     rw [← hb]
     exact .odd hx ho
    ·obtain ⟨b,hd,hn⟩:∃ b,decB x=some b∧¬ ∃ n,p=some n∧b.1≠n:=Classical.byContradiction fun hc=>ho fun b hd=>Classical.byContradiction fun hn=>hc ⟨b,hd,hn⟩
     obtain ⟨bs,m,e,hs⟩:=scans_ex n (some (b.1+(b.2.length:Int))) ((c::l).drop k) (by rw [List.length_drop];omega)
     refine ⟨b::bs,(frameL x).length+m,e,?_⟩
     have:=Scans.more (p:=p) hx hd (fun n hp=>Classical.byContradiction fun hne=>hn ⟨n,hp,hne⟩) hs
     rw [hb] at this
     exact this
   ·exact ⟨[],0,41,.stop (by simp) hg (by omega)⟩
   ·exact ⟨[],0,40,.stop (by simp) hg (by omega)⟩
theorem Scans.unique {p:Option Int} {l:List UInt8} {bs:List Bat} {k:Nat} {e:Int} (h:Scans p l bs k e):∀ {cs:List Bat} {m:Nat} {f:Int},Scans p l cs m f→bs=cs∧k=m∧e=f:=by
 induction h with
 | none_ =>
   intro cs m f h2
   generalize hl:([]:List UInt8)=l at h2
   cases h2 with
   | none_=>exact ⟨rfl,rfl,rfl⟩
   | stop h _ _=>exact absurd hl.symm h
   | odd _ _=>exact absurd hl.symm frameL_ne
   | more _ _ _ _=>exact absurd hl.symm frameL_ne
 | stop hne hg he =>
   rename_i p0 l0 e0
   intro cs m f h2
   generalize hl:l0=l at h2
   cases h2 with
   | none_=>exact absurd hl hne
   | stop _ hg2 _ =>
     subst hl
     rw [hg] at hg2
     simp only [Prod.mk.injEq,true_and] at hg2
     exact ⟨rfl,rfl,hg2⟩
   | odd hx _ =>
     subst hl
     rw [getR_put hx] at hg
     simp only [Prod.mk.injEq] at hg
     exact absurd hg.2.2.symm he
   | more hx _ _ _ =>
     subst hl
     rw [getR_put hx] at hg
     simp only [Prod.mk.injEq] at hg
     exact absurd hg.2.2.symm he
 | odd hx ho =>
   rename_i p0 x0 r0
   intro cs m f h2
   generalize hl:frameL x0++r0=l at h2
   cases h2 with
   | none_=>exact absurd hl frameL_ne
   | stop _ hg he =>
     subst hl
     rw [getR_put hx] at hg
     simp only [Prod.mk.injEq] at hg
     exact absurd hg.2.2.symm he
   | odd _ _=>exact ⟨rfl,rfl,rfl⟩
   | more hy hd hn _ =>
     obtain ⟨rfl,rfl⟩:=frameL_inj hx hy hl
     obtain ⟨n,hp,hne⟩:=ho _ hd
     exact absurd (hn n hp) hne
 | more hx hd hn hs ih =>
   rename_i p0 x0 r0 b0 bs0 k0 e0
   intro cs m f h2
   generalize hl:frameL x0++r0=l at h2
   cases h2 with
   | none_=>exact absurd hl frameL_ne
   | stop _ hg he =>
     subst hl
     rw [getR_put hx] at hg
     simp only [Prod.mk.injEq] at hg
     exact absurd hg.2.2.symm he
   | odd hy ho =>
     obtain ⟨rfl,rfl⟩:=frameL_inj hx hy hl
     obtain ⟨n,hp,hne⟩:=ho _ hd
     exact absurd (hn n hp) hne
   | more hy hd2 _ hs2 =>
     obtain ⟨rfl,rfl⟩:=frameL_inj hx hy hl
     rw [hd] at hd2
     obtain rfl:=Option.some.inj hd2
     obtain ⟨rfl,rfl,rfl⟩:=ih hs2
     exact ⟨rfl,rfl,rfl⟩
theorem Scans.part {p:Option Int} {l:List UInt8} {bs:List Bat} {k:Nat} {e:Int} (h:Scans p l bs k e):k≤l.length∧Scans p (l.take k) bs k 0:=by
 induction h with
 | none_=>exact ⟨Nat.le_refl _,.none_⟩
 | stop _ _ _=>exact ⟨Nat.zero_le _,.none_⟩
 | odd _ _=>exact ⟨Nat.zero_le _,.none_⟩
 | more hx hd hn _ ih =>
   refine ⟨by rw [List.length_append];omega,?_⟩
   rw [List.take_append,List.take_of_length_le (by omega),Nat.add_sub_cancel_left]
   exact .more hx hd hn ih.2
def OkB (b:Bat):Prop:=checkB b=0∧∀ e∈b.2,FitE e
def ChainW:Int→List Bat→Prop
 | _,[]=>True
 | s,b::r=>b.1=s∧OkB b∧ChainW (s+(b.2.length:Int)) r
def nextW:Int→List Bat→Int
 | s,[]=>s
 | s,b::r=>nextW (s+(b.2.length:Int)) r
theorem nextW_append:∀ (a b:List Bat) (s:Int),nextW s (a++b)=nextW (nextW s a) b
 | [],b,s=>rfl
 | x::a,b,s=>by rw [List.cons_append,nextW,nextW,nextW_append a b]
theorem chainW_append:∀ {a b:List Bat} {s:Int},ChainW s (a++b)↔ChainW s a∧ChainW (nextW s a) b
 | [],b,s=>by simp [ChainW,nextW]
 | x::a,b,s=>by rw [List.cons_append,ChainW,ChainW,nextW,chainW_append,and_assoc,and_assoc]
theorem bytesB_len:∀ {es:List Ev},(∀ e∈es,checkE e=0)→(bytesB es).length≤340*es.length+sizeB es
 | [],_=>by simp [bytesB,sizeB]
 | e::es,h=>by
   have h1:=(bytesE_len e).1
   have h2:=(checkE_ok.1 (h e (by simp))).1
   have h3:=bytesB_len (es:=es) fun g hg=>h g (by simp [hg])
   have e1:bytesB (e::es)=bytesE e++bytesB es:=by simp [bytesB]
   have e2:sizeB (e::es)=16+sizeF e.2+sizeB es:=by simp [sizeB,sizeE]
   rw [e1,e2,List.length_append,List.length_cons]
   omega
theorem encB_len {b:Bat} (h:checkB b=0):(encB b).length≤16777216:=by
 obtain ⟨h1,h2,h3,h4,h5,h6⟩:=checkB_ok h
 have b1:=bytesL_length b.1.toNat
 have b2:=bytesL_length b.2.length
 have b3:=bytesB_len h3
 unfold encB
 rw [List.length_append,List.length_append]
 omega
def fileB (bs:List Bat):List UInt8:=framesL (bs.map encB)
theorem fileB_nil:fileB []=[]:=rfl
theorem fileB_cons (b:Bat) (bs:List Bat):fileB (b::bs)=frameL (encB b)++fileB bs:=by unfold fileB;rw [List.map_cons,framesL_cons]
theorem scans_take:∀ {bs:List Bat} {s:Int} {p:Option Int} {k:Nat},ChainW s bs→(∀ n,p=some n→n=s)→k≤(fileB bs).length →
  ∃ j m e,j≤bs.length∧Scans p ((fileB bs).take k) (bs.take j) m e∧m=(fileB (bs.take j)).length∧∀ i,i≤bs.length→(fileB (bs.take i)).length≤k→i≤j
 | [],s,p,k,_,_,hk=>⟨0,0,0,Nat.le_refl _,by rw [fileB_nil,List.take_nil,List.take_nil];exact .none_,rfl,fun i hi _=>hi⟩
 | b::bs,s,p,k,h,hp,hk=>by
   rw [ChainW] at h
   obtain ⟨h1,h2,h3⟩:=h
   have hx:=encB_len h2.1
   by_cases hlt:k<(frameL (encB b)).length
   ·have e1:(fileB (b::bs)).take k=(frameL (encB b)).take k:=by rw [fileB_cons,List.take_append_of_le_length (by omega)]
    by_cases h0:k=0
    ·subst h0
     refine ⟨0,0,0,Nat.zero_le _,by rw [List.take_zero,List.take_zero];exact .none_,rfl,fun i hi hl => ?_⟩
     cases i with
     | zero=>exact Nat.le_refl _
     | succ i =>
       rw [List.take_succ_cons,fileB_cons,List.length_append] at hl
       have:=(frameL_bounds (encB b)).1
       omega
    ·refine ⟨0,0,41,Nat.zero_le _,?_,rfl,fun i hi hl => ?_⟩
     ·rw [e1,List.take_zero]
      refine .stop (fun hn => ?_) (getR_torn hx hlt) (by omega)
      have:=congrArg List.length hn
      rw [List.length_take,List.length_nil] at this
      omega
     ·cases i with
      | zero=>exact Nat.le_refl _
      | succ i =>
        rw [List.take_succ_cons,fileB_cons,List.length_append] at hl
        omega
   ·have hk2:k - (frameL (encB b)).length≤(fileB bs).length:=by
     rw [fileB_cons,List.length_append] at hk
     omega
    obtain ⟨j,m,e,hj,hs,hm,hi⟩:=scans_take (p:=some (b.1+(b.2.length:Int))) h3 (fun n hn=>by rw [← Option.some.inj hn,h1]) hk2
    refine ⟨j+1,(frameL (encB b)).length+m,e,by rw [List.length_cons];omega,?_,?_,fun i hil hl => ?_⟩
    ·rw [fileB_cons,List.take_append,List.take_of_length_le (by omega),List.take_succ_cons]
     exact .more hx (decB_put h2.2 h2.1) (fun n hn=>by rw [hp n hn,h1]) hs
    ·rw [List.take_succ_cons,fileB_cons,List.length_append,hm]
    ·cases i with
     | zero=>omega
     | succ i =>
       rw [List.take_succ_cons,fileB_cons,List.length_append] at hl
       have:=hi i (by simpa using hil) (by omega)
       omega
theorem scans_all {bs:List Bat} {s:Int} (h:ChainW s bs):Scans none (fileB bs) bs (fileB bs).length 0:=by
 obtain ⟨j,m,e,hj,hs,hm,hi⟩:=scans_take (p:=none) h (fun n hn=>by cases hn) (Nat.le_refl _)
 have hjl:j=bs.length:=by
  have:=hi bs.length (Nat.le_refl _) (by rw [List.take_length];exact Nat.le_refl _)
  omega
 subst hjl
 rw [List.take_length] at hs hm
 rw [List.take_length] at hs
 have h2:=hs.part
 subst hm
 rw [List.take_length] at h2
 exact h2.2
def chainT:Int→List Bat→List Bat
 | _,[]=>[]
 | n,b::r=>if b.1=n then b::chainT (n+(b.2.length:Int)) r else []
theorem chainT_chain:∀ {bs:List Bat} {s:Int},ChainW s bs→chainT s bs=bs
 | [],_,_=>rfl
 | b::bs,s,h=>by
   rw [ChainW] at h
   rw [chainT,if_pos h.1,chainT_chain h.2.2]
theorem chainT_all:∀ {a:List Bat} (b:List Bat) {s:Int},chainT s a=a→chainT s (a++b)=a++chainT (nextW s a) b
 | [],b,s,_=>rfl
 | x::a,b,s,h=>by
   rw [chainT] at h
   split at h
   ·rename_i e
    rw [List.cons_append,chainT,if_pos e,nextW,chainT_all b (List.cons.inj h).2,List.cons_append]
   ·cases h
theorem chainT_cut:∀ {a:List Bat} (b:List Bat) {s:Int},chainT s a≠a→chainT s (a++b)=chainT s a
 | [],b,s,h=>absurd rfl h
 | x::a,b,s,h=>by
   rw [List.cons_append,chainT,chainT]
   rw [chainT] at h
   by_cases e:x.1=s
   ·rw [if_pos e] at h ⊢
    rw [if_pos e,chainT_cut b fun h2=>h (by rw [h2])]
   ·rw [if_neg e,if_neg e]
theorem replay_part {whole last:List Bat} {s:Int} (h:ChainW s (whole++last)) (j:Nat):chainT s (whole++last.take j)=(whole++last).take (whole.length+j):=by
 have h1:=chainW_append.1 h
 have h2:ChainW (nextW s whole) (last.take j):=by
  have:=h1.2
  rw [← List.take_append_drop j last] at this
  exact (chainW_append.1 this).1
 have e:(whole++last).take (whole.length+j)=whole++last.take j:=by
  rw [List.take_append,List.take_of_length_le (l:=whole) (by omega),Nat.add_sub_cancel_left]
 rw [chainT_chain (chainW_append.2 ⟨h1.1,h2⟩),e]
end Go.Proofs.YtdfibahafilklaaGreatDoor.WM
