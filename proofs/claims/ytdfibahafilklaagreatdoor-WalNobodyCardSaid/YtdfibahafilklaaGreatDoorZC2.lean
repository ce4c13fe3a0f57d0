import Derived.Test.YtdfibahafilklaaGreatDoorZC1
set_option maxRecDepth 100000
set_option maxHeartbeats 8000000
set_option linter.unusedVariables false
set_option linter.unusedSimpArgs false
namespace Go.Proofs.YtdfibahafilklaaGreatDoor.CM
def step (s:Nat):Nat:=if s%2=1 then s / 2 ^^^ 3988292384 else s / 2
def steps:Nat→Nat→Nat
 | 0,s=>s
 | k+1,s=>steps k (step s)
def onB (s b:Nat):Nat:=steps 8 (s ^^^ b)
def run (s:Nat) (l:List UInt8):Nat:=l.foldl (fun s b=>onB s b.toNat) s
def notB (s:Nat):Nat:=4294967295 - s
def nextL (s:Nat) (l:List UInt8):Nat:=notB (run (notB s) l)
def sumL (l:List UInt8):Nat:=nextL 0 l
theorem xor_half (a b:Nat):(a ^^^ b) / 2=a / 2 ^^^ b / 2:=by
 have h:=Nat.shiftRight_xor_distrib (a:=a) (b:=b) (i:=1)
 rw [Nat.shiftRight_eq_div_pow,Nat.shiftRight_eq_div_pow,Nat.shiftRight_eq_div_pow] at h
 exact h
theorem xor_odd (a b:Nat):(a ^^^ b)%2=(a%2+b%2)%2:=by
 have h:=Nat.xor_mod_two_pow (a:=a) (b:=b) (n:=1)
 have ha:a%2=0∨a%2=1:=by omega
 have hb:b%2=0∨b%2=1:=by omega
 rw [show (2:Nat)^1=2 from rfl] at h
 rw [h]
 rcases ha with ha | ha<;>rcases hb with hb | hb<;>rw [ha,hb]<;>rfl
theorem xor4 (a b p:Nat):(a ^^^ p) ^^^ (b ^^^ p)=a ^^^ b:=by
 rw [Nat.xor_assoc,Nat.xor_comm b p,← Nat.xor_assoc p,Nat.xor_self,Nat.zero_xor]
theorem step_xor (a b:Nat):step (a ^^^ b)=step a ^^^ step b:=by
 unfold step
 rw [xor_odd,xor_half]
 by_cases ha:a%2=1<;>by_cases hb:b%2=1
 ·rw [if_pos ha,if_pos hb,if_neg (by omega),xor4]
 ·rw [if_pos ha,if_neg hb,if_pos (by omega),Nat.xor_assoc,Nat.xor_assoc,Nat.xor_comm 3988292384]
 ·rw [if_neg ha,if_pos hb,if_pos (by omega),Nat.xor_assoc]
 ·rw [if_neg ha,if_neg hb,if_neg (by omega)]
theorem step_lt {a:Nat} (h:a<4294967296):step a<4294967296:=by
 unfold step
 split
 ·exact Nat.xor_lt_two_pow (n:=32) (by omega) (by omega)
 ·omega
theorem step_even (x:Nat):step (2*x)=x:=by
 unfold step
 rw [if_neg (by omega)]
 omega
theorem steps_xor:∀ (k a b:Nat),steps k (a ^^^ b)=steps k a ^^^ steps k b
 | 0,_,_=>rfl
 | k+1,a,b=>by rw [steps,steps,steps,step_xor,steps_xor k]
theorem steps_lt:∀ (k:Nat) {a:Nat},a<4294967296→steps k a<4294967296
 | 0,_,h=>h
 | k+1,_,h=>steps_lt k (step_lt h)
theorem steps_none:∀ k,steps k 0=0
 | 0=>rfl
 | k+1=>by rw [steps,show step 0=0 from by decide,steps_none k]
theorem steps_byte (x:Nat):steps 8 (256*x)=x:=by
 have e:256*x=2*(2*(2*(2*(2*(2*(2*(2*x))))))):=by omega
 rw [e]
 simp only [steps,step_even]
theorem onB_lt {s b:Nat} (hs:s<4294967296) (hb:b<256):onB s b<4294967296:=steps_lt 8 (Nat.xor_lt_two_pow (n:=32) hs (by omega))
theorem run_cons (s:Nat) (b:UInt8) (l:List UInt8):run s (b::l)=run (onB s b.toNat) l:=rfl
theorem notB_lt (s:Nat):notB s<4294967296:=by unfold notB;omega
theorem nextL_lt (s:Nat) (l:List UInt8):nextL s l<4294967296:=notB_lt _
end Go.Proofs.YtdfibahafilklaaGreatDoor.CM
namespace Go.Proofs.YtdfibahafilklaaGreatDoor.DK
structure FileD where
 name:List UInt8
 b:List UInt8
 sure:Nat
structure DiskD where
 L:List FileD
 quota:Int
 armed:Int
 stopped:Bool
def charOk (c:UInt8):Bool:=(97≤c&&c≤122)||(48≤c&&c≤57)||c == 45||c == 46
def namedL (s:List UInt8):Bool:=decide (1≤s.length)&&decide (s.length≤64)&&s.all charOk
def lessL:List UInt8→List UInt8→Bool
 | [],[]=>false
 | [],_::_=>true
 | _::_,[]=>false
 | a::s,b::t=>if a=b then lessL s t else decide (a<b)
theorem lessL_irr:∀ s:List UInt8,lessL s s=false
 | []=>rfl
 | a::s=>by simp [lessL,lessL_irr s]
theorem lessL_total:∀ s t:List UInt8,s≠t→lessL s t=false→lessL t s=true
 | [],[],h,_=>absurd rfl h
 | [],_::_,_,h=>by simp [lessL] at h
 | _::_,[],_,_=>rfl
 | a::s,b::t,h,hl=>by
   unfold lessL at hl ⊢
   by_cases e:a=b
   ·subst e
    rw [if_pos rfl] at hl ⊢
    exact lessL_total s t (fun k=>h (by rw [k])) hl
   ·rw [if_neg e] at hl
    rw [if_neg (fun k=>e k.symm)]
    have h1:¬ a<b:=of_decide_eq_false hl
    have h2:a.toNat≠b.toNat:=fun k=>e (UInt8.toNat_inj.1 k)
    rw [UInt8.lt_iff_toNat_lt] at h1
    rw [decide_eq_true_eq,UInt8.lt_iff_toNat_lt]
    omega
theorem lessL_trans:∀ s t u:List UInt8,lessL s t=true→lessL t u=true→lessL s u=true
 | [],[],_,h,_=>by simp [lessL] at h
 | [],_::_,[],_,h=>by simp [lessL] at h
 | [],_::_,_::_,_,_=>rfl
 | _::_,[],_,h,_=>by simp [lessL] at h
 | _::_,_::_,[],_,h=>by simp [lessL] at h
 | a::s,b::t,c::u,h1,h2=>by
   unfold lessL at h1 h2 ⊢
   by_cases e1:a=b
   ·subst e1
    rw [if_pos rfl] at h1
    by_cases e2:a=c
    ·subst e2
     rw [if_pos rfl] at h2 ⊢
     exact lessL_trans s t u h1 h2
    ·rw [if_neg e2] at h2 ⊢
     exact h2
   ·rw [if_neg e1] at h1
    by_cases e2:b=c
    ·subst e2
     rw [if_neg e1]
     exact h1
    ·rw [if_neg e2] at h2
     have k1:a<b:=of_decide_eq_true h1
     have k2:b<c:=of_decide_eq_true h2
     rw [UInt8.lt_iff_toNat_lt] at k1 k2
     have e3:a≠c:=fun k=>by
      subst k
      omega
     rw [if_neg e3,decide_eq_true_eq,UInt8.lt_iff_toNat_lt]
     omega
def findL (l:List FileD) (n:List UInt8):Option FileD:=l.find? (fun f=>decide (f.name=n))
def usedL (l:List FileD):Nat:=(l.map (·.b.length)).sum
def withoutL (l:List FileD) (n:List UInt8):List FileD:=l.filter (fun f=>decide (f.name≠n))
def insL (f:FileD):List FileD→List FileD
 | []=>[f]
 | g::l=>if lessL f.name g.name then f::g::l else g::insL f l
def withL (l:List FileD) (f:FileD):List FileD:=insL f (withoutL l f.name)
def Rise:List FileD→Prop
 | []=>True
 | f::l=>(∀ g∈l,lessL f.name g.name=true)∧Rise l
theorem mem_insL {f g:FileD}:∀ {l:List FileD},g∈insL f l↔g=f∨g∈l
 | []=>by simp [insL]
 | x::l=>by
   unfold insL
   split
   ·simp
   ·simp only [List.mem_cons,mem_insL (l:=l)]
    constructor
    ·rintro (h | h | h)<;>simp [h]
    ·rintro (h | h | h)<;>simp [h]
theorem rise_ins {f:FileD}:∀ {l:List FileD},Rise l→(∀ g∈l,g.name≠f.name)→Rise (insL f l)
 | [],_,_=>⟨by simp,trivial⟩
 | x::l,h,hn=>by
   unfold insL
   split
   ·rename_i hl
    refine ⟨fun g hg => ?_,h⟩
    rcases List.mem_cons.1 hg with rfl | hg
    ·exact hl
    ·exact lessL_trans _ _ _ hl (h.1 g hg)
   ·rename_i hl
    refine ⟨fun g hg => ?_,rise_ins h.2 fun g hg=>hn g (List.mem_cons_of_mem _ hg)⟩
    rcases mem_insL.1 hg with rfl | hg
    ·exact lessL_total _ _ (fun k=>hn x (List.mem_cons_self ..) k.symm) (by simpa using hl)
    ·exact h.1 g hg
theorem rise_without {n:List UInt8}:∀ {l:List FileD},Rise l→Rise (withoutL l n)
 | [],_=>trivial
 | x::l,h=>by
   unfold withoutL
   rw [List.filter_cons]
   split
   ·exact ⟨fun g hg=>h.1 g (List.mem_filter.1 hg).1,rise_without h.2⟩
   ·exact rise_without h.2
theorem rise_with {l:List FileD} {f:FileD} (h:Rise l):Rise (withL l f) :=
 rise_ins (rise_without h) fun g hg=>by
  have:=(List.mem_filter.1 hg).2
  simpa using this
theorem find_mem {l:List FileD} {n:List UInt8} {f:FileD} (h:findL l n=some f):f∈l∧f.name=n:=by
 unfold findL at h
 exact ⟨List.mem_of_find?_eq_some h,by simpa using List.find?_some h⟩
theorem without_none {l:List FileD} {n:List UInt8} (h:∀ f∈l,f.name≠n):withoutL l n=l:=by
 unfold withoutL
 rw [List.filter_eq_self]
 simpa using h
def callD (d:DiskD):DiskD×Bool :=
 if d.armed=0 then (d,false) else ({ d with armed:=d.armed - 1,stopped:=d.stopped||decide (d.armed - 1=0) },d.stopped||decide (d.armed - 1=0))
def appendD (d:DiskD) (n b:List UInt8):DiskD×Int :=
 if ¬ namedL n=true then (d,60) else if d.stopped=true then (d,63)
 else if findL d.L n=none∧1024≤d.L.length then (d,3)
 else if 67108864<(((findL d.L n).map (·.b)).getD []).length+b.length then (d,2)
 else if 0<d.quota∧b≠[]∧d.quota<(usedL d.L:Int)+b.length then (d,62)
 else if (callD d).2=true then ((callD d).1,63)
 else ({ (callD d).1 with L:=withL (callD d).1.L ⟨n,((findL d.L n).map (·.b)).getD []++b,((findL d.L n).map (·.sure)).getD 0⟩ },0)
structure Good (d:DiskD):Prop where
 rise:Rise d.L
 sure:∀ f∈d.L,f.sure≤f.b.length
theorem call_L (d:DiskD):(callD d).1.L=d.L∧(callD d).1.quota=d.quota:=by
 unfold callD
 split<;>exact ⟨rfl,rfl⟩
theorem mem_withL {l:List FileD} {f g:FileD} (h:g∈withL l f):g=f∨g∈l:=by
 rcases mem_insL.1 h with h | h
 ·exact .inl h
 ·exact .inr (List.mem_filter.1 h).1
theorem append_good {d:DiskD} (n b:List UInt8) (h:Good d):Good (appendD d n b).1∧((appendD d n b).2≠0→(appendD d n b).1.L=d.L)∧(appendD d n b).1.quota=d.quota:=by
 have hc:=call_L d
 have hg:Good (callD d).1:=⟨by rw [hc.1];exact h.rise,by rw [hc.1];exact h.sure⟩
 unfold appendD
 repeat' split
 all_goals first
  | exact ⟨h,fun _=>rfl,rfl⟩
  | exact ⟨hg,fun _=>hc.1,hc.2⟩
  | skip
 refine ⟨⟨rise_with hg.rise,fun f hf => ?_⟩,fun k=>absurd rfl k,hc.2⟩
 rcases mem_withL hf with rfl | hf
 ·simp only [List.length_append]
  cases e:findL d.L n with
  | none=>simp
  | some g =>
    have:=h.sure g (find_mem e).1
    simp only [Option.map_some,Option.getD_some]
    omega
 ·exact hg.sure f hf
theorem rise_find:∀ {l:List FileD} {f:FileD},Rise l→f∈l→findL l f.name=some f
 | [],_,_,h=>by simp at h
 | x::l,f,hr,h=>by
   unfold findL
   rw [List.find?_cons]
   rcases List.mem_cons.1 h with rfl | h
   ·simp
   ·have hl:=hr.1 f h
    have hne:x.name≠f.name:=fun k=>by
     rw [k,lessL_irr] at hl
     cases hl
    rw [show decide (x.name=f.name)=false by simp [hne]]
    exact rise_find hr.2 h
end Go.Proofs.YtdfibahafilklaaGreatDoor.DK
namespace Go.Proofs.YtdfibahafilklaaGreatDoor.DK
theorem find_ins {f:FileD} (k:List UInt8):∀ {l:List FileD},(∀ g∈l,g.name≠f.name)→findL (insL f l) k=if k=f.name then some f else findL l k
 | [],_=>by
   unfold insL findL
   by_cases e:f.name=k
   ·simp [e]
   ·simp [e,Ne.symm e]
 | x::l,h=>by
   unfold insL
   by_cases hl:lessL f.name x.name=true
   ·rw [if_pos hl]
    unfold findL
    by_cases e:f.name=k
    ·simp [e]
    ·simp [e,Ne.symm e,List.find?_cons]
   ·rw [if_neg hl]
    have ih:=find_ins k (l:=l) fun g hg=>h g (List.mem_cons_of_mem _ hg)
    unfold findL at ih ⊢
    rw [List.find?_cons,List.find?_cons,ih]
    by_cases e:x.name=k
    ·have:k≠f.name:=fun q=>h x (List.mem_cons_self ..) (e.trans q)
     simp [e,this]
    ·simp [e]
theorem find_without (n k:List UInt8):∀ (l:List FileD),findL (withoutL l n) k=if k=n then none else findL l k
 | []=>by simp [findL,withoutL]
 | x::l=>by
   have ih:=find_without n k l
   unfold withoutL findL at ih ⊢
   rw [List.filter_cons,List.find?_cons]
   by_cases e:x.name=n
   ·rw [if_neg (by simp [e]),ih]
    by_cases q:k=n
    ·simp [q]
    ·have:¬ x.name=k:=fun z=>q (z.symm.trans e)
     simp [q,this]
   ·rw [if_pos (by simp [e]),List.find?_cons,ih]
    by_cases q:k=n
    ·subst q;simp [e]
    ·simp [q]
theorem find_with (l:List FileD) (f:FileD) (k:List UInt8):findL (withL l f) k=if k=f.name then some f else findL l k:=by
 unfold withL
 rw [find_ins k fun g hg=>by
  have:=(List.mem_filter.1 hg).2
  simpa using this,find_without]
 by_cases e:k=f.name<;>simp [e]
theorem len_ins (f:FileD):∀ l:List FileD,(insL f l).length=l.length+1
 | []=>rfl
 | x::l=>by
   unfold insL
   split
   ·rfl
   ·rw [List.length_cons,len_ins f l,List.length_cons]
theorem len_without {n:List UInt8}:∀ {l:List FileD},Rise l→(withoutL l n).length=if (findL l n).isSome then l.length - 1 else l.length
 | [],_=>rfl
 | x::l,h=>by
   have ih:=len_without (n:=n) h.2
   by_cases e:x.name=n
   ·have hw:withoutL (x::l) n=l:=by
     have h1:=without_none (l:=l) (n:=n) fun g hg k=>by
      have:=h.1 g hg
      rw [e,← k,lessL_irr] at this
      cases this
     unfold withoutL at h1 ⊢
     rw [List.filter_cons,if_neg (by simp [e]),h1]
    have hf:findL (x::l) n=some x:=by simp [findL,e]
    rw [hw,hf]
    simp
   ·have hw:withoutL (x::l) n=x::withoutL l n:=by simp [withoutL,e]
    have hf:findL (x::l) n=findL l n:=by simp [findL,e]
    rw [hw,hf,List.length_cons,ih]
    cases hq:findL l n with
    | none=>simp
    | some f =>
      have:=List.length_pos_of_mem (find_mem hq).1
      simp only [Option.isSome_some,if_true,List.length_cons]
      omega
theorem len_with {l:List FileD} (f:FileD) (h:Rise l):(withL l f).length=if (findL l f.name).isSome then l.length else l.length+1:=by
 unfold withL
 rw [len_ins,len_without h]
 cases hq:findL l f.name with
 | none=>simp
 | some g =>
   have:=List.length_pos_of_mem (find_mem hq).1
   simp only [Option.isSome_some,if_true]
   omega
end Go.Proofs.YtdfibahafilklaaGreatDoor.DK
namespace Go.Proofs.YtdfibahafilklaaGreatDoor.DK
structure Fits (d:DiskD):Prop where
 good:Good d
 len:d.L.length≤1024
 bytes:∀ f∈d.L,f.b.length≤67108864
 name:∀ f∈d.L,f.name.length≤64
 q0:0≤d.quota
 q1:d.quota≤9223372036854775807
theorem named_len {n:List UInt8} (h:namedL n=true):n.length≤64:=by
 unfold namedL at h
 simp only [Bool.and_eq_true,decide_eq_true_eq] at h
 exact h.1.2
theorem append_fits {d:DiskD} (n b:List UInt8) (h:Fits d):Fits (appendD d n b).1:=by
 have hg:=append_good n b h.good
 have hc:=call_L d
 have hcd:∀ e:DiskD,e.L=d.L→e.quota=d.quota→Good e→Fits e:=fun e e1 e2 e3=>⟨e3,by rw [e1];exact h.len,by rw [e1];exact h.bytes,by rw [e1];exact h.name,by rw [e2];exact h.q0,by rw [e2];exact h.q1⟩
 unfold appendD at hg ⊢
 split
 ·exact h
 rename_i hn
 split
 ·exact h
 split
 ·exact h
 rename_i hm
 split
 ·exact h
 rename_i hl
 split
 ·exact h
 rename_i hq
 split
 ·exact hcd _ hc.1 hc.2 ⟨by rw [hc.1];exact h.good.rise,by rw [hc.1];exact h.good.sure⟩
 rename_i hst hcc
 rw [if_neg hn,if_neg hst,if_neg hm,if_neg hl,if_neg hq,if_neg hcc] at hg
 have hnn:namedL n=true:=by simpa using hn
 refine ⟨hg.1,?_,fun f hf => ?_,fun f hf => ?_,by rw [hg.2.2];exact h.q0,by rw [hg.2.2];exact h.q1⟩
 ·show (withL (callD d).1.L _).length≤1024
  rw [hc.1,len_with _ h.good.rise]
  have h1:=h.len
  cases hf:findL d.L n with
  | none =>
    have:¬ 1024≤d.L.length:=fun k=>hm ⟨hf,k⟩
    simp only [Option.isSome_none,Bool.false_eq_true,if_false]
    omega
  | some f=>simpa using h1
 ·have hf:f∈withL (callD d).1.L _:=hf
  rw [hc.1] at hf
  rcases mem_withL hf with rfl | hf
  ·simp only [List.length_append]
   omega
  ·exact h.bytes f hf
 ·have hf:f∈withL (callD d).1.L _:=hf
  rw [hc.1] at hf
  rcases mem_withL hf with rfl | hf
  ·exact named_len hnn
  ·exact h.name f hf
theorem used_bound:∀ (L:List FileD),(∀ f∈L,f.b.length≤67108864)→usedL L≤67108864*L.length
 | [],_=>by simp [usedL]
 | f::L,h=>by
   have ih:=used_bound L fun g hg=>h g (List.mem_cons_of_mem _ hg)
   have:=h f (List.mem_cons_self ..)
   unfold usedL at ih ⊢
   rw [List.map_cons,List.sum_cons,List.length_cons]
   omega
theorem Fits.used {d:DiskD} (h:Fits d):usedL d.L≤1000000000000000:=by
 have:=used_bound d.L h.bytes
 have:=h.len
 omega
end Go.Proofs.YtdfibahafilklaaGreatDoor.DK
namespace Go.Proofs.YtdfibahafilklaaGreatDoor.CR
open Go.RowKit MM CM
theorem low_code {m:Nat} (hm:m<4294967296):bits .and .u32 (m:Int) 1=((m%2:Nat):Int):=by
 have h:=u32_and_nat m 1 hm (by omega)
 rw [nat_mask1] at h
 exact h
theorem step_code {m:Nat} (hm:m<4294967296):bits .xor .u32 ((m:Int) / 2) ((m:Int)%2*3988292384)=((CM.step m:Nat):Int):=by
 unfold CM.step
 by_cases h:m%2=1
 ·rw [if_pos h,show (m:Int)%2*3988292384=((3988292384:Nat):Int) by omega,show (m:Int) / 2=((m / 2:Nat):Int) by omega]
  exact u32_xor_nat _ _ (by omega) (by omega)
 ·rw [if_neg h,show (m:Int)%2*3988292384=((0:Nat):Int) by omega,show (m:Int) / 2=((m / 2:Nat):Int) by omega,u32_xor_nat _ _ (by omega) (by omega),Nat.xor_zero]
theorem steps_more {k m r:Nat} (hk:k<8) (h:steps (8 - k) m=r):steps (8 - (k+1)) (CM.step m)=r:=by
 rw [show 8 - k=(8 - (k+1))+1 by omega] at h
 exact h
theorem turns_any (n:Nat) (w:World) (hn:n<4294967296):Calls Tryz.prog 203 #[.int .u32 n] w fun e w'=>e=.returned (.int .u32 (steps 8 n))∧w=w':=by
 obtain ⟨r,hr⟩:∃ r,steps 8 n=r:=⟨_,rfl⟩
 rw [hr]
 have HR:Hid (steps (8 - 0) n=r):=Lib.hid hr
 clear hr
 go_enter Tryz.func203,Tryz.ntmps203
 go_wp2_with fail
 go_loop [0,4] (fun s i=>∃ k m:Nat,k≤8∧i=.int .i64 k∧s=.int .u32 m∧m<4294967296∧Hid (steps (8 - k) m=r)) (fun _ i=>8 - (intOf i).toNat)
 case atStart=>exact ⟨0,n,by omega,rfl,rfl,hn,HR⟩
 case round =>
  obtain ⟨k,m,hk,rfl,rfl,hm,H⟩:=hrel
  clear HR
  have hl:=low_code hm
  have hx:=step_code hm
  have hs:=step_lt hm
  go_wp2_with fail
  ·have hlt:(k:Int)<8:=by assumption
   go_round
   case rel=>exact ⟨k+1,CM.step m,by omega,by go_num,rfl,hs,Lib.hid (steps_more (by omega) H.out)⟩
   case measure=>simp [intOf];omega
  ·have hge:(8:Int)≤k:=by assumption
   obtain rfl:k=8:=by omega
   have h:m=r:=H.out
   subst h
   go_ret
   exact ⟨rfl,rfl⟩
end Go.Proofs.YtdfibahafilklaaGreatDoor.CR
