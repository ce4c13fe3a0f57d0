import Derived.Test.YtdfibahafilklaaGreatDoorZB3
set_option maxRecDepth 100000
set_option maxHeartbeats 8000000
set_option linter.unusedVariables false
set_option linter.unusedSimpArgs false
namespace Go.Proofs.YtdfibahafilklaaGreatDoor.CM
def step (s:Nat):Nat:=if s%2=1 then s / 2 ^^^ 3988292384 else s / 2
def steps:Nat→Nat→Nat
 | 0,s=>s
 | k+1,s=>steps k (step s)
def onB (s b:Nat):Nat:=steps 8 (s ^^^ b)
def run (s:Nat) (l:List UInt8):Nat:=l.foldl (fun s b=>onB s b.toNat) s
def notB (s:Nat):Nat:=4294967295 - s
def nextL (s:Nat) (l:List UInt8):Nat:=notB (run (notB s) l)
def sumL (l:List UInt8):Nat:=nextL 0 l
theorem xor_half (a b:Nat):(a ^^^ b) / 2=a / 2 ^^^ b / 2:=by
 have h:=Nat.shiftRight_xor_distrib (a:=a) (b:=b) (i:=1)
 rw [Nat.shiftRight_eq_div_pow,Nat.shiftRight_eq_div_pow,Nat.shiftRight_eq_div_pow] at h
 exact h
theorem xor_odd (a b:Nat):(a ^^^ b)%2=(a%2+b%2)%2:=by
 have h:=Nat.xor_mod_two_pow (a:=a) (b:=b) (n:=1)
 have ha:a%2=0∨a%2=1:=by omega
 have hb:b%2=0∨b%2=1:=by omega
 rw [show (2:Nat)^1=2 from rfl] at h
 rw [h]
 rcases ha with ha | ha<;>rcases hb with hb | hb<;>rw [ha,hb]<;>rfl
theorem xor4 (a b p:Nat):(a ^^^ p) ^^^ (b ^^^ p)=a ^^^ b:=by
 rw [Nat.xor_assoc,Nat.xor_comm b p,← Nat.xor_assoc p,Nat.xor_self,Nat.zero_xor]
theorem step_xor (a b:Nat):step (a ^^^ b)=step a ^^^ step b:=by
 unfold step
 rw [xor_odd,xor_half]
 by_cases ha:a%2=1<;>by_cases hb:b%2=1
 ·rw [if_pos ha,if_pos hb,if_neg (by omega),xor4]
 ·rw [if_pos ha,if_neg hb,if_pos (by omega),Nat.xor_assoc,Nat.xor_assoc,Nat.xor_comm 3988292384]
 ·rw [if_neg ha,if_pos hb,if_pos (by omega),Nat.xor_assoc]
 ·rw [if_neg ha,if_neg hb,if_neg (by omega)]
theorem step_lt {a:Nat} (h:a<4294967296):step a<4294967296:=by
 unfold step
 split
 ·exact Nat.xor_lt_two_pow (n:=32) (by omega) (by omega)
 ·omega
theorem step_even (x:Nat):step (2*x)=x:=by
 unfold step
 rw [if_neg (by omega)]
 omega
theorem steps_xor:∀ (k a b:Nat),steps k (a ^^^ b)=steps k a ^^^ steps k b
 | 0,_,_=>rfl
 | k+1,a,b=>by rw [steps,steps,steps,step_xor,steps_xor k]
theorem steps_lt:∀ (k:Nat) {a:Nat},a<4294967296→steps k a<4294967296
 | 0,_,h=>h
 | k+1,_,h=>steps_lt k (step_lt h)
theorem steps_none:∀ k,steps k 0=0
 | 0=>rfl
 | k+1=>by rw [steps,show step 0=0 from by decide,steps_none k]
theorem steps_byte (x:Nat):steps 8 (256*x)=x:=by
 have e:256*x=2*(2*(2*(2*(2*(2*(2*(2*x))))))):=by omega
 rw [e]
 simp only [steps,step_even]
theorem onB_lt {s b:Nat} (hs:s<4294967296) (hb:b<256):onB s b<4294967296:=steps_lt 8 (Nat.xor_lt_two_pow (n:=32) hs (by omega))
theorem run_cons (s:Nat) (b:UInt8) (l:List UInt8):run s (b::l)=run (onB s b.toNat) l:=rfl
theorem notB_lt (s:Nat):notB s<4294967296:=by unfold notB;omega
theorem nextL_lt (s:Nat) (l:List UInt8):nextL s l<4294967296:=notB_lt _
end Go.Proofs.YtdfibahafilklaaGreatDoor.CM
namespace Go.Proofs.YtdfibahafilklaaGreatDoor.DK
theorem find_ins {f:FileD} (k:List UInt8):∀ {l:List FileD},(∀ g∈l,g.name≠f.name)→findL (insL f l) k=if k=f.name then some f else findL l k
 | [],_=>by
   unfold insL findL
   by_cases e:f.name=k
   ·simp [e]
   ·simp [e,Ne.symm e]
 | x::l,h=>by
   unfold insL
   by_cases hl:lessL f.name x.name=true
   ·rw [if_pos hl]
    unfold findL
    by_cases e:f.name=k
    ·simp [e]
    ·simp [e,Ne.symm e,List.find?_cons]
   ·rw [if_neg hl]
    have ih:=find_ins k (l:=l) fun g hg=>h g (List.mem_cons_of_mem _ hg)
    unfold findL at ih ⊢
    rw [List.find?_cons,List.find?_cons,ih]
    by_cases e:x.name=k
    ·have:k≠f.name:=fun q=>h x (List.mem_cons_self ..) (e.trans q)
     simp [e,this]
    ·simp [e]
theorem find_without (n k:List UInt8):∀ (l:List FileD),findL (withoutL l n) k=if k=n then none else findL l k
 | []=>by simp [findL,withoutL]
 | x::l=>by
   have ih:=find_without n k l
   unfold withoutL findL at ih ⊢
   rw [List.filter_cons,List.find?_cons]
   by_cases e:x.name=n
   ·rw [if_neg (by simp [e]),ih]
    by_cases q:k=n
    ·simp [q]
    ·have:¬ x.name=k:=fun z=>q (z.symm.trans e)
     simp [q,this]
   ·rw [if_pos (by simp [e]),List.find?_cons,ih]
    by_cases q:k=n
    ·subst q;simp [e]
    ·simp [q]
theorem find_with (l:List FileD) (f:FileD) (k:List UInt8):findL (withL l f) k=if k=f.name then some f else findL l k:=by
 unfold withL
 rw [find_ins k fun g hg=>by
  have:=(List.mem_filter.1 hg).2
  simpa using this,find_without]
 by_cases e:k=f.name<;>simp [e]
theorem len_ins (f:FileD):∀ l:List FileD,(insL f l).length=l.length+1
 | []=>rfl
 | x::l=>by
   unfold insL
   split
   ·rfl
   ·rw [List.length_cons,len_ins f l,List.length_cons]
theorem len_without {n:List UInt8}:∀ {l:List FileD},Rise l→(withoutL l n).length=if (findL l n).isSome then l.length - 1 else l.length
 | [],_=>rfl
 | x::l,h=>by
   have ih:=len_without (n:=n) h.2
   by_cases e:x.name=n
   ·have hw:withoutL (x::l) n=l:=by
     have h1:=without_none (l:=l) (n:=n) fun g hg k=>by
      have:=h.1 g hg
      rw [e,← k,lessL_irr] at this
      cases this
     unfold withoutL at h1 ⊢
     rw [List.filter_cons,if_neg (by simp [e]),h1]
    have hf:findL (x::l) n=some x:=by simp [findL,e]
    rw [hw,hf]
    simp
   ·have hw:withoutL (x::l) n=x::withoutL l n:=by simp [withoutL,e]
    have hf:findL (x::l) n=findL l n:=by simp [findL,e]
    rw [hw,hf,List.length_cons,ih]
    cases hq:findL l n with
    | none=>simp
    | some f =>
      have:=List.length_pos_of_mem (find_mem hq).1
      simp only [Option.isSome_some,if_true,List.length_cons]
      omega
theorem len_with {l:List FileD} (f:FileD) (h:Rise l):(withL l f).length=if (findL l f.name).isSome then l.length else l.length+1:=by
 unfold withL
 rw [len_ins,len_without h]
 cases hq:findL l f.name with
 | none=>simp
 | some g =>
   have:=List.length_pos_of_mem (find_mem hq).1
   simp only [Option.isSome_some,if_true]
   omega
end Go.Proofs.YtdfibahafilklaaGreatDoor.DK
namespace Go.Proofs.YtdfibahafilklaaGreatDoor.DK
structure Fits (d:DiskD):Prop where
 good:Good d
 len:d.L.length≤1024
 bytes:∀ f∈d.L,f.b.length≤67108864
 name:∀ f∈d.L,f.name.length≤64
 q0:0≤d.quota
 q1:d.quota≤9223372036854775807
theorem named_len {n:List UInt8} (h:namedL n=true):n.length≤64:=by
 unfold namedL at h
 simp only [Bool.and_eq_true,decide_eq_true_eq] at h
 exact h.1.2
theorem append_fits {d:DiskD} (n b:List UInt8) (h:Fits d):Fits (appendD d n b).1:=by
 have hg:=append_good n b h.good
 have hc:=call_L d
 have hcd:∀ e:DiskD,e.L=d.L→e.quota=d.quota→Good e→Fits e:=fun e e1 e2 e3=>⟨e3,by rw [e1];exact h.len,by rw [e1];exact h.bytes,by rw [e1];exact h.name,by rw [e2];exact h.q0,by rw [e2];exact h.q1⟩
 unfold appendD at hg ⊢
 split
 ·exact h
 rename_i hn
 split
 ·exact h
 split
 ·exact h
 rename_i hm
 split
 ·exact h
 rename_i hl
 split
 ·exact h
 rename_i hq
 split
 ·exact hcd _ hc.1 hc.2 ⟨by rw [hc.1];exact h.good.rise,by rw [hc.1];exact h.good.sure⟩
 rename_i hst hcc
 rw [if_neg hn,if_neg hst,if_neg hm,if_neg hl,if_neg hq,if_neg hcc] at hg
 have hnn:namedL n=true:=by simpa using hn
 refine ⟨hg.1,?_,fun f hf => ?_,fun f hf => ?_,by rw [hg.2.2];exact h.q0,by rw [hg.2.2];exact h.q1⟩
 ·show (withL (callD d).1.L _).length≤1024
  rw [hc.1,len_with _ h.good.rise]
  have h1:=h.len
  cases hf:findL d.L n with
  | none =>
    have:¬ 1024≤d.L.length:=fun k=>hm ⟨hf,k⟩
    simp only [Option.isSome_none,Bool.false_eq_true,if_false]
    omega
  | some f=>simpa using h1
 ·have hf:f∈withL (callD d).1.L _:=hf
  rw [hc.1] at hf
  rcases mem_withL hf with rfl | hf
  ·simp only [List.length_append]
   omega
  ·exact h.bytes f hf
 ·have hf:f∈withL (callD d).1.L _:=hf
  rw [hc.1] at hf
  rcases mem_withL hf with rfl | hf
  ·exact named_len hnn
  ·exact h.name f hf
theorem used_bound:∀ (L:List FileD),(∀ f∈L,f.b.length≤67108864)→usedL L≤67108864*L.length
 | [],_=>by simp [usedL]
 | f::L,h=>by
   have ih:=used_bound L fun g hg=>h g (List.mem_cons_of_mem _ hg)
   have:=h f (List.mem_cons_self ..)
   unfold usedL at ih ⊢
   rw [List.map_cons,List.sum_cons,List.length_cons]
   omega
theorem Fits.used {d:DiskD} (h:Fits d):usedL d.L≤1000000000000000:=by
 have:=used_bound d.L h.bytes
 have:=h.len
 omega
end Go.Proofs.YtdfibahafilklaaGreatDoor.DK
namespace Go.Proofs.YtdfibahafilklaaGreatDoor.DK
open Go.RowKit MM
variable {XB : Nat → Prop}
theorem str_index {s:ByteArray} {l:List UInt8} (hl:s.data.toList=l) {i:Nat} {c:UInt8} (hi:l[i]? = some c) (W:World):(Instr.index 9 (.string s) (.int .i64 (i:Int))).run Tryz.prog W=.ok (.int .u8 (c.toNat:Int)) W:=by
 obtain ⟨hlt,he⟩:=List.getElem?_eq_some_iff.1 hi
 have hsz:s.size=l.length:=by rw [Lib.size_eq,hl]
 rw [run_index_string W 9 s .i64 i Tryz.underlying9,dif_pos ⟨by omega,by omega⟩]
 subst hl
 have e:(s[(i:Int).toNat]'(by omega))=c:=by
  rw [← he]
  simp only [Int.toNat_natCast]
  rfl
 rw [e]
theorem str_size {s:ByteArray} {l:List UInt8} (hl:s.data.toList=l):s.size=l.length:=by rw [Lib.size_eq,hl]
def okCode (c:Nat):Bool:=(decide (97≤c)&&decide (c≤122))||(decide (48≤c)&&decide (c≤57))||decide (c=45)||decide (c=46)
theorem eq_code (c k:UInt8):(c == k)=decide (c.toNat=k.toNat):=by
 by_cases h:c=k
 ·subst h;rw [beq_self_eq_true];exact (decide_eq_true rfl).symm
 ·have:¬ c.toNat=k.toNat:=fun q=>h (UInt8.toNat_inj.1 q)
  rw [beq_eq_false_iff_ne.2 h,decide_eq_false this]
theorem charOk_code (c:UInt8):charOk c=okCode c.toNat:=by
 unfold charOk okCode
 rw [eq_code c 45,eq_code c 46]
 rfl
theorem okCode_int (c:Nat):okCode c=(((decide ((c:Int)≥97)&&decide ((c:Int)≤122))||(decide ((c:Int)≥48)&&decide ((c:Int)≤57)))||((c:Int) == 45)||((c:Int) == 46)):=by
 have e:∀ k:Nat,((c:Int) == (k:Int))=decide (c=k):=fun k=>by
  by_cases h:c=k
  ·subst h;rw [beq_self_eq_true];exact (decide_eq_true rfl).symm
  ·rw [beq_eq_false_iff_ne.2 (by omega),decide_eq_false h]
 have e1:((c:Int) == 45)=decide (c=45):=e 45
 have e2:((c:Int) == 46)=decide (c=46):=e 46
 unfold okCode
 rw [e1,e2,decide_eq_decide.2 (show 97≤c↔(c:Int)≥97 by omega),decide_eq_decide.2 (show c≤122↔(c:Int)≤122 by omega),decide_eq_decide.2 (show 48≤c↔(c:Int)≥48 by omega),decide_eq_decide.2 (show c≤57↔(c:Int)≤57 by omega)]
theorem drop_all {l:List UInt8} {i:Nat} {c:UInt8} (hi:l[i]? = some c):(l.drop i).all charOk=(okCode c.toNat&&(l.drop (i+1)).all charOk):=by
 obtain ⟨hlt,he⟩:=List.getElem?_eq_some_iff.1 hi
 rw [List.drop_eq_getElem_cons hlt,List.all_cons,he,charOk_code]
def BoxAt (w:World) (g:Nat) (L:Value) (d:DiskD):Prop:=w.heap[g]? = some (.cells #[L,.int .i64 d.quota,.int .i64 d.armed,.bool d.stopped] 45 (0,0))
theorem BoxAt.armed {w:World} {g:Nat} {L:Value} {d:DiskD} (h:BoxAt w g L d):w.cell? ⟨g,2,none⟩=some (.int .i64 d.armed):=by rw [cell_of_row w g 2 _ _ _ h];rfl
theorem BoxAt.stopped {w:World} {g:Nat} {L:Value} {d:DiskD} (h:BoxAt w g L d):w.cell? ⟨g,3,none⟩=some (.bool d.stopped):=by rw [cell_of_row w g 3 _ _ _ h];rfl
theorem BoxAt.free {w:World} {g:Nat} {L:Value} {d:DiskD} (h:BoxAt w g L d) (k:Nat):w.frozen? ⟨g,k,none⟩=false:=frozen_of_row w g k _ _ h
theorem BoxAt.below {w w':World} {g B:Nat} {L:Value} {d:DiskD} (h:BoxAt w g L d) (hb:Below B w w') (hg:g<B):BoxAt w' g L d:=(hb.block g hg).trans h
end Go.Proofs.YtdfibahafilklaaGreatDoor.DK
namespace Go.Proofs.YtdfibahafilklaaGreatDoor.CR
open Go.RowKit MM CM
theorem low_code {m:Nat} (hm:m<4294967296):bits .and .u32 (m:Int) 1=((m%2:Nat):Int):=by
 have h:=u32_and_nat m 1 hm (by omega)
 rw [nat_mask1] at h
 exact h
theorem step_code {m:Nat} (hm:m<4294967296):bits .xor .u32 ((m:Int) / 2) ((m:Int)%2*3988292384)=((CM.step m:Nat):Int):=by
 unfold CM.step
 by_cases h:m%2=1
 ·rw [if_pos h,show (m:Int)%2*3988292384=((3988292384:Nat):Int) by omega,show (m:Int) / 2=((m / 2:Nat):Int) by omega]
  exact u32_xor_nat _ _ (by omega) (by omega)
 ·rw [if_neg h,show (m:Int)%2*3988292384=((0:Nat):Int) by omega,show (m:Int) / 2=((m / 2:Nat):Int) by omega,u32_xor_nat _ _ (by omega) (by omega),Nat.xor_zero]
theorem step_odd {m:Nat} (h:m%2=1) (hm:m<4294967296):bits .xor .u32 ((m:Int) / 2) 3988292384=((CM.step m:Nat):Int):=by
 have h1:=step_code hm
 rw [show (m:Int)%2*3988292384=3988292384 by omega] at h1
 exact h1
theorem step_half {m:Nat} (h:¬ m%2=1):(m:Int) / 2=((CM.step m:Nat):Int):=by
 unfold CM.step
 rw [if_neg h]
 omega
theorem steps_more {k m r:Nat} (hk:k<8) (h:steps (8 - k) m=r):steps (8 - (k+1)) (CM.step m)=r:=by
 rw [show 8 - k=(8 - (k+1))+1 by omega] at h
 exact h
theorem turns_any (n:Nat) (w:World) (hn:n<4294967296):Calls Tryz.prog 203 #[.int .u32 n] w fun e w'=>e=.returned (.int .u32 (steps 8 n))∧w=w':=by
 obtain ⟨r,hr⟩:∃ r,steps 8 n=r:=⟨_,rfl⟩
 rw [hr]
 have HR:Hid (steps (8 - 0) n=r):=Lib.hid hr
 clear hr
 go_enter Tryz.func203,Tryz.ntmps203
 go_wp2_with fail
 go_loop [0,4] (fun s i=>∃ k m:Nat,k≤8∧i=.int .i64 k∧s=.int .u32 m∧m<4294967296∧Hid (steps (8 - k) m=r)) (fun _ i=>8 - (intOf i).toNat)
 case atStart=>exact ⟨0,n,by omega,rfl,rfl,hn,HR⟩
 case round =>
  obtain ⟨k,m,hk,rfl,rfl,hm,H⟩:=hrel
  clear HR
  have hl:=low_code hm
  have hx:=step_code hm
  have hs:=step_lt hm
  go_wp2_with fail
  ·have hlt:(k:Int)<8:=by assumption
   go_round
   case rel=>exact ⟨k+1,CM.step m,by omega,by go_num,rfl,hs,Lib.hid (steps_more (by omega) H.out)⟩
   case measure=>simp [intOf];omega
  ·have hge:(8:Int)≤k:=by assumption
   obtain rfl:k=8:=by omega
   have h:m=r:=H.out
   subst h
   go_ret
   exact ⟨rfl,rfl⟩
theorem on_any (n:Nat) (c:UInt8) (w:World) (hn:n<4294967296):Calls Tryz.prog 170 #[.int .u32 n,.int .u8 (c.toNat:Int)] w fun e w'=>e=.returned (.int .u32 (onB n c.toNat))∧w=w':=by
 have hc:=c.toNat_lt
 generalize c.toNat=b at *
 obtain ⟨r,hr⟩:∃ r,onB n b=r:=⟨_,rfl⟩
 rw [hr]
 have HR:Hid (steps (8 - 0) (n ^^^ b)=r):=Lib.hid hr
 have hx0:=u32_xor_nat n b hn (by omega)
 have hlt0:n ^^^ b<4294967296:=Nat.xor_lt_two_pow (n:=32) hn (by omega)
 generalize n ^^^ b=x at *
 clear hr
 go_enter Tryz.func170,Tryz.ntmps170
 go_wp2_with fail
 go_loop [0,5] (fun s i=>∃ k m:Nat,k≤8∧i=.int .i64 k∧s=.int .u32 m∧m<4294967296∧Hid (steps (8 - k) m=r)) (fun _ i=>8 - (intOf i).toNat)
 case atStart=>exact ⟨0,x,by omega,rfl,rfl,hlt0,HR⟩
 case round =>
  obtain ⟨k,m,hk,rfl,rfl,hm,H⟩:=hrel
  clear HR hx0
  by_cases hlt:k<8
  ·have hs:=step_lt hm
   have H2:=Lib.hid (steps_more hlt H.out)
   by_cases ho:m%2=1
   ·have hx:=step_odd ho hm
    have ht:((m:Int)%2 == 1)=true:=by simp;omega
    go_wp2_with fail
    go_round
    case rel=>exact ⟨k+1,CM.step m,by omega,by go_num,rfl,hs,H2⟩
    case measure=>simp [intOf];omega
   ·have hx:=step_half ho
    have ht:((m:Int)%2 == 1)=false:=by simp;omega
    go_wp2_with fail
    go_round
    case rel=>exact ⟨k+1,CM.step m,by omega,by go_num,by go_num,hs,H2⟩
    case measure=>simp [intOf];omega
  ·obtain rfl:k=8:=by omega
   have h:m=r:=H.out
   subst h
   go_wp2_with fail
   go_ret
   exact ⟨rfl,rfl⟩
end Go.Proofs.YtdfibahafilklaaGreatDoor.CR
