import Derived.Test.YtdfibahafilklaaGreatDoorZA22
set_option maxRecDepth 100000
set_option maxHeartbeats 8000000
set_option linter.unusedVariables false
set_option linter.unusedSimpArgs false
namespace Go.Proofs.YtdfibahafilklaaGreatDoor.DK
open Go.RowKit MM Go.Maps
def newD (q:Int):DiskD:=⟨[],q,0,false⟩
theorem new_obj (w:World) (q:Int):∃ S V,CObj S ((w.alloc (.map #[] 0)).alloc (.cells #[.map (some w.heap.size),.int .i64 q,.int .i64 0,.bool false] 111)) (w.heap.size+1) w.heap.size V 0 (newD q)∧∀ k,S k→w.heap.size≤k:=by
 refine ⟨fun k=>k=w.heap.size∨k=w.heap.size+1,fun _=>.slice none 0 0,⟨?_,rfl,by omega,by omega,⟨?_,fun f hf=>(List.not_mem_nil hf).elim,fun f hf=>(List.not_mem_nil hf).elim,fun f hf=>(List.not_mem_nil hf).elim,.inl rfl⟩,.inr rfl,fun k hk=>by simp;omega⟩,fun k hk=>by omega⟩
 ·have:=heap_alloc_new (w.alloc (.map #[] 0)) (.cells #[.map (some w.heap.size),.int .i64 q,.int .i64 0,.bool false] 111)
  rw [show (w.alloc (.map #[] 0)).heap.size=w.heap.size+1 by simp] at this
  exact this
 ·exact (MapV.made w).below ((Below.refl _ _).alloc (Nat.le_refl _) _)
theorem new_fits (q:Int) (h0:0≤q) (h1:q≤9223372036854775807):Fits (newD q):=⟨⟨trivial,fun f hf=>(List.not_mem_nil hf).elim⟩,by simp [newD],fun f hf=>(List.not_mem_nil hf).elim,fun f hf=>(List.not_mem_nil hf).elim,h0,h1⟩
def NewC (q:Int) (w:World) (e:Ending) (w':World):Prop :=
 ∃ S g mb V,e=.returned (.tuple #[.pointer (some ⟨g,0,none⟩),.int .i64 0])∧CObj S w' g mb V 0 (newD q)∧(∀ k,S k→w.heap.size≤k)∧Below w.heap.size w w'
theorem cnew_any (q:Int) (w:World) (h0:0≤q):Calls Tryz.prog 16 #[.int .i64 q] w (NewC q w):=by
 have hmm:=@run_makeMap Tryz.prog
 have t1:decide (q<0)=false:=by rw [decide_eq_false_iff_not];omega
 obtain ⟨S,V,h1,h2⟩:=new_obj w q
 have HF:=Lib.hid (show NewC q w (.returned (.tuple #[.pointer (some ⟨w.heap.size+1,0,none⟩),.int .i64 0])) _ from ⟨S,_,_,V,rfl,h1,h2,((Below.refl _ _).alloc (Nat.le_refl _) _).alloc (by simp) _⟩)
 clear h1 h2
 go_enter Tryz.func16,Tryz.ntmps16
 go_wp2_with fail
 go_ret2
 exact HF.out
theorem csize_any (S:Nat→Prop) (g mb:Nat) (V:List UInt8→Value) (c:Int) (d:DiskD) (n:List UInt8) (w:World) (h:CObj S w g mb V c d) (hn:n.length≤1000000000000) :
  Calls Tryz.prog 76 #[.pointer (some ⟨g,0,none⟩),.string ⟨n.toArray⟩] w fun e w' =>
   e=.returned (.tuple #[.int .i64 (if findE (namedL n) d.stopped (findL d.L n).isSome=0 then ((curB d n).length:Int) else 0),.bool (findE (namedL n) d.stopped (findL d.L n).isSome == 0)])∧Below w.heap.size w w':=by
 have hfind:=cfind_any S 0 g mb V c d (.slice none 0 0) [] n w h (Nat.zero_le _) hn (SIn.nil_ _ _) (by simp) (by simp)
 rw [ok_one] at hfind
 obtain ⟨p,cap,hv,_,_⟩:=own_slice (cur_own h.tab n)
 unfold FindC at hfind
 rw [hv] at hfind
 generalize findE (namedL n) d.stopped (findL d.L n).isSome=E at *
 generalize (curB d n).length=ln at *
 generalize (curS d n:Int)=sn at *
 have HFI:=Lib.hid hfind
 clear hfind h hv
 by_cases h0:E=0
 case' pos=>subst h0
 case' neg =>
  have t1:(E == 0)=false:=by rw [beq_eq_false_iff_ne];exact h0
  rw [if_neg h0] at HFI
  rw [if_neg h0,t1]
  have H0:=Lib.hid h0
  clear h0
 all_goals (
  go_enter Tryz.func76,Tryz.ntmps76
  go_wp2_with fail
  refine HFI.out.mono ?_
  rintro e W1 ⟨rfl,hb1⟩
  have HB:=Lib.hid (fun o=>hb1.alloc hb1.size o)
  clear hb1 HFI
  go_wp2_with fail
  refine (size_any _ _ _ _).mono ?_
  rintro e w' ⟨rfl,rfl⟩
  go_wp2_with fail
  go_ret2
  exact ⟨rfl,HB.out _⟩)
theorem own_empty0 (w:World) (B:Nat) (hB:B≤w.heap.size):OwnB B (w.alloc (.cells #[] 5)) (.slice (some ⟨w.heap.size,0,none⟩) 0 0) []:=own_lit w [] 5 B hB (by unfold maxLen;simp)
theorem clone_any (v:Value) (l:List UInt8) (w:World) (h:BRow w v l) (hl:l.length≤1000000000000):Calls Tryz.prog 132 #[v] w (PutLeft w.heap.size l w):=by
 obtain ⟨p,cap,rfl,hlc,_⟩:=h.shape
 have hq:=fun (w:World) (a:Option Addr) (n c:Nat)=>Lib.run_eql_slice_nil (P:=Tryz.prog) w 31 5 a n c 0 0 Tryz.underlying31
 cases p with
 | none =>
   have hl0:l=[]:=by
    obtain ⟨p',cap',hv,h1,h2,h3,h4⟩:=h
    simp only [Value.slice.injEq] at hv
    obtain ⟨rfl,hv2,hv3⟩:=hv
    have:=h3 rfl
    exact List.eq_nil_of_length_eq_zero (by omega)
   subst hl0
   have HF:=Lib.hid (show PutLeft w.heap.size [] w (.returned (.slice none 0 0)) w from ⟨_,rfl,World.ownsRow_nil _ _ _ _,Below.refl _ _⟩)
   clear h
   go_enter Tryz.func132,Tryz.ntmps132
   go_wp2_with fail
   go_ret
   exact HF.out
 | some a =>
   have HO:=Lib.hid (own_empty0 w w.heap.size (Nat.le_refl _))
   have HR:=Lib.hid (fun o=>BRow.below h ((Below.refl w.heap.size w).alloc (Nat.le_refl _) o))
   have HB:=Lib.hid (fun o=>(Below.refl w.heap.size w).alloc (Nat.le_refl _) o)
   clear h
   go_enter Tryz.func132,Tryz.ntmps132
   go_wp2_with (at_builtin;go_loud (refine wpList_append_bytes rfl _ _ rfl w.heap.size _ [] rfl HO.out _ l rfl (HR.out _) (by simp;omega) (by simp) ?_))
   intro v1 w1 hown hb
   have HF:=Lib.hid (show PutLeft w.heap.size l w (.returned v1) w1 from ⟨_,rfl,hown,(HB.out _).trans hb⟩)
   clear hown hb
   go_wp2_with fail
   go_ret
   exact HF.out
def partD (l:List UInt8) (a m:Int):List UInt8×Int:=if a<0∨(l.length:Int)<a∨m<0 then ([],5) else ((l.drop a.toNat).take m.toNat,0)
def PartC (r:List UInt8×Int) (w:World) (e:Ending) (w':World):Prop:=∃ v,e=.returned (.tuple #[v,.int .i64 r.2])∧BRow w' v r.1∧Below w.heap.size w w'
theorem part_any (v:Value) (l:List UInt8) (a m:Int) (w:World) (h:BRow w v l) (hl:l.length≤1000000000000) (ha0 : -9223372036854775808≤a) (ha1:a≤9223372036854775807) (hm0 : -9223372036854775808≤m) (hm1:m≤9223372036854775807) :
  Calls Tryz.prog 109 #[v,.int .i64 a,.int .i64 m] w (PartC (partD l a m) w):=by
 obtain ⟨p,cap,rfl,hlc,hcm⟩:=h.shape
 unfold maxLen at hcm
 obtain ⟨R,hR⟩:∃ R,partD l a m=R:=⟨_,rfl⟩
 rw [hR]
 unfold partD at hR
 have HR:=Lib.hid hR
 clear hR
 have HN:=Lib.hid (show ∀ k,PartC ([],k) w (.returned (.tuple #[.slice none 0 0,.int .i64 k])) w from fun k=>⟨_,rfl,BRow.nil_ _,Below.refl _ _⟩)
 obtain hc | hc | hc | hc:a<0∨(0≤a∧(l.length:Int)<a)∨(0≤a∧a≤(l.length:Int)∧m<0)∨(0≤a∧a≤(l.length:Int)∧0≤m):=by omega
 ·obtain rfl:R=([],5):=by rw [← HR.out,if_pos (.inl hc)]
  have t1:decide (a<0)=true:=by rw [decide_eq_true_eq];omega
  clear HR h
  go_enter Tryz.func109,Tryz.ntmps109
  go_wp2_with fail
  go_ret2
  exact HN.out 5
 ·obtain rfl:R=([],5):=by rw [← HR.out,if_pos (.inr (.inl hc.2))]
  have t1:decide (a<0)=false:=by rw [decide_eq_false_iff_not];omega
  have t2:decide (a>(l.length:Int))=true:=by rw [decide_eq_true_eq];omega
  clear HR h
  go_enter Tryz.func109,Tryz.ntmps109
  go_wp2_with fail
  go_ret2
  exact HN.out 5
 ·obtain rfl:R=([],5):=by rw [← HR.out,if_pos (.inr (.inr hc.2.2))]
  have t1:decide (a<0)=false:=by rw [decide_eq_false_iff_not];omega
  have t2:decide (a>(l.length:Int))=false:=by rw [decide_eq_false_iff_not];omega
  have t3:decide (m<0)=true:=by rw [decide_eq_true_eq];omega
  clear HR h
  go_enter Tryz.func109,Tryz.ntmps109
  go_wp2_with fail
  go_ret2
  exact HN.out 5
 ·obtain ⟨i,rfl⟩:∃ i:Nat,a=(i:Int):=⟨a.toNat,by omega⟩
  obtain ⟨j,rfl⟩:∃ j:Nat,m=(j:Int):=⟨m.toNat,by omega⟩
  have hi:i≤l.length:=by omega
  obtain ⟨q,hq⟩:∃ q,min j (l.length - i)=q:=⟨_,rfl⟩
  obtain rfl:R=((l.drop i).take q,0):=by
   rw [← HR.out,if_neg (by omega),← hq]
   simp only [Int.toNat_natCast]
   congr 1
   rw [List.take_eq_take_iff,List.length_drop]
   omega
  have hqm:(if (l.length - i:Nat)<j then ((l.length - i:Nat):Int) else (j:Int))=(q:Int):=by rw [← hq];split<;>omega
  have hq1:q≤l.length - i:=by omega
  have hD:=BIn.drop3 h i hi
  have HD1:=Lib.hid (fun e=>(hD.1 e).take q hq1)
  have HD2:=Lib.hid (fun e=>(hD.2 e).take q hq1)
  have hwr:IntKind.i64.wrap ((l.length:Int) - (i:Int))=((l.length - i:Nat):Int):=by rw [IntKind.wrap_i64];omega
  have t1:decide ((i:Int)<0)=false:=by rw [decide_eq_false_iff_not];omega
  have t2:decide ((i:Int)>(l.length:Int))=false:=by rw [decide_eq_false_iff_not];omega
  have t3:decide ((j:Int)<0)=false:=by rw [decide_eq_false_iff_not];omega
  have hx:((l.drop i).take q).length=q:=by rw [List.length_take,List.length_drop];omega
  have hx2:((l.drop i).take q).length≤1000000000000:=by omega
  obtain ⟨X,hX⟩:∃ X,(l.drop i).take q=X:=⟨_,rfl⟩
  rw [hX] at HD1 HD2 hx2 ⊢
  clear hq hD hc HR h hX hx
  go_enter Tryz.func109,Tryz.ntmps109
  go_wp2_with fail
  case inl =>
   refine (clone_any _ X _ (HD1.out (by assumption)) hx2).mono ?_
   rintro e w1 ⟨v1,rfl,hown,hb⟩
   have HF:=Lib.hid (show PartC (X,0) w (.returned (.tuple #[v1,.int .i64 0])) w1 from ⟨_,rfl,hown.brow,hb⟩)
   clear hown hb
   go_wp2_with fail
   go_ret2
   exact HF.out
  case inr =>
   refine (clone_any _ X _ (HD2.out (by assumption)) hx2).mono ?_
   rintro e w1 ⟨v1,rfl,hown,hb⟩
   have HF:=Lib.hid (show PartC (X,0) w (.returned (.tuple #[v1,.int .i64 0])) w1 from ⟨_,rfl,hown.brow,hb⟩)
   clear hown hb
   go_wp2_with fail
   go_ret2
   exact HF.out
end Go.Proofs.YtdfibahafilklaaGreatDoor.DK
namespace Go.Proofs.YtdfibahafilklaaGreatDoor.DK
open Go.RowKit MM Go.Maps
def creadD (d:DiskD) (n:List UInt8) (a m:Int):List UInt8×Int :=
 if findE (namedL n) d.stopped (findL d.L n).isSome=0 then partD (curB d n) a m else ([],findE (namedL n) d.stopped (findL d.L n).isSome)
theorem cread_any (S:Nat→Prop) (g mb:Nat) (V:List UInt8→Value) (c:Int) (d:DiskD) (n:List UInt8) (a m:Int) (w:World) (h:CObj S w g mb V c d) (hF:Fits d) (hn:n.length≤1000000000000)
  (ha0 : -9223372036854775808≤a) (ha1:a≤9223372036854775807) (hm0 : -9223372036854775808≤m) (hm1:m≤9223372036854775807) :
  Calls Tryz.prog 60 #[.pointer (some ⟨g,0,none⟩),.string ⟨n.toArray⟩,.int .i64 a,.int .i64 m] w (PartC (creadD d n a m) w):=by
 have hfind:=cfind_any S 0 g mb V c d (.slice none 0 0) [] n w h (Nat.zero_le _) hn (SIn.nil_ _ _) (by simp) (by simp)
 rw [ok_one] at hfind
 obtain ⟨p,cap,hv,_,_⟩:=own_slice (cur_own h.tab n)
 have hcl:(curB d n).length≤67108864:=by
  unfold curB
  cases hf:findL d.L n with
  | none=>simp
  | some f=>exact hF.bytes f (find_mem hf).1
 have hrow:=cur_own h.tab n
 unfold FindC at hfind
 unfold creadD
 rw [hv] at hfind hrow
 have HP:=Lib.hid (fun W (hW:Below w.heap.size w W)=>part_any _ (curB d n) a m W (BRow.below hrow.brow hW) (by omega) ha0 ha1 hm0 hm1)
 generalize findE (namedL n) d.stopped (findL d.L n).isSome=E at *
 generalize partD (curB d n) a m=R at *
 generalize (curB d n).length=ln at *
 generalize (curS d n:Int)=sn at *
 have HFI:=Lib.hid hfind
 clear hfind h hv hrow
 by_cases h0:E=0
 ·subst h0
  rw [if_pos rfl]
  rw [if_pos rfl] at HFI
  go_enter Tryz.func60,Tryz.ntmps60
  go_wp2_with fail
  refine HFI.out.mono ?_
  rintro e W1 ⟨rfl,hb1⟩
  have HB:=Lib.hid (fun o=>hb1.alloc hb1.size o)
  clear hb1 HFI
  go_wp2_with fail
  refine (HP.out _ (HB.out _)).mono ?_
  rintro e w2 ⟨v2,rfl,hr2,hb2⟩
  have HF:=Lib.hid (show PartC R w (.returned (.tuple #[v2,.int .i64 R.2])) w2 from ⟨_,rfl,hr2,(HB.out _).trans (hb2.mono (HB.out _).size)⟩)
  clear hr2 hb2
  go_wp2_with fail
  go_ret2
  exact HF.out
 ·have t1:(E == 0)=false:=by rw [beq_eq_false_iff_ne];exact h0
  have t2:(E != 0)=true:=by simp [bne,t1]
  rw [if_neg h0]
  rw [if_neg h0] at HFI
  clear h0 HP
  go_enter Tryz.func60,Tryz.ntmps60
  go_wp2_with fail
  refine HFI.out.mono ?_
  rintro e W1 ⟨rfl,hb1⟩
  have HF:=Lib.hid (show ∀ o,PartC ([],E) w (.returned (.tuple #[.slice none 0 0,.int .i64 E])) (W1.alloc o) from fun o=>⟨_,rfl,BRow.nil_ _,hb1.alloc hb1.size o⟩)
  clear hb1 HFI
  go_wp2_with fail
  go_ret2
  exact HF.out _
end Go.Proofs.YtdfibahafilklaaGreatDoor.DK
namespace Go.Proofs.YtdfibahafilklaaGreatDoor.RT
open Go Go.RowKit MM
inductive Plan (α:Type) where
 | done:Plan α
 | take (i:α) (r:Plan α):Plan α
 | alone (i:α) (r:Plan α):Plan α
 | both (i j:α) (r s:Plan α):Plan α
def Plan.len {α:Type}:Plan α→Nat
 | .done=>0
 | .take _ r=>r.len+1
 | .alone _ r=>r.len+1
 | .both _ _ r _=>r.len+1
section
variable {T : Nat → Prop} {P : Program} {ops : Array Oper} {Q : Exit → Act → World → Prop} {md : Region.Mode}
theorem held_weaken {S S':World→Prop} (hS:∀ w,S' w→S w):∀ (fuel:Nat) (listed:Array Bool) (a:Act) (w:World),wpAnyH P md ops Q S' fuel listed a w→wpAnyH P md ops Q S fuel listed a w
 | 0,_,_,_,h=>h
 | fuel+1,_,_,_,h=>⟨h.1,fun i hi=>wpOp_mono (fun a' w' h'=>⟨hS _ h'.1,held_weaken hS fuel _ a' w' h'.2⟩) (h.2 i hi)⟩
def Way (p:Prop):Prop:=p
theorem Way.out {p:Prop} (h:Way p):p:=h
def Step (T:Nat→Prop) (P:Program) (ops:Array Oper) (Q:Exit→Act→World→Prop) (o:Option Oper) (N:Act→World→Prop) (a:Act) (w:World):Prop :=
 match o with
 | some o=>∀ K:Act→World→Prop,(∀ a' w',Kep T w w'→N a' w'→K a' w')→if Region.wanted o (yielded ops a.tmps)=true then o.wp P a w K Q else K (a.put o.dst undef) w
 | none=>False
def walk (T:Nat→Prop) (P:Program) (ops:Array Oper) (Q:Exit→Act→World→Prop):Plan (Option Oper)→Act→World→Prop
 | .done,a,w=>Q .normal a w
 | .take (some o) r,a,w=>∃ v,YieldsIf P ops (Kep T w) o v a∧walk T P ops Q r (a.put o.dst v) w
 | .take none _,_,_=>False
 | .alone o r,a,w=>Step T P ops Q o (walk T P ops Q r) a w
 | .both o o' r s,a,w=>Step T P ops Q o (walk T P ops Q r) a w∧Step T P ops Q o' (walk T P ops Q s) a w
def ordered (ops:Array Oper):Plan Nat→Plan (Option Oper)
 | .done=>.done
 | .take i r=>.take ops[i]? (ordered ops r)
 | .alone i r=>.alone ops[i]? (ordered ops r)
 | .both i j r s=>.both ops[i]? ops[j]? (ordered ops r) (ordered ops s)
def planned (md:Region.Mode) (ops:Array Oper):Plan Nat→Array Bool→Bool
 | .done,listed=>(Region.ready md ops listed).isEmpty
 | .take i r,listed=>Region.free md ops listed i&&(Region.ready md ops listed).contains i&&planned md ops r (listed.setIfInBounds i true)
 | .alone i r,listed=>(Region.ready md ops listed == [i])&&planned md ops r (listed.setIfInBounds i true)
 | .both i j r s,listed=>(Region.ready md ops listed == [i,j])&&(r.len == s.len)&&planned md ops r (listed.setIfInBounds i true)&&planned md ops s (listed.setIfInBounds j true)
theorem held_of_walk (hs:Region.noSelect ops=true) (hQ:∀ c a d v w,Q (.panic c) (Act.put a d v) w→Q (.panic c) a w) :
  ∀ (l:Plan Nat) (listed:Array Bool) (a:Act) (w:World),planned md ops l listed=true→walk T P ops Q (ordered ops l) a w→wpAnyH P md ops Q (Kep T w) l.len listed a w
 | .done,listed,a,w,hp,h=>⟨by simpa [planned] using hp,h⟩
 | .take i r,listed,a,w,hp,h=>by
   have h':walk T P ops Q (.take ops[i]? (ordered ops r)) a w:=h
   cases ho:ops[i]? with
   | none=>rw [ho] at h';exact h'.elim
   | some o =>
     rw [ho] at h'
     obtain ⟨v,hy,hr⟩:=h'
     simp only [planned,Bool.and_eq_true] at hp
     exact wpAnyH_take ho hs hp.1.1 hp.1.2 (fun c a w=>hQ c a _ _ w) hy (Kep.refl _ w) (held_of_walk hs hQ r _ _ _ hp.2 hr)
 | .alone i r,listed,a,w,hp,h=>by
   have h':Step T P ops Q ops[i]? (walk T P ops Q (ordered ops r)) a w:=h
   cases ho:ops[i]? with
   | none=>rw [ho] at h';exact h'.elim
   | some o =>
     rw [ho] at h'
     simp only [planned,Bool.and_eq_true] at hp
     refine wpAnyH_all (rs:=[i]) (by simpa using hp.1) (by simp) (fun j hj => ?_)
     obtain rfl:j=i:=by simpa using hj
     exact wpOp_step ho (fun K hK=>h' K (fun a' w' h1 h2=>hK a' w' ⟨h1,held_weaken (fun W hW=>h1.trans hW) _ _ _ _ (held_of_walk hs hQ r _ _ _ hp.2 h2)⟩))
 | .both i j r s,listed,a,w,hp,h=>by
   have h':Step T P ops Q ops[i]? (walk T P ops Q (ordered ops r)) a w∧Step T P ops Q ops[j]? (walk T P ops Q (ordered ops s)) a w:=h
   obtain ⟨h1,h2⟩:=h'
   simp only [planned,Bool.and_eq_true,beq_iff_eq] at hp
   cases ho:ops[i]? with
   | none=>rw [ho] at h1;exact h1.elim
   | some o =>
     cases ho':ops[j]? with
     | none=>rw [ho'] at h2;exact h2.elim
     | some o' =>
       rw [ho] at h1
       rw [ho'] at h2
       refine wpAnyH_all (rs:=[i,j]) (by simpa using hp.1.1.1) (by simp) (fun k hk => ?_)
       simp only [List.mem_cons,List.not_mem_nil,or_false] at hk
       rcases hk with rfl | rfl
       ·exact wpOp_step ho (fun K hK=>h1 K (fun a' w' g1 g2=>hK a' w' ⟨g1,held_weaken (fun W hW=>g1.trans hW) _ _ _ _ (held_of_walk hs hQ r _ _ _ hp.1.2 g2)⟩))
       ·refine wpOp_step ho' (fun K hK=>h2 K (fun a' w' g1 g2=>hK a' w' ⟨g1,held_weaken (fun W hW=>g1.trans hW) _ _ _ _ ?_⟩))
        rw [hp.1.1.2]
        exact held_of_walk hs hQ s _ _ _ hp.2 g2
theorem take {r:Plan (Option Oper)} {a:Act} {w:World} {o:Oper} {v:Value} (hw:Region.wanted o (yielded ops a.tmps)=true)
  (hy:∀ W,Kep T w W→(execOp a.eval o).run P W=.ok (.value v) W) (h:walk T P ops Q r (a.put o.dst v) w):walk T P ops Q (.take (some o) r) a w :=
 ⟨v,.inl ⟨hw,hy⟩,h⟩
theorem skip {r:Plan (Option Oper)} {a:Act} {w:World} {o:Oper} (hw:Region.wanted o (yielded ops a.tmps)=false)
  (h:walk T P ops Q r (a.put o.dst undef) w):walk T P ops Q (.take (some o) r) a w :=
 ⟨undef,.inr ⟨hw,rfl⟩,h⟩
theorem step {N:Act→World→Prop} {a:Act} {w:World} {o:Oper} (hw:Region.wanted o (yielded ops a.tmps)=true)
  (h:∀ K:Act→World→Prop,Way (∀ a' w',Kep T w w'→N a' w'→K a' w')→o.wp P a w K Q):Step T P ops Q (some o) N a w:=by
 intro K hK
 rw [if_pos hw]
 exact h K hK
theorem step_skip {N:Act→World→Prop} {a:Act} {w:World} {o:Oper} (hw:Region.wanted o (yielded ops a.tmps)=false)
  (h:N (a.put o.dst undef) w):Step T P ops Q (some o) N a w:=by
 intro K hK
 rw [if_neg (by rw [hw];exact Bool.false_ne_true)]
 exact hK _ _ (Kep.refl _ w) h
theorem alone {r:Plan (Option Oper)} {a:Act} {w:World} {o:Oper} (h:Step T P ops Q (some o) (walk T P ops Q r) a w):walk T P ops Q (.alone (some o) r) a w:=h
theorem both {r s:Plan (Option Oper)} {a:Act} {w:World} {o o':Oper} (h:Step T P ops Q (some o) (walk T P ops Q r) a w) (h':Step T P ops Q (some o') (walk T P ops Q s) a w):walk T P ops Q (.both (some o) (some o') r s) a w:=⟨h,h'⟩
theorem done {a:Act} {w:World} (h:Q .normal a w):walk T P ops Q .done a w:=h
end
end Go.Proofs.YtdfibahafilklaaGreatDoor.RT
