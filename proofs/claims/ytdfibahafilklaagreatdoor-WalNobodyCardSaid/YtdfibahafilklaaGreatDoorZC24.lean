import Derived.Test.YtdfibahafilklaaGreatDoorZC23
set_option maxRecDepth 100000
set_option maxHeartbeats 8000000
set_option linter.unusedVariables false
set_option linter.unusedSimpArgs false
namespace Go.Proofs.YtdfibahafilklaaGreatDoor.DK
open Go.RowKit MM Go.Maps
def newD (q:Int):DiskD:=⟨[],q,0,false⟩
theorem new_obj (w:World) (q:Int):∃ S V,CObj S ((w.alloc (.map #[] 0)).alloc (.cells #[.map (some w.heap.size),.int .i64 q,.int .i64 0,.bool false] 111)) (w.heap.size+1) w.heap.size V 0 (newD q)∧∀ k,S k→w.heap.size≤k:=by
 refine ⟨fun k=>k=w.heap.size∨k=w.heap.size+1,fun _=>.slice none 0 0,⟨?_,rfl,by omega,by omega,⟨?_,fun f hf=>(List.not_mem_nil hf).elim,fun f hf=>(List.not_mem_nil hf).elim,fun f hf=>(List.not_mem_nil hf).elim,.inl rfl⟩,.inr rfl,fun k hk=>by simp;omega⟩,fun k hk=>by omega⟩
 ·have:=heap_alloc_new (w.alloc (.map #[] 0)) (.cells #[.map (some w.heap.size),.int .i64 q,.int .i64 0,.bool false] 111)
  rw [show (w.alloc (.map #[] 0)).heap.size=w.heap.size+1 by simp] at this
  exact this
 ·exact (MapV.made w).below ((Below.refl _ _).alloc (Nat.le_refl _) _)
theorem new_fits (q:Int) (h0:0≤q) (h1:q≤9223372036854775807):Fits (newD q):=⟨⟨trivial,fun f hf=>(List.not_mem_nil hf).elim⟩,by simp [newD],fun f hf=>(List.not_mem_nil hf).elim,fun f hf=>(List.not_mem_nil hf).elim,h0,h1⟩
def NewC (q:Int) (w:World) (e:Ending) (w':World):Prop :=
 ∃ S g mb V,e=.returned (.tuple #[.pointer (some ⟨g,0,none⟩),.int .i64 0])∧CObj S w' g mb V 0 (newD q)∧(∀ k,S k→w.heap.size≤k)∧Below w.heap.size w w'
theorem cnew_any (q:Int) (w:World) (h0:0≤q):Calls Tryz.prog 16 #[.int .i64 q] w (NewC q w):=by
 have hmm:=@run_makeMap Tryz.prog
 have t1:decide (q<0)=false:=by rw [decide_eq_false_iff_not];omega
 obtain ⟨S,V,h1,h2⟩:=new_obj w q
 have HF:=Lib.hid (show NewC q w (.returned (.tuple #[.pointer (some ⟨w.heap.size+1,0,none⟩),.int .i64 0])) _ from ⟨S,_,_,V,rfl,h1,h2,((Below.refl _ _).alloc (Nat.le_refl _) _).alloc (by simp) _⟩)
 clear h1 h2
 go_enter Tryz.func16,Tryz.ntmps16
 go_wp2_with fail
 go_ret2
 exact HF.out
theorem csize_any (S:Nat→Prop) (g mb:Nat) (V:List UInt8→Value) (c:Int) (d:DiskD) (n:List UInt8) (w:World) (h:CObj S w g mb V c d) (hn:n.length≤1000000000000) :
  Calls Tryz.prog 76 #[.pointer (some ⟨g,0,none⟩),.string ⟨n.toArray⟩] w fun e w' =>
   e=.returned (.tuple #[.int .i64 (if findE (namedL n) d.stopped (findL d.L n).isSome=0 then ((curB d n).length:Int) else 0),.bool (findE (namedL n) d.stopped (findL d.L n).isSome == 0)])∧Below w.heap.size w w':=by
 have hfind:=cfind_any S 0 g mb V c d (.slice none 0 0) [] n w h (Nat.zero_le _) hn (SIn.nil_ _ _) (by simp) (by simp)
 rw [ok_one] at hfind
 obtain ⟨p,cap,hv,_,_⟩:=own_slice (cur_own h.tab n)
 unfold FindC at hfind
 rw [hv] at hfind
 generalize findE (namedL n) d.stopped (findL d.L n).isSome=E at *
 generalize (curB d n).length=ln at *
 generalize (curS d n:Int)=sn at *
 have HFI:=Lib.hid hfind
 clear hfind h hv
 by_cases h0:E=0
 case' pos=>subst h0
 case' neg =>
  have t1:(E == 0)=false:=by rw [beq_eq_false_iff_ne];exact h0
  rw [if_neg h0] at HFI
  rw [if_neg h0,t1]
  have H0:=Lib.hid h0
  clear h0
 all_goals (
  go_enter Tryz.func76,Tryz.ntmps76
  go_wp2_with fail
  refine HFI.out.mono ?_
  rintro e W1 ⟨rfl,hb1⟩
  have HB:=Lib.hid (fun o=>hb1.alloc hb1.size o)
  clear hb1 HFI
  go_wp2_with fail
  refine (size_any _ _ _ _).mono ?_
  rintro e w' ⟨rfl,rfl⟩
  go_wp2_with fail
  go_ret2
  exact ⟨rfl,HB.out _⟩)
theorem own_empty0 (w:World) (B:Nat) (hB:B≤w.heap.size):OwnB B (w.alloc (.cells #[] 5)) (.slice (some ⟨w.heap.size,0,none⟩) 0 0) []:=own_lit w [] 5 B hB (by unfold maxLen;simp)
theorem clone_any (v:Value) (l:List UInt8) (w:World) (h:BRow w v l) (hl:l.length≤1000000000000):Calls Tryz.prog 132 #[v] w (PutLeft w.heap.size l w):=by
 obtain ⟨p,cap,rfl,hlc,_⟩:=h.shape
 have hq:=fun (w:World) (a:Option Addr) (n c:Nat)=>Lib.run_eql_slice_nil (P:=Tryz.prog) w 31 5 a n c 0 0 Tryz.underlying31
 cases p with
 | none =>
   have hl0:l=[]:=by
    obtain ⟨p',cap',hv,h1,h2,h3,h4⟩:=h
    simp only [Value.slice.injEq] at hv
    obtain ⟨rfl,hv2,hv3⟩:=hv
    have:=h3 rfl
    exact List.eq_nil_of_length_eq_zero (by omega)
   subst hl0
   have HF:=Lib.hid (show PutLeft w.heap.size [] w (.returned (.slice none 0 0)) w from ⟨_,rfl,World.ownsRow_nil _ _ _ _,Below.refl _ _⟩)
   clear h
   go_enter Tryz.func132,Tryz.ntmps132
   go_wp2_with fail
   go_ret
   exact HF.out
 | some a =>
   have HO:=Lib.hid (own_empty0 w w.heap.size (Nat.le_refl _))
   have HR:=Lib.hid (fun o=>BRow.below h ((Below.refl w.heap.size w).alloc (Nat.le_refl _) o))
   have HB:=Lib.hid (fun o=>(Below.refl w.heap.size w).alloc (Nat.le_refl _) o)
   clear h
   go_enter Tryz.func132,Tryz.ntmps132
   go_wp2_with (at_builtin;go_loud (refine wpList_append_bytes rfl _ _ rfl w.heap.size _ [] rfl HO.out _ l rfl (HR.out _) (by simp;omega) (by simp) ?_))
   intro v1 w1 hown hb
   have HF:=Lib.hid (show PutLeft w.heap.size l w (.returned v1) w1 from ⟨_,rfl,hown,(HB.out _).trans hb⟩)
   clear hown hb
   go_wp2_with fail
   go_ret
   exact HF.out
def partD (l:List UInt8) (a m:Int):List UInt8×Int:=if a<0∨(l.length:Int)<a∨m<0 then ([],5) else ((l.drop a.toNat).take m.toNat,0)
def PartC (r:List UInt8×Int) (w:World) (e:Ending) (w':World):Prop:=∃ v,e=.returned (.tuple #[v,.int .i64 r.2])∧BRow w' v r.1∧Below w.heap.size w w'
theorem part_any (v:Value) (l:List UInt8) (a m:Int) (w:World) (h:BRow w v l) (hl:l.length≤1000000000000) (ha0 : -9223372036854775808≤a) (ha1:a≤9223372036854775807) (hm0 : -9223372036854775808≤m) (hm1:m≤9223372036854775807) :
  Calls Tryz.prog 109 #[v,.int .i64 a,.int .i64 m] w (PartC (partD l a m) w):=by
 obtain ⟨p,cap,rfl,hlc,hcm⟩:=h.shape
 unfold maxLen at hcm
 obtain ⟨R,hR⟩:∃ R,partD l a m=R:=⟨_,rfl⟩
 rw [hR]
 unfold partD at hR
 have HR:=Lib.hid hR
 clear hR
 have HN:=Lib.hid (show ∀ k,PartC ([],k) w (.returned (.tuple #[.slice none 0 0,.int .i64 k])) w from fun k=>⟨_,rfl,BRow.nil_ _,Below.refl _ _⟩)
 obtain hc | hc | hc | hc:a<0∨(0≤a∧(l.length:Int)<a)∨(0≤a∧a≤(l.length:Int)∧m<0)∨(0≤a∧a≤(l.length:Int)∧0≤m):=by omega
 ·obtain rfl:R=([],5):=by rw [← HR.out,if_pos (.inl hc)]
  have t1:decide (a<0)=true:=by rw [decide_eq_true_eq];omega
  clear HR h
  go_enter Tryz.func109,Tryz.ntmps109
  go_wp2_with fail
  go_ret2
  exact HN.out 5
 ·obtain rfl:R=([],5):=by rw [← HR.out,if_pos (.inr (.inl hc.2))]
  have t1:decide (a<0)=false:=by rw [decide_eq_false_iff_not];omega
  have t2:decide (a>(l.length:Int))=true:=by rw [decide_eq_true_eq];omega
  clear HR h
  go_enter Tryz.func109,Tryz.ntmps109
  go_wp2_with fail
  go_ret2
  exact HN.out 5
 ·obtain rfl:R=([],5):=by rw [← HR.out,if_pos (.inr (.inr hc.2.2))]
  have t1:decide (a<0)=false:=by rw [decide_eq_false_iff_not];omega
  have t2:decide (a>(l.length:Int))=false:=by rw [decide_eq_false_iff_not];omega
  have t3:decide (m<0)=true:=by rw [decide_eq_true_eq];omega
  clear HR h
  go_enter Tryz.func109,Tryz.ntmps109
  go_wp2_with fail
  go_ret2
  exact HN.out 5
 ·obtain ⟨i,rfl⟩:∃ i:Nat,a=(i:Int):=⟨a.toNat,by omega⟩
  obtain ⟨j,rfl⟩:∃ j:Nat,m=(j:Int):=⟨m.toNat,by omega⟩
  have hi:i≤l.length:=by omega
  obtain ⟨q,hq⟩:∃ q,min j (l.length - i)=q:=⟨_,rfl⟩
  obtain rfl:R=((l.drop i).take q,0):=by
   rw [← HR.out,if_neg (by omega),← hq]
   simp only [Int.toNat_natCast]
   congr 1
   rw [List.take_eq_take_iff,List.length_drop]
   omega
  have hqm:(if (l.length - i:Nat)<j then ((l.length - i:Nat):Int) else (j:Int))=(q:Int):=by rw [← hq];split<;>omega
  have hq1:q≤l.length - i:=by omega
  have hD:=BIn.drop3 h i hi
  have HD1:=Lib.hid (fun e=>(hD.1 e).take q hq1)
  have HD2:=Lib.hid (fun e=>(hD.2 e).take q hq1)
  have hwr:IntKind.i64.wrap ((l.length:Int) - (i:Int))=((l.length - i:Nat):Int):=by rw [IntKind.wrap_i64];omega
  have t1:decide ((i:Int)<0)=false:=by rw [decide_eq_false_iff_not];omega
  have t2:decide ((i:Int)>(l.length:Int))=false:=by rw [decide_eq_false_iff_not];omega
  have t3:decide ((j:Int)<0)=false:=by rw [decide_eq_false_iff_not];omega
  have hx:((l.drop i).take q).length=q:=by rw [List.length_take,List.length_drop];omega
  have hx2:((l.drop i).take q).length≤1000000000000:=by omega
  obtain ⟨X,hX⟩:∃ X,(l.drop i).take q=X:=⟨_,rfl⟩
  rw [hX] at HD1 HD2 hx2 ⊢
  clear hq hD hc HR h hX hx
  go_enter Tryz.func109,Tryz.ntmps109
  go_wp2_with fail
  case inl =>
   refine (clone_any _ X _ (HD1.out (by assumption)) hx2).mono ?_
   rintro e w1 ⟨v1,rfl,hown,hb⟩
   have HF:=Lib.hid (show PartC (X,0) w (.returned (.tuple #[v1,.int .i64 0])) w1 from ⟨_,rfl,hown.brow,hb⟩)
   clear hown hb
   go_wp2_with fail
   go_ret2
   exact HF.out
  case inr =>
   refine (clone_any _ X _ (HD2.out (by assumption)) hx2).mono ?_
   rintro e w1 ⟨v1,rfl,hown,hb⟩
   have HF:=Lib.hid (show PartC (X,0) w (.returned (.tuple #[v1,.int .i64 0])) w1 from ⟨_,rfl,hown.brow,hb⟩)
   clear hown hb
   go_wp2_with fail
   go_ret2
   exact HF.out
end Go.Proofs.YtdfibahafilklaaGreatDoor.DK
namespace Go.Proofs.YtdfibahafilklaaGreatDoor.DK
open Go.RowKit MM Go.Maps
def creadD (d:DiskD) (n:List UInt8) (a m:Int):List UInt8×Int :=
 if findE (namedL n) d.stopped (findL d.L n).isSome=0 then partD (curB d n) a m else ([],findE (namedL n) d.stopped (findL d.L n).isSome)
theorem cread_any (S:Nat→Prop) (g mb:Nat) (V:List UInt8→Value) (c:Int) (d:DiskD) (n:List UInt8) (a m:Int) (w:World) (h:CObj S w g mb V c d) (hF:Fits d) (hn:n.length≤1000000000000)
  (ha0 : -9223372036854775808≤a) (ha1:a≤9223372036854775807) (hm0 : -9223372036854775808≤m) (hm1:m≤9223372036854775807) :
  Calls Tryz.prog 60 #[.pointer (some ⟨g,0,none⟩),.string ⟨n.toArray⟩,.int .i64 a,.int .i64 m] w (PartC (creadD d n a m) w):=by
 have hfind:=cfind_any S 0 g mb V c d (.slice none 0 0) [] n w h (Nat.zero_le _) hn (SIn.nil_ _ _) (by simp) (by simp)
 rw [ok_one] at hfind
 obtain ⟨p,cap,hv,_,_⟩:=own_slice (cur_own h.tab n)
 have hcl:(curB d n).length≤67108864:=by
  unfold curB
  cases hf:findL d.L n with
  | none=>simp
  | some f=>exact hF.bytes f (find_mem hf).1
 have hrow:=cur_own h.tab n
 unfold FindC at hfind
 unfold creadD
 rw [hv] at hfind hrow
 have HP:=Lib.hid (fun W (hW:Below w.heap.size w W)=>part_any _ (curB d n) a m W (BRow.below hrow.brow hW) (by omega) ha0 ha1 hm0 hm1)
 generalize findE (namedL n) d.stopped (findL d.L n).isSome=E at *
 generalize partD (curB d n) a m=R at *
 generalize (curB d n).length=ln at *
 generalize (curS d n:Int)=sn at *
 have HFI:=Lib.hid hfind
 clear hfind h hv hrow
 by_cases h0:E=0
 ·subst h0
  rw [if_pos rfl]
  rw [if_pos rfl] at HFI
  go_enter Tryz.func60,Tryz.ntmps60
  go_wp2_with fail
  refine HFI.out.mono ?_
  rintro e W1 ⟨rfl,hb1⟩
  have HB:=Lib.hid (fun o=>hb1.alloc hb1.size o)
  clear hb1 HFI
  go_wp2_with fail
  refine (HP.out _ (HB.out _)).mono ?_
  rintro e w2 ⟨v2,rfl,hr2,hb2⟩
  have HF:=Lib.hid (show PartC R w (.returned (.tuple #[v2,.int .i64 R.2])) w2 from ⟨_,rfl,hr2,(HB.out _).trans (hb2.mono (HB.out _).size)⟩)
  clear hr2 hb2
  go_wp2_with fail
  go_ret2
  exact HF.out
 ·have t1:(E == 0)=false:=by rw [beq_eq_false_iff_ne];exact h0
  have t2:(E != 0)=true:=by simp [bne,t1]
  rw [if_neg h0]
  rw [if_neg h0] at HFI
  clear h0 HP
  go_enter Tryz.func60,Tryz.ntmps60
  go_wp2_with fail
  refine HFI.out.mono ?_
  rintro e W1 ⟨rfl,hb1⟩
  have HF:=Lib.hid (show ∀ o,PartC ([],E) w (.returned (.tuple #[.slice none 0 0,.int .i64 E])) (W1.alloc o) from fun o=>⟨_,rfl,BRow.nil_ _,hb1.alloc hb1.size o⟩)
  clear hb1 HFI
  go_wp2_with fail
  go_ret2
  exact HF.out _
end Go.Proofs.YtdfibahafilklaaGreatDoor.DK
