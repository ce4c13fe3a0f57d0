/-
  
-/
import Derived.Test.YtdijhifdjbnkfaaGreatZA14
import Derived.Test.YtdijhifdjbnkfaaGreatZA18
import Derived.Laws.Cover1
import Derived.Test.YtdijhifdjbnkfaaGreatZA12
import Derived.Test.YtdijhifdjbnkfaaGreatZA8
import Derived.Test.YtdijhifdjbnkfaaGreatZA15
import Derived.Laws.Concat
import Derived.Test.YtdijhifdjbnkfaaGreatZA20
import Derived.Test.YtdijhifdjbnkfaaGreatZA19
import Derived.Test.YtdijhifdjbnkfaaGreatZA9
set_option linter.unusedVariables false
namespace Go.Proofs.YtdijhifdjbnkfaaGreat.DT
open Go Go.RowKit Go.Proofs.YtdijhifdjbnkfaaGreat.MM Go.Proofs.YtdijhifdjbnkfaaGreat.DM
open Go.Proofs.YtdijhifdjbnkfaaGreat.EM (lessL less_bytes)
end Go.Proofs.YtdijhifdjbnkfaaGreat.DT
set_option linter.unusedVariables false
namespace Go.Proofs.YtdijhifdjbnkfaaGreat.DT
open Go Go.RowKit Go.Proofs.YtdijhifdjbnkfaaGreat.MM Go.Proofs.YtdijhifdjbnkfaaGreat.DM Go.Proofs.YtdijhifdjbnkfaaGreat.VM Go.Proofs.YtdijhifdjbnkfaaGreat.VP Go.Proofs.YtdijhifdjbnkfaaGreat.GB
theorem bytesL_ne (n:Nat):bytesL n≠[]:=fun h=>by
 have:=bytesL_length n
 rw [h] at this
 simp at this
theorem textL_ne (s:List UInt8):textL s≠[]:=fun h=>bytesL_ne _ (List.append_eq_nil_iff.1 h).1
set_option maxRecDepth 100000 in
theorem rnum_any (z:Int) (w:World) (h0:0≤z) (h1:z≤9223372036854775807):Calls Tryz.prog 93 #[.int .i64 z] w (PutLeft w.heap.size (bytesL z.toNat) w):=by
 obtain ⟨n,rfl⟩:=Int.eq_ofNat_of_zero_le h0
 have K:=Lib.hid (rbytes_any n w (by omega))
 have e:IntKind.u64.wrap (n:Int)=(n:Int):=by rw [IntKind.wrap_u64];omega
 rw [Int.toNat_natCast]
 go_enter Tryz.func93,Tryz.ntmps93
 go_wp2_with fail
 refine K.out.mono ?_
 rintro e w1 ⟨v1,rfl,hown1,hb1⟩
 have HO:=Lib.hid hown1
 clear hown1
 go_wp2_with fail
 go_ret
 exact ⟨_,rfl,HO.out,hb1⟩
theorem part_drop (l:List UInt8) (k:Nat):(⟨l.toArray⟩:ByteArray).extract k l.length=⟨(l.drop k).toArray⟩:=by
 rw [text_part,List.take_of_length_le (by rw [List.length_drop];exact Nat.le_refl _)]
def headT (l:List Ent) (i:Nat):List UInt8:=((l.take i).getLast?.map (·.1)).getD []
theorem headT_next {l:List Ent} {i:Nat} (hi:i<l.length):headT l (i+1)=l[i].1:=by
 unfold headT
 rw [List.take_succ_eq_append_getElem hi,List.getLast?_append,List.getLast?_singleton]
 rfl
theorem block_next {l:List Ent} {i:Nat} (hi:i<l.length):blockB [] (l.take (i+1))=blockB [] (l.take i)++entB (headT l i) l[i]:=by
 rw [List.take_succ_eq_append_getElem hi,blockB_snoc]
 rfl
end Go.Proofs.YtdijhifdjbnkfaaGreat.DT
set_option linter.unusedVariables false
namespace Go.Proofs.YtdijhifdjbnkfaaGreat.DT
open Go Go.RowKit Go.Proofs.YtdijhifdjbnkfaaGreat.MM Go.Proofs.YtdijhifdjbnkfaaGreat.DM Go.Proofs.YtdijhifdjbnkfaaGreat.VM Go.Proofs.YtdijhifdjbnkfaaGreat.VP Go.Proofs.YtdijhifdjbnkfaaGreat.GB
theorem chunk_ok {l:List Ent} (h:∀ x∈l,okX x=true) (j:Nat):∀ x∈chunk l j,okX x=true:=fun x hx=>h x (List.mem_of_mem_drop (List.mem_of_mem_take hx))
theorem chunk_len (l:List Ent) (j:Nat):(chunk l j).length≤16:=by unfold chunk;rw [List.length_take];omega
def CodeD (l:List UInt8) (x:Int) (w:World) (e:Ending) (w':World):Prop:=∃ v,e=.returned (.tuple #[v,.int .i64 x])∧OwnB w.heap.size w' v l∧Below w.heap.size w w'
end Go.Proofs.YtdijhifdjbnkfaaGreat.DT
set_option linter.unusedVariables false
namespace Go.Proofs.YtdijhifdjbnkfaaGreat.DT
open Go Go.RowKit Go.Proofs.YtdijhifdjbnkfaaGreat.MM Go.Proofs.YtdijhifdjbnkfaaGreat.DM Go.Proofs.YtdijhifdjbnkfaaGreat.VM Go.Proofs.YtdijhifdjbnkfaaGreat.VP
theorem text_join (a b:List UInt8):(⟨a.toArray⟩:ByteArray)++⟨b.toArray⟩=⟨(a++b).toArray⟩:=by
 apply ByteArray.ext
 rw [ByteArray.data_append]
 simp
theorem text_head (l:List UInt8) (k:Nat):(⟨l.toArray⟩:ByteArray).extract 0 k=⟨(l.take k).toArray⟩:=by rw [text_part];rfl
end Go.Proofs.YtdijhifdjbnkfaaGreat.DT
set_option linter.unusedVariables false
namespace Go.Proofs.YtdijhifdjbnkfaaGreat.DT
open Go Go.RowKit Go.Proofs.YtdijhifdjbnkfaaGreat.MM Go.Proofs.YtdijhifdjbnkfaaGreat.DM Go.Proofs.YtdijhifdjbnkfaaGreat.VM
set_option maxRecDepth 100000 in
set_option maxHeartbeats 4000000 in
theorem entr_any (B g:Nat) (A l:List UInt8) (o:Bool) (w:World) (hA:A.length≤65) (h:Rd B w g l o) (hB:B≤g) :
  Calls Tryz.prog 161 #[.pointer (some ⟨g,0,none⟩),.string ⟨A.toArray⟩] w (Took B g (entV (entSt A l o).1) (entSt A l o).2.1 (entSt A l o).2.2 w):=by
 have hmx:Tryz.prog.follows .mixedOrders=true:=by kernel_rfl
 obtain ⟨R,hR⟩:∃ R,w.heap.size=R:=⟨_,rfl⟩
 have hgR:g<R:=by rw [← hR];exact h.lt
 obtain ⟨wa,hwa⟩:∃ wa,w.alloc (.cells #[.string ⟨#[]⟩,.int .i64 0,.int .i64 0,.int .i64 0] 102)=wa:=⟨_,rfl⟩
 have HKA:Hid (Kep (fun b=>b≠g) w wa):=Lib.hid (by rw [← hwa];exact kep_alloc _ _ _)
 have FR0:Hid (Four wa R 102 (.string ⟨#[]⟩) (.int .i64 0) (.int .i64 0) (.int .i64 0)):=Lib.hid (by rw [← hwa,← hR];exact four_new w 102 _ _ _ _)
 have hra:Rd B wa g l o:=h.keep (S:=fun _=>True) (by rw [← hwa];exact kep_alloc _ _ _) trivial (fun _ _=>trivial) (by omega)
 have HSA:Hid (wa.heap.size=R+1):=Lib.hid (by rw [← hwa,← hR];simp)
 obtain ⟨⟨k,l1,o1⟩,e1⟩:∃ s,numSt A.length l o=s:=⟨_,rfl⟩
 have hk:k≤A.length:=by have:=num_le A.length l o;rw [e1] at this;exact this
 obtain ⟨⟨t,l2,o2⟩,e2⟩:∃ s,txtSt (65 - (k:Int)) l1 o1=s:=⟨_,rfl⟩
 have ht:(t.length:Int)≤65 - (k:Int):=by have:=txt_len (65 - (k:Int)) l1 o1;rw [e2] at this;dsimp only at this;omega
 obtain ⟨T,hT⟩:∃ T,A.take k++t=T:=⟨_,rfl⟩
 have hTl:T.length≤65:=by rw [← hT,List.length_append,List.length_take];omega
 have e3:termSt A l o=(T,l2,o2):=by unfold termSt;rw [e1];dsimp only;rw [e2];dsimp only;rw [hT]
 obtain ⟨⟨l3,o3⟩,e4⟩:∃ s,heldSt A l o=s:=⟨_,rfl⟩
 have e5:(if sharedL A T=k then (l2,o2) else ([],true))=(l3,o3):=by rw [← e4];unfold heldSt;rw [e3,e1]
 obtain ⟨⟨a,l4,o4⟩,e6⟩:∃ s,numSt 67108864 l3 o3=s:=⟨_,rfl⟩
 obtain ⟨⟨b,l5,o5⟩,e7⟩:∃ s,numSt 67108864 l4 o4=s:=⟨_,rfl⟩
 obtain ⟨⟨c,l6,o6⟩,e8⟩:∃ s,numSt 67108864 l5 o5=s:=⟨_,rfl⟩
 have hE:entSt A l o=((T,((a:Int),((b:Int),(c:Int)))),l6,o6):=by
  unfold entSt trioSt
  rw [e4,e3]
  dsimp only
  rw [e6]
  dsimp only
  rw [e7]
  dsimp only
  rw [e8]
 rw [hE]
 have HNUM:=Lib.hid (fun m l o W (hm:m≤1099511627776) (h:Rd B W g l o)=>number_any B g m l o W hm h hB)
 have HTXT:=Lib.hid (fun W (h:Rd B W g l1 o1)=>text_any B g (65 - (k:Int)) l1 o1 W (by omega) (by omega) h hB)
 have HGO:=Lib.hid (fun W (h:Rd B W g l2 o2)=>goon_any B g l2 [] o2 (.slice none 0 0) 110 W h hB (BIn.nil_ _ _))
 rw [e2] at HTXT
 have H1:=HNUM.out A.length l o wa (by omega) hra
 rw [e1] at H1
 have H1:=Lib.hid H1
 have HE5:=Lib.hid e5
 have hza:=str_sz A
 have hzt:=str_sz T
 have HSH:=Lib.hid (fun W=>shared_any A T W (by omega) (by omega))
 have hcat:=text_join (A.take k) t
 have hhead:=text_head A k
 have hadd:=fun W=>run_string_add_sum (P:=Tryz.prog) W ⟨(A.take k).toArray⟩ ⟨t.toArray⟩ (by rw [str_sz,str_sz,List.length_take];omega)
 rw [hT] at hcat
 simp only [hcat] at hadd
 have hki:(k:Int)≤(A.length:Int):=by omega
 have hw65:IntKind.i64.wrap (65 - (k:Int))=65 - (k:Int):=by rw [IntKind.wrap_i64];omega
 have HWA:=Lib.hid hwa
 have HB:=Lib.hid hB
 have HGR:=Lib.hid hgR
 have H6:=Lib.hid e6
 have H7:=Lib.hid e7
 have H8:=Lib.hid e8
 clear hwa h hra e1 e2 e3 e4 e5 e6 e7 e8 hE hT hB hgR
 go_enter Tryz.func161,Tryz.ntmps161
 go_wp2_with fail
 rw [HWA.out]
 refine H1.out.mono ?_
 rintro e w1 ⟨rfl,h1,k1⟩
 have hs1:R+1≤w1.heap.size:=by have:=k1.size;have:=HSA.out;omega
 have FR1:=Lib.hid (FR0.out.keep k1 (by have:=HGR.out;omega))
 have K1:=Lib.hid (HKA.out.trans k1)
 obtain ⟨wd,hwd⟩:∃ wd,w1.drew=wd:=⟨_,rfl⟩
 have R1:Hid (Rd B wd g l1 o1):=Lib.hid (by rw [← hwd];exact Rd.keep h1 (S:=fun _=>True) (kep_below _ (Below.refl _ _).drew) trivial (fun _ _=>trivial) (by have:=HB.out;have:=HGR.out;omega))
 have FRD:Hid (Four wd R 102 (.string ⟨#[]⟩) (.int .i64 0) (.int .i64 0) (.int .i64 0)):=Lib.hid (by rw [← hwd];exact FR1.out.below (Below.refl w1.heap.size _).drew (by omega))
 have KD:Hid (Kep (fun b=>b≠g) w wd):=Lib.hid (by rw [← hwd];exact K1.out.trans (kep_below _ (Below.refl _ _).drew))
 have hsd:R+1≤wd.heap.size:=by rw [← hwd];simpa using hs1
 have HWD:=Lib.hid hwd
 clear hwd h1 k1 H1 FR0 FR1 K1 hs1 HKA HWA
 go_wp2_with fail
 refine RK.begin_ (T:=fun b=>b≠g) [(0,true),(1,true),(2,true),(3,true),(4,true),(5,true),(6,false),(7,true),(8,true)] (by kernel_rfl) (by kernel_rfl) rfl (by kernel_rfl) (fun _ _ d _ _ h=>by cases d<;>exact h) ?_
 simp only [RK.ordered,List.map_cons,List.map_nil,List.getElem?_toArray,List.getElem?_cons_succ,List.getElem?_cons_zero]
 rw [HWD.out]
 repeat ((first | (refine RK.take (by rfl) (by intro W hW;go_simp;with_reducible rfl) ?_));simp only [Act.put,List.setIfInBounds_toArray,List.set_cons_zero,List.set_cons_succ])
 refine RK.alone (by rfl) (fun K hK => ?_)
 go_simp
 refine (HTXT.out wd R1.out).mono ?_
 rintro e w2 ⟨rfl,h2,k2⟩
 go_simp
 refine hK.out _ _ k2 ?_
 clear hK K
 have hs2:R+1≤w2.heap.size:=by have:=k2.size;omega
 have FR2:=Lib.hid (FRD.out.keep k2 (by have:=HGR.out;omega))
 have K2:=Lib.hid (KD.out.trans k2)
 have R2:=Lib.hid h2
 clear h2 k2 FRD KD R1 hsd
 repeat ((first | (refine RK.take (by rfl) (by intro W hW;go_simp;with_reducible rfl) ?_));simp only [Act.put,List.setIfInBounds_toArray,List.set_cons_zero,List.set_cons_succ])
 refine RK.done ?_
 obtain ⟨n,hn⟩:∃ n,sharedL A T=n:=⟨_,rfl⟩
 rw [hn] at HSH HE5
 have hnb:=(sharedL_le A T).1
 rw [hn] at hnb
 clear hn
 rcases Classical.em (n=k) with hs | hs
 case' inl =>
  subst hs
  have he:=HE5.out
  rw [if_pos rfl] at he
  obtain ⟨rfl,rfl⟩:=Prod.mk.inj he
  clear he HE5
  go_wp2_with fail
  refine (HSH.out _).mono ?_
  rintro e w3 ⟨rfl,m,hm⟩
  have hk3:Kep (fun _=>True) w2 w3:=by rw [hm];exact kep_below _ (MM.below_drewN (Below.refl _ _) m)
  have hs3:R+1≤w3.heap.size:=by have:=hk3.size;omega
  have FR3:=Lib.hid (FR2.out.keep hk3 trivial)
  have K3:=Lib.hid (K2.out.trans (hk3.mono' fun _ _ _=>trivial))
  have R3:=Lib.hid (R2.out.keep hk3 trivial (fun _ _=>trivial) (by have:=HB.out;have:=HGR.out;omega))
  clear hm hk3 hs2 FR2 K2 R2
 case' inr =>
  have t0:((n:Int) != (k:Int))=true:=by rw [bne_iff_ne];omega
  have he:=HE5.out
  rw [if_neg hs] at he
  obtain ⟨rfl,rfl⟩:=Prod.mk.inj he
  clear he HE5 hs
  go_wp2_with fail
  refine (HSH.out _).mono ?_
  rintro e w2b ⟨rfl,m,hm⟩
  have hk3:Kep (fun _=>True) w2 w2b:=by rw [hm];exact kep_below _ (MM.below_drewN (Below.refl _ _) m)
  have hs3:R+1≤w2b.heap.size:=by have:=hk3.size;omega
  have FR2b:=Lib.hid (FR2.out.keep hk3 trivial)
  have K2b:=Lib.hid (K2.out.trans (hk3.mono' fun _ _ _=>trivial))
  have HQ:=Lib.hid (HGO.out w2b (R2.out.keep hk3 trivial (fun _ _=>trivial) (by have:=HB.out;have:=HGR.out;omega)))
  clear hm hk3 hs2 FR2 K2 R2
  go_wp2_with fail
  refine HQ.out.mono ?_
  rintro e w3 ⟨rfl,h3,k3⟩
  have hs4:R+1≤w3.heap.size:=by have:=k3.size;omega
  have FR3:=Lib.hid (FR2b.out.keep k3 (by have:=HGR.out;omega))
  have K3:=Lib.hid (K2b.out.trans k3)
  have h3':Rd B w3 g [] true:=by have:=h3;simpa using this
  have R3:=Lib.hid h3'
  clear h3 h3' k3 hs3 FR2b K2b HQ
 all_goals
  have N4:=HNUM.out 67108864 _ _ w3 (by omega) R3.out
  rw [H6.out] at N4
  have N4:=Lib.hid N4
  go_wp2_with fail
  refine N4.out.mono ?_
  rintro e w4 ⟨rfl,h4,k4⟩
  have hz4:R+1≤w4.heap.size:=by have:=k4.size;omega
  have FR4:=Lib.hid (FR3.out.keep k4 (by have:=HGR.out;omega))
  have K4:=Lib.hid (K3.out.trans k4)
  have R4:=Lib.hid h4
  clear h4 k4 FR3 K3 R3 N4
  have N5:=HNUM.out 67108864 _ _ w4 (by omega) R4.out
  rw [H7.out] at N5
  have N5:=Lib.hid N5
  go_wp2_with fail
  refine N5.out.mono ?_
  rintro e w5 ⟨rfl,h5,k5⟩
  have hz5:R+1≤w5.heap.size:=by have:=k5.size;omega
  have FR5:=Lib.hid (FR4.out.keep k5 (by have:=HGR.out;omega))
  have K5:=Lib.hid (K4.out.trans k5)
  have R5:=Lib.hid h5
  clear h5 k5 FR4 K4 R4 N5
  have N6:=HNUM.out 67108864 _ _ w5 (by omega) R5.out
  rw [H8.out] at N6
  have N6:=Lib.hid N6
  go_wp2_with fail
  refine N6.out.mono ?_
  rintro e w6 ⟨rfl,h6,k6⟩
  have hz6:R+1≤w6.heap.size:=by have:=k6.size;omega
  have FR6:=Lib.hid (FR5.out.keep k6 (by have:=HGR.out;omega))
  have K6:=Lib.hid (K5.out.trans k6)
  have R6:=Lib.hid h6
  clear h6 k6 FR5 K5 R5 N6
  obtain ⟨m1,m2,m3,m4,⟨k1,k2⟩,⟨k3,k4⟩,k5,k6⟩:=FR6.out.all (.string ⟨T.toArray⟩) (.int .i64 (a:Int)) (.int .i64 (b:Int))
  have n0:=FR6.out.c0
  have HX:=Lib.hid (FR6.out.set (.string ⟨T.toArray⟩) (.int .i64 (a:Int)) (.int .i64 (b:Int)) (.int .i64 (c:Int)))
  have hk7:Kep (fun b=>b≠R) w6 _:=kep_set4 (g:=R) (.string ⟨T.toArray⟩) (.int .i64 (a:Int)) (.int .i64 (b:Int)) (.int .i64 (c:Int))
  have K7:=Lib.hid (K6.out.andThen hk7 fun i hi _=>by omega)
  have R7:=Lib.hid (R6.out.keep hk7 (by have:=HGR.out;omega) (fun k hk=>by have:=HB.out;have:=HGR.out;omega) (by have:=HB.out;have:=HGR.out;omega))
  clear hk7 FR6 K6 R6
  go_wp2_with fail
  refine bodyPost_ret (results_four1 (p:=4) rfl Tryz.underlying102 rfl infoEnt _ _ R _ _ _ _ rfl HX.out) rfl ?_
  exact ⟨rfl,R7.out,K7.out⟩
end Go.Proofs.YtdijhifdjbnkfaaGreat.DT
set_option linter.unusedVariables false
namespace Go.Proofs.YtdijhifdjbnkfaaGreat.DT
open Go Go.RowKit Go.Proofs.YtdijhifdjbnkfaaGreat.MM Go.Proofs.YtdijhifdjbnkfaaGreat.DM Go.Proofs.YtdijhifdjbnkfaaGreat.VM
def EntsOk (s:List Ent×List UInt8×Bool) (w:World) (e:Ending) (w':World):Prop :=
 ∃ v',e=.returned (.tuple #[v',.bool (!s.2.2&&decide (s.2.1=[]))])∧OwnX entC 102 w.heap.size (fun _=>False) w' v' s.1∧Below w.heap.size w w'
theorem ownx_base {α:Type} {C:Codec α} {e:TypeId} {B B':Nat} {S:Nat→Prop} {w:World} {v:Value} {es:List α} (h:OwnX C e B S w v es) (hB:B'≤B):OwnX C e B' S w v es:=by
 obtain ⟨raw,h1,h2⟩:=h
 refine ⟨raw,⟨h1.1,?_⟩,h2⟩
 rcases h1.2 with h0 | ⟨g,cap,cur,hv,hg,rest⟩
 ·exact .inl h0
 ·exact .inr ⟨g,cap,cur,hv,Nat.le_trans hB hg,rest⟩
def lenV:Value→Nat | .slice _ n _=>n | _=>0
theorem ents_nil (f:Nat) (A:List UInt8) (acc:List Ent) (o:Bool):entsSt f A acc [] o=(acc,[],o):=by cases f<;>simp [entsSt]
theorem ents_next {f:Nat} {A L:List UInt8} {acc:List Ent} {o:Bool} (hl:L≠[]) (hf:0<f):entsSt f A acc L o=entsSt (f - 1) (entSt A L o).1.1 (acc++[(entSt A L o).1]) (entSt A L o).2.1 (entSt A L o).2.2:=by
 obtain ⟨f,rfl⟩:∃ g,f=g+1:=⟨f - 1,by omega⟩
 rw [entsSt,if_neg hl]
 rfl
theorem ents_end {w wr:World} {s:List Ent×List UInt8×Bool} {lv:Value} {b:Bool} (ho:OwnX entC 102 w.heap.size (fun _=>False) wr lv s.1) (hb:Below w.heap.size w wr) (h:(!s.2.2&&decide (s.2.1=[]))=b) (m:Nat):EntsOk s w (.returned (.tuple #[lv,.bool b])) (wr.drewN m) :=
 ⟨lv,by rw [h],ho.keep (kep_below (fun _=>True) (MM.below_drewN (Below.refl _ _) m)) (fun _ _ h=>trivial) (fun _ _=>trivial),MM.below_drewN hb m⟩
set_option maxRecDepth 100000 in
set_option maxHeartbeats 4000000 in
theorem entsof_any (B:Nat) (v:Value) (l:List UInt8) (w:World) (hv:BIn B w v l) (hB:B≤w.heap.size):Calls Tryz.prog 104 #[v] w (EntsOk (entsSt 16 [] [] l false) w):=by
 obtain ⟨R,hR⟩:∃ R,w.heap.size=R:=⟨_,rfl⟩
 obtain ⟨p0,c0,rfl,_⟩:=hv.shape
 obtain ⟨wa,hwa⟩:∃ wa,w.alloc (.cells #[.slice p0 l.length c0,.bool false] 166)=wa:=⟨_,rfl⟩
 have hba:Below w.heap.size w wa:=by rw [← hwa];exact (Below.refl _ _).alloc (Nat.le_refl _) _
 have HRA:Hid (Rd B wa R l false):=Lib.hid (by
  refine ⟨.slice p0 l.length c0,?_,hv.below (hba.mono hB)⟩
  rw [← hwa,← hR]
  exact heap_alloc_new _ _)
 have HBA:Hid (Below w.heap.size w wa):=Lib.hid hba
 have HSA:Hid (wa.heap.size=R+1):=Lib.hid (by rw [← hwa,← hR];simp)
 obtain ⟨FIN,hF⟩:∃ f,entsSt 16 [] [] l false=f:=⟨_,rfl⟩
 have HF0:=Lib.hid hF
 rw [hF]
 have HO0:=Lib.hid (OwnX.nil_ (C:=entC) 102 (R+1) (fun _=>False) wa)
 have HENT:=Lib.hid (fun A l o W (hA:A.length≤65) (h:Rd B W R l o)=>entr_any B R A l o W hA h (by omega))
 have HBR:Hid (B≤R):=Lib.hid (by omega)
 have HWA:=Lib.hid hwa
 clear hwa hba hv hB hF
 go_enter Tryz.func104,Tryz.ntmps104
 go_wp2_with fail
 rw [HWA.out]
 go_loopw [2,5] (fun lv av wr=>∃ (acc:List Ent) (A:List UInt8) (L:List UInt8) (o:Bool),av=.string ⟨A.toArray⟩∧A.length≤65∧acc.length≤16∧Hid (entsSt (16 - acc.length) A acc L o=FIN)∧Hid (Rd B wr R L o)∧Hid (OwnX entC 102 (R+1) (fun _=>False) wr lv acc)∧Hid (Below w.heap.size w wr)∧Hid (R+1≤wr.heap.size)) (fun lv _ _=>16 - (lenV lv))
 case atStart=>exact ⟨[],[],l,false,rfl,by simp,by simp,HF0,HRA,HO0,HBA,Lib.hid (by have:=HSA.out;omega)⟩
 case round =>
  obtain ⟨acc,A,L,o,rfl,hA,hacc,HF,HRD,HO,HBW,HSW⟩:=hrel
  clear HF0 HRA HO0 HBA HSA HWA
  obtain ⟨pl,cl,rfl,hlc,hlm,_⟩:=HO.out.any.shape
  obtain ⟨v0,hc0,hv0⟩:=HRD.out
  obtain ⟨p1,c1,rfl,_⟩:=hv0.shape
  have f0:wr.cell? ⟨R,0,none⟩=some (.slice p1 L.length c1):=by rw [cell_of_row wr R 0 _ _ _ hc0];rfl
  have f1:wr.cell? ⟨R,1,none⟩=some (.bool o):=by rw [cell_of_row wr R 1 _ _ _ hc0];rfl
  clear hc0 hv0
  obtain ⟨n,hn⟩:∃ n,L.length=n:=⟨_,rfl⟩
  rw [hn] at f0
  have HN:=Lib.hid hn
  have HOI:=HO
  by_cases hL:n=0
  ·have hLe:L=[]:=List.eq_nil_of_length_eq_zero (by omega)
   have hfin:=HF.out
   rw [hLe,ents_nil] at hfin
   have q1:decide ((n:Int)>0)=false:=by rw [decide_eq_false_iff_not];omega
   have q2:decide (0<n)=false:=by rw [decide_eq_false_iff_not];omega
   have q3:((n:Int) == 0)=true:=by rw [beq_iff_eq];omega
   subst hfin
   cases o with
   | true =>
     clear hn hL hLe HN HF HENT HRD
     go_wp2_with fail
     go_quiet (fail)
     go_wp2_with fail
     go_ret2
     exact ents_end (ownx_base HO.out (by omega)) HBW.out (by rfl) _
   | false =>
     clear hn hL hLe HN HF HENT HRD
     go_wp2_with fail
     go_quiet (fail)
     go_wp2_with fail
     go_ret2
     exact ents_end (ownx_base HO.out (by omega)) HBW.out (by rfl) _
  ·have hLe:L≠[]:=fun e=>hL (by rw [← hn,e];rfl)
   have q1:decide ((n:Int)>0)=true:=by rw [decide_eq_true_eq];omega
   have q2:decide (0<n)=true:=by rw [decide_eq_true_eq];omega
   have q5:((n:Int) == 0)=false:=by rw [beq_eq_false_iff_ne];omega
   by_cases h16:acc.length=16
   ·have q3:decide ((acc.length:Int)<16)=false:=by rw [decide_eq_false_iff_not];omega
    have q4:decide (acc.length<16)=false:=by rw [decide_eq_false_iff_not];omega
    have hfin:=HF.out
    rw [h16,Nat.sub_self] at hfin
    rw [show entsSt 0 A acc L o=(acc,L,o) from rfl] at hfin
    subst hfin
    have HLE:=Lib.hid hLe
    cases o with
    | true =>
      clear hn hL hLe h16 HN HF HENT HRD
      go_wp2_with fail
      go_quiet (fail)
      go_wp2_with fail
      go_ret2
      exact ents_end (ownx_base HO.out (by omega)) HBW.out (by have:=HLE.out;simp [this]) _
    | false =>
      clear hn hL hLe h16 HN HF HENT HRD
      go_wp2_with fail
      go_quiet (fail)
      go_wp2_with fail
      go_ret2
      exact ents_end (ownx_base HO.out (by omega)) HBW.out (by have:=HLE.out;simp [this]) _
   ·have q3:decide ((acc.length:Int)<16)=true:=by rw [decide_eq_true_eq];omega
    have q4:decide (acc.length<16)=true:=by rw [decide_eq_true_eq];omega
    have hfin:=HF.out
    rw [ents_next hLe (by omega),show 16 - acc.length - 1=16 - (acc.length+1) by omega] at hfin
    have HCALL:=HENT.out A L o wr hA HRD.out
    have hwd:=ent_w hA L o
    obtain ⟨⟨⟨X1,x2,x3,x4⟩,L4,o4⟩,hX⟩:∃ s,entSt A L o=s:=⟨_,rfl⟩
    rw [hX] at hfin HCALL hwd
    dsimp only at hfin HCALL
    unfold entV at HCALL
    dsimp only at HCALL
    have HC:=Lib.hid HCALL
    have HF4:=Lib.hid hfin
    have HX1:Hid (X1.length≤65):=Lib.hid hwd.1
    have HLT:Hid (acc.length<16):=Lib.hid (by omega)
    clear hfin HCALL hwd hX hLe hn hL h16 HN HF HRD
    go_wp2_with fail
    refine HC.out.mono ?_
    rintro e w4 ⟨rfl,h4,k4⟩
    have hs4:=k4.size
    obtain ⟨q,hq⟩:∃ q,w4.heap.size=q:=⟨_,rfl⟩
    have hRq:R+1≤q:=by have:=HSW.out;omega
    have huq:∀ g,(Value.slice pl acc.length cl).ownBlock=some g→R+1≤g∧g<wr.heap.size:=fun g hg=>by have:=HO.out.cells hg;omega
    have o4':=HO.out.keep k4 (fun _ _ h=>h.elim) (fun g hg=>by have:=huq g hg;omega)
    have hq4:Below w.heap.size w w4:=HBW.out.trans (k4.below (B:=w.heap.size) (by have:=HSW.out;omega) (fun b hb=>by omega))
    obtain ⟨w5,hw5⟩:∃ W,w4.alloc (.cells #[.string ⟨X1.toArray⟩,.int .i64 x2,.int .i64 x3,.int .i64 x4] 102)=W:=⟨_,rfl⟩
    have hb5:Below w4.heap.size w4 w5:=by rw [← hw5];exact (Below.refl _ _).alloc (Nat.le_refl _) _
    have F5:Hid (Four w5 q 102 (.string ⟨X1.toArray⟩) (.int .i64 x2) (.int .i64 x3) (.int .i64 x4)):=Lib.hid (by rw [← hw5,← hq];exact four_new w4 102 _ _ _ _)
    have hs5:w5.heap.size=q+1:=by rw [← hw5,← hq];simp
    obtain ⟨w6,hw6⟩:∃ W,w5.alloc (.cells #[.string ⟨X1.toArray⟩,.int .i64 x2,.int .i64 x3,.int .i64 x4] 102)=W:=⟨_,rfl⟩
    have hb6:Below w5.heap.size w5 w6:=by rw [← hw6];exact (Below.refl _ _).alloc (Nat.le_refl _) _
    have hs6:w6.heap.size=q+2:=by rw [← hw6];simp [hs5]
    have hsr:=src_lit (C:=entC) (S:=fun _=>False) (w:=w5) (vs:=[.string ⟨X1.toArray⟩,.int .i64 x2,.int .i64 x3,.int .i64 x4]) (d:=(X1,(x2,(x3,x4)))) 102 (ent_on.2 rfl)
    rw [hw6,hs5] at hsr
    have HS6:=Lib.hid hsr
    have HO6:=Lib.hid ((o4'.keep (kep_below (fun _=>True) hb5) (fun _ _ h=>h.elim) (fun _ _=>trivial)).keep (kep_below (fun _=>True) hb6) (fun _ _ h=>h.elim) (fun _ _=>trivial))
    have HB6:=Lib.hid ((hq4.trans (hb5.mono (by omega))).trans (hb6.mono (by omega)))
    have HR6:=Lib.hid (Rd.keep (Rd.keep h4 (S:=fun _=>True) (kep_below _ hb5) trivial (fun _ _=>trivial) (by have:=HBR.out;omega)) (S:=fun _=>True) (kep_below _ hb6) trivial (fun _ _=>trivial) (by have:=HBR.out;omega))
    have F6:=Lib.hid (F5.out.below hb6 (by omega))
    have HUQ:=Lib.hid huq
    have HW5:=Lib.hid hw5
    have HW6:=Lib.hid hw6
    have HS6W:=Lib.hid hs6
    clear hsr hw5 hw6 hb5 hb6 h4 k4 o4' hq4 huq HO HOI HBW HC HSW F5 hs6
    go_wp2_with (at_builtin;go_loud (rw [HW5.out,HW6.out];refine wpList_append_x entE rfl _ _ rfl (R+1) (.slice pl acc.length cl) acc rfl HO6.out (fun _ _ h=>h.elim) _ [(X1,(x2,(x3,x4)))] rfl HS6.out (by unfold maxLen;have:=HLT.out;simp;omega) (by have:=HLT.out;simp;omega) (by have:=HS6W.out;omega) ?_;intro v7 w7 ho7 hb7 hk7;obtain ⟨p7,c7,rfl,_⟩:=ho7.any.shape;have g7:=F6.out.keep hk7 (fun e=>by have:=HUQ.out q e;omega);have e0:=g7.c0;have HO7:=Lib.hid ho7;have HB7:=Lib.hid (HB6.out.trans (hb7.mono (by omega)));have HR7:=Lib.hid (HR6.out.keep hk7 (fun e=>by have:=HUQ.out R e;omega) (fun k hk e=>by have:=HUQ.out k e;have:=HBR.out;omega) (by have:=HBR.out;have:=HS6W.out;omega));have hs7:=hk7.size;have HS7:Hid (R+1≤w7.heap.size):=Lib.hid (by have:=HS6W.out;omega);clear ho7 hb7 hk7 g7 HO6 HS6 HB6 HR6 F6 HW5 HW6 HUQ))
    have hlt:=HLT.out
    rw [show (acc++[(X1,(x2,(x3,x4)))]).length=acc.length+1 by simp] at HO7
    have HF8:Hid (entsSt (16 - (acc++[(X1,(x2,(x3,x4)))]).length) X1 (acc++[(X1,(x2,(x3,x4)))]) L4 o4=FIN):=Lib.hid (by rw [List.length_append];exact HF4.out)
    go_roundw
    case rel=>exact ⟨acc++[(X1,(x2,(x3,x4)))],X1,L4,o4,rfl,HX1.out,by simp;omega,HF8,HR7,HO7,HB7,HS7⟩
    case measure=>simp [lenV];omega
end Go.Proofs.YtdijhifdjbnkfaaGreat.DT
set_option linter.unusedVariables false
namespace Go.Proofs.YtdijhifdjbnkfaaGreat.DT
open Go Go.RowKit Go.Proofs.YtdijhifdjbnkfaaGreat.MM Go.Proofs.YtdijhifdjbnkfaaGreat.DM Go.Proofs.YtdijhifdjbnkfaaGreat.VM
abbrev Blk:=List UInt8×List UInt8
def blkC:Codec Blk:=cPair cStr (cRow cU8)
theorem blk_on {S:Nat→Prop} {w:World} {cs:List Value} {x:Blk}:blkC.on S w cs x↔∃ v,cs=[.string ⟨x.1.toArray⟩,v]∧ROn cU8 S w v x.2:=by
 constructor
 ·rintro ⟨a,b,rfl,ha,v,rfl,hv⟩
  have ha:a=[.string ⟨x.1.toArray⟩]:=ha
  exact ⟨v,by rw [ha];rfl,hv⟩
 ·rintro ⟨v,rfl,hv⟩
  exact ⟨[_],[v],rfl,rfl,v,rfl,hv⟩
def blkOf (c:List Ent):Blk:=((c.headD nilX).1,blockB [] c)
def blksOf (l:List Ent):List Blk:=(chunksOf l).map blkOf
theorem blksOf_len (l:List Ent):(blksOf l).length=chunksN l:=by unfold blksOf;rw [List.length_map,chunksOf_len]
theorem blksOf_at {l:List Ent} {j:Nat} (h:j<(blksOf l).length):(blksOf l)[j]=blkOf (chunk l j):=by
 unfold blksOf at h ⊢
 rw [List.getElem_map,chunksOf_at]
theorem bytes_in {S:Nat→Prop} {B:Nat} {w:World} {v:Value} {l:List UInt8} (h:ROn cU8 S w v l) (hS:∀ b,b<w.heap.size→S b→b<B):BIn B w v l:=ron_row h hS
theorem bytes_any {w:World} {v:Value} {l:List UInt8} (h:RAny cU8 w v l):BIn w.heap.size w v l:=bytes_in h fun b hb _=>hb
theorem blk_at {w:World} {p:Option Addr} {n cap:Nat} {l:List Ent} (h:RAny blkC w (.slice p n cap) (blksOf l)) {k:Nat} (hk:k<chunksN l) :
  ∃ b off v,p=some ⟨b,off,none⟩∧b<w.heap.size∧w.cell? ⟨b,off+k*2,none⟩=some (.string ⟨((chunk l k).headD nilX).1.toArray⟩)∧w.cell? ⟨b,off+k*2+1,none⟩=some v∧BIn w.heap.size w v (blockB [] (chunk l k)):=by
 have hk':k<(blksOf l).length:=by rw [blksOf_len];exact hk
 obtain ⟨b,off,vs,hp,hlt,_,hon,hc⟩:=h.at_ hk'
 rw [blk_on] at hon
 obtain ⟨v,rfl,hv⟩:=hon
 rw [blksOf_at] at hv hc
 exact ⟨b,off,v,hp,hlt,hc 0 _ rfl,hc 1 _ rfl,bytes_any hv⟩
def DictAt (S:Nat→Prop) (w:World) (g:Nat) (l:List Ent):Prop:=∃ v,Two w g 170 (.int .i64 (l.length:Int)) v∧S g∧ROn blkC S w v (blksOf l)
theorem DictAt.keep {S T:Nat→Prop} {w w':World} {g:Nat} {l:List Ent} (h:DictAt S w g l) (hk:Kep S w w') (hT:∀ b,b<w.heap.size→S b→T b):DictAt T w' g l:=by
 obtain ⟨v,h1,h2,h3⟩:=h
 exact ⟨v,h1.keep hk h2,hT g h1.lt h2,h3.keep hk hT⟩
def DictP (S:Nat→Prop) (w:World) (p:Option Addr) (l:List Ent):Prop:=(p=none∧l=[])∨∃ g,p=some ⟨g,0,none⟩∧DictAt S w g l
theorem DictP.keep {S T:Nat→Prop} {w w':World} {p:Option Addr} {l:List Ent} (h:DictP S w p l) (hk:Kep S w w') (hT:∀ b,b<w.heap.size→S b→T b):DictP T w' p l:=by
 rcases h with h | ⟨g,h1,h2⟩
 ·exact .inl h
 ·exact .inr ⟨g,h1,h2.keep hk hT⟩
theorem DictP.below {w w':World} {p:Option Addr} {l:List Ent} (h:DictP (fun _=>True) w p l) (hb:Below w.heap.size w w'):DictP (fun _=>True) w' p l:=h.keep (kep_below _ hb) fun _ _ h=>h
theorem DictP.any {S:Nat→Prop} {w:World} {p:Option Addr} {l:List Ent} (h:DictP S w p l):DictP (fun _=>True) w p l:=h.keep (Kep.refl _ _) fun _ _ _=>trivial
set_option maxRecDepth 100000 in
theorem len_any (p:Option Addr) (l:List Ent) (w:World) (h:DictP (fun _=>True) w p l):Calls Tryz.prog 117 #[.pointer p] w fun e w'=>e=.returned (.int .i64 (l.length:Int))∧w=w':=by
 rcases h with ⟨rfl,rfl⟩ | ⟨g,rfl,v,h2,_⟩
 ·go_enter Tryz.func117,Tryz.ntmps117
  go_wp2_with fail
  go_ret
  exact ⟨rfl,rfl⟩
 ·have c0:=h2.c0
  clear h2
  go_enter Tryz.func117,Tryz.ntmps117
  go_wp2_with fail
  go_ret
  exact ⟨rfl,rfl⟩
def EntsLeft (l:List Ent) (w:World) (e:Ending) (w':World):Prop:=∃ v',e=.returned v'∧OwnX entC 102 w.heap.size (fun _=>False) w' v' l∧Below w.heap.size w w'
set_option maxRecDepth 100000 in
set_option maxHeartbeats 1000000 in
theorem blkents_any (f:ByteArray) (v:Value) (c:List Ent) (w:World) (hc:∀ x∈c,okW x) (hl:c.length≤16) (hv:BIn w.heap.size w v (blockB [] c)):Calls Tryz.prog 211 #[.agg #[.string f,v]] w (EntsLeft c w):=by
 obtain ⟨wa,hwa⟩:∃ wa,w.alloc (.cells #[.string f,v] 176)=wa:=⟨_,rfl⟩
 have hba:Below w.heap.size w wa:=by rw [← hwa];exact (Below.refl _ _).alloc (Nat.le_refl _) _
 have T0:Two wa w.heap.size 176 (.string f) v:=by rw [← hwa];exact two_new w 176 _ _
 have c0:=T0.c0
 have c1:=T0.c1
 have hs:=hba.size
 have H:=entsof_any w.heap.size v (blockB [] c) wa (hv.below hba) hs
 rw [ents_put c 16 [] [] false hc (by simp) hl] at H
 have H1:=Lib.hid H
 have HBA:=Lib.hid hba
 have HWA:=Lib.hid hwa
 obtain ⟨p,cp,rfl,_⟩:=hv.shape
 clear H hba hwa hv T0
 go_enter Tryz.func211,Tryz.ntmps211
 go_wp2_with fail
 rw [HWA.out]
 go_wp2_with fail
 refine H1.out.mono ?_
 rintro e w1 ⟨v1,rfl,ho,hb⟩
 have HO:=Lib.hid ho
 have HB:=Lib.hid (HBA.out.trans (hb.mono hs))
 clear ho hb H1
 go_wp2_with fail
 go_ret
 exact ⟨_,rfl,ownx_base HO.out hs,HB.out⟩
def atD (l:List Ent) (i:Int):Option Ent:=if 0≤i∧i<(l.length:Int) then l[i.toNat]? else none
theorem chunk_w {l:List Ent} (h:∀ x∈l,okW x) (j:Nat):∀ x∈chunk l j,okW x:=fun x hx=>h x (List.mem_of_mem_drop (List.mem_of_mem_take hx))
set_option maxRecDepth 100000 in
set_option maxHeartbeats 1000000 in
theorem at_any (p:Option Addr) (l:List Ent) (i:Int) (w:World) (h:DictP (fun _=>True) w p l) (hw:∀ x∈l,okW x) (hn:l.length≤262144) (h0 : -9223372036854775808≤i) (h1:i≤9223372036854775807):Calls Tryz.prog 165 #[.pointer p,.int .i64 i] w (Found (atD l i) w):=by
 obtain ⟨R,hR⟩:∃ R,w.heap.size=R:=⟨_,rfl⟩
 obtain ⟨wa,hwa⟩:∃ wa,w.alloc (.cells #[.string ⟨#[]⟩,.int .i64 0,.int .i64 0,.int .i64 0] 102)=wa:=⟨_,rfl⟩
 have hba:Below w.heap.size w wa:=by rw [← hwa];exact (Below.refl _ _).alloc (Nat.le_refl _) _
 have FR0:Hid (Four wa R 102 (.string ⟨#[]⟩) (.int .i64 0) (.int .i64 0) (.int .i64 0)):=Lib.hid (by rw [← hwa,← hR];exact four_new w 102 _ _ _ _)
 have hsa:wa.heap.size=R+1:=by rw [← hwa,← hR];simp
 have hd:=h.below hba
 have HLEN:=Lib.hid (len_any p l wa hd)
 have HB0:=Lib.hid hba
 have HWA:=Lib.hid hwa
 clear hwa hba h
 by_cases hi:0≤i∧i<(l.length:Int)
 ·obtain ⟨k,rfl⟩:=Int.eq_ofNat_of_zero_le hi.1
  have hk:k<l.length:=by omega
  have hf:atD l (k:Int)=some l[k]:=by unfold atD;rw [if_pos hi,Int.toNat_natCast,List.getElem?_eq_getElem hk]
  rw [hf]
  clear hf
  have q1:decide ((k:Int)<0)=false:=by rw [decide_eq_false_iff_not];omega
  have q2:decide ((k:Int)≥(l.length:Int))=false:=by rw [decide_eq_false_iff_not];omega
  have q3:decide (k≥l.length)=false:=by rw [decide_eq_false_iff_not];omega
  have q4:decide (l.length≤k)=false:=by rw [decide_eq_false_iff_not];omega
  rcases hd with ⟨_,rfl⟩ | ⟨g,rfl,v,h2,_,h3⟩
  ·simp at hk
  have hj:k / 16<chunksN l:=by unfold chunksN;omega
  obtain ⟨pb,cb,rfl,hcb,hcm,_⟩:=h3.shape
  rw [blksOf_len] at h3 h2 hcb
  obtain ⟨bb,off,vb,rfl,hbl,b0,b1,hbody⟩:=blk_at h3 hj
  obtain ⟨J,hJ⟩:∃ J,k / 16=J:=⟨_,rfl⟩
  obtain ⟨M,hM⟩:∃ M,k%16=M:=⟨_,rfl⟩
  have d1:(k:Int) / 16=(J:Int):=by omega
  have d2:(k:Int).tdiv 16=(J:Int):=by rw [Int.tdiv_eq_ediv_of_nonneg (by omega)];omega
  have d3:(k:Int)%16=(M:Int):=by omega
  have d4:(k:Int).tmod 16=(M:Int):=by rw [Int.tmod_eq_emod_of_nonneg (by omega)];omega
  rw [hJ] at b0 b1 hbody hj
  have hcl:(chunk l J).length=min 16 (l.length - 16*J):=chunk_size l J
  have hMl:M<(chunk l J).length:=by omega
  have hlk:l[k]=(chunk l J)[M]:=by rw [chunk_at hMl];congr 1;omega
  rw [hlk]
  obtain ⟨FT,hFT⟩:∃ s:ByteArray,(⟨((chunk l J).headD nilX).1.toArray⟩:ByteArray)=s:=⟨_,rfl⟩
  rw [hFT] at b0
  clear hFT
  have HENTS:=Lib.hid (blkents_any FT vb (chunk l J) wa (chunk_w hw J) (by omega) hbody)
  obtain ⟨pv,cv,rfl,_⟩:=hbody.shape
  have c1:=h2.c1
  have hj2:(J:Int)<(chunksN l:Int):=by omega
  obtain ⟨X,hX⟩:∃ X,(chunk l J)[M]=X:=⟨_,rfl⟩
  rw [hX]
  obtain ⟨X1,x2,x3,x4⟩:=X
  have HX:=Lib.hid hX
  have HML:=Lib.hid hMl
  have HHM:Hid (chunksN l≤16384):=Lib.hid (by unfold chunksN;omega)
  generalize chunksN l=N at *
  have hMi:(M:Int)<((chunk l J).length:Int):=by omega
  clear hi hk hJ hM h2 h3 hbody hlk hcl hX
  go_enter Tryz.func165,Tryz.ntmps165
  go_wp2_with fail
  rw [HWA.out]
  refine HLEN.out.mono ?_
  rintro e w1 ⟨rfl,rfl⟩
  go_wp2_with fail
  refine HENTS.out.mono ?_
  rintro e w2 ⟨v2,rfl,ho2,hb2⟩
  obtain ⟨p2,c2,rfl,hl2,_⟩:=ho2.any.shape
  have HO2:=ho2.any
  obtain ⟨b2,off2,rfl,hb2l,_,e0,e1,e2,e3⟩:=ent_at HO2 HML.out
  rw [HX.out] at e0 e1 e2 e3
  have FR2:=FR0.out.below hb2 (by omega)
  have hs2:=hb2.size
  obtain ⟨m1,m2,m3,m4,⟨k1,k2⟩,⟨k3,k4⟩,k5,k6⟩:=FR2.all (.string ⟨X1.toArray⟩) (.int .i64 x2) (.int .i64 x3)
  have n0:=FR2.c0
  have HXX:=Lib.hid (FR2.set (.string ⟨X1.toArray⟩) (.int .i64 x2) (.int .i64 x3) (.int .i64 x4))
  have HB9:=Lib.hid ((HB0.out.trans (hb2.mono (by omega))).trans ((kep_set4 (g:=R) (w:=w2) (.string ⟨X1.toArray⟩) (.int .i64 x2) (.int .i64 x3) (.int .i64 x4)).below (B:=w.heap.size) (by omega) (fun b hb=>by omega)))
  clear ho2 hb2 HO2 FR2 HENTS HLEN FR0
  go_wp2_with fail
  refine bodyPost_ret (results_four2 (p:=4) (u:=5) rfl Tryz.underlying102 rfl infoEnt _ _ R _ _ _ _ rfl HXX.out) rfl ?_
  exact ⟨rfl,HB9.out⟩
 ·have hf:atD l i=none:=by unfold atD;rw [if_neg hi]
  rw [hf]
  have f0:=FR0.out
  obtain ⟨m1,m2,m3,m4,⟨k1,k2⟩,⟨k3,k4⟩,k5,k6⟩:=f0.all (.string ⟨#[]⟩) (.int .i64 0) (.int .i64 0)
  obtain ⟨n0,n1,n2,n3⟩:=f0.cells
  have HXX:=FR0
  have HB9:=HB0
  have HX2:=Lib.hid (f0.set (.string ⟨#[]⟩) (.int .i64 0) (.int .i64 0) (.int .i64 0))
  have HB8:=Lib.hid (HB0.out.trans ((kep_set4 (g:=R) (w:=wa) (.string ⟨#[]⟩) (.int .i64 0) (.int .i64 0) (.int .i64 0)).below (B:=w.heap.size) (by omega) (fun b hb=>by omega)))
  by_cases hneg:i<0
  ·have q1:decide (i<0)=true:=by rw [decide_eq_true_eq];omega
   clear hi hf hd f0 hneg FR0
   go_enter Tryz.func165,Tryz.ntmps165
   go_wp2_with fail
   rw [HWA.out]
   go_wp2_with fail
   refine bodyPost_ret (results_four2 (p:=4) (u:=5) rfl Tryz.underlying102 rfl infoEnt _ _ R _ _ _ _ rfl HXX.out) rfl ?_
   exact ⟨rfl,HB9.out⟩
  ·have q1:decide (i<0)=false:=by rw [decide_eq_false_iff_not];omega
   have q2:decide (i≥(l.length:Int))=true:=by rw [decide_eq_true_eq];omega
   have q3:decide ((l.length:Int)≤i)=true:=by rw [decide_eq_true_eq];omega
   clear hi hf hd f0 hneg FR0
   go_enter Tryz.func165,Tryz.ntmps165
   go_wp2_with fail
   rw [HWA.out]
   refine HLEN.out.mono ?_
   rintro e w1 ⟨rfl,rfl⟩
   go_wp2_with fail
   refine bodyPost_ret (results_four2 (p:=4) (u:=5) rfl Tryz.underlying102 rfl infoEnt _ _ R _ _ _ _ rfl HX2.out) rfl ?_
   exact ⟨rfl,HB8.out⟩
end Go.Proofs.YtdijhifdjbnkfaaGreat.DT
set_option linter.unusedVariables false
namespace Go.Proofs.YtdijhifdjbnkfaaGreat.GM
open Go
open Go.Proofs.YtdijhifdjbnkfaaGreat.EM (Tr posOf)
open Go.Proofs.YtdijhifdjbnkfaaGreat.PM (Post)
open Go.Proofs.YtdijhifdjbnkfaaGreat.DM (Ent)
open Go.Proofs.YtdijhifdjbnkfaaGreat.DT (findD hasP prefD)
theorem postsG_cons (r:Tr Post) (rows:List (Tr Post)):postsG (r::rows)=PM.encL r.2++postsG rows:=by simp [postsG]
theorem ents_find:∀ (rows:List (Tr Post)) (off:Int) (u:List UInt8),(findD (entsG off rows) u=none∧posOf rows u=[]) ∨
  ∃ (k:Nat) (hk:k<rows.length),findD (entsG off rows) u=some (u,(off+((postsG (rows.take k)).length:Int),(((PM.encL rows[k].2).length:Int),(rows[k].2.length:Int))))∧posOf rows u=rows[k].2∧rows[k].1=u
 | [],off,u=>.inl ⟨rfl,rfl⟩
 | r::rows,off,u=>by
   by_cases h:r.1=u
   ·refine .inr ⟨0,by simp,?_,?_,h⟩
    ·unfold findD
     rw [entsG,List.find?_cons]
     simp [h,postsG]
    ·rw [posOf,if_pos h];rfl
   ·have e:findD (entsG off (r::rows)) u=findD (entsG (off+((PM.encL r.2).length:Int)) rows) u:=by
     unfold findD
     rw [entsG,List.find?_cons]
     simp [h]
    rw [e,posOf,if_neg h]
    rcases ents_find rows (off+((PM.encL r.2).length:Int)) u with h1 | ⟨k,hk,h1,h2,h3⟩
    ·exact .inl h1
    ·refine .inr ⟨k+1,by simpa using hk,?_,h2,h3⟩
     rw [h1,List.take_succ_cons,postsG_cons,List.length_append]
     simp only [List.getElem_cons_succ,Option.some.injEq,Prod.mk.injEq,true_and,and_true]
     omega
theorem posts_piece {rows:List (Tr Post)} {k:Nat} (hk:k<rows.length):((postsG rows).drop (postsG (rows.take k)).length).take (PM.encL rows[k].2).length=PM.encL rows[k].2∧(postsG (rows.take k)).length+(PM.encL rows[k].2).length≤(postsG rows).length:=by
 have e:postsG rows=postsG (rows.take k)++(PM.encL rows[k].2++postsG (rows.drop (k+1))):=by
  rw [← postsG_cons,← List.drop_eq_getElem_cons hk]
  unfold postsG
  rw [← List.flatMap_append,List.take_append_drop]
 constructor
 ·rw [e,List.drop_left,List.take_left]
 ·have h:=congrArg List.length e
  simp only [List.length_append] at h
  omega
theorem ents_prefix (rows:List (Tr Post)) (p:List UInt8):∀ (off:Int),(prefD (entsG off rows) p).map (·.1)=prefixG rows p:=by
 induction rows with
 | nil=>intro off;rfl
 | cons r rows ih =>
   intro off
   have e:prefixG (r::rows) p=(if r.1.take p.length=p then [r.1] else [])++prefixG rows p:=by
    unfold prefixG
    rw [List.map_cons]
    by_cases h:r.1.take p.length=p
    ·rw [List.filter_cons_of_pos (by simpa using h),if_pos h];rfl
    ·rw [List.filter_cons_of_neg (by simpa using h),if_neg h];rfl
   rw [e,← ih (off+((PM.encL r.2).length:Int)),entsG]
   unfold prefD
   by_cases h:r.1.take p.length=p
   ·have hl:p.length≤r.1.length:=by
     have:=congrArg List.length h
     rw [List.length_take] at this
     omega
    rw [if_pos h,List.filter_cons_of_pos (by simp [hasP,h,hl])]
    rfl
   ·rw [if_neg h,List.filter_cons_of_neg (by simp [hasP,h])]
    rfl
end Go.Proofs.YtdijhifdjbnkfaaGreat.GM
set_option linter.unusedVariables false
namespace Go.Proofs.YtdijhifdjbnkfaaGreat.GM
open Go Go.Proofs.YtdijhifdjbnkfaaGreat.VM
open Go.Proofs.YtdijhifdjbnkfaaGreat.SM (Doc isS FitS)
open Go.Proofs.YtdijhifdjbnkfaaGreat.EM (posOf)
def exA:List Doc:=[(1,(7,[([109,115,103],[120])]))]
def exC:List Doc:=[(4,(0,[]))]
theorem exA_is:isS exA=true:=by decide +kernel
theorem exC_is:isS exC=true:=by decide +kernel
theorem exA_small:Small exA:=fun _=>by decide +kernel
theorem exC_small:Small exC:=fun _=>by decide +kernel
theorem exA_fit:FitS exA:=fun d hd=>by
 obtain rfl:=List.mem_singleton.1 hd
 exact ⟨by decide,by decide⟩
theorem exC_fit:FitS exC:=fun d hd=>by
 obtain rfl:=List.mem_singleton.1 hd
 exact ⟨by decide,by decide⟩
theorem enc_ok {l:List Doc} (hS:isS l=true) (hs:Small l) (h0:l≠[]):encG l=(bytesG l,0):=by rw [encG_small hs,if_pos ⟨hS,h0⟩]
theorem exA_posts:posOf (rowsG exA) [109,115,103,58,120]=[(0,[0])]:=by decide +kernel
theorem exA_foot:footG exA=(7,7,1,1,1):=by decide +kernel
theorem exA_may:(!exA.isEmpty&&BM.mayL (filterG (rowsG exA)) [109,115,103,58,120])=true:=by decide +kernel
theorem exC_rows:(rowsG exC).length=0:=by decide +kernel
theorem exC_may:(!exC.isEmpty&&BM.mayL (filterG (rowsG exC)) [109,115,103,58,120])=false:=by decide +kernel
end Go.Proofs.YtdijhifdjbnkfaaGreat.GM
