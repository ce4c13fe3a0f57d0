import Derived.Test.YtdijhifdjbnkfaaGreatZD16
import Derived.Laws.Cover1
import Derived.Test.YtdijhifdjbnkfaaGreatZD18
set_option maxRecDepth 100000
set_option maxHeartbeats 8000000
set_option linter.unusedVariables false
set_option linter.unusedSimpArgs false
namespace Go.Proofs.YtdijhifdjbnkfaaGreat.DT
open Go Go.RowKit MM DM
open EM (Znl Znt)
end Go.Proofs.YtdijhifdjbnkfaaGreat.DT
namespace Go.Proofs.YtdijhifdjbnkfaaGreat.DT
open Go Go.RowKit MM DM VM VP GB
theorem Zeb (n:Nat):Zd8 n≠[]:=fun h=>by
 have:=Zea n
 rw [h] at this
 simp at this
theorem Zxw (s:List UInt8):Zxu s≠[]:=fun h=>Zeb _ (List.append_eq_nil_iff.1 h).1
theorem ZtV (z:Int) (w:World) (h0:0≤z) (h1:z≤9223372036854775807):Calls Tryz.prog 93 #[.int .i64 z] w (Zbg w.heap.size (Zd8 z.toNat) w):=by
 obtain ⟨n,rfl⟩:=Int.eq_ofNat_of_zero_le h0
 have K:=Lib.hid (ZsB n w (by omega))
 have e:IntKind.u64.wrap (n:Int)=(n:Int):=by rw [IntKind.wrap_u64];omega
 rw [Int.toNat_natCast]
 go_enter Tryz.func93,Tryz.ntmps93
 go_wp2_with fail
 refine K.out.mono ?_
 rintro e w1 ⟨v1,rfl,hown1,hb1⟩
 have HO:=Lib.hid hown1
 clear hown1
 go_wp2_with fail
 go_ret
 exact ⟨_,rfl,HO.out,hb1⟩
theorem ZqY (l:List UInt8) (k:Nat):(⟨l.toArray⟩:ByteArray).extract k l.length=⟨(l.drop k).toArray⟩:=by
 rw [ZxB,List.take_of_length_le (by rw [List.length_drop];exact Nat.le_refl _)]
def Zle (l:List Ent) (i:Nat):List UInt8:=((l.take i).getLast?.map (·.1)).getD []
theorem Zlf {l:List Ent} {i:Nat} (hi:i<l.length):Zle l (i+1)=l[i].1:=by
 unfold Zle
 rw [List.take_succ_eq_append_getElem hi,List.getLast?_append,List.getLast?_singleton]
 rfl
theorem Zds {l:List Ent} {i:Nat} (hi:i<l.length):Zdm [] (l.take (i+1))=Zdm [] (l.take i)++entB (Zle l i) l[i]:=by
 rw [List.take_succ_eq_append_getElem hi,Zdo]
 rfl
end Go.Proofs.YtdijhifdjbnkfaaGreat.DT
namespace Go.Proofs.YtdijhifdjbnkfaaGreat.DT
open Go Go.RowKit MM DM VM VP GB
theorem ZeW {l:List Ent} (h:∀ x∈l,okX x=true) (j:Nat):∀ x∈ZeK l j,okX x=true:=fun x hx=>h x (List.mem_of_mem_drop (List.mem_of_mem_take hx))
theorem ZeV (l:List Ent) (j:Nat):(ZeK l j).length≤16:=by unfold ZeK;rw [List.length_take];omega
def Zam (l:List UInt8) (x:Int) (w:World) (e:Ending) (w':World):Prop:=∃ v,e=.returned (.tuple #[v,.int .i64 x])∧OwnB w.heap.size w' v l∧Below w.heap.size w w'
end Go.Proofs.YtdijhifdjbnkfaaGreat.DT
namespace Go.Proofs.YtdijhifdjbnkfaaGreat.DT
open Go Go.RowKit MM DM VM VP
theorem ZxA (a b:List UInt8):(⟨a.toArray⟩:ByteArray)++⟨b.toArray⟩=⟨(a++b).toArray⟩:=by
 apply ByteArray.ext
 rw [ByteArray.data_append]
 simp
theorem Zxy (l:List UInt8) (k:Nat):(⟨l.toArray⟩:ByteArray).extract 0 k=⟨(l.take k).toArray⟩:=by rw [ZxB];rfl
end Go.Proofs.YtdijhifdjbnkfaaGreat.DT
namespace Go.Proofs.YtdijhifdjbnkfaaGreat.DT
open Go Go.RowKit MM DM VM
theorem ZhB (B g:Nat) (A l:List UInt8) (o:Bool) (w:World) (hA:A.length≤65) (h:Rd B w g l o) (hB:B≤g) :
  Calls Tryz.prog 161 #[.pointer (some ⟨g,0,none⟩),.string ⟨A.toArray⟩] w (Took B g (entV (Zhs A l o).1) (Zhs A l o).2.1 (Zhs A l o).2.2 w):=by
 have hmx:Tryz.prog.follows .mixedOrders=true:=by kernel_rfl
 obtain ⟨R,hR⟩:∃ R,w.heap.size=R:=⟨_,rfl⟩
 have hgR:g<R:=by rw [← hR];exact h.lt
 obtain ⟨wa,hwa⟩:∃ wa,w.alloc (.cells #[.string ⟨#[]⟩,.int .i64 0,.int .i64 0,.int .i64 0] 102)=wa:=⟨_,rfl⟩
 have HKA:Hid (Kep (fun b=>b≠g) w wa):=Lib.hid (by rw [← hwa];exact ZmS _ _ _)
 have FR0:Hid (Four wa R 102 (.string ⟨#[]⟩) (.int .i64 0) (.int .i64 0) (.int .i64 0)):=Lib.hid (by rw [← hwa,← hR];exact Zjz w 102 _ _ _ _)
 have hra:Rd B wa g l o:=h.keep (S:=fun _=>True) (by rw [← hwa];exact ZmS _ _ _) trivial (fun _ _=>trivial) (by omega)
 have HSA:Hid (wa.heap.size=R+1):=Lib.hid (by rw [← hwa,← hR];simp)
 obtain ⟨⟨k,l1,o1⟩,e1⟩:∃ s,Zo4 A.length l o=s:=⟨_,rfl⟩
 have hk:k≤A.length:=by have:=Zpd A.length l o;rw [e1] at this;exact this
 obtain ⟨⟨t,l2,o2⟩,e2⟩:∃ s,Zyg (65 - (k:Int)) l1 o1=s:=⟨_,rfl⟩
 have ht:(t.length:Int)≤65 - (k:Int):=by have:=Zyi (65 - (k:Int)) l1 o1;rw [e2] at this;dsimp only at this;omega
 obtain ⟨T,hT⟩:∃ T,A.take k++t=T:=⟨_,rfl⟩
 have hTl:T.length≤65:=by rw [← hT,List.length_append,List.length_take];omega
 have e3:Zw7 A l o=(T,l2,o2):=by unfold Zw7;rw [e1];dsimp only;rw [e2];dsimp only;rw [hT]
 obtain ⟨⟨l3,o3⟩,e4⟩:∃ s,ZlI A l o=s:=⟨_,rfl⟩
 have e5:(if ZvE A T=k then (l2,o2) else ([],true))=(l3,o3):=by rw [← e4];unfold ZlI;rw [e3,e1]
 obtain ⟨⟨a,l4,o4⟩,e6⟩:∃ s,Zo4 67108864 l3 o3=s:=⟨_,rfl⟩
 obtain ⟨⟨b,l5,o5⟩,e7⟩:∃ s,Zo4 67108864 l4 o4=s:=⟨_,rfl⟩
 obtain ⟨⟨c,l6,o6⟩,e8⟩:∃ s,Zo4 67108864 l5 o5=s:=⟨_,rfl⟩
 have hE:Zhs A l o=((T,((a:Int),((b:Int),(c:Int)))),l6,o6):=by
  unfold Zhs ZxX
  rw [e4,e3]
  dsimp only
  rw [e6]
  dsimp only
  rw [e7]
  dsimp only
  rw [e8]
 rw [hE]
 have HNUM:=Lib.hid (fun m l o W (hm:m≤1099511627776) (h:Rd B W g l o)=>Zpj B g m l o W hm h hB)
 have HTXT:=Lib.hid (fun W (h:Rd B W g l1 o1)=>Zxx B g (65 - (k:Int)) l1 o1 W (by omega) (by omega) h hB)
 have HGO:=Lib.hid (fun W (h:Rd B W g l2 o2)=>ZkQ B g l2 [] o2 (.slice none 0 0) 110 W h hB (BIn.nil_ _ _))
 rw [e2] at HTXT
 have H1:=HNUM.out A.length l o wa (by omega) hra
 rw [e1] at H1
 have H1:=Lib.hid H1
 have HE5:=Lib.hid e5
 have hza:=ZwF A
 have hzt:=ZwF T
 have HSH:=Lib.hid (fun W=>ZvI A T W (by omega) (by omega))
 have hcat:=ZxA (A.take k) t
 have hhead:=Zxy A k
 have hadd:=fun W=>run_string_add_sum (P:=Tryz.prog) W ⟨(A.take k).toArray⟩ ⟨t.toArray⟩ (by rw [ZwF,ZwF,List.length_take];omega)
 rw [hT] at hcat
 simp only [hcat] at hadd
 have hki:(k:Int)≤(A.length:Int):=by omega
 have hw65:IntKind.i64.wrap (65 - (k:Int))=65 - (k:Int):=by rw [IntKind.wrap_i64];omega
 have HWA:=Lib.hid hwa
 have HB:=Lib.hid hB
 have HGR:=Lib.hid hgR
 have H6:=Lib.hid e6
 have H7:=Lib.hid e7
 have H8:=Lib.hid e8
 clear hwa h hra e1 e2 e3 e4 e5 e6 e7 e8 hE hT hB hgR
 go_enter Tryz.func161,Tryz.ntmps161
 go_wp2_with fail
 rw [HWA.out]
 refine H1.out.mono ?_
 rintro e w1 ⟨rfl,h1,k1⟩
 have hs1:R+1≤w1.heap.size:=by have:=k1.size;have:=HSA.out;omega
 have FR1:=Lib.hid (FR0.out.keep k1 (by have:=HGR.out;omega))
 have K1:=Lib.hid (HKA.out.trans k1)
 obtain ⟨wd,hwd⟩:∃ wd,w1.drew=wd:=⟨_,rfl⟩
 have R1:Hid (Rd B wd g l1 o1):=Lib.hid (by rw [← hwd];exact Rd.keep h1 (S:=fun _=>True) (ZmT _ (Below.refl _ _).drew) trivial (fun _ _=>trivial) (by have:=HB.out;have:=HGR.out;omega))
 have FRD:Hid (Four wd R 102 (.string ⟨#[]⟩) (.int .i64 0) (.int .i64 0) (.int .i64 0)):=Lib.hid (by rw [← hwd];exact FR1.out.below (Below.refl w1.heap.size _).drew (by omega))
 have KD:Hid (Kep (fun b=>b≠g) w wd):=Lib.hid (by rw [← hwd];exact K1.out.trans (ZmT _ (Below.refl _ _).drew))
 have hsd:R+1≤wd.heap.size:=by rw [← hwd];simpa using hs1
 have HWD:=Lib.hid hwd
 clear hwd h1 k1 H1 FR0 FR1 K1 hs1 HKA HWA
 go_wp2_with fail
 refine RK.ZcJ (T:=fun b=>b≠g) [(0,true),(1,true),(2,true),(3,true),(4,true),(5,true),(6,false),(7,true),(8,true)] (by kernel_rfl) (by kernel_rfl) rfl (by kernel_rfl) (fun _ _ d _ _ h=>by cases d<;>exact h) ?_
 simp only [RK.ZpY,List.map_cons,List.map_nil,List.getElem?_toArray,List.getElem?_cons_succ,List.getElem?_cons_zero]
 rw [HWD.out]
 repeat ((first | (refine RK.take (by rfl) (by intro W hW;go_simp;with_reducible rfl) ?_));simp only [Act.put,List.setIfInBounds_toArray,List.set_cons_zero,List.set_cons_succ])
 refine RK.alone (by rfl) (fun K hK => ?_)
 go_simp
 refine (HTXT.out wd R1.out).mono ?_
 rintro e w2 ⟨rfl,h2,k2⟩
 go_simp
 refine hK.out _ _ k2 ?_
 clear hK K
 have hs2:R+1≤w2.heap.size:=by have:=k2.size;omega
 have FR2:=Lib.hid (FRD.out.keep k2 (by have:=HGR.out;omega))
 have K2:=Lib.hid (KD.out.trans k2)
 have R2:=Lib.hid h2
 clear h2 k2 FRD KD R1 hsd
 repeat ((first | (refine RK.take (by rfl) (by intro W hW;go_simp;with_reducible rfl) ?_));simp only [Act.put,List.setIfInBounds_toArray,List.set_cons_zero,List.set_cons_succ])
 refine RK.done ?_
 obtain ⟨n,hn⟩:∃ n,ZvE A T=n:=⟨_,rfl⟩
 rw [hn] at HSH HE5
 have hnb:=(ZvG A T).1
 rw [hn] at hnb
 clear hn
 rcases Classical.em (n=k) with hs | hs
 case' inl =>
  subst hs
  have he:=HE5.out
  rw [if_pos rfl] at he
  obtain ⟨rfl,rfl⟩:=Prod.mk.inj he
  clear he HE5
  go_wp2_with fail
  refine (HSH.out _).mono ?_
  rintro e w3 ⟨rfl,m,hm⟩
  have hk3:Kep (fun _=>True) w2 w3:=by rw [hm];exact ZmT _ (MM.ZcN (Below.refl _ _) m)
  have hs3:R+1≤w3.heap.size:=by have:=hk3.size;omega
  have FR3:=Lib.hid (FR2.out.keep hk3 trivial)
  have K3:=Lib.hid (K2.out.trans (hk3.mono' fun _ _ _=>trivial))
  have R3:=Lib.hid (R2.out.keep hk3 trivial (fun _ _=>trivial) (by have:=HB.out;have:=HGR.out;omega))
  clear hm hk3 hs2 FR2 K2 R2
 case' inr =>
  have t0:((n:Int) != (k:Int))=true:=by rw [bne_iff_ne];omega
  have he:=HE5.out
  rw [if_neg hs] at he
  obtain ⟨rfl,rfl⟩:=Prod.mk.inj he
  clear he HE5 hs
  go_wp2_with fail
  refine (HSH.out _).mono ?_
  rintro e w2b ⟨rfl,m,hm⟩
  have hk3:Kep (fun _=>True) w2 w2b:=by rw [hm];exact ZmT _ (MM.ZcN (Below.refl _ _) m)
  have hs3:R+1≤w2b.heap.size:=by have:=hk3.size;omega
  have FR2b:=Lib.hid (FR2.out.keep hk3 trivial)
  have K2b:=Lib.hid (K2.out.trans (hk3.mono' fun _ _ _=>trivial))
  have HQ:=Lib.hid (HGO.out w2b (R2.out.keep hk3 trivial (fun _ _=>trivial) (by have:=HB.out;have:=HGR.out;omega)))
  clear hm hk3 hs2 FR2 K2 R2
  go_wp2_with fail
  refine HQ.out.mono ?_
  rintro e w3 ⟨rfl,h3,k3⟩
  have hs4:R+1≤w3.heap.size:=by have:=k3.size;omega
  have FR3:=Lib.hid (FR2b.out.keep k3 (by have:=HGR.out;omega))
  have K3:=Lib.hid (K2b.out.trans k3)
  have h3':Rd B w3 g [] true:=by have:=h3;simpa using this
  have R3:=Lib.hid h3'
  clear h3 h3' k3 hs3 FR2b K2b HQ
 all_goals
  have N4:=HNUM.out 67108864 _ _ w3 (by omega) R3.out
  rw [H6.out] at N4
  have N4:=Lib.hid N4
  go_wp2_with fail
  refine N4.out.mono ?_
  rintro e w4 ⟨rfl,h4,k4⟩
  have hz4:R+1≤w4.heap.size:=by have:=k4.size;omega
  have FR4:=Lib.hid (FR3.out.keep k4 (by have:=HGR.out;omega))
  have K4:=Lib.hid (K3.out.trans k4)
  have R4:=Lib.hid h4
  clear h4 k4 FR3 K3 R3 N4
  have N5:=HNUM.out 67108864 _ _ w4 (by omega) R4.out
  rw [H7.out] at N5
  have N5:=Lib.hid N5
  go_wp2_with fail
  refine N5.out.mono ?_
  rintro e w5 ⟨rfl,h5,k5⟩
  have hz5:R+1≤w5.heap.size:=by have:=k5.size;omega
  have FR5:=Lib.hid (FR4.out.keep k5 (by have:=HGR.out;omega))
  have K5:=Lib.hid (K4.out.trans k5)
  have R5:=Lib.hid h5
  clear h5 k5 FR4 K4 R4 N5
  have N6:=HNUM.out 67108864 _ _ w5 (by omega) R5.out
  rw [H8.out] at N6
  have N6:=Lib.hid N6
  go_wp2_with fail
  refine N6.out.mono ?_
  rintro e w6 ⟨rfl,h6,k6⟩
  have hz6:R+1≤w6.heap.size:=by have:=k6.size;omega
  have FR6:=Lib.hid (FR5.out.keep k6 (by have:=HGR.out;omega))
  have K6:=Lib.hid (K5.out.trans k6)
  have R6:=Lib.hid h6
  clear h6 k6 FR5 K5 R5 N6
  obtain ⟨m1,m2,m3,m4,⟨k1,k2⟩,⟨k3,k4⟩,k5,k6⟩:=FR6.out.all (.string ⟨T.toArray⟩) (.int .i64 (a:Int)) (.int .i64 (b:Int))
  have n0:=FR6.out.c0
  have HX:=Lib.hid (FR6.out.set (.string ⟨T.toArray⟩) (.int .i64 (a:Int)) (.int .i64 (b:Int)) (.int .i64 (c:Int)))
  have hk7:Kep (fun b=>b≠R) w6 _:=Zm2 (g:=R) (.string ⟨T.toArray⟩) (.int .i64 (a:Int)) (.int .i64 (b:Int)) (.int .i64 (c:Int))
  have K7:=Lib.hid (K6.out.andThen hk7 fun i hi _=>by omega)
  have R7:=Lib.hid (R6.out.keep hk7 (by have:=HGR.out;omega) (fun k hk=>by have:=HB.out;have:=HGR.out;omega) (by have:=HB.out;have:=HGR.out;omega))
  clear hk7 FR6 K6 R6
  go_wp2_with fail
  refine bodyPost_ret (Zta (p:=4) rfl Tryz.underlying102 rfl Zl0 _ _ R _ _ _ _ rfl HX.out) rfl ?_
  exact ⟨rfl,R7.out,K7.out⟩
end Go.Proofs.YtdijhifdjbnkfaaGreat.DT
namespace Go.Proofs.YtdijhifdjbnkfaaGreat.DT
open Go Go.RowKit MM DM VM GB
theorem Zcp (v:Value) (l:List UInt8) (n:Int) (w:World) (h0:0≤n) (h1:n≤9223372036854775807) (hown:OwnB 0 w v l) (hlen:l.length≤1000000000000) :
  Calls Tryz.prog 198 #[v,.int .i64 n] w (AppL (l++Zd8 n.toNat) v w):=by
 obtain ⟨m,rfl⟩:=Int.eq_ofNat_of_zero_le h0
 rw [Int.toNat_natCast]
 have hput:=VP.Zr2 (.slice none 0 0) [] m w (by omega) (BRow.nil_ w) (by simp)
 rw [List.nil_append] at hput
 have hbl:=Zea m
 have hne:=Zeb m
 obtain ⟨M,hM⟩:∃ M,Zd8 m=M:=⟨_,rfl⟩
 rw [hM] at hput hbl hne ⊢
 have HP:=Lib.hid hput
 have HO:=Lib.hid hown
 have HNE:=Lib.hid hne
 have hw:IntKind.u64.wrap (m:Int)=(m:Int):=by rw [IntKind.wrap_u64];omega
 obtain ⟨p,cap,rfl,_⟩:=(OwnB.brow hown).shape
 clear hput hown hM hne
 go_enter Tryz.func198,Tryz.ntmps198
 go_wp2_with fail
 refine HP.out.mono ?_
 rintro e w1 ⟨v1,rfl,ho1,hb1⟩
 have HO1:=Lib.hid (HO.out.keep hb1)
 have HR1:=Lib.hid (OwnB.brow ho1)
 have HB1:=Lib.hid hb1
 have HLT:=Lib.hid (Zqh HO.out)
 obtain ⟨p1,c1,rfl,_⟩:=(OwnB.brow ho1).shape
 clear ho1 hb1 HP
 go_wp2_with (at_builtin;refine Zzp rfl _ _ rfl _ l rfl HO1.out _ M rfl HR1.out HNE.out (by omega) ?_)
 intro v2 w2 ho2 hg2
 have HO2:=Lib.hid ho2
 have HG2:=Lib.hid (hg2.of_below HB1.out HLT.out)
 clear ho2 hg2
 go_wp2_with fail
 go_ret
 exact ⟨_,rfl,HO2.out,HG2.out⟩
def Zae (B q:Nat) (w W:World) (v:Value) (l:List UInt8):Prop:=OwnB B W v l∧Below B w W∧B≤W.heap.size∧q<W.heap.size∧∀ g,v.ownBlock=some g→g≠q
theorem Zae.grown {B q:Nat} {w W W':World} {v v':Value} {l m:List UInt8} (h:Zae B q w W v l) (ho:OwnB 0 W' v' m) (hg:ZaL W W' v v'):Zae B q w W' v' m∧W'.heap[q]? = W.heap[q]? := by
 obtain ⟨h1,h2,h3,h4,h5⟩:=h
 have hs:=hg.1.size
 have hlo:∀ k,v.ownBlock=some k→B≤k:=fun k hk=>(World.ownsRow.lt h1 k hk).1
 refine ⟨⟨OwnB.from ho fun k hk => ?_,h2.trans (hg.kep.below h3 fun k hk e=>by have:=hlo k e;omega),by omega,by omega,fun g hgv => ?_⟩,hg.1.block q h4 fun e=>h5 q e.symm rfl⟩
 ·rcases hg.2 k hk with e | e
  ·exact hlo k e
  ·omega
 ·rcases hg.2 g hgv with e | e
  ·exact h5 g e
  ·omega
theorem Zae.below {B q:Nat} {w W W':World} {v:Value} {l:List UInt8} (h:Zae B q w W v l) (hb:Below W.heap.size W W'):Zae B q w W' v l:=by
 obtain ⟨h1,h2,h3,h4,h5⟩:=h
 have hs:=hb.size
 exact ⟨h1.keep hb,h2.trans (hb.mono h3),by omega,by omega,h5⟩
def Zpk (zs:List Int):List UInt8:=zs.flatMap fun z=>Zd8 z.toNat
theorem Zpl {zs:List Int} {j:Nat} (h:j<zs.length):Zpk (zs.take (j+1))=Zpk (zs.take j)++Zd8 zs[j].toNat:=by
 unfold Zpk
 rw [List.take_succ_eq_append_getElem h,List.flatMap_append]
 simp
theorem Zhw (a:List UInt8) (x:Ent):entB a x=Zd8 (ZvE a x.1)++Zxu (x.1.drop (ZvE a x.1))++Zpk [x.2.1,x.2.2.1,x.2.2.2]:=by
 unfold entB Zpk
 simp
theorem Zdr:∀ (l:List Ent) (a:List UInt8),(∀ x∈l,okW x)→(Zdm a l).length≤115*l.length
 | [],_,_=>by simp [Zdm]
 | x::r,a,h=>by
   have hx:=h x (by simp)
   have h2:=Zdr r x.1 fun y hy=>h y (by simp [hy])
   have b1:=Zea (ZvE a x.1)
   have b2:=Zea x.2.1.toNat
   have b3:=Zea x.2.2.1.toNat
   have b4:=Zea x.2.2.2.toNat
   have b5:=(EM.Zxv (x.1.drop (ZvE a x.1))).1
   rw [List.length_drop] at b5
   have:=hx.1
   rw [Zdm,List.length_append,List.length_cons]
   unfold entB
   simp only [List.length_append]
   omega
theorem Zcl (v u:Value) (L:List UInt8) (c:List Ent) (w:World) (hown:OwnB 0 w v L) (hu:RAny entC w u c) (hc:∀ x∈c,okW x) (hn:c.length≤16) (hlen:L.length≤1000000000) :
  Calls Tryz.prog 134 #[v,u] w (AppL (L++blkB c) v w):=by
 obtain ⟨p,cap,rfl,hlc,hcm,_⟩:=hu.shape
 unfold maxLen at hcm
 have HU:=Lib.hid hu
 have HX:=Lib.hid hc
 have HV:=Lib.hid hown
 have HEND:Hid (Zdm [] (c.take c.length)=Zdm [] c):=Lib.hid (by rw [List.take_length])
 have HLB:=Lib.hid (fun i=>Zdr (c.take i) [] (fun x h=>hc x (List.mem_of_mem_take h)))
 have HO0:Hid (OwnB w.heap.size w (.slice none 0 0) (Zdm [] (c.take 0))):=Lib.hid (World.ownsRow_nil _ _ _ _)
 clear hu hc hown
 go_enter Tryz.func134,Tryz.ntmps134
 go_wp2_with fail
 go_loopw [5,6,14] (fun bv av iv wr=>∃ (i:Nat) (A:List UInt8),i≤c.length∧iv=.int .i64 i∧av=.string ⟨A.toArray⟩∧Hid (A=Zle c i)∧A.length≤65∧Hid (OwnB w.heap.size wr bv (Zdm [] (c.take i)))∧Hid (Below w.heap.size w wr)) (fun _ _ iv _=>c.length - (intOf iv).toNat)
 case atStart=>exact ⟨0,[],by omega,rfl,rfl,Lib.hid rfl,by simp,HO0,Lib.hid (Below.refl _ _)⟩
 case round =>
  obtain ⟨i,A,hi,rfl,rfl,HA,hA,HO,HB⟩:=hrel
  clear HO0
  by_cases hlt:i<c.length
  ·have q1:decide ((i:Int)<(c.length:Int))=true:=by rw [decide_eq_true_eq];omega
   have q2:decide (i<c.length)=true:=by rw [decide_eq_true_eq];omega
   have q3:(i:Int)<(c.length:Int):=by omega
   obtain ⟨b,off,rfl,hbl,_,c1,c2,c3,c4⟩:=Zht (RAny.below HU.out HB.out) hlt
   have hnx:=Zds hlt
   have hah:=Zlf hlt
   have hok:=HX.out c[i] (List.getElem_mem hlt)
   have hll:=HLB.out (i+1)
   rw [← HA.out] at hnx
   rw [List.length_take] at hll
   generalize c[i]=X at *
   rw [Zhw] at hnx
   obtain ⟨X1,z1,z2,z3⟩:=X
   dsimp only at *
   obtain ⟨ho1,ho2,ho3,ho4⟩:=hok
   dsimp only at ho1 ho2 ho3 ho4
   have hsl:=ZvG A X1
   have hsz1:=ZwF X1
   have hsh:=fun W=>ZvI A X1 W (by omega) (by omega)
   obtain ⟨k,hk⟩:∃ k,ZvE A X1=k:=⟨_,rfl⟩
   rw [hk] at hnx hsl hsh
   obtain ⟨L0,hL0⟩:∃ L,Zdm [] (c.take i)=L:=⟨_,rfl⟩
   rw [hL0] at hnx HO
   have HN:Hid (Zdm [] (c.take (i+1))=L0++Zd8 k++Zxu (X1.drop k)++Zpk [z1,z2,z3]):=Lib.hid (by rw [hnx];simp only [List.append_assoc])
   have HLN:Hid ((L0++Zd8 k++Zxu (X1.drop k)++Zpk [z1,z2,z3]).length≤2000):=Lib.hid (by rw [← HN.out];omega)
   have HAH:=Lib.hid hah
   have HSH:=Lib.hid hsh
   have hpart:=ZqY X1 k
   have HPT:=Lib.hid (fun W=>VP.Zsb (.slice none 0 0) [] ⟨(X1.drop k).toArray⟩ W (BRow.nil_ W) (by rw [ZwF,List.length_drop];simp;omega))
   simp only [List.nil_append] at HPT
   have hkx:(k:Int)≤(X1.length:Int):=by omega
   have hki:0≤(k:Int):=by omega
   obtain ⟨q,hq⟩:∃ q,wr.heap.size=q:=⟨_,rfl⟩
   obtain ⟨pb,cb,rfl,_⟩:=(OwnB.brow HO.out).shape
   obtain ⟨w0,hw0⟩:∃ W,wr.alloc (.cells #[.string ⟨X1.toArray⟩,.int .i64 z1,.int .i64 z2,.int .i64 z3] 102)=W:=⟨_,rfl⟩
   have hb0:Below wr.heap.size wr w0:=by rw [← hw0];exact (Below.refl _ _).alloc (Nat.le_refl _) _
   have BS0:Hid (Zae w.heap.size q w w0 (.slice pb L0.length cb) L0):=Lib.hid (by
    have h1:Zae w.heap.size q w w0 (.slice pb L0.length cb) L0:=⟨HO.out.keep hb0,HB.out.trans (hb0.mono HB.out.size),by have:=HB.out.size;have:=hb0.size;omega,by rw [← hw0,← hq];simp,fun g hg=>by have:=(World.ownsRow.lt HO.out g hg).2;omega⟩
    exact h1)
   have T0:Hid (Four w0 q 102 (.string ⟨X1.toArray⟩) (.int .i64 z1) (.int .i64 z2) (.int .i64 z3)):=Lib.hid (by rw [← hw0,← hq];exact Zjz wr 102 _ _ _ _)
   have HW0:=Lib.hid hw0
   clear hnx hah hll hk hsh hL0 hw0 hb0 HO HB HLB
   go_wp2_with fail
   rw [HW0.out]
   refine (HSH.out _).mono ?_
   rintro e w1 ⟨rfl,m,hm⟩
   have hb1:Below w0.heap.size w0 w1:=by rw [hm];exact MM.ZcN (Below.refl _ _) m
   have BS1:=Lib.hid (BS0.out.below hb1)
   have T1:=Lib.hid (T0.out.below hb1 T0.out.lt)
   have HAN:=Lib.hid (Zcp (.slice pb L0.length cb) L0 (k:Int) w1 hki (by omega) (OwnB.zero BS1.out.1) (by have:=HLN.out;simp only [List.length_append] at this;omega))
   rw [Int.toNat_natCast] at HAN
   clear hm hb1 BS0 T0 HSH
   go_wp2_with fail
   refine HAN.out.mono ?_
   rintro e w2 ⟨v2,rfl,ho2,hg2⟩
   obtain ⟨hbs2,hq2⟩:=BS1.out.grown ho2 hg2
   have BS2:=Lib.hid hbs2
   have t2:Four w2 q 102 (.string ⟨X1.toArray⟩) (.int .i64 z1) (.int .i64 z2) (.int .i64 z3):=hq2.trans T1.out
   have T2:=Lib.hid t2
   obtain ⟨f0,f1,f2,f3⟩:=t2.cells
   obtain ⟨p2,c2,rfl,_⟩:=(OwnB.brow ho2).shape
   clear ho2 hg2 hbs2 hq2 t2 BS1 T1 HAN
   have HN1:=HN
   obtain ⟨L1,hL1⟩:∃ l,L0++Zd8 k=l:=⟨_,rfl⟩
   rw [hL1] at BS2 HN1 HLN ⊢
   have hcap:True:=trivial
   have HP2:=Lib.hid (HPT.out w2)
   obtain ⟨TX,hTX⟩:∃ t,Zxu (X1.drop k)=t:=⟨_,rfl⟩
   have HTN:Hid (TX≠[]):=Lib.hid (by rw [← hTX];exact Zxw _)
   rw [hTX] at HP2 HN1 HLN
   clear hL1 hTX HPT HN
   go_wp2_with fail
   refine HP2.out.mono ?_
   rintro e w3 ⟨v3,rfl,ho3,hb3⟩
   have BS3:=Lib.hid (BS2.out.below hb3)
   have T3:=Lib.hid (T2.out.below hb3 T2.out.lt)
   have HR3:=Lib.hid (OwnB.brow ho3)
   have HL1:Hid (L1.length+TX.length≤2000):=Lib.hid (by have:=HLN.out;simp only [List.length_append] at this;omega)
   obtain ⟨p3,c3,rfl,_⟩:=(OwnB.brow ho3).shape
   clear ho3 hb3 BS2 T2 HP2 f0 f1 f2 f3
   go_wp2_with (at_builtin;go_loud (refine Zzp rfl _ _ rfl _ L1 rfl (OwnB.zero BS3.out.1) _ TX rfl HR3.out HTN.out (by have:=HL1.out;omega) ?_;intro v4 w4 ho4 hg4;have hbs:=BS3.out.grown ho4 hg4;have BS4:=Lib.hid hbs.1;have T4:Hid (Four w4 q 102 (.string ⟨X1.toArray⟩) (.int .i64 z1) (.int .i64 z2) (.int .i64 z3)):=Lib.hid (hbs.2.trans T3.out);clear hbs ho4 hg4 BS3 T3;obtain ⟨f0,f1,f2,f3⟩:=T4.out.cells))
   obtain ⟨r,hr⟩:∃ r,w4.heap.size=r:=⟨_,rfl⟩
   obtain ⟨w5,hw5⟩:∃ W,w4.alloc (.cells #[.int .i64 z1,.int .i64 z2,.int .i64 z3] 3)=W:=⟨_,rfl⟩
   rw [hw5]
   have hb5:Below w4.heap.size w4 w5:=by rw [← hw5];exact (Below.refl _ _).alloc (Nat.le_refl _) _
   obtain ⟨zs,hzs⟩:∃ zs:List Int,[z1,z2,z3]=zs:=⟨_,rfl⟩
   have hz3:zs.length=3:=by rw [← hzs];rfl
   have HZ:Hid (w5.heap[r]? = some (.cells (zs.map fun z=>Value.int .i64 z).toArray 3 (0,0))):=Lib.hid (by rw [← hzs,← hw5,← hr];exact heap_alloc_new w4 _)
   have HZB:Hid (∀ z∈zs,0≤z∧z≤67108864):=Lib.hid (by rw [← hzs];intro z hz;simp only [List.mem_cons,List.not_mem_nil,or_false] at hz;rcases hz with rfl | rfl | rfl<;>assumption)
   rw [hzs] at HN1 HLN
   have HZ3:=Lib.hid hz3
   have BS5:Hid (Zae w.heap.size q w w5 v4 (L1++TX++Zpk (zs.take 0))):=Lib.hid (by have:=BS4.out.below hb5;simpa [Zpk] using this)
   have T5:=Lib.hid (T4.out.below hb5 T4.out.lt)
   have HR5:Hid (∀ g,v4.ownBlock=some g→g≠r):=Lib.hid (fun g hg=>by have:=(World.ownsRow.lt BS4.out.1 g hg).2;omega)
   have HRS:Hid (r<w5.heap.size):=Lib.hid (by rw [← hw5,← hr];simp)
   have HNB:Hid (∀ j,(L1++TX++Zpk (zs.take j)).length≤3000):=Lib.hid (fun j=>by
    have h1:=HLN.out
    have h2:(Zpk (zs.take j)).length≤(Zpk zs).length:=by
     unfold Zpk
     conv=>rhs;rw [← List.take_append_drop j zs]
     rw [List.flatMap_append,List.length_append]
     omega
    simp only [List.length_append] at h1 ⊢
    omega)
   rw [hr]
   clear hw5 hb5 hzs hz3 hr BS4 T4 HR3 HL1 HTN HLN f0 f1 f2 f3 c1 c4
   go_loopw [5,40] (fun bv jv W=>∃ (j:Nat),j≤3∧jv=.int .i64 (j:Int)∧Hid (Zae w.heap.size q w W bv (L1++TX++Zpk (zs.take j)))∧Hid (Four W q 102 (.string ⟨X1.toArray⟩) (.int .i64 z1) (.int .i64 z2) (.int .i64 z3))∧Hid (W.heap[r]? = some (.cells (zs.map fun z=>Value.int .i64 z).toArray 3 (0,0)))∧Hid (∀ g,bv.ownBlock=some g→g≠r)∧Hid (r<W.heap.size)) (fun _ jv _=>3 - (intOf jv).toNat)
   case atStart=>exact ⟨0,by omega,rfl,BS5,T5,HZ,HR5,HRS⟩
   case round =>
    obtain ⟨j,hj,rfl,BS,TT,HC,HG,HS⟩:=hrel
    clear BS5 T5 HZ HR5 HRS
    by_cases hj3:j<3
    ·have j1:decide ((j:Int)<3)=true:=by rw [decide_eq_true_eq];omega
     have j2:decide (j<3)=true:=by rw [decide_eq_true_eq];omega
     have j3:(j:Int)<3:=by omega
     have hjz:j<zs.length:=by rw [HZ3.out];exact hj3
     have fz:wr.cell? ⟨r,j,none⟩=some (.int .i64 zs[j]):=by
      rw [cell_of_row wr r j _ _ _ HC.out]
      simp [hjz]
     have hzb:=HZB.out zs[j] (List.getElem_mem hjz)
     have hnx:=Zpl hjz
     generalize zs[j]=z at *
     have HA:=Lib.hid (Zcp u5 (L1++TX++Zpk (zs.take j)) z wr hzb.1 (by omega) (OwnB.zero BS.out.1) (by have:=HNB.out j;omega))
     have HNX:Hid (L1++TX++Zpk (zs.take (j+1))=L1++TX++Zpk (zs.take j)++Zd8 z.toNat):=Lib.hid (by rw [hnx];simp only [List.append_assoc])
     have HJ:=Lib.hid hj3
     clear hnx hjz hzb hj3
     go_wp2_with fail
     refine HA.out.mono ?_
     rintro e w6 ⟨v6,rfl,ho6,hg6⟩
     rw [← HNX.out] at ho6
     obtain ⟨hbs,hq6⟩:=BS.out.grown ho6 hg6
     have BS6:=Lib.hid hbs
     have T6:Hid (Four w6 q 102 (.string ⟨X1.toArray⟩) (.int .i64 z1) (.int .i64 z2) (.int .i64 z3)):=Lib.hid (hq6.trans TT.out)
     have HC6:Hid (w6.heap[r]? = some (.cells (zs.map fun z=>Value.int .i64 z).toArray 3 (0,0))):=Lib.hid ((hg6.1.block r HS.out (fun e=>HG.out r e.symm rfl)).trans HC.out)
     have HG6:Hid (∀ g,v6.ownBlock=some g→g≠r):=Lib.hid (fun g hg=>by
      rcases hg6.2 g hg with e | e
      ·exact HG.out g e
      ·have:=HS.out;omega)
     have HS6:Hid (r<w6.heap.size):=Lib.hid (by have:=HS.out;have:=hg6.1.size;omega)
     clear hbs hq6 ho6 hg6 BS TT HC HG HS HA
     go_wp2_with fail
     have hj3:=HJ.out
     go_roundw
     case rel=>exact ⟨j+1,by omega,by go_num,BS6,T6,HC6,HG6,HS6⟩
     case measure=>simp [intOf];omega
    ·obtain rfl:j=3:=by omega
     have j1:decide (((3:Nat):Int)<3)=false:=by decide
     have j2:decide ((3:Nat)<3)=false:=by decide
     obtain ⟨f0,f1,f2,f3⟩:=TT.out.cells
     have hbs:=BS.out
     rw [List.take_of_length_le (by rw [HZ3.out];exact Nat.le_refl _),← HN1.out] at hbs
     have HO9:=Lib.hid hbs.1
     have HB9:=Lib.hid hbs.2.1
     clear hbs BS TT HC HG HS hj3
     go_wp2_with fail
     go_roundw
     case rel=>exact ⟨i+1,X1,by omega,by go_num,rfl,Lib.hid HAH.out.symm,ho1,HO9,HB9⟩
     case measure=>simp [intOf];omega
  ·obtain rfl:i=c.length:=by omega
   have q1:decide ((c.length:Int)<(c.length:Int))=false:=by simp
   have q2:decide (c.length<c.length)=false:=by simp
   have ho:=HO.out
   rw [HEND.out] at ho
   obtain ⟨C,hC⟩:∃ C,Zdm [] c=C:=⟨_,rfl⟩
   have hCl:=HLB.out c.length
   rw [HEND.out,List.take_length] at hCl
   have hblk:blkB c=Zxu C:=by unfold blkB;rw [hC]
   rw [hC] at ho hCl
   have hs:=HB.out.size
   have hbrow:=OwnB.brow ho
   have hcv:=hbrow.conv
   obtain ⟨pb,cb,rfl,_⟩:=hbrow.shape
   have HPT:=VP.Zsb (.slice none 0 0) [] ⟨C.toArray⟩ wr (BRow.nil_ wr) (by rw [ZwF];simp;omega)
   simp only [List.nil_append] at HPT
   have HP:=Lib.hid HPT
   obtain ⟨TX,hTX⟩:∃ t,Zxu C=t:=⟨_,rfl⟩
   have HEQ:Hid (blkB c=TX):=Lib.hid (hblk.trans hTX)
   have HTN:Hid (TX≠[]):=Lib.hid (by rw [← hTX];exact Zxw _)
   have hTl:TX.length≤3000:=by
    rw [← hTX]
    have:=(EM.Zxv C).1
    omega
   rw [hTX] at HP
   have HLT:=Lib.hid (Zqh HV.out)
   have HV1:=Lib.hid (HV.out.keep HB.out)
   obtain ⟨pv,cv,rfl,_⟩:=(OwnB.brow HV.out).shape
   clear ho hbrow HPT hTX hC hblk HO HEND HLB hlt HA HV
   go_wp2_with fail
   refine HP.out.mono ?_
   rintro e w3 ⟨v3,rfl,ho3,hb3⟩
   have HV3:=Lib.hid (HV1.out.keep hb3)
   have HB3:=Lib.hid (HB.out.trans (hb3.mono hs))
   have HR3:=Lib.hid (OwnB.brow ho3)
   obtain ⟨p3,c3,rfl,_⟩:=(OwnB.brow ho3).shape
   clear ho3 hb3 HP HV1 HB
   go_wp2_with (at_builtin;refine Zzp rfl _ _ rfl _ L rfl HV3.out _ TX rfl HR3.out HTN.out (by omega) ?_)
   intro v4 w4 ho4 hg4
   rw [← HEQ.out] at ho4
   have HO4:=Lib.hid ho4
   have HG4:=Lib.hid (hg4.of_below HB3.out HLT.out)
   clear ho4 hg4
   go_wp2_with fail
   go_ret
   exact ⟨_,rfl,HO4.out,HG4.out⟩
end Go.Proofs.YtdijhifdjbnkfaaGreat.DT
namespace Go.Proofs.YtdijhifdjbnkfaaGreat.GM
open Go VM
open SM (Doc isS FitS)
open EM (Zrf)
def exA:List Doc:=[(1,(7,[([109,115,103],[120])]))]
def exC:List Doc:=[(4,(0,[]))]
theorem Zh5:isS exA=true:=by decide +kernel
theorem Zia:isS exC=true:=by decide +kernel
theorem Zh8:Zbs exA:=fun _=>by decide +kernel
theorem Zid:Zbs exC:=fun _=>by decide +kernel
theorem Zh3:FitS exA:=fun d hd=>by
 obtain rfl:=List.mem_singleton.1 hd
 exact ⟨by decide,by decide⟩
theorem Zh9:FitS exC:=fun d hd=>by
 obtain rfl:=List.mem_singleton.1 hd
 exact ⟨by decide,by decide⟩
theorem Zg7 {l:List Doc} (hS:isS l=true) (hs:Zbs l) (h0:l≠[]):encG l=(Zd6 l,0):=by rw [ZgT hs,if_pos ⟨hS,h0⟩]
theorem Zh7:Zrf (Zuv exA) [109,115,103,58,120]=[(0,[0])]:=by decide +kernel
theorem Zh4:Zjt exA=(7,7,1,1,1):=by decide +kernel
theorem Zh6:(!exA.isEmpty&&BM.mayL (Ziw (Zuv exA)) [109,115,103,58,120])=true:=by decide +kernel
theorem Zic:(Zuv exC).length=0:=by decide +kernel
theorem Zib:(!exC.isEmpty&&BM.mayL (Ziw (Zuv exC)) [109,115,103,58,120])=false:=by decide +kernel
end Go.Proofs.YtdijhifdjbnkfaaGreat.GM
