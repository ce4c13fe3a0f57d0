import Derived.Test.YtdfibahafilklaaGreatDoorZC35
import Derived.Test.YtdfibahafilklaaGreatDoorZC36
import Derived.Test.YtdfibahafilklaaGreatDoorZC14
import Derived.Test.YtdfibahafilklaaGreatDoorZC16
set_option maxRecDepth 100000
set_option maxHeartbeats 8000000
set_option linter.unusedVariables false
set_option linter.unusedSimpArgs false
namespace Go.Proofs.YtdfibahafilklaaGreatDoor.EV
open Go Go.RowKit MM EM VM
theorem infoEv2:(Tryz.prog.info? 87).map (·.size)=some 2:=by kernel_rfl
def IsF (w:World) (b:Nat):Prop:=∃ cur fr,w.heap[b]? = some (.cells cur 84 fr)
def NewF (w w':World) (b:Nat):Prop:=w.heap.size≤b∧IsF w' b
theorem IsF.keep {S:Nat→Prop} {w w':World} {b:Nat} (h:IsF w b) (hk:Kep S w w') (hb:S b):IsF w' b:=by
 obtain ⟨cur,fr,h⟩:=h
 exact ⟨cur,fr,(hk.block b (Array.getElem?_eq_some_iff.1 h).1 hb).trans h⟩
def EvTook (B g:Nat) (s:Ev×List UInt8×Bool) (w:World) (e:Ending) (w':World):Prop :=
 ∃ u,e=.returned (.agg #[.int .i64 s.1.1,u])∧ROn fldC (NewF w w') w' u s.1.2∧Rd B w' g s.2.1 s.2.2∧Kep (fun b=>b≠g) w w'
theorem event_any (B g:Nat) (l:List UInt8) (o:Bool) (w:World) (h:Rd B w g l o) (hB:B≤g):Calls Tryz.prog 134 #[.pointer (some ⟨g,0,none⟩)] w (EvTook B g (evSt l o) w):=by
 have hmx:Tryz.prog.follows .mixedOrders=true:=by kernel_rfl
 have hg:=h.lt
 have hlen:=evSt_len l o
 obtain ⟨z,l1,o1,ht⟩:∃ z l1 o1,timSt l o=(z,l1,o1):=⟨_,_,_,rfl⟩
 obtain ⟨N,l2,o2,hn⟩:∃ N l2 o2,numSt 16 l1 o1=(N,l2,o2):=⟨_,_,_,rfl⟩
 have hN:N≤16:=by have:=num_le 16 l1 o1;rw [hn] at this;exact this
 have hst:evSt l o=((z,(fldsN N ([],l2,o2)).1),(fldsN N ([],l2,o2)).2.1,(fldsN N ([],l2,o2)).2.2):=by
  unfold evSt
  rw [ht]
  dsimp only
  rw [hn]
 have HST:=Lib.hid hst
 have hb0:Below w.heap.size w (w.alloc (.cells #[.int .i64 0,.slice none 0 0] 87)):=(Below.refl _ _).alloc (Nat.le_refl _) _
 have hsz0:(w.alloc (.cells #[.int .i64 0,.slice none 0 0] 87)).heap.size=w.heap.size+1:=by simp
 have hr0:=h.keep (S:=fun _=>True) (kep_below _ hb0) trivial (fun _ _=>trivial) (by omega)
 have HT:=Lib.hid (time_any B g l o _ hr0 hB)
 rw [ht] at HT
 have HN:=Lib.hid (fun W (h:Rd B W g l1 o1)=>(show Calls Tryz.prog 133 #[.pointer (some ⟨g,0,none⟩),.int .i64 16] W (Took B g (.int .i64 N) l2 o2 W) from by have:=number_any B g 16 l1 o1 W (by omega) h hB;rw [hn] at this;exact this))
 have n0:=heap_alloc_new w (.cells #[.int .i64 0,.slice none 0 0] 87)
 clear h hst ht hn hr0
 go_enter Tryz.func134,Tryz.ntmps134
 go_wp2_with fail
 refine HT.out.mono ?_
 rintro e w1 ⟨rfl,hr1,hk1⟩
 have hs1:=hk1.size
 have a0:=(hk1.block w.heap.size (by simp) (by omega)).trans n0
 have hk01:Kep (fun b=>b≠g) w w1:=(kep_below _ hb0).trans hk1
 have HR1:=Lib.hid hr1
 have HK1:=Lib.hid hk01
 have A0:=Lib.hid a0
 rw [hsz0] at hs1
 clear hr1 hk1 n0 a0 hk01 hb0 hsz0 HT
 go_wp2_with fail
 obtain ⟨q,hq⟩:∃ q,w1.heap.size=q:=⟨_,rfl⟩
 rw [hq]
 have hqR:w.heap.size<q:=by omega
 have n1:=heap_alloc_new w1 (.cells #[.int .i64 z,.slice none 0 0] 87)
 rw [hq] at n1
 have hka:Kep (fun b=>b≠g) w1 (w1.alloc (.cells #[.int .i64 z,.slice none 0 0] 87)):=kep_alloc _ _ _
 have HN2:=Lib.hid (HN.out (w1.alloc (.cells #[.int .i64 z,.slice none 0 0] 87)) (HR1.out.keep (S:=fun _=>True) (kep_alloc _ _ _) trivial (fun _ _=>trivial) (by omega)))
 have hsa:(w1.alloc (.cells #[.int .i64 z,.slice none 0 0] 87)).heap.size=q+1:=by simp [hq]
 refine HN2.out.mono ?_
 rintro e w3 ⟨rfl,hr3,hk3⟩
 have b0:=(hk3.block q (by omega) (by omega)).trans n1
 have a3:=((hka.trans hk3).block w.heap.size (by omega) (by omega)).trans A0.out
 have hs3:=hk3.size
 rw [hsa] at hs3
 have HR3:=Lib.hid hr3
 have HK3:=Lib.hid (HK1.out.trans (hka.trans hk3))
 have HA3:=Lib.hid a3
 have HB3:=Lib.hid b0
 have HO3:=Lib.hid (OwnX.nil_ (C:=fldC) 84 (q+1) (fun _=>False) w3)
 clear hr3 hk3 hka n1 b0 a3 HN HN2 A0 HK1 HR1 hsa hq
 go_wp2_with fail
 go_loopw [4,10] (fun _ iv wr=>∃ (i:Nat) (u:Value),i≤N∧iv=.int .i64 i∧Hid (OwnX fldC 84 (q+1) (fun _=>False) wr u (fldsN i ([],l2,o2)).1)∧Hid (wr.heap[q]? = some (.cells #[.int .i64 z,u] 87 (0,0)))∧Hid (wr.heap[w.heap.size]? = some (.cells #[.int .i64 0,.slice none 0 0] 87 (0,0)))∧Hid (Rd B wr g (fldsN i ([],l2,o2)).2.1 (fldsN i ([],l2,o2)).2.2)∧Hid (Kep (fun b=>b≠g) w wr)) (fun _ iv _=>N - (intOf iv).toNat)
 case atStart=>exact ⟨0,_,by omega,rfl,HO3,HB3,HA3,HR3,HK3⟩
 case round =>
  obtain ⟨i,u,hi,rfl,HO,HBX,HA,HR,HK⟩:=hrel
  clear HO3 HB3 HA3 HR3 HK3
  have hqw:q<wr.heap.size:=(Array.getElem?_eq_some_iff.1 HBX.out).1
  have hlt9:=fldsN_len i ([],l2,o2)
  by_cases hlt:i<N
  ·have q1:decide ((i:Int)<(N:Int))=true:=by rw [decide_eq_true_eq];omega
   obtain ⟨fs,li,oi,hsi⟩:∃ fs li oi,fldsN i ([],l2,o2)=(fs,li,oi):=⟨_,_,_,rfl⟩
   obtain ⟨s1,l3,o3,ht1⟩:∃ s1 l3 o3,txtSt 32 li oi=(s1,l3,o3):=⟨_,_,_,rfl⟩
   obtain ⟨s2,l4,o4,ht2⟩:∃ s2 l4 o4,txtSt 4096 l3 o3=(s2,l4,o4):=⟨_,_,_,rfl⟩
   have hnx:fldsN (i+1) ([],l2,o2)=(fs++[(s1,s2)],l4,o4):=by
    rw [fldsN,hsi]
    unfold stepF
    dsimp only
    rw [ht1]
    dsimp only
    rw [ht2]
   rw [hsi] at HO HR hlt9
   have hfl:fs.length≤16:=by simp at hlt9;omega
   have HNX:=Lib.hid hnx
   have HT1:=Lib.hid (text_any B g 32 li oi wr (by omega) (by omega) HR.out hB)
   rw [ht1] at HT1
   have HT2:=Lib.hid (fun W (h:Rd B W g l3 o3)=>(show Calls Tryz.prog 169 #[.pointer (some ⟨g,0,none⟩),.int .i64 4096] W (Took B g (.string ⟨s2.toArray⟩) l4 o4 W) from by have:=text_any B g 4096 l3 o3 W (by omega) (by omega) h hB;rw [ht2] at this;exact this))
   have HLT:=Lib.hid hlt
   clear hsi ht1 ht2 hnx hlt hlt9 HR
   go_wp2_with fail
   refine HT1.out.mono ?_
   rintro e w4 ⟨rfl,hr4,hk4⟩
   have hs4:=hk4.size
   have HO4:=Lib.hid (HO.out.keep hk4 (fun _ _ h=>h.elim) (fun k hk=>by have:=(HO.out.cells hk).1;omega))
   have HBX4:=Lib.hid ((hk4.block q hqw (by omega)).trans HBX.out)
   have HA4:=Lib.hid ((hk4.block w.heap.size (by omega) (by omega)).trans HA.out)
   have HR4:=Lib.hid hr4
   have HK4:=Lib.hid (HK.out.trans hk4)
   clear hr4 hk4 HT1 HO HBX HA HK
   go_wp2_with fail
   refine RS.begin_ (T:=fun b=>b≠g∧u.ownBlock≠some b) [(0,true),(1,true),(2,true),(3,true),(4,false),(5,true),(6,false),(7,false),(8,true)] hmx (by kernel_rfl) (fun _ _ d _ _ h=>by cases d<;>exact h) ?_
   simp only [RS.ordered,List.map_cons,List.map_nil,List.getElem?_toArray,List.getElem?_cons_succ,List.getElem?_cons_zero]
   have hub:u.ownBlock≠some q:=fun e=>by have:=(HO4.out.cells e).1;omega
   have hug:u.ownBlock≠some g:=fun e=>by have:=(HO4.out.cells e).1;omega
   have huR:u.ownBlock≠some w.heap.size:=fun e=>by have:=(HO4.out.cells e).1;omega
   obtain ⟨wd,hwd⟩:∃ wd,w4.drew=wd:=⟨_,rfl⟩
   have hkd:Kep (fun _=>True) w4 wd:=by rw [← hwd];exact kep_draw _ _
   have hsd:w4.heap.size=wd.heap.size:=by rw [← hwd];rfl
   have c1:wd.cell? ⟨q,1,none⟩=some u:=by rw [cell_of_row wd q 1 _ _ _ ((hkd.block q (by omega) trivial).trans HBX4.out)];rfl
   have G:=Lib.hid (fun W (hW:Kep (fun b=>b≠g∧u.ownBlock≠some b) wd W)=>(show W.cell? ⟨q,1,none⟩=some u from (hW.cell (by omega) ⟨by omega,hub⟩ 1).trans c1))
   have HOd:=Lib.hid (HO4.out.keep hkd (fun _ _ _=>trivial) (fun _ _=>trivial))
   have HBd:=Lib.hid ((hkd.block q (by omega) trivial).trans HBX4.out)
   have HAd:=Lib.hid ((hkd.block w.heap.size (by omega) trivial).trans HA4.out)
   have HRd:=Lib.hid (HR4.out.keep hkd trivial (fun _ _=>trivial) (by omega))
   have HKd:=Lib.hid (HK4.out.trans (hkd.mono fun _ _=>trivial))
   rw [hwd]
   clear hwd hkd c1 HO4 HBX4 HA4 HR4 HK4
   repeat (refine RS.take (by rfl) (by intro W hW;have f1:=G.out W hW;go_simp;with_reducible rfl) ?_;simp only [Act.put,List.setIfInBounds_toArray,List.set_cons_zero,List.set_cons_succ])
   refine RS.alone (by rfl) (fun K hK => ?_)
   go_simp
   refine (HT2.out wd HRd.out).mono ?_
   rintro e w5 ⟨rfl,hr5,hk5⟩
   go_simp
   refine hK.out _ _ (hk5.mono fun _ h=>h.1) ?_
   clear hK K
   have hs5:=hk5.size
   have HO5:=Lib.hid (HOd.out.keep hk5 (fun _ _ h=>h.elim) (fun k hk=>by have:=(HOd.out.cells hk).1;omega))
   have HB5:=Lib.hid ((hk5.block q (by omega) (by omega)).trans HBd.out)
   have HA5:=Lib.hid ((hk5.block w.heap.size (by omega) (by omega)).trans HAd.out)
   have HR5:=Lib.hid hr5
   have HK5:=Lib.hid (HKd.out.trans hk5)
   clear hr5 hk5 G HOd HBd HAd HRd HKd HT2
   repeat (refine RS.take (by rfl) (by intro W hW;go_simp;with_reducible rfl) ?_;simp only [Act.put,List.setIfInBounds_toArray,List.set_cons_zero,List.set_cons_succ])
   refine RS.alone (by rfl) (fun K hK => ?_)
   go_simp
   refine hK.out _ _ (kep_alloc _ _ _) ?_
   clear hK K
   refine RS.alone (by rfl) (fun K hK => ?_)
   refine wp_append_x1 fldE _ _ rfl (q+1) u fs w5 [.string ⟨s1.toArray⟩,.string ⟨s2.toArray⟩] (s1,s2) rfl rfl HO5.out (fun _ _ h=>h.elim) (fld_on.2 rfl) rfl (by unfold maxLen;omega) (by omega) (by omega) ?_
   intro v6 w6 ho6 hb6 hk6 hv6
   obtain ⟨g6,c6,rfl⟩:=hv6
   refine hK.out _ _ (hk6.mono fun _ h=>h.2) ?_
   clear hK K
   have hka:Kep (fun b=>u.ownBlock≠some b) w5 w6:=(kep_alloc _ _ _).trans hk6
   have HO6:=Lib.hid ho6
   have B6:=(hka.block q (by omega) hub).trans HB5.out
   have HB6:=Lib.hid B6
   have HA6:=Lib.hid ((hka.block w.heap.size (by omega) huR).trans HA5.out)
   have HR6:=Lib.hid (HR5.out.keep hka hug (fun k hk e=>by have:=(HO5.out.cells e).1;omega) (by omega))
   have HK6:=Lib.hid (HK5.out.andThen hka (fun k hk _ e=>by have:=(HO5.out.cells e).1;omega))
   have hs6:=hka.size
   clear hka ho6 hb6 hk6 HO5 HB5 HA5 HR5 HK5
   repeat (refine RS.take (by rfl) (by intro W hW;go_simp;with_reducible rfl) ?_;simp only [Act.put,List.setIfInBounds_toArray,List.set_cons_zero,List.set_cons_succ])
   refine RS.done ?_
   simp only [List.length_cons,List.length_nil,List.drop_succ_cons,List.drop_zero,Nat.zero_add,Nat.reduceAdd]
   obtain ⟨k0,k1,k2,k3,_,_⟩:=Two.all (show Two w6 q 87 (.int .i64 z) u from B6) (.int .i64 z)
   have hkb:Kep (fun b=>b≠q) w6 (w6.setCell ⟨q,1,none⟩ (.slice (some ⟨g6,0,none⟩) (fs.length+1) c6)):=kep_set0 _
   have HO7:=Lib.hid (HO6.out.keep hkb (fun _ _ h=>h.elim) (fun k hk=>by have:=(HO6.out.cells hk).1;omega))
   have HB7:=Lib.hid (show (w6.setCell ⟨q,1,none⟩ (.slice (some ⟨g6,0,none⟩) (fs.length+1) c6)).heap[q]? = some (.cells #[.int .i64 z,.slice (some ⟨g6,0,none⟩) (fs.length+1) c6] 87 (0,0)) from heap_setCell_same w6 q 1 _ _ _ HB6.out)
   have HA7:=Lib.hid ((hkb.block w.heap.size (by omega) (by omega)).trans HA6.out)
   have HR7:=Lib.hid (HR6.out.keep hkb (by omega) (fun k hk=>by omega) (by omega))
   have HK7:=Lib.hid (HK6.out.andThen hkb (fun k hk _=>by omega))
   have HOr:Hid (OwnX fldC 84 (q+1) (fun _=>False) (w6.setCell ⟨q,1,none⟩ (.slice (some ⟨g6,0,none⟩) (fs.length+1) c6)) (.slice (some ⟨g6,0,none⟩) (fs.length+1) c6) (fldsN (i+1) ([],l2,o2)).1):=Lib.hid (by rw [HNX.out];exact HO7.out)
   have HRr:Hid (Rd B (w6.setCell ⟨q,1,none⟩ (.slice (some ⟨g6,0,none⟩) (fs.length+1) c6)) g (fldsN (i+1) ([],l2,o2)).2.1 (fldsN (i+1) ([],l2,o2)).2.2):=Lib.hid (by rw [HNX.out];exact HR7.out)
   clear hkb B6 HO6 HB6 HA6 HR6 HK6 HO7 HR7 HNX
   go_wp2_with fail
   have hlt:=HLT.out
   go_roundw
   case rel=>exact ⟨i+1,_,by omega,by go_num,HOr,HB7,HA7,HRr,HK7⟩
   case measure=>simp [intOf];omega
  ·obtain rfl:i=N:=by omega
   have q1:decide ((i:Int)<(i:Int))=false:=by simp
   obtain ⟨k0,k1,_,_,_,_⟩:=Two.all (show Two wr q 87 (.int .i64 z) u from HBX.out) (.int .i64 z)
   obtain ⟨m0,m1,m2,m3,m4,m5⟩:=Two.all (show Two wr w.heap.size 87 (.int .i64 0) (.slice none 0 0) from HA.out) (.int .i64 z)
   have HX:=Lib.hid (Two.s01 (show Two wr w.heap.size 87 (.int .i64 0) (.slice none 0 0) from HA.out) (.int .i64 z) u)
   have hkb:Kep (fun b=>b≠w.heap.size) wr ((wr.setCell ⟨w.heap.size,0,none⟩ (.int .i64 z)).setCell ⟨w.heap.size,1,none⟩ u):=kep_set01 _ _
   have HQ:Hid (EvTook B g (evSt l o) w (.returned (.agg #[.int .i64 z,u])) ((wr.setCell ⟨w.heap.size,0,none⟩ (.int .i64 z)).setCell ⟨w.heap.size,1,none⟩ u)):=Lib.hid (by
    rw [HST.out]
    refine ⟨u,rfl,?_,HR.out.keep hkb (by omega) (fun k hk=>by omega) (by omega),HK.out.andThen hkb (fun k hk _=>by omega)⟩
    have hok:=HO.out.keep hkb (fun _ _ h=>h.elim) (fun k hk=>by have:=(HO.out.cells hk).1;omega)
    exact hok.ron (fun k hk=>⟨by have:=(HO.out.cells hk).1;omega,(hok.cells hk).2.2⟩) (fun _ _ h=>h.elim))
   obtain ⟨pu,cu,hu,_⟩:=(OwnX.any HO.out).shape
   rw [hu] at k1 HX HQ
   clear hkb HO HBX HA HR HK hlt HST hlt9
   go_wp2_with fail
   refine bodyPost_ret (results_box1 rfl Tryz.underlying87 rfl infoEv2 _ _ w.heap.size _ _ rfl HX.out) rfl HQ.out
end Go.Proofs.YtdfibahafilklaaGreatDoor.EV
