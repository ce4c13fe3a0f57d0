import Derived.Test.YtdijhifdjbnkfaaGreatZD19
import Derived.Test.YtdijhifdjbnkfaaGreatZD47
import Derived.Test.YtdijhifdjbnkfaaGreatZD32
import Derived.Test.YtdijhifdjbnkfaaGreatZD48
import Derived.Test.YtdijhifdjbnkfaaGreatZD46
set_option maxRecDepth 100000
set_option maxHeartbeats 8000000
set_option linter.unusedVariables false
set_option linter.unusedSimpArgs false
namespace Go.Proofs.YtdijhifdjbnkfaaGreat.EV
open Go Go.RowKit MM EM VM
theorem Zl1:(Tryz.prog.info? 57).map (·.size)=some 2:=by kernel_rfl
def IsF (w:World) (b:Nat):Prop:=∃ cur fr,w.heap[b]? = some (.cells cur 123 fr)
def NewF (w w':World) (b:Nat):Prop:=w.heap.size≤b∧IsF w' b
theorem IsF.keep {S:Nat→Prop} {w w':World} {b:Nat} (h:IsF w b) (hk:Kep S w w') (hb:S b):IsF w' b:=by
 obtain ⟨cur,fr,h⟩:=h
 exact ⟨cur,fr,(hk.block b (Array.getElem?_eq_some_iff.1 h).1 hb).trans h⟩
theorem IsF.lt {w:World} {b:Nat} (h:IsF w b):b<w.heap.size:=by obtain ⟨_,_,h⟩:=h;exact (Array.getElem?_eq_some_iff.1 h).1
def ZaB (B g:Nat) (s:Ev×List UInt8×Bool) (w:World) (e:Ending) (w':World):Prop :=
 ∃ u,e=.returned (.agg #[.int .i64 s.1.1,u])∧ROn fldC (NewF w w') w' u s.1.2∧Rd B w' g s.2.1 s.2.2∧Kep (fun b=>b≠g) w w'
theorem Zh2 (B g:Nat) (l:List UInt8) (o:Bool) (w:World) (h:Rd B w g l o) (hB:B≤g):Calls Tryz.prog 267 #[.pointer (some ⟨g,0,none⟩)] w (ZaB B g (evSt l o) w):=by
 have hmx:Tryz.prog.follows .mixedOrders=true:=by kernel_rfl
 have hg:=h.lt
 have hlen:=ZhV l o
 obtain ⟨z,l1,o1,ht⟩:∃ z l1 o1,ZxE l o=(z,l1,o1):=⟨_,_,_,rfl⟩
 obtain ⟨N,l2,o2,hn⟩:∃ N l2 o2,Zo4 16 l1 o1=(N,l2,o2):=⟨_,_,_,rfl⟩
 have hN:N≤16:=by have:=Zpd 16 l1 o1;rw [hn] at this;exact this
 have hst:evSt l o=((z,(Zi9 N ([],l2,o2)).1),(Zi9 N ([],l2,o2)).2.1,(Zi9 N ([],l2,o2)).2.2):=by
  unfold evSt
  rw [ht]
  dsimp only
  rw [hn]
 have HST:=Lib.hid hst
 have hb0:Below w.heap.size w (w.alloc (.cells #[.int .i64 0,.slice none 0 0] 57)):=(Below.refl _ _).alloc (Nat.le_refl _) _
 have hsz0:(w.alloc (.cells #[.int .i64 0,.slice none 0 0] 57)).heap.size=w.heap.size+1:=by simp
 have hr0:=h.keep (S:=fun _=>True) (ZmT _ hb0) trivial (fun _ _=>trivial) (by omega)
 have HT:=Lib.hid (ZxH B g l o _ hr0 hB)
 rw [ht] at HT
 have HN:=Lib.hid (fun W (h:Rd B W g l1 o1)=>(show Calls Tryz.prog 277 #[.pointer (some ⟨g,0,none⟩),.int .i64 16] W (Took B g (.int .i64 N) l2 o2 W) from by have:=Zpj B g 16 l1 o1 W (by omega) h hB;rw [hn] at this;exact this))
 have n0:=heap_alloc_new w (.cells #[.int .i64 0,.slice none 0 0] 57)
 clear h hst ht hn hr0
 go_enter Tryz.func267,Tryz.ntmps267
 go_wp2_with fail
 refine HT.out.mono ?_
 rintro e w1 ⟨rfl,hr1,hk1⟩
 have hs1:=hk1.size
 have a0:=(hk1.block w.heap.size (by simp) (by omega)).trans n0
 have hk01:Kep (fun b=>b≠g) w w1:=(ZmT _ hb0).trans hk1
 have HR1:=Lib.hid hr1
 have HK1:=Lib.hid hk01
 have A0:=Lib.hid a0
 rw [hsz0] at hs1
 clear hr1 hk1 n0 a0 hk01 hb0 hsz0 HT
 go_wp2_with fail
 obtain ⟨q,hq⟩:∃ q,w1.heap.size=q:=⟨_,rfl⟩
 rw [hq]
 have hqR:w.heap.size<q:=by omega
 have n1:=heap_alloc_new w1 (.cells #[.int .i64 z,.slice none 0 0] 57)
 rw [hq] at n1
 have hka:Kep (fun b=>b≠g) w1 (w1.alloc (.cells #[.int .i64 z,.slice none 0 0] 57)):=ZmS _ _ _
 have HN2:=Lib.hid (HN.out (w1.alloc (.cells #[.int .i64 z,.slice none 0 0] 57)) (HR1.out.keep (S:=fun _=>True) (ZmS _ _ _) trivial (fun _ _=>trivial) (by omega)))
 have hsa:(w1.alloc (.cells #[.int .i64 z,.slice none 0 0] 57)).heap.size=q+1:=by simp [hq]
 refine HN2.out.mono ?_
 rintro e w3 ⟨rfl,hr3,hk3⟩
 have b0:=(hk3.block q (by omega) (by omega)).trans n1
 have a3:=((hka.trans hk3).block w.heap.size (by omega) (by omega)).trans A0.out
 have hs3:=hk3.size
 rw [hsa] at hs3
 have HR3:=Lib.hid hr3
 have HK3:=Lib.hid (HK1.out.trans (hka.trans hk3))
 have HA3:=Lib.hid a3
 have HB3:=Lib.hid b0
 have HO3:=Lib.hid (OwnX.nil_ (C:=fldC) 123 (q+1) (fun _=>False) w3)
 clear hr3 hk3 hka n1 b0 a3 HN HN2 A0 HK1 HR1 hsa hq
 go_wp2_with fail
 go_loopw [4,10] (fun _ iv wr=>∃ (i:Nat) (u:Value),i≤N∧iv=.int .i64 i∧Hid (OwnX fldC 123 (q+1) (fun _=>False) wr u (Zi9 i ([],l2,o2)).1)∧Hid (wr.heap[q]? = some (.cells #[.int .i64 z,u] 57 (0,0)))∧Hid (wr.heap[w.heap.size]? = some (.cells #[.int .i64 0,.slice none 0 0] 57 (0,0)))∧Hid (Rd B wr g (Zi9 i ([],l2,o2)).2.1 (Zi9 i ([],l2,o2)).2.2)∧Hid (Kep (fun b=>b≠g) w wr)) (fun _ iv _=>N - (intOf iv).toNat)
 case atStart=>exact ⟨0,_,by omega,rfl,HO3,HB3,HA3,HR3,HK3⟩
 case round =>
  obtain ⟨i,u,hi,rfl,HO,HBX,HA,HR,HK⟩:=hrel
  clear HO3 HB3 HA3 HR3 HK3
  have hqw:q<wr.heap.size:=(Array.getElem?_eq_some_iff.1 HBX.out).1
  have hlt9:=Zjb i ([],l2,o2)
  by_cases hlt:i<N
  ·have q1:decide ((i:Int)<(N:Int))=true:=by rw [decide_eq_true_eq];omega
   obtain ⟨fs,li,oi,hsi⟩:∃ fs li oi,Zi9 i ([],l2,o2)=(fs,li,oi):=⟨_,_,_,rfl⟩
   obtain ⟨s1,l3,o3,ht1⟩:∃ s1 l3 o3,Zyg 32 li oi=(s1,l3,o3):=⟨_,_,_,rfl⟩
   obtain ⟨s2,l4,o4,ht2⟩:∃ s2 l4 o4,Zyg 4096 l3 o3=(s2,l4,o4):=⟨_,_,_,rfl⟩
   have hnx:Zi9 (i+1) ([],l2,o2)=(fs++[(s1,s2)],l4,o4):=by
    rw [Zi9,hsi]
    unfold Zwh
    dsimp only
    rw [ht1]
    dsimp only
    rw [ht2]
   rw [hsi] at HO HR hlt9
   have hfl:fs.length≤16:=by simp at hlt9;omega
   have HNX:=Lib.hid hnx
   have HT1:=Lib.hid (Zxx B g 32 li oi wr (by omega) (by omega) HR.out hB)
   rw [ht1] at HT1
   have HT2:=Lib.hid (fun W (h:Rd B W g l3 o3)=>(show Calls Tryz.prog 278 #[.pointer (some ⟨g,0,none⟩),.int .i64 4096] W (Took B g (.string ⟨s2.toArray⟩) l4 o4 W) from by have:=Zxx B g 4096 l3 o3 W (by omega) (by omega) h hB;rw [ht2] at this;exact this))
   have HLT:=Lib.hid hlt
   clear hsi ht1 ht2 hnx hlt hlt9 HR
   go_wp2_with fail
   refine HT1.out.mono ?_
   rintro e w4 ⟨rfl,hr4,hk4⟩
   have hs4:=hk4.size
   have HO4:=Lib.hid (HO.out.keep hk4 (fun _ _ h=>h.elim) (fun k hk=>by have:=(HO.out.cells hk).1;omega))
   have HBX4:=Lib.hid ((hk4.block q hqw (by omega)).trans HBX.out)
   have HA4:=Lib.hid ((hk4.block w.heap.size (by omega) (by omega)).trans HA.out)
   have HR4:=Lib.hid hr4
   have HK4:=Lib.hid (HK.out.trans hk4)
   clear hr4 hk4 HT1 HO HBX HA HK
   go_wp2_with fail
   refine RS.ZcJ (T:=fun b=>b≠g∧u.ownBlock≠some b) [(0,true),(1,true),(2,true),(3,true),(4,false),(5,true),(6,false),(7,false),(8,true)] hmx (by kernel_rfl) (fun _ _ d _ _ h=>by cases d<;>exact h) ?_
   simp only [RS.ZpY,List.map_cons,List.map_nil,List.getElem?_toArray,List.getElem?_cons_succ,List.getElem?_cons_zero]
   have hub:u.ownBlock≠some q:=fun e=>by have:=(HO4.out.cells e).1;omega
   have hug:u.ownBlock≠some g:=fun e=>by have:=(HO4.out.cells e).1;omega
   have huR:u.ownBlock≠some w.heap.size:=fun e=>by have:=(HO4.out.cells e).1;omega
   obtain ⟨wd,hwd⟩:∃ wd,w4.drew=wd:=⟨_,rfl⟩
   have hkd:Kep (fun _=>True) w4 wd:=by rw [← hwd];exact ZmV _ _
   have hsd:w4.heap.size=wd.heap.size:=by rw [← hwd];rfl
   have c1:wd.cell? ⟨q,1,none⟩=some u:=by rw [cell_of_row wd q 1 _ _ _ ((hkd.block q (by omega) trivial).trans HBX4.out)];rfl
   have G:=Lib.hid (fun W (hW:Kep (fun b=>b≠g∧u.ownBlock≠some b) wd W)=>(show W.cell? ⟨q,1,none⟩=some u from (hW.cell (by omega) ⟨by omega,hub⟩ 1).trans c1))
   have HOd:=Lib.hid (HO4.out.keep hkd (fun _ _ _=>trivial) (fun _ _=>trivial))
   have HBd:=Lib.hid ((hkd.block q (by omega) trivial).trans HBX4.out)
   have HAd:=Lib.hid ((hkd.block w.heap.size (by omega) trivial).trans HA4.out)
   have HRd:=Lib.hid (HR4.out.keep hkd trivial (fun _ _=>trivial) (by omega))
   have HKd:=Lib.hid (HK4.out.trans (hkd.mono fun _ _=>trivial))
   rw [hwd]
   clear hwd hkd c1 HO4 HBX4 HA4 HR4 HK4
   repeat (refine RS.take (by rfl) (by intro W hW;have f1:=G.out W hW;go_simp;with_reducible rfl) ?_;simp only [Act.put,List.setIfInBounds_toArray,List.set_cons_zero,List.set_cons_succ])
   refine RS.alone (by rfl) (fun K hK => ?_)
   go_simp
   refine (HT2.out wd HRd.out).mono ?_
   rintro e w5 ⟨rfl,hr5,hk5⟩
   go_simp
   refine hK.out _ _ (hk5.mono fun _ h=>h.1) ?_
   clear hK K
   have hs5:=hk5.size
   have HO5:=Lib.hid (HOd.out.keep hk5 (fun _ _ h=>h.elim) (fun k hk=>by have:=(HOd.out.cells hk).1;omega))
   have HB5:=Lib.hid ((hk5.block q (by omega) (by omega)).trans HBd.out)
   have HA5:=Lib.hid ((hk5.block w.heap.size (by omega) (by omega)).trans HAd.out)
   have HR5:=Lib.hid hr5
   have HK5:=Lib.hid (HKd.out.trans hk5)
   clear hr5 hk5 G HOd HBd HAd HRd HKd HT2
   repeat (refine RS.take (by rfl) (by intro W hW;go_simp;with_reducible rfl) ?_;simp only [Act.put,List.setIfInBounds_toArray,List.set_cons_zero,List.set_cons_succ])
   refine RS.alone (by rfl) (fun K hK => ?_)
   go_simp
   refine hK.out _ _ (ZmS _ _ _) ?_
   clear hK K
   refine RS.alone (by rfl) (fun K hK => ?_)
   refine ZzB fldE _ _ rfl (q+1) u fs w5 [.string ⟨s1.toArray⟩,.string ⟨s2.toArray⟩] (s1,s2) rfl rfl HO5.out (fun _ _ h=>h.elim) (Zi8.2 rfl) rfl (by unfold maxLen;omega) (by omega) (by omega) ?_
   intro v6 w6 ho6 hb6 hk6 hv6
   obtain ⟨g6,c6,rfl⟩:=hv6
   refine hK.out _ _ (hk6.mono fun _ h=>h.2) ?_
   clear hK K
   have hka:Kep (fun b=>u.ownBlock≠some b) w5 w6:=(ZmS _ _ _).trans hk6
   have HO6:=Lib.hid ho6
   have B6:=(hka.block q (by omega) hub).trans HB5.out
   have HB6:=Lib.hid B6
   have HA6:=Lib.hid ((hka.block w.heap.size (by omega) huR).trans HA5.out)
   have HR6:=Lib.hid (HR5.out.keep hka hug (fun k hk e=>by have:=(HO5.out.cells e).1;omega) (by omega))
   have HK6:=Lib.hid (HK5.out.andThen hka (fun k hk _ e=>by have:=(HO5.out.cells e).1;omega))
   have hs6:=hka.size
   clear hka ho6 hb6 hk6 HO5 HB5 HA5 HR5 HK5
   repeat (refine RS.take (by rfl) (by intro W hW;go_simp;with_reducible rfl) ?_;simp only [Act.put,List.setIfInBounds_toArray,List.set_cons_zero,List.set_cons_succ])
   refine RS.done ?_
   simp only [List.length_cons,List.length_nil,List.drop_succ_cons,List.drop_zero,Nat.zero_add,Nat.reduceAdd]
   obtain ⟨k0,k1,k2,k3,_,_⟩:=Two.all (show Two w6 q 57 (.int .i64 z) u from B6) (.int .i64 z)
   have hkb:Kep (fun b=>b≠q) w6 (w6.setCell ⟨q,1,none⟩ (.slice (some ⟨g6,0,none⟩) (fs.length+1) c6)):=Zm0 _
   have HO7:=Lib.hid (HO6.out.keep hkb (fun _ _ h=>h.elim) (fun k hk=>by have:=(HO6.out.cells hk).1;omega))
   have HB7:=Lib.hid (show (w6.setCell ⟨q,1,none⟩ (.slice (some ⟨g6,0,none⟩) (fs.length+1) c6)).heap[q]? = some (.cells #[.int .i64 z,.slice (some ⟨g6,0,none⟩) (fs.length+1) c6] 57 (0,0)) from heap_setCell_same w6 q 1 _ _ _ HB6.out)
   have HA7:=Lib.hid ((hkb.block w.heap.size (by omega) (by omega)).trans HA6.out)
   have HR7:=Lib.hid (HR6.out.keep hkb (by omega) (fun k hk=>by omega) (by omega))
   have HK7:=Lib.hid (HK6.out.andThen hkb (fun k hk _=>by omega))
   have HOr:Hid (OwnX fldC 123 (q+1) (fun _=>False) (w6.setCell ⟨q,1,none⟩ (.slice (some ⟨g6,0,none⟩) (fs.length+1) c6)) (.slice (some ⟨g6,0,none⟩) (fs.length+1) c6) (Zi9 (i+1) ([],l2,o2)).1):=Lib.hid (by rw [HNX.out];exact HO7.out)
   have HRr:Hid (Rd B (w6.setCell ⟨q,1,none⟩ (.slice (some ⟨g6,0,none⟩) (fs.length+1) c6)) g (Zi9 (i+1) ([],l2,o2)).2.1 (Zi9 (i+1) ([],l2,o2)).2.2):=Lib.hid (by rw [HNX.out];exact HR7.out)
   clear hkb B6 HO6 HB6 HA6 HR6 HK6 HO7 HR7 HNX
   go_wp2_with fail
   have hlt:=HLT.out
   go_roundw
   case rel=>exact ⟨i+1,_,by omega,by go_num,HOr,HB7,HA7,HRr,HK7⟩
   case measure=>simp [intOf];omega
  ·obtain rfl:i=N:=by omega
   have q1:decide ((i:Int)<(i:Int))=false:=by simp
   obtain ⟨k0,k1,_,_,_,_⟩:=Two.all (show Two wr q 57 (.int .i64 z) u from HBX.out) (.int .i64 z)
   obtain ⟨m0,m1,m2,m3,m4,m5⟩:=Two.all (show Two wr w.heap.size 57 (.int .i64 0) (.slice none 0 0) from HA.out) (.int .i64 z)
   have HX:=Lib.hid (Two.s01 (show Two wr w.heap.size 57 (.int .i64 0) (.slice none 0 0) from HA.out) (.int .i64 z) u)
   have hkb:Kep (fun b=>b≠w.heap.size) wr ((wr.setCell ⟨w.heap.size,0,none⟩ (.int .i64 z)).setCell ⟨w.heap.size,1,none⟩ u):=Zm1 _ _
   have HQ:Hid (ZaB B g (evSt l o) w (.returned (.agg #[.int .i64 z,u])) ((wr.setCell ⟨w.heap.size,0,none⟩ (.int .i64 z)).setCell ⟨w.heap.size,1,none⟩ u)):=Lib.hid (by
    rw [HST.out]
    refine ⟨u,rfl,?_,HR.out.keep hkb (by omega) (fun k hk=>by omega) (by omega),HK.out.andThen hkb (fun k hk _=>by omega)⟩
    have hok:=HO.out.keep hkb (fun _ _ h=>h.elim) (fun k hk=>by have:=(HO.out.cells hk).1;omega)
    exact hok.ron (fun k hk=>⟨by have:=(HO.out.cells hk).1;omega,(hok.cells hk).2.2⟩) (fun _ _ h=>h.elim))
   obtain ⟨pu,cu,hu,_⟩:=(OwnX.any HO.out).shape
   rw [hu] at k1 HX HQ
   clear hkb HO HBX HA HR HK hlt HST hlt9
   go_wp2_with fail
   refine bodyPost_ret (Zs8 rfl Tryz.underlying57 rfl Zl1 _ _ w.heap.size _ _ rfl HX.out) rfl HQ.out
end Go.Proofs.YtdijhifdjbnkfaaGreat.EV
namespace Go.Proofs.YtdijhifdjbnkfaaGreat.EV
open Go Go.RowKit MM EM VM
open VP
def getR (l:List UInt8):Ev×List UInt8×Int:=match getE l with
 | some (e,r)=>(e,r,0)
 | none=>((0,[]),[],100)
theorem Zkt {l r:List UInt8} {e:Ev} (h:getE l=some (e,r)):getR l=(e,r,0):=by unfold getR;rw [h]
theorem Zkp {l:List UInt8} (h:getE l=none):getR l=((0,[]),[],100):=by unfold getR;rw [h]
theorem ZkH {l:List UInt8} (h:(evSt l false).2.2=true):getE l=none:=by
 unfold getE
 cases hr:rdE l with
 | none=>rfl
 | some p =>
   obtain ⟨e,r⟩:=p
   rw [Zh1 false hr] at h
   cases h
theorem ZkJ {l:List UInt8} (h:(evSt l false).2.2=false):rdE l=some ((evSt l false).1,(evSt l false).2.1):=by
 cases hr:rdE l with
 | none=>rw [ZhX false hr] at h;cases h
 | some p =>
   obtain ⟨e,r⟩:=p
   rw [Zh1 false hr]
theorem ZkD {l:List UInt8} (h:(evSt l false).2.2=false) (hc:ZeD (evSt l false).1≠0):getE l=none:=by
 unfold getE
 rw [ZkJ h]
 dsimp only
 rw [if_neg hc]
theorem ZkE {l:List UInt8} (h:(evSt l false).2.2=false) (hc:ZeD (evSt l false).1=0):getE l=some ((evSt l false).1,(evSt l false).2.1):=by
 unfold getE
 rw [ZkJ h]
 dsimp only
 rw [if_pos hc]
end Go.Proofs.YtdijhifdjbnkfaaGreat.EV
namespace Go.Proofs.YtdijhifdjbnkfaaGreat.EV
open Go Go.RowKit MM EM VM
open VP
theorem ZoG {T:Nat→Prop} {wa w1 w2:World} {u:Value} {fs:List Fld} (h:ROn fldC (NewF wa w1) w1 u fs) (hk:Kep T w1 w2) (hT:∀ b,wa.heap.size≤b→T b):ROn fldC (NewF wa w2) w2 u fs :=
 ROn.keep h (hk.mono fun b hb=>hT b hb.1) fun b hb hn=>⟨hn.1,hn.2.keep hk (hT b hn.1)⟩
def Zaj (s:Ev×List UInt8×Int) (w:World) (e:Ending) (w':World):Prop :=
 ∃ u v,e=.returned (.tuple #[.agg #[.int .i64 s.1.1,u],v,.int .i64 s.2.2])∧ROn fldC (NewF w w') w' u s.1.2∧OwnB w.heap.size w' v s.2.1∧Below w.heap.size w w'
theorem ZeB (v:Value) (l:List UInt8) (w:World) (hv:BRow w v l) (hl:l.length≤1000000000000):Calls Tryz.prog 246 #[v] w (Zaj (getR l) w):=by
 have hmx:Tryz.prog.follows .mixedOrders=true:=by kernel_rfl
 obtain ⟨pv,cv,rfl,_⟩:=hv.shape
 obtain ⟨z,fs,l1,o1,hst⟩:∃ z fs l1 o1,evSt l false=((z,fs),l1,o1):=⟨_,_,_,_,rfl⟩
 have hodd:=ZkH (l:=l)
 have hbad:=ZkD (l:=l)
 have hgood:=ZkE (l:=l)
 rw [hst] at hodd hbad hgood
 have HODD:=Lib.hid hodd
 have HBAD:=Lib.hid hbad
 have HGOOD:=Lib.hid hgood
 obtain ⟨wa,hwa⟩:∃ wa,(w.alloc (.cells #[.int .i64 0,.slice none 0 0] 57)).alloc (.cells #[.slice pv l.length cv,.bool false] 326)=wa:=⟨_,rfl⟩
 have hba:Below w.heap.size w wa:=by rw [← hwa];exact ((Below.refl _ _).alloc (Nat.le_refl _) _).alloc (by simp) _
 have hsa:wa.heap.size=w.heap.size+2:=by rw [← hwa];simp
 have t0:Two wa w.heap.size 57 (.int .i64 0) (.slice none 0 0):=by
  rw [← hwa];exact (Zyf w 57 _ _).keep (ZmS (fun _=>True) _ _) trivial
 have hrd:Rd w.heap.size wa (w.heap.size+1) l false:=by
  refine ⟨.slice pv l.length cv,?_,BIn.below hv hba⟩
  rw [← hwa]
  have:=heap_alloc_new (w.alloc (.cells #[.int .i64 0,.slice none 0 0] 57)) (.cells #[.slice pv l.length cv,.bool false] 326)
  simp only [World.size_alloc] at this
  exact this
 have HE:=Lib.hid (Zh2 w.heap.size (w.heap.size+1) l false wa hrd (by omega))
 rw [hst] at HE
 have HFAIL:Hid (∀ W a b,Two W w.heap.size 57 a b→Below w.heap.size w W→getE l=none →
   Zaj (getR l) w (.returned (.tuple #[.agg #[.int .i64 0,.slice none 0 0],.slice none 0 0,.int .i64 100])) ((W.setCell ⟨w.heap.size,0,none⟩ (.int .i64 0)).setCell ⟨w.heap.size,1,none⟩ (.slice none 0 0))):=Lib.hid (fun W a b ht hb hn=>by
  rw [Zkp hn]
  exact ⟨_,_,rfl,ROn.nil_ _ _,World.ownsRow_nil _ _ _ _,hb.trans ((Zm1 (.int .i64 0) (.slice none 0 0)).below (B:=w.heap.size) (Nat.le_of_lt ht.lt) (fun k hk=>by omega))⟩)
 have T0:=Lib.hid t0
 have HBA:=Lib.hid hba
 have HWA:=Lib.hid hwa
 clear hodd hbad hgood hst hrd t0 hba hv hwa
 go_enter Tryz.func246,Tryz.ntmps246
 go_wp2_with fail
 rw [HWA.out]
 refine HE.out.mono ?_
 rintro e w1 ⟨u,rfl,hu,hr1,hk1⟩
 have hr1:Rd w.heap.size w1 (w.heap.size+1) l1 o1:=hr1
 have hs1:=hk1.size
 have t1:Two w1 w.heap.size 57 (.int .i64 0) (.slice none 0 0):=T0.out.keep hk1 (by omega)
 have HT2:=Lib.hid (t1.s01 (.int .i64 z) u)
 have hk2:Kep (fun b=>b≠w.heap.size) w1 ((w1.setCell ⟨w.heap.size,0,none⟩ (.int .i64 z)).setCell ⟨w.heap.size,1,none⟩ u):=Zm1 _ _
 obtain ⟨a0,a1,a2,a3,a4,a5⟩:=t1.all (.int .i64 z)
 obtain ⟨w2,hw2⟩:∃ w2,(w1.setCell ⟨w.heap.size,0,none⟩ (.int .i64 z)).setCell ⟨w.heap.size,1,none⟩ u=w2:=⟨_,rfl⟩
 rw [hw2] at HT2 hk2
 have hs2:=hk2.size
 have HW2:=Lib.hid hw2
 have hb2:Below w.heap.size w w2:=HBA.out.trans ((hk1.below (B:=w.heap.size) (by omega) (fun k hk=>by omega)).trans (hk2.below (by omega) (fun k hk=>by omega)))
 have hu2:ROn fldC (NewF wa w2) w2 u fs:=ZoG hu hk2 (fun b hb=>by omega)
 have hr2:Rd w.heap.size w2 (w.heap.size+1) l1 o1:=hr1.keep hk2 (by omega) (fun k hk=>by omega) (by omega)
 have HB2:=Lib.hid hb2
 have HU2:=Lib.hid hu2
 obtain ⟨vl,hc2,hl2⟩:=hr2
 have HVL:=Lib.hid hl2
 have g0:=cell_of_row w2 (w.heap.size+1) 0 _ _ _ hc2
 have g1:=cell_of_row w2 (w.heap.size+1) 1 _ _ _ hc2
 obtain ⟨pu,cu,hpu,_⟩:=hu2.shape
 subst hpu
 have e0:=HT2.out.c0
 have e1:=HT2.out.c1
 have HC2:=Lib.hid hc2
 rw [← HW2.out] at g0 g1 e0 e1
 clear hu hr1 hk1 t1 hk2 hw2 hb2 hu2 hl2 hc2 HE
 cases o1 with
 | true =>
   have HQ:=Lib.hid (HFAIL.out w2 _ _ HT2.out HB2.out (HODD.out rfl))
   have HX:=Lib.hid (HT2.out.s01 (.int .i64 0) (.slice none 0 0))
   obtain ⟨_,_,b2,b3,b4,b5⟩:=HT2.out.all (.int .i64 0)
   rw [← HW2.out] at HQ HX b2 b3 b4 b5
   clear HU2 HVL HC2 HFAIL HODD HBAD HGOOD HW2 HT2
   go_wp2_with fail
   refine bodyPost_ret (Zs9 (p:=2) (u:=3) (v:=4) rfl Tryz.underlying57 rfl Zl1 _ _ w.heap.size _ _ rfl HX.out) rfl HQ.out
 | false =>
   go_wp2_with fail
   rw [HW2.out]
   rw [HW2.out] at g0 g1 e0 e1
   refine (ZeI z _ fs w2 HU2.out.any).mono ?_
   rintro e w3 ⟨rfl,hb3⟩
   have ht3:=HT2.out.keep (ZmT (fun _=>True) hb3) trivial
   have HB3:=Lib.hid (HB2.out.trans (hb3.mono HB2.out.size))
   have HT3:=Lib.hid ht3
   have hs3:=hb3.size
   have hc3:=(hb3.block (w.heap.size+1) (by omega)).trans HC2.out
   have HV3:=Lib.hid (HVL.out.below (hb3.mono (by omega)))
   have HU3:=Lib.hid (ZoG HU2.out (ZmT (fun _=>True) hb3) fun _ _=>trivial)
   obtain ⟨c,hc⟩:∃ c,ZeD (z,fs)=c:=⟨_,rfl⟩
   rw [hc] at HBAD HGOOD ⊢
   by_cases hz:c=0
   ·subst hz
    have hgd:=HGOOD.out (by trivial) rfl
    have HGR:=Lib.hid (Zkt hgd)
    have k0:=cell_of_row w3 (w.heap.size+1) 0 _ _ _ hc3
    have hl1:l1.length≤1000000000000:=by
     have:=congrArg List.length (Zj2 hgd).1
     rw [List.length_append] at this
     omega
    clear hb3 ht3 hc3 hgd hc HODD HBAD HGOOD HU2 HVL HC2 HT2 HFAIL g0 g1 e0 e1 a0 a1 a2 a3 a4 a5
    go_wp2_with fail
    refine RS.ZcJ (T:=fun b=>b<w3.heap.size) [(0,true),(1,true),(2,true),(3,false)] hmx (by kernel_rfl) (fun _ _ d _ _ h=>by cases d<;>exact h) ?_
    simp only [RS.ZpY,List.map_cons,List.map_nil,List.getElem?_toArray,List.getElem?_cons_succ,List.getElem?_cons_zero]
    obtain ⟨wd,hwd⟩:∃ wd,w3.drew=wd:=⟨_,rfl⟩
    have hbd:Below w3.heap.size w3 wd:=by rw [← hwd];exact (Below.refl _ _).drew
    have htd:=HT3.out.below hbd HT3.out.lt
    have G:=Lib.hid (fun W (hW:Kep (fun b=>b<w3.heap.size) wd W)=>(show W.cell? ⟨w.heap.size,0,none⟩=some (.int .i64 z)∧W.cell? ⟨w.heap.size,1,none⟩=some (.slice pu fs.length cu)∧W.cell? ⟨w.heap.size+1,0,none⟩=some vl from
     ⟨(htd.keep hW (by omega)).c0,(htd.keep hW (by omega)).c1,(hW.cell (by have:=hbd.size;omega) (by omega) 0).trans ((hbd.cell (p:=⟨w.heap.size+1,0,none⟩) (show w.heap.size+1<w3.heap.size by omega)).trans k0)⟩))
    have HCL:=Lib.hid (ZcH vl l1 wd (BRow.below (BIn.row HV3.out (by omega)) hbd) hl1)
    have HTD:=Lib.hid htd
    have HBD:=Lib.hid hbd
    have HUD:=Lib.hid (ZoG HU3.out (ZmT (fun _=>True) hbd) fun _ _=>trivial)
    rw [hwd]
    have hsd:=hbd.size
    clear hwd hbd htd HT3 HU3 HV3 k0
    repeat (refine RS.take (by rfl) (by intro W hW;obtain ⟨f1,f2,f3⟩:=G.out W hW;go_simp;with_reducible rfl) ?_;simp only [Act.put,List.setIfInBounds_toArray,List.set_cons_zero,List.set_cons_succ])
    refine RS.alone (by rfl) (fun K hK => ?_)
    go_simp
    refine HCL.out.mono ?_
    rintro e w4 ⟨v4,rfl,ho4,hb4⟩
    go_simp
    refine hK.out _ _ (ZmT _ hb4) ?_
    clear hK K
    have ht4:=HTD.out.below hb4 HTD.out.lt
    obtain ⟨_,_,b2,b3,b4,b5⟩:=ht4.all (.int .i64 z)
    have HX:=Lib.hid (ht4.s01 (.int .i64 z) (.slice pu fs.length cu))
    have hs4:=hb4.size
    have hk5:Kep (fun b=>b≠w.heap.size) w4 ((w4.setCell ⟨w.heap.size,0,none⟩ (.int .i64 z)).setCell ⟨w.heap.size,1,none⟩ (.slice pu fs.length cu)):=Zm1 _ _
    have HQ:Hid (Zaj (getR l) w (.returned (.tuple #[.agg #[.int .i64 z,.slice pu fs.length cu],v4,.int .i64 0])) ((w4.setCell ⟨w.heap.size,0,none⟩ (.int .i64 z)).setCell ⟨w.heap.size,1,none⟩ (.slice pu fs.length cu))):=Lib.hid (by
     rw [HGR.out]
     refine ⟨_,_,rfl,?_,?_,?_⟩
     ·have h1:=ZoG HUD.out (ZmT (fun _=>True) hb4) fun _ _=>trivial
      exact (ZoG h1 hk5 (fun b hb=>by omega)).weak fun b _ hb=>⟨by have:=hb.1;omega,hb.2⟩
     ·exact OwnB.weaken (GB.OwnB.kepOwn ho4 hk5 (fun k hk=>by have:=(World.ownsRow.lt ho4 k hk).1;omega)) (by omega)
     ·exact (HB3.out.trans ((HBD.out.trans (hb4.mono hsd)).mono HB3.out.size)).trans (hk5.below (by omega) (fun k hk=>by omega)))
    clear ht4 ho4 hb4 hk5 HTD HBD HUD G HCL HGR HB3
    refine RS.done ?_
    simp only [List.length_cons,List.length_nil,List.drop_succ_cons,List.drop_zero,Nat.zero_add,Nat.reduceAdd]
    go_wp2_with fail
    refine bodyPost_ret (Zs9 (p:=2) (u:=3) (v:=4) rfl Tryz.underlying57 rfl Zl1 _ _ w.heap.size _ _ rfl HX.out) rfl HQ.out
   ·have q1:(c != 0)=true:=by rw [bne_iff_ne];exact hz
    have HQ:=Lib.hid (HFAIL.out w3 _ _ HT3.out HB3.out (HBAD.out (by trivial) hz))
    have HX:=Lib.hid (HT3.out.s01 (.int .i64 0) (.slice none 0 0))
    obtain ⟨_,_,b2,b3,b4,b5⟩:=HT3.out.all (.int .i64 0)
    clear HU2 HVL HC2 HFAIL HODD HBAD HGOOD HW2 HT2 hb3 ht3 hc3 HU3 HV3
    go_wp2_with fail
    refine bodyPost_ret (Zs9 (p:=2) (u:=3) (v:=4) rfl Tryz.underlying57 rfl Zl1 _ _ w.heap.size _ _ rfl HX.out) rfl HQ.out
end Go.Proofs.YtdijhifdjbnkfaaGreat.EV
namespace Go.Proofs.YtdijhifdjbnkfaaGreat.SR
open Go Go.RowKit MM VM
open EM (Fld Ev)
open EV (fldC getR ZeB Zl1 NewF IsF ZoG)
def Zo4 (m:Nat) (l:List UInt8) (o:Bool):Nat×List UInt8×Bool:=if (getL l).2.2=0∧(getL l).1≤m then ((getL l).1,VG.Zs0 l,o) else (0,[],true)
def evS (l:List UInt8) (o:Bool):Ev×List UInt8×Bool:=((getR l).1,(getR l).2.1,o||(getR l).2.2 != 0)
def Rd (S:Nat→Prop) (w:World) (g:Nat) (l:List UInt8) (o:Bool):Prop:=∃ v,w.heap[g]? = some (.cells #[v,.bool o] 230 (0,0))∧BOn S w v l
theorem Rd.lt {S:Nat→Prop} {w:World} {g:Nat} {l:List UInt8} {o:Bool} (h:Rd S w g l o):g<w.heap.size:=by obtain ⟨v,h,_⟩:=h;exact (Array.getElem?_eq_some_iff.1 h).1
theorem Rd.keep {S T:Nat→Prop} {w w':World} {g:Nat} {l:List UInt8} {o:Bool} (h:Rd S w g l o) (hk:Kep T w w') (hg:T g) (hS:∀ b,b<w.heap.size→S b→T b):Rd S w' g l o:=by
 have hl:=h.lt
 obtain ⟨v,h,hv⟩:=h
 exact ⟨v,(hk.block g hl hg).trans h,hv.keep (hk.mono' fun k hk hs=>hS k hk hs) fun _ _ h=>h⟩
theorem Rd.below {S:Nat→Prop} {w w':World} {g:Nat} {l:List UInt8} {o:Bool} (h:Rd S w g l o) (hb:Below w.heap.size w w'):Rd S w' g l o:=h.keep (ZmT (fun _=>True) hb) trivial fun _ _ _=>trivial
theorem Rd.weak {S T:Nat→Prop} {w:World} {g:Nat} {l:List UInt8} {o:Bool} (h:Rd S w g l o) (hT:∀ b,b<w.heap.size→S b→T b):Rd T w g l o:=by
 obtain ⟨v,h,hv⟩:=h
 exact ⟨v,h,hv.weak hT⟩
theorem ZsL {S S':Nat→Prop} {w:World} {g:Nat} {l m:List UInt8} {o:Bool} {v:Value} (h:Rd S w g l o) (hg:¬ S' g) (hv:BOn S' w v m):Rd S' (w.setCell ⟨g,0,none⟩ v) g m o:=by
 obtain ⟨v0,h,_⟩:=h
 exact ⟨v,heap_setCell_same w g 0 _ _ v h,hv.keep (ZmZ hg v) fun _ _ h=>h⟩
theorem ZsN {S S':Nat→Prop} {w:World} {g:Nat} {l m:List UInt8} {o:Bool} {v:Value} (h:Rd S w g l o) (hg:¬ S' g) (hv:BOn S' w v m):Rd S' ((w.setCell ⟨g,0,none⟩ v).setCell ⟨g,1,none⟩ (.bool true)) g m true:=by
 obtain ⟨v0,h,_⟩:=h
 exact ⟨v,heap_setCell_same _ g 1 _ _ (.bool true) (heap_setCell_same w g 0 _ _ v h),(hv.keep (ZmZ hg v) fun _ _ h=>h).keep (ZmZ hg (.bool true)) fun _ _ h=>h⟩
def Took (S:Nat→Prop) (g:Nat) (x:Value) (l:List UInt8) (o:Bool) (w:World) (e:Ending) (w':World):Prop:=e=.returned x∧Rd S w' g l o∧Kep (fun b=>b≠g) w w'
def IsU (w:World) (b:Nat):Prop:=∃ cur fr,w.heap[b]? = some (.cells cur 5 fr)
theorem IsU.keep {T:Nat→Prop} {w w':World} {b:Nat} (h:IsU w b) (hk:Kep T w w') (hb:T b):IsU w' b:=by
 obtain ⟨cur,fr,h⟩:=h
 exact ⟨cur,fr,(hk.block b (Array.getElem?_eq_some_iff.1 h).1 hb).trans h⟩
theorem IsU.lt {w:World} {b:Nat} (h:IsU w b):b<w.heap.size:=by obtain ⟨_,_,h⟩:=h;exact (Array.getElem?_eq_some_iff.1 h).1
def ZaB (g:Nat) (s:Ev×List UInt8×Bool) (w:World) (e:Ending) (w':World):Prop :=
 ∃ u,e=.returned (.agg #[.int .i64 s.1.1,u])∧ROn fldC (NewF w w') w' u s.1.2∧Rd (fun b=>w.heap.size≤b∧IsU w' b) w' g s.2.1 s.2.2∧Kep (fun b=>b≠g) w w'
theorem ZkQ (S S':Nat→Prop) (g:Nat) (l m:List UInt8) (o:Bool) (v:Value) (er:Int) (w:World) (h:Rd S w g l o) (hg:¬ S' g) (hv:BOn S' w v m) :
  Calls Tryz.prog 207 #[.pointer (some ⟨g,0,none⟩),v,.int .i64 er] w (Took S' g (.tuple #[]) m (o||er != 0) w):=by
 have HR:=Lib.hid h
 obtain ⟨v0,hc,_⟩:=h
 have HV:=Lib.hid hv
 have f0:=cell_of_row w g 0 _ _ _ hc
 have f1:=cell_of_row w g 1 _ _ _ hc
 have f2:=frozen_of_row w g 0 _ _ hc
 have f3:=frozen_of_row w g 1 _ _ hc
 obtain ⟨p1,c1,rfl,_⟩:=hv.shape
 by_cases h0:er=0
 ·subst h0
  have t1:(o||((0:Int) != 0))=o:=by simp
  rw [t1]
  have HQ:=Lib.hid (show Took S' g (.tuple #[]) m o w (.returned (.tuple #[])) (w.setCell ⟨g,0,none⟩ (.slice p1 m.length c1)) from ⟨rfl,ZsL HR.out hg HV.out,ZmZ (by simp) _⟩)
  clear hv HV HR hc
  go_enter Tryz.func207,Tryz.ntmps207
  go_wp2_with fail
  refine bodyPost_end (results_none rfl _ _ _) rfl ?_
  exact HQ.out
 ·have t0:(er != 0)=true:=by rw [bne_iff_ne];exact h0
  have t1:(o||(er != 0))=true:=by rw [t0];simp
  rw [t1]
  have HQ:=Lib.hid (show Took S' g (.tuple #[]) m true w (.returned (.tuple #[])) ((w.setCell ⟨g,0,none⟩ (.slice p1 m.length c1)).setCell ⟨g,1,none⟩ (.bool true)) from ⟨rfl,ZsN HR.out hg HV.out,(ZmZ (by simp) _).trans (ZmZ (by simp) _)⟩)
  clear hv HV HR hc
  go_enter Tryz.func207,Tryz.ntmps207
  go_wp2_with fail
  refine bodyPost_end (results_none rfl _ _ _) rfl ?_
  exact HQ.out
theorem Zpj (S:Nat→Prop) (g:Nat) (m:Nat) (l:List UInt8) (o:Bool) (w:World) (hm:m≤1099511627776) (h:Rd S w g l o) (hg:¬ S g) :
  Calls Tryz.prog 206 #[.pointer (some ⟨g,0,none⟩),.int .i64 m] w (Took S g (.int .i64 (Zo4 m l o).1) (Zo4 m l o).2.1 (Zo4 m l o).2.2 w):=by
 have HR:=Lib.hid h
 obtain ⟨v,hc,hv⟩:=h
 have f0:w.cell? ⟨g,0,none⟩=some v:=by rw [cell_of_row w g 0 _ _ _ hc];rfl
 have HG:=Lib.hid (VG.ZkI S v l w hv)
 have HGO:=Lib.hid (fun m v er w1 (h1:Rd S w1 g l o) (h2:BOn S w1 v m)=>ZkQ S S g l m o v er w1 h1 hg h2)
 have hb:=Zkh l
 have herr:(getL l).2.2≠0→(getL l).1=0∧VG.Zs0 l=[]:=fun he=>by
  refine ⟨?_,by unfold VG.Zs0;rw [if_neg he]⟩
  rcases hb.2.2.1 with e | e | e
  ·exact absurd e he
  ·rw [e]
  ·rw [e]
 have hn:=hb.1
 unfold Zo4
 generalize (getL l).1=n at *
 generalize (getL l).2.2=er at *
 generalize VG.Zs0 l=R at *
 clear hv hc hb
 by_cases hmn:n≤m
 ·have hst:(if er=0∧n≤m then (n,R,o) else (0,[],true))=(n,R,o||er != 0):=by
   by_cases h0:er=0
   ·subst h0
    rw [if_pos ⟨rfl,hmn⟩];simp
   ·rw [if_neg (fun h=>h0 h.1),(herr h0).1,(herr h0).2]
    have:(er != 0)=true:=by rw [bne_iff_ne];exact h0
    rw [this];simp
  rw [hst]
  have t1:decide ((n:Int)>(m:Int))=false:=decide_eq_false (by omega)
  have t2:IntKind.u64.wrap (m:Int)=(m:Int):=by rw [IntKind.wrap_u64];omega
  have t3:IntKind.i64.wrap (n:Int)=(n:Int):=by rw [IntKind.wrap_i64];omega
  dsimp only
  clear hst herr
  go_enter Tryz.func206,Tryz.ntmps206
  go_wp2_with fail
  refine HG.out.mono ?_
  rintro e w1 ⟨v1,rfl,hv1,hb1⟩
  have hr1:=HR.out.below hb1
  have HQ:=Lib.hid (HGO.out R v1 er w1 hr1 hv1)
  have HB1:=Lib.hid hb1
  clear hv1 hb1 hr1 HG HGO
  go_wp2_with fail
  refine HQ.out.mono ?_
  rintro e w2 ⟨rfl,h2,k2⟩
  have H2:=Lib.hid h2
  have K2:=Lib.hid k2
  clear h2 k2 HQ
  go_wp2_with fail
  go_ret
  exact ⟨rfl,H2.out,(ZmT _ HB1.out).trans K2.out⟩
 ·have hst:(if er=0∧n≤m then (n,R,o) else (0,[],true))=(0,[],true):=by rw [if_neg (fun h=>hmn h.2)]
  rw [hst]
  have t1:decide ((n:Int)>(m:Int))=true:=decide_eq_true (by omega)
  have t2:IntKind.u64.wrap (m:Int)=(m:Int):=by rw [IntKind.wrap_u64];omega
  dsimp only
  clear hst herr
  go_enter Tryz.func206,Tryz.ntmps206
  go_wp2_with fail
  refine HG.out.mono ?_
  rintro e w1 ⟨v1,rfl,hv1,hb1⟩
  have hr1:=HR.out.below hb1
  have HQ:=Lib.hid (HGO.out [] (.slice none 0 0) 120 w1 hr1 (BOn.nil_ _ _))
  have HB1:=Lib.hid hb1
  clear hv1 hb1 hr1 HG HGO
  go_wp2_with fail
  refine HQ.out.mono ?_
  rintro e w2 ⟨rfl,h2,k2⟩
  have h2':Rd S w2 g [] true:=by have:=h2;simpa using this
  have H2:=Lib.hid h2'
  have K2:=Lib.hid k2
  clear h2 h2' k2 HQ
  go_wp2_with fail
  go_ret
  exact ⟨rfl,H2.out,(ZmT _ HB1.out).trans K2.out⟩
theorem Zh2 (S:Nat→Prop) (g:Nat) (l:List UInt8) (o:Bool) (w:World) (hl:l.length≤1000000000000) (h:Rd S w g l o) :
  Calls Tryz.prog 208 #[.pointer (some ⟨g,0,none⟩)] w (ZaB g (evS l o) w):=by
 obtain ⟨R,hR⟩:∃ R,w.heap.size=R:=⟨_,rfl⟩
 have hgR:g<R:=by rw [← hR];exact h.lt
 obtain ⟨wa,hwa⟩:∃ wa,w.alloc (.cells #[.int .i64 0,.slice none 0 0] 57)=wa:=⟨_,rfl⟩
 have hba:Below w.heap.size w wa:=by rw [← hwa];exact (Below.refl _ _).alloc (Nat.le_refl _) _
 have T0:Hid (Two wa R 57 (.int .i64 0) (.slice none 0 0)):=Lib.hid (by rw [← hwa,← hR];exact Zyf w 57 _ _)
 have hsa:wa.heap.size=R+1:=by rw [← hwa,← hR];simp
 have hra:=h.below hba
 have HRA:=Lib.hid hra
 obtain ⟨v,hc,hv⟩:=hra
 have f0:wa.cell? ⟨g,0,none⟩=some v:=by rw [cell_of_row wa g 0 _ _ _ hc];rfl
 have HG:=Lib.hid (ZeB v l wa hv.brow hl)
 obtain ⟨z,fs,rest,er,hgr⟩:∃ z fs rest er,getR l=((z,fs),rest,er):=⟨_,_,_,_,rfl⟩
 unfold evS
 rw [hgr] at HG ⊢
 dsimp only
 have HWA:=Lib.hid hwa
 have HBA:=Lib.hid hba
 rw [← hwa] at f0
 obtain ⟨pv,cv,rfl,_⟩:=hv.shape
 clear hv hc h hwa hba hgr
 go_enter Tryz.func208,Tryz.ntmps208
 go_wp2_with fail
 rw [HWA.out]
 refine HG.out.mono ?_
 rintro e w1 ⟨u,v1,rfl,hu,hv1,hb1⟩
 dsimp only at hu hv1 ⊢
 obtain ⟨pu,cu,rfl,_⟩:=hu.shape
 obtain ⟨p1,c1,rfl,_⟩:=(OwnB.brow hv1).shape
 have hs1:=hb1.size
 obtain ⟨q,hq⟩:∃ q,w1.heap.size=q:=⟨_,rfl⟩
 obtain ⟨w2,hw2⟩:∃ W,w1.alloc (.cells #[.int .i64 z,.slice pu fs.length cu] 57)=W:=⟨_,rfl⟩
 have hb2:Below w1.heap.size w1 w2:=by rw [← hw2];exact (Below.refl _ _).alloc (Nat.le_refl _) _
 have hs2:=hb2.size
 have hb02:Below wa.heap.size wa w2:=grow hb1 hb2
 have X2:Hid (Two w2 q 57 (.int .i64 z) (.slice pu fs.length cu)):=Lib.hid (by rw [← hw2,← hq];exact Zyf w1 57 _ _)
 have T2:=Lib.hid (T0.out.below hb02 (by omega))
 have hv2:BOn (fun b=>R+1≤b∧IsU w2 b) w2 (.slice p1 rest.length c1) rest:=(BOn.of_own (OwnB.keep hv1 hb2)).weak fun b _ hb=>by
  have h1:=(World.ownsRow.lt hv1 b hb).1
  exact ⟨by omega,(Zp8 (OwnB.keep hv1 hb2) hb).2⟩
 have HQ:=Lib.hid (ZkQ S (fun b=>R+1≤b∧IsU w2 b) g l rest o _ er w2 (HRA.out.below hb02) (fun h=>by have:=h.1;omega) hv2)
 have HU2:=Lib.hid (ZoG hu (ZmT (fun _=>True) hb2) fun _ _=>trivial)
 have HB2:=Lib.hid hb02
 have HW2:=Lib.hid hw2
 clear hu hv1 hb1 hb2 hv2 hb02 hw2 HG HRA
 go_wp2_with fail
 rw [HW2.out]
 refine HQ.out.mono ?_
 rintro e w3 ⟨rfl,hr3,hk3⟩
 have hs3:=hk3.size
 have hgq:g≠q:=by omega
 have X3:=X2.out.keep hk3 (fun e=>hgq e.symm)
 have t3:=T2.out.keep hk3 (by omega)
 obtain ⟨x0,x1⟩:=And.intro X3.c0 X3.c1
 obtain ⟨a0,a1,a2,a3,a4,a5⟩:=t3.all (.int .i64 z)
 have HX:=Lib.hid (t3.s01 (.int .i64 z) (.slice pu fs.length cu))
 have hk4:Kep (fun b=>b≠R) w3 ((w3.setCell ⟨R,0,none⟩ (.int .i64 z)).setCell ⟨R,1,none⟩ (.slice pu fs.length cu)):=Zm1 _ _
 have h02:Kep (fun b=>b≠g) w w2:=(ZmT _ HBA.out).trans (ZmT _ HB2.out)
 have HFIN:Hid (ZaB g ((z,fs),rest,o||er != 0) w (.returned (.agg #[.int .i64 z,.slice pu fs.length cu])) ((w3.setCell ⟨R,0,none⟩ (.int .i64 z)).setCell ⟨R,1,none⟩ (.slice pu fs.length cu))):=Lib.hid (by
  have hu3:=ZoG HU2.out hk3 (fun b hb=>by omega)
  have hu4:=ZoG hu3 hk4 (fun b hb=>by omega)
  refine ⟨_,rfl,hu4.weak fun b _ hb=>⟨by have:=hb.1;omega,hb.2⟩,?_,(h02.trans hk3).andThen hk4 fun i hi _=>by omega⟩
  exact (hr3.keep hk4 (by omega) (fun b _ hb=>by have:=hb.1;omega)).weak fun b _ hb=>⟨by have:=hb.1;omega,(hb.2.keep hk3 (by have:=hb.1;omega)).keep hk4 (by have:=hb.1;omega)⟩)
 clear X3 t3 hk3 hk4 hr3 h02 HU2 X2 T2 HQ
 go_wp2_with fail
 refine bodyPost_ret (Zs8 (p:=2) rfl Tryz.underlying57 rfl Zl1 _ _ R _ _ rfl HX.out) rfl HFIN.out
end Go.Proofs.YtdijhifdjbnkfaaGreat.SR
namespace Go.Proofs.YtdijhifdjbnkfaaGreat.SR
open Go Go.RowKit MM VM SM
open EM (Fld Ev ZeD FitE ZdV ZdX getE Zj3 Zj2)
open EV (getR Zkt Zkp)
theorem Zpg {m:Nat} {l:List UInt8} (o:Bool) (h:(getL l).2.2=0) (h2:(getL l).1≤m):Zo4 m l o=((getL l).1,l.drop (getL l).2.1,o):=by
 unfold Zo4 VG.Zs0
 rw [if_pos ⟨h,h2⟩,if_pos h]
theorem Zpd (m:Nat) (l:List UInt8) (o:Bool):(Zo4 m l o).1≤m:=by
 unfold Zo4
 split
 ·rename_i h;exact h.2
 ·exact Nat.zero_le _
theorem Zpi (m:Nat) (l:List UInt8) (o:Bool):(Zo4 m l o).2.1.length≤l.length:=by
 unfold Zo4 VG.Zs0
 split
 ·dsimp only
  split
  ·rw [List.length_drop];omega
  ·simp
 ·simp
theorem Zph {n m:Nat} (h:n≤m) (hn:n<18446744073709551616) (r:List UInt8) (o:Bool):Zo4 m (Zd8 n++r) o=(n,r,o):=by
 have e:=Zkj n hn r
 rw [Zpg o (by rw [e]) (by rw [e];exact h),e]
 dsimp only
 rw [List.drop_left]
theorem Zpc {m:Nat} {l:List UInt8} {o:Bool} (h:(Zo4 m l o).2.2=false):o=false∧Zd8 (Zo4 m l o).1++(Zo4 m l o).2.1=l:=by
 by_cases h1:(getL l).2.2=0∧(getL l).1≤m
 ·rw [Zpg o h1.1 h1.2] at h ⊢
  exact ⟨h,Zkg (Prod.ext rfl (Prod.ext rfl h1.1))⟩
 ·unfold Zo4 at h
  rw [if_neg h1] at h
  cases h
theorem ZhZ {e:Ev} (hf:FitE e) (h:ZeD e=0) (r:List UInt8) (o:Bool):evS (ZdV e++r) o=(e,r,o):=by
 unfold evS
 rw [Zkt (Zj3 hf h r)]
 simp
theorem ZhW {l:List UInt8} {o:Bool} (h:(evS l o).2.2=false):o=false∧ZdV (evS l o).1++(evS l o).2.1=l∧FitE (evS l o).1∧ZeD (evS l o).1=0:=by
 unfold evS at h ⊢
 cases hg:getE l with
 | none=>rw [Zkp hg] at h;simp at h
 | some p =>
   obtain ⟨e,r⟩:=p
   rw [Zkt hg] at h ⊢
   dsimp only at h ⊢
   obtain ⟨h1,h2,h3⟩:=Zj2 hg
   exact ⟨by simpa using h,h1,h2,h3⟩
theorem Zh0 (l:List UInt8) (o:Bool):(evS l o).2.1.length≤l.length:=by
 unfold evS
 cases hg:getE l with
 | none=>rw [Zkp hg];simp
 | some p =>
   obtain ⟨e,r⟩:=p
   rw [Zkt hg]
   have:=congrArg List.length (Zj2 hg).1
   rw [List.length_append] at this
   dsimp only
   omega
abbrev Head:=Int×(Int×Int)
def Zlu:Nat→Nat→List UInt8→Bool→List Head×List UInt8×Bool
 | 0,_,l,o=>([],l,o)
 | f+1,n,l,o=>if n=0 then ([],l,o) else
   let a:=Zo4 1099511627776 l o
   let b:=Zo4 a.2.1.length a.2.1 a.2.2
   let r:=Zlu f (n - 16) b.2.1 b.2.2
   (((min n 16:Nat),((a.1:Int),(b.1:Int)))::r.1,r.2)
def Zgv:Nat→Int→List UInt8→Bool→List Doc×Int×List UInt8×Bool
 | 0,a,l,o=>([],a,l,o)
 | f+1,a,l,o =>
   let k:=Zo4 1099511627776 l o
   let e:=evS k.2.1 k.2.2
   let r:=Zgv f (a+(1+(k.1:Int))) e.2.1 e.2.2
   ((a+(1+(k.1:Int)),e.1)::r.1,r.2)
def Zc5 (h:Head) (a:Int) (l:List UInt8) (o:Bool):List Doc×List UInt8×Bool :=
 if (l.length:Int)<h.2.2 then ([],[],true) else
 let s:=Zgv h.1.toNat a (l.take h.2.2.toNat) false
 if s.2.2.2=true∨s.2.2.1≠[]∨s.2.1≠h.2.1 then (s.1,[],true) else (s.1,l.drop h.2.2.toNat,o)
def Zt9:List Head→Int→List UInt8→Bool→List (List Doc)×List UInt8×Bool
 | [],_,l,o=>([],l,o)
 | h::r,a,l,o =>
   let b:=Zc5 h a l o
   if b.2.2=true then ([],b.2.1,true) else
   let q:=Zt9 r h.2.1 b.2.1 b.2.2
   (b.1::q.1,q.2)
def Zcb (b:List UInt8):List (List Doc)×List UInt8×Bool :=
 let n:=Zo4 65536 b false
 let h:=Zlu 4096 n.1 n.2.1 n.2.2
 Zt9 h.1 0 h.2.1 h.2.2
def decC (b:List UInt8):Option (List Doc):=if (Zcb b).2.2=true∨(Zcb b).2.1≠[] then none else some (Zcb b).1.flatten
def Zlo:Int→List (List Doc)→List Head
 | _,[]=>[]
 | a,c::r=>((c.length:Int),(endA a c,((blkS a c).length:Int)))::Zlo (endA a c) r
def Zk8 (hs:List Head):List UInt8:=hs.flatMap fun h=>Zd8 h.2.1.toNat++Zd8 h.2.2.toNat
def Zdx:Int→List (List Doc)→List UInt8
 | _,[]=>[]
 | a,c::r=>blkS a c++Zdx (endA a c) r
def Six:Nat→List (List Doc)→Prop
 | n,[]=>n=0
 | n,c::r=>0<n∧c.length=min n 16∧Six (n - 16) r
theorem Zc1:∀ (a:Int) (c d:List Doc),blkS a (c++d)=blkS a c++blkS (endA a c) d
 | _,[],_=>rfl
 | a,x::r,d=>by rw [List.cons_append,blkS,Zc1 x.1 r d,blkS,endA,List.append_assoc (Zd8 (x.1 - a - 1).toNat++ZdV x.2)]
theorem Zhf:∀ (a:Int) (c d:List Doc),endA a (c++d)=endA (endA a c) d
 | _,[],_=>rfl
 | a,x::r,d=>Zhf x.1 r d
theorem Zdy:∀ (a:Int) (bs:List (List Doc)),Zdx a bs=blkS a bs.flatten
 | _,[]=>rfl
 | a,c::r=>by rw [Zdx,Zdy,List.flatten_cons,Zc1]
theorem ZvR:∀ {n:Nat} {bs:List (List Doc)},Six n bs→bs.flatten.length=n
 | n,[],h=>by have h:n=0:=h;simp [h]
 | n,c::r,h=>by
   obtain ⟨h1,h2,h3⟩:=h
   have:=ZvR h3
   rw [List.flatten_cons,List.length_append,this,h2]
   omega
theorem ZvO:∀ {n:Nat} {bs:List (List Doc)},Six n bs→bs.length=(n+15) / 16
 | n,[],h=>by have h:n=0:=h;simp [h]
 | n,c::r,h=>by
   obtain ⟨h1,h2,h3⟩:=h
   have:=ZvO h3
   rw [List.length_cons,this]
   omega
theorem ZgB:∀ {c:List Doc} {a:Int} (r:List UInt8),isR a c=true→FitS c→0≤a→Zgv c.length a (blkS a c++r) false=(c,endA a c,r,false)
 | [],_,_,_,_,_=>rfl
 | d::c,a,r,h,hf,h0=>by
   rw [isR,Bool.and_eq_true] at h
   obtain ⟨h1,h2,h3⟩:=Zpx.1 h.1
   have e:a+(1+((d.1 - a - 1).toNat:Int))=d.1:=by omega
   rw [List.length_cons,Zgv,blkS]
   simp only [List.append_assoc]
   rw [Zph (by omega) (by omega)]
   dsimp only
   rw [ZhZ (hf d (by simp)) h3]
   dsimp only
   rw [e,ZgB r h.2 (fun x hx=>hf x (by simp [hx])) (by omega)]
   rfl
theorem Zdc {c:List Doc} {a:Int} (r:List UInt8) (h:isR a c=true) (hf:FitS c) (h0:0≤a):Zc5 ((c.length:Int),(endA a c,((blkS a c).length:Int))) a (blkS a c++r) false=(c,r,false):=by
 have:=ZgB [] h hf h0
 rw [List.append_nil] at this
 unfold Zc5
 dsimp only
 rw [if_neg (by rw [List.length_append];omega),Int.toNat_natCast,Int.toNat_natCast,List.take_left,List.drop_left,this]
 simp
theorem Zui:∀ {bs:List (List Doc)} {a:Int} (r:List UInt8),isR a bs.flatten=true→FitS bs.flatten→0≤a→Zt9 (Zlo a bs) a (Zdx a bs++r) false=(bs,r,false)
 | [],_,_,_,_,_=>rfl
 | c::bs,a,r,h,hf,h0=>by
   rw [List.flatten_cons] at h hf
   rw [Zmz,Bool.and_eq_true] at h
   have h1:=Zhg h.1
   rw [Zlo,Zt9,Zdx,List.append_assoc,Zdc _ h.1 (fun x hx=>hf x (List.mem_append_left _ hx)) h0]
   dsimp only
   rw [if_neg (by simp),Zui r h.2 (fun x hx=>hf x (List.mem_append_right _ hx)) (by omega)]
theorem ZlE:∀ {f n:Nat} {bs:List (List Doc)} {a:Int} (r:List UInt8),Six n bs→bs.length≤f→isR a bs.flatten=true→0≤a→a≤1099511627776→(Zdx a bs).length≤r.length→r.length<18446744073709551616→Zlu f n (Zk8 (Zlo a bs)++r) false=(Zlo a bs,r,false)
 | 0,n,bs,a,r,h,hl,_,_,_,_,_=>by
   obtain rfl:bs=[]:=List.eq_nil_of_length_eq_zero (by omega)
   rfl
 | f+1,n,[],a,r,h,_,_,_,_,_,_=>by
   have h:n=0:=h
   rw [Zlu,if_pos h]
   rfl
 | f+1,n,c::bs,a,r,h,hl,hr,h0,h9,hb,hm=>by
   obtain ⟨s1,s2,s3⟩:=h
   rw [List.flatten_cons,Zmz,Bool.and_eq_true] at hr
   have g1:=Zhg hr.1
   have g2:=Zhj hr.1 h9
   rw [Zdx,List.length_append] at hb
   have hh:Zk8 (Zlo a (c::bs))++r=Zd8 (endA a c).toNat++(Zd8 (blkS a c).length++(Zk8 (Zlo (endA a c) bs)++r)):=by
    rw [Zlo]
    unfold Zk8
    rw [List.flatMap_cons]
    simp only [Int.toNat_natCast,List.append_assoc]
   rw [hh,Zlu,if_neg (by omega),Zph (by omega) (by omega)]
   dsimp only
   rw [Zph (by simp only [List.length_append];omega) (by omega)]
   dsimp only
   rw [ZlE r s3 (by rw [List.length_cons] at hl;omega) hr.2 (by omega) g2 (by omega) hm,Zlo,s2]
   simp only [show ((endA a c).toNat:Int)=endA a c by omega]
def upR:Int→List Doc→Prop
 | _,[]=>True
 | a,d::r=>a<d.1∧ZeD d.2=0∧FitE d.2∧upR d.1 r
theorem Zyt:∀ {a:Int} {c:List Doc},upR a c→a≤endA a c
 | _,[],_=>Int.le_refl _
 | a,d::r,h=>by
   have:=Zyt h.2.2.2
   rw [endA]
   have:=h.1
   omega
theorem Zyu:∀ {a:Int} {c:List Doc},upR a c→endA a c≤1099511627776→isR a c=true∧FitS c
 | _,[],_,_=>⟨rfl,fun d hd=>by simp at hd⟩
 | a,d::r,h,h9=>by
   rw [endA] at h9
   have h1:=Zyt h.2.2.2
   have h2:=Zyu h.2.2.2 h9
   rw [isR,Bool.and_eq_true,Zpx]
   refine ⟨⟨⟨h.1,by omega,h.2.1⟩,h2.1⟩,fun x hx => ?_⟩
   rcases List.mem_cons.1 hx with rfl | hx
   ·exact h.2.2.1
   ·exact h2.2 x hx
theorem Zgy:∀ (f:Nat) (a:Int) (l:List UInt8) (o:Bool),(Zgv f a l o).2.2.2=false→o=false∧(Zgv f a l o).1.length=f∧blkS a (Zgv f a l o).1++(Zgv f a l o).2.2.1=l∧upR a (Zgv f a l o).1∧endA a (Zgv f a l o).1=(Zgv f a l o).2.1
 | 0,_,_,_,h=>⟨h,rfl,rfl,trivial,rfl⟩
 | f+1,a,l,o,h=>by
   rw [Zgv] at h ⊢
   dsimp only at h ⊢
   obtain ⟨h1,h2,h3,h4,h5⟩:=Zgy f _ _ _ h
   obtain ⟨g1,g2,g3,g4⟩:=ZhW h1
   obtain ⟨k1,k2⟩:=Zpc g1
   refine ⟨k1,by rw [List.length_cons,h2],?_,⟨by show a<a+(1+_);omega,g4,g3,h4⟩,h5⟩
   rw [blkS]
   dsimp only
   rw [show (a+(1+((Zo4 1099511627776 l o).1:Int)) - a - 1).toNat=(Zo4 1099511627776 l o).1 by omega]
   rw [List.append_assoc,List.append_assoc,h3,g2,k2]
theorem Zc7 {h:Head} {a:Int} {l:List UInt8} {o:Bool} (h0:0≤h.2.2) (hn:0≤h.1) (hb:(Zc5 h a l o).2.2=false) (h9:h.2.1≤1099511627776) :
  o=false∧((Zc5 h a l o).1.length:Int)=h.1∧blkS a (Zc5 h a l o).1++(Zc5 h a l o).2.1=l∧isR a (Zc5 h a l o).1=true∧FitS (Zc5 h a l o).1∧endA a (Zc5 h a l o).1=h.2.1∧((blkS a (Zc5 h a l o).1).length:Int)=h.2.2:=by
 unfold Zc5 at hb ⊢
 by_cases h1:(l.length:Int)<h.2.2
 ·rw [if_pos h1] at hb
  cases hb
 ·rw [if_neg h1] at hb ⊢
  dsimp only at hb ⊢
  by_cases h2:(Zgv h.1.toNat a (l.take h.2.2.toNat) false).2.2.2=true∨(Zgv h.1.toNat a (l.take h.2.2.toNat) false).2.2.1≠[]∨(Zgv h.1.toNat a (l.take h.2.2.toNat) false).2.1≠h.2.1
  ·rw [if_pos h2] at hb
   cases hb
  ·rw [if_neg h2] at hb ⊢
   dsimp only at hb ⊢
   have e1:(Zgv h.1.toNat a (l.take h.2.2.toNat) false).2.2.2=false:=by
    cases hc:(Zgv h.1.toNat a (l.take h.2.2.toNat) false).2.2.2 with
    | false=>rfl
    | true=>exact absurd (.inl hc) h2
   have e2:(Zgv h.1.toNat a (l.take h.2.2.toNat) false).2.2.1=[]:=Classical.byContradiction fun hc=>h2 (.inr (.inl hc))
   have e3:(Zgv h.1.toNat a (l.take h.2.2.toNat) false).2.1=h.2.1:=Classical.byContradiction fun hc=>h2 (.inr (.inr hc))
   obtain ⟨_,k2,k3,k4,k5⟩:=Zgy _ _ _ _ e1
   rw [e2,List.append_nil] at k3
   have k6:=Zyu k4 (by rw [k5,e3];exact h9)
   refine ⟨hb,by rw [k2];omega,by rw [k3,List.take_append_drop],k6.1,k6.2,by rw [k5,e3],?_⟩
   rw [k3,List.length_take]
   omega
theorem Zub:∀ (hs:List Head) (a:Int) (l:List UInt8) (o:Bool),(∀ h∈hs,0≤h.1∧0≤h.2.2∧h.2.1≤1099511627776)→(Zt9 hs a l o).2.2=false →
  o=false∧Zlo a (Zt9 hs a l o).1=hs∧Zdx a (Zt9 hs a l o).1++(Zt9 hs a l o).2.1=l∧isR a (Zt9 hs a l o).1.flatten=true∧FitS (Zt9 hs a l o).1.flatten
 | [],_,_,_,_,h=>⟨h,rfl,rfl,rfl,fun d hd=>by simp [Zt9] at hd⟩
 | h::hs,a,l,o,hh,hr=>by
   rw [Zt9] at hr ⊢
   dsimp only at hr ⊢
   by_cases h1:(Zc5 h a l o).2.2=true
   ·rw [if_pos h1] at hr
    cases hr
   ·rw [if_neg h1] at hr ⊢
    dsimp only at hr ⊢
    obtain ⟨m1,m2,m3⟩:=hh h (by simp)
    have h1:(Zc5 h a l o).2.2=false:=by simpa using h1
    obtain ⟨b1,b2,b3,b4,b5,b6,b7⟩:=Zc7 m2 m1 h1 m3
    obtain ⟨_,r2,r3,r4,r5⟩:=Zub hs h.2.1 _ _ (fun x hx=>hh x (by simp [hx])) hr
    refine ⟨b1,?_,?_,?_,?_⟩
    ·rw [Zlo,b2,b6,b7,r2]
    ·rw [Zdx,b6,List.append_assoc,r3,b3]
    ·rw [List.flatten_cons,Zmz,b6,b4,r4];rfl
    ·intro d hd
     rw [List.flatten_cons] at hd
     rcases List.mem_append.1 hd with hd | hd
     ·exact b5 d hd
     ·exact r5 d hd
theorem Zlw:∀ (f n:Nat) (l:List UInt8) (o:Bool),(n+15) / 16≤f→(Zlu f n l o).2.2=false →
  o=false∧Zk8 (Zlu f n l o).1++(Zlu f n l o).2.1=l
 | 0,n,l,o,hf,h=>⟨h,rfl⟩
 | f+1,n,l,o,hf,h=>by
   rw [Zlu] at h ⊢
   by_cases hn:n=0
   ·rw [if_pos hn] at h ⊢
    exact ⟨h,rfl⟩
   ·rw [if_neg hn] at h ⊢
    dsimp only at h ⊢
    obtain ⟨h1,h2⟩:=Zlw f (n - 16) _ _ (by omega) h
    obtain ⟨g1,g2⟩:=Zpc h1
    obtain ⟨k1,k2⟩:=Zpc g1
    refine ⟨k1,?_⟩
    unfold Zk8 at h2 ⊢
    rw [List.flatMap_cons]
    dsimp only
    rw [Int.toNat_natCast,Int.toNat_natCast,List.append_assoc,List.append_assoc,h2,g2,k2]
theorem ZlC:∀ (f n:Nat) (l:List UInt8) (o:Bool),∀ h∈(Zlu f n l o).1,1≤h.1∧0≤h.2.2∧(0≤h.2.1∧h.2.1≤1099511627776)∧h.1≤16∧h.2.2≤l.length
 | 0,n,l,o,h,hh=>by simp [Zlu] at hh
 | f+1,n,l,o,h,hh=>by
   rw [Zlu] at hh
   by_cases hn:n=0
   ·rw [if_pos hn] at hh
    simp at hh
   ·rw [if_neg hn] at hh
    dsimp only at hh
    have e1:=Zpi 1099511627776 l o
    have e2:=Zpi (Zo4 1099511627776 l o).2.1.length (Zo4 1099511627776 l o).2.1 (Zo4 1099511627776 l o).2.2
    have e3:=Zpd 1099511627776 l o
    have e4:=Zpd (Zo4 1099511627776 l o).2.1.length (Zo4 1099511627776 l o).2.1 (Zo4 1099511627776 l o).2.2
    rcases List.mem_cons.1 hh with rfl | hh
    ·dsimp only
     omega
    ·have:=ZlC f _ _ _ h hh
     omega
theorem ZlF:∀ {f n:Nat} {l:List UInt8} {o:Bool} {bs:List (List Doc)} {a:Int},(n+15) / 16≤f→Zlo a bs=(Zlu f n l o).1→Six n bs
 | 0,n,l,o,[],a,hf,h=>by show n=0;omega
 | 0,n,l,o,c::r,a,hf,h=>by rw [Zlo,Zlu] at h;cases h
 | f+1,n,l,o,[],a,hf,h=>by
   rw [Zlu] at h
   by_cases hn:n=0
   ·exact hn
   ·rw [if_neg hn,Zlo] at h
    cases h
 | f+1,n,l,o,c::r,a,hf,h=>by
   rw [Zlu] at h
   by_cases hn:n=0
   ·rw [if_pos hn,Zlo] at h
    cases h
   ·rw [if_neg hn,Zlo] at h
    dsimp only at h
    simp only [List.cons.injEq,Prod.mk.injEq] at h
    exact ⟨by omega,by omega,ZlF (by omega) h.2⟩
theorem Zlp:∀ (a:Int) (bs:List (List Doc)) (c:List Doc),Zlo a (bs++[c])=Zlo a bs++[((c.length:Int),(endA (endA a bs.flatten) c,((blkS (endA a bs.flatten) c).length:Int)))]
 | _,[],_=>rfl
 | a,b::bs,c=>by rw [List.cons_append,Zlo,Zlp,Zlo,List.flatten_cons,Zhf];rfl
theorem Zfc (l:List Doc):∀ {k:Nat},k≤Zdt l.length→((List.range k).map (ZeN l)).flatten=l.take (16*k)
 | 0,_=>by simp
 | k+1,h=>by
   rw [List.range_succ,List.map_append,List.flatten_append,Zfc l (by omega),show 16*(k+1)=16*k+16 by omega,List.take_add]
   simp [ZeN]
theorem Zlx (l:List Doc):∀ {k:Nat},k≤Zdt l.length→Zk8 (Zlo 0 ((List.range k).map (ZeN l)))=Zli l 0 k
 | 0,_=>rfl
 | k+1,h=>by
   have hk:16*k≤l.length:=by unfold Zdt at h;omega
   rw [List.range_succ,List.map_append,List.map_singleton,Zlp,Zfc l (by omega),Zhi l hk,ZeR hk,ZeQ hk,Zlm,← Zlx l (k:=k) (by omega)]
   unfold Zk8 Zk9
   rw [List.flatMap_append]
   simp
theorem Zg8 (l:List Doc) {bs:List (List Doc)} (h:bs=(List.range (Zdt l.length)).map (ZeN l)):SM.encS l=Zd8 l.length++(Zk8 (Zlo 0 bs)++Zdx 0 bs)∧bs.flatten=l:=by
 have hf:bs.flatten=l:=by
  rw [h,Zfc l (Nat.le_refl _),List.take_of_length_le (by unfold Zdt;omega)]
 refine ⟨?_,hf⟩
 rw [Zdy,hf,h,Zlx l (Nat.le_refl _)]
 unfold SM.encS
 have:=Zdd (l:=l) 0 (m:=l.length) (by omega)
 rw [List.drop_zero,List.take_length,Nat.zero_add] at this
 rw [← this]
 rfl
theorem ZvN (l:List Doc):∀ (m k:Nat),k+m=Zdt l.length→Six (l.length - 16*k) ((List.range' k m).map (ZeN l))
 | 0,k,h=>by show l.length - 16*k=0;unfold Zdt at h;omega
 | m+1,k,h=>by
   have hk:16*k<l.length:=by unfold Zdt at h;omega
   rw [List.range'_succ,List.map_cons]
   refine ⟨by omega,?_,?_⟩
   ·rw [ZeV (by omega)]
    unfold endS
    omega
   ·have:=ZvN l m (k+1) (by omega)
    rw [show l.length - 16*(k+1)=l.length - 16*k - 16 by omega] at this
    exact this
theorem ZvT (l:List Doc):Six l.length ((List.range (Zdt l.length)).map (ZeN l)):=by
 have:=ZvN l (Zdt l.length) 0 (by omega)
 rw [List.range_eq_range']
 exact this
theorem ZvQ:∀ {n:Nat} {bs:List (List Doc)},Six n bs→∀ k,k<bs.length→ZeN bs.flatten k=bs.getD k []
 | n,[],_,k,hk=>by simp at hk
 | n,c::r,h,0,_=>by
   obtain ⟨h1,h2,h3⟩:=h
   have hl:=ZvR h3
   unfold ZeN
   rw [List.flatten_cons,Nat.mul_zero,List.drop_zero]
   by_cases h16:16≤n
   ·rw [List.take_append_of_le_length (by omega),List.take_of_length_le (by omega)];rfl
   ·have:r.flatten=[]:=List.eq_nil_of_length_eq_zero (by omega)
    rw [this,List.append_nil,List.take_of_length_le (by omega)];rfl
 | n,c::r,h,k+1,hk=>by
   obtain ⟨h1,h2,h3⟩:=h
   have hk':k<r.length:=by simpa using hk
   have h16:c.length=16:=by
    by_cases h16:16≤n
    ·omega
    ·have:=ZvO h3
     omega
   have ih:=ZvQ h3 k hk'
   have e:(c::r).getD (k+1) []=r.getD k []:=by simp
   rw [e,← ih]
   unfold ZeN
   rw [List.flatten_cons,List.drop_append,List.drop_of_length_le (by omega),h16,List.nil_append,show 16*(k+1) - 16=16*k by omega]
theorem ZvU {n:Nat} {bs:List (List Doc)} (h:Six n bs):bs=(List.range (Zdt bs.flatten.length)).map (ZeN bs.flatten):=by
 have h1:=ZvR h
 have h2:=ZvO h
 refine List.ext_getElem (by rw [List.length_map,List.length_range,h1,h2];rfl) fun i hi hi' => ?_
 rw [List.getElem_map,List.getElem_range,ZvQ h i hi,List.getD_eq_getElem?_getD,List.getElem?_eq_getElem hi]
 rfl
theorem Zf0 {l:List Doc} (h:isS l=true) (hf:FitS l) (hm:(SM.encS l).length<18446744073709551616):decC (SM.encS l)=some l:=by
 obtain ⟨h1,h2⟩:=ZmH.1 h
 obtain ⟨bs,hbs⟩:∃ bs,bs=(List.range (Zdt l.length)).map (ZeN l):=⟨_,rfl⟩
 obtain ⟨e1,e2⟩:=Zg8 l hbs
 have hs:Six l.length bs:=by rw [hbs];exact ZvT l
 have hc:=ZvO hs
 rw [e1,List.length_append,List.length_append] at hm
 have g1:=ZlE (f:=4096) (a:=0) (Zdx 0 bs) hs (by omega) (by rw [e2];exact h2) (Int.le_refl _) (by omega) (Nat.le_refl _) (by omega)
 have g2:=Zui (a:=0) [] (by rw [e2];exact h2) (by rw [e2];exact hf) (Int.le_refl _)
 rw [List.append_nil] at g2
 have:Zcb (SM.encS l)=(bs,[],false):=by
  unfold Zcb
  rw [e1,Zph h1 (by omega)]
  dsimp only
  rw [g1]
  exact g2
 unfold decC
 rw [this]
 simp [e2]
theorem ZfZ {b:List UInt8} {l:List Doc} (h:decC b=some l):isS l=true∧FitS l∧SM.encS l=b:=by
 unfold decC at h
 by_cases hc:(Zcb b).2.2=true∨(Zcb b).2.1≠[]
 ·rw [if_pos hc] at h
  cases h
 ·rw [if_neg hc] at h
  obtain rfl:=Option.some.inj h
  have e1:(Zcb b).2.2=false:=by
   cases h2:(Zcb b).2.2 with
   | false=>rfl
   | true=>exact absurd (.inl h2) hc
  have e2:(Zcb b).2.1=[]:=Classical.byContradiction fun h2=>hc (.inr h2)
  unfold Zcb at e1 e2 ⊢
  dsimp only at e1 e2 ⊢
  have hn:=Zpd 65536 b false
  obtain ⟨n,hnn⟩:∃ n,(Zo4 65536 b false).1=n:=⟨_,rfl⟩
  have hmay:=ZlC 4096 (Zo4 65536 b false).1 (Zo4 65536 b false).2.1 (Zo4 65536 b false).2.2
  obtain ⟨r1,r2,r3,r4,r5⟩:=Zub _ _ _ _ (fun x hx=>⟨by have:=(hmay x hx).1;omega,(hmay x hx).2.1,(hmay x hx).2.2.1.2⟩) e1
  obtain ⟨k1,k2⟩:=Zlw 4096 _ _ _ (by omega) r1
  obtain ⟨_,m2⟩:=Zpc k1
  have hs:=ZlF (by omega) r2
  rw [e2,List.append_nil] at r3
  obtain ⟨q1,_⟩:=Zg8 _ (ZvU hs)
  refine ⟨ZmH.2 ⟨by rw [ZvR hs];exact hn,r4⟩,r5,?_⟩
  rw [q1,ZvR hs,r2,r3,k2,m2]
theorem Zf1 {b:List UInt8} (hb:b.length<18446744073709551616):decC b=decS b:=by
 cases h:decS b with
 | some l =>
   obtain ⟨h1,h2,h3⟩:=Zga h
   rw [← h3]
   exact Zf0 h1 h2 (by rw [h3];exact hb)
 | none =>
   cases hc:decC b with
   | none=>rfl
   | some l =>
     obtain ⟨h1,h2,h3⟩:=ZfZ hc
     rw [← h3,Zgb h1 h2] at h
     cases h
end Go.Proofs.YtdijhifdjbnkfaaGreat.SR
namespace Go.Proofs.YtdijhifdjbnkfaaGreat.SR
open Go Go.RowKit MM VM SM
def Zla:Codec Head:=Zek cInt (Zek cInt cInt)
theorem Zlh {S:Nat→Prop} {w:World} {cs:List Value} {x:Head}:Zla.on S w cs x↔cs=[.int .i64 x.1,.int .i64 x.2.1,.int .i64 x.2.2]:=by
 constructor
 ·rintro ⟨a,b,rfl,ha,c,d,rfl,hc,hd⟩
  have ha:a=[.int .i64 x.1]:=ha
  have hc:c=[.int .i64 x.2.1]:=hc
  have hd:d=[.int .i64 x.2.2]:=hd
  rw [ha,hc,hd];rfl
 ·rintro rfl
  exact ⟨[_],[_,_],rfl,rfl,[_],[_],rfl,rfl,rfl⟩
theorem Zlb:Elem Zla Tryz.prog 231 234 24:=⟨Tryz.underlying231,by
 have h:(Tryz.prog.info? 234).map (fun i=>(i.zero,i.size,i.bytes))=some (some (.agg #[.int .i64 0,.int .i64 0,.int .i64 0]),3,24):=by kernel_rfl
 obtain ⟨i,h1,h2,h3,h4⟩:=info_parts h
 exact ⟨i,_,h1,h2,h3,h4,rfl⟩⟩
theorem Zlg {S:Nat→Prop} {w:World} {p:Option Addr} {n cap:Nat} {hs:List Head} (h:ROn Zla S w (.slice p n cap) hs) {k:Nat} (hk:k<hs.length) :
  ∃ b off,p=some ⟨b,off,none⟩∧b<w.heap.size∧S b∧w.cell? ⟨b,off+k*3,none⟩=some (.int .i64 hs[k].1)∧w.cell? ⟨b,off+k*3+1,none⟩=some (.int .i64 hs[k].2.1)∧w.cell? ⟨b,off+k*3+2,none⟩=some (.int .i64 hs[k].2.2):=by
 obtain ⟨b,off,vs,hp,hlt,hS,hon,hc⟩:=h.at_ hk
 rw [Zlh] at hon
 subst hon
 exact ⟨b,off,hp,hlt,hS,hc 0 _ rfl,hc 1 _ rfl,hc 2 _ rfl⟩
def ZaV (S:Nat→Prop) (g:Nat) (s:List Head×List UInt8×Bool) (w:World) (e:Ending) (w':World):Prop :=
 ∃ u,e=.returned u∧OwnX Zla 234 w.heap.size (fun _=>False) w' u s.1∧Rd S w' g s.2.1 s.2.2∧Kep (fun b=>b≠g) w w'
theorem ZlG (f:Nat) (l:List UInt8) (o:Bool):Zlu f 0 l o=([],l,o):=by cases f<;>simp [Zlu]
theorem ZlD {f n:Nat} {l:List UInt8} {o:Bool} (hn:n≠0):Zlu (f+1) n l o =
  let a:=Zo4 1099511627776 l o
  let b:=Zo4 a.2.1.length a.2.1 a.2.2
  let r:=Zlu f (n - 16) b.2.1 b.2.2
  (((((min n 16:Nat):Int),((a.1:Int),(b.1:Int))):Head)::r.1,r.2):=by
 rw [Zlu,if_neg hn]
theorem Zlv (S:Nat→Prop) (g:Nat) (l:List UInt8) (o:Bool) (w:World) (h:Rd S w g l o) (hg:¬ S g) (hS:∀ b,S b→b<w.heap.size) (hl:l.length≤1099511627776) :
  Calls Tryz.prog 157 #[.pointer (some ⟨g,0,none⟩)] w (ZaV S g (Zlu 4096 (Zo4 65536 l o).1 (Zo4 65536 l o).2.1 (Zo4 65536 l o).2.2) w):=by
 have hgw:=h.lt
 have HNUM:=Lib.hid (fun m l o W (hm:m≤1099511627776) (h:Rd S W g l o)=>Zpj S g m l o W hm h hg)
 have N0:=HNUM.out 65536 l o w (by omega) h
 have hr0:=Zpi 65536 l o
 have hn0:=Zpd 65536 l o
 obtain ⟨⟨n,l1,o1⟩,e1⟩:∃ s,Zo4 65536 l o=s:=⟨_,rfl⟩
 rw [e1] at N0 hr0 hn0 ⊢
 dsimp only at N0 hr0 hn0 ⊢
 have N0:=Lib.hid N0
 obtain ⟨FIN,hF⟩:∃ f,Zlu 4096 n l1 o1=f:=⟨_,rfl⟩
 have HF0:Hid ((([]:List Head)++(Zlu 4096 ((n:Int).toNat) l1 o1).1,(Zlu 4096 ((n:Int).toNat) l1 o1).2)=FIN):=Lib.hid (by rw [← hF];rfl)
 rw [hF]
 have HSS:=Lib.hid hS
 clear e1 hF h hS
 go_enter Tryz.func157,Tryz.ntmps157
 go_wp2_with fail
 refine N0.out.mono ?_
 rintro e w1 ⟨rfl,h1,k1⟩
 have HR1:=Lib.hid h1
 have HK1:=Lib.hid k1
 have HO1:=Lib.hid (OwnX.nil_ (C:=Zla) 234 w.heap.size (fun _=>False) w1)
 clear h1 k1 N0
 go_wp2_with fail
 go_loopw [3,4] (fun lv nv wr=>∃ (z:Int) (acc:List Head) (L:List UInt8) (o:Bool) (f:Nat),nv=.int .i64 z ∧ -16≤z∧z≤65536∧(z.toNat+15) / 16≤f∧acc.length+f=4096∧L.length≤1099511627776∧Hid ((acc++(Zlu f z.toNat L o).1,(Zlu f z.toNat L o).2)=FIN)∧Hid (Rd S wr g L o)∧Hid (OwnX Zla 234 w.heap.size (fun _=>False) wr lv acc)∧Hid (Kep (fun b=>b≠g) w wr)) (fun _ nv _=>(intOf nv).toNat)
 case atStart=>exact ⟨n,[],l1,o1,4096,rfl,by omega,by omega,by omega,rfl,by omega,HF0,HR1,HO1,HK1⟩
 case round =>
  obtain ⟨z,acc,L,o,f,rfl,hz1,hz2,hf,hacc,hL,HF,HRD,HO,HK⟩:=hrel
  clear HF0 HR1 HO1 HK1
  have hsw:=HK.out.size
  obtain ⟨pl,cl,rfl,hlc,hlm,_⟩:=HO.out.any.shape
  by_cases hz:0<z
  ·have q1:decide (z>0)=true:=by rw [decide_eq_true_eq];omega
   have q2:decide (0<z)=true:=by rw [decide_eq_true_eq];omega
   obtain ⟨f,rfl⟩:∃ k,f=k+1:=⟨f - 1,by omega⟩
   have hfin:=HF.out
   rw [ZlD (by omega)] at hfin
   dsimp only at hfin
   have C1:=HNUM.out 1099511627776 L o wr (by omega) HRD.out
   have hr1:=Zpi 1099511627776 L o
   have hb1:=Zpd 1099511627776 L o
   obtain ⟨⟨a,L1,o1⟩,e1⟩:∃ s,Zo4 1099511627776 L o=s:=⟨_,rfl⟩
   rw [e1] at hfin C1 hr1 hb1
   dsimp only at hfin C1 hr1 hb1
   obtain ⟨m,hm⟩:∃ m,L1.length=m:=⟨_,rfl⟩
   have C2:=fun W (h:Rd S W g L1 o1)=>HNUM.out m L1 o1 W (by omega) h
   have hr2:=Zpi m L1 o1
   have hb2:=Zpd m L1 o1
   rw [hm] at hfin
   obtain ⟨⟨b,L2,o2⟩,e2⟩:∃ s,Zo4 m L1 o1=s:=⟨_,rfl⟩
   rw [e2] at hfin C2 hr2 hb2
   dsimp only at hfin C2 hr2 hb2
   obtain ⟨k,hk⟩:∃ k:Nat,min z.toNat 16=k:=⟨_,rfl⟩
   rw [hk] at hfin
   have hmin1:min z 16=(k:Int):=by omega
   have hmin2:(if (16:Int)<z then 16 else z)=(k:Int):=by split<;>omega
   have C1:=Lib.hid C1
   have C2:=Lib.hid C2
   have HFN:Hid ((acc++[(((k:Nat):Int),((a:Int),(b:Int)))]++(Zlu f ((z - 16).toNat) L2 o2).1,(Zlu f ((z - 16).toNat) L2 o2).2)=FIN):=Lib.hid (by
    rw [← hfin,show (z - 16).toNat=z.toNat - 16 by omega]
    simp only [List.append_assoc,List.singleton_append])
   have HL1:=Lib.hid hm
   have hL2:L2.length≤1099511627776:=by omega
   have hw16:IntKind.i64.wrap (z - 16)=z - 16:=by rw [IntKind.wrap_i64];omega
   clear e1 e2 hfin hm HF HRD hk hr1 hr2 hL
   go_wp2_with fail
   refine C1.out.mono ?_
   rintro e w2 ⟨rfl,h2,k2⟩
   have hs2:=k2.size
   have HC2:=Lib.hid (C2.out w2 h2)
   obtain ⟨v0,hc0,hv0⟩:=h2
   obtain ⟨p0,c0,rfl,_⟩:=hv0.shape
   have f0:w2.cell? ⟨g,0,none⟩=some (.slice p0 L1.length c0):=by rw [cell_of_row w2 g 0 _ _ _ hc0];rfl
   rw [HL1.out] at f0
   have HO2:=Lib.hid (HO.out.keep k2 (fun _ _ h=>h.elim) (fun b hb e=>by have:=(HO.out.cells hb).1;omega))
   have HK2:=Lib.hid (HK.out.trans k2)
   clear hc0 hv0 k2 C1 C2 HO HK
   go_wp2_with fail
   refine HC2.out.mono ?_
   rintro e w3 ⟨rfl,h3,k3⟩
   have hs3:=k3.size
   have o3:=HO2.out.keep k3 (fun _ _ h=>h.elim) (fun b hb e=>by have:=(HO2.out.cells hb).1;omega)
   have k03:=HK2.out.trans k3
   obtain ⟨w4,hw4⟩:∃ W,w3.alloc (.cells #[.int .i64 (k:Int),.int .i64 (a:Int),.int .i64 (b:Int)] 234)=W:=⟨_,rfl⟩
   have hb4:Below w3.heap.size w3 w4:=by rw [← hw4];exact (Below.refl _ _).alloc (Nat.le_refl _) _
   have hs4:=hb4.size
   have HO4:=Lib.hid (o3.keep (ZmT (fun _=>True) hb4) (fun _ _ h=>h.elim) (fun _ _=>trivial))
   have hsr:=Zwe (C:=Zla) (S:=fun _=>False) (w:=w3) (vs:=[.int .i64 (k:Int),.int .i64 (a:Int),.int .i64 (b:Int)]) (d:=((k:Int),((a:Int),(b:Int)))) 234 (Zlh.2 rfl)
   rw [hw4] at hsr
   have HS4:=Lib.hid hsr
   have HR4:=Lib.hid (h3.below hb4)
   have HK4:=Lib.hid (k03.trans (ZmT _ hb4))
   have HW4:=Lib.hid hw4
   have HLT:Hid (acc.length+1≤4096):=Lib.hid (by omega)
   clear hw4 hb4 hsr h3 k3 o3 k03 HO2 HK2 HC2 f0
   go_wp2_with (at_builtin;go_loud (rw [HW4.out];refine Zzv Zlb rfl _ _ rfl w.heap.size (.slice pl acc.length cl) acc rfl HO4.out (fun _ _ h=>h.elim) _ [((k:Int),((a:Int),(b:Int)))] rfl HS4.out (by unfold maxLen;have:=HLT.out;simp;omega) (by have:=HLT.out;simp;omega) (by omega) ?_;intro v7 w7 ho7 hb7 hk7;obtain ⟨p7,c7,rfl,_⟩:=ho7.any.shape;have HO7:=Lib.hid ho7;have hown:∀ b,(Value.slice pl acc.length cl).ownBlock=some b→w.heap.size≤b:=fun b hb=>(HO4.out.cells hb).1;have HR7:=Lib.hid (HR4.out.keep hk7 (fun e=>by have:=hown _ e;omega) (fun b _ hs e=>by have:=hown _ e;have:=HSS.out b hs;omega));have HK7:=Lib.hid (HK4.out.andThen hk7 fun i hi _ e=>by have:=hown _ e;omega);clear ho7 hb7 hk7 HO4 HS4 HR4 HK4 hown))
   rw [show (acc++[((k:Int),((a:Int),(b:Int)))]).length=acc.length+1 by simp] at HO7
   go_roundw
   case rel=>exact ⟨z - 16,acc++[((k:Int),((a:Int),(b:Int)))],L2,o2,f,rfl,by omega,by omega,by omega,by simp;omega,hL2,HFN,HR7,HO7,HK7⟩
   case measure=>simp [intOf];omega
  ·have q1:decide (z>0)=false:=by rw [decide_eq_false_iff_not];omega
   have q2:decide (0<z)=false:=by rw [decide_eq_false_iff_not];omega
   have hfin:=HF.out
   rw [show z.toNat=0 by omega,ZlG,List.append_nil] at hfin
   subst hfin
   clear HF hz
   go_wp2_with fail
   go_ret
   exact ⟨_,rfl,HO.out,HRD.out,HK.out⟩
end Go.Proofs.YtdijhifdjbnkfaaGreat.SR
namespace Go.Proofs.YtdijhifdjbnkfaaGreat.MM
open Go Go.RowKit
variable {α : Type} {C : Codec α}
theorem Zzl {F:Fence} {n:Nat} {P:Program} {T e:TypeId} {bytes:Nat} (E:Elem C P T e bytes) {S:Nat→Prop} {w:World} {ops:Array Oper} {rest:List Oper} {o:Oper} {a:Act} {Q:Exit→Act→World→Prop} (hgd:o.guard=none) (s x:Operand)
  (ho:o.op=.call { callee:=.builtin .append,args:=#[s,x],argTypes:=#[T,T] }) (B:Nat) (v:Value) (es:List α) (hs:a.eval s=v) (hown:OwnX C e B S w v es) (hS:∀ b,b<w.heap.size→S b→Apt e B w b)
  (src:Value) (ds:List α) (hx:a.eval x=src) (hr:SrcX C S w src ds) (hne:ds≠[]) (hlen:es.length+ds.length≤maxLen) (hby:(es.length+ds.length)*bytes≤140737488355328) (hbase:B≤w.heap.size)
  (h:∀ v' w',OwnX C e B S w' v' (es++ds)→Below B w w'→w.grownBy w' v.ownBlock→wpListIn F n P ops Q rest (a.put o.dst v') w'):wpListIn F n P ops Q (o::rest) a w:=by
 obtain ⟨p,cap,raw,rfl,h1,h3,hm,hc⟩:=hr
 obtain ⟨i,z,hi,hz,hsz,hbt,hzs⟩:=E.info
 obtain ⟨b,off,rfl,hcc⟩:=hc.resolve_left hne
 obtain ⟨raw1,g1,g2⟩:=hown
 have hlo:∀ k,v.ownBlock=some k→B≤k:=fun k hk=>(World.ownsRow.lt g1 k hk).1
 have hl:raw.flatten.length=ds.length*C.size:=by rw [Zi0 hm.lens,hm.1]
 refine wpListIn_append_own w hgd s x T ho B e i z C.size bytes E.under hi hz hsz hbt hzs C.pos v es.length _ hs g1 ⟨b,off,none⟩ ds.length cap raw.flatten hx hl ?_ hm.ones hlen hby hbase (fun v' w' h4 hg _ => ?_)
 ·intro j u hj
  rw [Zb5]
  exact hcc j u hj
 ·have hb:Below B w w':=(Below.refl B w).grown hg hbase hlo
  have hk:Kep (Apt e B w) w w':=ZmW hg fun k hk hA=>Zcs g1 hA hk
  refine h v' w' ⟨raw1++raw,?_,?_⟩ hb hg
  ·rw [List.length_append,List.flatten_append]
   exact h4
  ·have hm2:=g2.append hm
   refine ⟨hm2.1,fun i hi hi' => ?_⟩
   exact C.keep (C.keep (hm2.2 i hi hi') (Kep.refl _ _) (T:=fun b=>S b∧b<w.heap.size) fun b hb hs=>⟨hs,hb⟩) (hk.mono' (T:=fun b=>S b∧b<w.heap.size) fun b hb hs=>hS b hb hs.1) fun b hb hs=>hs.1
end Go.Proofs.YtdijhifdjbnkfaaGreat.MM
