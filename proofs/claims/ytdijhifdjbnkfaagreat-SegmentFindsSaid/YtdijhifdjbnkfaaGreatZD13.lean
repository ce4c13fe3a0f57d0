import Derived.Test.YtdijhifdjbnkfaaGreatZD9
import Derived.Test.YtdijhifdjbnkfaaGreatZD12
import Derived.Lib.SmallJoins
set_option maxRecDepth 100000
set_option maxHeartbeats 8000000
set_option linter.unusedVariables false
set_option linter.unusedSimpArgs false
namespace Go.Proofs.YtdijhifdjbnkfaaGreat.SG
open Go Go.RowKit MM
open FM (getR Zs4 Zkn Zs5)
open GM (Six Some6 Zlc)
theorem ZdV:Elem (cRow cU8) Tryz.prog 92 23 24:=⟨Tryz.underlying92,by
 have h:(Tryz.prog.info? 23).map (fun i=>(i.zero,i.size,i.bytes))=some (some (.slice none 0 0),1,24):=by kernel_rfl
 obtain ⟨i,h1,h2,h3,h4⟩:=info_parts h
 exact ⟨i,_,h1,h2,h3,h4,rfl⟩⟩
def U8S (B:Nat) (w:World) (b:Nat):Prop:=B≤b∧∃ cur fr,w.heap[b]? = some (.cells cur 5 fr)
theorem U8S.keep {T:Nat→Prop} {B:Nat} {w w':World} {b:Nat} (h:U8S B w b) (hk:Kep T w w') (hT:T b):U8S B w' b:=by
 obtain ⟨h1,cur,fr,h2⟩:=h
 exact ⟨h1,cur,fr,(hk.block b (Array.getElem?_eq_some_iff.1 h2).1 hT).trans h2⟩
theorem Zyp {B C:Nat} {w:World} {b:Nat} (h:U8S C w b):Apt 23 B w b:=.inr fun cur fr hc=>by
 obtain ⟨_,c2,f2,h2⟩:=h
 rw [h2] at hc
 simp only [Option.some.injEq,Obj.cells.injEq] at hc
 exact absurd hc.2.1 (by decide)
theorem Zyq {B C:Nat} {S:Nat→Prop} {w:World} {v:Value} {es:List (List UInt8)} (h:OwnX (cRow cU8) 23 B S w v es) {b:Nat} (hb:U8S C w b):v.ownBlock≠some b:=fun e=>by
 obtain ⟨_,_,c1,f1,h1⟩:=h.cells e
 obtain ⟨_,c2,f2,h2⟩:=hb
 rw [h2] at h1
 simp only [Option.some.injEq,Obj.cells.injEq] at h1
 exact absurd h1.2.1 (by decide)
theorem Zqr {B C:Nat} {w:World} {v:Value} {l:List UInt8} (h:OwnB B w v l) (hC:C≤B):ROn cU8 (U8S C w) w v l :=
 ROn.weak (BOn.of_own h) fun b _ hb=>⟨Nat.le_trans hC (World.ownsRow.lt h b hb).1,(Zp8 h hb).2⟩
abbrev OwnL (B:Nat) (w:World) (v:Value) (L:List (List UInt8)):Prop:=OwnX (cRow cU8) 23 B (U8S B w) w v L
theorem Zqu {B:Nat} {W W':World} {v:Value} {L:List (List UInt8)} (h:OwnL B W v L) (hb:Below W.heap.size W W'):OwnL B W' v L:=by
 have hk:=ZmT (fun _=>True) hb
 obtain ⟨raw,h1,h2⟩:=h
 exact ⟨raw,Zqo h1 hk (fun _ _=>trivial),h2.keep (ZmT _ hb) fun b hlt hs=>hs.keep hk trivial⟩
theorem Zqv {B:Nat} {W w':World} {v v':Value} {es:List (List UInt8)} {d:List UInt8} (hown:OwnL B W v es) (ho:OwnX (cRow cU8) 23 B (U8S B W) w' v' (es++[d])) (hk:Kep (fun k=>v.ownBlock≠some k) W w'):OwnL B w' v' (es++[d]) :=
 OwnX.weak ho fun b _ hb=>hb.keep hk (Zyq hown hb)
def Zbr (b:List UInt8) (w:World) (e:Ending) (w':World):Prop :=
 Below w.heap.size w w'∧((∃ v,e=.returned (.tuple #[v,.bool false])∧v.oneCell'=true∧∀ L,¬ Six b L)∨∃ v L,e=.returned (.tuple #[v,.bool true])∧Six b L∧ROn (cRow cU8) (fun k=>w.heap.size≤k) w' v L)
theorem ZvL (v:Value) (b:List UInt8) (w:World) (hr:BRow w v b):Calls Tryz.prog 48 #[v] w (Zbr b w):=by
 obtain ⟨W1,hW1⟩:∃ W1,w.alloc (.cells #[.int .u8 76,.int .u8 83,.int .u8 69,.int .u8 71] 5 (4,5))=W1:=⟨_,rfl⟩
 have hb1:Below w.heap.size w W1:=by rw [← hW1];exact (Below.refl _ _).alloc (Nat.le_refl _) _
 have hk:=Joins.run_convert_bytes_const_at (P:=Tryz.prog) w 23 5 #[.int .u8 76,.int .u8 83,.int .u8 69,.int .u8 71] 4 4 w.heap.size rfl Tryz.underlying23 Tryz.underlying5
 simp only [List.size_toArray,List.length_cons,List.length_nil,Nat.reduceAdd] at hk
 rw [hW1] at hk
 have hg1:W1.heap[w.heap.size]? = some (.cells #[.int .u8 76,.int .u8 83,.int .u8 69,.int .u8 71] 5 (4,5)):=by rw [← hW1];exact heap_alloc_new _ _
 have hlit:BRow W1 (.slice (some ⟨w.heap.size,0,none⟩) 4 4) Zlc:=by
  refine ⟨some ⟨w.heap.size,0,none⟩,4,rfl,Nat.le_refl _,by unfold maxLen;omega,(fun h=>by cases h),.inr ⟨w.heap.size,0,rfl,(Array.getElem?_eq_some_iff.1 hg1).1,fun i u hi => ?_⟩⟩
  rw [Nat.zero_add,Zud hg1 i]
  simpa [Zlc,Lib.byteCells] using hi
 have hi1:BIn w.heap.size W1 v b:=BIn.below hr hb1
 have HC:=Lib.hid (ZfY w.heap.size v _ b Zlc W1 hi1 hb1.size hlit)
 obtain ⟨p,cap,rfl,hlc,hcm⟩:=hr.shape
 unfold maxLen at hcm
 have HB1:=Lib.hid hb1
 have HW1:=Lib.hid hW1
 clear hr hb1 hW1 hg1 hlit hi1
 go_enter Tryz.func48,Tryz.ntmps48
 go_wp2_with fail
 refine HC.out.mono ?_
 rintro e w2 ⟨u,rfl,hu,hone,rfl⟩
 have hh4:Zlc.length=4:=rfl
 rw [hh4] at hu ⊢
 by_cases hh:b.take 4=Zlc
 ·rw [decide_eq_true hh]
  have hu2:=hu hh
  obtain ⟨R0,hR0⟩:∃ R0,b.drop 4=R0:=⟨_,rfl⟩
  rw [hR0] at hu2
  have HU:=Lib.hid hu2
  have HH:=Lib.hid hh
  have HR0:=Lib.hid hR0
  obtain ⟨pu,cu,hue,_⟩:=hu2.shape
  subst hue
  have HO0:Hid (OwnL W1.heap.size W1 (.slice none 0 0) []):=Lib.hid (OwnX.nil_ _ _ _ _)
  have HS0:Hid (Some6 (b.drop 4) [] R0):=Lib.hid (by rw [hR0];exact Some6.start _)
  clear hu hu2 hR0 hh hone HC hk hh4
  go_wp2_with fail
  go_loopw [2,3,4,17] (fun lv bv rv iv wr=>∃ (k:Nat) (ls:List (List UInt8)) (rest:List UInt8),k≤6∧iv=.int .i64 k∧bv=.bool true∧ls.length=k∧Hid (Some6 (b.drop 4) ls rest)∧Hid (OwnL W1.heap.size wr lv ls)∧Hid (BIn w.heap.size wr rv rest)∧Hid (Below W1.heap.size W1 wr)) (fun _ _ _ iv _=>6 - (intOf iv).toNat)
  case atStart=>exact ⟨0,[],R0,by omega,by go_simp,by go_simp,rfl,HS0,HO0,HU,Lib.hid (Below.refl _ _)⟩
  case round =>
   obtain ⟨k,ls,rest,hk6,rfl,rfl,hlk,HS,HO,HR,HB⟩:=hrel
   clear HS0 HO0 HU
   by_cases hlt:k<6
   ·have t1:decide ((k:Int)<6)=true:=by rw [decide_eq_true_eq];omega
    have hBs:w.heap.size≤wr.heap.size:=by have:=HB.out.size;have:=HB1.out.size;omega
    have HC:=Lib.hid (FG.ZkG w.heap.size u4 _ wr HR.out hBs)
    obtain ⟨pr,cr,rfl,_⟩:=HR.out.shape
    obtain ⟨pl,cl,hlv,_⟩:=HO.out.any.shape
    rw [hlk] at hlv
    subst hlv
    have HLT:=Lib.hid hlt
    have HBS:=Lib.hid hBs
    clear hBs hlt
    go_wp2_with fail
    refine HC.out.mono ?_
    rintro e w3 ⟨vp,vr,rfl,hop,hir,hb3⟩
    have hs1:=HB.out.size
    have hsA:=HB1.out.size
    rcases Zkn rest with ⟨p3,k3,hg⟩ | hg | hg
    ·have hnx:=HS.out.next hg
     rw [hg] at hop ⊢
     dsimp only at hop ⊢
     obtain ⟨R3,hR3⟩:∃ R3,Zs4 rest=R3:=⟨_,rfl⟩
     rw [hR3] at hnx hir
     obtain ⟨pp,cp,rfl,_⟩:=(OwnB.brow hop).shape
     obtain ⟨pq,cq,rfl,_⟩:=hir.shape
     have hx:=Zqu HO.out hb3
     have hpu:=Zqr (C:=W1.heap.size) hop hs1
     have hel:(cRow cU8).on (U8S W1.heap.size w3) w3 [.slice pp p3.length cp] p3:=⟨_,rfl,hpu⟩
     have hsrc:=Zwe 23 hel
     have hbl:Below w3.heap.size w3 (w3.alloc (.cells #[.slice pp p3.length cp] 23)):=(Below.refl _ _).alloc (Nat.le_refl _) _
     have hx4:=Zqu hx hbl
     have hkl:=ZmT (fun _=>True) hbl
     have hsrc4:SrcX (cRow cU8) (U8S W1.heap.size (w3.alloc (.cells #[.slice pp p3.length cp] 23))) (w3.alloc (.cells #[.slice pp p3.length cp] 23)) (.slice (some ⟨w3.heap.size,0,none⟩) 1 1) [p3]:=by
      obtain ⟨p',cap',raw',hv',h1',h3',hm',hc'⟩:=hsrc
      exact ⟨p',cap',raw',hv',h1',h3',hm'.keep (Kep.refl _ _) fun x _ hx=>hx.keep hkl trivial,hc'⟩
     have HX4:=Lib.hid hx4
     have HSRC:=Lib.hid hsrc4
     have HNX:=Lib.hid hnx
     have HIR:=Lib.hid (BIn.below hir (hbl.mono (by have:=hb3.size;have:=HBS.out;omega)))
     have HB4:=Lib.hid ((HB.out.trans (hb3.mono hs1)).trans (hbl.mono (by have:=hb3.size;omega)))
     have HB4S:Hid (W1.heap.size≤(w3.alloc (.cells #[.slice pp p3.length cp] 23)).heap.size):=Lib.hid HB4.out.size
     have HLK:=Lib.hid hlk
     clear hop hir hb3 hg hnx hx hpu hel hsrc hbl hx4 hkl hsrc4 hR3 HC HS HO HR HB
     go_wp2_with (at_builtin;go_loud (refine Zzv ZdV rfl _ _ rfl W1.heap.size _ ls rfl HX4.out (fun b _ hb=>Zyp hb) _ [p3] rfl HSRC.out (by have:=HLK.out;unfold maxLen;simp only [List.length_singleton];omega) (by have:=HLK.out;simp only [List.length_singleton];omega) HB4S.out ?_;intro v5 w5 ho5 hb5 hk5;have HO5:=Lib.hid (Zqv HX4.out ho5 hk5);have HIR5:=Lib.hid (BIn.below HIR.out (hb5.mono hsA));have HB5:=Lib.hid (HB4.out.trans hb5);clear ho5 hb5 hk5))
     have hlt:=HLT.out
     go_roundw
     case rel=>exact ⟨k+1,ls++[p3],R3,by omega,by go_num,rfl,by rw [List.length_append,List.length_singleton,HLK.out],HNX,HO5,HIR5,HB5⟩
     case measure=>simp [intOf];omega
    all_goals
     have HQ:Hid (∀ L,¬ Six b L):=Lib.hid (HS.out.odd (by have:=HLT.out;omega) (by rw [hg];dsimp only;omega))
     have HBF:=Lib.hid ((HB1.out.trans (HB.out.mono hsA)).trans (hb3.mono (by omega)))
     rw [hg] at hop ⊢
     dsimp only at hop ⊢
     obtain ⟨pp,cp,rfl,_⟩:=(OwnB.brow hop).shape
     obtain ⟨pq,cq,rfl,_⟩:=hir.shape
     clear hop hir hb3 hg HC HS HO HR HB hs1 hsA
     go_wp2_with fail
     go_ret2
     exact ⟨HBF.out,.inl ⟨_,rfl,rfl,HQ.out⟩⟩
   ·have e6:k=6:=by omega
    subst e6
    have hsA:=HB1.out.size
    have HBF:=Lib.hid (HB1.out.trans (HB.out.mono hsA))
    have HOF:Hid (ROn (cRow cU8) (fun k=>w.heap.size≤k) wr u2 ls):=Lib.hid (HO.out.ron (fun g e=>Nat.le_trans hsA (HO.out.cells e).1) (fun _ _ h=>Nat.le_trans hsA h.1))
    have HF:Hid (if rest.length=0 then Six b ls else ∀ L,¬ Six b L):=Lib.hid (by
     by_cases h0:rest.length=0
     ·rw [if_pos h0]
      have e0:=List.eq_nil_of_length_eq_zero h0
      have:=HS.out
      subst e0
      exact this.all HH.out hlk
     ·rw [if_neg h0]
      exact HS.out.more hlk (fun e=>h0 (by rw [e];rfl)))
    obtain ⟨pr,cr,rfl,_⟩:=HR.out.shape
    clear HS HO HR HB
    go_wp2_with fail
    go_ret2
    by_cases h0:rest.length=0
    ·rw [if_pos h0] at HF
     have e1:((rest.length:Int) == 0)=true:=by rw [h0];rfl
     refine ⟨HBF.out,.inr ⟨u2,ls,?_,HF.out,HOF.out⟩⟩
     show Ending.returned (.tuple #[u2,.bool ((rest.length:Int) == 0)])=_
     rw [e1]
    ·rw [if_neg h0] at HF
     have e1:((rest.length:Int) == 0)=false:=by
      rw [beq_eq_false_iff_ne]
      omega
     refine ⟨HBF.out,.inl ⟨u2,?_,HOF.out.oneCell,HF.out⟩⟩
     show Ending.returned (.tuple #[u2,.bool ((rest.length:Int) == 0)])=_
     rw [e1]
 ·rw [decide_eq_false hh]
  have HQ:Hid (∀ L,¬ Six b L):=Lib.hid (fun L hL=>hh hL.head)
  clear hu hh HC hk hh4
  go_wp2_with fail
  go_ret2
  exact ⟨HB1.out,.inl ⟨_,rfl,rfl,HQ.out⟩⟩
end Go.Proofs.YtdijhifdjbnkfaaGreat.SG
