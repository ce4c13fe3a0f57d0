import Derived.Test.YtdijhifdjbnkfaaGreatZD3
import Derived.Test.YtdijhifdjbnkfaaGreatZD10
import Derived.Lib.AppendZeros
set_option maxRecDepth 100000
set_option maxHeartbeats 8000000
set_option linter.unusedVariables false
set_option linter.unusedSimpArgs false
namespace Go.Proofs.YtdijhifdjbnkfaaGreat.MM
open Go Go.RowKit VP
def LRow (w:World) (v:Value) (ls:List (List UInt8)):Prop:=∃ xs,Row w v xs∧xs.length=ls.length∧∀ i (h:i<ls.length),∃ x,xs[i]? = some x∧BRow w x ls[i]
theorem LRow.below {w w':World} {v:Value} {ls:List (List UInt8)} (h:LRow w v ls) (hb:Below w.heap.size w w'):LRow w' v ls:=by
 obtain ⟨xs,hr,hl,hx⟩:=h
 refine ⟨xs,Row.below (B:=0) hr hb,hl,fun i hi => ?_⟩
 obtain ⟨x,h1,h2⟩:=hx i hi
 exact ⟨x,h1,h2.below hb⟩
theorem LRow.shape {w:World} {v:Value} {ls:List (List UInt8)} (h:LRow w v ls):∃ p cap,v=.slice p ls.length cap∧ls.length≤cap∧cap≤maxLen:=by
 obtain ⟨xs,⟨p,cap,hv,h1,h2,_,_⟩,hl,_⟩:=h
 rw [hl] at hv h1
 exact ⟨p,cap,hv,h1,h2⟩
theorem LRow.at_ {w:World} {p:Option Addr} {n cap:Nat} {ls:List (List UInt8)} (h:LRow w (.slice p n cap) ls) {k:Nat} (hk:k<ls.length) :
  ∃ b off x,p=some ⟨b,off,none⟩∧w.cell? ⟨b,off+k,none⟩=some x∧BRow w x ls[k]:=by
 obtain ⟨xs,⟨p',cap',hv,_,_,_,h⟩,hl,hx⟩:=h
 simp only [Value.slice.injEq] at hv
 obtain ⟨rfl,_,_⟩:=hv
 obtain ⟨x,h1,h2⟩:=hx k hk
 rcases h with h | ⟨b,off,hp,hlt,hc⟩
 ·rw [h] at h1;simp at h1
 ·exact ⟨b,off,x,hp,hc k _ h1,h2⟩
theorem Zob {w:World} (xs:List Value) (ls:List (List UInt8)) (hl:xs.length=ls.length) (hm:xs.length≤maxLen) (h:∀ i (h:i<ls.length),∃ x,xs[i]? = some x∧BRow w x ls[i]) :
  LRow (w.alloc (.cells xs.toArray 23)) (.slice (some ⟨w.heap.size,0,none⟩) xs.length xs.length) ls:=by
 have hb:Below w.heap.size w (w.alloc (.cells xs.toArray 23)):=(Below.refl _ _).alloc (Nat.le_refl _) _
 refine ⟨xs,⟨some ⟨w.heap.size,0,none⟩,xs.length,rfl,Nat.le_refl _,hm,(fun h=>by cases h),.inr ⟨w.heap.size,0,rfl,by simp,fun i u hi => ?_⟩⟩,hl,fun i hi => ?_⟩
 ·rw [cell_of_row _ w.heap.size _ _ _ _ (heap_alloc_new _ _)]
  simpa using hi
 ·obtain ⟨x,h1,h2⟩:=h i hi
  exact ⟨x,h1,h2.below hb⟩
theorem Zoc {w:World} {v u:Value} {l m:List UInt8} (h:BRow w v l) (k:BRow w u m):LRow (w.alloc (.cells #[v,u] 23)) (.slice (some ⟨w.heap.size,0,none⟩) 2 2) [l,m] :=
 Zob [v,u] [l,m] rfl (by unfold maxLen;simp) (fun i hi=>by
  match i,hi with
  | 0,_=>exact ⟨v,rfl,h⟩
  | 1,_=>exact ⟨u,rfl,k⟩)
theorem Zi1 {ls:List (List UInt8)} {k:Nat} (hk:k<ls.length):(ls.take (k+1)).flatten=(ls.take k).flatten++ls[k]:=by
 rw [List.take_succ_eq_append_getElem hk,List.flatten_append]
 simp
theorem Zi5 (ls:List (List UInt8)) (k:Nat):(ls.take k).flatten.length≤ls.flatten.length:=by
 have h:ls.flatten=(ls.take k).flatten++(ls.drop k).flatten:=by rw [← List.flatten_append,List.take_append_drop]
 rw [h,List.length_append]
 omega
theorem ZkM (n:Nat) (w:World) (hn:n≤1000000000000):Calls Tryz.prog 264 #[.slice none 0 0,.int .i64 n] w (Zbg w.heap.size [] w):=by
 have q1:decide ((n:Int)<0)=false:=decide_eq_false (by omega)
 have q2:IntKind.i64.wrap ((n:Int) - 0)=(n:Int):=by rw [IntKind.wrap_i64];omega
 have q3:wrap64 (n:Int)=(n:Int):=by unfold wrap64;omega
 by_cases h0:n=0
 ·subst h0
  have HF:=Lib.hid (show Zbg w.heap.size [] w (.returned (.slice none 0 0)) w from ⟨_,rfl,World.ownsRow_nil _ _ _ _,Below.refl _ _⟩)
  go_enter Tryz.func264,Tryz.ntmps264
  go_wp2_with fail
  go_ret
  exact HF.out
 ·have q4:decide ((n:Int)>0)=true:=decide_eq_true (by omega)
  obtain ⟨i0,hi,hz0,hz1,hz2⟩:=info_parts ZlZ
  have hr:=fun ty=>Lib.run_append_nil_zeros (P:=Tryz.prog) w 23 3 ty 5 i0 (.int .u8 0) .i64 .i64 Tryz.underlying23 Tryz.underlying3 hi hz0 n (by omega) (by omega) (by omega) (by rw [hz2];omega)
  obtain ⟨G,hG⟩:∃ G,grownCap w n 0 5=G:=⟨_,rfl⟩
  have hGn:n≤G:=by rw [← hG];exact grownCap_ge w _ _ _
  have hGm:G≤maxLen:=by rw [← hG];exact grownCap_le_maxLen w n 0 5 (by unfold maxLen;omega)
  rw [hG] at hr
  obtain ⟨w1,hw1⟩:∃ w1,w.drew.alloc (.cells (Builtin.zeroCells (Value.int .u8 0).cells n++Builtin.zeroCells (Value.int .u8 0).cells (G - n)) 5)=w1:=⟨_,rfl⟩
  rw [hw1] at hr
  have hb:Below w.heap.size w w1:=by rw [← hw1];exact ((Below.refl _ w).drew).alloc (Nat.le_refl _) _
  have hown:OwnB w.heap.size w1 (.slice (some ⟨w.heap.size,0,none⟩) 0 G) []:=by
   refine ⟨rfl,.inr ⟨w.heap.size,G,Builtin.zeroCells (Value.int .u8 0).cells n++Builtin.zeroCells (Value.int .u8 0).cells (G - n),rfl,Nat.le_refl _,?_,Nat.zero_le _,hGm,?_,rfl⟩⟩
   ·rw [← hw1];exact heap_alloc_new _ _
   ·simp [Builtin.zeroCells,Value.cells]
    omega
  have HF:=Lib.hid (show Zbg w.heap.size [] w (.returned (.slice (some ⟨w.heap.size,0,none⟩) 0 G)) w1 from ⟨_,rfl,hown,hb⟩)
  have HR:=Lib.hid hr
  unfold maxLen at hGm
  have q5:(0:Int)≤(G:Int):=by omega
  clear hown hb hr hw1 hG hi hz0 hz1 hz2
  go_enter Tryz.func264,Tryz.ntmps264
  go_wp2_with (at_builtin;go_loud (refine Lib.wpList_append_run w rfl _ _ _ _ rfl _ _ rfl rfl _ _ (HR.out _) ?_))
  go_ret
  exact HF.out
theorem ZfA (v:Value) (ls:List (List UInt8)) (w:World) (h:LRow w v ls) (hlen:ls.flatten.length≤1000000000000) :
  Calls Tryz.prog 243 #[v] w (Zbg w.heap.size ls.flatten w):=by
 obtain ⟨p,cap,rfl,hlc,hcm⟩:=h.shape
 unfold maxLen at hcm
 have HR:=Lib.hid h
 have HL:=Lib.hid (Zi5 ls)
 obtain ⟨F,hF⟩:∃ F:Nat→Nat,∀ k,F k=(ls.take k).flatten.length:=⟨fun k=>(ls.take k).flatten.length,fun _=>rfl⟩
 have HF:=Lib.hid hF
 have hF0:F 0=0:=by rw [hF];simp
 clear h hF
 go_enter Tryz.func243,Tryz.ntmps243
 go_wp2_with fail
 go_loopw [3,11] (fun sv iv wr=>∃ k:Nat,k≤ls.length∧iv=.int .i64 k∧sv=.int .i64 (F k)∧w=wr) (fun _ iv _=>ls.length - (intOf iv).toNat)
 case atStart=>exact ⟨0,by omega,rfl,by rw [hF0];rfl,rfl⟩
 case round =>
  obtain ⟨k,hk,rfl,rfl,rfl⟩:=hrel
  by_cases hlt:k<ls.length
  ·have q1:decide ((k:Int)<(ls.length:Int))=true:=by rw [decide_eq_true_eq];omega
   have q2:decide (k<ls.length)=true:=by rw [decide_eq_true_eq];omega
   have q3:(k:Int)<(ls.length:Int):=by omega
   obtain ⟨b,off,x,rfl,hc,hx⟩:=HR.out.at_ hlt
   obtain ⟨px,cx,rfl,_⟩:=hx.shape
   have hnx:=congrArg List.length (Zi1 hlt)
   rw [List.length_append,← HF.out,← HF.out] at hnx
   have hle:=HL.out (k+1)
   rw [← HF.out] at hle
   obtain ⟨m,hm⟩:∃ m,ls[k].length=m:=⟨_,rfl⟩
   rw [hm] at hnx hc
   have q4:wrap64 ((F k:Int)+(m:Int))=(F (k+1):Int):=by rw [IntWalk.wrap64_in _ ⟨by omega,by omega⟩];omega
   have q5:decide ((F (k+1):Int)<0)=false:=decide_eq_false (Int.not_lt.2 (Int.natCast_nonneg _))
   have HLT:=Lib.hid hlt
   clear hx hnx hm
   go_wp2_with fail
   have hlt:=HLT.out
   go_roundw
   case rel=>exact ⟨k+1,by omega,by go_num,by first | trivial | rfl | rw [q4],by first | trivial | rfl⟩
   case measure=>simp [intOf];omega
  ·obtain rfl:k=ls.length:=by omega
   have q1:decide ((ls.length:Int)<(ls.length:Int))=false:=by simp
   have q2:decide (ls.length<ls.length)=false:=by simp
   have hFT:=HF.out ls.length
   rw [List.take_length] at hFT
   have HG:=Lib.hid (ZkM (F ls.length) w (by rw [hFT];exact hlen))
   clear hFT
   clear hlt
   go_wp2_with fail
   refine HG.out.mono ?_
   rintro e w1 ⟨v1,rfl,ho1,hb1⟩
   have HO0:Hid (OwnB w.heap.size w1 v1 (ls.take 0).flatten):=Lib.hid (by simpa using ho1)
   have HB1:=Lib.hid hb1
   clear ho1 hb1 HG
   go_wp2_with fail
   go_loopw [6,27] (fun bv iv w2=>∃ k:Nat,k≤ls.length∧iv=.int .i64 k∧Hid (OwnB w.heap.size w2 bv (ls.take k).flatten)∧Hid (Below w.heap.size w w2)) (fun _ iv _=>ls.length - (intOf iv).toNat)
   case atStart=>exact ⟨0,by omega,rfl,HO0,HB1⟩
   case round =>
    obtain ⟨k,hk,rfl,HOk,HBk⟩:=hrel
    clear HO0 HB1
    by_cases hlt:k<ls.length
    ·have q1:decide ((k:Int)<(ls.length:Int))=true:=by rw [decide_eq_true_eq];omega
     have q2:decide (k<ls.length)=true:=by rw [decide_eq_true_eq];omega
     have q3:(k:Int)<(ls.length:Int):=by omega
     obtain ⟨b,off,x,rfl,hc,hx⟩:=(LRow.below HR.out HBk.out).at_ hlt
     have hnx:=Zi1 hlt
     obtain ⟨m,hm⟩:∃ m,ls[k]=m:=⟨_,rfl⟩
     rw [hm] at hnx hx
     have hle:=HL.out (k+1)
     rw [hnx,List.length_append] at hle
     have HNX:=Lib.hid hnx
     have HX:=Lib.hid hx
     have HLT:=Lib.hid hlt
     clear hx hnx hm
     go_wp2_with (at_builtin;go_loud (refine Zzn rfl _ _ rfl w.heap.size _ (ls.take k).flatten rfl HOk.out _ m rfl HX.out (by omega) HBk.out.size ?_;intro v4 w4 ho4 hb4;rw [← HNX.out] at ho4;have HO4:=Lib.hid ho4;have HB4:=Lib.hid (HBk.out.trans hb4);clear ho4 hb4))
     have hlt:=HLT.out
     go_roundw
     case rel=>exact ⟨k+1,by omega,by go_num,HO4,HB4⟩
     case measure=>simp [intOf];omega
    ·obtain rfl:k=ls.length:=by omega
     have q1:decide ((ls.length:Int)<(ls.length:Int))=false:=by simp
     have q2:decide (ls.length<ls.length)=false:=by simp
     have ho:=HOk.out
     rw [List.take_length] at ho
     have HO9:=Lib.hid ho
     clear hlt ho
     go_wp2_with fail
     go_ret
     exact ⟨_,rfl,HO9.out,HBk.out⟩
end Go.Proofs.YtdijhifdjbnkfaaGreat.MM
