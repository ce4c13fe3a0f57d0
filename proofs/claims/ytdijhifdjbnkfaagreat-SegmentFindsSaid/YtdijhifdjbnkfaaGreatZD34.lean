import Derived.Test.YtdijhifdjbnkfaaGreatZD17
import Derived.Test.YtdijhifdjbnkfaaGreatZD12
import Derived.Deep.AppendLies
set_option maxRecDepth 100000
set_option maxHeartbeats 8000000
set_option linter.unusedVariables false
set_option linter.unusedSimpArgs false
namespace Go.Proofs.YtdijhifdjbnkfaaGreat.PW
open Go.RowKit MM PM VM
def ZaL (w w':World) (v v':Value):Prop:=w.grownBy w' v.ownBlock∧∀ k,v'.ownBlock=some k→v.ownBlock=some k∨w.heap.size≤k
theorem ZkR (w:World) (r:Option Nat):w.grownBy w r:=⟨rfl,rfl,rfl,Nat.le_refl _,fun _ _ _=>rfl⟩
theorem ZaL.refl (w:World) (v:Value):ZaL w w v v:=⟨ZkR _ _,fun k h=>.inl h⟩
theorem ZaL.trans {a b c:World} {u v x:Value} (h:ZaL a b u v) (k:ZaL b c v x):ZaL a c u x:=by
 obtain ⟨h1,h2⟩:=h
 obtain ⟨k1,k2⟩:=k
 refine ⟨⟨k1.os.trans h1.os,k1.tape.trans h1.tape,k1.output.trans h1.output,Nat.le_trans h1.size k1.size,fun i hi hne => ?_⟩,fun i hi => ?_⟩
 ·rw [k1.block i (Nat.lt_of_lt_of_le hi h1.size) (fun e => ?_),h1.block i hi hne]
  rcases h2 i e.symm with h | h
  ·exact hne h.symm
  ·omega
 ·rcases k2 i hi with h | h
  ·exact h2 i h
  ·exact .inr (Nat.le_trans h1.size h)
theorem ZaL.kep {w w':World} {v v':Value} (h:ZaL w w' v v'):Kep (fun b=>v.ownBlock≠some b) w w':=ZmW h.1 fun k hk hne=>hne hk
theorem ZaL.of_below {a b c:World} {u v:Value} (h:Below a.heap.size a b) (k:ZaL b c u v) (hu:∀ i,u.ownBlock=some i→i<a.heap.size):ZaL a c u v :=
 ⟨⟨k.1.os.trans h.os,k.1.tape.trans h.tape,k.1.output.trans h.output,Nat.le_trans h.size k.1.size,fun i hi hne=>by rw [k.1.block i (Nat.lt_of_lt_of_le hi h.size) hne,h.block i hi]⟩,fun i hi=>by
   rcases k.2 i hi with e | e
   ·exact .inl e
   ·exact .inr (Nat.le_trans h.size e)⟩
theorem ZaL.below {a b c:World} {u v:Value} (h:ZaL a b u v) (k:Below b.heap.size b c):ZaL a c u v :=
 ⟨⟨k.os.trans h.1.os,k.tape.trans h.1.tape,k.output.trans h.1.output,Nat.le_trans h.1.size k.size,fun i hi hne=>by rw [k.block i (Nat.lt_of_lt_of_le hi h.1.size),h.1.block i hi hne]⟩,h.2⟩
theorem Zqh {w:World} {v:Value} {l:List UInt8} {B:Nat} (h:OwnB B w v l):∀ i,v.ownBlock=some i→i<w.heap.size:=fun i hi=>(World.ownsRow.lt h i hi).2
theorem OwnB.zero {w:World} {v:Value} {l:List UInt8} {B:Nat} (h:OwnB B w v l):OwnB 0 w v l:=OwnB.weaken h (Nat.zero_le _)
theorem OwnB.from {w:World} {v:Value} {l:List UInt8} {B:Nat} (h:OwnB 0 w v l) (hB:∀ k,v.ownBlock=some k→B≤k):OwnB B w v l:=by
 refine ⟨h.1,?_⟩
 rcases h.2 with h0 | ⟨g,cap,cur,hv,hg,rest⟩
 ·exact .inl h0
 ·exact .inr ⟨g,cap,cur,hv,hB g (by rw [hv];rfl),rest⟩
theorem OwnB.kepOwn {S:Nat→Prop} {w w':World} {v:Value} {l:List UInt8} {B:Nat} (h:OwnB B w v l) (hk:Kep S w w') (hS:∀ k,v.ownBlock=some k→S k):OwnB B w' v l:=by
 refine ⟨h.1,?_⟩
 rcases h.2 with h0 | ⟨g,cap,cur,hv,hg,hh,rest⟩
 ·exact .inl h0
 ·exact .inr ⟨g,cap,cur,hv,hg,by rw [hk.block g (Array.getElem?_eq_some_iff.1 hh).1 (hS g (by rw [hv];rfl))];exact hh,rest⟩
def AppL (l:List UInt8) (v:Value) (w:World) (e:Ending) (w':World):Prop:=∃ v',e=.returned v'∧OwnB 0 w' v' l∧ZaL w w' v v'
theorem Zzp {w:World} {ops:Array Oper} {rest:List Oper} {o:Oper} {a:Act} {Q:Exit→Act→World→Prop} (hgd:o.guard=none) (s x:Operand)
  (ho:o.op=.call { callee:=.builtin .append,args:=#[s,x],argTypes:=#[23,23] }) (v:Value) (l:List UInt8) (hs:a.eval s=v) (hown:OwnB 0 w v l)
  (src:Value) (m:List UInt8) (hx:a.eval x=src) (hr:BRow w src m) (hm:m≠[]) (hlen:l.length+m.length≤140737488355328)
  (h:∀ v' w',OwnB 0 w' v' (l++m)→ZaL w w' v v'→wpList Tryz.prog ops Q rest (a.put o.dst v') w'):wpList Tryz.prog ops Q (o::rest) a w:=by
 obtain ⟨i0,hi,hz0,hz1,hz2⟩:=info_parts ZlZ
 have h0:=List.length_pos_iff.2 hm
 obtain ⟨p,cap,rfl,_,_,h3,hc⟩:=hr
 rcases hc with hc | ⟨b,off,rfl,_,hc⟩
 ·have:=ZdR m;rw [hc] at this;simp at this;omega
 ·refine wpList_append_lies w hgd s x 23 ho 0 5 i0 (.int .u8 0) 1 1 Tryz.underlying23 hi hz0 hz1 hz2 rfl (by decide) v l.length (Lib.byteCells l) hs hown ⟨b,off,none⟩ (Lib.byteCells m).length cap (Lib.byteCells m) hx (by simp)
   (fun j u hu=>by rw [Zb5];exact hc j u hu) (ZdS m) (by rw [ZdR];omega) (by rw [ZdR];unfold maxLen;omega) (by rw [ZdR];omega) (Nat.zero_le _) w.heap.size rfl ?_
  intro g cap' w' hown' hgrow hat _
  refine h _ w' ?_ ⟨hgrow,fun k hk => ?_⟩
  ·unfold OwnB
   rw [List.length_append,ZdO]
   rw [ZdR] at hown' ⊢
   exact hown'
  ·simp only [Value.ownBlock,Option.some.injEq] at hk
   subst hk
   rcases hat with h | h
   ·exact .inl h
   ·exact .inr (Nat.le_of_eq h.symm)
theorem Zeb (n:Nat):Zd8 n≠[]:=by
 intro h
 have:=(Zea n).1
 rw [h] at this
 simp at this
theorem Zcp (v:Value) (l:List UInt8) (n:Int) (w:World) (h0:0≤n) (h1:n≤9223372036854775807) (hown:OwnB 0 w v l) (hlen:l.length≤1000000000000) :
  Calls Tryz.prog 191 #[v,.int .i64 n] w (AppL (l++Zd8 n.toNat) v w):=by
 obtain ⟨m,rfl⟩:=Int.eq_ofNat_of_zero_le h0
 rw [Int.toNat_natCast]
 have hput:=VP.Zr2 (.slice none 0 0) [] m w (by omega) (BRow.nil_ w) (by simp)
 rw [List.nil_append] at hput
 have hbl:=Zea m
 have hne:=Zeb m
 obtain ⟨M,hM⟩:∃ M,Zd8 m=M:=⟨_,rfl⟩
 rw [hM] at hput hbl hne ⊢
 have HP:=Lib.hid hput
 have HO:=Lib.hid hown
 have HNE:=Lib.hid hne
 have hw:IntKind.u64.wrap (m:Int)=(m:Int):=by rw [IntKind.wrap_u64];omega
 obtain ⟨p,cap,rfl,_⟩:=(OwnB.brow hown).shape
 clear hput hown hM hne
 go_enter Tryz.func191,Tryz.ntmps191
 go_wp2_with fail
 refine HP.out.mono ?_
 rintro e w1 ⟨v1,rfl,ho1,hb1⟩
 have HO1:=Lib.hid (HO.out.keep hb1)
 have HR1:=Lib.hid (OwnB.brow ho1)
 have HB1:=Lib.hid hb1
 have HLT:=Lib.hid (Zqh HO.out)
 obtain ⟨p1,c1,rfl,_⟩:=(OwnB.brow ho1).shape
 clear ho1 hb1 HP
 go_wp2_with (at_builtin;refine Zzp rfl _ _ rfl _ l rfl HO1.out _ M rfl HR1.out HNE.out (by omega) ?_)
 intro v2 w2 ho2 hg2
 have HO2:=Lib.hid ho2
 have HG2:=Lib.hid (hg2.of_below HB1.out HLT.out)
 clear ho2 hg2
 go_wp2_with fail
 go_ret
 exact ⟨_,rfl,HO2.out,HG2.out⟩
theorem ZjY {qs:List Int} {k:Nat} (hk:k<qs.length):ZjU 0 (qs.take (k+1))=ZjU 0 (qs.take k)++Zd8 (qs[k] - Zm6 0 (qs.take k)).toNat∧Zm6 0 (qs.take (k+1))=qs[k]+1:=by
 rw [List.take_succ_eq_append_getElem hk,ZjW,Zm8]
 exact ⟨rfl,rfl⟩
theorem Zts {qs:List Int} (h:Zto 1048576 qs=true) {k:Nat} (hk:k<qs.length):0≤Zm6 0 (qs.take k)∧Zm6 0 (qs.take k)≤qs[k]∧qs[k]<1048576:=by
 have e:qs.take (k+1)=qs.take k++[qs[k]]:=List.take_succ_eq_append_getElem hk
 have h1:Ztj 1048576 (0 - 1) (qs.take (k+1))=true:=by
  have:∀ (n:Nat) (zs:List Int) (a:Int),Ztj 1048576 a zs=true→Ztj 1048576 a (zs.take n)=true:=by
   intro n
   induction n with
   | zero=>intro zs a _;rfl
   | succ n ih =>
     intro zs a hz
     cases zs with
     | nil=>rfl
     | cons z zs =>
       rw [Ztj,Bool.and_eq_true] at hz
       rw [List.take_succ_cons,Ztj,Bool.and_eq_true]
       exact ⟨hz.1,ih zs z hz.2⟩
  exact this _ _ _ h
 rw [e,Ztn,Bool.and_eq_true,Bool.and_eq_true,decide_eq_true_eq,decide_eq_true_eq] at h1
 have h2:=(Zm7 1048576 (qs.take k) 0 (by omega) h1.1).1
 exact ⟨h2,h1.2.1,h1.2.2⟩
theorem Zcq (v:Value) (l:List UInt8) (z:Int) (x:Value) (qs:List Int) (n:Int) (w:World) (hn:0≤n) (hok:okP n (z,qs)) (hown:OwnB 0 w v l) (hx:IOn (fun b=>v.ownBlock≠some b) w x qs) (hlen:l.length+10*qs.length≤900000000000) :
  Calls Tryz.prog 190 #[v,.agg #[.int .i64 z,x],.int .i64 n] w (AppL (l++Zrt n (z,qs)) v w):=by
 obtain ⟨hz0,hz1,_,hrise⟩:=hok
 dsimp only at hz0 hz1 hrise
 have hql:=Ztq hrise
 have hpl:Zrt n (z,qs)=Zd8 (z - n).toNat++(Zd8 qs.length++ZjU 0 (qs.take qs.length)):=by rw [List.take_length];rfl
 rw [hpl]
 obtain ⟨px,cx,rfl,hxl,hxm,_⟩:=hx.shape
 unfold maxLen at hxm
 have hal:Below w.heap.size w (w.alloc (.cells #[.int .i64 z,.slice px qs.length cx] 125)):=(Below.refl _ _).alloc (Nat.le_refl _) _
 have hcc:(w.alloc (.cells #[.int .i64 z,.slice px qs.length cx] 125)).heap[w.heap.size]? = some (.cells #[.int .i64 z,.slice px qs.length cx] 125):=heap_alloc_new _ _
 have hne:v.ownBlock≠some w.heap.size:=fun e=>by have:=Zqh hown _ e;omega
 have HX:=Lib.hid (hx.keep (ZmT (fun b=>v.ownBlock≠some b) hal) fun _ _ h=>h)
 have HO:=Lib.hid (OwnB.keep hown hal)
 have HLT:=Lib.hid (Zqh hown)
 have HAL:=Lib.hid hal
 have hsz:w.heap.size<(w.alloc (.cells #[.int .i64 z,.slice px qs.length cx] 125)).heap.size:=by simp
 have hb1:=Zea (z - n).toNat
 have hb2:=Zea qs.length
 have HGB:=Lib.hid (fun k=>(ZjV (qs.take k) 0).2)
 have HGT:=Lib.hid (fun k (hk:k<qs.length)=>ZjY hk)
 have HRT:=Lib.hid (fun k (hk:k<qs.length)=>Zts hrise hk)
 obtain ⟨nq,hnq⟩:∃ nq,qs.length=nq:=⟨_,rfl⟩
 obtain ⟨W1,hW1⟩:∃ W1,w.alloc (.cells #[.int .i64 z,.slice px qs.length cx] 125)=W1:=⟨_,rfl⟩
 have HF:Hid (∀ W u,ZaL W1 W v u→W.cell? ⟨w.heap.size,0,none⟩=some (.int .i64 z)∧W.cell? ⟨w.heap.size,1,none⟩=some (.slice px nq cx)):=Lib.hid (fun W u hg=>by
  rw [hW1] at hcc hsz
  have:=(hg.kep.block w.heap.size hsz hne).trans hcc
  rw [← hnq]
  exact ⟨by rw [cell_of_row W _ 0 _ _ _ this];rfl,by rw [cell_of_row W _ 1 _ _ _ this];rfl⟩)
 have f0:=(HF.out W1 v (ZaL.refl _ _)).1
 have f1:=(HF.out W1 v (ZaL.refl _ _)).2
 have K1:=Lib.hid (Zcp v l (z - n) W1 (by omega) (by omega) (by rw [← hW1];exact HO.out) (by omega))
 have K2:Hid (∀ W u L,OwnB 0 W u L→L.length≤1000000000000→Calls Tryz.prog 191 #[u,.int .i64 nq] W (AppL (L++Zd8 qs.length) u W)):=Lib.hid (fun W u L h hl=>by
  have:=Zcp u L (nq:Int) W (by omega) (by omega) h hl
  rw [Int.toNat_natCast,← hnq] at this
  rw [← hnq];exact this)
 have HNQ:=Lib.hid hnq
 have HW1:=Lib.hid hW1
 rw [hnq] at hW1
 rw [hnq] at HX
 obtain ⟨P1,hP1⟩:∃ P,Zd8 (z - n).toNat=P:=⟨_,rfl⟩
 obtain ⟨P2,hP2⟩:∃ P,Zd8 qs.length=P:=⟨_,rfl⟩
 rw [hP1] at K1 hb1 ⊢
 rw [hP2] at hb2 ⊢
 simp only [hP2] at K2
 have HW1b:=Lib.hid hW1
 clear hown hx hal hcc hrise hpl hP1 hP2 hne HW1
 go_enter Tryz.func190,Tryz.ntmps190
 go_wp2_with fail
 refine K1.out.mono ?_
 rintro e W2 ⟨v2,rfl,ho2,hg2⟩
 obtain ⟨f2,f3⟩:=HF.out W2 v2 hg2
 have HK2:=Lib.hid (K2.out W2 v2 _ ho2 (by rw [List.length_append];omega))
 have HG2:=Lib.hid hg2
 clear ho2 hg2 K1 K2
 go_wp2_with fail
 refine HK2.out.mono ?_
 rintro e W3 ⟨v3,rfl,ho3,hg3⟩
 have hg3':=HG2.out.trans hg3
 obtain ⟨f4,f5⟩:=HF.out W3 v3 hg3'
 have HO0:Hid (OwnB 0 W3 v3 (l++(P1++(P2++ZjU 0 (qs.take 0))))):=Lib.hid (by simp only [List.take_zero,ZjU,List.append_nil,← List.append_assoc];exact ho3)
 have HG3:=Lib.hid hg3'
 have HP0:Hid (Zm6 0 (qs.take 0)=0):=Lib.hid rfl
 clear ho3 hg3 hg3' HG2 HK2
 go_wp2_with fail
 go_loopw [0,7,24] (fun u a i wr=>∃ (k:Nat) (A:Int),k≤nq∧i=.int .i64 k∧a=.int .i64 A∧Hid (Zm6 0 (qs.take k)=A)∧Hid (OwnB 0 wr u (l++(P1++(P2++ZjU 0 (qs.take k)))))∧Hid (ZaL W1 wr v u)) (fun _ _ i _=>nq - (intOf i).toNat)
 case atStart=>exact ⟨0,0,by omega,rfl,rfl,HP0,HO0,HG3⟩
 case round =>
  obtain ⟨k,A,hk,rfl,rfl,HPk,HOk,HGk⟩:=hrel
  clear HO0 HG3 HP0 f0 f1 f2 f3 f4 f5
  obtain ⟨f0,f1⟩:=HF.out wr _ HGk.out
  by_cases hlt:k<nq
  ·have t1:decide ((k:Int)<(nq:Int))=true:=by simp;omega
   have hltq:k<qs.length:=by rw [HNQ.out];exact hlt
   obtain ⟨b,off,rfl,hbl,_,hcell⟩:=(HX.out.keep (by rw [HW1b.out];exact HGk.out.kep) fun _ _ h=>h:IOn (fun b=>v.ownBlock≠some b) wr _ qs).at_ hltq
   obtain ⟨hgt,hgt2⟩:=HGT.out k hltq
   obtain ⟨hr0,hr1,hr2⟩:=HRT.out k hltq
   have hgb:=HGB.out k
   have hll:(l++(P1++(P2++ZjU 0 (qs.take k)))).length≤1000000000000:=by
    have:(qs.take k).length≤qs.length:=List.length_take_le' _ _
    simp only [List.length_append];omega
   rw [HPk.out] at hgt hr0 hr1
   obtain ⟨y,hy⟩:∃ y,qs[k]=y:=⟨_,rfl⟩
   rw [hy] at hcell hgt hgt2 hr1 hr2
   have HK:=Lib.hid (Zcp _ _ (y - A) wr (by omega) (by omega) HOk.out hll)
   have e1:l++(P1++(P2++ZjU 0 (qs.take k)))++Zd8 (y - A).toNat=l++(P1++(P2++ZjU 0 (qs.take (k+1)))):=by rw [hgt];simp only [List.append_assoc]
   rw [e1] at HK
   have HP2:=Lib.hid hgt2
   clear hgt hgt2 hgb hll e1 hy HPk
   go_wp2_with fail
   refine HK.out.mono ?_
   rintro e W4 ⟨v4,rfl,ho4,hg4⟩
   have HO4:=Lib.hid ho4
   have HG4:=Lib.hid (HGk.out.trans hg4)
   clear ho4 hg4 HK
   go_wp2_with fail
   go_roundw
   case rel=>exact ⟨k+1,y+1,by omega,by go_num,rfl,HP2,HO4,HG4⟩
   case measure=>simp [intOf];omega
  ·obtain rfl:k=nq:=by omega
   have t1:decide ((k:Int)<(k:Int))=false:=by simp
   have ho:=HOk.out
   rw [← HNQ.out] at ho
   have HOe:=Lib.hid ho
   clear HPk ho HOk
   go_wp2_with fail
   go_ret
   exact ⟨_,rfl,HOe.out,HGk.out.of_below (by rw [← HW1b.out];exact (Below.refl _ _).alloc (Nat.le_refl _) _) HLT.out⟩
end Go.Proofs.YtdijhifdjbnkfaaGreat.PW
namespace Go.Proofs.YtdijhifdjbnkfaaGreat.PW
open Go.RowKit MM PM VM
def encR (ps:List Post):List UInt8×Int:=if isL ps=true then (encL ps,0) else ([],80)
def Zay (r:List UInt8×Int) (w:World) (e:Ending) (w':World):Prop:=∃ v',e=.returned (.tuple #[v',.int .i64 r.2])∧OwnB w.heap.size w' v' r.1∧Below w.heap.size w w'
structure EncSt (w W wr:World) (gb:Option Nat) (vh vb:Value) (H Bd:List UInt8):Prop where
 low:Below w.heap.size w wr
 gsz:W.heap.size≤wr.heap.size
 wsz:w.heap.size≤W.heap.size
 blk:∀ g,gb=some g→g<W.heap.size∧wr.heap[g]? = W.heap[g]?
 oh:OwnB 0 wr vh H
 ob:OwnB 0 wr vb Bd
 fh:∀ k,vh.ownBlock=some k→w.heap.size≤k∧gb≠some k
 fb:∀ k,vb.ownBlock=some k→w.heap.size≤k∧gb≠some k
 ap:∀ k,vh.ownBlock=some k→vb.ownBlock≠some k
theorem EncSt.swap {w W wr:World} {gb:Option Nat} {vh vb:Value} {H Bd:List UInt8} (h:EncSt w W wr gb vh vb H Bd):EncSt w W wr gb vb vh Bd H :=
 ⟨h.low,h.gsz,h.wsz,h.blk,h.ob,h.oh,h.fb,h.fh,fun k hk hk2=>h.ap k hk2 hk⟩
theorem EncSt.below {w W wr w':World} {gb:Option Nat} {vh vb:Value} {H Bd:List UInt8} (h:EncSt w W wr gb vh vb H Bd) (hb:Below wr.heap.size wr w'):EncSt w W w' gb vh vb H Bd :=
 ⟨h.low.trans (hb.mono h.low.size),Nat.le_trans h.gsz hb.size,h.wsz,fun g hg=>⟨(h.blk g hg).1,(hb.block g (Nat.lt_of_lt_of_le (h.blk g hg).1 h.gsz)).trans (h.blk g hg).2⟩,OwnB.keep h.oh hb,OwnB.keep h.ob hb,h.fh,h.fb,h.ap⟩
theorem EncSt.growB {w W wr w':World} {gb:Option Nat} {vh vb vb':Value} {H Bd Bd':List UInt8} (h:EncSt w W wr gb vh vb H Bd) (hg:ZaL wr w' vb vb') (ho:OwnB 0 w' vb' Bd'):EncSt w W w' gb vh vb' H Bd':=by
 have hs:=hg.kep.size
 refine ⟨h.low.trans (hg.kep.below h.low.size fun k hk e=>by have:=(h.fb k e).1;omega),Nat.le_trans h.gsz hs,h.wsz,fun g hg' => ?_,OwnB.kepOwn h.oh hg.kep (fun k hk e=>h.ap k hk e),ho,h.fh,fun k hk => ?_,fun k hk hk2 => ?_⟩
 ·have h1:=(h.blk g hg').1
  have h2:=h.gsz
  exact ⟨h1,(hg.kep.block g (by omega) (fun e=>(h.fb g e).2 hg')).trans (h.blk g hg').2⟩
 ·have h2:=h.gsz
  have h3:=h.wsz
  rcases hg.2 k hk with e | e
  ·exact h.fb k e
  ·exact ⟨by omega,fun e2=>by have:=(h.blk k e2).1;omega⟩
 ·rcases hg.2 k hk2 with e | e
  ·exact h.ap k hk e
  ·have:=Zqh h.oh k hk
   omega
theorem EncSt.growH {w W wr w':World} {gb:Option Nat} {vh vb vh':Value} {H Bd H':List UInt8} (h:EncSt w W wr gb vh vb H Bd) (hg:ZaL wr w' vh vh') (ho:OwnB 0 w' vh' H'):EncSt w W w' gb vh' vb H' Bd :=
 (h.swap.growB hg ho).swap
theorem ZdE {ps:List Post} {k:Nat} (hk:k<ps.length):Zdz 0 (ps.take (k+1))=Zdz 0 (ps.take k)++Zrt (ZoH 0 (ps.take k)) ps[k]∧ZoH 0 (ps.take (k+1))=ps[k].1+1:=by
 rw [List.take_succ_eq_append_getElem hk,ZdA,ZoI]
 exact ⟨by rw [Zdz,Zdz,List.append_nil],rfl⟩
theorem ZpB {ps:List Post} (h:okL 0 ps) {k:Nat} (hk:k<ps.length):0≤ZoH 0 (ps.take k)∧okP (ZoH 0 (ps.take k)) ps[k]:=by
 refine ⟨ZoL (Zpw h k),?_⟩
 have:=Zps h k
 rw [List.drop_eq_getElem_cons hk,okL] at this
 exact this.1
theorem Zho (ps:List Post) (i:Nat):endL ps i≤endL ps (i+1):=by
 unfold endL
 have e:ps.take (32*i)=(ps.take (32*(i+1))).take (32*i):=by rw [List.take_take,Nat.min_eq_left (by omega)]
 rw [e]
 conv=>rhs;rw [← List.take_append_drop (32*i) (ps.take (32*(i+1))),ZdA,List.length_append]
 omega
theorem ZwH:∀ (ps:List Post) (k:Nat) (h:k<ps.length),ps[k].2.length≤sumL ps
 | p::ps,0,_=>by rw [sumL];simp
 | p::ps,k+1,h=>by
   have:=ZwH ps k (by simpa using h)
   rw [sumL]
   simp only [List.getElem_cons_succ]
   omega
theorem Zg1 (v:Value) (ps:List Post) (w:World) (hr:PRow w v ps) (hl:ps.length≤100000) (hs:sumL ps≤1000000000):Calls Tryz.prog 129 #[v] w (Zay (encR ps) w):=by
 have HCk:=Lib.hid (ZeI v ps w hr (by omega))
 unfold encR
 by_cases hok:isL ps=true
 ·rw [if_pos hok] at HCk ⊢
  have hokL:=(Zmy ps).1 hok
  have HBT:=Lib.hid (fun k (hk:k<ps.length)=>ZdE hk)
  have HOT:=Lib.hid (fun k (hk:k<ps.length)=>ZpB hokL hk)
  have HRS:=Lib.hid hr
  have HSA:=Lib.hid (fun k (hk:k<ps.length)=>ZwH ps k hk)
  have HE1:=Lib.hid (fun k=>show endL ps k≤20000000000 by have:=Zhm ps k;omega)
  have HBB:=Lib.hid (fun k=>show (Zdz 0 (ps.take k)).length≤20000000000 by
   have h1:=ZdC (ps.take k) 0
   have h2:=ZwK ps k
   have h3:(ps.take k).length≤ps.length:=List.length_take_le' _ _
   omega)
  have HNB:=Lib.hid (fun k=>ZoJ (ps.take k) 0 (Zpw hokL k))
  obtain ⟨p,cap,rfl,hlc,hcm,_⟩:=hr.shape
  have hp:0<ps.length→∃ b off,p=some ⟨b,off,none⟩:=fun h=>by
   obtain ⟨b,off,x,hp,_⟩:=hr.at_ h
   exact ⟨b,off,hp⟩
  obtain ⟨b,off,hpb⟩:∃ b off,0<ps.length→p=some ⟨b,off,none⟩:=by
   by_cases h:0<ps.length
   ·obtain ⟨b,off,e⟩:=hp h;exact ⟨b,off,fun _=>e⟩
   ·exact ⟨0,0,fun h2=>absurd h2 h⟩
  have HPB:=Lib.hid hpb
  have HK1:=Lib.hid (fun W=>VP.Zr2 (.slice none 0 0) [] ps.length W (by omega) (BRow.nil_ W) (by simp))
  have HK2:=Lib.hid (fun W=>Zdu b off ps.length cap p W hpb hlc hcm (by omega))
  obtain ⟨n,hnn⟩:∃ n,ps.length=n:=⟨_,rfl⟩
  have HNN:=Lib.hid hnn
  unfold maxLen at hcm
  have hw:IntKind.u64.wrap (n:Int)=(n:Int):=by rw [IntKind.wrap_u64];omega
  rw [hnn] at HCk HRS HK1 HK2 hl hlc HPB ⊢
  simp only [List.nil_append] at HK1
  clear hr hp hpb hnn hok hokL
  go_enter Tryz.func129,Tryz.ntmps129
  go_wp2_with fail
  refine HCk.out.mono ?_
  rintro e w1 ⟨rfl,hb1⟩
  have HB1:=Lib.hid hb1
  clear hb1 HCk
  go_wp2_with fail
  refine (HK1.out _).mono ?_
  rintro e w2 ⟨vh,rfl,ho2,hb2⟩
  have HB2:=Lib.hid (grow HB1.out hb2)
  have HO2:=Lib.hid ho2
  have hs12:=HB1.out.size
  have hs23:=hb2.size
  clear ho2 hb2 HK1
  go_wp2_with fail
  refine (HK2.out _).mono ?_
  rintro e w3 ⟨vk,rfl,ho3,hb3⟩
  obtain ⟨pk,ck,rfl,hk1,hk2⟩:=ho3.shape
  rw [Zdk] at hk1 ho3 ⊢
  have hst:EncSt w w3 w3 (Value.slice pk (cnt n) ck).ownBlock vh (.slice none 0 0) (Zd8 n++Zlq ps 0 0) (Zdz 0 (ps.take (32*0))):=by
   refine ⟨HB2.out.trans (hb3.mono (by have:=HB2.out.size;omega)),Nat.le_refl _,by have:=hb3.size;omega,fun g hg => ?_,?_,World.ownsRow_nil _ _ _ _,fun k hk => ?_,(fun k hk=>by cases hk),(fun k hk hk2=>by cases hk2)⟩
   ·exact ⟨(World.ownsRow.lt ho3 g hg).2,rfl⟩
   ·rw [Zlq,List.append_nil]
    exact OwnB.zero (OwnB.keep HO2.out hb3)
   ·have h1:=(World.ownsRow.lt HO2.out k hk)
    exact ⟨by omega,fun hk3=>by have:=(World.ownsRow.lt ho3 k hk3).1;omega⟩
  have HST0:=Lib.hid hst
  have HO3:=Lib.hid ho3
  have HA0:Hid (ZoH 0 (ps.take (32*0))=0):=Lib.hid (by rw [Nat.mul_zero,List.take_zero];rfl)
  clear hst ho3 hb3 HO2 HK2 hs12 hs23
  go_wp2_with fail
  go_loopw [5,6,7,25] (fun vh vb a iv wr=>∃ (i:Nat) (A:Int),i≤cnt n∧iv=.int .i64 i∧a=.int .i64 A∧Hid (ZoH 0 (ps.take (32*i))=A)∧Hid (EncSt w w3 wr (Value.slice pk (cnt n) ck).ownBlock vh vb (Zd8 n++Zlq ps 0 i) (Zdz 0 (ps.take (32*i))))) (fun _ _ _ iv _=>cnt n - (intOf iv).toNat)
  case atStart=>exact ⟨0,0,by omega,rfl,rfl,HA0,HST0⟩
  case round =>
   obtain ⟨i,A,hi,rfl,rfl,HA,HST⟩:=hrel
   clear HA0 HST0
   by_cases hlt:i<cnt n
   ·have t1:decide ((i:Int)<(cnt n:Int))=true:=by simp;omega
    have hin:32*i<n:=by unfold cnt at hlt;omega
    obtain ⟨g,rfl,hg0,hg1,hcell,_⟩:=HO3.out.at_ (Zdj b off n cap (cnt n) i hlt)
    have hcell2:=(World.cell?_of_block (a:=⟨g,i,none⟩) (HST.out.blk g rfl).2).trans hcell
    have HPE:=Lib.hid (HPB.out (by omega))
    unfold blkV at hcell2
    obtain ⟨m,hm⟩:∃ m,min 32 (n - 32*i)=m:=⟨_,rfl⟩
    obtain ⟨cc,hcc⟩:∃ c,cap - 32*i=c:=⟨_,rfl⟩
    rw [hm,hcc] at hcell2
    have hm0:0<m:=by omega
    have hmn:32*i+m≤n:=by omega
    have hmc:m≤cc:=by omega
    have hbl:=(OwnB.brow HST.out.ob).shape
    obtain ⟨pb,cb,rfl,_,_⟩:=hbl
    have HSTi:Hid (EncSt w w3 wr (Value.slice (some ⟨g,0,none⟩) (cnt n) ck).ownBlock u5 (.slice pb (Zdz 0 (ps.take (32*i))).length cb) (Zd8 n++Zlq ps 0 i) (Zdz 0 (ps.take (32*i+0)))):=Lib.hid (by rw [Nat.add_zero];exact HST.out)
    have HAi:Hid (ZoH 0 (ps.take (32*i+0))=A):=Lib.hid (by rw [Nat.add_zero];exact HA.out)
    obtain ⟨S0,hS0⟩:∃ S0,(Zdz 0 (ps.take (32*i))).length=S0:=⟨_,rfl⟩
    rw [hS0] at HSTi
    have HS0:=Lib.hid hS0
    have HHM:=Lib.hid hm
    have HIN:=Lib.hid hin
    rw [hS0]
    clear HST HA hcell hS0 hm hcc
    go_wp2_with fail
    go_loopw [6,7,33] (fun vb a jv wr=>∃ (j:Nat) (A:Int),j≤m∧jv=.int .i64 j∧a=.int .i64 A∧Hid (ZoH 0 (ps.take (32*i+j))=A)∧Hid (EncSt w w3 wr (Value.slice (some ⟨g,0,none⟩) (cnt n) ck).ownBlock u5 vb (Zd8 n++Zlq ps 0 i) (Zdz 0 (ps.take (32*i+j))))) (fun _ _ jv _=>m - (intOf jv).toNat)
    case atStart=>exact ⟨0,A,by omega,rfl,rfl,HAi,HSTi⟩
    case round =>
     obtain ⟨j,A2,hj,rfl,rfl,HA,HST⟩:=hrel
     clear HAi HSTi hcell2
     by_cases hjl:j<m
     ·have t2:decide ((j:Int)<(m:Int))=true:=by simp;omega
      have hkp:32*i+j<ps.length:=by rw [HNN.out];omega
      obtain ⟨b',off',x,hbb,hbl,_,hc1,hc2,hx⟩:=(PRow.pon HRS.out).at_ hkp
      rw [HPE.out] at hbb
      simp only [Option.some.injEq,Addr.mk.injEq] at hbb
      obtain ⟨rfl,rfl,_⟩:=hbb
      have hbt:=HBT.out _ hkp
      have hot:=HOT.out _ hkp
      have hsa:=HSA.out _ hkp
      have hbb:=HBB.out (32*i+j)
      have low:=HST.out.low
      have hc1b:=(low.cell (p:=⟨b,off+(32*i+j)*2,none⟩) hbl).trans hc1
      have hc2b:=(low.cell (p:=⟨b,off+(32*i+j)*2+1,none⟩) hbl).trans hc2
      rw [show off+(32*i+j)*2=off+64*i+j*2 by omega] at hc1b hc2b
      rw [HA.out] at hbt hot
      obtain ⟨⟨z,qs⟩,hz⟩:∃ z,ps[32*i+j]=z:=⟨_,rfl⟩
      rw [hz] at hc1b hx hbt hot hsa
      dsimp only at hc1b hx hbt hot hsa
      have hal:Below wr.heap.size wr (wr.alloc (.cells #[.int .i64 z,x] 125)):=(Below.refl _ _).alloc (Nat.le_refl _) _
      have hSTa:=HST.out.below hal
      have hxw:IOn (fun c=>u6.ownBlock≠some c) (wr.alloc (.cells #[.int .i64 z,x] 125)) x qs:=hx.keep (ZmT _ (low.trans (hal.mono low.size))) (fun c hc hc2 e=>by have:=(HST.out.fb c e).1;omega)
      have hbx:=hot.2.1
      have hbz:=hot.2.2.1
      dsimp only at hbx hbz
      have hPOST:=Zcq u6 (Zdz 0 (ps.take (32*i+j))) z x qs A2 _ hot.1 hot.2 hSTa.ob hxw (by omega)
      rw [← hbt.1] at hPOST
      have HPO:=Lib.hid hPOST
      have HST2:=Lib.hid hSTa
      have HA3:=Lib.hid hbt.2
      have hot1:=hot.1
      have HNE:Hid (u6.ownBlock≠some wr.heap.size):=Lib.hid (fun e=>by have:=Zqh HST.out.ob _ e;omega)
      have HCC:Hid ((wr.alloc (.cells #[.int .i64 z,x] 125)).heap[wr.heap.size]? = some (.cells #[.int .i64 z,x] 125)):=Lib.hid (heap_alloc_new _ _)
      obtain ⟨px,cx,rfl,_⟩:=hx.shape
      generalize qs.length=nx at *
      clear hbt hot hsa hbb low hc1 hc2 hx hxw hal hSTa hPOST hz hkp HST HA
      go_wp2_with fail
      refine HPO.out.mono ?_
      rintro e w5 ⟨v5,rfl,ho5,hg5⟩
      have HST5:=Lib.hid (HST2.out.growB hg5 ho5)
      have hcb:=(hg5.kep.block wr.heap.size (by simp) HNE.out).trans HCC.out
      have f0:w5.cell? ⟨wr.heap.size,0,none⟩=some (.int .i64 z):=by rw [cell_of_row w5 _ 0 _ _ _ hcb];rfl
      clear hg5 ho5 hcb HST2 HPO HCC
      go_wp2_with fail
      go_roundw
      case rel=>exact ⟨j+1,z+1,by omega,by go_num,rfl,by rw [← Nat.add_assoc];exact HA3,by rw [← Nat.add_assoc];exact HST5⟩
      case measure=>simp [intOf];omega
     ·obtain rfl:j=m:=by omega
      have t2:decide ((j:Int)<(j:Int))=false:=by simp
      have etk:ps.take (32*i+j)=ps.take (32*(i+1)):=by
       have h1:=HHM.out
       have h2:=HNN.out
       by_cases h32:32≤n - 32*i
       ·rw [show 32*i+j=32*(i+1) by omega]
       ·rw [List.take_of_length_le (by omega),List.take_of_length_le (by omega)]
      rw [etk] at HA HST
      have hst:=HST.out
      have hnb:=HNB.out (32*(i+1))
      have hbb:=HBB.out (32*(i+1))
      have hle:=Zho ps i
      have hee1:=HE1.out (i+1)
      have hee0:=HE1.out i
      have hnp:1≤A2:=by
       have h3:(ps.take (32*(i+1))).length≥1:=by rw [List.length_take,HNN.out];omega
       rw [HA.out] at hnb
       omega
      have h1v:h1L ps i=(A2 - 1).toNat:=by unfold h1L;rw [HA.out]
      have hA65:A2≤65536:=by rw [HA.out] at hnb;omega
      have e2:(Zdz 0 (ps.take (32*(i+1)))).length=endL ps (i+1):=rfl
      have e1:S0=endL ps i:=HS0.out.symm
      have hhl:=Zls ps i 0
      have hbn:=Zea n
      have hci:i≤n:=by unfold cnt at hlt;omega
      have hK1:∀ W,OwnB 0 W u5 (Zd8 n++Zlq ps 0 i)→Calls Tryz.prog _ #[u5,.int .i64 (A2 - 1)] W _:=fun W h=>Zcp u5 _ (A2 - 1) W (by omega) (by omega) h (by rw [List.length_append];omega)
      have hK2:∀ W u,OwnB 0 W u (Zd8 n++Zlq ps 0 i++Zd8 (A2 - 1).toNat)→Calls Tryz.prog _ #[u,.int .i64 ((endL ps (i+1):Int) - (endL ps i:Int))] W _:=fun W u h=>Zcp u _ ((endL ps (i+1):Int) - (endL ps i:Int)) W (by omega) (by omega) h (by have:=Zea (A2 - 1).toNat;simp only [List.length_append];omega)
      have e3:Zd8 n++Zlq ps 0 i++Zd8 (A2 - 1).toNat++Zd8 ((endL ps (i+1):Int) - (endL ps i:Int)).toNat=Zd8 n++Zlq ps 0 (i+1):=by
       rw [Zlt,Nat.zero_add,Zld,h1v,h2L,show ((endL ps (i+1):Int) - (endL ps i:Int)).toNat=endL ps (i+1) - endL ps i by omega]
       simp only [List.append_assoc]
      rw [e3] at hK2
      have HK1:=Lib.hid hK1
      have HK2:=Lib.hid hK2
      obtain ⟨pq,cq,rfl,hq1,hq2⟩:=(OwnB.brow hst.ob).shape
      rw [e2] at hst hq1 ⊢
      rw [e1]
      have HST3:=Lib.hid hst
      have HSZ:Hid (endL ps (i+1)=(Zdz 0 (ps.take (32*(i+1)))).length):=Lib.hid rfl
      obtain ⟨E1,hE1⟩:∃ E,endL ps (i+1)=E:=⟨_,rfl⟩
      obtain ⟨E0,hE0⟩:∃ E,endL ps i=E:=⟨_,rfl⟩
      rw [hE1] at HST3 HSZ hle ⊢
      rw [hE0] at hle ⊢
      simp only [hE1,hE0] at HK2
      rw [hE1] at e2
      have hE1b:E1≤100000000000:=by omega
      clear hst hnb hbb hhl hbn hK1 hK2 e1 e2 e3 etk h1v HST hE1 hE0 hq1
      go_wp2_with fail
      refine (HK1.out _ HST3.out.oh).mono ?_
      rintro e w6 ⟨v6,rfl,ho6,hg6⟩
      have HST6:=Lib.hid (HST3.out.growH hg6 ho6)
      clear ho6 hg6 HST3
      go_wp2_with fail
      refine (HK2.out _ _ HST6.out.oh).mono ?_
      rintro e w7 ⟨v7,rfl,ho7,hg7⟩
      have HST7:=Lib.hid (HST6.out.growH hg7 ho7)
      clear ho7 hg7 HST6
      go_wp2_with fail
      go_roundw
      case rel=>exact ⟨i+1,A2,by omega,by go_num,rfl,HA,HST7⟩
      case measure=>simp [intOf];omega
   ·obtain rfl:i=cnt n:=by omega
    have t1:decide ((cnt n:Int)<(cnt n:Int))=false:=by simp
    have etk:ps.take (32*cnt n)=ps:=List.take_of_length_le (by rw [HNN.out];unfold cnt;omega)
    rw [etk] at HST
    have hst:=HST.out
    have hbb:=HBB.out ps.length
    rw [List.take_length] at hbb
    have hhl:=Zls ps (cnt n) 0
    have hbn:=Zea n
    have hcn:cnt n≤n:=by unfold cnt;omega
    have HOH:=Lib.hid (OwnB.from hst.oh (fun k hk=>(hst.fh k hk).1))
    have HOB:=Lib.hid (OwnB.brow hst.ob)
    have HLOW:=Lib.hid hst.low
    have hlen:(Zd8 n++Zlq ps 0 (cnt n)).length+(Zdz 0 ps).length≤140737488355328:=by rw [List.length_append];omega
    have hsz:=hst.low.size
    have HEE:Hid (encL ps=Zd8 n++(Zlq ps 0 (cnt n)++Zdz 0 ps)):=Lib.hid (by unfold encL;rw [HNN.out,List.append_assoc])
    obtain ⟨pq,cq,rfl,hq1,hq2⟩:=(OwnB.brow hst.ob).shape
    obtain ⟨pr,cr,rfl,hr1,hr2⟩:=(OwnB.brow hst.oh).shape
    clear hst hbb hhl hbn HST etk HA hq1 hq2 hr1 hr2
    go_wp2_with (at_builtin;refine Zzn rfl _ _ rfl w.heap.size _ (Zd8 n++Zlq ps 0 (cnt n)) rfl HOH.out _ (Zdz 0 ps) rfl HOB.out hlen hsz ?_)
    intro v8 w8 ho8 hb8
    rw [← HEE.out] at ho8
    have HO8:=Lib.hid ho8
    have HB8:=Lib.hid (HLOW.out.trans hb8)
    clear ho8 hb8
    go_wp2_with fail
    go_ret2
    exact ⟨_,rfl,HO8.out,HB8.out⟩
 ·rw [if_neg hok] at HCk ⊢
  clear hok hr
  go_enter Tryz.func129,Tryz.ntmps129
  go_wp2_with fail
  refine HCk.out.mono ?_
  rintro e w1 ⟨rfl,hb1⟩
  have HB1:=Lib.hid hb1
  clear hb1 HCk
  go_wp2_with fail
  go_ret2
  exact ⟨_,rfl,World.ownsRow_nil _ _ _ _,HB1.out⟩
end Go.Proofs.YtdijhifdjbnkfaaGreat.PW
