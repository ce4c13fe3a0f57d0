import Derived.Test.YtidhgicajlaafaaGreatZD22
import Derived.Test.YtidhgicajlaafaaGreatZD15
import Derived.WalkSmall
set_option maxRecDepth 100000
set_option maxHeartbeats 8000000
set_option linter.unusedVariables false
set_option linter.unusedSimpArgs false
namespace Go.Proofs.YtidhgicajlaafaaGreat.UM
open Go.RowKit
theorem infoInt:(Tryz.prog.info? 3).map (fun i=>(i.zero,i.size,i.bytes))=some (some (.int .i64 0),1,8):=by kernel_rfl
theorem cell_new1 (w:World) (x:Value) (t:TypeId):∀ j u,[x][j]? = some u→(w.alloc (.cells #[x] t)).cell? ((⟨w.heap.size,0,none⟩:Addr).add j)=some u:=by
 intro j u hj
 match j,hj with
 | 0,hj=>simp at hj;subst hj;simp [Addr.add]
 | (j+1),hj=>simp at hj
theorem int_one (k:IntKind) (r:Int):∀ u∈[Value.int k r],u.oneCell'=true:=by intro u hu;simp at hu;subst hu;rfl
def OwnInts (B:Nat) (w:World) (v:Value) (zs:List Int):Prop:=w.ownsRow B 3 1 v zs.length (zs.map (Value.int .i64))
theorem OwnInts.row {B:Nat} {w:World} {v:Value} {zs:List Int} (h:OwnInts B w v zs):IntRow w v zs:=by
 rcases h.2 with ⟨rfl,h0⟩ | ⟨g,cap,cur,rfl,hg,hh,hn,hm,hs,ht⟩
 ·have:zs=[]:=List.eq_nil_of_length_eq_zero h0
  subst this
  exact ⟨none,0,rfl,.inl rfl⟩
 ·refine ⟨_,cap,rfl,.inr ⟨g,0,rfl,(Array.getElem?_eq_some_iff.1 hh).1,fun i hi => ?_⟩⟩
  have h2:w.ownsRow B 3 1 (.slice (some ⟨g,0,none⟩) zs.length cap) zs.length (zs.map (Value.int .i64)):=h
  rw [Nat.zero_add,h2.cellAt i (by omega)]
  simp [List.getD,hi]
theorem own_iter {w:World} {B e size n:Nat} {v:Value} {xs:List Value} {k:Nat} {s:ByteArray} {pos:Nat} (h:w.ownsRow B e size v n xs) (hk:w.heap[k]? = some (.stringIter s pos)) (q:Nat):(w.iterAt k s q).ownsRow B e size v n xs:=by
 refine ⟨h.1,?_⟩
 rcases h.2 with h0 | ⟨g,cap,cur,hv,hb,hg,rest⟩
 ·exact .inl h0
 ·refine .inr ⟨g,cap,cur,hv,hb,?_,rest⟩
  rw [Lib.iterAt_other _ _ _ _ _ (fun e=>by subst e;rw [hk] at hg;cases hg)]
  exact hg
theorem own_not_iter {w:World} {B e size n:Nat} {v:Value} {xs:List Value} {k:Nat} {s:ByteArray} {pos:Nat} (h:w.ownsRow B e size v n xs) (hk:w.heap[k]? = some (.stringIter s pos)):some k≠v.ownBlock:=by
 intro e
 rcases h.2 with ⟨rfl,_⟩ | ⟨g,cap,cur,rfl,hb,hg,_⟩
 ·cases e
 ·have e2:k=g:=Option.some.inj e
  subst e2
  rw [hk] at hg
  cases hg
theorem runes_at (s:ByteArray) (pos:Nat) (hp:pos<s.size) :
  runesL (s.data.toList.drop pos)=((Utf8.decode s pos).1:Int)::runesL (s.data.toList.drop (pos+(Utf8.decode s pos).2))∧1≤(Utf8.decode s pos).2∧pos+(Utf8.decode s pos).2≤s.size:=by
 have hl:s.data.toList.length=s.size:=(Lib.size_eq s).symm
 have hne:s.data.toList.drop pos≠[]:=by
  intro h
  have:=congrArg List.length h
  rw [List.length_drop] at this
  simp at this
  omega
 have h1:=runesL_step _ hne
 have h2:=Lib.decodeL_width (s.data.toList.drop pos)
 have h3:=Lib.decodeL_le _ hne
 rw [Lib.decodeL_drop] at h1 h2 h3
 rw [List.length_drop] at h3
 rw [List.drop_drop] at h1
 exact ⟨h1,h2,by omega⟩
def Gath (s:ByteArray) (acc:List Int) (pos:Nat):Prop:=acc++runesL (s.data.toList.drop pos)=runesL s.data.toList∧acc.length≤pos∧pos≤s.size
theorem Gath.start (s:ByteArray):Gath s [] 0:=⟨by simp,by simp,by omega⟩
theorem Gath.next {s:ByteArray} {acc:List Int} {pos:Nat} (h:Gath s acc pos) (hp:pos<s.size):Gath s (acc++[((Utf8.decode s pos).1:Int)]) (pos+(Utf8.decode s pos).2):=by
 obtain ⟨h1,h2,h3⟩:=runes_at s pos hp
 refine ⟨?_,?_,h3⟩
 ·rw [← h.1,h1];simp
 ·have:=h.2.1;simp;omega
theorem Gath.stop {s:ByteArray} {acc:List Int} {pos:Nat} (h:Gath s acc pos) (hp:¬ pos<s.size):acc=runesL s.data.toList:=by
 have h1:=h.1
 have h2:=h.2.2
 rw [List.drop_eq_nil_of_le (by rw [← Lib.size_eq];omega),runesL_nil,List.append_nil] at h1
 exact h1
theorem own_snoc {w:World} {B:Nat} {v:Value} {acc:List Int} {r:Int} (h:w.ownsRow B 3 1 v (acc.length+1) (acc.map (Value.int .i64)++[.int .i64 r])):OwnInts B w v (acc++[r]):=by
 unfold OwnInts
 rw [List.length_append,List.map_append]
 exact h
def RunesLeft (s:ByteArray) (w:World) (e:Ending) (w':World):Prop:=∃ v,e=.returned v∧OwnInts w.heap.size w' v (runesL s.data.toList)∧Below w.heap.size w w'
theorem rrunes_any (s:ByteArray) (w:World) (hs:s.size≤1000000) :
  Calls Tryz.prog 79 #[.string s] w (RunesLeft s w):=by
 unfold RunesLeft
 obtain ⟨i0,hi,hz0,hz1,hz2⟩:=info_parts infoInt
 go_enter Tryz.func79,Tryz.ntmps79
 go_wp2
 go_loopw [3,4] (fun v i wr=>∃ (pos:Nat) (acc:List Int),i=.int .i64 pos∧OwnInts w.heap.size wr v acc∧Below w.heap.size w wr∧Gath s acc pos) (fun _ i _=>s.size - (intOf i).toNat)
 case atStart=>exact ⟨0,[],rfl,World.ownsRow_nil _ _ _ _,Below.refl _ _,Gath.start s⟩
 case round =>
  obtain ⟨pos,acc,rfl,hown,hb,hG⟩:=hrel
  have hsz:=hb.size
  by_cases hp:pos<s.size
  ·have hdec:=fun W=>rdec_in s pos W (by omega) hp
   have hnext:=hG.next hp
   have hw:=(runes_at s pos hp).2
   have hlen:=hG.2.1
   obtain ⟨r,hr⟩:∃ r,(Utf8.decode s pos).1=r:=⟨_,rfl⟩
   obtain ⟨d,hd⟩:∃ d,(Utf8.decode s pos).2=d:=⟨_,rfl⟩
   rw [hr,hd] at hnext
   rw [hd] at hw
   simp only [hr,hd] at hdec
   clear hr hd
   obtain ⟨hw1,hw2⟩:=hw
   have HD:=Lib.hid hdec
   have HX:=Lib.hid hnext
   clear hdec hnext hG
   have hlo:=fun j hj=>(hown.lt j hj).1
   have HL:=Lib.hid hlo
   clear hlo
   have hown1:wr.ownsRow w.heap.size 3 1 _ acc.length (acc.map (Value.int .i64)):=hown
   clear hown
   go_wp2_with fail
   refine (HD.out _).mono ?_
   rintro e w' ⟨rfl,rfl⟩
   go_wp2_with (at_builtin;refine wpList_append_own _ rfl _ _ 73 rfl w.heap.size 3 i0 (.int .i64 0) 1 8 Tryz.underlying73 hi hz0 hz1 hz2 rfl (by decide) _ _ _ rfl (hown1.alloc _) ⟨wr.heap.size,0,none⟩ 1 1 [.int .i64 (r:Int)] rfl rfl (cell_new1 _ _ _) (int_one _ _) (by unfold maxLen;omega) (by omega) (by simp;omega) ?_)
   intro v1 w1 hown2 hgrow hnil1
   have hb':=below_app hb hsz HL.out hgrow
   have HO:=Lib.hid (own_snoc hown2)
   clear hown2 hgrow hnil1 hown1
   go_wp2
   go_roundw
   case rel=>exact ⟨pos+d,acc++[(r:Int)],by go_num,HO.out,hb',HX.out⟩
   case measure=>simp [intOf];omega
  ·have hacc:=hG.stop hp
   have hle:=hG.2.2
   have HA:=Lib.hid hacc
   clear hacc hG
   go_wp2
   go_ret
   exact ⟨_,rfl,HA.out▸hown,hb⟩
theorem runes_any (s:ByteArray) (w:World) (hs:s.size≤1000000) :
  Calls Tryz.prog 144 #[.string s] w (RunesLeft s w):=by
 unfold RunesLeft
 obtain ⟨i0,hi,hz0,hz1,hz2⟩:=info_parts infoInt
 have hcnt:=Lib.runeCount_le s
 have hrc:=fun W=>Tryz.utf8_RuneCountInString s W (by omega)
 obtain ⟨C,hC⟩:∃ C,Lib.runeCount s=C:=⟨_,rfl⟩
 rw [hC] at hcnt
 simp only [hC] at hrc
 clear hC
 have HRC:=Lib.hid hrc
 clear hrc
 go_enter Tryz.func144,Tryz.ntmps144
 go_wp2_with fail
 refine (HRC.out _).mono ?_
 rintro e w' ⟨rfl,pos0,hw'⟩
 have hbw1:Below w.heap.size w w':=by rw [hw'];exact (Below.refl _ _).alloc (Nat.le_refl _) _
 clear hw'
 have hz1':=hbw1.size
 go_wp2_with (at_make;refine wpList_make_own _ rfl _ _ 73 rfl w.heap.size 3 i0 (.int .i64 0) 1 Tryz.underlying73 hi hz0 hz1 .i64 .i64 _ C rfl rfl rfl (by rw [hz2];omega) (by unfold maxLen;omega) hz1' ?_;intro w0 hown0 hgrow0)
 have hbw0:Below w.heap.size w w0:=hbw1.grown hgrow0 hz1' (fun k h=>by cases h)
 have hz0':=hbw0.size
 clear hgrow0 hbw1 hz1' hcnt
 have hit0:=World.iter_heap w0 s 0
 have hown1:(w0.iter s 0).ownsRow w.heap.size 3 1 _ 0 []:=hown0.alloc _
 have hbw2:Below w.heap.size w (w0.iter s 0):=hbw0.alloc hz0' _
 clear hown0
 go_loopw [3] (fun v wr=>∃ (pos:Nat) (acc:List Int),wr.heap[w0.heap.size]? = some (.stringIter s pos)∧OwnInts w.heap.size wr v acc∧Below w.heap.size w wr∧Gath s acc pos) (fun _ wr=>s.size - wr.iterPos w0.heap.size)
 case atStart=>exact ⟨0,[],hit0,hown1,hbw2,Gath.start s⟩
 case round =>
  obtain ⟨pos,acc,hit,hown,hb,hG⟩:=hrel
  clear hit0 hown1 hbw2 hbw0
  have hsz:=hb.size
  have hpos0:=iterPos_of hit
  by_cases hp:pos<s.size
  ·have hnx:∀ ty,(Instr.next (.pointer (some ⟨w0.heap.size,0,none⟩)) true ty).run Tryz.prog wr=_:=fun ty=>Lib.run_next_any_at wr w0.heap.size s pos ty hit hp
   have hle:=decode_le s pos
   have hnext:=hG.next hp
   have hw:=(runes_at s pos hp).2
   have hlen:=hG.2.1
   have hit2:=Lib.iterAt_heap wr w0.heap.size s pos (pos+(Utf8.decode s pos).2) hit
   have hb2:=Lib.below_iterAt hb (k:=w0.heap.size) hz0' s (pos+(Utf8.decode s pos).2)
   have hown2:=own_iter hown hit (pos+(Utf8.decode s pos).2)
   obtain ⟨W1,hW1⟩:∃ W1,W1=wr.iterAt w0.heap.size s (pos+(Utf8.decode s pos).2):=⟨_,rfl⟩
   rw [← hW1] at hnx hit2 hb2 hown2
   obtain ⟨r,hr⟩:∃ r,(Utf8.decode s pos).1=r:=⟨_,rfl⟩
   obtain ⟨d,hd⟩:∃ d,(Utf8.decode s pos).2=d:=⟨_,rfl⟩
   rw [hr,hd] at hnext
   rw [hd] at hw hit2
   rw [hr] at hle
   simp only [hr] at hnx
   clear hr hd hW1 hit hown hb hG
   obtain ⟨hw1,hw2⟩:=hw
   have hlt2:=lt_of_block hit2
   have hsz2:=hb2.size
   have hne:=own_not_iter hown2 hit2
   have hlo:=fun j hj=>(hown2.lt j hj).1
   have HX:=Lib.hid hnext
   have HL:=Lib.hid hlo
   have HN:=Lib.hid hne
   have HT:=Lib.hid hit2
   have HP:=Lib.hid hpos0
   clear hnext hlo hne hit2 hpos0
   go_wp2_with (at_builtin;refine wpList_append_own _ rfl _ _ 73 rfl w.heap.size 3 i0 (.int .i64 0) 1 8 Tryz.underlying73 hi hz0 hz1 hz2 rfl (by decide) _ _ _ rfl (hown2.alloc _) ⟨W1.heap.size,0,none⟩ 1 1 [.int .i64 (r:Int)] rfl rfl (cell_new1 _ _ _) (int_one _ _) (by unfold maxLen;omega) (by omega) (by simp;omega) ?_)
   intro v1 w1 hown3 hgrow hnil1
   have hb':=below_app hb2 hsz2 HL.out hgrow
   have hit3:w1.heap[w0.heap.size]? = some (.stringIter s (pos+d)):=by
    rw [hgrow.block w0.heap.size (by simp;omega) HN.out,Below.heap_alloc _ _ _ hlt2];exact HT.out
   have HO:=Lib.hid (own_snoc hown3)
   have HT3:=Lib.hid hit3
   clear hown3 hgrow hnil1 hown2 hit3
   go_wp2
   go_roundw
   case rel=>exact ⟨pos+d,acc++[(r:Int)],HT3.out,HO.out,hb',HX.out⟩
   case measure=>rw [iterPos_of HT3.out,HP.out];omega
  ·have hacc:=hG.stop hp
   have hnx:∀ ty,(Instr.next (.pointer (some ⟨w0.heap.size,0,none⟩)) true ty).run Tryz.prog wr=_:=fun ty=>Lib.run_next_end_at wr w0.heap.size s pos ty hit hp
   have HA:=Lib.hid hacc
   have HP:=Lib.hid hpos0
   clear hacc hG hpos0
   go_wp2
   go_ret
   exact ⟨_,rfl,HA.out▸hown,hb⟩
end Go.Proofs.YtidhgicajlaafaaGreat.UM
