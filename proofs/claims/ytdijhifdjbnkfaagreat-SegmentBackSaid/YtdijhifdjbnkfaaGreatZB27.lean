import Derived.Test.YtdijhifdjbnkfaaGreatProg
import Derived.Test.YtdijhifdjbnkfaaGreatZB4
import Derived.WalkKit
import Derived.Below
import Derived.Lib.Hide
import Derived.LoopTactic
import Derived.Outline
import Derived.Shelf.Unicode.DecodeSlow
import Derived.Test.YtdijhifdjbnkfaaGreatZB8
import Derived.OwnWalk
import Derived.Lib.BufferRead
import Derived.Test.YtdijhifdjbnkfaaGreatZB7
set_option linter.unusedVariables false
set_option linter.unusedSimpArgs false
namespace Go.Proofs.YtdijhifdjbnkfaaGreat.UM
open Go.RowKit
def RowB (j:Nat) (m:Int):Prop:=0≤m∧((j=0∧m≤31)∨(j=1∧m≤2047)∨(j=2∧m≤131071)∨(j=3∧m≤8388607))
theorem RowB.next {j:Nat} {m:Int} (h:RowB j m) (hj:j<3) (x:Nat):RowB (j+1) (m*64+(x%64:Nat)):=by unfold RowB at *;omega
end Go.Proofs.YtdijhifdjbnkfaaGreat.UM
namespace Go.Proofs.YtdijhifdjbnkfaaGreat.UM
open Go.RowKit
end Go.Proofs.YtdijhifdjbnkfaaGreat.UM
namespace Go.Proofs.YtdijhifdjbnkfaaGreat.UM
open Go.RowKit
def IntRow (w:World) (v:Value) (zs:List Int):Prop :=
 ∃ (p:Option Addr) (cap:Nat),v=.slice p zs.length cap∧(zs=[]∨∃ b off,p=some ⟨b,off,none⟩∧b<w.heap.size∧∀ i,i<zs.length→w.cell? ⟨b,off+i,none⟩=some (.int .i64 (zs.getD i 0)))
theorem IntRow.below {w w':World} {v:Value} {zs:List Int} (h:IntRow w v zs) (hb:Below w.heap.size w w'):IntRow w' v zs:=by
 obtain ⟨p,cap,hv,h⟩:=h
 refine ⟨p,cap,hv,?_⟩
 rcases h with h | ⟨b,off,hp,hlt,hc⟩
 ·exact .inl h
 ·exact .inr ⟨b,off,hp,Nat.lt_of_lt_of_le hlt hb.size,fun i hi=>by rw [hb.cell (p:=⟨b,off+i,none⟩) hlt];exact hc i hi⟩
theorem enc_next (zs:List Int) (k:Nat) (hk:k<zs.length):encL (zs.take (k+1))=encL (zs.take k)++Lib.encodeRune (zs.getD k 0):=by
 rw [List.take_succ_eq_append_getElem hk,encL_append]
 congr 1
 rw [encL_cons,encL_nil,List.append_nil]
 simp [List.getD,hk]
theorem own_next {zs:List Int} {k:Nat} (hk:k<zs.length) {B:Nat} {v':Value} {w':World} {r:Int} (hr:Lib.runeCells r=Lib.runeCells (zs.getD k 0))
  (h:w'.ownsRow B 5 1 v' ((encL (zs.take k)).length+(Lib.runeCells r).length) (Lib.byteCells (encL (zs.take k))++Lib.runeCells r)):w'.ownsRow B 5 1 v' (encL (zs.take (k+1))).length (Lib.byteCells (encL (zs.take (k+1)))):=by
 rw [enc_next zs k hk,List.length_append,← Lib.runeCells_length,← hr]
 have e:Lib.byteCells (encL (zs.take k)++Lib.encodeRune (zs.getD k 0))=Lib.byteCells (encL (zs.take k))++Lib.runeCells r:=by
  rw [hr,← Lib.byteCells_encodeRune];simp [Lib.byteCells]
 rw [e]
 exact h
theorem enc_room (zs:List Int) (k:Nat) (hn:zs.length≤1000000):(encL (zs.take k)).length≤4000000:=by
 have:=encL_length (zs.take k)
 have h2:(zs.take k).length≤zs.length:=List.length_take_le' _ _
 omega
theorem conv_own {w:World} {B:Nat} {v:Value} {l:List UInt8} (h:w.ownsRow B 5 1 v l.length (Lib.byteCells l)):(convert 23 9 v).run Tryz.prog w=.ok (.string ⟨l.toArray⟩) w:=by
 rcases h.2 with ⟨rfl,h0⟩ | ⟨g,cap,cur,rfl,hg,hh,hn,hm,hs,ht⟩
 ·have:l=[]:=List.eq_nil_of_length_eq_zero h0
  subst this
  exact Lib.run_convert_nil_bytes w 23 9 5 0 Tryz.underlying23 Tryz.underlying5 Tryz.underlying9
 ·refine run_convert_bytes_back w 23 9 5 _ cap l Tryz.underlying23 Tryz.underlying5 Tryz.underlying9 ?_
  rw [Nat.mul_one] at ht
  exact Lib.bytes_of_row hh ht
theorem below_app {B:Nat} {w wr w':World} {o:Obj} {v:Value} (hb:Below B w wr) (hB:B≤wr.heap.size) (hv:∀ k,v.ownBlock=some k→B≤k) (hg:(wr.alloc o).grownBy w' v.ownBlock):Below B w w' :=
 (hb.alloc hB o).grown hg (by simp;omega) hv
set_option maxRecDepth 100000 in
set_option maxHeartbeats 1000000 in
theorem enc_any (v:Value) (zs:List Int) (w:World) (hr:IntRow w v zs) (hn:zs.length≤1000000) :
  Calls Tryz.prog 285 #[v] w fun e w'=>e=.returned (.string ⟨(encL zs).toArray⟩)∧Below w.heap.size w w':=by
 obtain ⟨p,cap,rfl,hrow⟩:=hr
 have Hrow:=Lib.hid hrow
 clear hrow
 obtain ⟨i0,hi,hz0,hz1,hz2⟩:=info_parts infoByte
 go_enter Tryz.func285,Tryz.ntmps285
 go_wp2_with (at_make;refine wpList_make_own _ rfl _ _ 23 rfl w.heap.size 5 i0 (.int .u8 0) 1 Tryz.underlying23 hi hz0 hz1 .i64 .i64 _ zs.length rfl rfl rfl (by rw [hz2];omega) (by unfold maxLen;omega) (Nat.le_refl _) ?_;intro w0 hown0 hgrow0)
 have hb0:Below w.heap.size w w0:=(Below.refl _ _).grown hgrow0 (Nat.le_refl _) (fun k h=>by cases h)
 go_loopw [3,11] (fun v i wr=>∃ k:Nat,k≤zs.length∧i=.int .i64 k∧wr.ownsRow w.heap.size 5 1 v (encL (zs.take k)).length (Lib.byteCells (encL (zs.take k)))∧Below w.heap.size w wr) (fun _ i _=>zs.length - (intOf i).toNat)
 case atStart=>exact ⟨0,Nat.zero_le _,rfl,hown0,hb0⟩
 case round =>
  obtain ⟨k,hk,rfl,hown,hb⟩:=hrel
  clear hown0 hgrow0 hb0
  by_cases hlt:k<zs.length
  ·rcases Hrow.out with h | ⟨b,off,rfl,hbl,hc⟩
   ·subst h;exact absurd hlt (by simp)
   have hsz:=hb.size
   have hcell:=hc k hlt
   rw [← hb.cell (p:=⟨b,off+k,none⟩) hbl] at hcell
   have hroom:=enc_room zs k hn
   have hbd:=enco_bd (zs.getD k 0)
   have hput2:=Tryz.utf8_AppendRune_plain w.heap.size _ _ _ (enco (zs.getD k 0)) hbd.1 hbd.2 _ hown (by omega) hsz
   have hlo:=fun j hj=>(hown.lt j hj).1
   have hnext:=fun W' V' h=>own_next (B:=w.heap.size) (w':=W') (v':=V') hlt (enco_cells _) h
   have henc:=fun W=>encodable_any (zs.getD k 0) W
   obtain ⟨r,hr⟩:∃ r,zs.getD k 0=r:=⟨_,rfl⟩
   rw [hr] at hcell hput2
   simp only [hr] at hnext henc
   obtain ⟨q,hq⟩:∃ q,enco r=q:=⟨_,rfl⟩
   rw [hq] at hput2
   simp only [hq] at hnext henc
   obtain ⟨L,hL⟩:∃ L,encL (zs.take k)=L:=⟨_,rfl⟩
   simp only [hL] at hput2 hnext
   have HP:=Lib.hid hput2
   have HN:=Lib.hid hnext
   have HL:=Lib.hid hlo
   have HE:=Lib.hid henc
   clear hput2 hnext hr hL hc hown hlo henc hbd hq
   go_wp2_with fail
   refine (HE.out _).mono ?_
   rintro e w' ⟨rfl,rfl⟩
   go_wp2_with fail
   refine HP.out.mono ?_
   rintro e w' ⟨v',rfl,hown',o,hg⟩
   have hb':=below_app hb hsz HL.out hg
   have HO:=Lib.hid hown'
   have HG:=Lib.hid hg
   clear hown' hg
   go_wp2
   go_roundw
   case rel=>exact ⟨k+1,by omega,by go_num,HN.out _ _ HO.out,hb'⟩
   case measure=>simp [intOf];omega
  ·obtain rfl:k=zs.length:=by omega
   rw [List.take_length] at hown
   have hconv:=conv_own hown
   go_wp2
   go_ret
   exact ⟨rfl,hb⟩
end Go.Proofs.YtdijhifdjbnkfaaGreat.UM
namespace Go.Proofs.YtdijhifdjbnkfaaGreat.UM
open Go.RowKit
end Go.Proofs.YtdijhifdjbnkfaaGreat.UM
namespace Go.Proofs.YtdijhifdjbnkfaaGreat.GM
open Go Go.Proofs.YtdijhifdjbnkfaaGreat.VM
open Go.Proofs.YtdijhifdjbnkfaaGreat.EM (Ev Fld sizeF bytesE bytesE_len checkE checkE_ok name_len)
open Go.Proofs.YtdijhifdjbnkfaaGreat.SM (Doc isS isS_at encS rangeB oneB oneB_at headsB headB blocksN isS_iff)
def fewF (fs:List Fld):List Fld:=(fs.take 8).map fun f=>(f.1,f.2.take 300)
def fewD (d:Doc):Doc:=(d.1,(d.2.1,fewF d.2.2))
def few40 (l:List Doc):List Doc:=(l.take 40).map fewD
def fewG (l:List Doc):List Doc:=few40 (l.take 25)
theorem fewG_len (l:List Doc):(fewG l).length≤25:=by unfold fewG few40;simp;omega
theorem fewG_fit {l:List Doc} (h:SM.FitS l):SM.FitS (fewG l):=fun d hd=>by
 unfold fewG few40 at hd
 obtain ⟨e,he,rfl⟩:=List.mem_map.1 hd
 exact h e (List.mem_of_mem_take (List.mem_of_mem_take he))
theorem fewF_size:∀ {fs:List Fld},(∀ f∈fs,f.1.length≤32∧f.2.length≤300)→sizeF fs≤332*fs.length
 | [],_=>by simp [sizeF]
 | f::r,h=>by
   have h1:=h f (by simp)
   have h2:=fewF_size (fs:=r) fun g hg=>h g (List.mem_cons_of_mem _ hg)
   rw [sizeF_cons,List.length_cons]
   omega
theorem rangeB_most {l:List Doc} {m:Nat} (h:∀ k (hk:k<l.length),(oneB l k).length≤m):(rangeB l 0 l.length).length≤m*l.length:=by
 unfold rangeB
 have:=flatMap_le (l:=List.range' 0 (l.length - 0)) (f:=oneB l) (m:=m) fun k hk=>h k (by rw [List.mem_range'_1] at hk;omega)
 rw [List.length_range'] at this
 simpa using this
theorem headsB_most (l:List Doc) (c:Nat):(headsB l 0 c).length≤20*c:=by
 unfold headsB
 have:=flatMap_le (l:=List.range' 0 c) (f:=headB l) (m:=20) fun k _=>by
  have b1:=(bytesL_length (SM.lastS l (SM.endS l k)).toNat).2
  have b2:=(bytesL_length (rangeB l (16*k) (SM.endS l k)).length).2
  unfold headB
  rw [List.length_append]
  omega
 rw [List.length_range'] at this
 exact this
theorem fewG_small (l:List Doc):Small (fewG l):=fun hs=>by
 have hl:=fewG_len l
 have hone:∀ k (hk:k<(fewG l).length),(oneB (fewG l) k).length≤2846:=fun k hk=>by
  obtain ⟨h1,h2⟩:=checkE_ok.1 (isS_at hs hk).2.2
  have hm:(fewG l)[k]∈fewG l:=List.getElem_mem hk
  unfold fewG few40 at hm
  obtain ⟨e,he,heq⟩:=List.mem_map.1 hm
  change fewD e=(fewG l)[k] at heq
  rw [← heq] at h1 h2
  have h8:(fewF e.2.2).length≤8:=by unfold fewF;rw [List.length_map,List.length_take];omega
  have hsz:=fewF_size (fs:=fewF e.2.2) fun f hf=>by
   refine ⟨name_len (h2 f hf).1,?_⟩
   unfold fewF at hf
   obtain ⟨g,_,rfl⟩:=List.mem_map.1 hf
   show (g.2.take 300).length≤300
   rw [List.length_take];omega
  have hb:=(bytesE_len (fewD e).2).1
  have e2:(fewD e).2.2=fewF e.2.2:=rfl
  rw [e2] at hb
  have b1:=(bytesL_length (((fewG l)[k]).1 - SM.lastS (fewG l) k - 1).toNat).2
  rw [oneB_at hk,List.length_append,← heq] at *
  omega
 have h1:=rangeB_most hone
 have h2:=headsB_most (fewG l) (blocksN (fewG l).length)
 have h3:=(bytesL_length (fewG l).length).2
 have h4:blocksN (fewG l).length≤2:=by unfold blocksN;omega
 unfold SM.encS
 simp only [List.length_append]
 omega
end Go.Proofs.YtdijhifdjbnkfaaGreat.GM
