/-
  
-/
import Derived.Test.YtdijhifdjbnkfaaGreatZA14
import Derived.Test.YtdijhifdjbnkfaaGreatZA20
import Derived.Test.YtdijhifdjbnkfaaGreatZA21
import Derived.Test.YtdijhifdjbnkfaaGreatZA12
import Derived.Test.YtdijhifdjbnkfaaGreatZA19
import Derived.Test.YtdijhifdjbnkfaaGreatZA18
set_option linter.unusedSimpArgs false
set_option linter.unusedVariables false
namespace Go.Proofs.YtdijhifdjbnkfaaGreat.DT
open Go Go.RowKit Go.Proofs.YtdijhifdjbnkfaaGreat.MM Go.Proofs.YtdijhifdjbnkfaaGreat.DM Go.Proofs.YtdijhifdjbnkfaaGreat.VM Go.Proofs.YtdijhifdjbnkfaaGreat.GB
set_option maxRecDepth 100000 in
set_option maxHeartbeats 1000000 in
theorem appnum_any (v:Value) (l:List UInt8) (n:Int) (w:World) (h0:0≤n) (h1:n≤9223372036854775807) (hown:OwnB 0 w v l) (hlen:l.length≤1000000000000) :
  Calls Tryz.prog 198 #[v,.int .i64 n] w (AppL (l++bytesL n.toNat) v w):=by
 obtain ⟨m,rfl⟩:=Int.eq_ofNat_of_zero_le h0
 rw [Int.toNat_natCast]
 have hput:=VP.put_any (.slice none 0 0) [] m w (by omega) (BRow.nil_ w) (by simp)
 rw [List.nil_append] at hput
 have hbl:=bytesL_length m
 have hne:=bytesL_ne m
 obtain ⟨M,hM⟩:∃ M,bytesL m=M:=⟨_,rfl⟩
 rw [hM] at hput hbl hne ⊢
 have HP:=Lib.hid hput
 have HO:=Lib.hid hown
 have HNE:=Lib.hid hne
 have hw:IntKind.u64.wrap (m:Int)=(m:Int):=by rw [IntKind.wrap_u64];omega
 obtain ⟨p,cap,rfl,_⟩:=(OwnB.brow hown).shape
 clear hput hown hM hne
 go_enter Tryz.func198,Tryz.ntmps198
 go_wp2_with fail
 refine HP.out.mono ?_
 rintro e w1 ⟨v1,rfl,ho1,hb1⟩
 have HO1:=Lib.hid (HO.out.keep hb1)
 have HR1:=Lib.hid (OwnB.brow ho1)
 have HB1:=Lib.hid hb1
 have HLT:=Lib.hid (own_lt HO.out)
 obtain ⟨p1,c1,rfl,_⟩:=(OwnB.brow ho1).shape
 clear ho1 hb1 HP
 go_wp2_with (at_builtin;refine wpList_append_grown rfl _ _ rfl _ l rfl HO1.out _ M rfl HR1.out HNE.out (by omega) ?_)
 intro v2 w2 ho2 hg2
 have HO2:=Lib.hid ho2
 have HG2:=Lib.hid (hg2.of_below HB1.out HLT.out)
 clear ho2 hg2
 go_wp2_with fail
 go_ret
 exact ⟨_,rfl,HO2.out,HG2.out⟩
def Beside (B q:Nat) (w W:World) (v:Value) (l:List UInt8):Prop:=OwnB B W v l∧Below B w W∧B≤W.heap.size∧q<W.heap.size∧∀ g,v.ownBlock=some g→g≠q
theorem Beside.grown {B q:Nat} {w W W':World} {v v':Value} {l m:List UInt8} (h:Beside B q w W v l) (ho:OwnB 0 W' v' m) (hg:Grown W W' v v'):Beside B q w W' v' m∧W'.heap[q]? = W.heap[q]? := by
 obtain ⟨h1,h2,h3,h4,h5⟩:=h
 have hs:=hg.1.size
 have hlo:∀ k,v.ownBlock=some k→B≤k:=fun k hk=>(World.ownsRow.lt h1 k hk).1
 refine ⟨⟨OwnB.from ho fun k hk => ?_,h2.trans (hg.kep.below h3 fun k hk e=>by have:=hlo k e;omega),by omega,by omega,fun g hgv => ?_⟩,hg.1.block q h4 fun e=>h5 q e.symm rfl⟩
 ·rcases hg.2 k hk with e | e
  ·exact hlo k e
  ·omega
 ·rcases hg.2 g hgv with e | e
  ·exact h5 g e
  ·omega
theorem Beside.below {B q:Nat} {w W W':World} {v:Value} {l:List UInt8} (h:Beside B q w W v l) (hb:Below W.heap.size W W'):Beside B q w W' v l:=by
 obtain ⟨h1,h2,h3,h4,h5⟩:=h
 have hs:=hb.size
 exact ⟨h1.keep hb,h2.trans (hb.mono h3),by omega,by omega,h5⟩
def numsB (zs:List Int):List UInt8:=zs.flatMap fun z=>bytesL z.toNat
theorem numsB_next {zs:List Int} {j:Nat} (h:j<zs.length):numsB (zs.take (j+1))=numsB (zs.take j)++bytesL zs[j].toNat:=by
 unfold numsB
 rw [List.take_succ_eq_append_getElem h,List.flatMap_append]
 simp
theorem ent_nums (a:List UInt8) (x:Ent):entB a x=bytesL (sharedL a x.1)++textL (x.1.drop (sharedL a x.1))++numsB [x.2.1,x.2.2.1,x.2.2.2]:=by
 unfold entB numsB
 simp
theorem block_len_w:∀ (l:List Ent) (a:List UInt8),(∀ x∈l,okW x)→(blockB a l).length≤115*l.length
 | [],_,_=>by simp [blockB]
 | x::r,a,h=>by
   have hx:=h x (by simp)
   have h2:=block_len_w r x.1 fun y hy=>h y (by simp [hy])
   have b1:=bytesL_length (sharedL a x.1)
   have b2:=bytesL_length x.2.1.toNat
   have b3:=bytesL_length x.2.2.1.toNat
   have b4:=bytesL_length x.2.2.2.toNat
   have b5:=(EM.textL_len (x.1.drop (sharedL a x.1))).1
   rw [List.length_drop] at b5
   have:=hx.1
   rw [blockB,List.length_append,List.length_cons]
   unfold entB
   simp only [List.length_append]
   omega
set_option maxRecDepth 100000 in
set_option maxHeartbeats 1000000 in
theorem appblk_any (v u:Value) (L:List UInt8) (c:List Ent) (w:World) (hown:OwnB 0 w v L) (hu:RAny entC w u c) (hc:∀ x∈c,okW x) (hn:c.length≤16) (hlen:L.length≤1000000000) :
  Calls Tryz.prog 134 #[v,u] w (AppL (L++blkB c) v w):=by
 obtain ⟨p,cap,rfl,hlc,hcm,_⟩:=hu.shape
 unfold maxLen at hcm
 have HU:=Lib.hid hu
 have HX:=Lib.hid hc
 have HV:=Lib.hid hown
 have HEND:Hid (blockB [] (c.take c.length)=blockB [] c):=Lib.hid (by rw [List.take_length])
 have HLB:=Lib.hid (fun i=>block_len_w (c.take i) [] (fun x h=>hc x (List.mem_of_mem_take h)))
 have HO0:Hid (OwnB w.heap.size w (.slice none 0 0) (blockB [] (c.take 0))):=Lib.hid (World.ownsRow_nil _ _ _ _)
 clear hu hc hown
 go_enter Tryz.func134,Tryz.ntmps134
 go_wp2_with fail
 go_loopw [5,6,14] (fun bv av iv wr=>∃ (i:Nat) (A:List UInt8),i≤c.length∧iv=.int .i64 i∧av=.string ⟨A.toArray⟩∧Hid (A=headT c i)∧A.length≤65∧Hid (OwnB w.heap.size wr bv (blockB [] (c.take i)))∧Hid (Below w.heap.size w wr)) (fun _ _ iv _=>c.length - (intOf iv).toNat)
 case atStart=>exact ⟨0,[],by omega,rfl,rfl,Lib.hid rfl,by simp,HO0,Lib.hid (Below.refl _ _)⟩
 case round =>
  obtain ⟨i,A,hi,rfl,rfl,HA,hA,HO,HB⟩:=hrel
  clear HO0
  by_cases hlt:i<c.length
  ·have q1:decide ((i:Int)<(c.length:Int))=true:=by rw [decide_eq_true_eq];omega
   have q2:decide (i<c.length)=true:=by rw [decide_eq_true_eq];omega
   have q3:(i:Int)<(c.length:Int):=by omega
   obtain ⟨b,off,rfl,hbl,_,c1,c2,c3,c4⟩:=ent_at (RAny.below HU.out HB.out) hlt
   have hnx:=block_next hlt
   have hah:=headT_next hlt
   have hok:=HX.out c[i] (List.getElem_mem hlt)
   have hll:=HLB.out (i+1)
   rw [← HA.out] at hnx
   rw [List.length_take] at hll
   generalize c[i]=X at *
   rw [ent_nums] at hnx
   obtain ⟨X1,z1,z2,z3⟩:=X
   dsimp only at *
   obtain ⟨ho1,ho2,ho3,ho4⟩:=hok
   dsimp only at ho1 ho2 ho3 ho4
   have hsl:=sharedL_le A X1
   have hsz1:=str_sz X1
   have hsh:=fun W=>shared_any A X1 W (by omega) (by omega)
   obtain ⟨k,hk⟩:∃ k,sharedL A X1=k:=⟨_,rfl⟩
   rw [hk] at hnx hsl hsh
   obtain ⟨L0,hL0⟩:∃ L,blockB [] (c.take i)=L:=⟨_,rfl⟩
   rw [hL0] at hnx HO
   have HN:Hid (blockB [] (c.take (i+1))=L0++bytesL k++textL (X1.drop k)++numsB [z1,z2,z3]):=Lib.hid (by rw [hnx];simp only [List.append_assoc])
   have HLN:Hid ((L0++bytesL k++textL (X1.drop k)++numsB [z1,z2,z3]).length≤2000):=Lib.hid (by rw [← HN.out];omega)
   have HAH:=Lib.hid hah
   have HSH:=Lib.hid hsh
   have hpart:=part_drop X1 k
   have HPT:=Lib.hid (fun W=>VP.puttext_any (.slice none 0 0) [] ⟨(X1.drop k).toArray⟩ W (BRow.nil_ W) (by rw [str_sz,List.length_drop];simp;omega))
   simp only [List.nil_append] at HPT
   have hkx:(k:Int)≤(X1.length:Int):=by omega
   have hki:0≤(k:Int):=by omega
   obtain ⟨q,hq⟩:∃ q,wr.heap.size=q:=⟨_,rfl⟩
   obtain ⟨pb,cb,rfl,_⟩:=(OwnB.brow HO.out).shape
   obtain ⟨w0,hw0⟩:∃ W,wr.alloc (.cells #[.string ⟨X1.toArray⟩,.int .i64 z1,.int .i64 z2,.int .i64 z3] 102)=W:=⟨_,rfl⟩
   have hb0:Below wr.heap.size wr w0:=by rw [← hw0];exact (Below.refl _ _).alloc (Nat.le_refl _) _
   have BS0:Hid (Beside w.heap.size q w w0 (.slice pb L0.length cb) L0):=Lib.hid (by
    have h1:Beside w.heap.size q w w0 (.slice pb L0.length cb) L0:=⟨HO.out.keep hb0,HB.out.trans (hb0.mono HB.out.size),by have:=HB.out.size;have:=hb0.size;omega,by rw [← hw0,← hq];simp,fun g hg=>by have:=(World.ownsRow.lt HO.out g hg).2;omega⟩
    exact h1)
   have T0:Hid (Four w0 q 102 (.string ⟨X1.toArray⟩) (.int .i64 z1) (.int .i64 z2) (.int .i64 z3)):=Lib.hid (by rw [← hw0,← hq];exact four_new wr 102 _ _ _ _)
   have HW0:=Lib.hid hw0
   clear hnx hah hll hk hsh hL0 hw0 hb0 HO HB HLB
   go_wp2_with fail
   rw [HW0.out]
   refine (HSH.out _).mono ?_
   rintro e w1 ⟨rfl,m,hm⟩
   have hb1:Below w0.heap.size w0 w1:=by rw [hm];exact MM.below_drewN (Below.refl _ _) m
   have BS1:=Lib.hid (BS0.out.below hb1)
   have T1:=Lib.hid (T0.out.below hb1 T0.out.lt)
   have HAN:=Lib.hid (appnum_any (.slice pb L0.length cb) L0 (k:Int) w1 hki (by omega) (OwnB.zero BS1.out.1) (by have:=HLN.out;simp only [List.length_append] at this;omega))
   rw [Int.toNat_natCast] at HAN
   clear hm hb1 BS0 T0 HSH
   go_wp2_with fail
   refine HAN.out.mono ?_
   rintro e w2 ⟨v2,rfl,ho2,hg2⟩
   obtain ⟨hbs2,hq2⟩:=BS1.out.grown ho2 hg2
   have BS2:=Lib.hid hbs2
   have t2:Four w2 q 102 (.string ⟨X1.toArray⟩) (.int .i64 z1) (.int .i64 z2) (.int .i64 z3):=hq2.trans T1.out
   have T2:=Lib.hid t2
   obtain ⟨f0,f1,f2,f3⟩:=t2.cells
   obtain ⟨p2,c2,rfl,_⟩:=(OwnB.brow ho2).shape
   clear ho2 hg2 hbs2 hq2 t2 BS1 T1 HAN
   have HN1:=HN
   obtain ⟨L1,hL1⟩:∃ l,L0++bytesL k=l:=⟨_,rfl⟩
   rw [hL1] at BS2 HN1 HLN ⊢
   have hcap:True:=trivial
   have HP2:=Lib.hid (HPT.out w2)
   obtain ⟨TX,hTX⟩:∃ t,textL (X1.drop k)=t:=⟨_,rfl⟩
   have HTN:Hid (TX≠[]):=Lib.hid (by rw [← hTX];exact textL_ne _)
   rw [hTX] at HP2 HN1 HLN
   clear hL1 hTX HPT HN
   go_wp2_with fail
   refine HP2.out.mono ?_
   rintro e w3 ⟨v3,rfl,ho3,hb3⟩
   have BS3:=Lib.hid (BS2.out.below hb3)
   have T3:=Lib.hid (T2.out.below hb3 T2.out.lt)
   have HR3:=Lib.hid (OwnB.brow ho3)
   have HL1:Hid (L1.length+TX.length≤2000):=Lib.hid (by have:=HLN.out;simp only [List.length_append] at this;omega)
   obtain ⟨p3,c3,rfl,_⟩:=(OwnB.brow ho3).shape
   clear ho3 hb3 BS2 T2 HP2 f0 f1 f2 f3
   go_wp2_with (at_builtin;go_loud (refine wpList_append_grown rfl _ _ rfl _ L1 rfl (OwnB.zero BS3.out.1) _ TX rfl HR3.out HTN.out (by have:=HL1.out;omega) ?_;intro v4 w4 ho4 hg4;have hbs:=BS3.out.grown ho4 hg4;have BS4:=Lib.hid hbs.1;have T4:Hid (Four w4 q 102 (.string ⟨X1.toArray⟩) (.int .i64 z1) (.int .i64 z2) (.int .i64 z3)):=Lib.hid (hbs.2.trans T3.out);clear hbs ho4 hg4 BS3 T3;obtain ⟨f0,f1,f2,f3⟩:=T4.out.cells))
   obtain ⟨r,hr⟩:∃ r,w4.heap.size=r:=⟨_,rfl⟩
   obtain ⟨w5,hw5⟩:∃ W,w4.alloc (.cells #[.int .i64 z1,.int .i64 z2,.int .i64 z3] 3)=W:=⟨_,rfl⟩
   rw [hw5]
   have hb5:Below w4.heap.size w4 w5:=by rw [← hw5];exact (Below.refl _ _).alloc (Nat.le_refl _) _
   obtain ⟨zs,hzs⟩:∃ zs:List Int,[z1,z2,z3]=zs:=⟨_,rfl⟩
   have hz3:zs.length=3:=by rw [← hzs];rfl
   have HZ:Hid (w5.heap[r]? = some (.cells (zs.map fun z=>Value.int .i64 z).toArray 3 (0,0))):=Lib.hid (by rw [← hzs,← hw5,← hr];exact heap_alloc_new w4 _)
   have HZB:Hid (∀ z∈zs,0≤z∧z≤67108864):=Lib.hid (by rw [← hzs];intro z hz;simp only [List.mem_cons,List.not_mem_nil,or_false] at hz;rcases hz with rfl | rfl | rfl<;>assumption)
   rw [hzs] at HN1 HLN
   have HZ3:=Lib.hid hz3
   have BS5:Hid (Beside w.heap.size q w w5 v4 (L1++TX++numsB (zs.take 0))):=Lib.hid (by have:=BS4.out.below hb5;simpa [numsB] using this)
   have T5:=Lib.hid (T4.out.below hb5 T4.out.lt)
   have HR5:Hid (∀ g,v4.ownBlock=some g→g≠r):=Lib.hid (fun g hg=>by have:=(World.ownsRow.lt BS4.out.1 g hg).2;omega)
   have HRS:Hid (r<w5.heap.size):=Lib.hid (by rw [← hw5,← hr];simp)
   have HNB:Hid (∀ j,(L1++TX++numsB (zs.take j)).length≤3000):=Lib.hid (fun j=>by
    have h1:=HLN.out
    have h2:(numsB (zs.take j)).length≤(numsB zs).length:=by
     unfold numsB
     conv=>rhs;rw [← List.take_append_drop j zs]
     rw [List.flatMap_append,List.length_append]
     omega
    simp only [List.length_append] at h1 ⊢
    omega)
   rw [hr]
   clear hw5 hb5 hzs hz3 hr BS4 T4 HR3 HL1 HTN HLN f0 f1 f2 f3 c1 c4
   go_loopw [5,40] (fun bv jv W=>∃ (j:Nat),j≤3∧jv=.int .i64 (j:Int)∧Hid (Beside w.heap.size q w W bv (L1++TX++numsB (zs.take j)))∧Hid (Four W q 102 (.string ⟨X1.toArray⟩) (.int .i64 z1) (.int .i64 z2) (.int .i64 z3))∧Hid (W.heap[r]? = some (.cells (zs.map fun z=>Value.int .i64 z).toArray 3 (0,0)))∧Hid (∀ g,bv.ownBlock=some g→g≠r)∧Hid (r<W.heap.size)) (fun _ jv _=>3 - (intOf jv).toNat)
   case atStart=>exact ⟨0,by omega,rfl,BS5,T5,HZ,HR5,HRS⟩
   case round =>
    obtain ⟨j,hj,rfl,BS,TT,HC,HG,HS⟩:=hrel
    clear BS5 T5 HZ HR5 HRS
    by_cases hj3:j<3
    ·have j1:decide ((j:Int)<3)=true:=by rw [decide_eq_true_eq];omega
     have j2:decide (j<3)=true:=by rw [decide_eq_true_eq];omega
     have j3:(j:Int)<3:=by omega
     have hjz:j<zs.length:=by rw [HZ3.out];exact hj3
     have fz:wr.cell? ⟨r,j,none⟩=some (.int .i64 zs[j]):=by
      rw [cell_of_row wr r j _ _ _ HC.out]
      simp [hjz]
     have hzb:=HZB.out zs[j] (List.getElem_mem hjz)
     have hnx:=numsB_next hjz
     generalize zs[j]=z at *
     have HA:=Lib.hid (appnum_any u5 (L1++TX++numsB (zs.take j)) z wr hzb.1 (by omega) (OwnB.zero BS.out.1) (by have:=HNB.out j;omega))
     have HNX:Hid (L1++TX++numsB (zs.take (j+1))=L1++TX++numsB (zs.take j)++bytesL z.toNat):=Lib.hid (by rw [hnx];simp only [List.append_assoc])
     have HJ:=Lib.hid hj3
     clear hnx hjz hzb hj3
     go_wp2_with fail
     refine HA.out.mono ?_
     rintro e w6 ⟨v6,rfl,ho6,hg6⟩
     rw [← HNX.out] at ho6
     obtain ⟨hbs,hq6⟩:=BS.out.grown ho6 hg6
     have BS6:=Lib.hid hbs
     have T6:Hid (Four w6 q 102 (.string ⟨X1.toArray⟩) (.int .i64 z1) (.int .i64 z2) (.int .i64 z3)):=Lib.hid (hq6.trans TT.out)
     have HC6:Hid (w6.heap[r]? = some (.cells (zs.map fun z=>Value.int .i64 z).toArray 3 (0,0))):=Lib.hid ((hg6.1.block r HS.out (fun e=>HG.out r e.symm rfl)).trans HC.out)
     have HG6:Hid (∀ g,v6.ownBlock=some g→g≠r):=Lib.hid (fun g hg=>by
      rcases hg6.2 g hg with e | e
      ·exact HG.out g e
      ·have:=HS.out;omega)
     have HS6:Hid (r<w6.heap.size):=Lib.hid (by have:=HS.out;have:=hg6.1.size;omega)
     clear hbs hq6 ho6 hg6 BS TT HC HG HS HA
     go_wp2_with fail
     have hj3:=HJ.out
     go_roundw
     case rel=>exact ⟨j+1,by omega,by go_num,BS6,T6,HC6,HG6,HS6⟩
     case measure=>simp [intOf];omega
    ·obtain rfl:j=3:=by omega
     have j1:decide (((3:Nat):Int)<3)=false:=by decide
     have j2:decide ((3:Nat)<3)=false:=by decide
     obtain ⟨f0,f1,f2,f3⟩:=TT.out.cells
     have hbs:=BS.out
     rw [List.take_of_length_le (by rw [HZ3.out];exact Nat.le_refl _),← HN1.out] at hbs
     have HO9:=Lib.hid hbs.1
     have HB9:=Lib.hid hbs.2.1
     clear hbs BS TT HC HG HS hj3
     go_wp2_with fail
     go_roundw
     case rel=>exact ⟨i+1,X1,by omega,by go_num,rfl,Lib.hid HAH.out.symm,ho1,HO9,HB9⟩
     case measure=>simp [intOf];omega
  ·obtain rfl:i=c.length:=by omega
   have q1:decide ((c.length:Int)<(c.length:Int))=false:=by simp
   have q2:decide (c.length<c.length)=false:=by simp
   have ho:=HO.out
   rw [HEND.out] at ho
   obtain ⟨C,hC⟩:∃ C,blockB [] c=C:=⟨_,rfl⟩
   have hCl:=HLB.out c.length
   rw [HEND.out,List.take_length] at hCl
   have hblk:blkB c=textL C:=by unfold blkB;rw [hC]
   rw [hC] at ho hCl
   have hs:=HB.out.size
   have hbrow:=OwnB.brow ho
   have hcv:=hbrow.conv
   obtain ⟨pb,cb,rfl,_⟩:=hbrow.shape
   have HPT:=VP.puttext_any (.slice none 0 0) [] ⟨C.toArray⟩ wr (BRow.nil_ wr) (by rw [str_sz];simp;omega)
   simp only [List.nil_append] at HPT
   have HP:=Lib.hid HPT
   obtain ⟨TX,hTX⟩:∃ t,textL C=t:=⟨_,rfl⟩
   have HEQ:Hid (blkB c=TX):=Lib.hid (hblk.trans hTX)
   have HTN:Hid (TX≠[]):=Lib.hid (by rw [← hTX];exact textL_ne _)
   have hTl:TX.length≤3000:=by
    rw [← hTX]
    have:=(EM.textL_len C).1
    omega
   rw [hTX] at HP
   have HLT:=Lib.hid (own_lt HV.out)
   have HV1:=Lib.hid (HV.out.keep HB.out)
   obtain ⟨pv,cv,rfl,_⟩:=(OwnB.brow HV.out).shape
   clear ho hbrow HPT hTX hC hblk HO HEND HLB hlt HA HV
   go_wp2_with fail
   refine HP.out.mono ?_
   rintro e w3 ⟨v3,rfl,ho3,hb3⟩
   have HV3:=Lib.hid (HV1.out.keep hb3)
   have HB3:=Lib.hid (HB.out.trans (hb3.mono hs))
   have HR3:=Lib.hid (OwnB.brow ho3)
   obtain ⟨p3,c3,rfl,_⟩:=(OwnB.brow ho3).shape
   clear ho3 hb3 HP HV1 HB
   go_wp2_with (at_builtin;refine wpList_append_grown rfl _ _ rfl _ L rfl HV3.out _ TX rfl HR3.out HTN.out (by omega) ?_)
   intro v4 w4 ho4 hg4
   rw [← HEQ.out] at ho4
   have HO4:=Lib.hid ho4
   have HG4:=Lib.hid (hg4.of_below HB3.out HLT.out)
   clear ho4 hg4
   go_wp2_with fail
   go_ret
   exact ⟨_,rfl,HO4.out,HG4.out⟩
end Go.Proofs.YtdijhifdjbnkfaaGreat.DT
set_option linter.unusedVariables false
namespace Go.Proofs.YtdijhifdjbnkfaaGreat.DT
open Go Go.RowKit Go.Proofs.YtdijhifdjbnkfaaGreat.MM Go.Proofs.YtdijhifdjbnkfaaGreat.DM
def tK (l:List Ent) (k:Nat):List UInt8:=(l.getD k nilX).1
theorem tK_at {l:List Ent} {k:Nat} (h:k<l.length):tK l k=l[k].1:=by unfold tK;rw [List.getD_eq_getElem?_getD,List.getElem?_eq_getElem h];rfl
theorem tK_chunk {l:List Ent} {j k:Nat} (h:k<(chunk l j).length):tK (chunk l j) k=tK l (16*j+k):=by
 have h2:=chunk_size l j
 rw [tK_at h,tK_at (by omega),chunk_at h]
theorem first_tK {l:List Ent} {j:Nat} (h:j<chunksN l):((chunk l j).headD nilX).1=tK l (16*j):=by
 have h2:=chunk_size l j
 unfold chunksN at h
 have h3:0<(chunk l j).length:=by omega
 rw [← Nat.add_zero (16*j),← tK_chunk h3,tK_at h3]
 obtain ⟨c,hc⟩:∃ c,chunk l j=c:=⟨_,rfl⟩
 simp only [hc] at h3 ⊢
 cases c with
 | nil=>simp at h3
 | cons x r=>rfl
def Tells (H:Nat) (cb:Array Value) (q:List UInt8→Bool) (w:World):Prop :=
 (∀ args W,(callFunc H args).run Tryz.prog W=.ok (.enter H args) W)∧∀ (W:World) (t:List UInt8),Below w.heap.size w W→Calls Tryz.prog H (#[.string ⟨t.toArray⟩]++cb) W fun e w'=>e=.returned (.bool (q t))∧Below W.heap.size W w'
theorem Tells.below {H:Nat} {cb:Array Value} {q:List UInt8→Bool} {w w':World} (h:Tells H cb q w) (hb:Below w.heap.size w w'):Tells H cb q w':=⟨h.1,fun W t hW=>h.2 W t (hb.trans (hW.mono hb.size))⟩
set_option maxRecDepth 100000 in
set_option maxHeartbeats 1000000 in
theorem c1_any (H:Nat) (cb:Array Value) (q:List UInt8→Bool) (bh bd g:Nat) (l:List Ent) (j:Nat) (w:World) (hq:Tells H cb q w) (hh:w.cell? ⟨bh,0,none⟩=some (.func (.func H) #[] cb)) (hd:w.cell? ⟨bd,0,none⟩=some (.pointer (some ⟨g,0,none⟩)))
  (hD:DictAt (fun _=>True) w g l) (hj:j<chunksN l) (hn:l.length≤262144):Calls Tryz.prog 217 (#[.int .i64 (j:Int)]++#[.pointer (some ⟨bh,0,none⟩),.pointer (some ⟨bd,0,none⟩)]) w fun e w'=>e=.returned (.bool (!q (tK l (16*j))))∧Below w.heap.size w w':=by
 have hmx:Tryz.prog.follows .mixedOrders=true:=by kernel_rfl
 have eg:=hq.1
 obtain ⟨v,h2,_,h3⟩:=hD
 obtain ⟨pb,cap,rfl,hcb,hcm,_⟩:=h3.shape
 rw [blksOf_len] at h3 h2 hcb
 obtain ⟨bb,off,vb,rfl,hbl,b0,b1,hbody⟩:=blk_at h3 hj
 rw [first_tK hj] at b0
 have c1:=h2.c1
 have hgl:=h2.lt
 obtain ⟨t,ht⟩:∃ t,tK l (16*j)=t:=⟨_,rfl⟩
 rw [ht] at b0 ⊢
 obtain ⟨wd,hwd⟩:∃ wd,w.drew=wd:=⟨_,rfl⟩
 have hbd:Below w.heap.size w wd:=by rw [← hwd];exact (Below.refl _ _).drew
 have hlh:=World.block_lt_of_cell? _ _ hh
 have hld:=World.block_lt_of_cell? _ _ hd
 have hC:=hq.2 wd t hbd
 have HC:=Lib.hid hC
 have HBD:=Lib.hid hbd
 have hNm:chunksN l≤16384:=by unfold chunksN;omega
 have hjN:(j:Int)<(chunksN l:Int):=by omega
 generalize chunksN l=N at *
 have e1:=fun W (hW:Kep (fun _=>True) w W)=>(hW.cell hlh trivial 0).trans hh
 have e2:=fun W (hW:Kep (fun _=>True) w W)=>(hW.cell hld trivial 0).trans hd
 have e3:=fun W (hW:Kep (fun _=>True) w W)=>(hW.cell hgl trivial 1).trans c1
 have e4:=fun W (hW:Kep (fun _=>True) w W)=>(hW.cell hbl trivial (off+j*2)).trans b0
 have hkd:Kep (fun _=>True) w wd:=kep_below _ hbd
 have HKD:=Lib.hid hkd
 have HWD:=Lib.hid hwd
 clear hq hh hd h2 h3 hbody b0 b1 c1 ht hwd hbd hC hkd
 go_enter Tryz.func217,Tryz.ntmps217
 go_wp2_with fail
 refine RK.begin_ (T:=fun _=>True) [(0,true),(1,true),(2,true),(3,true),(4,true),(5,true),(6,true),(7,true),(8,true),(9,false),(10,true),(11,true)] (by kernel_rfl) (by kernel_rfl) rfl (by kernel_rfl) (fun _ _ d _ _ h=>by cases d<;>exact h) ?_
 simp only [RK.ordered,List.map_cons,List.map_nil,List.getElem?_toArray,List.getElem?_cons_succ,List.getElem?_cons_zero]
 rw [HWD.out]
 have f1:=fun W (hW:Kep (fun _=>True) wd W)=>e1 W (HKD.out.trans hW)
 have f2:=fun W (hW:Kep (fun _=>True) wd W)=>e2 W (HKD.out.trans hW)
 have f3:=fun W (hW:Kep (fun _=>True) wd W)=>e3 W (HKD.out.trans hW)
 have f4:=fun W (hW:Kep (fun _=>True) wd W)=>e4 W (HKD.out.trans hW)
 clear e1 e2 e3 e4
 repeat ((first | (refine RK.take (by rfl) (by intro W hW;go_simp;with_reducible rfl) ?_));simp only [Act.put,List.setIfInBounds_toArray,List.set_cons_zero,List.set_cons_succ])
 refine RK.alone (by rfl) (fun K hK => ?_)
 go_simp
 refine HC.out.mono ?_
 rintro e w1 ⟨rfl,hb1⟩
 go_simp
 refine hK.out _ _ (kep_below _ hb1) ?_
 clear hK K
 have HB1:=Lib.hid (HBD.out.trans (hb1.mono HBD.out.size))
 clear hb1 HC
 repeat ((first | (refine RK.take (by rfl) (by intro W hW;go_simp;with_reducible rfl) ?_));simp only [Act.put,List.setIfInBounds_toArray,List.set_cons_zero,List.set_cons_succ])
 refine RK.done ?_
 go_wp2_with fail
 go_ret
 exact ⟨rfl,HB1.out⟩
set_option maxRecDepth 100000 in
set_option maxHeartbeats 1000000 in
theorem c2_any (H:Nat) (cb:Array Value) (q:List UInt8→Bool) (bh bl:Nat) (p:Option Addr) (n cap:Nat) (l:List Ent) (j:Nat) (w:World) (hq:Tells H cb q w) (hh:w.cell? ⟨bh,0,none⟩=some (.func (.func H) #[] cb)) (hd:w.cell? ⟨bl,0,none⟩=some (.slice p n cap))
  (hD:RAny entC w (.slice p n cap) l) (hj:j<l.length) (hn:l.length≤262144):Calls Tryz.prog 218 (#[.int .i64 (j:Int)]++#[.pointer (some ⟨bh,0,none⟩),.pointer (some ⟨bl,0,none⟩)]) w fun e w'=>e=.returned (.bool (!q (tK l j)))∧Below w.heap.size w w':=by
 have hmx:Tryz.prog.follows .mixedOrders=true:=by kernel_rfl
 have eg:=hq.1
 obtain ⟨p',cap',hv,hcb,hcm,_⟩:=hD.shape
 simp only [Value.slice.injEq] at hv
 obtain ⟨rfl,rfl,rfl⟩:=hv
 obtain ⟨bb,off,rfl,hbl,_,b0,xa,xb,xc⟩:=ent_at hD hj
 clear xa xb xc
 rw [← tK_at hj] at b0
 obtain ⟨t,ht⟩:∃ t,tK l j=t:=⟨_,rfl⟩
 rw [ht] at b0 ⊢
 obtain ⟨wd,hwd⟩:∃ wd,w.drew=wd:=⟨_,rfl⟩
 have hbd:Below w.heap.size w wd:=by rw [← hwd];exact (Below.refl _ _).drew
 have hlh:=World.block_lt_of_cell? _ _ hh
 have hld:=World.block_lt_of_cell? _ _ hd
 have HC:=Lib.hid (hq.2 wd t hbd)
 have HBD:=Lib.hid hbd
 have hjN:(j:Int)<(l.length:Int):=by omega
 obtain ⟨N,hN⟩:∃ N,l.length=N:=⟨_,rfl⟩
 rw [hN] at hd hn hcb hjN
 clear hD hj hN
 have HKD:Hid (Kep (fun _=>True) w wd):=Lib.hid (kep_below _ hbd)
 have f1:=fun W (hW:Kep (fun _=>True) wd W)=>((HKD.out.trans hW).cell hlh trivial 0).trans hh
 have f2:=fun W (hW:Kep (fun _=>True) wd W)=>((HKD.out.trans hW).cell hld trivial 0).trans hd
 have f4:=fun W (hW:Kep (fun _=>True) wd W)=>((HKD.out.trans hW).cell hbl trivial (off+j*4)).trans b0
 have HWD:=Lib.hid hwd
 have HF:=Lib.hid (And.intro f1 (And.intro f2 f4))
 clear hq hh hd b0 ht hwd hbd f1 f2 f4
 go_enter Tryz.func218,Tryz.ntmps218
 go_wp2_with fail
 refine RK.begin_ (T:=fun _=>True) [(0,true),(1,true),(2,true),(3,true),(4,true),(5,true),(6,false),(7,true),(8,true)] (by kernel_rfl) (by kernel_rfl) rfl (by kernel_rfl) (fun _ _ d _ _ h=>by cases d<;>exact h) ?_
 simp only [RK.ordered,List.map_cons,List.map_nil,List.getElem?_toArray,List.getElem?_cons_succ,List.getElem?_cons_zero]
 rw [HWD.out]
 obtain ⟨f1,f2,f4⟩:=HF.out
 repeat ((first | (refine RK.take (by rfl) (by intro W hW;go_simp;with_reducible rfl) ?_));simp only [Act.put,List.setIfInBounds_toArray,List.set_cons_zero,List.set_cons_succ])
 refine RK.alone (by rfl) (fun K hK => ?_)
 go_simp
 refine HC.out.mono ?_
 rintro e w1 ⟨rfl,hb1⟩
 go_simp
 refine hK.out _ _ (kep_below _ hb1) ?_
 clear hK K
 have HB1:=Lib.hid (HBD.out.trans (hb1.mono HBD.out.size))
 clear hb1 HC
 repeat ((first | (refine RK.take (by rfl) (by intro W hW;go_simp;with_reducible rfl) ?_));simp only [Act.put,List.setIfInBounds_toArray,List.set_cons_zero,List.set_cons_succ])
 refine RK.done ?_
 go_wp2_with fail
 go_ret
 exact ⟨rfl,HB1.out⟩
theorem turns_nil (p:Nat→Bool):TurnsAt p 0 0:=⟨Nat.le_refl _,fun h=>by omega,fun h=>by omega⟩
theorem turns_two {l:List Ent} {q:List UInt8→Bool} {r s:Nat} (h1:TurnsAt (fun j => !q (tK l (16*j))) (chunksN l) r) (h0:0<r) (h2:TurnsAt (fun k => !q (tK (chunk l (r - 1)) k)) (chunk l (r - 1)).length s):TurnsAt (fun k => !q (tK l k)) l.length ((r - 1)*16+s):=by
 obtain ⟨a1,a2,a3⟩:=h1
 obtain ⟨b1,b2,b3⟩:=h2
 have hs:=chunk_size l (r - 1)
 have hN:chunksN l=(l.length+15) / 16:=rfl
 have a2:=a2 h0
 dsimp only at a2 a3 b2 b3 ⊢
 have hs0:0<s:=by
  refine Nat.pos_of_ne_zero fun e => ?_
  subst e
  have h:=b3 (by omega)
  rw [tK_chunk (by omega),Nat.add_zero,a2] at h
  cases h
 refine ⟨by omega,fun _ => ?_,fun hlt => ?_⟩
 ·have h:=b2 hs0
  rw [tK_chunk (by omega)] at h
  rw [show (r - 1)*16+s - 1=16*(r - 1)+(s - 1) by omega]
  exact h
 ·by_cases hsl:s<(chunk l (r - 1)).length
  ·have h:=b3 hsl
   rw [tK_chunk hsl] at h
   rw [show (r - 1)*16+s=16*(r - 1)+s by omega]
   exact h
  ·have h:=a3 (by omega)
   rw [show (r - 1)*16+s=16*r by omega]
   exact h
theorem turns_none {l:List Ent} {q:List UInt8→Bool} (h1:TurnsAt (fun j => !q (tK l (16*j))) (chunksN l) 0):TurnsAt (fun k => !q (tK l k)) l.length 0:=by
 obtain ⟨_,_,a3⟩:=h1
 exact ⟨by omega,fun h=>by omega,fun hlt=>a3 (by unfold chunksN;omega)⟩
def CountLeft (l:List Ent) (q:List UInt8→Bool) (w:World) (e:Ending) (w':World):Prop:=∃ c:Nat,e=.returned (.int .i64 (c:Int))∧TurnsAt (fun k => !q (tK l k)) l.length c∧Below w.heap.size w w'
set_option maxRecDepth 100000 in
set_option maxHeartbeats 1000000 in
theorem count_any (p:Option Addr) (l:List Ent) (H:Nat) (cb:Array Value) (q:List UInt8→Bool) (w:World) (hp:DictP (fun _=>True) w p l) (hq:Tells H cb q w) (hw:∀ x∈l,okW x) (hn:l.length≤262144) :
  Calls Tryz.prog 175 #[.pointer p,.func (.func H) #[] cb] w (CountLeft l q w):=by
 rcases hp with ⟨rfl,rfl⟩ | ⟨g,rfl,hD⟩
 ·have H0:=Lib.hid (show ∀ w',Below w.heap.size w w'→CountLeft [] q w (.returned (.int .i64 0)) w' from fun w' hb=>⟨0,rfl,turns_nil _,hb⟩)
  have HB:Hid (Below w.heap.size w ((w.alloc (.cells #[.pointer none] 81)).alloc (.cells #[.func (.func H) #[] cb] 50))):=Lib.hid (((Below.refl _ _).alloc (Nat.le_refl _) _).alloc (by simp) _)
  clear hq
  go_enter Tryz.func175,Tryz.ntmps175
  go_wp2_with fail
  go_ret
  exact H0.out _ HB.out
 ·obtain ⟨R,hR⟩:∃ R,w.heap.size=R:=⟨_,rfl⟩
  obtain ⟨wa,hwa⟩:∃ W,w.alloc (.cells #[.pointer (some ⟨g,0,none⟩)] 81)=W:=⟨_,rfl⟩
  obtain ⟨wb,hwb⟩:∃ W,wa.alloc (.cells #[.func (.func H) #[] cb] 50)=W:=⟨_,rfl⟩
  have hba:Below w.heap.size w wa:=by rw [← hwa];exact (Below.refl _ _).alloc (Nat.le_refl _) _
  have hsa:wa.heap.size=R+1:=by rw [← hwa,← hR];simp
  have hbb:Below wa.heap.size wa wb:=by rw [← hwb];exact (Below.refl _ _).alloc (Nat.le_refl _) _
  have hsb:wb.heap.size=R+2:=by rw [← hwb];simp [hsa]
  have x2:wb.cell? ⟨R,0,none⟩=some (.pointer (some ⟨g,0,none⟩)):=by rw [hbb.cell (p:=⟨R,0,none⟩) (by show R<_;omega),← hwa,← hR,cell_of_row _ _ 0 _ _ _ (heap_alloc_new w _)];rfl
  have x3:wb.cell? ⟨R+1,0,none⟩=some (.func (.func H) #[] cb):=by rw [← hwb,← hsa,cell_of_row _ _ 0 _ _ _ (heap_alloc_new wa _)];rfl
  have hb0:=hba.trans (hbb.mono (by omega))
  have hDb:DictAt (fun _=>True) wb g l:=hD.keep (kep_below _ hb0) fun _ _ h=>h
  have hqb:=hq.below hb0
  have eg1:∀ args W,(callFunc 217 args).run Tryz.prog W=.ok (.enter 217 args) W:=enters_of Tryz.func217 (by kernel_rfl) rfl
  have eg2:∀ args W,(callFunc 218 args).run Tryz.prog W=.ok (.enter 218 args) W:=enters_of Tryz.func218 (by kernel_rfl) rfl
  have hNm:chunksN l≤16384:=by unfold chunksN;omega
  have HS:=Lib.hid (search_any 217 #[.pointer (some ⟨R+1,0,none⟩),.pointer (some ⟨R,0,none⟩)] (chunksN l) (fun j => !q (tK l (16*j))) wb eg1 (by omega)
   (fun W j hj hW=>c1_any H cb q (R+1) R g l j W (hqb.below hW) ((hW.cell (p:=⟨R+1,0,none⟩) (by show R+1<_;omega)).trans x3) ((hW.cell (p:=⟨R,0,none⟩) (by show R<_;omega)).trans x2) (hDb.keep (kep_below _ hW) fun _ _ h=>h) hj hn))
  have HQB:=Lib.hid hqb
  have HDB:=Lib.hid hDb
  have HB0:=Lib.hid hb0
  have HWA:=Lib.hid hwa
  have HWB:=Lib.hid hwb
  obtain ⟨v,t2,_,t3⟩:=hDb
  obtain ⟨pb,cap,rfl,hcb,hcm,_⟩:=t3.shape
  rw [blksOf_len] at t2 hcb
  have c1:=t2.c1
  have c1n:=c1
  rw [← hwb,← hwa] at c1n
  have X2:=Lib.hid x2
  have X3:=Lib.hid x3
  clear hwa hwb hba hbb hD hq hqb hb0 t2 t3 x3
  go_enter Tryz.func175,Tryz.ntmps175
  go_wp2_with fail
  rw [HWA.out,HWB.out]
  go_wp2_with fail
  refine HS.out.mono ?_
  rintro e w1 ⟨r,rfl,hT,hb1⟩
  have hs1:=hb1.size
  have HB1:=Lib.hid (HB0.out.trans (hb1.mono (by omega)))
  by_cases hr0:r=0
  ·subst hr0
   have HT:=Lib.hid (turns_none hT)
   clear hT hb1 HS
   go_wp2_with fail
   go_ret
   exact ⟨0,rfl,HT.out,HB1.out⟩
  ·have q1:((r:Int) == 0)=false:=by rw [beq_eq_false_iff_ne];omega
   have hrN:r≤chunksN l:=hT.1
   have HT:=Lib.hid hT
   obtain ⟨v1,t1,_,t3⟩:=HDB.out.keep (T:=fun _=>True) (kep_below _ hb1) fun _ _ h=>h
   obtain ⟨pb1,cap1,rfl,hcb1,hcm1,_⟩:=t3.shape
   rw [blksOf_len] at t3 t1 hcb1
   obtain ⟨bb,off,vb,rfl,hbl,b0,b1,hbody⟩:=blk_at t3 (k:=r - 1) (by omega)
   have y2:w1.cell? ⟨R,0,none⟩=some (.pointer (some ⟨g,0,none⟩)):=(hb1.cell (p:=⟨R,0,none⟩) (by show R<_;omega)).trans X2.out
   have d1:=t1.c1
   obtain ⟨J,hJ⟩:∃ J,r - 1=J:=⟨_,rfl⟩
   rw [hJ] at b0 b1 hbody
   have hrJ:(r:Int) - 1=(J:Int):=by omega
   have hJN:(J:Int)<(chunksN l:Int):=by omega
   obtain ⟨Z,hZ⟩:∃ Z:Nat,(r - 1)*16=Z:=⟨_,rfl⟩
   have hJ16:(J:Int)*16=(Z:Int):=by omega
   have HZ:=Lib.hid hZ
   have hZb:Z≤262144:=by omega
   clear hZ
   have hcl:=chunk_size l J
   obtain ⟨FT,hFT⟩:∃ s:ByteArray,(⟨((chunk l J).headD nilX).1.toArray⟩:ByteArray)=s:=⟨_,rfl⟩
   rw [hFT] at b0
   have HENTS:=Lib.hid (blkents_any FT vb (chunk l J) w1 (chunk_w hw J) (by omega) hbody)
   obtain ⟨pv,cv,rfl,_⟩:=hbody.shape
   have Y3:Hid (w1.cell? ⟨R+1,0,none⟩=some (.func (.func H) #[] cb)):=Lib.hid ((hb1.cell (p:=⟨R+1,0,none⟩) (by show R+1<_;omega)).trans X3.out)
   have HQ1:=Lib.hid (HQB.out.below hb1)
   have HJ:=Lib.hid hJ
   have HR0:=Lib.hid hr0
   clear hT hb1 HS hFT t1 t3 hbody hJ hr0 c1 c1n x2
   go_wp2_with fail
   refine HENTS.out.mono ?_
   rintro e w2 ⟨v2,rfl,ho2,hb2⟩
   obtain ⟨p2,c2,rfl,hl2,hm2,_⟩:=ho2.any.shape
   have hs2:=hb2.size
   obtain ⟨w3,hw3⟩:∃ W,w2.alloc (.cells #[.slice p2 (chunk l J).length c2] 97)=W:=⟨_,rfl⟩
   have hb3:Below w2.heap.size w2 w3:=by rw [← hw3];exact (Below.refl _ _).alloc (Nat.le_refl _) _
   have z1:w3.cell? ⟨w2.heap.size,0,none⟩=some (.slice p2 (chunk l J).length c2):=by rw [← hw3,cell_of_row _ _ 0 _ _ _ (heap_alloc_new w2 _)];rfl
   have z2:w3.cell? ⟨R+1,0,none⟩=some (.func (.func H) #[] cb):=(hb3.cell (p:=⟨R+1,0,none⟩) (by show R+1<_;omega)).trans ((hb2.cell (p:=⟨R+1,0,none⟩) (by show R+1<_;omega)).trans Y3.out)
   have hbt:Below w1.heap.size w1 w3:=hb2.trans (hb3.mono hs2)
   have hs3:=hbt.size
   have ho3:=RAny.below ho2.any hb3
   have HS2:=Lib.hid (search_any 218 #[.pointer (some ⟨R+1,0,none⟩),.pointer (some ⟨w2.heap.size,0,none⟩)] (chunk l J).length (fun k => !q (tK (chunk l J) k)) w3 eg2 (by omega)
    (fun W j hj hW=>c2_any H cb q (R+1) w2.heap.size p2 _ c2 (chunk l J) j W ((HQ1.out.below hbt).below hW) ((hW.cell (p:=⟨R+1,0,none⟩) (by show R+1<_;omega)).trans z2) ((hW.cell (p:=⟨w2.heap.size,0,none⟩) (World.block_lt_of_cell? _ _ z1)).trans z1) (ho3.below hW) hj (by omega)))
   have HB3:=Lib.hid (HB1.out.trans (hbt.mono (by omega)))
   have HW3:=Lib.hid hw3
   have HCL:Hid ((chunk l J).length≤16):=Lib.hid (by omega)
   clear ho2 hb2 hw3 hb3 z2 hbt ho3 HENTS b0 b1 hcl
   go_wp2_with fail
   rw [HW3.out]
   go_wp2_with fail
   refine HS2.out.mono ?_
   rintro e w4 ⟨s,rfl,hT2,hb4⟩
   have HB4:=Lib.hid (HB3.out.trans (hb4.mono (by omega)))
   have hsc:=hT2.1
   have hc16:=HCL.out
   obtain ⟨Y,hY⟩:∃ Y:Nat,Z+s=Y:=⟨_,rfl⟩
   have hsum:(Z:Int)+(s:Int)=(Y:Int):=by omega
   have HT2:=Lib.hid (turns_two HT.out (Nat.pos_of_ne_zero HR0.out) (by rw [HJ.out];exact hT2))
   rw [HZ.out,hY] at HT2
   have hb62:Y≤300000:=by omega
   clear hT2 hb4 HS2 hY
   go_wp2_with fail
   go_ret
   exact ⟨Y,rfl,HT2.out,HB4.out⟩
end Go.Proofs.YtdijhifdjbnkfaaGreat.DT
