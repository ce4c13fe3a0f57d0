import Derived.Test.YtdfibahafilklaaGreatDoorZC4
set_option maxRecDepth 100000
set_option maxHeartbeats 8000000
set_option linter.unusedVariables false
set_option linter.unusedSimpArgs false
namespace Go.Proofs.YtdfibahafilklaaGreatDoor.MM
open Go.RowKit
theorem OwnB.shape {B:Nat} {w:World} {v:Value} {l:List UInt8} (h:OwnB B w v l) (hl:l.length≠0):∃ g cap,v=.slice (some ⟨g,0,none⟩) l.length cap∧B≤g∧l.length≤cap∧cap≤maxLen:=by
 rcases h.2 with ⟨_,h0⟩ | ⟨g,cap,cur,hv,hb,_,hn,hm,_⟩
 ·exact absurd h0 hl
 ·exact ⟨g,cap,hv,hb,hn,hm⟩
theorem OwnB.free {B:Nat} {w:World} {g n cap:Nat} {l:List UInt8} (h:OwnB B w (.slice (some ⟨g,0,none⟩) n cap) l) (j:Nat):w.frozen? ⟨g,j,none⟩=false:=by
 rcases h.2 with ⟨hv,_⟩ | ⟨g',cap',cur,hv,hb,hh,_⟩
 ·cases hv
 ·simp only [Value.slice.injEq,Option.some.injEq,Addr.mk.injEq] at hv
  obtain ⟨⟨rfl,_⟩,_⟩:=hv
  exact frozen_of_row w g j cur _ hh
theorem OwnB.cell {B:Nat} {w:World} {g n cap j:Nat} {l:List UInt8} {c:UInt8} (h:OwnB B w (.slice (some ⟨g,0,none⟩) n cap) l) (hj:l[j]? = some c):w.cell? ⟨g,j,none⟩=some (.int .u8 (c.toNat:Int)):=by
 obtain ⟨hlt,he⟩:=List.getElem?_eq_some_iff.1 hj
 obtain ⟨b,off,hp,_,hc⟩:=h.brow.at_ hlt
 rcases h.2 with ⟨hv,_⟩ | ⟨g',cap',cur,hv,hb,hh,hn,hm,hs,ht⟩
 ·cases hv
 ·simp only [Value.slice.injEq,Option.some.injEq,Addr.mk.injEq] at hv hp
  obtain ⟨⟨rfl,_⟩,_⟩:=hv
  obtain ⟨rfl,rfl,_⟩:=hp
  rw [he,Nat.zero_add] at hc
  exact hc
end Go.Proofs.YtdfibahafilklaaGreatDoor.MM
namespace Go.Proofs.YtdfibahafilklaaGreatDoor.MM
open Go.RowKit
structure Kep (S:Nat→Prop) (w w':World):Prop where
 os:w'.os=w.os
 tape:w'.tape=w.tape
 output:w'.output=w.output
 size:w.heap.size≤w'.heap.size
 block:∀ k,k<w.heap.size→S k→w'.heap[k]? = w.heap[k]?
theorem Kep.refl (S:Nat→Prop) (w:World):Kep S w w:=⟨rfl,rfl,rfl,Nat.le_refl _,fun _ _ _=>rfl⟩
theorem Kep.trans {S:Nat→Prop} {a b c:World} (h:Kep S a b) (k:Kep S b c):Kep S a c :=
 ⟨k.os.trans h.os,k.tape.trans h.tape,k.output.trans h.output,Nat.le_trans h.size k.size,fun i hi hs=>(k.block i (Nat.lt_of_lt_of_le hi h.size) hs).trans (h.block i hi hs)⟩
theorem Kep.mono {S T:Nat→Prop} {a b:World} (h:Kep S a b) (hT:∀ k,T k→S k):Kep T a b:=⟨h.os,h.tape,h.output,h.size,fun k hk ht=>h.block k hk (hT k ht)⟩
theorem Kep.mono' {S T:Nat→Prop} {a b:World} (h:Kep S a b) (hT:∀ k,k<a.heap.size→T k→S k):Kep T a b:=⟨h.os,h.tape,h.output,h.size,fun k hk ht=>h.block k hk (hT k hk ht)⟩
theorem Kep.drew {S:Nat→Prop} {a b:World} (h:Kep S a b):Kep S a b.drew:=⟨h.os,h.tape,h.output,h.size,h.block⟩
theorem Kep.drewN {S:Nat→Prop} {a b:World} (h:Kep S a b) (n:Nat):Kep S a (b.drewN n):=⟨h.os,h.tape,h.output,h.size,h.block⟩
theorem kep_below {w w':World} (S:Nat→Prop) (h:Below w.heap.size w w'):Kep S w w':=⟨h.os,h.tape,h.output,h.size,fun k hk _=>h.block k hk⟩
theorem kep_alloc (S:Nat→Prop) (w:World) (o:Obj):Kep S w (w.alloc o):=kep_below S ((Below.refl _ _).alloc (Nat.le_refl _) o)
theorem kep_set {S:Nat→Prop} {w:World} {g i:Nat} (hg:¬ S g) (u:Value):Kep S w (w.setCell ⟨g,i,none⟩ u) :=
 ⟨rfl,rfl,rfl,by simp,fun k _ hs=>Below.heap_setCell _ _ _ _ (fun e=>hg (by rw [← show k=g from e];exact hs))⟩
theorem kep_grown {S:Nat→Prop} {w w':World} {row:Option Nat} (h:w.grownBy w' row) (hr:∀ k,row=some k→¬ S k):Kep S w w' :=
 ⟨h.os,h.tape,h.output,h.size,fun k hk hs=>h.block k hk (fun e=>hr k e.symm hs)⟩
theorem Kep.below {S:Nat→Prop} {w w':World} {B:Nat} (h:Kep S w w') (hB:B≤w.heap.size) (hS:∀ k,k<B→S k):Below B w w' :=
 ⟨h.os,h.tape,h.output,h.size,fun k hk=>h.block k (Nat.lt_of_lt_of_le hk hB) (hS k hk)⟩
theorem Kep.andThen {S T:Nat→Prop} {a b c:World} (h:Kep S a b) (k:Kep T b c) (hT:∀ i,i<a.heap.size→S i→T i):Kep S a c :=
 ⟨k.os.trans h.os,k.tape.trans h.tape,k.output.trans h.output,Nat.le_trans h.size k.size,fun i hi hs=>(k.block i (Nat.lt_of_lt_of_le hi h.size) (hT i hi hs)).trans (h.block i hi hs)⟩
theorem kep_draw (S:Nat→Prop) (w:World):Kep S w w.drew:=(Kep.refl S w).drew
theorem Kep.cell {S:Nat→Prop} {w w':World} (h:Kep S w w') {b:Nat} (hb:b<w.heap.size) (hS:S b) (i:Nat):w'.cell? ⟨b,i,none⟩=w.cell? ⟨b,i,none⟩:=World.cell?_of_block (a:=⟨b,i,none⟩) (h.block b hb hS)
end Go.Proofs.YtdfibahafilklaaGreatDoor.MM
namespace Go.Proofs.YtdfibahafilklaaGreatDoor.DK
end Go.Proofs.YtdfibahafilklaaGreatDoor.DK
namespace Go.Proofs.YtdfibahafilklaaGreatDoor.MM
open Go.RowKit
theorem same_list (l m:List UInt8):((⟨l.toArray⟩:ByteArray).toList == (⟨m.toArray⟩:ByteArray).toList)=decide (l=m):=by
 rw [Lib.toList_data,Lib.toList_data]
 by_cases h:l=m
 ·subst h;simp
 ·simp [h]
end Go.Proofs.YtdfibahafilklaaGreatDoor.MM
namespace Go.Proofs.YtdfibahafilklaaGreatDoor.CR
open Go.RowKit MM CM
def PRow (w:World) (v:Value) (ls:List (List UInt8)):Prop:=∃ xs,Row w v xs∧xs.length=ls.length∧∀ i (h:i<ls.length),∃ x,xs[i]? = some x∧BRow w x ls[i]
theorem PRow.below {w w':World} {v:Value} {ls:List (List UInt8)} (h:PRow w v ls) (hb:Below w.heap.size w w'):PRow w' v ls:=by
 obtain ⟨xs,hr,hl,hx⟩:=h
 refine ⟨xs,Row.below (B:=0) hr hb,hl,fun i hi => ?_⟩
 obtain ⟨x,h1,h2⟩:=hx i hi
 exact ⟨x,h1,h2.below hb⟩
theorem PRow.shape {w:World} {v:Value} {ls:List (List UInt8)} (h:PRow w v ls):∃ p cap,v=.slice p ls.length cap∧ls.length≤cap∧cap≤maxLen:=by
 obtain ⟨xs,⟨p,cap,hv,h1,h2,_,_⟩,hl,_⟩:=h
 rw [hl] at hv h1
 exact ⟨p,cap,hv,h1,h2⟩
theorem PRow.at_ {w:World} {p:Option Addr} {n cap:Nat} {ls:List (List UInt8)} (h:PRow w (.slice p n cap) ls) {k:Nat} (hk:k<ls.length) :
  ∃ b off x,p=some ⟨b,off,none⟩∧w.cell? ⟨b,off+k,none⟩=some x∧BRow w x ls[k]:=by
 obtain ⟨xs,⟨p',cap',hv,_,_,_,h⟩,hl,hx⟩:=h
 simp only [Value.slice.injEq] at hv
 obtain ⟨rfl,_,_⟩:=hv
 obtain ⟨x,h1,h2⟩:=hx k hk
 rcases h with h | ⟨b,off,hp,hlt,hc⟩
 ·rw [h] at h1;simp at h1
 ·exact ⟨b,off,x,hp,hc k _ h1,h2⟩
theorem prow_lit {w:World} (xs:List Value) (ls:List (List UInt8)) (hl:xs.length=ls.length) (hm:xs.length≤maxLen) (h:∀ i (h:i<ls.length),∃ x,xs[i]? = some x∧BRow w x ls[i]) :
  PRow (w.alloc (.cells xs.toArray 31)) (.slice (some ⟨w.heap.size,0,none⟩) xs.length xs.length) ls:=by
 have hb:Below w.heap.size w (w.alloc (.cells xs.toArray 31)):=(Below.refl _ _).alloc (Nat.le_refl _) _
 refine ⟨xs,⟨some ⟨w.heap.size,0,none⟩,xs.length,rfl,Nat.le_refl _,hm,(fun h=>by cases h),.inr ⟨w.heap.size,0,rfl,by simp,fun i u hi => ?_⟩⟩,hl,fun i hi => ?_⟩
 ·rw [cell_of_row _ w.heap.size _ _ _ _ (heap_alloc_new _ _)]
  simpa using hi
 ·obtain ⟨x,h1,h2⟩:=h i hi
  exact ⟨x,h1,h2.below hb⟩
theorem xor_low (q r b:Nat) (hr:r<256) (hb:b<256):(256*q+r) ^^^ b=256*q+(r ^^^ b):=by
 have h1:=Nat.xor_mod_two_pow (a:=256*q+r) (b:=b) (n:=8)
 have h2:=Nat.shiftRight_xor_distrib (a:=256*q+r) (b:=b) (i:=8)
 rw [Nat.shiftRight_eq_div_pow,Nat.shiftRight_eq_div_pow,Nat.shiftRight_eq_div_pow] at h2
 rw [show (2:Nat)^8=256 from rfl] at h1 h2
 rw [show (256*q+r)%256=r by omega,show b%256=b by omega] at h1
 rw [show (256*q+r) / 256=q by omega,show b / 256=0 by omega,Nat.xor_zero] at h2
 omega
theorem onB_table (m b:Nat) (hb:b<256):onB m b=steps 8 (m%256 ^^^ b) ^^^ m / 256:=by
 have hz:m%256 ^^^ b<256:=Nat.xor_lt_two_pow (n:=8) (by omega) hb
 have h1:=xor_low (m / 256) (m%256) b (by omega) hb
 have h2:=xor_low (m / 256) 0 (m%256 ^^^ b) (by omega) hz
 rw [Nat.zero_xor,Nat.add_zero] at h2
 rw [show 256*(m / 256)+m%256=m by omega] at h1
 unfold onB
 rw [h1,← h2,steps_xor,steps_byte,Nat.xor_comm]
theorem table_byte (m:Nat) (c:UInt8):bits .xor .u8 ((m:Int)%256) (c.toNat:Int)=((m%256 ^^^ c.toNat:Nat):Int):=by
 rw [show (m:Int)%256=((m%256:Nat):Int) by omega]
 exact u8_xor_nat _ _ (by omega) c.toNat_lt
theorem table_step (m:Nat) (c:UInt8) (hm:m<4294967296):bits .xor .u32 ((steps 8 (m%256 ^^^ c.toNat):Nat):Int) ((m:Int) / 256)=((onB m c.toNat:Nat):Int):=by
 have hz:m%256 ^^^ c.toNat<256:=Nat.xor_lt_two_pow (n:=8) (by omega) c.toNat_lt
 rw [show (m:Int) / 256=((m / 256:Nat):Int) by omega,u32_xor_nat _ _ (steps_lt 8 (by omega)) (by omega),onB_table m _ c.toNat_lt]
theorem run_flat_take {ls:List (List UInt8)} {k:Nat} (hk:k<ls.length):(ls.drop k).flatten=ls[k]++(ls.drop (k+1)).flatten:=by
 rw [List.drop_eq_getElem_cons hk,List.flatten_cons]
end Go.Proofs.YtdfibahafilklaaGreatDoor.CR
namespace Go.Proofs.YtdfibahafilklaaGreatDoor.CR
open Go.RowKit MM CM
theorem nat_not {n:Nat} (hn:n<4294967296):4294967295 ^^^ n=4294967295 - n:=by
 have h:=congrArg BitVec.toNat (BitVec.allOnes_xor (x:=BitVec.ofNat 32 n))
 simp only [BitVec.toNat_xor,BitVec.toNat_allOnes,BitVec.toNat_not,BitVec.toNat_ofNat] at h
 rw [show n%2^32=n by omega] at h
 simpa using h
theorem not_code {n:Nat} (hn:n<4294967296):bits .xor .u32 IntKind.u32.max (n:Int)=((notB n:Nat):Int):=by
 have h:=u32_xor_nat 4294967295 n (by omega) hn
 rw [nat_not hn] at h
 exact h
theorem u32_unsigned:IntKind.u32.signed=false:=rfl
theorem Tab.of_row {B:Nat} {w:World} {T:Array Value} (hT:tab=T) (h:w.heap[B]? = some (.cells T 242 (0,0))):Tab B 256 w:=by
 subst hT
 exact ⟨tab,h,tab_size,fun k hk=>tab_get hk⟩
theorem run_drop {l R:List UInt8} {m j r:Nat} (hj:j<l.length) (h:run m (l.drop j++R)=r):run (onB m (l[j]).toNat) (l.drop (j+1)++R)=r:=by
 rw [List.drop_eq_getElem_cons hj,List.cons_append,run_cons] at h
 exact h
theorem goon_any (s:Nat) (v:Value) (ls:List (List UInt8)) (w:World) (hs:s<4294967296) (hr:PRow w v ls) :
  Calls Tryz.prog 166 #[.int .u32 s,v] w fun e w'=>e=.returned (.int .u32 (nextL s ls.flatten:Nat))∧Below w.heap.size w w':=by
 obtain ⟨p,cap,rfl,hlc,hcm⟩:=hr.shape
 unfold maxLen at hcm
 obtain ⟨T,hT⟩:∃ T,tab=T:=⟨_,rfl⟩
 have HTs:Hid (T.size=256):=Lib.hid (hT▸tab_size)
 have HT1:Hid (T.all (·.oneCell')=true):=Lib.hid (hT▸tab_one)
 have HTab:Hid (∀ B W,W.heap[B]? = some (.cells T 242 (0,0))→Tab B 256 W):=Lib.hid (fun B W h=>Tab.of_row hT h)
 have hK:=fun W=>tab_any W
 rw [hT] at hK
 have HK:=Lib.hid hK
 obtain ⟨Z,hZ,hZ0,hz⟩:=zero_arr
 obtain ⟨r,hrr⟩:∃ r,run (notB s) ls.flatten=r:=⟨_,rfl⟩
 have HRes:Hid (nextL s ls.flatten=notB r):=Lib.hid (by unfold nextL;rw [hrr])
 have HR0:Hid (run (notB s) (ls.drop 0).flatten=r):=Lib.hid hrr
 have HZ:=Lib.hid hZ
 have HP:=Lib.hid hr
 obtain ⟨F,hF⟩:∃ F,nextL s ls.flatten=F:=⟨_,rfl⟩
 rw [hF]
 rw [hF] at HRes
 clear hT hK hZ hZ0 hrr hr hF
 go_enter Tryz.func166,Tryz.ntmps166
 go_wp2_with fail
 refine (HK.out _).mono ?_
 rintro e w1 ⟨rfl,hb1⟩
 have hb2:Below w.heap.size w (w1.alloc (.cells Z 242)):=hb1.alloc hb1.size _
 have hg2:(w1.alloc (.cells Z 242)).heap[w1.heap.size]? = some (.cells Z 242 (0,0)):=heap_alloc_new _ _
 have hg3:=setRow_heap _ w1.heap.size Z T _ _ hg2
 have HT3:=Lib.hid (HTab.out _ _ hg3)
 have HB3:=Lib.hid (below_setRow T hb2 hb1.size)
 have hi:(Tryz.prog.info? 242).map (·.size)=some T.size:=by rw [HTs.out];exact infoArr
 have hzt:Z.size=T.size:=by rw [HTs.out,HZ.out]
 have HG2:=Lib.hid hg2
 have HI:=Lib.hid hi
 have HZT:=Lib.hid hzt
 clear hg2 hg3 hi hzt hb2
 obtain ⟨w3,hw3⟩:∃ w3,(w1.alloc (.cells Z 242)).setRow w1.heap.size T=w3:=⟨_,rfl⟩
 rw [hw3] at HT3 HB3
 have HW3:=Lib.hid hw3
 have hsz1:=HB3.out.size
 have HP3:=Lib.hid (HP.out.below HB3.out)
 obtain ⟨g,hg⟩:∃ g,w1.heap.size=g:=⟨_,rfl⟩
 have HG:=Lib.hid hg
 clear hw3 hg
 have hu:=u32_unsigned
 have hn:=not_code hs
 have hnl:=notB_lt s
 go_wp2_with (refine wpList_store_row rfl 242 (.tmp 5) (.tmp 10) rfl w1.heap.size T rfl rfl 242 Z HG2.out HI.out HZT.out HT1.out ?_;rw [HW3.out])
 clear hz HG2 HI HZT HT1 HZ HTs HTab HK HW3 HP
 rw [HG.out] at HT3
 rw [HG.out]
 clear HG
 go_loop [0,15] (fun s i=>∃ k m:Nat,k≤ls.length∧i=.int .i64 k∧s=.int .u32 m∧m<4294967296∧Hid (run m (ls.drop k).flatten=r)) (fun _ i=>ls.length - (intOf i).toNat)
 case atStart=>exact ⟨0,notB s,by omega,rfl,rfl,hnl,HR0⟩
 case round =>
  obtain ⟨k,m,hk,rfl,rfl,hm,H⟩:=hrel
  clear HR0 hn hnl hs
  by_cases hlt:k<ls.length
  ·obtain ⟨b,off,x,rfl,hcell,hx⟩:=HP3.out.at_ hlt
   have h2:=H.out
   rw [run_flat_take hlt] at h2
   generalize ls[k]=l at h2 hx
   obtain ⟨p2,cap2,rfl,hlc2,hcm2⟩:=hx.shape
   unfold maxLen at hcm2
   obtain ⟨R,hR⟩:∃ R,(ls.drop (k+1)).flatten=R:=⟨_,rfl⟩
   rw [hR] at h2
   have HRR:=Lib.hid hR
   clear hR
   have H2:Hid (run m (l.drop 0++R)=r):=Lib.hid h2
   have HX:=Lib.hid hx
   clear h2 H hx
   go_wp2_with fail
   go_loop [0,21] (fun s i=>∃ j m:Nat,j≤l.length∧i=.int .i64 j∧s=.int .u32 m∧m<4294967296∧Hid (run m (l.drop j++R)=r)) (fun _ i=>l.length - (intOf i).toNat)
   case atStart=>exact ⟨0,m,by omega,rfl,rfl,hm,H2⟩
   case round =>
    obtain ⟨j,n,hj,rfl,rfl,hn,H3⟩:=hrel
    clear H2 hm hcell
    by_cases hjl:j<l.length
    ·obtain ⟨b2,off2,rfl,hbl2,hcell2⟩:=HX.out.at_ hjl
     have h4:=run_drop hjl H3.out
     generalize l[j]=c at h4 hcell2
     have hz:n%256 ^^^ c.toNat<256:=Nat.xor_lt_two_pow (n:=8) (by omega) c.toNat_lt
     have htab:=HT3.out.cell hz
     have e1:=table_byte n c
     have e2:=table_step n c hn
     have hn2:=onB_lt hn c.toNat_lt
     have hcb:=c.toNat_lt
     have hb1:(0:Int)≤((n%256 ^^^ c.toNat:Nat):Int):=by omega
     have hb2:((n%256 ^^^ c.toNat:Nat):Int)<256:=by omega
     generalize n%256 ^^^ c.toNat=z at *
     generalize onB n c.toNat=n2 at *
     have H4:=Lib.hid h4
     clear h4 H3
     go_wp2_with fail
     go_round
     case rel=>exact ⟨j+1,n2,by omega,by go_num,rfl,hn2,H4⟩
     case measure=>simp [intOf];omega
    ·obtain rfl:j=l.length:=by omega
     have h4:=H3.out
     rw [List.drop_length,List.nil_append,← HRR.out] at h4
     have H4:=Lib.hid h4
     clear h4 H3
     go_wp2_with fail
     go_round
     case rel=>exact ⟨k+1,n,by omega,by go_num,rfl,hn,H4⟩
     case measure=>simp [intOf];omega
  ·obtain rfl:k=ls.length:=by omega
   have hn:=not_code hm
   have h2:=H.out
   rw [List.drop_length] at h2
   have h3:m=r:=h2
   subst h3
   clear h2 H
   go_wp2_with fail
   have hF:=HRes.out
   subst hF
   go_ret
   exact ⟨rfl,HB3.out⟩
end Go.Proofs.YtdfibahafilklaaGreatDoor.CR
namespace Go.Proofs.YtdfibahafilklaaGreatDoor.CR
open Go.RowKit MM CM
def Told (n:Nat) (w:World) (e:Ending) (w':World):Prop:=e=.returned (.int .u32 n)∧Below w.heap.size w w'
theorem flat_one (l:List UInt8):[l].flatten=l:=by simp
theorem sum_any (v:Value) (ls:List (List UInt8)) (w:World) (hr:PRow w v ls):Calls Tryz.prog 131 #[v] w (Told (sumL ls.flatten) w):=by
 have h:=goon_any 0 v ls w (by omega) hr
 unfold sumL Told
 generalize nextL 0 ls.flatten=F at *
 have H:=Lib.hid h
 clear h hr
 go_enter Tryz.func131,Tryz.ntmps131
 go_wp2_with fail
 refine H.out.mono ?_
 rintro e w1 ⟨rfl,hb⟩
 go_wp2_with fail
 go_ret
 exact ⟨rfl,hb⟩
end Go.Proofs.YtdfibahafilklaaGreatDoor.CR
