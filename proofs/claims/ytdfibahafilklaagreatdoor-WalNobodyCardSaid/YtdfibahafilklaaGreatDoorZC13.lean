import Derived.Test.YtdfibahafilklaaGreatDoorZC12
import Derived.Lib.AppendIntMem
set_option maxRecDepth 100000
set_option maxHeartbeats 8000000
set_option linter.unusedVariables false
set_option linter.unusedSimpArgs false
namespace Go.Proofs.YtdfibahafilklaaGreatDoor.WL
open Go Go.RowKit MM WM
structure TabsW (w:World):Prop where
 pow:Lib.TabIs Tryz.prog w "internal/strconv.uint64pow10" .u64 Lib.pow10Tab
 syn:∃ t p,w.cell? ⟨0,0,none⟩=some (.iface t p)
 ran:∃ t p,w.cell? ⟨1,0,none⟩=some (.iface t p)
theorem cell_lt' {w:World} {b i:Nat} {v:Value} (h:w.cell? ⟨b,i,none⟩=some v):b<w.heap.size:=Classical.byContradiction fun hn=>by
 unfold World.cell? at h
 rw [Array.getElem?_eq_none (show w.heap.size≤(⟨b,i,none⟩:Addr).block by show w.heap.size≤b;omega)] at h
 cases h
theorem TabsW.lt {w:World} (h:TabsW w):2<w.heap.size∧0<w.heap.size∧1<w.heap.size:=by
 obtain ⟨_,_,h1⟩:=h.syn
 obtain ⟨_,_,h2⟩:=h.ran
 exact ⟨cell_lt' (h.pow.cell (by kernel_rfl) 0 (by rw [Lib.pow10Tab_length];omega)),cell_lt' h1,cell_lt' h2⟩
theorem TabsW.keep {T:Nat→Prop} {w w':World} (h:TabsW w) (hk:Kep T w w') (h1:T 2) (h2:T 0) (h3:T 1):TabsW w':=by
 obtain ⟨l1,l2,l3⟩:=h.lt
 obtain ⟨t,p,e1⟩:=h.syn
 obtain ⟨t',p',e2⟩:=h.ran
 refine ⟨?_,⟨t,p,(hk.cell l2 h2 0).trans e1⟩,⟨t',p',(hk.cell l3 h3 0).trans e2⟩⟩
 have hp:=h.pow
 unfold Lib.TabIs World.var? at hp ⊢
 rw [show Tryz.prog.globalNamed "internal/strconv.uint64pow10" = some 2 by kernel_rfl] at hp ⊢
 simp only [Option.bind_some] at hp ⊢
 rw [hk.block 2 l1 h1]
 exact hp
theorem TabsW.below {w w':World} (h:TabsW w) (hb:Below w.heap.size w w'):TabsW w':=h.keep (kep_below (fun _=>True) hb) trivial trivial trivial
def LowT (B:Nat):Prop:=2<B∧0<B∧1<B
theorem LowT.mono {B C:Nat} (h:LowT B) (hB:B≤C):LowT C:=by unfold LowT at h ⊢;omega
theorem TabsW.low {w:World} (h:TabsW w):LowT w.heap.size:=h.lt
theorem rep_eq (x:UInt8):∀ n,Lib.repeatL [x] n=List.replicate n x
 | 0=>rfl
 | n+1=>by rw [Lib.repeatL,rep_eq x n,List.replicate_succ];rfl
theorem repeat_any (x:UInt8) (n:Nat) (w:World) (hn:n≤1000):Calls Tryz.prog 42 #[.string ⟨#[x]⟩,.int .i64 (n:Int)] w fun e w'=>e=.returned (.string ⟨(List.replicate n x).toArray⟩)∧Below w.heap.size w w':=by
 have h:=Tryz.strings_Repeat ⟨#[x]⟩ n w (by omega) (by show 1*n≤_;omega)
 rw [show Lib.repeatL (⟨#[x]⟩:ByteArray).data.toList n=List.replicate n x from rep_eq x n] at h
 exact h
theorem itoa_any (n:Nat) (w:World) (hn:n≤99999999) (hT:TabsW w):Calls Tryz.prog 41 #[.int .i64 (n:Int)] w fun e w'=>e=.returned (.string ⟨(Lib.decDigits n).toArray⟩)∧Below w.heap.size w w':=by
 refine (Tryz.strconv_Itoa (n:Int) (by omega) (by omega) w hT.pow).mono ?_
 rintro e w' ⟨rfl,k,os,rfl⟩
 refine ⟨?_,Lib.below_grow _ _ (Nat.le_refl _) _ _⟩
 rw [show Lib.itoa (n:Int)=Lib.decDigits n by unfold Lib.itoa;rw [if_neg (by omega)];simp]
def atoiI (l:List UInt8):Int:=match Lib.atoiAll l with
 | .ok v=>v
 | Go.Lib.NumEnd.syntax=>0
 | .range=>Lib.atoiSat l
theorem atoiI_fit (l:List UInt8) : -9223372036854775808≤atoiI l∧atoiI l≤9223372036854775807:=by
 unfold atoiI
 split
 ·rename_i v h;exact Lib.atoiAll_bounds h
 ·omega
 ·exact Lib.atoiSat_bounds l
theorem atoi_any (l:List UInt8) (w:World) (hl:l.length≤281474976710656) (hT:TabsW w):Calls Tryz.prog 43 #[.string ⟨l.toArray⟩] w fun e w'=>∃ x,e=.returned (.tuple #[.int .i64 (atoiI l),x])∧Below w.heap.size w w':=by
 have hz:(⟨l.toArray⟩:ByteArray).size=l.length:=by rw [Lib.size_eq]
 have hd:(⟨l.toArray⟩:ByteArray).data.toList=l:=by simp
 obtain ⟨t,p,e1⟩:=hT.syn
 obtain ⟨t',p',e2⟩:=hT.ran
 rcases hc:Lib.atoiAll l with v | _ | _
 ·have e:atoiI l=v:=by unfold atoiI;rw [hc]
  refine (Tryz.strconv_Atoi_ok ⟨l.toArray⟩ (by omega) v (by rw [hd];exact hc) w).mono ?_
  rintro e w' ⟨rfl,hw⟩
  refine ⟨_,by rw [e],?_⟩
  rcases hw with rfl | ⟨t,rfl⟩
  ·exact Below.refl _ _
  ·exact Lib.bytesWorld_below _ _ _
 ·have e:atoiI l=0:=by unfold atoiI;rw [hc]
  refine (Tryz.strconv_Atoi_syntax ⟨l.toArray⟩ (by omega) (by rw [hd];exact hc) _ w e1 (.inr ⟨_,_,rfl⟩)).mono ?_
  rintro e w' ⟨N,rfl,_,_,hb⟩
  exact ⟨_,by rw [e],hb⟩
 ·have e:atoiI l=Lib.atoiSat l:=by unfold atoiI;rw [hc]
  refine (Tryz.strconv_Atoi_range ⟨l.toArray⟩ (by omega) (by rw [hd];exact hc) _ w e2 (.inr ⟨_,_,rfl⟩)).mono ?_
  rintro e w' ⟨N,rfl,_,_,hb⟩
  exact ⟨_,by rw [e,hd],hb⟩
theorem trim_any (s:List UInt8) (w:World):Calls Tryz.prog 44 #[.string ⟨s.toArray⟩,.string ⟨#[108,111,103,45]⟩] w fun e w'=>e=.returned (.string ⟨(Lib.trimPrefix s [108,111,103,45]).toArray⟩)∧w=w':=by
 refine (Tryz.strings_TrimPrefix ⟨s.toArray⟩ ⟨#[108,111,103,45]⟩ w).mono ?_
 rintro e w' ⟨rfl,rfl⟩
 refine ⟨?_,rfl⟩
 rw [show (⟨s.toArray⟩:ByteArray).data.toList=s by simp]
theorem trim_len (s p:List UInt8):(Lib.trimPrefix s p).length≤s.length:=by
 unfold Lib.trimPrefix
 split
 ·rw [List.length_drop];omega
 ·exact Nat.le_refl _
def NameLeft (n:Int) (w:World) (e:Ending) (w':World):Prop:=e=.returned (.tuple #[.string ⟨(nameI n).1.toArray⟩,.int .i64 (nameI n).2])∧Below w.heap.size w w'
theorem nd_eight {n:Nat} (h:n≤99999999):(Lib.decDigits n).length≤8:=by rw [dec_len];exact nd_le 7 n (by omega)
theorem str_add (a b:List UInt8):(⟨a.toArray⟩:ByteArray)++⟨b.toArray⟩=⟨(a++b).toArray⟩:=by
 apply ByteArray.ext
 simp
theorem name_any (n:Int) (w:World) (hT:TabsW w):Calls Tryz.prog 8 #[.int .i64 n] w (NameLeft n w):=by
 unfold NameLeft nameI
 by_cases h0:n<0
 ·have t1:decide (n<0)=true:=decide_eq_true h0
  rw [if_pos (.inl h0)]
  clear h0
  go_enter Tryz.func8,Tryz.ntmps8
  go_wp2_with fail
  go_ret2
  exact ⟨rfl,Below.refl _ _⟩
 ·have t1:decide (n<0)=false:=decide_eq_false h0
  by_cases h1:99999999<n
  ·have t2:decide (n>99999999)=true:=decide_eq_true h1
   have t3:decide (99999999<n)=true:=decide_eq_true h1
   rw [if_pos (.inr h1)]
   clear h0 h1
   go_enter Tryz.func8,Tryz.ntmps8
   go_wp2_with fail
   go_ret2
   exact ⟨rfl,Below.refl _ _⟩
  ·have t2:decide (n>99999999)=false:=decide_eq_false h1
   have t3:decide (99999999<n)=false:=decide_eq_false h1
   rw [if_neg (by omega)]
   obtain ⟨m,rfl⟩:∃ m:Nat,n=(m:Int):=⟨n.toNat,by omega⟩
   have hm:m≤99999999:=by omega
   have HI:=Lib.hid (itoa_any m w hm hT)
   have hd:=nd_eight hm
   have HP:=Lib.hid (name_pad hm)
   rw [show ((m:Int)).toNat=m by omega]
   obtain ⟨D,hD⟩:∃ D,Lib.decDigits m=D:=⟨_,rfl⟩
   rw [hD] at HI hd HP
   obtain ⟨K,hK⟩:∃ K,D.length=K:=⟨_,rfl⟩
   have hz:(⟨D.toArray⟩:ByteArray).size=K:=by rw [Lib.size_eq];simpa using hK
   have q1:(8:Int) - (K:Int)=((8 - K:Nat):Int):=by omega
   have HR:=Lib.hid (fun W=>repeat_any 48 (8 - K) W (by omega))
   rw [hK] at HP hd
   have hw:wrap64 ((8 - K:Nat):Int)=((8 - K:Nat):Int):=by unfold wrap64;omega
   generalize hG:(8 - K:Nat)=G at *
   clear h0 h1 hT hD hG
   go_enter Tryz.func8,Tryz.ntmps8
   go_wp2_with fail
   refine HI.out.mono ?_
   rintro e w1 ⟨rfl,hb1⟩
   have HB1:=Lib.hid hb1
   clear hb1 HI
   go_wp2_with fail
   refine (HR.out _).mono ?_
   rintro e w2 ⟨rfl,hb2⟩
   have HB2:=Lib.hid (HB1.out.trans (hb2.mono HB1.out.size))
   clear hb2 HR HB1
   go_wp2_with fail
   go_ret2
   refine ⟨?_,HB2.out⟩
   have hs:(⟨#[108,111,103,45]⟩:ByteArray)++⟨(List.replicate G (48:UInt8)).toArray⟩++⟨D.toArray⟩=⟨(nameW m).toArray⟩:=by
    rw [show (⟨#[108,111,103,45]⟩:ByteArray)=⟨([108,111,103,45]:List UInt8).toArray⟩ from rfl,str_add,str_add,List.append_assoc,HP.out]
   exact congrArg (fun b=>Ending.returned (.tuple #[.string b,.int .i64 0])) hs
def numT (o:Option Nat):Value:=.tuple #[.int .i64 ((o.getD 0:Nat):Int),.bool o.isSome]
def NumLeft (s:List UInt8) (w:World) (e:Ending) (w':World):Prop:=e=.returned (numT (numberW s))∧Below w.heap.size w w'
theorem num_off {s:List UInt8} {k:Nat} (h:numberW s=some k):atoiI (Lib.trimPrefix s [108,111,103,45])=(k:Int):=by
 unfold numberW at h
 split at h
 ·rename_i hc
  obtain ⟨h1,h2,h3⟩:=hc
  have e:s=[108,111,103,45]++s.drop 4:=by rw [← h2,List.take_append_drop]
  have e2:Lib.trimPrefix s [108,111,103,45]=s.drop 4:=by
   unfold Lib.trimPrefix
   rw [if_pos]
   ·rfl
   ·rw [← Lib.hasPrefix_of_take,e]
    simp
  rw [e2]
  unfold atoiI
  rw [atoi_digits (by rw [List.length_drop];omega) h3]
  exact congrArg _ (Option.some.inj h)
 ·cases h
theorem number_any (s:List UInt8) (w:World) (hs:s.length≤281474976710656) (hT:TabsW w):Calls Tryz.prog 10 #[.string ⟨s.toArray⟩] w (NumLeft s w):=by
 have hl:=trim_len s [108,111,103,45]
 have hTR:=trim_any s w
 have hi:=number_is (s:=s) (m:=atoiI (Lib.trimPrefix s [108,111,103,45])) fun k hk=>num_off hk
 have hf:=atoiI_fit (Lib.trimPrefix s [108,111,103,45])
 unfold NumLeft
 obtain ⟨t,ht⟩:∃ t,Lib.trimPrefix s [108,111,103,45]=t:=⟨_,rfl⟩
 rw [ht] at hl hTR hi hf
 have hA:=atoi_any t w (by omega) hT
 obtain ⟨m,hm⟩:∃ m,atoiI t=m:=⟨_,rfl⟩
 rw [hm] at hA hi hf
 obtain ⟨N,hN⟩:∃ N,numberW s=N:=⟨_,rfl⟩
 rw [hN] at hi ⊢
 have HN:=Lib.hid (fun W h=>name_any m W h)
 have HTR:=Lib.hid hTR
 have HA:=Lib.hid hA
 have HT:=Lib.hid hT
 have hmm:0≤m∨(nameI m).2≠0:=by
  unfold nameI
  split
  ·exact .inr (by decide)
  ·exact .inl (by omega)
 unfold NameLeft at HN
 obtain ⟨⟨o,x⟩,ho⟩:∃ o,nameI m=o:=⟨_,rfl⟩
 rw [ho] at HN hmm hi
 dsimp only at HN hmm hi
 have HI:=Lib.hid hi
 clear hTR hA hT hi hl ht hm ho hN
 go_enter Tryz.func10,Tryz.ntmps10
 go_wp2_with fail
 refine HTR.out.mono ?_
 rintro e w1 ⟨rfl,rfl⟩
 clear HTR
 go_wp2_with fail
 refine HA.out.mono ?_
 rintro e w2 ⟨xx,rfl,hb2⟩
 have HT2:=Lib.hid (HT.out.below hb2)
 have HB2:=Lib.hid hb2
 clear hb2 HA HT
 go_wp2_with fail
 refine (HN.out _ HT2.out).mono ?_
 rintro e w3 ⟨rfl,hb3⟩
 have HB3:=Lib.hid (HB2.out.trans (hb3.mono HB2.out.size))
 clear hb3 HN HB2 HT2
 by_cases hx:x=0
 ·subst hx
  by_cases he:o=s
  ·have t1:(((⟨o.toArray⟩:ByteArray).toList) != ((⟨s.toArray⟩:ByteArray).toList))=false:=by rw [bne,same_list,decide_eq_true he];rfl
   have t2:(o == s)=true:=by rw [beq_iff_eq];exact he
   go_wp2_with fail
   go_ret2
   refine ⟨?_,HB3.out⟩
   have hi:=HI.out
   rw [if_pos (And.intro (by first | rfl | trivial) he)] at hi
   subst hi
   have hz:((m.toNat:Nat):Int)=m:=by omega
   exact congrArg (fun z=>Ending.returned (.tuple #[.int .i64 z,.bool true])) hz.symm
  ·have t1:(((⟨o.toArray⟩:ByteArray).toList) != ((⟨s.toArray⟩:ByteArray).toList))=true:=by rw [bne,same_list,decide_eq_false he];rfl
   have t2:(o == s)=false:=by rw [beq_eq_false_iff_ne];exact he
   go_wp2_with fail
   go_ret2
   refine ⟨?_,HB3.out⟩
   have hi:=HI.out
   rw [if_neg (fun h=>he h.2)] at hi
   subst hi
   rfl
 ·have t1:(x != 0)=true:=by rw [bne_iff_ne];exact hx
  go_wp2_with fail
  go_ret2
  refine ⟨?_,HB3.out⟩
  have hi:=HI.out
  rw [if_neg (fun h=>hx h.1)] at hi
  subst hi
  rfl
end Go.Proofs.YtdfibahafilklaaGreatDoor.WL
