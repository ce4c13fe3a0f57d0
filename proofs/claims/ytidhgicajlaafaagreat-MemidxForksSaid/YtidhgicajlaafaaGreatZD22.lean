import Derived.Test.YtidhgicajlaafaaGreatZD4
import Derived.Shelf.Unicode.DecodeSlow
set_option maxRecDepth 100000
set_option maxHeartbeats 8000000
set_option linter.unusedVariables false
set_option linter.unusedSimpArgs false
namespace Go.Proofs.YtidhgicajlaafaaGreat.UM
open Go.RowKit
def contB (s:ByteArray) (a:Nat):Bool:=decide (a<s.size∧(s.get! a).toNat / 64=2)
theorem more_no (s:ByteArray) (p:Int) (a:Nat) (n:Int) (w:World) (hp:p=(a:Int)) (h0:a<9000000000000000000) (h:contB s a=false) :
  Calls Tryz.prog 142 #[.string s,.int .i64 p,.int .i64 n] w fun e w'=>e=.returned (.tuple #[.int .i64 0,.bool false])∧w=w':=by
 subst hp
 unfold contB at h
 by_cases hl:a<s.size
 ·obtain ⟨x,hx⟩:∃ x,s.get! a=x:=⟨_,rfl⟩
  have hs0:s[a]'hl=x:=by rw [← hx];exact (Utf8W.get!_of_lt s a hl).symm
  have hd:((x.toNat:Int) / 64 == 2)=false:=by rw [hx] at h;simp at h ⊢;have:=h hl;omega
  have hd2:((x.toNat:Int) / 64 != 2)=true:=by rw [bne,hd];rfl
  have hb:(x.toNat:Int)<256:=by have:=x.toNat_lt;omega
  clear h hx
  go_enter Tryz.func142,Tryz.ntmps142
  go_wp2
  go_ret2
  exact ⟨rfl,rfl⟩
 ·have hl2:s.size≤a:=by omega
  clear h
  go_enter Tryz.func142,Tryz.ntmps142
  go_wp2
  go_ret2
  exact ⟨rfl,rfl⟩
theorem more_yes (s:ByteArray) (p:Int) (a:Nat) (n:Int) (w:World) (hp:p=(a:Int)) (hn0:0≤n) (hn1:n≤1000000) (h:contB s a=true) :
  Calls Tryz.prog 142 #[.string s,.int .i64 p,.int .i64 n] w fun e w'=>e=.returned (.tuple #[.int .i64 (n*64+((s.get! a).toNat%64:Nat)),.bool true])∧w=w':=by
 subst hp
 unfold contB at h
 obtain ⟨x,hx⟩:∃ x,s.get! a=x:=⟨_,rfl⟩
 have h2:=of_decide_eq_true h
 have hl:=h2.1
 have hs0:s[a]'hl=x:=by rw [← hx];exact (Utf8W.get!_of_lt s a hl).symm
 rw [hx] at h2 ⊢
 have hd:((x.toNat:Int) / 64 == 2)=true:=by simp;omega
 have hd2:((x.toNat:Int) / 64 != 2)=false:=by rw [bne,hd];rfl
 have hb:(x.toNat:Int)<256:=by have:=x.toNat_lt;omega
 have hq:((x.toNat:Int)%64)=((x.toNat%64:Nat):Int):=by omega
 have Hq:=Lib.hid hq
 clear h hx h2 hq
 go_enter Tryz.func142,Tryz.ntmps142
 go_wp2
 go_ret2
 rw [Hq.out]
 exact ⟨rfl,rfl⟩
def rowF (s:ByteArray):Nat→Nat→Int→Int×Bool
 | 0,_,n=>(n,true)
 | k+1,a,n=>if contB s a then rowF s k (a+1) (n*64+((s.get! a).toNat%64:Nat)) else (0,false)
theorem rowF_zero (s:ByteArray) (a:Nat) (n:Int):rowF s 0 a n=(n,true):=rfl
theorem rowF_yes (s:ByteArray) (k a:Nat) (n:Int) (h:contB s a=true):rowF s (k+1) a n=rowF s k (a+1) (n*64+((s.get! a).toNat%64:Nat)):=by rw [rowF,if_pos h]
theorem rowF_no (s:ByteArray) (k a:Nat) (n:Int) (h:contB s a=false):rowF s (k+1) a n=(0,false):=by rw [rowF,if_neg (by simp [h])]
def RowB (j:Nat) (m:Int):Prop:=0≤m∧((j=0∧m≤31)∨(j=1∧m≤2047)∨(j=2∧m≤131071)∨(j=3∧m≤8388607))
theorem RowB.lo {j:Nat} {m:Int} (h:RowB j m):0≤m:=h.1
theorem RowB.hi {j:Nat} {m:Int} (h:RowB j m) (hj:j<3):m≤1000000:=by unfold RowB at h;omega
theorem RowB.next {j:Nat} {m:Int} (h:RowB j m) (hj:j<3) (x:Nat):RowB (j+1) (m*64+(x%64:Nat)):=by unfold RowB at *;omega
theorem row_any (s:ByteArray) (a k:Nat) (n z:Int) (w:World) (hz:z=(k:Int)+1) (hk:k≤3) (hn0:0≤n) (hn1:n≤31) (ha:a<8000000000000000000) :
  Calls Tryz.prog 125 #[.string s,.int .i64 a,.int .i64 n,.int .i64 z] w fun e w'=>e=.returned (.tuple #[.int .i64 (rowF s k (a+1) n).1,.bool (rowF s k (a+1) n).2])∧w=w':=by
 subst hz
 have B0:RowB 0 n:=⟨hn0,by omega⟩
 clear hn0 hn1
 obtain ⟨res,hres⟩:∃ res,rowF s k (a+1) n=res:=⟨_,rfl⟩
 have Hres:=Lib.hid hres
 rw [hres]
 clear hres
 go_enter Tryz.func125,Tryz.ntmps125
 go_wp2
 go_loop [2,10] (fun u i=>∃ (j:Nat) (m:Int),j≤k∧i=.int .i64 ((j:Int)+1)∧u=.int .i64 m∧RowB j m∧Hid (rowF s (k - j) (a+1+j) m=res)) (fun _ i=>k+1 - (intOf i).toNat)
 case atStart=>exact ⟨0,n,by omega,rfl,rfl,B0,by have:=Hres.out;exact this⟩
 case round =>
  obtain ⟨j,m,hj,rfl,rfl,hB,HR⟩:=hrel
  clear Hres B0
  have hm0:=hB.lo
  by_cases hlt:j<k
  ·have hm1:=hB.hi (by omega)
   obtain ⟨q,hq⟩:∃ q,k - j=q+1:=⟨k - j - 1,by omega⟩
   have hR:=HR.out
   rw [hq] at hR
   by_cases hc:contB s (a+1+j)=true
   ·rw [rowF_yes _ _ _ _ hc] at hR
    have hB1:=hB.next (by omega) (s.get! (a+1+j)).toNat
    obtain ⟨m2,hm2⟩:∃ m2,m*64+(((s.get! (a+1+j)).toNat%64:Nat):Int)=m2:=⟨_,rfl⟩
    have hmore:=fun W=>more_yes s ((a:Int)+((j:Int)+1)) (a+1+j) m W (by omega) hm0 hm1 hc
    rw [hm2] at hR hB1
    simp only [hm2] at hmore
    clear hm2
    have HR':=Lib.hid hR
    have Hq:=Lib.hid hq
    have Hm:=Lib.hid hmore
    clear hR HR hc hq hmore
    go_wp2_with fail
    refine (Hm.out _).mono ?_
    rintro e w' ⟨rfl,rfl⟩
    go_wp2
    go_round
    case rel=>exact ⟨j+1,m2,by omega,by go_num,rfl,hB1,by have h1:=Hq.out;have h2:=HR'.out;rw [show k - (j+1)=q by omega,show a+1+(j+1)=a+1+j+1 by omega];exact h2⟩
    case measure=>simp [intOf];omega
   ·have hc:contB s (a+1+j)=false:=by simpa using hc
    rw [rowF_no _ _ _ _ hc] at hR
    have hmore:=fun W=>more_no s ((a:Int)+((j:Int)+1)) (a+1+j) m W (by omega) (by omega) hc
    have HR':=Lib.hid hR
    have Hq:=Lib.hid hq
    have Hm:=Lib.hid hmore
    clear hR HR hc hq hmore
    go_wp2_with fail
    refine (Hm.out _).mono ?_
    rintro e w' ⟨rfl,rfl⟩
    go_wp2
    go_ret2
    rw [← HR'.out]
    exact ⟨rfl,rfl⟩
  ·obtain rfl:j=k:=by omega
   have hR:=HR.out
   rw [Nat.sub_self,rowF_zero] at hR
   have HR':=Lib.hid hR
   clear hR HR
   go_wp2
   go_ret2
   rw [← HR'.out]
   exact ⟨rfl,rfl⟩
end Go.Proofs.YtidhgicajlaafaaGreat.UM
namespace Go.Proofs.YtidhgicajlaafaaGreat.UM
open Go.RowKit
theorem contB_iff (s:ByteArray) (a:Nat):contB s a=true↔a<s.size∧(s.get! a).toNat / 64=2:=by unfold contB;exact decide_eq_true_iff
theorem rowF_nonneg (s:ByteArray):∀ (k a:Nat) (n:Int),0≤n→0≤(rowF s k a n).1
 | 0,a,n,h=>h
 | k+1,a,n,h=>by
   by_cases c:contB s a=true
   ·rw [rowF_yes _ _ _ _ c];exact rowF_nonneg s k _ _ (by omega)
   ·rw [rowF_no _ _ _ _ (by simpa using c)];exact Int.le_refl 0
theorem close3 (V:Nat) (hV:V≤65535):(if V≥2048∧(V<55296∨(57344≤V∧V≤1114111)) then (V,3) else (65533,1))=if true=true∧2048≤(V:Int)∧((V:Int)<55296∨57343<(V:Int)) then ((V:Int).toNat,3) else (65533,1):=by
 by_cases h:V≥2048∧(V<55296∨(57344≤V∧V≤1114111))
 ·rw [if_pos h,if_pos ⟨rfl,by omega,by omega⟩];rfl
 ·rw [if_neg h,if_neg (fun q=>h ⟨by have:=q.2.1;omega,by have:=q.2.2;omega⟩)]
theorem close4 (V:Nat):(if V≥65536∧(V<55296∨(57344≤V∧V≤1114111)) then (V,4) else (65533,1))=if true=true∧65536≤(V:Int)∧(V:Int)≤1114111 then ((V:Int).toNat,4) else (65533,1):=by
 by_cases h:V≥65536∧(V<55296∨(57344≤V∧V≤1114111))
 ·rw [if_pos h,if_pos ⟨rfl,by omega,by omega⟩];rfl
 ·rw [if_neg h,if_neg (fun q=>h ⟨by have:=q.2.1;omega,by have:=q.2.1;have:=q.2.2;omega⟩)]
theorem dec1 (s:ByteArray) (a:Nat) (h:(s.get! a).toNat<128):Utf8.decode s a=((s.get! a).toNat,1):=by
 rw [Lib.decode_at,Lib.decodeN,if_pos h]
theorem dec2 (s:ByteArray) (a:Nat) (hl:a<s.size) (h:(s.get! a).toNat / 32=6) :
  Utf8.decode s a=if (rowF s 1 (a+1) ((s.get! a).toNat%32:Nat)).2=true∧128≤(rowF s 1 (a+1) ((s.get! a).toNat%32:Nat)).1 then ((rowF s 1 (a+1) ((s.get! a).toNat%32:Nat)).1.toNat,2) else (65533,1):=by
 rw [Lib.decode_at,Lib.decodeN,if_neg (by omega)]
 by_cases c1:contB s (a+1)=true
 ·have k1:=(contB_iff _ _).1 c1
  rw [rowF_yes _ _ _ _ c1,rowF_zero,if_pos ⟨h,by omega,k1.2⟩]
  dsimp only
  split
  ·rw [if_pos ⟨rfl,by omega⟩];rfl
  ·rw [if_neg (fun q=>by omega)]
 ·have k1:¬ (a+1<s.size∧(s.get! (a+1)).toNat / 64=2):=fun q=>c1 ((contB_iff _ _).2 q)
  rw [rowF_no _ _ _ _ (by simpa using c1),if_neg (by omega),if_neg (by omega),if_neg (by omega),if_neg (by simp)]
theorem dec3 (s:ByteArray) (a:Nat) (hl:a<s.size) (h:(s.get! a).toNat / 16=14) :
  Utf8.decode s a=if (rowF s 2 (a+1) ((s.get! a).toNat%16:Nat)).2=true∧2048≤(rowF s 2 (a+1) ((s.get! a).toNat%16:Nat)).1∧((rowF s 2 (a+1) ((s.get! a).toNat%16:Nat)).1<55296∨57343<(rowF s 2 (a+1) ((s.get! a).toNat%16:Nat)).1) then ((rowF s 2 (a+1) ((s.get! a).toNat%16:Nat)).1.toNat,3) else (65533,1):=by
 rw [Lib.decode_at,Lib.decodeN,if_neg (by omega),if_neg (by omega)]
 by_cases c1:contB s (a+1)=true
 ·have k1:=(contB_iff _ _).1 c1
  rw [rowF_yes _ _ _ _ c1]
  by_cases c2:contB s (a+1+1)=true
  ·have k2:=(contB_iff _ _).1 c2
   rw [rowF_yes _ _ _ _ c2,rowF_zero,if_pos ⟨h,⟨by omega,k1.2⟩,by omega,k2.2⟩]
   rw [show a+1+1=a+2 by omega]
   have hV:((((s.get! a).toNat%16:Nat):Int)*64+(((s.get! (a+1)).toNat%64:Nat):Int))*64+(((s.get! (a+2)).toNat%64:Nat):Int)=(((s.get! a).toNat%16*4096+(s.get! (a+1)).toNat%64*64+(s.get! (a+2)).toNat%64:Nat):Int):=by omega
   rw [hV]
   obtain ⟨V,hVd,hVb⟩:∃ V,(s.get! a).toNat%16*4096+(s.get! (a+1)).toNat%64*64+(s.get! (a+2)).toNat%64=V∧V≤65535:=⟨_,rfl,by omega⟩
   rw [hVd]
   exact close3 V hVb
  ·have k2:¬ (a+2<s.size∧(s.get! (a+2)).toNat / 64=2):=fun q=>c2 ((contB_iff _ _).2 q)
   rw [rowF_no _ _ _ _ (by simpa using c2),if_neg (by omega),if_neg (by omega),if_neg (by simp)]
 ·have k1:¬ (a+1<s.size∧(s.get! (a+1)).toNat / 64=2):=fun q=>c1 ((contB_iff _ _).2 q)
  rw [rowF_no _ _ _ _ (by simpa using c1),if_neg (by omega),if_neg (by omega),if_neg (by simp)]
theorem dec4 (s:ByteArray) (a:Nat) (hl:a<s.size) (h:(s.get! a).toNat / 8=30) :
  Utf8.decode s a=if (rowF s 3 (a+1) ((s.get! a).toNat%8:Nat)).2=true∧65536≤(rowF s 3 (a+1) ((s.get! a).toNat%8:Nat)).1∧(rowF s 3 (a+1) ((s.get! a).toNat%8:Nat)).1≤1114111 then ((rowF s 3 (a+1) ((s.get! a).toNat%8:Nat)).1.toNat,4) else (65533,1):=by
 rw [Lib.decode_at,Lib.decodeN,if_neg (by omega),if_neg (by omega),if_neg (by omega)]
 by_cases c1:contB s (a+1)=true
 ·have k1:=(contB_iff _ _).1 c1
  rw [rowF_yes _ _ _ _ c1]
  by_cases c2:contB s (a+1+1)=true
  ·have k2:=(contB_iff _ _).1 c2
   rw [rowF_yes _ _ _ _ c2]
   by_cases c3:contB s (a+1+1+1)=true
   ·have k3:=(contB_iff _ _).1 c3
    rw [rowF_yes _ _ _ _ c3,rowF_zero,if_pos ⟨h,⟨by omega,k1.2⟩,⟨by omega,k2.2⟩,by omega,k3.2⟩]
    rw [show a+1+1+1=a+3 by omega,show a+1+1=a+2 by omega]
    have hV:(((((s.get! a).toNat%8:Nat):Int)*64+(((s.get! (a+1)).toNat%64:Nat):Int))*64+(((s.get! (a+2)).toNat%64:Nat):Int))*64+(((s.get! (a+3)).toNat%64:Nat):Int)=(((s.get! a).toNat%8*262144+(s.get! (a+1)).toNat%64*4096+(s.get! (a+2)).toNat%64*64+(s.get! (a+3)).toNat%64:Nat):Int):=by omega
    rw [hV]
    obtain ⟨V,hVd⟩:∃ V,(s.get! a).toNat%8*262144+(s.get! (a+1)).toNat%64*4096+(s.get! (a+2)).toNat%64*64+(s.get! (a+3)).toNat%64=V:=⟨_,rfl⟩
    rw [hVd]
    exact close4 V
   ·have k3:¬ (a+3<s.size∧(s.get! (a+3)).toNat / 64=2):=fun q=>c3 ((contB_iff _ _).2 q)
    rw [rowF_no _ _ _ _ (by simpa using c3),if_neg (by omega),if_neg (by simp)]
  ·have k2:¬ (a+2<s.size∧(s.get! (a+2)).toNat / 64=2):=fun q=>c2 ((contB_iff _ _).2 q)
   rw [rowF_no _ _ _ _ (by simpa using c2),if_neg (by omega),if_neg (by simp)]
 ·have k1:¬ (a+1<s.size∧(s.get! (a+1)).toNat / 64=2):=fun q=>c1 ((contB_iff _ _).2 q)
  rw [rowF_no _ _ _ _ (by simpa using c1),if_neg (by omega),if_neg (by simp)]
theorem dec0 (s:ByteArray) (a:Nat) (h0:¬ (s.get! a).toNat<128) (h2:¬ (s.get! a).toNat / 32=6) (h3:¬ (s.get! a).toNat / 16=14) (h4:¬ (s.get! a).toNat / 8=30):Utf8.decode s a=(65533,1):=by
 rw [Lib.decode_at,Lib.decodeN,if_neg h0,if_neg (by omega),if_neg (by omega),if_neg (by omega)]
theorem ret_pair {a b c d:Int} (h:a=b) (k:c=d):Ending.returned (.tuple #[.int .i64 a,.int .i64 c])=.returned (.tuple #[.int .i64 b,.int .i64 d]):=by rw [h,k]
theorem rdec_out (s:ByteArray) (p:Int) (w:World) (hp:p<0∨s.size≤p) :
  Calls Tryz.prog 102 #[.string s,.int .i64 p] w fun e w'=>e=.returned (.tuple #[.int .i64 0,.int .i64 0])∧w=w':=by
 rcases hp with hp | hp
 ·go_enter Tryz.func102,Tryz.ntmps102
  go_wp2
  go_ret2
  exact ⟨rfl,rfl⟩
 ·have h0:¬ p<0:=by omega
  go_enter Tryz.func102,Tryz.ntmps102
  go_wp2
  go_ret2
  exact ⟨rfl,rfl⟩
theorem rdec_in (s:ByteArray) (a:Nat) (w:World) (hs:s.size≤4000000000000000000) (hl:a<s.size) :
  Calls Tryz.prog 102 #[.string s,.int .i64 a] w fun e w'=>e=.returned (.tuple #[.int .i64 (Utf8.decode s a).1,.int .i64 (Utf8.decode s a).2])∧w=w':=by
 have d1:=dec1 s a
 have d2:=dec2 s a hl
 have d3:=dec3 s a hl
 have d4:=dec4 s a hl
 have d0:=dec0 s a
 have r2:=fun W=>row_any s a 1 ((s.get! a).toNat%32:Nat) 2 W (by omega) (by omega) (by omega) (by omega) (by omega)
 have r3:=fun W=>row_any s a 2 ((s.get! a).toNat%16:Nat) 3 W (by omega) (by omega) (by omega) (by omega) (by omega)
 have r4:=fun W=>row_any s a 3 ((s.get! a).toNat%8:Nat) 4 W (by omega) (by omega) (by omega) (by omega) (by omega)
 have n2:=rowF_nonneg s 1 (a+1) ((s.get! a).toNat%32:Nat) (by omega)
 have n3:=rowF_nonneg s 2 (a+1) ((s.get! a).toNat%16:Nat) (by omega)
 have n4:=rowF_nonneg s 3 (a+1) ((s.get! a).toNat%8:Nat) (by omega)
 obtain ⟨x,hx⟩:∃ x,s.get! a=x:=⟨_,rfl⟩
 have hs0:s[a]'hl=x:=by rw [← hx];exact (Utf8W.get!_of_lt s a hl).symm
 rw [hx] at d1 d2 d3 d4 d0 n2 n3 n4
 simp only [hx] at r2 r3 r4
 clear hx
 have hb:(x.toNat:Int)<256:=by have:=x.toNat_lt;omega
 have e2:((x.toNat:Int)%32)=((x.toNat%32:Nat):Int):=by omega
 have e3:((x.toNat:Int)%16)=((x.toNat%16:Nat):Int):=by omega
 have e4:((x.toNat:Int)%8)=((x.toNat%8:Nat):Int):=by omega
 obtain ⟨⟨v2,k2⟩,g2⟩:∃ r,rowF s 1 (a+1) ((x.toNat%32:Nat):Int)=r:=⟨_,rfl⟩
 obtain ⟨⟨v3,k3⟩,g3⟩:∃ r,rowF s 2 (a+1) ((x.toNat%16:Nat):Int)=r:=⟨_,rfl⟩
 obtain ⟨⟨v4,k4⟩,g4⟩:∃ r,rowF s 3 (a+1) ((x.toNat%8:Nat):Int)=r:=⟨_,rfl⟩
 rw [g2] at d2 n2
 rw [g3] at d3 n3
 rw [g4] at d4 n4
 simp only [g2] at r2
 simp only [← e2] at r2
 simp only [g3] at r3
 simp only [← e3] at r3
 simp only [g4] at r4
 simp only [← e4] at r4
 clear g2 g3 g4 e2 e3 e4
 dsimp only at d2 d3 d4 n2 n3 n4
 obtain ⟨D,hD⟩:∃ D,Utf8.decode s a=D:=⟨_,rfl⟩
 rw [hD] at d0 d1 d2 d3 d4 ⊢
 clear hD
 have R2:=Lib.hid r2
 have R3:=Lib.hid r3
 have R4:=Lib.hid r4
 clear r2 r3 r4
 by_cases c1:x.toNat<128
 ·obtain rfl:=d1 c1
  have c1z:(x.toNat:Int)<128:=by omega
  clear d0 d1 d2 d3 d4
  go_enter Tryz.func102,Tryz.ntmps102
  go_wp2
  go_ret2
  exact ⟨rfl,rfl⟩
 ·have c1z:¬ (x.toNat:Int)<128:=by omega
  by_cases c2:x.toNat / 32=6
  ·have q2:((x.toNat:Int) / 32 == 6)=true:=by simp;omega
   have q3:((x.toNat:Int) / 16 == 14)=false:=by simp;omega
   have q4:((x.toNat:Int) / 8 == 30)=false:=by simp;omega
   have D2:=d2 c2
   clear d0 d1 d2 d3 d4 c1 c2
   by_cases t:k2=true∧128≤v2
   ·rw [if_pos t] at D2
    obtain ⟨rfl,t2⟩:=t
    subst D2
    go_enter Tryz.func102,Tryz.ntmps102
    go_wp2_with fail
    refine (R2.out _).mono ?_
    rintro e w' ⟨rfl,rfl⟩
    go_wp2
    go_ret2
    exact ⟨ret_pair (by omega) rfl,rfl⟩
   ·rw [if_neg t] at D2
    subst D2
    cases k2
    ·clear t
     go_enter Tryz.func102,Tryz.ntmps102
     go_wp2_with fail
     refine (R2.out _).mono ?_
     rintro e w' ⟨rfl,rfl⟩
     go_wp2
     go_ret2
     exact ⟨rfl,rfl⟩
    ·have t2:v2<128:=by simp at t;omega
     clear t
     go_enter Tryz.func102,Tryz.ntmps102
     go_wp2_with fail
     refine (R2.out _).mono ?_
     rintro e w' ⟨rfl,rfl⟩
     go_wp2
     go_ret2
     exact ⟨rfl,rfl⟩
  ·by_cases c3:x.toNat / 16=14
   ·have q2:((x.toNat:Int) / 32 == 6)=false:=by simp;omega
    have q3:((x.toNat:Int) / 16 == 14)=true:=by simp;omega
    have q4:((x.toNat:Int) / 8 == 30)=false:=by simp;omega
    have D3:=d3 c3
    clear d0 d1 d2 d3 d4 c1 c2 c3
    by_cases t:k3=true∧2048≤v3∧(v3<55296∨57343<v3)
    ·rw [if_pos t] at D3
     obtain ⟨rfl,t2,t3⟩:=t
     subst D3
     by_cases t4:v3<55296
     ·clear t3
      go_enter Tryz.func102,Tryz.ntmps102
      go_wp2_with fail
      refine (R3.out _).mono ?_
      rintro e w' ⟨rfl,rfl⟩
      go_wp2
      go_ret2
      exact ⟨ret_pair (by omega) rfl,rfl⟩
     ·have t5:57343<v3:=by omega
      clear t3
      go_enter Tryz.func102,Tryz.ntmps102
      go_wp2_with fail
      refine (R3.out _).mono ?_
      rintro e w' ⟨rfl,rfl⟩
      go_wp2
      go_ret2
      exact ⟨ret_pair (by omega) rfl,rfl⟩
    ·rw [if_neg t] at D3
     subst D3
     cases k3
     ·clear t
      go_enter Tryz.func102,Tryz.ntmps102
      go_wp2_with fail
      refine (R3.out _).mono ?_
      rintro e w' ⟨rfl,rfl⟩
      go_wp2
      go_ret2
      exact ⟨rfl,rfl⟩
     ·by_cases t2:v3<2048
      ·clear t
       go_enter Tryz.func102,Tryz.ntmps102
       go_wp2_with fail
       refine (R3.out _).mono ?_
       rintro e w' ⟨rfl,rfl⟩
       go_wp2
       go_ret2
       exact ⟨rfl,rfl⟩
      ·have t3:¬ v3<55296:=by simp at t;omega
       have t4:¬ 57343<v3:=by simp at t;omega
       clear t
       go_enter Tryz.func102,Tryz.ntmps102
       go_wp2_with fail
       refine (R3.out _).mono ?_
       rintro e w' ⟨rfl,rfl⟩
       go_wp2
       go_ret2
       exact ⟨rfl,rfl⟩
   ·by_cases c4:x.toNat / 8=30
    ·have q2:((x.toNat:Int) / 32 == 6)=false:=by simp;omega
     have q3:((x.toNat:Int) / 16 == 14)=false:=by simp;omega
     have q4:((x.toNat:Int) / 8 == 30)=true:=by simp;omega
     have D4:=d4 c4
     clear d0 d1 d2 d3 d4 c1 c2 c3 c4
     by_cases t:k4=true∧65536≤v4∧v4≤1114111
     ·rw [if_pos t] at D4
      obtain ⟨rfl,t2,t3⟩:=t
      subst D4
      go_enter Tryz.func102,Tryz.ntmps102
      go_wp2_with fail
      refine (R4.out _).mono ?_
      rintro e w' ⟨rfl,rfl⟩
      go_wp2
      go_ret2
      exact ⟨ret_pair (by omega) rfl,rfl⟩
     ·rw [if_neg t] at D4
      subst D4
      cases k4
      ·clear t
       go_enter Tryz.func102,Tryz.ntmps102
       go_wp2_with fail
       refine (R4.out _).mono ?_
       rintro e w' ⟨rfl,rfl⟩
       go_wp2
       go_ret2
       exact ⟨rfl,rfl⟩
      ·by_cases t2:v4<65536
       ·clear t
        go_enter Tryz.func102,Tryz.ntmps102
        go_wp2_with fail
        refine (R4.out _).mono ?_
        rintro e w' ⟨rfl,rfl⟩
        go_wp2
        go_ret2
        exact ⟨rfl,rfl⟩
       ·have t3:¬ v4≤1114111:=by simp at t;omega
        clear t
        go_enter Tryz.func102,Tryz.ntmps102
        go_wp2_with fail
        refine (R4.out _).mono ?_
        rintro e w' ⟨rfl,rfl⟩
        go_wp2
        go_ret2
        exact ⟨rfl,rfl⟩
    ·have q2:((x.toNat:Int) / 32 == 6)=false:=by simp;omega
     have q3:((x.toNat:Int) / 16 == 14)=false:=by simp;omega
     have q4:((x.toNat:Int) / 8 == 30)=false:=by simp;omega
     obtain rfl:=d0 c1 c2 c3 c4
     clear d1 d2 d3 d4 d0 c1 c2 c3 c4
     go_enter Tryz.func102,Tryz.ntmps102
     go_wp2
     go_ret2
     exact ⟨rfl,rfl⟩
end Go.Proofs.YtidhgicajlaafaaGreat.UM
