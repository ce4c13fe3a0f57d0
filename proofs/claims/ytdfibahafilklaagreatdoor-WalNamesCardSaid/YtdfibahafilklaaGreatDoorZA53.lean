import Derived.Test.YtdfibahafilklaaGreatDoorZA51
import Derived.Test.YtdfibahafilklaaGreatDoorZA52
set_option maxRecDepth 100000
set_option maxHeartbeats 8000000
set_option linter.unusedVariables false
set_option linter.unusedSimpArgs false
namespace Go.Proofs.YtdfibahafilklaaGreatDoor.WL
open Go Go.RowKit MM WM
theorem nameI_back {n:Int} (h:(nameI n).2=0):∃ k:Nat,n=(k:Int)∧numberW (nameI n).1=some k:=by
 unfold nameI at h ⊢
 split at h
 next hc=>simp at h
 next hc =>
  rw [if_neg hc]
  exact ⟨n.toNat,by omega,numberW_name (by omega)⟩
theorem nameI_len (n:Int):(nameI n).1.length≤12:=by
 unfold nameI
 split
 ·exact Nat.zero_le _
 ·exact Nat.le_of_eq (nameW_len _)
theorem names_walk (n:Int) (s:List UInt8) (w:World) (hs:s.length≤281474976710656) (hT:TabsW w):Calls Tryz.prog 3 #[.int .i64 n,.string ⟨s.toArray⟩] w fun e w'=>e=.returned (.bool true)∧Below w.heap.size w w':=by
 have HN:=Lib.hid (name_any n w hT)
 have HR:=Lib.hid (fun W=>rname_any n W)
 have HM:=Lib.hid (fun W hW=>number_any s W hs hW)
 have HK:=Lib.hid (fun W=>rnumber_any s W hs)
 have HBK:=Lib.hid (fun W hW=>number_any (nameI n).1 W (by have:=nameI_len n;omega) hW)
 have HBI:=Lib.hid (fun h=>nameI_back (n:=n) h)
 unfold NameLeft at HN HR
 unfold NumLeft numT at HM HK HBK
 obtain ⟨x,hx⟩:∃ x,nameI n=x:=⟨_,rfl⟩
 rw [hx] at HN HR HBK HBI
 obtain ⟨t,c⟩:=x
 dsimp only at HN HR HBK HBI
 obtain ⟨m,hm⟩:∃ m,numberW s=m:=⟨_,rfl⟩
 rw [hm] at HM HK
 obtain ⟨m2,hm2⟩:∃ m,numberW t=m:=⟨_,rfl⟩
 rw [hm2] at HBK HBI
 obtain ⟨mi,hmi⟩:∃ x:Int,((m.getD 0:Nat):Int)=x:=⟨_,rfl⟩
 obtain ⟨mb,hmb⟩:∃ x:Bool,m.isSome=x:=⟨_,rfl⟩
 rw [hmi,hmb] at HM HK
 have HT:=Lib.hid hT
 clear hT hs hx hm hm2 hmi hmb
 go_enter Tryz.func3,Tryz.ntmps3
 go_wp2_with fail
 refine HN.out.mono ?_
 rintro e w1 ⟨rfl,hb1⟩
 have HT1:=Lib.hid (HT.out.below hb1)
 have HB1:=Lib.hid hb1
 clear hb1 HN HT
 go_wp2_with fail
 refine (HR.out w1).mono ?_
 rintro e w2 ⟨rfl,hb2⟩
 have HT2:=Lib.hid (HT1.out.below hb2)
 have HB2:=Lib.hid (HB1.out.trans (hb2.mono HB1.out.size))
 clear hb2 HR HT1 HB1
 go_wp2_with fail
 refine (HM.out w2 HT2.out).mono ?_
 rintro e w3 ⟨rfl,hb3⟩
 have HT3:=Lib.hid (HT2.out.below hb3)
 have HB3:=Lib.hid (HB2.out.trans (hb3.mono HB2.out.size))
 clear hb3 HM HT2 HB2
 go_wp2_with fail
 refine (HK.out w3).mono ?_
 rintro e w4 ⟨rfl,hb4⟩
 have HT4:=Lib.hid (HT3.out.below hb4)
 have HB4:=Lib.hid (HB3.out.trans (hb4.mono HB3.out.size))
 clear hb4 HK HT3 HB3
 have hcc:(c != c)=false:=by simp
 have hmm:(mi != mi)=false:=by simp
 have hbb:(mb != mb)=false:=by simp
 by_cases hc:c=0
 ·subst hc
  obtain ⟨k,rfl,rfl⟩:=HBI.out rfl
  have hkk:(((k:Nat):Int) != ((k:Nat):Int))=false:=by simp
  dsimp only [Option.isSome_some,Option.getD_some] at HBK
  go_wp2_with fail
  refine (HBK.out w4 HT4.out).mono ?_
  rintro e w5 ⟨rfl,hb5⟩
  have HT5:=Lib.hid (HT4.out.below hb5)
  have HB5:=Lib.hid (HB4.out.trans (hb5.mono HB4.out.size))
  clear hb5 HBK HT4 HB4
  go_wp2_with fail
  refine (awake_any w5 HT5.out).mono ?_
  rintro e w6 ⟨rfl,hb6⟩
  have HB6:=Lib.hid (HB5.out.trans (hb6.mono HB5.out.size))
  clear hb6
  go_wp2_with fail
  go_ret
  exact ⟨rfl,HB6.out⟩
 ·go_wp2_with fail
  refine (awake_any w4 HT4.out).mono ?_
  rintro e w6 ⟨rfl,hb6⟩
  have HB6:=Lib.hid (HB4.out.trans (hb6.mono HB4.out.size))
  clear hb6
  go_wp2_with fail
  go_ret
  exact ⟨rfl,HB6.out⟩
theorem names_walk2 (n:Int) (s:ByteArray) (w:World) (hs:s.data.toList.length≤281474976710656) (hT:TabsW w):Calls Tryz.prog 3 #[.int .i64 n,.string s] w fun e w'=>e=.returned (.bool true)∧Below w.heap.size w w':=by
 obtain ⟨⟨l⟩⟩:=s
 exact names_walk n l w hs hT
end Go.Proofs.YtdfibahafilklaaGreatDoor.WL
