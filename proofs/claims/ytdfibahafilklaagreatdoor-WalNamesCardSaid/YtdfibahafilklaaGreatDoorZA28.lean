import Derived.Test.YtdfibahafilklaaGreatDoorZA6
import Derived.Test.YtdfibahafilklaaGreatDoorZA11
set_option maxRecDepth 100000
set_option maxHeartbeats 8000000
set_option linter.unusedVariables false
set_option linter.unusedSimpArgs false
namespace Go.Proofs.YtdfibahafilklaaGreatDoor.TK
open Go.RowKit MM
theorem nameRune_byte (c:UInt8):nameRune (c.toNat:Int)=nameByte c:=by unfold nameRune nameByte;congr 1;simp;omega
theorem decode_first (l:List UInt8) (c:UInt8) (t:List UInt8) (hl:l=c::t):(c.toNat<128→Lib.decodeL l=(c.toNat,1))∧(128≤c.toNat→nameRune ((Lib.decodeL l).1:Int)=false):=by
 constructor
 ·intro h
  have e:Lib.encodeRune (c.toNat:Int)=[c]:=by
   unfold Lib.encodeRune
   rw [Lib.encodeRuneZ_one (by omega) (by omega)]
   simp
  have:=UM.decode_enc (c.toNat:Int) t
  rw [e,List.singleton_append,← hl] at this
  rw [this,UM.norm_of_good _ (by omega)]
  simp
 ·intro h
  rcases UM.decode_back l (by rw [hl];simp) with ⟨h1,_⟩ | h1
  ·rw [h1];decide
  ·by_cases hr:(Lib.decodeL l).1<128
   ·exfalso
    unfold Lib.encodeRune at h1
    rw [Lib.encodeRuneZ_one (by omega) (by omega)] at h1
    have hw:=Lib.decodeL_width l
    rw [hl] at h1 hw
    obtain ⟨d,hd⟩:∃ d,(Lib.decodeL (c::t)).2=d+1:=⟨(Lib.decodeL (c::t)).2 - 1,by omega⟩
    rw [hd,List.take_succ_cons] at h1
    simp only [List.map_cons,List.map_nil,List.cons.injEq] at h1
    have h2:=congrArg UInt8.toNat h1.1
    rw [← hl] at h2
    simp at h2
    omega
   ·unfold nameRune
    simp
    omega
theorem idx_name (s:ByteArray):∀ (f pos:Nat),s.size≤pos+f→(decide (0≤Lib.idxFuncFrom (fun x => !nameRune (x:Int)) true s f pos)) = !((s.data.toList.drop pos).all nameByte)
 | 0,pos,h=>by
   have:s.data.toList.drop pos=[]:=List.drop_eq_nil_of_le (by rw [← Lib.size_eq];omega)
   rw [this]
   simp [Lib.idxFuncFrom]
 | f+1,pos,h=>by
   unfold Lib.idxFuncFrom
   by_cases hp:pos<s.size
   ·rw [if_pos hp]
    have hpl:pos<s.data.toList.length:=by rw [← Lib.size_eq];exact hp
    have hd:s.data.toList.drop pos=s.data.toList[pos]::s.data.toList.drop (pos+1):=List.drop_eq_getElem_cons hpl
    have hde:Utf8.decode s pos=Lib.decodeL (s.data.toList.drop pos):=(Lib.decodeL_drop _ _).symm
    obtain ⟨h1,h2⟩:=decode_first _ _ _ hd
    rw [hde]
    by_cases hc:(s.data.toList[pos]).toNat<128
    ·rw [h1 hc,hd]
     simp only [nameRune_byte,List.all_cons]
     cases hn:nameByte s.data.toList[pos] with
     | true =>
       simp only [Bool.not_true,Bool.true_and]
       exact idx_name s f (pos+1) (by omega)
     | false=>simp
    ·rw [hd,List.all_cons]
     rw [hd] at h2
     have hn:nameByte s.data.toList[pos]=false:=by unfold nameByte;rw [decide_eq_false_iff_not];omega
     simp only [h2 (by omega),Bool.not_false,if_true,hn,Bool.false_and]
     simp
   ·rw [if_neg hp]
    have:s.data.toList.drop pos=[]:=List.drop_eq_nil_of_le (by rw [← Lib.size_eq];omega)
    rw [this]
    simp
theorem idx_all (s:ByteArray):decide (0≤Lib.idxFunc (fun x => !nameRune (x:Int)) true s) = !(s.data.toList.all nameByte):=by
 have:=idx_name s s.size 0 (by omega)
 rw [List.drop_zero] at this
 exact this
theorem isodd_any (c:Nat) (w:World) (hc:c≤1114111):Calls Tryz.prog 206 #[.int .i32 (c:Int)] w fun e w'=>e=.returned (.bool (!nameRune (c:Int)))∧Below w.heap.size w w':=by
 rcases (by omega:c<48∨(48≤c∧c≤57)∨(58≤c∧c≤94)∨c=95∨c=96∨(97≤c∧c≤122)∨122<c) with h | h | h | h | h | h | h
 all_goals (
  first | (have a1:decide ((c:Int)<97)=true:=by (rw [decide_eq_true_eq];omega)) | (have a1:decide ((c:Int)<97)=false:=by (rw [decide_eq_false_iff_not];omega))
  first | (have a2:decide ((c:Int)>122)=true:=by (rw [decide_eq_true_eq];omega)) | (have a2:decide ((c:Int)>122)=false:=by (rw [decide_eq_false_iff_not];omega))
  first | (have a3:decide ((c:Int)<48)=true:=by (rw [decide_eq_true_eq];omega)) | (have a3:decide ((c:Int)<48)=false:=by (rw [decide_eq_false_iff_not];omega))
  first | (have a4:decide ((c:Int)>57)=true:=by (rw [decide_eq_true_eq];omega)) | (have a4:decide ((c:Int)>57)=false:=by (rw [decide_eq_false_iff_not];omega))
  first | (have a5:((c:Int) == 95)=true:=by (rw [beq_iff_eq];omega)) | (have a5:((c:Int) == 95)=false:=by (rw [beq_eq_false_iff_ne];omega))
  have b5:((c:Int) != 95) = !((c:Int) == 95):=rfl
  rw [a5] at b5
  simp only [Bool.not_true,Bool.not_false] at b5
  first | (have hok:nameRune (c:Int)=true:=by (unfold nameRune;rw [decide_eq_true_eq];omega)) | (have hok:nameRune (c:Int)=false:=by (unfold nameRune;rw [decide_eq_false_iff_not];omega))
  have HOK:=Lib.hid hok
  clear h hok
  go_enter Tryz.func206,Tryz.ntmps206
  go_wp2_with fail
  go_ret
  rw [HOK.out]
  exact ⟨rfl,Below.refl _ _⟩)
theorem odd_pays (w:World):PredGrows Tryz.prog 206 #[] (fun x => !nameRune (x:Int)) w:=by
 intro W x hx _
 exact isodd_any x W hx
theorem confun_any (s:ByteArray) (w:World):Calls Tryz.prog 205 #[.string s,.func (.func 206) #[] #[]] w fun e w'=>e=.returned (.bool (!(s.data.toList.all nameByte)))∧Below w.heap.size w w':=by
 have:=Tryz.strings_ContainsFunc_grows 206 #[] (fun args w=>by kernel_rfl) (fun x => !nameRune (x:Int)) s w (odd_pays w)
 rw [idx_all] at this
 exact this
def TruthLeft (b:Bool) (w:World) (e:Ending) (w':World):Prop:=e=.returned (.bool b)∧Below w.heap.size w w'
theorem isname_any (s:ByteArray) (w:World):Calls Tryz.prog 190 #[.string s] w (TruthLeft (nameL s.data.toList) w):=by
 have hz:=Lib.size_eq s
 by_cases h0:s.size=0
 ·have hn:nameL s.data.toList=false:=by unfold nameL;rw [← hz];simp;omega
  rw [hn]
  have t1:decide ((s.size:Int)≥1)=false:=by rw [decide_eq_false_iff_not];omega
  clear hz h0 hn
  go_enter Tryz.func190,Tryz.ntmps190
  go_wp2_with fail
  go_ret
  exact ⟨rfl,Below.refl _ _⟩
 ·have t1:decide ((s.size:Int)≥1)=true:=by rw [decide_eq_true_eq];omega
  by_cases h1:s.size≤32
  ·have hn:nameL s.data.toList=s.data.toList.all nameByte:=by
    unfold nameL
    rw [← hz,decide_eq_true (by omega),Bool.true_and]
   rw [hn]
   have t2:decide ((s.size:Int)≤32)=true:=by rw [decide_eq_true_eq];omega
   have hc:=confun_any s
   obtain ⟨b,hb⟩:∃ b,s.data.toList.all nameByte=b:=⟨_,rfl⟩
   rw [hb]
   simp only [hb] at hc
   have HC:=Lib.hid hc
   clear hz h0 h1 hn hb hc
   go_enter Tryz.func190,Tryz.ntmps190
   go_wp2_with fail
   refine (HC.out _).mono ?_
   rintro e w2 ⟨rfl,hb2⟩
   have HB:=Lib.hid hb2
   clear hb2 HC
   go_wp2_with fail
   go_ret
   exact ⟨rfl,HB.out⟩
  ·have hn:nameL s.data.toList=false:=by unfold nameL;rw [← hz];simp;omega
   rw [hn]
   have t2:decide ((s.size:Int)≤32)=false:=by rw [decide_eq_false_iff_not];omega
   clear hz h0 h1 hn
   go_enter Tryz.func190,Tryz.ntmps190
   go_wp2_with fail
   go_ret
   exact ⟨rfl,Below.refl _ _⟩
theorem str_index {s:ByteArray} {l:List UInt8} (hl:s.data.toList=l) {i:Nat} {c:UInt8} (hi:l[i]? = some c) (W:World):(Instr.index 9 (.string s) (.int .i64 (i:Int))).run Tryz.prog W=.ok (.int .u8 (c.toNat:Int)) W:=by
 obtain ⟨hlt,he⟩:=List.getElem?_eq_some_iff.1 hi
 have hsz:s.size=l.length:=by rw [Lib.size_eq,hl]
 rw [run_index_string W 9 s .i64 i Tryz.underlying9,dif_pos ⟨by omega,by omega⟩]
 subst hl
 have e:(s[(i:Int).toNat]'(by omega))=c:=by
  rw [← he]
  simp only [Int.toNat_natCast]
  rfl
 rw [e]
theorem str_size {s:ByteArray} {l:List UInt8} (hl:s.data.toList=l):s.size=l.length:=by rw [Lib.size_eq,hl]
theorem drop_all {l:List UInt8} {i:Nat} {c:UInt8} (hi:l[i]? = some c):(l.drop i).all nameByte=(nameRune (c.toNat:Int)&&(l.drop (i+1)).all nameByte):=by
 obtain ⟨hlt,he⟩:=List.getElem?_eq_some_iff.1 hi
 rw [List.drop_eq_getElem_cons hlt,List.all_cons,he,nameRune_byte]
theorem risname_any (s:ByteArray) (w:World) (hs:s.size≤1000000000000):Calls Tryz.prog 172 #[.string s] w (TruthLeft (nameL s.data.toList) w):=by
 obtain ⟨l,hl⟩:∃ l,s.data.toList=l:=⟨_,rfl⟩
 rw [hl]
 have hsz:=str_size hl
 have hll:l.length≤1000000000000:=by omega
 by_cases h1:l.length<1
 ·have e:nameL l=false:=by unfold nameL;rw [decide_eq_false (by omega)];rfl
  rw [e]
  have t1:decide ((s.size:Int)<1)=true:=by rw [decide_eq_true_eq];omega
  have t2:decide (s.size<1)=true:=by rw [decide_eq_true_eq];omega
  clear hl hsz e
  go_enter Tryz.func172,Tryz.ntmps172
  go_wp2_with fail
  go_ret
  exact ⟨rfl,Below.refl _ _⟩
 ·have t1:decide ((s.size:Int)<1)=false:=by rw [decide_eq_false_iff_not];omega
  have t2:decide (s.size<1)=false:=by rw [decide_eq_false_iff_not];omega
  by_cases h2:32<l.length
  ·have e:nameL l=false:=by unfold nameL;rw [decide_eq_false (show ¬ (1≤l.length∧l.length≤32) by omega)];simp
   rw [e]
   have t3:decide ((s.size:Int)>32)=true:=by rw [decide_eq_true_eq];omega
   have t4:decide (32<s.size)=true:=by rw [decide_eq_true_eq];omega
   clear hl hsz e
   go_enter Tryz.func172,Tryz.ntmps172
   go_wp2_with fail
   go_ret
   exact ⟨rfl,Below.refl _ _⟩
  ·have t3:decide ((s.size:Int)>32)=false:=by rw [decide_eq_false_iff_not];omega
   have t4:decide (32<s.size)=false:=by rw [decide_eq_false_iff_not];omega
   obtain ⟨RES,hRES⟩:∃ RES,nameL l=RES:=⟨_,rfl⟩
   have hall:(l.drop 0).all nameByte=RES:=by
    rw [← hRES]
    unfold nameL
    rw [decide_eq_true (show 1≤l.length∧l.length≤32 by omega)]
    rfl
   rw [hRES]
   have H0:=Lib.hid hall
   have HL:=Lib.hid hl
   have HSZ:=Lib.hid hsz
   clear hRES hall hl hsz h1 h2
   go_enter Tryz.func172,Tryz.ntmps172
   go_wp2_with fail
   go_loopw [3] (fun iv wr=>∃ i:Nat,i≤l.length∧iv=.int .i64 i∧Hid ((l.drop i).all nameByte=RES)∧Hid (Below w.heap.size w wr)) (fun iv _=>l.length - (intOf iv).toNat)
   case atStart=>exact ⟨0,by omega,rfl,H0,Lib.hid (Below.refl _ _)⟩
   case round =>
    obtain ⟨i,hi,rfl,HI,HB⟩:=hrel
    clear H0
    have hsz:=HSZ.out
    by_cases hlt:i<l.length
    ·have q1:decide ((i:Int)<(s.size:Int))=true:=by rw [decide_eq_true_eq];omega
     have q2:decide (i<s.size)=true:=by rw [decide_eq_true_eq];omega
     obtain ⟨c8,hc8⟩:∃ c,l[i]? = some c:=⟨l[i],List.getElem?_eq_getElem hlt⟩
     have hix:=str_index HL.out hc8
     have hnext:=HI.out
     rw [drop_all hc8] at hnext
     have hc9:=c8.toNat_lt
     generalize c8.toNat=c at *
     have HN:=Lib.hid hnext
     have HLT:=Lib.hid hlt
     clear hnext hc8 HI hsz hlt
     rcases (by omega:c<48∨(48≤c∧c≤57)∨(58≤c∧c≤94)∨c=95∨c=96∨(97≤c∧c≤122)∨122<c) with h | h | h | h | h | h | h
     all_goals (
      first | (have a1:decide ((c:Int)≥97)=true:=by (rw [decide_eq_true_eq];omega)) | (have a1:decide ((c:Int)≥97)=false:=by (rw [decide_eq_false_iff_not];omega))
      first | (have a2:decide ((c:Int)≤122)=true:=by (rw [decide_eq_true_eq];omega)) | (have a2:decide ((c:Int)≤122)=false:=by (rw [decide_eq_false_iff_not];omega))
      first | (have a3:decide ((c:Int)≥48)=true:=by (rw [decide_eq_true_eq];omega)) | (have a3:decide ((c:Int)≥48)=false:=by (rw [decide_eq_false_iff_not];omega))
      first | (have a4:decide ((c:Int)≤57)=true:=by (rw [decide_eq_true_eq];omega)) | (have a4:decide ((c:Int)≤57)=false:=by (rw [decide_eq_false_iff_not];omega))
      first | (have a5:((c:Int) == 95)=true:=by (rw [beq_iff_eq];omega)) | (have a5:((c:Int) == 95)=false:=by (rw [beq_eq_false_iff_ne];omega))
      first | (have hok:nameRune (c:Int)=true:=by (unfold nameRune;rw [decide_eq_true_eq];omega)) | (have hok:nameRune (c:Int)=false:=by (unfold nameRune;rw [decide_eq_false_iff_not];omega))
      have HOK:=Lib.hid hok
      clear h hok
      go_wp2_with fail
      have hn:=HN.out
      rw [HOK.out] at hn
      simp only [Bool.and_true,Bool.and_false,Bool.true_and,Bool.false_and,Bool.or_true,Bool.or_false,Bool.true_or,Bool.false_or] at hn
      have hlt:=HLT.out
      first
       | (go_roundw
          case rel=>exact ⟨i+1,by omega,by go_num,Lib.hid hn,HB⟩
          case measure=>simp [intOf];omega)
       | (subst hn
          go_ret
          exact ⟨rfl,HB.out⟩))
    ·obtain rfl:i=l.length:=by omega
     have q1:decide ((l.length:Int)<(s.size:Int))=false:=by rw [decide_eq_false_iff_not];omega
     have q2:decide (l.length<s.size)=false:=by rw [decide_eq_false_iff_not];omega
     have hn:=HI.out
     rw [List.drop_length] at hn
     subst hn
     clear HI hsz
     go_wp2_with fail
     go_ret
     exact ⟨rfl,HB.out⟩
end Go.Proofs.YtdfibahafilklaaGreatDoor.TK
