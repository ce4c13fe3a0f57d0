import Derived.Lib.ValidLaws
import Derived.Test.YtdfibahafilklaaGreatDoorZC5
import Derived.Test.YtdfibahafilklaaGreatDoorZC7
set_option maxRecDepth 100000
set_option maxHeartbeats 8000000
set_option linter.unusedVariables false
set_option linter.unusedSimpArgs false
namespace Go.Proofs.YtdfibahafilklaaGreatDoor.UM
open Go.Lib
def norm (r:Int):Int:=if r<0∨(55296≤r∧r≤57343)∨1114111<r then 65533 else r
def encL (rs:List Int):List UInt8:=rs.flatMap encodeRune
theorem norm_good (r:Int):(0≤norm r∧norm r<55296)∨(57343<norm r∧norm r≤1114111):=by unfold norm;split<;>omega
theorem norm_of_good (r:Int) (h:(0≤r∧r<55296)∨(57343<r∧r≤1114111)):norm r=r:=by unfold norm;rw [if_neg (by omega)]
theorem encodeRuneZ_norm (r:Int):encodeRuneZ (norm r)=encodeRuneZ r:=by
 unfold norm
 split
 ·rename_i h
  rw [encodeRuneZ_bad h]
  decide
 ·rfl
theorem decodeN_two (n b1:Nat) (r b2 b3:Nat) (h0:128≤r) (h1:r≤2047) (hn:2≤n):decodeN n (192+r / 64) (128+r%64) b2 b3=(r,2):=by
 unfold decodeN
 rw [if_neg (by omega),if_pos (by omega),if_pos (by omega)]
 congr 1
 omega
theorem decodeN_three (n:Nat) (r b3:Nat) (h:(2048≤r∧r<55296)∨(57343<r∧r≤65535)) (hn:3≤n):decodeN n (224+r / 4096) (128+r / 64%64) (128+r%64) b3=(r,3):=by
 have e:(224+r / 4096)%16*4096+(128+r / 64%64)%64*64+(128+r%64)%64=r:=by omega
 unfold decodeN
 rw [e,if_neg (by omega),if_neg (by omega),if_pos (by omega),if_pos (by omega)]
theorem decodeN_four (n:Nat) (r:Nat) (h0:65536≤r) (h1:r≤1114111) (hn:4≤n):decodeN n (240+r / 262144) (128+r / 4096%64) (128+r / 64%64) (128+r%64)=(r,4):=by
 have e:(240+r / 262144)%8*262144+(128+r / 4096%64)%64*4096+(128+r / 64%64)%64*64+(128+r%64)%64=r:=by omega
 unfold decodeN
 rw [e,if_neg (by omega),if_neg (by omega),if_neg (by omega),if_pos (by omega),if_pos (by omega)]
theorem byte_toNat (x:Int) (h0:0≤x) (h1:x<256):(x.toNat.toUInt8).toNat=x.toNat:=by
 simp
 omega
theorem decode_enc (r:Int) (t:List UInt8):decodeL (encodeRune r++t)=((norm r).toNat,(encodeRune r).length):=by
 have key:∀ q:Int,((0≤q∧q<55296)∨(57343<q∧q≤1114111))→decodeL (encodeRune q++t)=(q.toNat,(encodeRune q).length):=by
  intro q hq
  rw [decodeL_N]
  by_cases c1:q≤127
  ·have e:encodeRune q=[q.toNat.toUInt8]:=by unfold encodeRune;rw [encodeRuneZ_one (by omega) c1];rfl
   rw [e]
   simp only [List.cons_append,List.nil_append,List.length_cons,List.length_nil,List.getD_cons_zero,List.getD_cons_succ]
   rw [byte_toNat q (by omega) (by omega),decodeN,if_pos (by omega)]
  ·by_cases c2:q≤2047
   ·have e:encodeRune q=[(192+q / 64).toNat.toUInt8,(128+q%64).toNat.toUInt8]:=by unfold encodeRune;rw [encodeRuneZ_two (by omega) c2];rfl
    rw [e]
    simp only [List.cons_append,List.nil_append,List.length_cons,List.length_nil,List.getD_cons_zero,List.getD_cons_succ]
    rw [byte_toNat _ (by omega) (by omega),byte_toNat _ (by omega) (by omega)]
    rw [show (192+q / 64).toNat=192+q.toNat / 64 by omega,show (128+q%64).toNat=128+q.toNat%64 by omega]
    exact decodeN_two _ 0 _ _ _ (by omega) (by omega) (by omega)
   ·by_cases c3:q≤65535
    ·have e:encodeRune q=[(224+q / 4096).toNat.toUInt8,(128+q / 64%64).toNat.toUInt8,(128+q%64).toNat.toUInt8]:=by unfold encodeRune;rw [encodeRuneZ_three (by omega)];rfl
     rw [e]
     simp only [List.cons_append,List.nil_append,List.length_cons,List.length_nil,List.getD_cons_zero,List.getD_cons_succ]
     rw [byte_toNat _ (by omega) (by omega),byte_toNat _ (by omega) (by omega),byte_toNat _ (by omega) (by omega)]
     rw [show (224+q / 4096).toNat=224+q.toNat / 4096 by omega,show (128+q / 64%64).toNat=128+q.toNat / 64%64 by omega,show (128+q%64).toNat=128+q.toNat%64 by omega]
     exact decodeN_three _ _ _ (by omega) (by omega)
    ·have e:encodeRune q=[(240+q / 262144).toNat.toUInt8,(128+q / 4096%64).toNat.toUInt8,(128+q / 64%64).toNat.toUInt8,(128+q%64).toNat.toUInt8]:=by unfold encodeRune;rw [encodeRuneZ_four (by omega) (by omega)];rfl
     rw [e]
     simp only [List.cons_append,List.nil_append,List.length_cons,List.length_nil,List.getD_cons_zero,List.getD_cons_succ]
     rw [byte_toNat _ (by omega) (by omega),byte_toNat _ (by omega) (by omega),byte_toNat _ (by omega) (by omega),byte_toNat _ (by omega) (by omega)]
     rw [show (240+q / 262144).toNat=240+q.toNat / 262144 by omega,show (128+q / 4096%64).toNat=128+q.toNat / 4096%64 by omega,show (128+q / 64%64).toNat=128+q.toNat / 64%64 by omega,show (128+q%64).toNat=128+q.toNat%64 by omega]
     exact decodeN_four _ _ (by omega) (by omega) (by omega)
 have e:encodeRune r=encodeRune (norm r):=by unfold encodeRune;rw [encodeRuneZ_norm]
 rw [e]
 exact key (norm r) (norm_good r)
theorem decode_back (l:List UInt8) (hne:l≠[]):((decodeL l).1=65533∧(decodeL l).2=1)∨encodeRune ((decodeL l).1:Int)=l.take (decodeL l).2:=by
 have hl:0<l.length:=List.length_pos_iff.2 hne
 have e0:∀ k,k<l.length→l.take (k+1)=l.take k++[l.getD k 0]:=by
  intro k hk
  rw [List.take_succ_eq_append_getElem hk]
  simp [List.getD,hk]
 have by8:∀ (x:UInt8) (n:Nat),x.toNat=n→n.toUInt8=x:=by
  intro x n h;subst h;simp
 rw [decodeL_N]
 generalize h0:l.getD 0 0=x0
 generalize h1:l.getD 1 0=x1
 generalize h2:l.getD 2 0=x2
 generalize h3:l.getD 3 0=x3
 have y0:x0.toNat<256:=x0.toNat_lt
 have y1:x1.toNat<256:=x1.toNat_lt
 have y2:x2.toNat<256:=x2.toNat_lt
 have y3:x3.toNat<256:=x3.toNat_lt
 unfold decodeN
 by_cases c0:x0.toNat<128
 ·right
  rw [if_pos c0]
  show encodeRune _=_
  unfold encodeRune
  rw [encodeRuneZ_one (by omega) (by omega),e0 0 hl,h0]
  simp
 ·rw [if_neg c0]
  by_cases c1:x0.toNat / 32=6∧(1<l.length∧x1.toNat / 64=2)
  ·rw [if_pos c1]
   by_cases d:x0.toNat%32*64+x1.toNat%64≥128
   ·right
    rw [if_pos d]
    show encodeRune _=_
    unfold encodeRune
    rw [encodeRuneZ_two (by omega) (by omega),e0 1 (by omega),e0 0 hl,h0,h1]
    simp only [List.map_cons,List.map_nil,List.take_zero,List.nil_append,List.cons_append,List.cons.injEq,and_true]
    exact ⟨by8 _ _ (by omega),by8 _ _ (by omega)⟩
   ·left
    rw [if_neg d]
    exact ⟨rfl,rfl⟩
  ·rw [if_neg c1]
   by_cases c2:x0.toNat / 16=14∧(1<l.length∧x1.toNat / 64=2)∧(2<l.length∧x2.toNat / 64=2)
   ·rw [if_pos c2]
    split
    ·right
     show encodeRune _=_
     unfold encodeRune
     rw [encodeRuneZ_three (by omega),e0 2 (by omega),e0 1 (by omega),e0 0 hl,h0,h1,h2]
     simp only [List.map_cons,List.map_nil,List.take_zero,List.nil_append,List.cons_append,List.cons.injEq,and_true]
     exact ⟨by8 _ _ (by omega),by8 _ _ (by omega),by8 _ _ (by omega)⟩
    ·left
     exact ⟨rfl,rfl⟩
   ·rw [if_neg c2]
    by_cases c3:x0.toNat / 8=30∧(1<l.length∧x1.toNat / 64=2)∧(2<l.length∧x2.toNat / 64=2)∧(3<l.length∧x3.toNat / 64=2)
    ·rw [if_pos c3]
     split
     ·right
      show encodeRune _=_
      unfold encodeRune
      rw [encodeRuneZ_four (by omega) (by omega),e0 3 (by omega),e0 2 (by omega),e0 1 (by omega),e0 0 hl,h0,h1,h2,h3]
      simp only [List.map_cons,List.map_nil,List.take_zero,List.nil_append,List.cons_append,List.cons.injEq,and_true]
      exact ⟨by8 _ _ (by omega),by8 _ _ (by omega),by8 _ _ (by omega),by8 _ _ (by omega)⟩
     ·left
      exact ⟨rfl,rfl⟩
    ·rw [if_neg c3]
     left
     exact ⟨rfl,rfl⟩
def lowerZ (r:Int):Int :=
 if (65≤r∧r≤90)∨(192≤r∧r≤222∧r≠215)∨(913≤r∧r≤939∧r≠930)∨(1040≤r∧r≤1071) then r+32
 else if 1024≤r∧r≤1039 then r+80 else r
def wordZ (r:Int):Bool :=
 decide ((48≤r∧r≤57)∨(65≤r∧r≤90)∨(97≤r∧r≤122)∨(192≤r∧r≤255∧r≠215∧r≠247)∨(913≤r∧r≤974∧r≠930)∨(1024≤r∧r≤1119))
end Go.Proofs.YtdfibahafilklaaGreatDoor.UM
namespace Go.Proofs.YtdfibahafilklaaGreatDoor.TK
open Go.Lib UM
def lowL (row:List Int):List UInt8:=encL (row.map lowerZ)
def Good (zs:List Int):Prop:=zs≠[]∧(∀ z∈zs,wordZ z=true)∧(∀ z∈zs,lowerZ z=z)∧(encL zs).length≤32
theorem Good.low {zs:List Int} (h:Good zs):lowL zs=encL zs:=by
 have:∀ z∈zs,lowerZ z=id z:=h.2.2.1
 unfold lowL
 rw [List.map_congr_left this,List.map_id]
def nameByte (c:UInt8):Bool:=decide ((97≤c.toNat∧c.toNat≤122)∨(48≤c.toNat∧c.toNat≤57)∨c.toNat=95)
def nameL (l:List UInt8):Bool:=decide (1≤l.length∧l.length≤32)&&l.all nameByte
def nameRune (r:Int):Bool:=decide ((97≤r∧r≤122)∨(48≤r∧r≤57)∨r=95)
end Go.Proofs.YtdfibahafilklaaGreatDoor.TK
namespace Go.Proofs.YtdfibahafilklaaGreatDoor.MM
open Go Go.RowKit
def Three (w:World) (g:Nat) (t:TypeId) (a b c:Value):Prop:=w.heap[g]? = some (.cells #[a,b,c] t (0,0))
section
variable {w w' : World} {g : Nat} {t : TypeId} {a b c : Value}
theorem Three.lt (h:Three w g t a b c):g<w.heap.size:=(Array.getElem?_eq_some_iff.1 h).1
theorem Three.c0 (h:Three w g t a b c):w.cell? ⟨g,0,none⟩=some a:=by rw [cell_of_row w g 0 _ _ _ h];rfl
theorem Three.c1 (h:Three w g t a b c):w.cell? ⟨g,1,none⟩=some b:=by rw [cell_of_row w g 1 _ _ _ h];rfl
theorem Three.c2 (h:Three w g t a b c):w.cell? ⟨g,2,none⟩=some c:=by rw [cell_of_row w g 2 _ _ _ h];rfl
theorem Three.fr (h:Three w g t a b c) (i:Nat):w.frozen? ⟨g,i,none⟩=false:=frozen_of_row w g i _ _ h
theorem Three.s0 (h:Three w g t a b c) (x:Value):Three (w.setCell ⟨g,0,none⟩ x) g t x b c:=heap_setCell_same w g 0 _ _ x h
theorem Three.s1 (h:Three w g t a b c) (x:Value):Three (w.setCell ⟨g,1,none⟩ x) g t a x c:=heap_setCell_same w g 1 _ _ x h
theorem Three.keep {S:Nat→Prop} (h:Three w g t a b c) (hk:Kep S w w') (hS:S g):Three w' g t a b c:=(hk.block g h.lt hS).trans h
theorem Three.below {B:Nat} (h:Three w g t a b c) (hb:Below B w w') (hg:g<B):Three w' g t a b c:=(hb.block g hg).trans h
theorem three_new (w:World) (t:TypeId) (a b c:Value):Three (w.alloc (.cells #[a,b,c] t)) w.heap.size t a b c:=heap_alloc_new _ _
theorem Three.cells (h:Three w g t a b c):w.cell? ⟨g,0,none⟩=some a∧w.cell? ⟨g,1,none⟩=some b∧w.cell? ⟨g,2,none⟩=some c:=⟨h.c0,h.c1,h.c2⟩
theorem Three.all (h:Three w g t a b c) (x y:Value) :
  w.frozen? ⟨g,0,none⟩=false∧w.frozen? ⟨g,1,none⟩=false∧w.frozen? ⟨g,2,none⟩=false ∧
  ((w.setCell ⟨g,0,none⟩ x).cell? ⟨g,1,none⟩=some b∧(w.setCell ⟨g,0,none⟩ x).frozen? ⟨g,1,none⟩=false) ∧
  (((w.setCell ⟨g,0,none⟩ x).setCell ⟨g,1,none⟩ y).cell? ⟨g,2,none⟩=some c∧((w.setCell ⟨g,0,none⟩ x).setCell ⟨g,1,none⟩ y).frozen? ⟨g,2,none⟩=false) :=
 ⟨h.fr 0,h.fr 1,h.fr 2,⟨(h.s0 x).c1,(h.s0 x).fr 1⟩,⟨((h.s0 x).s1 y).c2,((h.s0 x).s1 y).fr 2⟩⟩
end
section
variable {P : Program} {fn : Func} {t : TypeId} {ty : TypeDesc}
end
end Go.Proofs.YtdfibahafilklaaGreatDoor.MM
namespace Go.Proofs.YtdfibahafilklaaGreatDoor.TK
open Go.RowKit MM
theorem nameRune_byte (c:UInt8):nameRune (c.toNat:Int)=nameByte c:=by unfold nameRune nameByte;congr 1;simp;omega
theorem decode_first (l:List UInt8) (c:UInt8) (t:List UInt8) (hl:l=c::t):(c.toNat<128→Lib.decodeL l=(c.toNat,1))∧(128≤c.toNat→nameRune ((Lib.decodeL l).1:Int)=false):=by
 constructor
 ·intro h
  have e:Lib.encodeRune (c.toNat:Int)=[c]:=by
   unfold Lib.encodeRune
   rw [Lib.encodeRuneZ_one (by omega) (by omega)]
   simp
  have:=UM.decode_enc (c.toNat:Int) t
  rw [e,List.singleton_append,← hl] at this
  rw [this,UM.norm_of_good _ (by omega)]
  simp
 ·intro h
  rcases UM.decode_back l (by rw [hl];simp) with ⟨h1,_⟩ | h1
  ·rw [h1];decide
  ·by_cases hr:(Lib.decodeL l).1<128
   ·exfalso
    unfold Lib.encodeRune at h1
    rw [Lib.encodeRuneZ_one (by omega) (by omega)] at h1
    have hw:=Lib.decodeL_width l
    rw [hl] at h1 hw
    obtain ⟨d,hd⟩:∃ d,(Lib.decodeL (c::t)).2=d+1:=⟨(Lib.decodeL (c::t)).2 - 1,by omega⟩
    rw [hd,List.take_succ_cons] at h1
    simp only [List.map_cons,List.map_nil,List.cons.injEq] at h1
    have h2:=congrArg UInt8.toNat h1.1
    rw [← hl] at h2
    simp at h2
    omega
   ·unfold nameRune
    simp
    omega
theorem idx_name (s:ByteArray):∀ (f pos:Nat),s.size≤pos+f→(decide (0≤Lib.idxFuncFrom (fun x => !nameRune (x:Int)) true s f pos)) = !((s.data.toList.drop pos).all nameByte)
 | 0,pos,h=>by
   have:s.data.toList.drop pos=[]:=List.drop_eq_nil_of_le (by rw [← Lib.size_eq];omega)
   rw [this]
   simp [Lib.idxFuncFrom]
 | f+1,pos,h=>by
   unfold Lib.idxFuncFrom
   by_cases hp:pos<s.size
   ·rw [if_pos hp]
    have hpl:pos<s.data.toList.length:=by rw [← Lib.size_eq];exact hp
    have hd:s.data.toList.drop pos=s.data.toList[pos]::s.data.toList.drop (pos+1):=List.drop_eq_getElem_cons hpl
    have hde:Utf8.decode s pos=Lib.decodeL (s.data.toList.drop pos):=(Lib.decodeL_drop _ _).symm
    obtain ⟨h1,h2⟩:=decode_first _ _ _ hd
    rw [hde]
    by_cases hc:(s.data.toList[pos]).toNat<128
    ·rw [h1 hc,hd]
     simp only [nameRune_byte,List.all_cons]
     cases hn:nameByte s.data.toList[pos] with
     | true =>
       simp only [Bool.not_true,Bool.true_and]
       exact idx_name s f (pos+1) (by omega)
     | false=>simp
    ·rw [hd,List.all_cons]
     rw [hd] at h2
     have hn:nameByte s.data.toList[pos]=false:=by unfold nameByte;rw [decide_eq_false_iff_not];omega
     simp only [h2 (by omega),Bool.not_false,if_true,hn,Bool.false_and]
     simp
   ·rw [if_neg hp]
    have:s.data.toList.drop pos=[]:=List.drop_eq_nil_of_le (by rw [← Lib.size_eq];omega)
    rw [this]
    simp
theorem idx_all (s:ByteArray):decide (0≤Lib.idxFunc (fun x => !nameRune (x:Int)) true s) = !(s.data.toList.all nameByte):=by
 have:=idx_name s s.size 0 (by omega)
 rw [List.drop_zero] at this
 exact this
theorem isodd_any (c:Nat) (w:World) (hc:c≤1114111):Calls Tryz.prog 206 #[.int .i32 (c:Int)] w fun e w'=>e=.returned (.bool (!nameRune (c:Int)))∧Below w.heap.size w w':=by
 rcases (by omega:c<48∨(48≤c∧c≤57)∨(58≤c∧c≤94)∨c=95∨c=96∨(97≤c∧c≤122)∨122<c) with h | h | h | h | h | h | h
 all_goals (
  first | (have a1:decide ((c:Int)<97)=true:=by (rw [decide_eq_true_eq];omega)) | (have a1:decide ((c:Int)<97)=false:=by (rw [decide_eq_false_iff_not];omega))
  first | (have a2:decide ((c:Int)>122)=true:=by (rw [decide_eq_true_eq];omega)) | (have a2:decide ((c:Int)>122)=false:=by (rw [decide_eq_false_iff_not];omega))
  first | (have a3:decide ((c:Int)<48)=true:=by (rw [decide_eq_true_eq];omega)) | (have a3:decide ((c:Int)<48)=false:=by (rw [decide_eq_false_iff_not];omega))
  first | (have a4:decide ((c:Int)>57)=true:=by (rw [decide_eq_true_eq];omega)) | (have a4:decide ((c:Int)>57)=false:=by (rw [decide_eq_false_iff_not];omega))
  first | (have a5:((c:Int) == 95)=true:=by (rw [beq_iff_eq];omega)) | (have a5:((c:Int) == 95)=false:=by (rw [beq_eq_false_iff_ne];omega))
  have b5:((c:Int) != 95) = !((c:Int) == 95):=rfl
  rw [a5] at b5
  simp only [Bool.not_true,Bool.not_false] at b5
  first | (have hok:nameRune (c:Int)=true:=by (unfold nameRune;rw [decide_eq_true_eq];omega)) | (have hok:nameRune (c:Int)=false:=by (unfold nameRune;rw [decide_eq_false_iff_not];omega))
  have HOK:=Lib.hid hok
  clear h hok
  go_enter Tryz.func206,Tryz.ntmps206
  go_wp2_with fail
  go_ret
  rw [HOK.out]
  exact ⟨rfl,Below.refl _ _⟩)
theorem odd_pays (w:World):PredGrows Tryz.prog 206 #[] (fun x => !nameRune (x:Int)) w:=by
 intro W x hx _
 exact isodd_any x W hx
theorem confun_any (s:ByteArray) (w:World):Calls Tryz.prog 205 #[.string s,.func (.func 206) #[] #[]] w fun e w'=>e=.returned (.bool (!(s.data.toList.all nameByte)))∧Below w.heap.size w w':=by
 have:=Tryz.strings_ContainsFunc_grows 206 #[] (fun args w=>by kernel_rfl) (fun x => !nameRune (x:Int)) s w (odd_pays w)
 rw [idx_all] at this
 exact this
def TruthLeft (b:Bool) (w:World) (e:Ending) (w':World):Prop:=e=.returned (.bool b)∧Below w.heap.size w w'
theorem isname_any (s:ByteArray) (w:World):Calls Tryz.prog 190 #[.string s] w (TruthLeft (nameL s.data.toList) w):=by
 have hz:=Lib.size_eq s
 by_cases h0:s.size=0
 ·have hn:nameL s.data.toList=false:=by unfold nameL;rw [← hz];simp;omega
  rw [hn]
  have t1:decide ((s.size:Int)≥1)=false:=by rw [decide_eq_false_iff_not];omega
  clear hz h0 hn
  go_enter Tryz.func190,Tryz.ntmps190
  go_wp2_with fail
  go_ret
  exact ⟨rfl,Below.refl _ _⟩
 ·have t1:decide ((s.size:Int)≥1)=true:=by rw [decide_eq_true_eq];omega
  by_cases h1:s.size≤32
  ·have hn:nameL s.data.toList=s.data.toList.all nameByte:=by
    unfold nameL
    rw [← hz,decide_eq_true (by omega),Bool.true_and]
   rw [hn]
   have t2:decide ((s.size:Int)≤32)=true:=by rw [decide_eq_true_eq];omega
   have hc:=confun_any s
   obtain ⟨b,hb⟩:∃ b,s.data.toList.all nameByte=b:=⟨_,rfl⟩
   rw [hb]
   simp only [hb] at hc
   have HC:=Lib.hid hc
   clear hz h0 h1 hn hb hc
   go_enter Tryz.func190,Tryz.ntmps190
   go_wp2_with fail
   refine (HC.out _).mono ?_
   rintro e w2 ⟨rfl,hb2⟩
   have HB:=Lib.hid hb2
   clear hb2 HC
   go_wp2_with fail
   go_ret
   exact ⟨rfl,HB.out⟩
  ·have hn:nameL s.data.toList=false:=by unfold nameL;rw [← hz];simp;omega
   rw [hn]
   have t2:decide ((s.size:Int)≤32)=false:=by rw [decide_eq_false_iff_not];omega
   clear hz h0 h1 hn
   go_enter Tryz.func190,Tryz.ntmps190
   go_wp2_with fail
   go_ret
   exact ⟨rfl,Below.refl _ _⟩
end Go.Proofs.YtdfibahafilklaaGreatDoor.TK
