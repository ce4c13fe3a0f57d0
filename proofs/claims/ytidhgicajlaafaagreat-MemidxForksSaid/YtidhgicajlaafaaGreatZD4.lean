import Derived.Lib.ValidLaws
import Derived.Test.YtidhgicajlaafaaGreatProg
import Derived.WalkKit
import Derived.Lib.Hide
set_option maxRecDepth 100000
set_option maxHeartbeats 8000000
set_option linter.unusedVariables false
set_option linter.unusedSimpArgs false
namespace Go.Proofs.YtidhgicajlaafaaGreat.UM
open Go.Lib
def runesGo:Nat→List UInt8→List Int
 | 0,_=>[]
 | n+1,l=>if l=[] then [] else ((decodeL l).1:Int)::runesGo n (l.drop (decodeL l).2)
def runesL (l:List UInt8):List Int:=runesGo l.length l
theorem runesGo_fuel:∀ (n m:Nat) (l:List UInt8),l.length≤n→l.length≤m→runesGo n l=runesGo m l
 | 0,0,l,_,_=>rfl
 | 0,m+1,l,h,_=>by
   have:l=[]:=List.eq_nil_of_length_eq_zero (by omega)
   simp [runesGo,this]
 | n+1,0,l,_,h=>by
   have:l=[]:=List.eq_nil_of_length_eq_zero (by omega)
   simp [runesGo,this]
 | n+1,m+1,l,h,k=>by
   unfold runesGo
   by_cases e:l=[]
   ·simp [e]
   ·have hw:=decodeL_width l
    have hl:0<l.length:=List.length_pos_iff.2 e
    rw [if_neg e,if_neg e,runesGo_fuel n m _ (by rw [List.length_drop];omega) (by rw [List.length_drop];omega)]
theorem runesL_nil:runesL []=[]:=rfl
theorem runesL_step (l:List UInt8) (hne:l≠[]):runesL l=((decodeL l).1:Int)::runesL (l.drop (decodeL l).2):=by
 have hl:0<l.length:=List.length_pos_iff.2 hne
 have hw:=decodeL_width l
 obtain ⟨n,hn⟩:∃ n,l.length=n+1:=⟨l.length - 1,by omega⟩
 unfold runesL
 rw [hn,runesGo,if_neg hne,runesGo_fuel n (l.drop (decodeL l).2).length _ (by rw [List.length_drop];omega) (Nat.le_refl _)]
theorem runesL_length (l:List UInt8):(runesL l).length≤l.length:=by
 suffices h:∀ n l,(runesGo n l).length≤n from h _ _
 intro n
 induction n with
 | zero=>intro l;simp [runesGo]
 | succ n ih =>
   intro l
   unfold runesGo
   split
   ·simp
   ·have:=ih (l.drop (decodeL l).2)
    simp
    omega
def norm (r:Int):Int:=if r<0∨(55296≤r∧r≤57343)∨1114111<r then 65533 else r
def encL (rs:List Int):List UInt8:=rs.flatMap encodeRune
theorem encL_nil:encL []=[]:=rfl
theorem encL_cons (r:Int) (rs:List Int):encL (r::rs)=encodeRune r++encL rs:=rfl
theorem encL_append (a b:List Int):encL (a++b)=encL a++encL b:=by simp [encL]
theorem encL_length (rs:List Int):(encL rs).length≤4*rs.length:=by
 induction rs with
 | nil=>simp [encL]
 | cons r t ih =>
   have:=(encodeRuneZ_length r).2
   have h2:(encodeRune r).length=(encodeRuneZ r).length:=by simp [encodeRune]
   rw [encL_cons,List.length_append,List.length_cons]
   omega
theorem norm_good (r:Int):(0≤norm r∧norm r<55296)∨(57343<norm r∧norm r≤1114111):=by unfold norm;split<;>omega
theorem norm_of_good (r:Int) (h:(0≤r∧r<55296)∨(57343<r∧r≤1114111)):norm r=r:=by unfold norm;rw [if_neg (by omega)]
theorem encodeRuneZ_norm (r:Int):encodeRuneZ (norm r)=encodeRuneZ r:=by
 unfold norm
 split
 ·rename_i h
  rw [encodeRuneZ_bad h]
  decide
 ·rfl
theorem decodeN_two (n b1:Nat) (r b2 b3:Nat) (h0:128≤r) (h1:r≤2047) (hn:2≤n):decodeN n (192+r / 64) (128+r%64) b2 b3=(r,2):=by
 unfold decodeN
 rw [if_neg (by omega),if_pos (by omega),if_pos (by omega)]
 congr 1
 omega
theorem decodeN_three (n:Nat) (r b3:Nat) (h:(2048≤r∧r<55296)∨(57343<r∧r≤65535)) (hn:3≤n):decodeN n (224+r / 4096) (128+r / 64%64) (128+r%64) b3=(r,3):=by
 have e:(224+r / 4096)%16*4096+(128+r / 64%64)%64*64+(128+r%64)%64=r:=by omega
 unfold decodeN
 rw [e,if_neg (by omega),if_neg (by omega),if_pos (by omega),if_pos (by omega)]
theorem decodeN_four (n:Nat) (r:Nat) (h0:65536≤r) (h1:r≤1114111) (hn:4≤n):decodeN n (240+r / 262144) (128+r / 4096%64) (128+r / 64%64) (128+r%64)=(r,4):=by
 have e:(240+r / 262144)%8*262144+(128+r / 4096%64)%64*4096+(128+r / 64%64)%64*64+(128+r%64)%64=r:=by omega
 unfold decodeN
 rw [e,if_neg (by omega),if_neg (by omega),if_neg (by omega),if_pos (by omega),if_pos (by omega)]
theorem byte_toNat (x:Int) (h0:0≤x) (h1:x<256):(x.toNat.toUInt8).toNat=x.toNat:=by
 simp
 omega
theorem decode_enc (r:Int) (t:List UInt8):decodeL (encodeRune r++t)=((norm r).toNat,(encodeRune r).length):=by
 have key:∀ q:Int,((0≤q∧q<55296)∨(57343<q∧q≤1114111))→decodeL (encodeRune q++t)=(q.toNat,(encodeRune q).length):=by
  intro q hq
  rw [decodeL_N]
  by_cases c1:q≤127
  ·have e:encodeRune q=[q.toNat.toUInt8]:=by unfold encodeRune;rw [encodeRuneZ_one (by omega) c1];rfl
   rw [e]
   simp only [List.cons_append,List.nil_append,List.length_cons,List.length_nil,List.getD_cons_zero,List.getD_cons_succ]
   rw [byte_toNat q (by omega) (by omega),decodeN,if_pos (by omega)]
  ·by_cases c2:q≤2047
   ·have e:encodeRune q=[(192+q / 64).toNat.toUInt8,(128+q%64).toNat.toUInt8]:=by unfold encodeRune;rw [encodeRuneZ_two (by omega) c2];rfl
    rw [e]
    simp only [List.cons_append,List.nil_append,List.length_cons,List.length_nil,List.getD_cons_zero,List.getD_cons_succ]
    rw [byte_toNat _ (by omega) (by omega),byte_toNat _ (by omega) (by omega)]
    rw [show (192+q / 64).toNat=192+q.toNat / 64 by omega,show (128+q%64).toNat=128+q.toNat%64 by omega]
    exact decodeN_two _ 0 _ _ _ (by omega) (by omega) (by omega)
   ·by_cases c3:q≤65535
    ·have e:encodeRune q=[(224+q / 4096).toNat.toUInt8,(128+q / 64%64).toNat.toUInt8,(128+q%64).toNat.toUInt8]:=by unfold encodeRune;rw [encodeRuneZ_three (by omega)];rfl
     rw [e]
     simp only [List.cons_append,List.nil_append,List.length_cons,List.length_nil,List.getD_cons_zero,List.getD_cons_succ]
     rw [byte_toNat _ (by omega) (by omega),byte_toNat _ (by omega) (by omega),byte_toNat _ (by omega) (by omega)]
     rw [show (224+q / 4096).toNat=224+q.toNat / 4096 by omega,show (128+q / 64%64).toNat=128+q.toNat / 64%64 by omega,show (128+q%64).toNat=128+q.toNat%64 by omega]
     exact decodeN_three _ _ _ (by omega) (by omega)
    ·have e:encodeRune q=[(240+q / 262144).toNat.toUInt8,(128+q / 4096%64).toNat.toUInt8,(128+q / 64%64).toNat.toUInt8,(128+q%64).toNat.toUInt8]:=by unfold encodeRune;rw [encodeRuneZ_four (by omega) (by omega)];rfl
     rw [e]
     simp only [List.cons_append,List.nil_append,List.length_cons,List.length_nil,List.getD_cons_zero,List.getD_cons_succ]
     rw [byte_toNat _ (by omega) (by omega),byte_toNat _ (by omega) (by omega),byte_toNat _ (by omega) (by omega),byte_toNat _ (by omega) (by omega)]
     rw [show (240+q / 262144).toNat=240+q.toNat / 262144 by omega,show (128+q / 4096%64).toNat=128+q.toNat / 4096%64 by omega,show (128+q / 64%64).toNat=128+q.toNat / 64%64 by omega,show (128+q%64).toNat=128+q.toNat%64 by omega]
     exact decodeN_four _ _ (by omega) (by omega) (by omega)
 have e:encodeRune r=encodeRune (norm r):=by unfold encodeRune;rw [encodeRuneZ_norm]
 rw [e]
 exact key (norm r) (norm_good r)
theorem encodeRune_ne (r:Int):encodeRune r≠[]:=by
 have:=(encodeRuneZ_length r).1
 intro h
 have h2:(encodeRune r).length=(encodeRuneZ r).length:=by simp [encodeRune]
 rw [h] at h2
 simp at h2
 omega
theorem runes_enc (rs:List Int):runesL (encL rs)=rs.map norm:=by
 induction rs with
 | nil=>rfl
 | cons r t ih =>
   rw [encL_cons,runesL_step _ (by simp [encodeRune_ne]),decode_enc]
   simp only [List.drop_left,ih,List.map_cons]
   congr 1
   have:=norm_good r
   omega
theorem decode_back (l:List UInt8) (hne:l≠[]):((decodeL l).1=65533∧(decodeL l).2=1)∨encodeRune ((decodeL l).1:Int)=l.take (decodeL l).2:=by
 have hl:0<l.length:=List.length_pos_iff.2 hne
 have e0:∀ k,k<l.length→l.take (k+1)=l.take k++[l.getD k 0]:=by
  intro k hk
  rw [List.take_succ_eq_append_getElem hk]
  simp [List.getD,hk]
 have by8:∀ (x:UInt8) (n:Nat),x.toNat=n→n.toUInt8=x:=by
  intro x n h;subst h;simp
 rw [decodeL_N]
 generalize h0:l.getD 0 0=x0
 generalize h1:l.getD 1 0=x1
 generalize h2:l.getD 2 0=x2
 generalize h3:l.getD 3 0=x3
 have y0:x0.toNat<256:=x0.toNat_lt
 have y1:x1.toNat<256:=x1.toNat_lt
 have y2:x2.toNat<256:=x2.toNat_lt
 have y3:x3.toNat<256:=x3.toNat_lt
 unfold decodeN
 by_cases c0:x0.toNat<128
 ·right
  rw [if_pos c0]
  show encodeRune _=_
  unfold encodeRune
  rw [encodeRuneZ_one (by omega) (by omega),e0 0 hl,h0]
  simp
 ·rw [if_neg c0]
  by_cases c1:x0.toNat / 32=6∧(1<l.length∧x1.toNat / 64=2)
  ·rw [if_pos c1]
   by_cases d:x0.toNat%32*64+x1.toNat%64≥128
   ·right
    rw [if_pos d]
    show encodeRune _=_
    unfold encodeRune
    rw [encodeRuneZ_two (by omega) (by omega),e0 1 (by omega),e0 0 hl,h0,h1]
    simp only [List.map_cons,List.map_nil,List.take_zero,List.nil_append,List.cons_append,List.cons.injEq,and_true]
    exact ⟨by8 _ _ (by omega),by8 _ _ (by omega)⟩
   ·left
    rw [if_neg d]
    exact ⟨rfl,rfl⟩
  ·rw [if_neg c1]
   by_cases c2:x0.toNat / 16=14∧(1<l.length∧x1.toNat / 64=2)∧(2<l.length∧x2.toNat / 64=2)
   ·rw [if_pos c2]
    split
    ·right
     show encodeRune _=_
     unfold encodeRune
     rw [encodeRuneZ_three (by omega),e0 2 (by omega),e0 1 (by omega),e0 0 hl,h0,h1,h2]
     simp only [List.map_cons,List.map_nil,List.take_zero,List.nil_append,List.cons_append,List.cons.injEq,and_true]
     exact ⟨by8 _ _ (by omega),by8 _ _ (by omega),by8 _ _ (by omega)⟩
    ·left
     exact ⟨rfl,rfl⟩
   ·rw [if_neg c2]
    by_cases c3:x0.toNat / 8=30∧(1<l.length∧x1.toNat / 64=2)∧(2<l.length∧x2.toNat / 64=2)∧(3<l.length∧x3.toNat / 64=2)
    ·rw [if_pos c3]
     split
     ·right
      show encodeRune _=_
      unfold encodeRune
      rw [encodeRuneZ_four (by omega) (by omega),e0 3 (by omega),e0 2 (by omega),e0 1 (by omega),e0 0 hl,h0,h1,h2,h3]
      simp only [List.map_cons,List.map_nil,List.take_zero,List.nil_append,List.cons_append,List.cons.injEq,and_true]
      exact ⟨by8 _ _ (by omega),by8 _ _ (by omega),by8 _ _ (by omega),by8 _ _ (by omega)⟩
     ·left
      exact ⟨rfl,rfl⟩
    ·rw [if_neg c3]
     left
     exact ⟨rfl,rfl⟩
def lowerZ (r:Int):Int :=
 if (65≤r∧r≤90)∨(192≤r∧r≤222∧r≠215)∨(913≤r∧r≤939∧r≠930)∨(1040≤r∧r≤1071) then r+32
 else if 1024≤r∧r≤1039 then r+80 else r
def wordZ (r:Int):Bool :=
 decide ((48≤r∧r≤57)∨(65≤r∧r≤90)∨(97≤r∧r≤122)∨(192≤r∧r≤255∧r≠215∧r≠247)∨(913≤r∧r≤974∧r≠930)∨(1024≤r∧r≤1119))
theorem lower_lower (r:Int):lowerZ (lowerZ r)=lowerZ r:=by unfold lowerZ;repeat' split;all_goals omega
end Go.Proofs.YtidhgicajlaafaaGreat.UM
namespace Go.Proofs.YtidhgicajlaafaaGreat.UM
open Go.RowKit
theorem infoByte:(Tryz.prog.info? 5).map (fun i=>(i.zero,i.size,i.bytes))=some (some (.int .u8 0),1,1):=by kernel_rfl
def Appended (B:Nat) (v:Value) (n:Nat) (xs:List Value) (r:Int) (w:World) (e:Ending) (w':World):Prop :=
 ∃ v',e=.returned v'∧w'.ownsRow B 5 1 v' (n+(Lib.runeCells r).length) (xs++Lib.runeCells r)∧∃ o,(w.alloc o).grownBy w' v.ownBlock
theorem cells_one {r:Int} (h0:0≤r) (h1:r≤127):Lib.runeCells r=[.int .u8 r]:=by unfold Lib.runeCells;rw [Lib.encodeRuneZ_one h0 h1];rfl
theorem cells_two {r:Int} (h0:128≤r) (h1:r≤2047):Lib.runeCells r=[.int .u8 (192+r / 64),.int .u8 (128+r%64)]:=by unfold Lib.runeCells;rw [Lib.encodeRuneZ_two h0 h1];rfl
theorem cells_three {r:Int} (h:(2048≤r∧r<55296)∨(57343<r∧r≤65535)):Lib.runeCells r=[.int .u8 (224+r / 4096),.int .u8 (128+r / 64%64),.int .u8 (128+r%64)]:=by unfold Lib.runeCells;rw [Lib.encodeRuneZ_three h];rfl
theorem cells_four {r:Int} (h0:65536≤r) (h1:r≤1114111):Lib.runeCells r=[.int .u8 (240+r / 262144),.int .u8 (128+r / 4096%64),.int .u8 (128+r / 64%64),.int .u8 (128+r%64)]:=by unfold Lib.runeCells;rw [Lib.encodeRuneZ_four h0 h1];rfl
theorem cells_norm (r:Int):Lib.runeCells (norm r)=Lib.runeCells r:=by unfold Lib.runeCells;rw [encodeRuneZ_norm]
theorem put_one (B:Nat) (v:Value) (n:Nat) (xs:List Value) (r:Int) (h0:0≤r) (h1:r≤127) (w:World) (hown:w.ownsRow B 5 1 v n xs) (hlen:n+4≤140737488355328) (hBw:B≤w.heap.size) :
  Calls Tryz.prog 126 #[v,.int .i64 r] w (Appended B v n xs r w):=by
 unfold Appended
 rw [cells_one h0 h1]
 obtain ⟨i0,hi,hz0,hz1,hz2⟩:=info_parts infoByte
 have s1:¬ r<0:=by omega
 have s2:¬ 1114111<r:=by omega
 have s3:¬ 55296≤r:=by omega
 go_enter Tryz.func126,Tryz.ntmps126
 go_wp2_with (at_builtin;refine wpList_append_own _ rfl _ _ 171 rfl B 5 i0 (.int .u8 0) 1 1 Tryz.underlying171 hi hz0 hz1 hz2 rfl (by decide) _ _ _ rfl (hown.alloc _) ⟨w.heap.size,0,none⟩ 1 1 [.int .u8 r] rfl rfl ?c1 ?c2 ?c3 ?c4 ?c5 ?_)
 case c2=>rfl
 case c3=>unfold maxLen;omega
 case c4=>omega
 case c5=>omega
 intro v' w2 hown' hgrow _
 go_wp2
 go_ret
 exact ⟨_,rfl,hown',_,hgrow⟩
theorem put_two (B:Nat) (v:Value) (n:Nat) (xs:List Value) (r:Int) (h0:128≤r) (h1:r≤2047) (w:World) (hown:w.ownsRow B 5 1 v n xs) (hlen:n+4≤140737488355328) (hBw:B≤w.heap.size) :
  Calls Tryz.prog 126 #[v,.int .i64 r] w (Appended B v n xs r w):=by
 unfold Appended
 rw [cells_two h0 h1]
 obtain ⟨i0,hi,hz0,hz1,hz2⟩:=info_parts infoByte
 have s1:¬ r<0:=by omega
 have s2:¬ 1114111<r:=by omega
 have s3:¬ 55296≤r:=by omega
 have s4:¬ r<128:=by omega
 go_enter Tryz.func126,Tryz.ntmps126
 go_wp2_with (at_builtin;refine wpList_append_own _ rfl _ _ 171 rfl B 5 i0 (.int .u8 0) 1 1 Tryz.underlying171 hi hz0 hz1 hz2 rfl (by decide) _ _ _ rfl (hown.alloc _) ⟨w.heap.size,0,none⟩ 2 2 [.int .u8 (192+r / 64),.int .u8 (128+r%64)] rfl rfl ?c1 ?c2 ?c3 ?c4 ?c5 ?_)
 case c2=>exact ⟨rfl,rfl⟩
 case c3=>unfold maxLen;omega
 case c4=>omega
 case c5=>omega
 intro v' w2 hown' hgrow _
 go_wp2
 go_ret
 exact ⟨_,rfl,hown',_,hgrow⟩
theorem put_lo (B:Nat) (v:Value) (n:Nat) (xs:List Value) (r:Int) (h0:2048≤r) (h1:r<55296) (w:World) (hown:w.ownsRow B 5 1 v n xs) (hlen:n+4≤140737488355328) (hBw:B≤w.heap.size) :
  Calls Tryz.prog 126 #[v,.int .i64 r] w (Appended B v n xs r w):=by
 unfold Appended
 rw [cells_three (by omega)]
 obtain ⟨i0,hi,hz0,hz1,hz2⟩:=info_parts infoByte
 have s1:¬ r<0:=by omega
 have s2:¬ 1114111<r:=by omega
 have s3:¬ 55296≤r:=by omega
 have s4:¬ r<128:=by omega
 have s5:¬ r<2048:=by omega
 have s6:r<65536:=by omega
 go_enter Tryz.func126,Tryz.ntmps126
 go_wp2_with (at_builtin;refine wpList_append_own _ rfl _ _ 171 rfl B 5 i0 (.int .u8 0) 1 1 Tryz.underlying171 hi hz0 hz1 hz2 rfl (by decide) _ _ _ rfl (hown.alloc _) ⟨w.heap.size,0,none⟩ 3 3 [.int .u8 (224+r / 4096),.int .u8 (128+r / 64%64),.int .u8 (128+r%64)] rfl rfl ?c1 ?c2 ?c3 ?c4 ?c5 ?_)
 case c2=>exact ⟨rfl,rfl,rfl⟩
 case c3=>unfold maxLen;omega
 case c4=>omega
 case c5=>omega
 intro v' w2 hown' hgrow _
 go_wp2
 go_ret
 exact ⟨_,rfl,hown',_,hgrow⟩
theorem put_hi (B:Nat) (v:Value) (n:Nat) (xs:List Value) (r:Int) (h0:57343<r) (h1:r≤65535) (w:World) (hown:w.ownsRow B 5 1 v n xs) (hlen:n+4≤140737488355328) (hBw:B≤w.heap.size) :
  Calls Tryz.prog 126 #[v,.int .i64 r] w (Appended B v n xs r w):=by
 unfold Appended
 rw [cells_three (by omega)]
 obtain ⟨i0,hi,hz0,hz1,hz2⟩:=info_parts infoByte
 have s1:¬ r<0:=by omega
 have s2:¬ 1114111<r:=by omega
 have s3:55296≤r:=by omega
 have s3':¬ r≤57343:=by omega
 have s4:¬ r<128:=by omega
 have s5:¬ r<2048:=by omega
 have s6:r<65536:=by omega
 go_enter Tryz.func126,Tryz.ntmps126
 go_wp2_with (at_builtin;refine wpList_append_own _ rfl _ _ 171 rfl B 5 i0 (.int .u8 0) 1 1 Tryz.underlying171 hi hz0 hz1 hz2 rfl (by decide) _ _ _ rfl (hown.alloc _) ⟨w.heap.size,0,none⟩ 3 3 [.int .u8 (224+r / 4096),.int .u8 (128+r / 64%64),.int .u8 (128+r%64)] rfl rfl ?c1 ?c2 ?c3 ?c4 ?c5 ?_)
 case c2=>exact ⟨rfl,rfl,rfl⟩
 case c3=>unfold maxLen;omega
 case c4=>omega
 case c5=>omega
 intro v' w2 hown' hgrow _
 go_wp2
 go_ret
 exact ⟨_,rfl,hown',_,hgrow⟩
theorem put_four (B:Nat) (v:Value) (n:Nat) (xs:List Value) (r:Int) (h0:65536≤r) (h1:r≤1114111) (w:World) (hown:w.ownsRow B 5 1 v n xs) (hlen:n+4≤140737488355328) (hBw:B≤w.heap.size) :
  Calls Tryz.prog 126 #[v,.int .i64 r] w (Appended B v n xs r w):=by
 unfold Appended
 rw [cells_four h0 h1]
 obtain ⟨i0,hi,hz0,hz1,hz2⟩:=info_parts infoByte
 have s1:¬ r<0:=by omega
 have s2:¬ 1114111<r:=by omega
 have s3:55296≤r:=by omega
 have s3':¬ r≤57343:=by omega
 have s4:¬ r<128:=by omega
 have s5:¬ r<2048:=by omega
 have s6:¬ r<65536:=by omega
 go_enter Tryz.func126,Tryz.ntmps126
 go_wp2_with (at_builtin;refine wpList_append_own _ rfl _ _ 171 rfl B 5 i0 (.int .u8 0) 1 1 Tryz.underlying171 hi hz0 hz1 hz2 rfl (by decide) _ _ _ rfl (hown.alloc _) ⟨w.heap.size,0,none⟩ 4 4 [.int .u8 (240+r / 262144),.int .u8 (128+r / 4096%64),.int .u8 (128+r / 64%64),.int .u8 (128+r%64)] rfl rfl ?c1 ?c2 ?c3 ?c4 ?c5 ?_)
 case c2=>exact ⟨rfl,rfl,rfl,rfl⟩
 case c3=>unfold maxLen;omega
 case c5=>omega
 intro v' w2 hown' hgrow _
 go_wp2
 go_ret
 exact ⟨_,rfl,hown',_,hgrow⟩
theorem appended_norm {B:Nat} {v:Value} {n:Nat} {xs:List Value} {r q:Int} {w:World} {e:Ending} {w':World} (hq:norm r=q) (h:Appended B v n xs q w e w'):Appended B v n xs r w e w':=by
 subst hq
 unfold Appended at *
 rw [cells_norm] at h
 exact h
theorem put_any (B:Nat) (v:Value) (n:Nat) (xs:List Value) (r:Int) (w:World) (hown:w.ownsRow B 5 1 v n xs) (hlen:n+4≤140737488355328) (hBw:B≤w.heap.size) :
  Calls Tryz.prog 126 #[v,.int .i64 r] w (Appended B v n xs r w):=by
 have bad:=put_hi B v n xs 65533 (by omega) (by omega) w hown hlen hBw
 by_cases c1:r<0
 ·have hq:norm r=65533:=by unfold norm;rw [if_pos (by omega)]
  have Hq:=Lib.hid hq
  have Hb:=Lib.hid bad
  clear hq bad hown
  go_enter Tryz.func126,Tryz.ntmps126
  go_wp2_with fail
  refine Hb.out.mono ?_
  rintro e w' he
  obtain ⟨v',rfl,hx⟩:=he
  have H2:=Lib.hid hx
  clear hx
  go_wp2
  go_ret
  exact appended_norm Hq.out ⟨v',rfl,H2.out⟩
 by_cases c2:1114111<r
 ·have hq:norm r=65533:=by unfold norm;rw [if_pos (by omega)]
  have Hq:=Lib.hid hq
  have Hb:=Lib.hid bad
  clear hq bad hown
  go_enter Tryz.func126,Tryz.ntmps126
  go_wp2_with fail
  refine Hb.out.mono ?_
  rintro e w' he
  obtain ⟨v',rfl,hx⟩:=he
  have H2:=Lib.hid hx
  clear hx
  go_wp2
  go_ret
  exact appended_norm Hq.out ⟨v',rfl,H2.out⟩
 by_cases c3:r≤127
 ·exact put_one B v n xs r (by omega) c3 w hown hlen hBw
 by_cases c4:r≤2047
 ·exact put_two B v n xs r (by omega) c4 w hown hlen hBw
 by_cases c5:r<55296
 ·exact put_lo B v n xs r (by omega) c5 w hown hlen hBw
 by_cases c6:r≤57343
 ·have hq:norm r=65533:=by unfold norm;rw [if_pos (by omega)]
  have c5':55296≤r:=by omega
  have Hq:=Lib.hid hq
  have Hb:=Lib.hid bad
  clear hq bad hown
  go_enter Tryz.func126,Tryz.ntmps126
  go_wp2_with fail
  refine Hb.out.mono ?_
  rintro e w' he
  obtain ⟨v',rfl,hx⟩:=he
  have H2:=Lib.hid hx
  clear hx
  go_wp2
  go_ret
  exact appended_norm Hq.out ⟨v',rfl,H2.out⟩
 by_cases c7:r≤65535
 ·exact put_hi B v n xs r (by omega) c7 w hown hlen hBw
 ·exact put_four B v n xs r (by omega) (by omega) w hown hlen hBw
def enco (r:Int):Int:=if r<0∨1114111<r then 65533 else r
theorem enco_cells (r:Int):Lib.runeCells (enco r)=Lib.runeCells r:=by
 unfold enco
 split
 ·rename_i h
  have:norm r=65533:=by unfold norm;rw [if_pos (by omega)]
  rw [← this,cells_norm]
 ·rfl
theorem enco_bd (r:Int) : -2147483648≤enco r∧enco r≤2147483647:=by unfold enco;split<;>omega
theorem encodable_any (r:Int) (w:World):Calls Tryz.prog 158 #[.int .i64 r] w fun e w'=>e=.returned (.int .i32 (enco r))∧w=w':=by
 unfold enco
 by_cases c1:r<0
 ·rw [if_pos (by omega)]
  go_enter Tryz.func158,Tryz.ntmps158
  go_wp2
  go_ret
  exact ⟨rfl,rfl⟩
 ·by_cases c2:1114111<r
  ·rw [if_pos (by omega)]
   go_enter Tryz.func158,Tryz.ntmps158
   go_wp2
   go_ret
   exact ⟨rfl,rfl⟩
  ·rw [if_neg (by omega)]
   have c3:0≤r:=by omega
   have c4:r≤1114111:=by omega
   go_enter Tryz.func158,Tryz.ntmps158
   go_wp2
   go_ret
   exact ⟨rfl,rfl⟩
end Go.Proofs.YtidhgicajlaafaaGreat.UM
