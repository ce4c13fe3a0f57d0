import Derived.Lib.ValidLaws
import Derived.Lib.MapLaws
import Derived.Lib.RuneBytes
import Derived.Lib.TrimUEq
import Derived.Test.YtdijhifdjbnkfaaGreatZB1
import Derived.Test.YtdijhifdjbnkfaaGreatProg
import Derived.WalkKit
import Derived.Below
import Derived.Lib.Hide
import Derived.LoopTactic
import Derived.Outline
import Derived.Laws.AppendOwn
set_option linter.unusedVariables false
set_option linter.unusedSimpArgs false
namespace Go.Proofs.YtdijhifdjbnkfaaGreat.UM
open Go.Lib
def runesGo:Nat→List UInt8→List Int
 | 0,_=>[]
 | n+1,l=>if l=[] then [] else ((decodeL l).1:Int)::runesGo n (l.drop (decodeL l).2)
def runesL (l:List UInt8):List Int:=runesGo l.length l
theorem runesGo_fuel:∀ (n m:Nat) (l:List UInt8),l.length≤n→l.length≤m→runesGo n l=runesGo m l
 | 0,0,l,_,_=>rfl
 | 0,m+1,l,h,_=>by
   have:l=[]:=List.eq_nil_of_length_eq_zero (by omega)
   simp [runesGo,this]
 | n+1,0,l,_,h=>by
   have:l=[]:=List.eq_nil_of_length_eq_zero (by omega)
   simp [runesGo,this]
 | n+1,m+1,l,h,k=>by
   unfold runesGo
   by_cases e:l=[]
   ·simp [e]
   ·have hw:=decodeL_width l
    have hl:0<l.length:=List.length_pos_iff.2 e
    rw [if_neg e,if_neg e,runesGo_fuel n m _ (by rw [List.length_drop];omega) (by rw [List.length_drop];omega)]
theorem runesL_nil:runesL []=[]:=rfl
theorem runesL_step (l:List UInt8) (hne:l≠[]):runesL l=((decodeL l).1:Int)::runesL (l.drop (decodeL l).2):=by
 have hl:0<l.length:=List.length_pos_iff.2 hne
 have hw:=decodeL_width l
 obtain ⟨n,hn⟩:∃ n,l.length=n+1:=⟨l.length - 1,by omega⟩
 unfold runesL
 rw [hn,runesGo,if_neg hne,runesGo_fuel n (l.drop (decodeL l).2).length _ (by rw [List.length_drop];omega) (Nat.le_refl _)]
theorem runesL_length (l:List UInt8):(runesL l).length≤l.length:=by
 suffices h:∀ n l,(runesGo n l).length≤n from h _ _
 intro n
 induction n with
 | zero=>intro l;simp [runesGo]
 | succ n ih =>
   intro l
   unfold runesGo
   split
   ·simp
   ·have:=ih (l.drop (decodeL l).2)
    simp
    omega
def norm (r:Int):Int:=if r<0∨(55296≤r∧r≤57343)∨1114111<r then 65533 else r
def encL (rs:List Int):List UInt8:=rs.flatMap encodeRune
theorem encL_nil:encL []=[]:=rfl
theorem encL_cons (r:Int) (rs:List Int):encL (r::rs)=encodeRune r++encL rs:=rfl
theorem encL_append (a b:List Int):encL (a++b)=encL a++encL b:=by simp [encL]
theorem encL_length (rs:List Int):(encL rs).length≤4*rs.length:=by
 induction rs with
 | nil=>simp [encL]
 | cons r t ih =>
   have:=(encodeRuneZ_length r).2
   have h2:(encodeRune r).length=(encodeRuneZ r).length:=by simp [encodeRune]
   rw [encL_cons,List.length_append,List.length_cons]
   omega
theorem norm_good (r:Int):(0≤norm r∧norm r<55296)∨(57343<norm r∧norm r≤1114111):=by unfold norm;split<;>omega
theorem norm_of_good (r:Int) (h:(0≤r∧r<55296)∨(57343<r∧r≤1114111)):norm r=r:=by unfold norm;rw [if_neg (by omega)]
theorem encodeRuneZ_norm (r:Int):encodeRuneZ (norm r)=encodeRuneZ r:=by
 unfold norm
 split
 ·rename_i h
  rw [encodeRuneZ_bad h]
  decide
 ·rfl
theorem decodeN_two (n b1:Nat) (r b2 b3:Nat) (h0:128≤r) (h1:r≤2047) (hn:2≤n):decodeN n (192+r / 64) (128+r%64) b2 b3=(r,2):=by
 unfold decodeN
 rw [if_neg (by omega),if_pos (by omega),if_pos (by omega)]
 congr 1
 omega
theorem decodeN_three (n:Nat) (r b3:Nat) (h:(2048≤r∧r<55296)∨(57343<r∧r≤65535)) (hn:3≤n):decodeN n (224+r / 4096) (128+r / 64%64) (128+r%64) b3=(r,3):=by
 have e:(224+r / 4096)%16*4096+(128+r / 64%64)%64*64+(128+r%64)%64=r:=by omega
 unfold decodeN
 rw [e,if_neg (by omega),if_neg (by omega),if_pos (by omega),if_pos (by omega)]
theorem decodeN_four (n:Nat) (r:Nat) (h0:65536≤r) (h1:r≤1114111) (hn:4≤n):decodeN n (240+r / 262144) (128+r / 4096%64) (128+r / 64%64) (128+r%64)=(r,4):=by
 have e:(240+r / 262144)%8*262144+(128+r / 4096%64)%64*4096+(128+r / 64%64)%64*64+(128+r%64)%64=r:=by omega
 unfold decodeN
 rw [e,if_neg (by omega),if_neg (by omega),if_neg (by omega),if_pos (by omega),if_pos (by omega)]
theorem byte_toNat (x:Int) (h0:0≤x) (h1:x<256):(x.toNat.toUInt8).toNat=x.toNat:=by
 simp
 omega
theorem decode_enc (r:Int) (t:List UInt8):decodeL (encodeRune r++t)=((norm r).toNat,(encodeRune r).length):=by
 have key:∀ q:Int,((0≤q∧q<55296)∨(57343<q∧q≤1114111))→decodeL (encodeRune q++t)=(q.toNat,(encodeRune q).length):=by
  intro q hq
  rw [decodeL_N]
  by_cases c1:q≤127
  ·have e:encodeRune q=[q.toNat.toUInt8]:=by unfold encodeRune;rw [encodeRuneZ_one (by omega) c1];rfl
   rw [e]
   simp only [List.cons_append,List.nil_append,List.length_cons,List.length_nil,List.getD_cons_zero,List.getD_cons_succ]
   rw [byte_toNat q (by omega) (by omega),decodeN,if_pos (by omega)]
  ·by_cases c2:q≤2047
   ·have e:encodeRune q=[(192+q / 64).toNat.toUInt8,(128+q%64).toNat.toUInt8]:=by unfold encodeRune;rw [encodeRuneZ_two (by omega) c2];rfl
    rw [e]
    simp only [List.cons_append,List.nil_append,List.length_cons,List.length_nil,List.getD_cons_zero,List.getD_cons_succ]
    rw [byte_toNat _ (by omega) (by omega),byte_toNat _ (by omega) (by omega)]
    rw [show (192+q / 64).toNat=192+q.toNat / 64 by omega,show (128+q%64).toNat=128+q.toNat%64 by omega]
    exact decodeN_two _ 0 _ _ _ (by omega) (by omega) (by omega)
   ·by_cases c3:q≤65535
    ·have e:encodeRune q=[(224+q / 4096).toNat.toUInt8,(128+q / 64%64).toNat.toUInt8,(128+q%64).toNat.toUInt8]:=by unfold encodeRune;rw [encodeRuneZ_three (by omega)];rfl
     rw [e]
     simp only [List.cons_append,List.nil_append,List.length_cons,List.length_nil,List.getD_cons_zero,List.getD_cons_succ]
     rw [byte_toNat _ (by omega) (by omega),byte_toNat _ (by omega) (by omega),byte_toNat _ (by omega) (by omega)]
     rw [show (224+q / 4096).toNat=224+q.toNat / 4096 by omega,show (128+q / 64%64).toNat=128+q.toNat / 64%64 by omega,show (128+q%64).toNat=128+q.toNat%64 by omega]
     exact decodeN_three _ _ _ (by omega) (by omega)
    ·have e:encodeRune q=[(240+q / 262144).toNat.toUInt8,(128+q / 4096%64).toNat.toUInt8,(128+q / 64%64).toNat.toUInt8,(128+q%64).toNat.toUInt8]:=by unfold encodeRune;rw [encodeRuneZ_four (by omega) (by omega)];rfl
     rw [e]
     simp only [List.cons_append,List.nil_append,List.length_cons,List.length_nil,List.getD_cons_zero,List.getD_cons_succ]
     rw [byte_toNat _ (by omega) (by omega),byte_toNat _ (by omega) (by omega),byte_toNat _ (by omega) (by omega),byte_toNat _ (by omega) (by omega)]
     rw [show (240+q / 262144).toNat=240+q.toNat / 262144 by omega,show (128+q / 4096%64).toNat=128+q.toNat / 4096%64 by omega,show (128+q / 64%64).toNat=128+q.toNat / 64%64 by omega,show (128+q%64).toNat=128+q.toNat%64 by omega]
     exact decodeN_four _ _ (by omega) (by omega) (by omega)
 have e:encodeRune r=encodeRune (norm r):=by unfold encodeRune;rw [encodeRuneZ_norm]
 rw [e]
 exact key (norm r) (norm_good r)
theorem encodeRune_ne (r:Int):encodeRune r≠[]:=by
 have:=(encodeRuneZ_length r).1
 intro h
 have h2:(encodeRune r).length=(encodeRuneZ r).length:=by simp [encodeRune]
 rw [h] at h2
 simp at h2
 omega
theorem runes_enc (rs:List Int):runesL (encL rs)=rs.map norm:=by
 induction rs with
 | nil=>rfl
 | cons r t ih =>
   rw [encL_cons,runesL_step _ (by simp [encodeRune_ne]),decode_enc]
   simp only [List.drop_left,ih,List.map_cons]
   congr 1
   have:=norm_good r
   omega
theorem decode_back (l:List UInt8) (hne:l≠[]):((decodeL l).1=65533∧(decodeL l).2=1)∨encodeRune ((decodeL l).1:Int)=l.take (decodeL l).2:=by
 have hl:0<l.length:=List.length_pos_iff.2 hne
 have e0:∀ k,k<l.length→l.take (k+1)=l.take k++[l.getD k 0]:=by
  intro k hk
  rw [List.take_succ_eq_append_getElem hk]
  simp [List.getD,hk]
 have by8:∀ (x:UInt8) (n:Nat),x.toNat=n→n.toUInt8=x:=by
  intro x n h;subst h;simp
 rw [decodeL_N]
 generalize h0:l.getD 0 0=x0
 generalize h1:l.getD 1 0=x1
 generalize h2:l.getD 2 0=x2
 generalize h3:l.getD 3 0=x3
 have y0:x0.toNat<256:=x0.toNat_lt
 have y1:x1.toNat<256:=x1.toNat_lt
 have y2:x2.toNat<256:=x2.toNat_lt
 have y3:x3.toNat<256:=x3.toNat_lt
 unfold decodeN
 by_cases c0:x0.toNat<128
 ·right
  rw [if_pos c0]
  show encodeRune _=_
  unfold encodeRune
  rw [encodeRuneZ_one (by omega) (by omega),e0 0 hl,h0]
  simp
 ·rw [if_neg c0]
  by_cases c1:x0.toNat / 32=6∧(1<l.length∧x1.toNat / 64=2)
  ·rw [if_pos c1]
   by_cases d:x0.toNat%32*64+x1.toNat%64≥128
   ·right
    rw [if_pos d]
    show encodeRune _=_
    unfold encodeRune
    rw [encodeRuneZ_two (by omega) (by omega),e0 1 (by omega),e0 0 hl,h0,h1]
    simp only [List.map_cons,List.map_nil,List.take_zero,List.nil_append,List.cons_append,List.cons.injEq,and_true]
    exact ⟨by8 _ _ (by omega),by8 _ _ (by omega)⟩
   ·left
    rw [if_neg d]
    exact ⟨rfl,rfl⟩
  ·rw [if_neg c1]
   by_cases c2:x0.toNat / 16=14∧(1<l.length∧x1.toNat / 64=2)∧(2<l.length∧x2.toNat / 64=2)
   ·rw [if_pos c2]
    split
    ·right
     show encodeRune _=_
     unfold encodeRune
     rw [encodeRuneZ_three (by omega),e0 2 (by omega),e0 1 (by omega),e0 0 hl,h0,h1,h2]
     simp only [List.map_cons,List.map_nil,List.take_zero,List.nil_append,List.cons_append,List.cons.injEq,and_true]
     exact ⟨by8 _ _ (by omega),by8 _ _ (by omega),by8 _ _ (by omega)⟩
    ·left
     exact ⟨rfl,rfl⟩
   ·rw [if_neg c2]
    by_cases c3:x0.toNat / 8=30∧(1<l.length∧x1.toNat / 64=2)∧(2<l.length∧x2.toNat / 64=2)∧(3<l.length∧x3.toNat / 64=2)
    ·rw [if_pos c3]
     split
     ·right
      show encodeRune _=_
      unfold encodeRune
      rw [encodeRuneZ_four (by omega) (by omega),e0 3 (by omega),e0 2 (by omega),e0 1 (by omega),e0 0 hl,h0,h1,h2,h3]
      simp only [List.map_cons,List.map_nil,List.take_zero,List.nil_append,List.cons_append,List.cons.injEq,and_true]
      exact ⟨by8 _ _ (by omega),by8 _ _ (by omega),by8 _ _ (by omega),by8 _ _ (by omega)⟩
     ·left
      exact ⟨rfl,rfl⟩
    ·rw [if_neg c3]
     left
     exact ⟨rfl,rfl⟩
def lowerZ (r:Int):Int :=
 if (65≤r∧r≤90)∨(192≤r∧r≤222∧r≠215)∨(913≤r∧r≤939∧r≠930)∨(1040≤r∧r≤1071) then r+32
 else if 1024≤r∧r≤1039 then r+80 else r
def wordZ (r:Int):Bool :=
 decide ((48≤r∧r≤57)∨(65≤r∧r≤90)∨(97≤r∧r≤122)∨(192≤r∧r≤255∧r≠215∧r≠247)∨(913≤r∧r≤974∧r≠930)∨(1024≤r∧r≤1119))
theorem lower_lower (r:Int):lowerZ (lowerZ r)=lowerZ r:=by unfold lowerZ;repeat' split;all_goals omega
end Go.Proofs.YtdijhifdjbnkfaaGreat.UM
namespace Go.Proofs.YtdijhifdjbnkfaaGreat.TK
open Go.Lib Go.Proofs.YtdijhifdjbnkfaaGreat.UM
def lowB (r:Int):List UInt8:=encodeRune (lowerZ r)
def cutGo:Nat→List Int→List UInt8
 | _,[]=>[]
 | m,r::t=>if (lowB r).length≤m then lowB r++cutGo (m - (lowB r).length) t else []
def cutW (row:List Int):List UInt8:=cutGo 32 row
def lowL (row:List Int):List UInt8:=encL (row.map lowerZ)
theorem lowL_nil:lowL []=[]:=rfl
theorem lowL_cons (r:Int) (t:List Int):lowL (r::t)=lowB r++lowL t:=rfl
theorem enc_len (r:Int):1≤(encodeRune r).length∧(encodeRune r).length≤4:=by
 have:=encodeRuneZ_length r
 have h2:(encodeRune r).length=(encodeRuneZ r).length:=by simp [encodeRune]
 omega
theorem lowB_len (r:Int):1≤(lowB r).length∧(lowB r).length≤4:=enc_len _
theorem lowL_len (l:List Int):l.length≤(lowL l).length∧(lowL l).length≤4*l.length:=by
 induction l with
 | nil=>simp [lowL,encL]
 | cons r t ih =>
   have:=lowB_len r
   rw [lowL_cons,List.length_append,List.length_cons]
   omega
theorem cutGo_take:∀ (l:List Int) (m n:Nat),n≤l.length→(lowL (l.take n)).length≤m→(n=l.length∨m<(lowL (l.take (n+1))).length)→cutGo m l=lowL (l.take n)
 | [],m,n,h,_,_=>by simp [cutGo,lowL,encL]
 | r::t,m,0,h,h1,h2=>by
   have:=lowB_len r
   rcases h2 with h2 | h2
   ·simp at h2
   ·simp [lowL_cons,lowL_nil] at h2
    rw [cutGo,if_neg (by omega)]
    simp [lowL_nil]
 | r::t,m,n+1,h,h1,h2=>by
   simp [lowL_cons] at h1 h2 h
   rw [cutGo,if_pos (by omega),List.take_succ_cons,lowL_cons,cutGo_take t (m - (lowB r).length) n h (by omega) (by omega)]
theorem cutW_take (l:List Int) (n:Nat) (h:n≤l.length) (h1:(lowL (l.take n)).length≤32) (h2:n=l.length∨32<(lowL (l.take (n+1))).length):cutW l=lowL (l.take n) :=
 cutGo_take l 32 n h h1 h2
theorem cutGo_form:∀ (l:List Int) (m:Nat),∃ n,n≤l.length∧cutGo m l=lowL (l.take n)∧(lowL (l.take n)).length≤m∧(4≤m→l≠[]→1≤n)
 | [],m=>⟨0,by simp,by simp [cutGo,lowL_nil],by simp [lowL_nil],fun _ h=>absurd rfl h⟩
 | r::t,m=>by
   have h4:=lowB_len r
   by_cases hm:(lowB r).length≤m
   ·obtain ⟨n,h0,h1,h2,_⟩:=cutGo_form t (m - (lowB r).length)
    refine ⟨n+1,by simp;omega,?_,?_,fun _ _=>by omega⟩
    ·rw [cutGo,if_pos hm,h1,List.take_succ_cons,lowL_cons]
    ·rw [List.take_succ_cons,lowL_cons,List.length_append];omega
   ·refine ⟨0,by simp,?_,by simp [lowL_nil],fun h=>by omega⟩
    rw [cutGo,if_neg hm];simp [lowL_nil]
theorem cutW_form (l:List Int):∃ n,n≤l.length∧cutW l=lowL (l.take n)∧(lowL (l.take n)).length≤32∧(l≠[]→1≤n):=by
 obtain ⟨n,h0,h1,h2,h3⟩:=cutGo_form l 32
 exact ⟨n,h0,h1,h2,h3 (by omega)⟩
def one (l:List Int):List (List Int):=if l=[] then [] else [l]
def rowsAcc:List Int→List Int→List (List Int)
 | acc,[]=>one acc
 | acc,r::t=>if wordZ r=true then rowsAcc (acc++[r]) t else one acc++rowsAcc [] t
def rowsL (l:List Int):List (List Int):=rowsAcc [] l
def wordsR (l:List Int):List (List UInt8):=(rowsL l).map cutW
def wordsB (b:List UInt8):List (List UInt8):=wordsR (runesL b)
theorem one_nil:one []=[]:=rfl
theorem one_ne {l:List Int} (h:l≠[]):one l=[l]:=by simp [one,h]
theorem rowsAcc_row:∀ (p acc t:List Int),(∀ r∈p,wordZ r=true)→rowsAcc acc (p++t)=rowsAcc (acc++p) t
 | [],acc,t,_=>by simp
 | r::p,acc,t,h=>by
   rw [List.cons_append,rowsAcc,if_pos (h r (by simp)),rowsAcc_row p _ t (fun x hx=>h x (by simp [hx])),List.append_assoc];rfl
theorem rowsL_all {p:List Int} (h:∀ r∈p,wordZ r=true):rowsL p=one p:=by
 have:=rowsAcc_row p [] [] h
 rw [List.append_nil] at this
 rw [rowsL,this,List.nil_append];rfl
theorem rowsL_part {p t:List Int} {r:Int} (h:∀ r∈p,wordZ r=true) (hr:wordZ r=false):rowsL (p++r::t)=one p++rowsL t:=by
 rw [rowsL,rowsAcc_row p [] _ h,List.nil_append,rowsAcc,if_neg (by simp [hr])];rfl
theorem rowsAcc_good:∀ (l acc:List Int),(∀ r∈acc,wordZ r=true)→∀ p∈rowsAcc acc l,p≠[]∧∀ r∈p,wordZ r=true
 | [],acc,h,p,hp=>by
   unfold rowsAcc one at hp
   split at hp
   ·simp at hp
   ·simp at hp;subst hp;exact ⟨by assumption,h⟩
 | r::t,acc,h,p,hp=>by
   unfold rowsAcc at hp
   split at hp
   ·rename_i hr
    exact rowsAcc_good t _ (fun x hx=>by simp at hx;rcases hx with hx | hx;exact h x hx;subst hx;exact hr) p hp
   ·rw [List.mem_append] at hp
    rcases hp with hp | hp
    ·unfold one at hp
     split at hp
     ·simp at hp
     ·simp at hp;subst hp;exact ⟨by assumption,h⟩
    ·exact rowsAcc_good t [] (by simp) p hp
theorem rowsL_good (l:List Int):∀ p∈rowsL l,p≠[]∧∀ r∈p,wordZ r=true:=rowsAcc_good l [] (by simp)
theorem rowsAcc_count:∀ (l acc:List Int),(rowsAcc acc l).length≤acc.length+l.length
 | [],acc=>by
   unfold rowsAcc one
   split
   ·simp
   ·rename_i h
    have:=List.length_pos_iff.2 h
    simp;omega
 | r::t,acc=>by
   unfold rowsAcc
   split
   ·have:=rowsAcc_count t (acc++[r])
    simp at this
    simp;omega
   ·have:=rowsAcc_count t []
    have h1:(one acc).length≤acc.length:=by
     unfold one
     split
     ·simp
     ·rename_i h
      have:=List.length_pos_iff.2 h
      simp;omega
    simp at this
    simp;omega
theorem wordsR_count (l:List Int):(wordsR l).length≤l.length:=by
 have:=rowsAcc_count l []
 simp at this
 unfold wordsR rowsL
 rw [List.length_map];exact this
theorem wordsB_count (b:List UInt8):(wordsB b).length≤b.length:=Nat.le_trans (wordsR_count _) (runesL_length b)
theorem wordZ_lower (r:Int):wordZ (lowerZ r)=wordZ r:=by
 unfold wordZ lowerZ
 repeat' split
 all_goals first | rfl | (congr 1;simp;omega)
theorem norm_word {r:Int} (h:wordZ r=true):norm r=r:=by
 unfold wordZ at h
 simp at h
 exact norm_of_good r (by omega)
def Good (zs:List Int):Prop:=zs≠[]∧(∀ z∈zs,wordZ z=true)∧(∀ z∈zs,lowerZ z=z)∧(encL zs).length≤32
theorem Good.norm {zs:List Int} (h:Good zs):zs.map norm=zs:=by
 have:∀ z∈zs,UM.norm z=z:=fun z hz=>norm_word (h.2.1 z hz)
 rw [List.map_congr_left this,List.map_id'']
 intro;rfl
theorem Good.low {zs:List Int} (h:Good zs):lowL zs=encL zs:=by
 have:∀ z∈zs,lowerZ z=id z:=h.2.2.1
 unfold lowL
 rw [List.map_congr_left this,List.map_id]
theorem Good.cut {zs:List Int} (h:Good zs):cutW zs=encL zs:=by
 rw [cutW_take zs zs.length (Nat.le_refl _) (by rw [List.take_length,h.low];exact h.2.2.2) (.inl rfl),List.take_length,h.low]
theorem Good.self {zs:List Int} (h:Good zs):wordsB (encL zs)=[encL zs]:=by
 unfold wordsB wordsR
 rw [runes_enc,h.norm,rowsL_all h.2.1,one_ne h.1,List.map_singleton,h.cut]
theorem good_of_row {p:List Int} (hne:p≠[]) (h:∀ r∈p,wordZ r=true):∃ zs,Good zs∧cutW p=encL zs:=by
 obtain ⟨n,hn,h1,h2,h3⟩:=cutW_form p
 refine ⟨(p.take n).map lowerZ,⟨?_,?_,?_,h2⟩,h1⟩
 ·have:=h3 hne
  have hp:=List.length_pos_iff.2 hne
  intro h0
  have h9:=congrArg List.length h0
  rw [List.length_map,List.length_take,List.length_nil] at h9
  omega
 ·intro z hz
  obtain ⟨r,hr,rfl⟩:=List.mem_map.1 hz
  rw [wordZ_lower]
  exact h r (List.mem_of_mem_take hr)
 ·intro z hz
  obtain ⟨r,hr,rfl⟩:=List.mem_map.1 hz
  exact lower_lower r
theorem words_good (l:List Int):∃ Z:List (List Int),wordsR l=Z.map encL∧∀ zs∈Z,Good zs:=by
 unfold wordsR
 have hg:=rowsL_good l
 generalize rowsL l=P at hg
 induction P with
 | nil=>exact ⟨[],rfl,by simp⟩
 | cons p P ih =>
   obtain ⟨Z,h1,h2⟩:=ih (fun q hq=>hg q (by simp [hq]))
   obtain ⟨zs,hz,e⟩:=good_of_row (hg p (by simp)).1 (hg p (by simp)).2
   exact ⟨zs::Z,by rw [List.map_cons,List.map_cons,h1,e],fun q hq=>by simp at hq;rcases hq with rfl | hq;exact hz;exact h2 q hq⟩
theorem word_self (l:List UInt8):∀ x∈wordsB l,wordsB x=[x]∧x.length≤32:=by
 intro x hx
 obtain ⟨Z,h1,h2⟩:=words_good (runesL l)
 unfold wordsB at hx
 rw [h1] at hx
 obtain ⟨zs,hz,rfl⟩:=List.mem_map.1 hx
 exact ⟨(h2 zs hz).self,(h2 zs hz).2.2.2⟩
def allL (ws:List (List UInt8)):List UInt8:=ws.flatMap fun x=>x++[32]
def nameByte (c:UInt8):Bool:=decide ((97≤c.toNat∧c.toNat≤122)∨(48≤c.toNat∧c.toNat≤57)∨c.toNat=95)
def nameL (l:List UInt8):Bool:=decide (1≤l.length∧l.length≤32)&&l.all nameByte
def nameRune (r:Int):Bool:=decide ((97≤r∧r≤122)∨(48≤r∧r≤57)∨r=95)
end Go.Proofs.YtdijhifdjbnkfaaGreat.TK
namespace Go.Proofs.YtdijhifdjbnkfaaGreat.EM
open Go Go.Proofs.YtdijhifdjbnkfaaGreat.VM
open Go.Proofs.YtdijhifdjbnkfaaGreat.TK (nameL)
abbrev Fld:=List UInt8×List UInt8
abbrev Ev:=Int×List Fld
def checkF:List Fld→Int
 | []=>0
 | f::r=>if nameL f.1=false then 100 else if 4096<f.2.length then 2 else checkF r
def checkE (e:Ev):Int:=if 16<e.2.length then 3 else checkF e.2
theorem checkF_next {fs:List Fld} {k:Nat} (hk:k<fs.length):checkF (fs.drop k)=if nameL fs[k].1=false then 100 else if 4096<fs[k].2.length then 2 else checkF (fs.drop (k+1)):=by
 rw [List.drop_eq_getElem_cons hk,checkF]
theorem checkF_ok:∀ {fs:List Fld},checkF fs=0↔∀ f∈fs,nameL f.1=true∧f.2.length≤4096
 | []=>by simp [checkF]
 | f::r=>by
   rw [checkF]
   have ih:=@checkF_ok r
   constructor
   ·intro h
    split at h
    ·omega
    ·split at h
     ·omega
     ·rename_i h1 h2
      intro g hg
      rcases List.mem_cons.1 hg with rfl | hg
      ·exact ⟨by simpa using h1,by omega⟩
      ·exact ih.1 h g hg
   ·intro h
    obtain ⟨h1,h2⟩:=h f (by simp)
    rw [if_neg (by simp [h1]),if_neg (by omega)]
    exact ih.2 fun g hg=>h g (by simp [hg])
theorem checkE_ok {e:Ev}:checkE e=0↔e.2.length≤16∧∀ f∈e.2,nameL f.1=true∧f.2.length≤4096:=by
 unfold checkE
 constructor
 ·intro h
  split at h
  ·omega
  ·exact ⟨by omega,checkF_ok.1 h⟩
 ·intro h
  rw [if_neg (by omega)]
  exact checkF_ok.2 h.2
theorem name_len {n:List UInt8} (h:nameL n=true):n.length≤32:=by
 unfold TK.nameL at h
 simp at h
 omega
def sizeF (fs:List Fld):Nat:=(fs.map fun f=>f.1.length+f.2.length).sum
theorem sizeF_next {fs:List Fld} {k:Nat} (hk:k<fs.length):sizeF (fs.take (k+1))=sizeF (fs.take k)+fs[k].1.length+fs[k].2.length:=by
 unfold sizeF
 rw [List.take_succ_eq_append_getElem hk,List.map_append,List.sum_append]
 simp
 omega
theorem sizeF_of_ok:∀ {fs:List Fld},(∀ f∈fs,nameL f.1=true∧f.2.length≤4096)→sizeF fs≤4128*fs.length
 | [],_=>by simp [sizeF]
 | f::r,h=>by
   have h1:=h f (by simp)
   have h2:=name_len h1.1
   have ih:=sizeF_of_ok (fs:=r) fun g hg=>h g (by simp [hg])
   have e:sizeF (f::r)=f.1.length+f.2.length+sizeF r:=by simp [sizeF]
   rw [e,List.length_cons]
   omega
def bytesF (fs:List Fld):List UInt8:=fs.flatMap fun f=>textL f.1++textL f.2
theorem bytesF_cons (f:Fld) (r:List Fld):bytesF (f::r)=textL f.1++(textL f.2++bytesF r):=by simp [bytesF]
theorem bytesF_next {fs:List Fld} {k:Nat} (hk:k<fs.length):bytesF (fs.take (k+1))=bytesF (fs.take k)++(textL fs[k].1++textL fs[k].2):=by
 unfold bytesF
 rw [List.take_succ_eq_append_getElem hk,List.flatMap_append]
 simp
def bytesE (e:Ev):List UInt8:=intL e.1++bytesL e.2.length++bytesF e.2
theorem textL_len (s:List UInt8):(textL s).length≤10+s.length∧1≤(textL s).length:=by
 unfold textL
 rw [List.length_append]
 have:=bytesL_length s.length
 omega
theorem bytesF_len:∀ fs:List Fld,(bytesF fs).length≤20*fs.length+sizeF fs
 | []=>by simp [bytesF]
 | f::r=>by
   rw [bytesF_cons,List.length_append,List.length_append,List.length_cons]
   have h1:=(textL_len f.1).1
   have h2:=(textL_len f.2).1
   have h3:=bytesF_len r
   have e:sizeF (f::r)=f.1.length+f.2.length+sizeF r:=by simp [sizeF]
   omega
theorem bytesE_len (e:Ev):(bytesE e).length≤20+20*e.2.length+sizeF e.2∧1≤(bytesE e).length:=by
 unfold bytesE
 rw [List.length_append,List.length_append]
 have h1:=bytesL_length (zig e.1)
 have h2:=bytesL_length e.2.length
 have h3:=bytesF_len e.2
 unfold intL
 omega
def getFa:Nat→List Fld→List UInt8→Option (List Fld×List UInt8)
 | 0,acc,l=>some (acc,l)
 | k+1,acc,l =>
   if (getT l 32).2.2≠0∨(getT (l.drop (getT l 32).2.1) 4096).2.2≠0 then none
   else getFa k (acc++[((getT l 32).1,(getT (l.drop (getT l 32).2.1) 4096).1)]) ((l.drop (getT l 32).2.1).drop (getT (l.drop (getT l 32).2.1) 4096).2.1)
def rdE (l:List UInt8):Option (Ev×List UInt8) :=
 if (getI l).2.2≠0 then none
 else if (getL (l.drop (getI l).2.1)).2.2≠0∨16<(getL (l.drop (getI l).2.1)).1 then none
 else match getFa (getL (l.drop (getI l).2.1)).1 [] ((l.drop (getI l).2.1).drop (getL (l.drop (getI l).2.1)).2.1) with
  | none=>none
  | some (fs,r)=>some (((getI l).1,fs),r)
def getE (l:List UInt8):Option (Ev×List UInt8) :=
 match rdE l with
 | none=>none
 | some (e,r)=>if checkE e=0 then some (e,r) else none
theorem getT_back {l s:List UInt8} {m:Int} {k:Nat} (h:getT l m=(s,k,0)):textL s++l.drop k=l∧(s.length:Int)≤max 0 m∧k≤l.length:=by
 unfold getT at h
 split at h
 ·rename_i h1
  have:=congrArg (fun x=>x.2.2) h
  simp at this
  exact absurd this h1
 ·split at h
  ·simp at h
  ·split at h
   ·simp at h
   ·rename_i h1 h2 h3
    simp only [Prod.mk.injEq,and_true] at h
    obtain ⟨hs,hk⟩:=h
    have h0:(getL l).2.2=0:=by simpa using h1
    have hb:=getL_back (l:=l) (n:=(getL l).1) (k:=(getL l).2.1) (by rw [← h0])
    have hbd:=(getL_bounds l).2.1
    have hl:s.length=(getL l).1:=by rw [← hs,List.length_take,List.length_drop];omega
    refine ⟨?_,by rw [hl];omega,by omega⟩
    unfold textL
    rw [hl,← hk,List.append_assoc]
    have e:s++l.drop ((getL l).2.1+(getL l).1)=l.drop (getL l).2.1:=by
     rw [← hs,← List.drop_drop,List.take_append_drop]
    rw [e]
    exact hb
theorem getFa_put:∀ (fs acc:List Fld) (r:List UInt8),(∀ f∈fs,f.1.length≤32∧f.2.length≤4096)→getFa fs.length acc (bytesF fs++r)=some (acc++fs,r)
 | [],acc,r,_=>by simp [getFa,bytesF]
 | f::fs,acc,r,h=>by
   obtain ⟨h1,h2⟩:=h f (by simp)
   rw [List.length_cons,getFa,bytesF_cons,List.append_assoc,List.append_assoc,getT_put f.1 (by omega) 32 (by omega)]
   dsimp only
   rw [List.drop_left,getT_put f.2 (by omega) 4096 (by omega)]
   dsimp only
   rw [List.drop_left,if_neg (by simp)]
   rw [getFa_put fs (acc++[(f.1,f.2)]) r fun g hg=>h g (by simp [hg])]
   simp
theorem getFa_back:∀ (k:Nat) (acc:List Fld) (l:List UInt8) (fs:List Fld) (r:List UInt8),getFa k acc l=some (fs,r) →
  ∃ gs,fs=acc++gs∧gs.length=k∧bytesF gs++r=l∧∀ f∈gs,f.1.length≤32∧f.2.length≤4096
 | 0,acc,l,fs,r,h=>by
   simp only [getFa,Option.some.injEq,Prod.mk.injEq] at h
   exact ⟨[],by simp [h.1],rfl,by simp [bytesF,h.2],by simp⟩
 | k+1,acc,l,fs,r,h=>by
   rw [getFa] at h
   split at h
   ·cases h
   ·rename_i hne
    obtain ⟨s,k1,e1,hs⟩:∃ s k1 e1,getT l 32=(s,k1,e1):=⟨_,_,_,rfl⟩
    rw [hs] at h hne
    dsimp only at h hne
    obtain ⟨t,k2,e2,ht⟩:∃ t k2 e2,getT (l.drop k1) 4096=(t,k2,e2):=⟨_,_,_,rfl⟩
    rw [ht] at h hne
    dsimp only at h hne
    obtain ⟨rfl,rfl⟩:e1=0∧e2=0:=by constructor<;>(apply Classical.byContradiction;intro hc;exact hne (by simp [hc]))
    obtain ⟨b1,b2,_⟩:=getT_back hs
    obtain ⟨c1,c2,_⟩:=getT_back ht
    obtain ⟨gs,g1,g2,g3,g4⟩:=getFa_back k _ _ _ _ h
    refine ⟨(s,t)::gs,by rw [g1];simp,by simp [g2],?_,?_⟩
    ·rw [bytesF_cons,List.append_assoc,List.append_assoc,g3]
     dsimp only
     rw [c1,b1]
    ·intro f hf
     rcases List.mem_cons.1 hf with rfl | hf
     ·exact ⟨by show s.length≤32;omega,by show t.length≤4096;omega⟩
     ·exact g4 f hf
def FitE (e:Ev):Prop := -9223372036854775808≤e.1∧e.1≤9223372036854775807
theorem rdE_put {e:Ev} (hf:FitE e) (hn:e.2.length≤16) (h:∀ f∈e.2,f.1.length≤32∧f.2.length≤4096) (r:List UInt8):rdE (bytesE e++r)=some (e,r):=by
 unfold rdE bytesE
 rw [List.append_assoc,List.append_assoc,getI_put e.1 hf.1 hf.2]
 dsimp only
 rw [List.drop_left,getL_put _ (by omega)]
 dsimp only
 rw [List.drop_left,if_neg (by simp),if_neg (by simp;omega),getFa_put e.2 [] r h]
 simp
theorem ok_lens {e:Ev} (h:checkE e=0):e.2.length≤16∧∀ f∈e.2,f.1.length≤32∧f.2.length≤4096:=by
 obtain ⟨h1,h2⟩:=checkE_ok.1 h
 exact ⟨h1,fun f hf=>⟨name_len (h2 f hf).1,(h2 f hf).2⟩⟩
theorem getE_put {e:Ev} (hf:FitE e) (h:checkE e=0) (r:List UInt8):getE (bytesE e++r)=some (e,r):=by
 obtain ⟨h1,h2⟩:=ok_lens h
 unfold getE
 rw [rdE_put hf h1 h2]
 simp [h]
theorem rdE_back {l r:List UInt8} {e:Ev} (h:rdE l=some (e,r)):bytesE e++r=l∧FitE e∧e.2.length≤16:=by
 unfold rdE at h
 split at h
 ·cases h
 ·split at h
  ·cases h
  ·rename_i h1 h2
   have h10:(getI l).2.2=0:=by simpa using h1
   obtain ⟨n,k1,e1,hI⟩:∃ n k1 e1,getI l=(n,k1,e1):=⟨_,_,_,rfl⟩
   rw [hI] at h h2 h10
   dsimp only at h h2 h10
   subst h10
   obtain ⟨m,k2,e2,hL⟩:∃ m k2 e2,getL (l.drop k1)=(m,k2,e2):=⟨_,_,_,rfl⟩
   rw [hL] at h h2
   dsimp only at h h2
   have h20:e2=0∧m≤16:=by constructor<;>(apply Classical.byContradiction;intro hc;exact h2 (by first | exact .inl hc | exact .inr (by omega)))
   obtain ⟨rfl,hm⟩:=h20
   cases hg:getFa m [] ((l.drop k1).drop k2) with
   | none=>rw [hg] at h;cases h
   | some p =>
     obtain ⟨fs,r2⟩:=p
     rw [hg] at h
     simp only [Option.some.injEq,Prod.mk.injEq] at h
     obtain ⟨rfl,rfl⟩:=h
     obtain ⟨gs,g1,g2,g3,g4⟩:=getFa_back _ _ _ _ _ hg
     rw [List.nil_append] at g1
     subst g1
     have hb1:intL n++l.drop k1=l:=by
      unfold getI at hI
      simp only [Prod.mk.injEq] at hI
      have hz:=getL_back (l:=l) (n:=(getL l).1) (k:=k1) (by rw [← hI.2.1,← hI.2.2])
      have hzz:zig n=(getL l).1:=by
       rw [← hI.1]
       generalize (getL l).1=u
       unfold zig zag
       split<;>split<;>omega
      unfold intL
      rw [hzz]
      exact hz
     have hb2:=getL_back hL
     refine ⟨?_,?_,by show fs.length≤16;omega⟩
     ·unfold bytesE
      dsimp only
      rw [List.append_assoc,List.append_assoc,g3,g2,hb2,hb1]
     ·have hbd:=(getI_bounds l).1
      rw [hI] at hbd
      exact hbd
theorem getE_back {l r:List UInt8} {e:Ev} (h:getE l=some (e,r)):bytesE e++r=l∧FitE e∧checkE e=0:=by
 unfold getE at h
 cases hr:rdE l with
 | none=>rw [hr] at h;cases h
 | some p =>
   obtain ⟨e',r'⟩:=p
   rw [hr] at h
   dsimp only at h
   split at h
   ·simp only [Option.some.injEq,Prod.mk.injEq] at h
    obtain ⟨rfl,rfl⟩:=h
    exact ⟨(rdE_back hr).1,(rdE_back hr).2.1,by assumption⟩
   ·cases h
end Go.Proofs.YtdijhifdjbnkfaaGreat.EM
namespace Go.Proofs.YtdijhifdjbnkfaaGreat.EM
open Go
open Go.Proofs.YtdijhifdjbnkfaaGreat.TK (wordsB)
def lessL:List UInt8→List UInt8→Bool
 | [],[]=>false
 | [],_::_=>true
 | _::_,[]=>false
 | a::x,b::y=>if a=b then lessL x y else decide (a.toNat<b.toNat)
theorem lessL_irr:∀ x,lessL x x=false
 | []=>rfl
 | a::x=>by rw [lessL,if_pos rfl,lessL_irr x]
theorem lessL_trans:∀ {x y z},lessL x y=true→lessL y z=true→lessL x z=true
 | [],[],_,h,_=>by simp [lessL] at h
 | [],_::_,[],_,h=>by simp [lessL] at h
 | [],_::_,_::_,_,_=>rfl
 | _::_,[],_,h,_=>by simp [lessL] at h
 | _::_,_::_,[],_,h=>by simp [lessL] at h
 | a::x,b::y,c::z,h1,h2=>by
   rw [lessL] at h1 h2 ⊢
   by_cases e1:a=b
   ·subst e1
    rw [if_pos rfl] at h1
    by_cases e2:a=c
    ·subst e2
     rw [if_pos rfl] at h2 ⊢
     exact lessL_trans h1 h2
    ·rw [if_neg e2] at h2 ⊢
     exact h2
   ·rw [if_neg e1] at h1
    have h1':=of_decide_eq_true h1
    by_cases e2:b=c
    ·subst e2
     rw [if_neg e1]
     exact h1
    ·rw [if_neg e2] at h2
     have h2':=of_decide_eq_true h2
     have e3:a≠c:=by rintro rfl;omega
     rw [if_neg e3]
     exact decide_eq_true (by omega)
theorem lessL_total:∀ {x y},lessL x y=false→x≠y→lessL y x=true
 | [],[],_,h=>absurd rfl h
 | [],_::_,h,_=>by simp [lessL] at h
 | _::_,[],_,_=>rfl
 | a::x,b::y,h,hn=>by
   rw [lessL] at h ⊢
   by_cases e:a=b
   ·subst e
    rw [if_pos rfl] at h ⊢
    exact lessL_total h (fun e2=>hn (by rw [e2]))
   ·rw [if_neg e] at h
    rw [if_neg (fun e2=>e e2.symm)]
    have h':=of_decide_eq_false h
    have:a.toNat≠b.toNat:=fun e2=>e (UInt8.toNat_inj.1 e2)
    exact decide_eq_true (by omega)
theorem lessL_ne {x y:List UInt8} (h:lessL x y=true):x≠y:=by rintro rfl;rw [lessL_irr] at h;cases h
theorem lessL_asym {x y:List UInt8} (h:lessL x y=true):lessL y x=false:=by
 cases hh:lessL y x with
 | false=>rfl
 | true=>have:=lessL_trans h hh;rw [lessL_irr] at this;cases this
theorem less_bytes:∀ x y,Op.bytesLess x y=lessL x y
 | [],[]=>by simp [Op.bytesLess,lessL]
 | [],_::_=>by simp [Op.bytesLess,lessL]
 | _::_,[]=>by simp [Op.bytesLess,lessL]
 | a::x,b::y=>by
   rw [Op.bytesLess,lessL,less_bytes x y]
   by_cases e:a=b
   ·subst e
    simp
   ·have:a.toNat≠b.toNat:=fun e2=>e (UInt8.toNat_inj.1 e2)
    simp [e,UInt8.lt_iff_toNat_lt]
abbrev Tr (α:Type):=List UInt8×List α
abbrev Trm:=Tr Int
variable {α : Type}
def addP:List (Tr α)→List UInt8→α→List (Tr α)
 | [],s,p=>[(s,[p])]
 | t::r,s,p=>if lessL t.1 s=true then t::addP r s p else if t.1=s then (s,t.2++[p])::r else (s,[p])::t::r
def foldP (l:List (Tr α)) (qs:List (List UInt8×α)):List (Tr α):=qs.foldl (fun l q=>addP l q.1 q.2) l
theorem foldP_append (l:List (Tr α)) (a b:List (List UInt8×α)):foldP l (a++b)=foldP (foldP l a) b:=by simp [foldP]
theorem foldP_one (l:List (Tr α)) (s:List UInt8) (p:α):foldP l [(s,p)]=addP l s p:=rfl
def pairsW (n:List UInt8) (ws:List (List UInt8)) (base:Int):List (List UInt8×Int):=ws.zipIdx.map fun p=>(n++58::p.1,base+(p.2:Int))
theorem pairsW_next (n:List UInt8) {ws:List (List UInt8)} {k:Nat} (hk:k<ws.length) (base:Int):pairsW n (ws.take (k+1)) base=pairsW n (ws.take k) base++[(n++58::ws[k],base+(k:Int))]:=by
 unfold pairsW
 rw [List.take_succ_eq_append_getElem hk,List.zipIdx_append,List.map_append]
 simp [Nat.min_eq_left (Nat.le_of_lt hk)]
def pairsF:Int→List Fld→List (List UInt8×Int)
 | _,[]=>[]
 | base,f::r=>pairsW f.1 (wordsB f.2) base++pairsF (base+((wordsB f.2).length:Int)+64) r
def baseF (fs:List Fld):Int:=(fs.map fun f=>((wordsB f.2).length:Int)+64).sum
theorem baseF_next {fs:List Fld} {k:Nat} (hk:k<fs.length):baseF (fs.take (k+1))=baseF (fs.take k)+((wordsB fs[k].2).length:Int)+64:=by
 unfold baseF
 rw [List.take_succ_eq_append_getElem hk,List.map_append,List.sum_append]
 simp
 omega
theorem pairsF_append:∀ (a b:List Fld) (base:Int),pairsF base (a++b)=pairsF base a++pairsF (base+baseF a) b
 | [],b,base=>by simp [pairsF,baseF]
 | f::a,b,base=>by
   rw [List.cons_append,pairsF,pairsF,pairsF_append a b,List.append_assoc]
   congr 3
   simp [baseF]
   omega
theorem pairsF_next {fs:List Fld} {k:Nat} (hk:k<fs.length):pairsF 0 (fs.take (k+1))=pairsF 0 (fs.take k)++pairsW fs[k].1 (wordsB fs[k].2) (baseF (fs.take k)):=by
 rw [List.take_succ_eq_append_getElem hk,pairsF_append,pairsF,pairsF,List.append_nil,Int.zero_add]
def termsF (fs:List Fld):List Trm:=foldP [] (pairsF 0 fs)
def termsE (e:Ev):List Trm:=if checkE e≠0 then [] else termsF e.2
def Rising (l:List (Tr α)):Prop:=l.Pairwise fun a b=>lessL a.1 b.1=true
theorem addP_mem:∀ {l:List (Tr α)} {s:List UInt8} {p:α} {t:Tr α},t∈addP l s p→t.1=s∨∃ u∈l,u.1=t.1
 | [],s,p,t,h=>by simp [addP] at h;exact .inl (by rw [h])
 | u::r,s,p,t,h=>by
   rw [addP] at h
   split at h
   ·rcases List.mem_cons.1 h with rfl | h
    ·exact .inr ⟨t,by simp,rfl⟩
    ·rcases addP_mem h with h | ⟨v,hv,he⟩
     ·exact .inl h
     ·exact .inr ⟨v,by simp [hv],he⟩
   ·split at h
    ·rcases List.mem_cons.1 h with rfl | h
     ·exact .inl rfl
     ·exact .inr ⟨t,by simp [h],rfl⟩
    ·rcases List.mem_cons.1 h with rfl | h
     ·exact .inl rfl
     ·exact .inr ⟨t,by simpa using h,rfl⟩
theorem addP_rising:∀ {l:List (Tr α)} (s:List UInt8) (p:α),Rising l→Rising (addP l s p)
 | [],s,p,_=>by simp [addP,Rising]
 | t::r,s,p,h=>by
   unfold Rising at h ⊢
   rw [addP]
   rw [List.pairwise_cons] at h
   split
   ·rename_i ht
    rw [List.pairwise_cons]
    refine ⟨fun u hu => ?_,addP_rising s p h.2⟩
    rcases addP_mem hu with hu | ⟨v,hv,he⟩
    ·rw [hu];exact ht
    ·rw [← he];exact h.1 v hv
   ·split
    ·rename_i h1 h2
     rw [List.pairwise_cons]
     exact ⟨fun u hu=>by rw [← h2];exact h.1 u hu,h.2⟩
    ·rename_i h1 h2
     have hs:lessL s t.1=true:=lessL_total (by simpa using h1) h2
     rw [List.pairwise_cons,List.pairwise_cons]
     refine ⟨fun u hu => ?_,h.1,h.2⟩
     rcases List.mem_cons.1 hu with rfl | hu
     ·exact hs
     ·exact lessL_trans hs (h.1 u hu)
theorem foldP_rising:∀ (qs:List (List UInt8×α)) {l:List (Tr α)},Rising l→Rising (foldP l qs)
 | [],_,h=>h
 | q::qs,l,h=>foldP_rising qs (addP_rising q.1 q.2 h)
def posOf:List (Tr α)→List UInt8→List α
 | [],_=>[]
 | t::r,s=>if t.1=s then t.2 else posOf r s
theorem posOf_none:∀ {l:List (Tr α)} {s:List UInt8},(∀ t∈l,t.1≠s)→posOf l s=[]
 | [],_,_=>rfl
 | t::r,s,h=>by
   rw [posOf,if_neg (h t (by simp))]
   exact posOf_none fun u hu=>h u (by simp [hu])
theorem posOf_add:∀ {l:List (Tr α)} (s:List UInt8) (p:α) (x:List UInt8),Rising l→posOf (addP l s p) x=if x=s then posOf l s++[p] else posOf l x
 | [],s,p,x,_=>by
   simp only [addP,posOf]
   by_cases h:s=x
   ·subst h;simp
   ·rw [if_neg h,if_neg (fun e=>h e.symm)]
 | t::r,s,p,x,h=>by
   unfold Rising at h
   rw [List.pairwise_cons] at h
   rw [addP]
   split
   ·rename_i ht
    have hne:=lessL_ne ht
    rw [posOf,posOf_add s p x h.2]
    by_cases hx:x=s
    ·subst hx
     rw [if_neg hne,if_pos rfl,if_pos rfl,posOf,if_neg hne]
    ·rw [if_neg hx,if_neg hx,posOf]
   ·split
    ·rename_i h1 h2
     by_cases hx:x=s
     ·subst hx
      simp only [posOf,h2,if_true]
     ·simp only [posOf]
      rw [if_neg (fun e=>hx e.symm),if_neg hx,if_neg (fun e=>hx (by rw [← h2,e]))]
    ·rename_i h1 h2
     by_cases hx:x=s
     ·subst hx
      have hs:lessL x t.1=true:=lessL_total (by simpa using h1) h2
      have hn:posOf (t::r) x=[]:=posOf_none fun u hu e=>by
       rcases List.mem_cons.1 hu with rfl | hu
       ·exact h2 e
       ·have:=lessL_trans hs (h.1 u hu)
        rw [e] at this
        exact lessL_ne this rfl
      rw [posOf,if_pos rfl,if_pos rfl,hn]
      rfl
     ·rw [posOf,if_neg (fun e=>hx e.symm),if_neg hx]
theorem posOf_fold:∀ (qs:List (List UInt8×α)) {l:List (Tr α)} (x:List UInt8),Rising l→posOf (foldP l qs) x=posOf l x++(qs.filter (fun q=>q.1=x)).map (·.2)
 | [],l,x,_=>by simp [foldP]
 | q::qs,l,x,h=>by
   have e:foldP l (q::qs)=foldP (addP l q.1 q.2) qs:=rfl
   rw [e,posOf_fold qs x (addP_rising _ _ h),posOf_add _ _ _ h]
   by_cases hx:x=q.1
   ·subst hx
    simp
   ·rw [if_neg hx,List.filter_cons_of_neg (by simpa using fun e=>hx e.symm)]
theorem termsF_pos (fs:List Fld) (x:List UInt8):posOf (termsF fs) x=((pairsF 0 fs).filter (fun q=>q.1=x)).map (·.2):=by
 unfold termsF
 rw [posOf_fold _ _ (by simp [Rising])]
 rfl
theorem termsF_rising (fs:List Fld):Rising (termsF fs):=foldP_rising _ (by simp [Rising])
theorem addP_ne:∀ {l:List (Tr α)} (s:List UInt8) (p:α),(∀ t∈l,t.2≠[])→∀ t∈addP l s p,t.2≠[]
 | [],s,p,_=>by simp [addP]
 | u::r,s,p,h=>by
   intro t ht
   rw [addP] at ht
   split at ht
   ·rcases List.mem_cons.1 ht with rfl | ht
    ·exact h t (by simp)
    ·exact addP_ne s p (fun v hv=>h v (by simp [hv])) t ht
   ·split at ht
    ·rcases List.mem_cons.1 ht with rfl | ht
     ·simp
     ·exact h t (by simp [ht])
    ·rcases List.mem_cons.1 ht with rfl | ht
     ·simp
     ·exact h t (by simpa using ht)
theorem foldP_ne:∀ (qs:List (List UInt8×α)) {l:List (Tr α)},(∀ t∈l,t.2≠[])→∀ t∈foldP l qs,t.2≠[]
 | [],_,h=>h
 | q::qs,l,h=>foldP_ne qs (addP_ne q.1 q.2 h)
theorem termsF_ne (fs:List Fld):∀ t∈termsF fs,t.2≠[]:=foldP_ne _ (by simp)
theorem rising_unique:∀ {a b:List (Tr α)},Rising a→Rising b→(∀ t∈a,t.2≠[])→(∀ t∈b,t.2≠[])→(∀ x,posOf a x=posOf b x)→a=b
 | [],[],_,_,_,_,_=>rfl
 | [],t::r,_,_,_,h2,h=>by
   have:=h t.1
   rw [posOf,posOf,if_pos rfl] at this
   exact absurd this.symm (h2 t (by simp))
 | t::r,[],_,_,h1,_,h=>by
   have:=h t.1
   rw [posOf,posOf,if_pos rfl] at this
   exact absurd this (h1 t (by simp))
 | t::r,u::q,ha,hb,h1,h2,h=>by
   unfold Rising at ha hb
   rw [List.pairwise_cons] at ha hb
   have none_a:∀ x,lessL x t.1=true→posOf (t::r) x=[]:=fun x hx=>posOf_none fun v hv e=>by
    rcases List.mem_cons.1 hv with rfl | hv
    ·rw [e] at hx;exact lessL_ne hx rfl
    ·have:=lessL_trans hx (ha.1 v hv);rw [e] at this;exact lessL_ne this rfl
   have none_b:∀ x,lessL x u.1=true→posOf (u::q) x=[]:=fun x hx=>posOf_none fun v hv e=>by
    rcases List.mem_cons.1 hv with rfl | hv
    ·rw [e] at hx;exact lessL_ne hx rfl
    ·have:=lessL_trans hx (hb.1 v hv);rw [e] at this;exact lessL_ne this rfl
   have e1:t.1=u.1:=by
    apply Classical.byContradiction
    intro hn
    cases hl:lessL t.1 u.1 with
    | true =>
      have h3:=h t.1
      rw [none_b t.1 hl,posOf,if_pos rfl] at h3
      exact h1 t (by simp) h3
    | false =>
      have h3:=h u.1
      rw [none_a u.1 (lessL_total hl hn)] at h3
      rw [posOf,if_pos rfl] at h3
      exact h2 u (by simp) h3.symm
   have e2:t.2=u.2:=by
    have h3:=h t.1
    rw [posOf,if_pos rfl,posOf,if_pos e1.symm] at h3
    exact h3
   have e3:t=u:=Prod.ext e1 e2
   subst e3
   have hr:r=q:=rising_unique ha.2 hb.2 (fun v hv=>h1 v (by simp [hv])) (fun v hv=>h2 v (by simp [hv])) (fun x=>by
    have h3:=h x
    rw [posOf,posOf] at h3
    by_cases hx:t.1=x
    ·subst hx
     rw [posOf_none fun v hv e=>by have:=ha.1 v hv;rw [e] at this;exact lessL_ne this rfl,posOf_none fun v hv e=>by have:=hb.1 v hv;rw [e] at this;exact lessL_ne this rfl]
    ·rw [if_neg hx,if_neg hx] at h3
     exact h3)
   rw [hr]
def placesT (l:List (Tr α)):List α:=l.flatMap (·.2)
theorem addP_perm:∀ (l:List (Tr α)) (s:List UInt8) (p:α),(placesT (addP l s p)).Perm (placesT l++[p])
 | [],s,p=>by simp [addP,placesT]
 | t::r,s,p=>by
   rw [addP]
   split
   ·show (t.2++placesT (addP r s p)).Perm ((t.2++placesT r)++[p])
    rw [List.append_assoc]
    exact List.Perm.append_left _ (addP_perm r s p)
   ·split
    ·show ((t.2++[p])++placesT r).Perm ((t.2++placesT r)++[p])
     rw [List.append_assoc,List.append_assoc]
     exact List.Perm.append_left _ List.perm_append_comm
    ·show ([p]++(t.2++placesT r)).Perm ((t.2++placesT r)++[p])
     exact List.perm_append_comm
theorem foldP_perm:∀ (qs:List (List UInt8×α)) (l:List (Tr α)),(placesT (foldP l qs)).Perm (placesT l++qs.map (·.2))
 | [],l=>by simp [foldP]
 | q::qs,l=>by
   have e:foldP l (q::qs)=foldP (addP l q.1 q.2) qs:=rfl
   rw [e]
   refine (foldP_perm qs _).trans ?_
   refine (List.Perm.append_right _ (addP_perm l q.1 q.2)).trans ?_
   rw [List.append_assoc]
   exact List.Perm.refl _
def allF (fs:List Fld):List Int:=(pairsF 0 fs).map (·.2)
theorem termsF_perm (fs:List Fld):(placesT (termsF fs)).Perm (allF fs):=by
 exact foldP_perm (pairsF 0 fs) []
theorem pairsW_snd (n:List UInt8) (ws:List (List UInt8)) (base:Int):(pairsW n ws base).map (·.2)=(List.range ws.length).map (fun k:Nat=>base+(k:Int)):=by
 apply List.ext_getElem
 ·simp [pairsW]
 ·intro i h1 h2
  simp [pairsW]
theorem pairsF_bounds:∀ (fs:List Fld) (base:Int),∀ v∈(pairsF base fs).map (·.2),base≤v
 | [],base,v,h=>by simp [pairsF] at h
 | f::r,base,v,h=>by
   rw [pairsF,List.map_append,List.mem_append,pairsW_snd] at h
   rcases h with h | h
   ·obtain ⟨k,_,rfl⟩:=List.mem_map.1 h
    omega
   ·have:=pairsF_bounds r _ v h
    omega
theorem pairsF_rise:∀ (fs:List Fld) (base:Int),((pairsF base fs).map (·.2)).Pairwise (·<·)
 | [],base=>by simp [pairsF]
 | f::r,base=>by
   rw [pairsF,List.map_append,List.pairwise_append,pairsW_snd]
   refine ⟨?_,pairsF_rise r _,?_⟩
   ·rw [List.pairwise_map]
    exact List.pairwise_lt_range.imp fun h=>by omega
   ·intro a ha b hb
    obtain ⟨k,hk,rfl⟩:=List.mem_map.1 ha
    have:=pairsF_bounds r _ b hb
    have:=List.mem_range.1 hk
    omega
def wordsN (fs:List Fld):Nat:=(fs.map fun f=>(wordsB f.2).length).sum
theorem pairsF_len:∀ (fs:List Fld) (base:Int),(pairsF base fs).length=wordsN fs
 | [],base=>rfl
 | f::r,base=>by
   rw [pairsF,List.length_append,pairsF_len r]
   simp [pairsW,wordsN]
theorem places_len (fs:List Fld):(placesT (termsF fs)).length=wordsN fs:=by
 rw [(termsF_perm fs).length_eq]
 unfold allF
 rw [List.length_map,pairsF_len]
end Go.Proofs.YtdijhifdjbnkfaaGreat.EM
namespace Go.Proofs.YtdijhifdjbnkfaaGreat.UM
open Go.RowKit
theorem infoByte:(Tryz.prog.info? 5).map (fun i=>(i.zero,i.size,i.bytes))=some (some (.int .u8 0),1,1):=by kernel_rfl
def Appended (B:Nat) (v:Value) (n:Nat) (xs:List Value) (r:Int) (w:World) (e:Ending) (w':World):Prop :=
 ∃ v',e=.returned v'∧w'.ownsRow B 5 1 v' (n+(Lib.runeCells r).length) (xs++Lib.runeCells r)∧∃ o,(w.alloc o).grownBy w' v.ownBlock
theorem cells_one {r:Int} (h0:0≤r) (h1:r≤127):Lib.runeCells r=[.int .u8 r]:=by unfold Lib.runeCells;rw [Lib.encodeRuneZ_one h0 h1];rfl
theorem cells_two {r:Int} (h0:128≤r) (h1:r≤2047):Lib.runeCells r=[.int .u8 (192+r / 64),.int .u8 (128+r%64)]:=by unfold Lib.runeCells;rw [Lib.encodeRuneZ_two h0 h1];rfl
theorem cells_three {r:Int} (h:(2048≤r∧r<55296)∨(57343<r∧r≤65535)):Lib.runeCells r=[.int .u8 (224+r / 4096),.int .u8 (128+r / 64%64),.int .u8 (128+r%64)]:=by unfold Lib.runeCells;rw [Lib.encodeRuneZ_three h];rfl
theorem cells_four {r:Int} (h0:65536≤r) (h1:r≤1114111):Lib.runeCells r=[.int .u8 (240+r / 262144),.int .u8 (128+r / 4096%64),.int .u8 (128+r / 64%64),.int .u8 (128+r%64)]:=by unfold Lib.runeCells;rw [Lib.encodeRuneZ_four h0 h1];rfl
theorem cells_norm (r:Int):Lib.runeCells (norm r)=Lib.runeCells r:=by unfold Lib.runeCells;rw [encodeRuneZ_norm]
set_option maxHeartbeats 4000000 in
set_option maxRecDepth 100000 in
theorem put_one (B:Nat) (v:Value) (n:Nat) (xs:List Value) (r:Int) (h0:0≤r) (h1:r≤127) (w:World) (hown:w.ownsRow B 5 1 v n xs) (hlen:n+4≤140737488355328) (hBw:B≤w.heap.size) :
  Calls Tryz.prog 221 #[v,.int .i64 r] w (Appended B v n xs r w):=by
 unfold Appended
 rw [cells_one h0 h1]
 obtain ⟨i0,hi,hz0,hz1,hz2⟩:=info_parts infoByte
 have s1:¬ r<0:=by omega
 have s2:¬ 1114111<r:=by omega
 have s3:¬ 55296≤r:=by omega
 go_enter Tryz.func221,Tryz.ntmps221
 go_wp2_with (at_builtin;refine wpList_append_own _ rfl _ _ 23 rfl B 5 i0 (.int .u8 0) 1 1 Tryz.underlying23 hi hz0 hz1 hz2 rfl (by decide) _ _ _ rfl (hown.alloc _) ⟨w.heap.size,0,none⟩ 1 1 [.int .u8 r] rfl rfl ?c1 ?c2 ?c3 ?c4 ?c5 ?_)
 case c2=>rfl
 case c3=>unfold maxLen;omega
 case c4=>omega
 case c5=>omega
 intro v' w2 hown' hgrow _
 go_wp2
 go_ret
 exact ⟨_,rfl,hown',_,hgrow⟩
set_option maxHeartbeats 4000000 in
set_option maxRecDepth 100000 in
theorem put_two (B:Nat) (v:Value) (n:Nat) (xs:List Value) (r:Int) (h0:128≤r) (h1:r≤2047) (w:World) (hown:w.ownsRow B 5 1 v n xs) (hlen:n+4≤140737488355328) (hBw:B≤w.heap.size) :
  Calls Tryz.prog 221 #[v,.int .i64 r] w (Appended B v n xs r w):=by
 unfold Appended
 rw [cells_two h0 h1]
 obtain ⟨i0,hi,hz0,hz1,hz2⟩:=info_parts infoByte
 have s1:¬ r<0:=by omega
 have s2:¬ 1114111<r:=by omega
 have s3:¬ 55296≤r:=by omega
 have s4:¬ r<128:=by omega
 go_enter Tryz.func221,Tryz.ntmps221
 go_wp2_with (at_builtin;refine wpList_append_own _ rfl _ _ 23 rfl B 5 i0 (.int .u8 0) 1 1 Tryz.underlying23 hi hz0 hz1 hz2 rfl (by decide) _ _ _ rfl (hown.alloc _) ⟨w.heap.size,0,none⟩ 2 2 [.int .u8 (192+r / 64),.int .u8 (128+r%64)] rfl rfl ?c1 ?c2 ?c3 ?c4 ?c5 ?_)
 case c2=>exact ⟨rfl,rfl⟩
 case c3=>unfold maxLen;omega
 case c4=>omega
 case c5=>omega
 intro v' w2 hown' hgrow _
 go_wp2
 go_ret
 exact ⟨_,rfl,hown',_,hgrow⟩
set_option maxHeartbeats 4000000 in
set_option maxRecDepth 100000 in
theorem put_lo (B:Nat) (v:Value) (n:Nat) (xs:List Value) (r:Int) (h0:2048≤r) (h1:r<55296) (w:World) (hown:w.ownsRow B 5 1 v n xs) (hlen:n+4≤140737488355328) (hBw:B≤w.heap.size) :
  Calls Tryz.prog 221 #[v,.int .i64 r] w (Appended B v n xs r w):=by
 unfold Appended
 rw [cells_three (by omega)]
 obtain ⟨i0,hi,hz0,hz1,hz2⟩:=info_parts infoByte
 have s1:¬ r<0:=by omega
 have s2:¬ 1114111<r:=by omega
 have s3:¬ 55296≤r:=by omega
 have s4:¬ r<128:=by omega
 have s5:¬ r<2048:=by omega
 have s6:r<65536:=by omega
 go_enter Tryz.func221,Tryz.ntmps221
 go_wp2_with (at_builtin;refine wpList_append_own _ rfl _ _ 23 rfl B 5 i0 (.int .u8 0) 1 1 Tryz.underlying23 hi hz0 hz1 hz2 rfl (by decide) _ _ _ rfl (hown.alloc _) ⟨w.heap.size,0,none⟩ 3 3 [.int .u8 (224+r / 4096),.int .u8 (128+r / 64%64),.int .u8 (128+r%64)] rfl rfl ?c1 ?c2 ?c3 ?c4 ?c5 ?_)
 case c2=>exact ⟨rfl,rfl,rfl⟩
 case c3=>unfold maxLen;omega
 case c4=>omega
 case c5=>omega
 intro v' w2 hown' hgrow _
 go_wp2
 go_ret
 exact ⟨_,rfl,hown',_,hgrow⟩
set_option maxHeartbeats 4000000 in
set_option maxRecDepth 100000 in
theorem put_hi (B:Nat) (v:Value) (n:Nat) (xs:List Value) (r:Int) (h0:57343<r) (h1:r≤65535) (w:World) (hown:w.ownsRow B 5 1 v n xs) (hlen:n+4≤140737488355328) (hBw:B≤w.heap.size) :
  Calls Tryz.prog 221 #[v,.int .i64 r] w (Appended B v n xs r w):=by
 unfold Appended
 rw [cells_three (by omega)]
 obtain ⟨i0,hi,hz0,hz1,hz2⟩:=info_parts infoByte
 have s1:¬ r<0:=by omega
 have s2:¬ 1114111<r:=by omega
 have s3:55296≤r:=by omega
 have s3':¬ r≤57343:=by omega
 have s4:¬ r<128:=by omega
 have s5:¬ r<2048:=by omega
 have s6:r<65536:=by omega
 go_enter Tryz.func221,Tryz.ntmps221
 go_wp2_with (at_builtin;refine wpList_append_own _ rfl _ _ 23 rfl B 5 i0 (.int .u8 0) 1 1 Tryz.underlying23 hi hz0 hz1 hz2 rfl (by decide) _ _ _ rfl (hown.alloc _) ⟨w.heap.size,0,none⟩ 3 3 [.int .u8 (224+r / 4096),.int .u8 (128+r / 64%64),.int .u8 (128+r%64)] rfl rfl ?c1 ?c2 ?c3 ?c4 ?c5 ?_)
 case c2=>exact ⟨rfl,rfl,rfl⟩
 case c3=>unfold maxLen;omega
 case c4=>omega
 case c5=>omega
 intro v' w2 hown' hgrow _
 go_wp2
 go_ret
 exact ⟨_,rfl,hown',_,hgrow⟩
set_option maxHeartbeats 4000000 in
set_option maxRecDepth 100000 in
theorem put_four (B:Nat) (v:Value) (n:Nat) (xs:List Value) (r:Int) (h0:65536≤r) (h1:r≤1114111) (w:World) (hown:w.ownsRow B 5 1 v n xs) (hlen:n+4≤140737488355328) (hBw:B≤w.heap.size) :
  Calls Tryz.prog 221 #[v,.int .i64 r] w (Appended B v n xs r w):=by
 unfold Appended
 rw [cells_four h0 h1]
 obtain ⟨i0,hi,hz0,hz1,hz2⟩:=info_parts infoByte
 have s1:¬ r<0:=by omega
 have s2:¬ 1114111<r:=by omega
 have s3:55296≤r:=by omega
 have s3':¬ r≤57343:=by omega
 have s4:¬ r<128:=by omega
 have s5:¬ r<2048:=by omega
 have s6:¬ r<65536:=by omega
 go_enter Tryz.func221,Tryz.ntmps221
 go_wp2_with (at_builtin;refine wpList_append_own _ rfl _ _ 23 rfl B 5 i0 (.int .u8 0) 1 1 Tryz.underlying23 hi hz0 hz1 hz2 rfl (by decide) _ _ _ rfl (hown.alloc _) ⟨w.heap.size,0,none⟩ 4 4 [.int .u8 (240+r / 262144),.int .u8 (128+r / 4096%64),.int .u8 (128+r / 64%64),.int .u8 (128+r%64)] rfl rfl ?c1 ?c2 ?c3 ?c4 ?c5 ?_)
 case c2=>exact ⟨rfl,rfl,rfl,rfl⟩
 case c3=>unfold maxLen;omega
 case c5=>omega
 intro v' w2 hown' hgrow _
 go_wp2
 go_ret
 exact ⟨_,rfl,hown',_,hgrow⟩
theorem appended_norm {B:Nat} {v:Value} {n:Nat} {xs:List Value} {r q:Int} {w:World} {e:Ending} {w':World} (hq:norm r=q) (h:Appended B v n xs q w e w'):Appended B v n xs r w e w':=by
 subst hq
 unfold Appended at *
 rw [cells_norm] at h
 exact h
set_option maxHeartbeats 4000000 in
set_option maxRecDepth 100000 in
theorem put_any (B:Nat) (v:Value) (n:Nat) (xs:List Value) (r:Int) (w:World) (hown:w.ownsRow B 5 1 v n xs) (hlen:n+4≤140737488355328) (hBw:B≤w.heap.size) :
  Calls Tryz.prog 221 #[v,.int .i64 r] w (Appended B v n xs r w):=by
 have bad:=put_hi B v n xs 65533 (by omega) (by omega) w hown hlen hBw
 by_cases c1:r<0
 ·have hq:norm r=65533:=by unfold norm;rw [if_pos (by omega)]
  have Hq:=Lib.hid hq
  have Hb:=Lib.hid bad
  clear hq bad hown
  go_enter Tryz.func221,Tryz.ntmps221
  go_wp2_with fail
  refine Hb.out.mono ?_
  rintro e w' he
  obtain ⟨v',rfl,hx⟩:=he
  have H2:=Lib.hid hx
  clear hx
  go_wp2
  go_ret
  exact appended_norm Hq.out ⟨v',rfl,H2.out⟩
 by_cases c2:1114111<r
 ·have hq:norm r=65533:=by unfold norm;rw [if_pos (by omega)]
  have Hq:=Lib.hid hq
  have Hb:=Lib.hid bad
  clear hq bad hown
  go_enter Tryz.func221,Tryz.ntmps221
  go_wp2_with fail
  refine Hb.out.mono ?_
  rintro e w' he
  obtain ⟨v',rfl,hx⟩:=he
  have H2:=Lib.hid hx
  clear hx
  go_wp2
  go_ret
  exact appended_norm Hq.out ⟨v',rfl,H2.out⟩
 by_cases c3:r≤127
 ·exact put_one B v n xs r (by omega) c3 w hown hlen hBw
 by_cases c4:r≤2047
 ·exact put_two B v n xs r (by omega) c4 w hown hlen hBw
 by_cases c5:r<55296
 ·exact put_lo B v n xs r (by omega) c5 w hown hlen hBw
 by_cases c6:r≤57343
 ·have hq:norm r=65533:=by unfold norm;rw [if_pos (by omega)]
  have c5':55296≤r:=by omega
  have Hq:=Lib.hid hq
  have Hb:=Lib.hid bad
  clear hq bad hown
  go_enter Tryz.func221,Tryz.ntmps221
  go_wp2_with fail
  refine Hb.out.mono ?_
  rintro e w' he
  obtain ⟨v',rfl,hx⟩:=he
  have H2:=Lib.hid hx
  clear hx
  go_wp2
  go_ret
  exact appended_norm Hq.out ⟨v',rfl,H2.out⟩
 by_cases c7:r≤65535
 ·exact put_hi B v n xs r (by omega) c7 w hown hlen hBw
 ·exact put_four B v n xs r (by omega) (by omega) w hown hlen hBw
def enco (r:Int):Int:=if r<0∨1114111<r then 65533 else r
theorem enco_cells (r:Int):Lib.runeCells (enco r)=Lib.runeCells r:=by
 unfold enco
 split
 ·rename_i h
  have:norm r=65533:=by unfold norm;rw [if_pos (by omega)]
  rw [← this,cells_norm]
 ·rfl
theorem enco_bd (r:Int) : -2147483648≤enco r∧enco r≤2147483647:=by unfold enco;split<;>omega
theorem encodable_any (r:Int) (w:World):Calls Tryz.prog 288 #[.int .i64 r] w fun e w'=>e=.returned (.int .i32 (enco r))∧w=w':=by
 unfold enco
 by_cases c1:r<0
 ·rw [if_pos (by omega)]
  go_enter Tryz.func288,Tryz.ntmps288
  go_wp2
  go_ret
  exact ⟨rfl,rfl⟩
 ·by_cases c2:1114111<r
  ·rw [if_pos (by omega)]
   go_enter Tryz.func288,Tryz.ntmps288
   go_wp2
   go_ret
   exact ⟨rfl,rfl⟩
  ·rw [if_neg (by omega)]
   have c3:0≤r:=by omega
   have c4:r≤1114111:=by omega
   go_enter Tryz.func288,Tryz.ntmps288
   go_wp2
   go_ret
   exact ⟨rfl,rfl⟩
end Go.Proofs.YtdijhifdjbnkfaaGreat.UM
