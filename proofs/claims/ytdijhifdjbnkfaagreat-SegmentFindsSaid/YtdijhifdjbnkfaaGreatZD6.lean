import Derived.Lib.ValidLaws
import Derived.Test.YtdijhifdjbnkfaaGreatZD5
set_option maxRecDepth 100000
set_option maxHeartbeats 8000000
set_option linter.unusedVariables false
set_option linter.unusedSimpArgs false
namespace Go.Proofs.YtdijhifdjbnkfaaGreat.UM
open Go.Lib
def ZuW:Nat→List UInt8→List Int
 | 0,_=>[]
 | n+1,l=>if l=[] then [] else ((decodeL l).1:Int)::ZuW n (l.drop (decodeL l).2)
def ZuY (l:List UInt8):List Int:=ZuW l.length l
theorem ZuX:∀ (n m:Nat) (l:List UInt8),l.length≤n→l.length≤m→ZuW n l=ZuW m l
 | 0,0,l,_,_=>rfl
 | 0,m+1,l,h,_=>by
   have:l=[]:=List.eq_nil_of_length_eq_zero (by omega)
   simp [ZuW,this]
 | n+1,0,l,_,h=>by
   have:l=[]:=List.eq_nil_of_length_eq_zero (by omega)
   simp [ZuW,this]
 | n+1,m+1,l,h,k=>by
   unfold ZuW
   by_cases e:l=[]
   ·simp [e]
   ·have hw:=decodeL_width l
    have hl:0<l.length:=List.length_pos_iff.2 e
    rw [if_neg e,if_neg e,ZuX n m _ (by rw [List.length_drop];omega) (by rw [List.length_drop];omega)]
theorem Zu0:ZuY []=[]:=rfl
theorem Zu1 (l:List UInt8) (hne:l≠[]):ZuY l=((decodeL l).1:Int)::ZuY (l.drop (decodeL l).2):=by
 have hl:0<l.length:=List.length_pos_iff.2 hne
 have hw:=decodeL_width l
 obtain ⟨n,hn⟩:∃ n,l.length=n+1:=⟨l.length - 1,by omega⟩
 unfold ZuY
 rw [hn,ZuW,if_neg hne,ZuX n (l.drop (decodeL l).2).length _ (by rw [List.length_drop];omega) (Nat.le_refl _)]
theorem ZuZ (l:List UInt8):(ZuY l).length≤l.length:=by
 suffices h:∀ n l,(ZuW n l).length≤n from h _ _
 intro n
 induction n with
 | zero=>intro l;simp [ZuW]
 | succ n ih =>
   intro l
   unfold ZuW
   split
   ·simp
   ·have:=ih (l.drop (decodeL l).2)
    simp
    omega
def norm (r:Int):Int:=if r<0∨(55296≤r∧r≤57343)∨1114111<r then 65533 else r
def encL (rs:List Int):List UInt8:=rs.flatMap encodeRune
theorem ZgY:encL []=[]:=rfl
theorem ZgV (r:Int) (rs:List Int):encL (r::rs)=encodeRune r++encL rs:=rfl
theorem ZgU (a b:List Int):encL (a++b)=encL a++encL b:=by simp [encL]
theorem ZgX (rs:List Int):(encL rs).length≤4*rs.length:=by
 induction rs with
 | nil=>simp [encL]
 | cons r t ih =>
   have:=(encodeRuneZ_length r).2
   have h2:(encodeRune r).length=(encodeRuneZ r).length:=by simp [encodeRune]
   rw [ZgV,List.length_append,List.length_cons]
   omega
theorem ZoS (r:Int):(0≤norm r∧norm r<55296)∨(57343<norm r∧norm r≤1114111):=by unfold norm;split<;>omega
theorem ZoT (r:Int) (h:(0≤r∧r<55296)∨(57343<r∧r≤1114111)):norm r=r:=by unfold norm;rw [if_neg (by omega)]
theorem Zhd (r:Int):encodeRuneZ (norm r)=encodeRuneZ r:=by
 unfold norm
 split
 ·rename_i h
  rw [encodeRuneZ_bad h]
  decide
 ·rfl
theorem Zgi (n b1:Nat) (r b2 b3:Nat) (h0:128≤r) (h1:r≤2047) (hn:2≤n):decodeN n (192+r / 64) (128+r%64) b2 b3=(r,2):=by
 unfold decodeN
 rw [if_neg (by omega),if_pos (by omega),if_pos (by omega)]
 congr 1
 omega
theorem Zgh (n:Nat) (r b3:Nat) (h:(2048≤r∧r<55296)∨(57343<r∧r≤65535)) (hn:3≤n):decodeN n (224+r / 4096) (128+r / 64%64) (128+r%64) b3=(r,3):=by
 have e:(224+r / 4096)%16*4096+(128+r / 64%64)%64*64+(128+r%64)%64=r:=by omega
 unfold decodeN
 rw [e,if_neg (by omega),if_neg (by omega),if_pos (by omega),if_pos (by omega)]
theorem Zgg (n:Nat) (r:Nat) (h0:65536≤r) (h1:r≤1114111) (hn:4≤n):decodeN n (240+r / 262144) (128+r / 4096%64) (128+r / 64%64) (128+r%64)=(r,4):=by
 have e:(240+r / 262144)%8*262144+(128+r / 4096%64)%64*4096+(128+r / 64%64)%64*64+(128+r%64)%64=r:=by omega
 unfold decodeN
 rw [e,if_neg (by omega),if_neg (by omega),if_neg (by omega),if_pos (by omega),if_pos (by omega)]
theorem ZdU (x:Int) (h0:0≤x) (h1:x<256):(x.toNat.toUInt8).toNat=x.toNat:=by
 simp
 omega
theorem Zgl (r:Int) (t:List UInt8):decodeL (encodeRune r++t)=((norm r).toNat,(encodeRune r).length):=by
 have key:∀ q:Int,((0≤q∧q<55296)∨(57343<q∧q≤1114111))→decodeL (encodeRune q++t)=(q.toNat,(encodeRune q).length):=by
  intro q hq
  rw [decodeL_N]
  by_cases c1:q≤127
  ·have e:encodeRune q=[q.toNat.toUInt8]:=by unfold encodeRune;rw [encodeRuneZ_one (by omega) c1];rfl
   rw [e]
   simp only [List.cons_append,List.nil_append,List.length_cons,List.length_nil,List.getD_cons_zero,List.getD_cons_succ]
   rw [ZdU q (by omega) (by omega),decodeN,if_pos (by omega)]
  ·by_cases c2:q≤2047
   ·have e:encodeRune q=[(192+q / 64).toNat.toUInt8,(128+q%64).toNat.toUInt8]:=by unfold encodeRune;rw [encodeRuneZ_two (by omega) c2];rfl
    rw [e]
    simp only [List.cons_append,List.nil_append,List.length_cons,List.length_nil,List.getD_cons_zero,List.getD_cons_succ]
    rw [ZdU _ (by omega) (by omega),ZdU _ (by omega) (by omega)]
    rw [show (192+q / 64).toNat=192+q.toNat / 64 by omega,show (128+q%64).toNat=128+q.toNat%64 by omega]
    exact Zgi _ 0 _ _ _ (by omega) (by omega) (by omega)
   ·by_cases c3:q≤65535
    ·have e:encodeRune q=[(224+q / 4096).toNat.toUInt8,(128+q / 64%64).toNat.toUInt8,(128+q%64).toNat.toUInt8]:=by unfold encodeRune;rw [encodeRuneZ_three (by omega)];rfl
     rw [e]
     simp only [List.cons_append,List.nil_append,List.length_cons,List.length_nil,List.getD_cons_zero,List.getD_cons_succ]
     rw [ZdU _ (by omega) (by omega),ZdU _ (by omega) (by omega),ZdU _ (by omega) (by omega)]
     rw [show (224+q / 4096).toNat=224+q.toNat / 4096 by omega,show (128+q / 64%64).toNat=128+q.toNat / 64%64 by omega,show (128+q%64).toNat=128+q.toNat%64 by omega]
     exact Zgh _ _ _ (by omega) (by omega)
    ·have e:encodeRune q=[(240+q / 262144).toNat.toUInt8,(128+q / 4096%64).toNat.toUInt8,(128+q / 64%64).toNat.toUInt8,(128+q%64).toNat.toUInt8]:=by unfold encodeRune;rw [encodeRuneZ_four (by omega) (by omega)];rfl
     rw [e]
     simp only [List.cons_append,List.nil_append,List.length_cons,List.length_nil,List.getD_cons_zero,List.getD_cons_succ]
     rw [ZdU _ (by omega) (by omega),ZdU _ (by omega) (by omega),ZdU _ (by omega) (by omega),ZdU _ (by omega) (by omega)]
     rw [show (240+q / 262144).toNat=240+q.toNat / 262144 by omega,show (128+q / 4096%64).toNat=128+q.toNat / 4096%64 by omega,show (128+q / 64%64).toNat=128+q.toNat / 64%64 by omega,show (128+q%64).toNat=128+q.toNat%64 by omega]
     exact Zgg _ _ (by omega) (by omega) (by omega)
 have e:encodeRune r=encodeRune (norm r):=by unfold encodeRune;rw [Zhd]
 rw [e]
 exact key (norm r) (ZoS r)
theorem Zhe (r:Int):encodeRune r≠[]:=by
 have:=(encodeRuneZ_length r).1
 intro h
 have h2:(encodeRune r).length=(encodeRuneZ r).length:=by simp [encodeRune]
 rw [h] at h2
 simp at h2
 omega
theorem Zu4 (rs:List Int):ZuY (encL rs)=rs.map norm:=by
 induction rs with
 | nil=>rfl
 | cons r t ih =>
   rw [ZgV,Zu1 _ (by simp [Zhe]),Zgl]
   simp only [List.drop_left,ih,List.map_cons]
   congr 1
   have:=ZoS r
   omega
theorem Zgk (l:List UInt8) (hne:l≠[]):((decodeL l).1=65533∧(decodeL l).2=1)∨encodeRune ((decodeL l).1:Int)=l.take (decodeL l).2:=by
 have hl:0<l.length:=List.length_pos_iff.2 hne
 have e0:∀ k,k<l.length→l.take (k+1)=l.take k++[l.getD k 0]:=by
  intro k hk
  rw [List.take_succ_eq_append_getElem hk]
  simp [List.getD,hk]
 have by8:∀ (x:UInt8) (n:Nat),x.toNat=n→n.toUInt8=x:=by
  intro x n h;subst h;simp
 rw [decodeL_N]
 generalize h0:l.getD 0 0=x0
 generalize h1:l.getD 1 0=x1
 generalize h2:l.getD 2 0=x2
 generalize h3:l.getD 3 0=x3
 have y0:x0.toNat<256:=x0.toNat_lt
 have y1:x1.toNat<256:=x1.toNat_lt
 have y2:x2.toNat<256:=x2.toNat_lt
 have y3:x3.toNat<256:=x3.toNat_lt
 unfold decodeN
 by_cases c0:x0.toNat<128
 ·right
  rw [if_pos c0]
  show encodeRune _=_
  unfold encodeRune
  rw [encodeRuneZ_one (by omega) (by omega),e0 0 hl,h0]
  simp
 ·rw [if_neg c0]
  by_cases c1:x0.toNat / 32=6∧(1<l.length∧x1.toNat / 64=2)
  ·rw [if_pos c1]
   by_cases d:x0.toNat%32*64+x1.toNat%64≥128
   ·right
    rw [if_pos d]
    show encodeRune _=_
    unfold encodeRune
    rw [encodeRuneZ_two (by omega) (by omega),e0 1 (by omega),e0 0 hl,h0,h1]
    simp only [List.map_cons,List.map_nil,List.take_zero,List.nil_append,List.cons_append,List.cons.injEq,and_true]
    exact ⟨by8 _ _ (by omega),by8 _ _ (by omega)⟩
   ·left
    rw [if_neg d]
    exact ⟨rfl,rfl⟩
  ·rw [if_neg c1]
   by_cases c2:x0.toNat / 16=14∧(1<l.length∧x1.toNat / 64=2)∧(2<l.length∧x2.toNat / 64=2)
   ·rw [if_pos c2]
    split
    ·right
     show encodeRune _=_
     unfold encodeRune
     rw [encodeRuneZ_three (by omega),e0 2 (by omega),e0 1 (by omega),e0 0 hl,h0,h1,h2]
     simp only [List.map_cons,List.map_nil,List.take_zero,List.nil_append,List.cons_append,List.cons.injEq,and_true]
     exact ⟨by8 _ _ (by omega),by8 _ _ (by omega),by8 _ _ (by omega)⟩
    ·left
     exact ⟨rfl,rfl⟩
   ·rw [if_neg c2]
    by_cases c3:x0.toNat / 8=30∧(1<l.length∧x1.toNat / 64=2)∧(2<l.length∧x2.toNat / 64=2)∧(3<l.length∧x3.toNat / 64=2)
    ·rw [if_pos c3]
     split
     ·right
      show encodeRune _=_
      unfold encodeRune
      rw [encodeRuneZ_four (by omega) (by omega),e0 3 (by omega),e0 2 (by omega),e0 1 (by omega),e0 0 hl,h0,h1,h2,h3]
      simp only [List.map_cons,List.map_nil,List.take_zero,List.nil_append,List.cons_append,List.cons.injEq,and_true]
      exact ⟨by8 _ _ (by omega),by8 _ _ (by omega),by8 _ _ (by omega),by8 _ _ (by omega)⟩
     ·left
      exact ⟨rfl,rfl⟩
    ·rw [if_neg c3]
     left
     exact ⟨rfl,rfl⟩
def Zn1 (r:Int):Int :=
 if (65≤r∧r≤90)∨(192≤r∧r≤222∧r≠215)∨(913≤r∧r≤939∧r≠930)∨(1040≤r∧r≤1071) then r+32
 else if 1024≤r∧r≤1039 then r+80 else r
def ZyM (r:Int):Bool :=
 decide ((48≤r∧r≤57)∨(65≤r∧r≤90)∨(97≤r∧r≤122)∨(192≤r∧r≤255∧r≠215∧r≠247)∨(913≤r∧r≤974∧r≠930)∨(1024≤r∧r≤1119))
theorem Zoa (r:Int):Zn1 (Zn1 r)=Zn1 r:=by unfold Zn1;repeat' split;all_goals omega
end Go.Proofs.YtdijhifdjbnkfaaGreat.UM
namespace Go.Proofs.YtdijhifdjbnkfaaGreat.TK
open Go.Lib UM
def lowB (r:Int):List UInt8:=encodeRune (Zn1 r)
def ZfT:Nat→List Int→List UInt8
 | _,[]=>[]
 | m,r::t=>if (lowB r).length≤m then lowB r++ZfT (m - (lowB r).length) t else []
def cutW (row:List Int):List UInt8:=ZfT 32 row
def lowL (row:List Int):List UInt8:=encL (row.map Zn1)
theorem ZnG:lowL []=[]:=rfl
theorem ZnE (r:Int) (t:List Int):lowL (r::t)=lowB r++lowL t:=rfl
theorem Zg4 (r:Int):1≤(encodeRune r).length∧(encodeRune r).length≤4:=by
 have:=encodeRuneZ_length r
 have h2:(encodeRune r).length=(encodeRuneZ r).length:=by simp [encodeRune]
 omega
theorem ZnC (r:Int):1≤(lowB r).length∧(lowB r).length≤4:=Zg4 _
theorem ZnF (l:List Int):l.length≤(lowL l).length∧(lowL l).length≤4*l.length:=by
 induction l with
 | nil=>simp [lowL,encL]
 | cons r t ih =>
   have:=ZnC r
   rw [ZnE,List.length_append,List.length_cons]
   omega
theorem ZfV:∀ (l:List Int) (m n:Nat),n≤l.length→(lowL (l.take n)).length≤m→(n=l.length∨m<(lowL (l.take (n+1))).length)→ZfT m l=lowL (l.take n)
 | [],m,n,h,_,_=>by simp [ZfT,lowL,encL]
 | r::t,m,0,h,h1,h2=>by
   have:=ZnC r
   rcases h2 with h2 | h2
   ·simp at h2
   ·simp [ZnE,ZnG] at h2
    rw [ZfT,if_neg (by omega)]
    simp [ZnG]
 | r::t,m,n+1,h,h1,h2=>by
   simp [ZnE] at h1 h2 h
   rw [ZfT,if_pos (by omega),List.take_succ_cons,ZnE,ZfV t (m - (lowB r).length) n h (by omega) (by omega)]
theorem ZfX (l:List Int) (n:Nat) (h:n≤l.length) (h1:(lowL (l.take n)).length≤32) (h2:n=l.length∨32<(lowL (l.take (n+1))).length):cutW l=lowL (l.take n) :=
 ZfV l 32 n h h1 h2
theorem ZfU:∀ (l:List Int) (m:Nat),∃ n,n≤l.length∧ZfT m l=lowL (l.take n)∧(lowL (l.take n)).length≤m∧(4≤m→l≠[]→1≤n)
 | [],m=>⟨0,by simp,by simp [ZfT,ZnG],by simp [ZnG],fun _ h=>absurd rfl h⟩
 | r::t,m=>by
   have h4:=ZnC r
   by_cases hm:(lowB r).length≤m
   ·obtain ⟨n,h0,h1,h2,_⟩:=ZfU t (m - (lowB r).length)
    refine ⟨n+1,by simp;omega,?_,?_,fun _ _=>by omega⟩
    ·rw [ZfT,if_pos hm,h1,List.take_succ_cons,ZnE]
    ·rw [List.take_succ_cons,ZnE,List.length_append];omega
   ·refine ⟨0,by simp,?_,by simp [ZnG],fun h=>by omega⟩
    rw [ZfT,if_neg hm];simp [ZnG]
theorem ZfW (l:List Int):∃ n,n≤l.length∧cutW l=lowL (l.take n)∧(lowL (l.take n)).length≤32∧(l≠[]→1≤n):=by
 obtain ⟨n,h0,h1,h2,h3⟩:=ZfU l 32
 exact ⟨n,h0,h1,h2,h3 (by omega)⟩
def one (l:List Int):List (List Int):=if l=[] then [] else [l]
def Zul:List Int→List Int→List (List Int)
 | acc,[]=>one acc
 | acc,r::t=>if ZyM r=true then Zul (acc++[r]) t else one acc++Zul [] t
def Zuw (l:List Int):List (List Int):=Zul [] l
def Zze (l:List Int):List (List UInt8):=(Zuw l).map cutW
def Zza (b:List UInt8):List (List UInt8):=Zze (ZuY b)
theorem ZpJ:one []=[]:=rfl
theorem ZpI {l:List Int} (h:l≠[]):one l=[l]:=by simp [one,h]
theorem Zuo:∀ (p acc t:List Int),(∀ r∈p,ZyM r=true)→Zul acc (p++t)=Zul (acc++p) t
 | [],acc,t,_=>by simp
 | r::p,acc,t,h=>by
   rw [List.cons_append,Zul,if_pos (h r (by simp)),Zuo p _ t (fun x hx=>h x (by simp [hx])),List.append_assoc];rfl
theorem Zux {p:List Int} (h:∀ r∈p,ZyM r=true):Zuw p=one p:=by
 have:=Zuo p [] [] h
 rw [List.append_nil] at this
 rw [Zuw,this,List.nil_append];rfl
theorem Zuz {p t:List Int} {r:Int} (h:∀ r∈p,ZyM r=true) (hr:ZyM r=false):Zuw (p++r::t)=one p++Zuw t:=by
 rw [Zuw,Zuo p [] _ h,List.nil_append,Zul,if_neg (by simp [hr])];rfl
theorem Zun:∀ (l acc:List Int),(∀ r∈acc,ZyM r=true)→∀ p∈Zul acc l,p≠[]∧∀ r∈p,ZyM r=true
 | [],acc,h,p,hp=>by
   unfold Zul one at hp
   split at hp
   ·simp at hp
   ·simp at hp;subst hp;exact ⟨by assumption,h⟩
 | r::t,acc,h,p,hp=>by
   unfold Zul at hp
   split at hp
   ·rename_i hr
    exact Zun t _ (fun x hx=>by simp at hx;rcases hx with hx | hx;exact h x hx;subst hx;exact hr) p hp
   ·rw [List.mem_append] at hp
    rcases hp with hp | hp
    ·unfold one at hp
     split at hp
     ·simp at hp
     ·simp at hp;subst hp;exact ⟨by assumption,h⟩
    ·exact Zun t [] (by simp) p hp
theorem Zuy (l:List Int):∀ p∈Zuw l,p≠[]∧∀ r∈p,ZyM r=true:=Zun l [] (by simp)
theorem Zum:∀ (l acc:List Int),(Zul acc l).length≤acc.length+l.length
 | [],acc=>by
   unfold Zul one
   split
   ·simp
   ·rename_i h
    have:=List.length_pos_iff.2 h
    simp;omega
 | r::t,acc=>by
   unfold Zul
   split
   ·have:=Zum t (acc++[r])
    simp at this
    simp;omega
   ·have:=Zum t []
    have h1:(one acc).length≤acc.length:=by
     unfold one
     split
     ·simp
     ·rename_i h
      have:=List.length_pos_iff.2 h
      simp;omega
    simp at this
    simp;omega
theorem Zzf (l:List Int):(Zze l).length≤l.length:=by
 have:=Zum l []
 simp at this
 unfold Zze Zuw
 rw [List.length_map];exact this
theorem Zzb (b:List UInt8):(Zza b).length≤b.length:=Nat.le_trans (Zzf _) (ZuZ b)
theorem ZyN (r:Int):ZyM (Zn1 r)=ZyM r:=by
 unfold ZyM Zn1
 repeat' split
 all_goals first | rfl | (congr 1;simp;omega)
theorem ZoU {r:Int} (h:ZyM r=true):norm r=r:=by
 unfold ZyM at h
 simp at h
 exact ZoT r (by omega)
def Good (zs:List Int):Prop:=zs≠[]∧(∀ z∈zs,ZyM z=true)∧(∀ z∈zs,Zn1 z=z)∧(encL zs).length≤32
theorem Good.norm {zs:List Int} (h:Good zs):zs.map norm=zs:=by
 have:∀ z∈zs,UM.norm z=z:=fun z hz=>ZoU (h.2.1 z hz)
 rw [List.map_congr_left this,List.map_id'']
 intro;rfl
theorem Good.low {zs:List Int} (h:Good zs):lowL zs=encL zs:=by
 have:∀ z∈zs,Zn1 z=id z:=h.2.2.1
 unfold lowL
 rw [List.map_congr_left this,List.map_id]
theorem Good.cut {zs:List Int} (h:Good zs):cutW zs=encL zs:=by
 rw [ZfX zs zs.length (Nat.le_refl _) (by rw [List.take_length,h.low];exact h.2.2.2) (.inl rfl),List.take_length,h.low]
theorem Good.self {zs:List Int} (h:Good zs):Zza (encL zs)=[encL zs]:=by
 unfold Zza Zze
 rw [Zu4,h.norm,Zux h.2.1,ZpI h.1,List.map_singleton,h.cut]
theorem ZkP {p:List Int} (hne:p≠[]) (h:∀ r∈p,ZyM r=true):∃ zs,Good zs∧cutW p=encL zs:=by
 obtain ⟨n,hn,h1,h2,h3⟩:=ZfW p
 refine ⟨(p.take n).map Zn1,⟨?_,?_,?_,h2⟩,h1⟩
 ·have:=h3 hne
  have hp:=List.length_pos_iff.2 hne
  intro h0
  have h9:=congrArg List.length h0
  rw [List.length_map,List.length_take,List.length_nil] at h9
  omega
 ·intro z hz
  obtain ⟨r,hr,rfl⟩:=List.mem_map.1 hz
  rw [ZyN]
  exact h r (List.mem_of_mem_take hr)
 ·intro z hz
  obtain ⟨r,hr,rfl⟩:=List.mem_map.1 hz
  exact Zoa r
theorem Zzj (l:List Int):∃ Z:List (List Int),Zze l=Z.map encL∧∀ zs∈Z,Good zs:=by
 unfold Zze
 have hg:=Zuy l
 generalize Zuw l=P at hg
 induction P with
 | nil=>exact ⟨[],rfl,by simp⟩
 | cons p P ih =>
   obtain ⟨Z,h1,h2⟩:=ih (fun q hq=>hg q (by simp [hq]))
   obtain ⟨zs,hz,e⟩:=ZkP (hg p (by simp)).1 (hg p (by simp)).2
   exact ⟨zs::Z,by rw [List.map_cons,List.map_cons,h1,e],fun q hq=>by simp at hq;rcases hq with rfl | hq;exact hz;exact h2 q hq⟩
theorem Zy9 (l:List UInt8):∀ x∈Zza l,Zza x=[x]∧x.length≤32:=by
 intro x hx
 obtain ⟨Z,h1,h2⟩:=Zzj (ZuY l)
 unfold Zza at hx
 rw [h1] at hx
 obtain ⟨zs,hz,rfl⟩:=List.mem_map.1 hx
 exact ⟨(h2 zs hz).self,(h2 zs hz).2.2.2⟩
def allL (ws:List (List UInt8)):List UInt8:=ws.flatMap fun x=>x++[32]
def Zou (c:UInt8):Bool:=decide ((97≤c.toNat∧c.toNat≤122)∨(48≤c.toNat∧c.toNat≤57)∨c.toNat=95)
def Zov (l:List UInt8):Bool:=decide (1≤l.length∧l.length≤32)&&l.all Zou
def Zow (r:Int):Bool:=decide ((97≤r∧r≤122)∨(48≤r∧r≤57)∨r=95)
end Go.Proofs.YtdijhifdjbnkfaaGreat.TK
namespace Go.Proofs.YtdijhifdjbnkfaaGreat.EM
open Go VM
open TK (Zov)
abbrev Fld:=List UInt8×List UInt8
abbrev Ev:=Int×List Fld
def ZeF:List Fld→Int
 | []=>0
 | f::r=>if Zov f.1=false then 100 else if 4096<f.2.length then 2 else ZeF r
def ZeD (e:Ev):Int:=if 16<e.2.length then 3 else ZeF e.2
theorem ZeG {fs:List Fld} {k:Nat} (hk:k<fs.length):ZeF (fs.drop k)=if Zov fs[k].1=false then 100 else if 4096<fs[k].2.length then 2 else ZeF (fs.drop (k+1)):=by
 rw [List.drop_eq_getElem_cons hk,ZeF]
theorem ZeH:∀ {fs:List Fld},ZeF fs=0↔∀ f∈fs,Zov f.1=true∧f.2.length≤4096
 | []=>by simp [ZeF]
 | f::r=>by
   rw [ZeF]
   have ih:=@ZeH r
   constructor
   ·intro h
    split at h
    ·omega
    ·split at h
     ·omega
     ·rename_i h1 h2
      intro g hg
      rcases List.mem_cons.1 hg with rfl | hg
      ·exact ⟨by simpa using h1,by omega⟩
      ·exact ih.1 h g hg
   ·intro h
    obtain ⟨h1,h2⟩:=h f (by simp)
    rw [if_neg (by simp [h1]),if_neg (by omega)]
    exact ih.2 fun g hg=>h g (by simp [hg])
theorem ZeE {e:Ev}:ZeD e=0↔e.2.length≤16∧∀ f∈e.2,Zov f.1=true∧f.2.length≤4096:=by
 unfold ZeD
 constructor
 ·intro h
  split at h
  ·omega
  ·exact ⟨by omega,ZeH.1 h⟩
 ·intro h
  rw [if_neg (by omega)]
  exact ZeH.2 h.2
theorem Zoz {n:List UInt8} (h:Zov n=true):n.length≤32:=by
 unfold TK.Zov at h
 simp at h
 omega
def ZvV (fs:List Fld):Nat:=(fs.map fun f=>f.1.length+f.2.length).sum
theorem ZvX {fs:List Fld} {k:Nat} (hk:k<fs.length):ZvV (fs.take (k+1))=ZvV (fs.take k)+fs[k].1.length+fs[k].2.length:=by
 unfold ZvV
 rw [List.take_succ_eq_append_getElem hk,List.map_append,List.sum_append]
 simp
 omega
theorem ZvY:∀ {fs:List Fld},(∀ f∈fs,Zov f.1=true∧f.2.length≤4096)→ZvV fs≤4128*fs.length
 | [],_=>by simp [ZvV]
 | f::r,h=>by
   have h1:=h f (by simp)
   have h2:=Zoz h1.1
   have ih:=ZvY (fs:=r) fun g hg=>h g (by simp [hg])
   have e:ZvV (f::r)=f.1.length+f.2.length+ZvV r:=by simp [ZvV]
   rw [e,List.length_cons]
   omega
def ZdZ (fs:List Fld):List UInt8:=fs.flatMap fun f=>Zxu f.1++Zxu f.2
theorem Zd0 (f:Fld) (r:List Fld):ZdZ (f::r)=Zxu f.1++(Zxu f.2++ZdZ r):=by simp [ZdZ]
theorem Zd5 {fs:List Fld} {k:Nat} (hk:k<fs.length):ZdZ (fs.take (k+1))=ZdZ (fs.take k)++(Zxu fs[k].1++Zxu fs[k].2):=by
 unfold ZdZ
 rw [List.take_succ_eq_append_getElem hk,List.flatMap_append]
 simp
def ZdV (e:Ev):List UInt8:=intL e.1++Zd8 e.2.length++ZdZ e.2
theorem Zxv (s:List UInt8):(Zxu s).length≤10+s.length∧1≤(Zxu s).length:=by
 unfold Zxu
 rw [List.length_append]
 have:=Zea s.length
 omega
theorem Zd2:∀ fs:List Fld,(ZdZ fs).length≤20*fs.length+ZvV fs
 | []=>by simp [ZdZ]
 | f::r=>by
   rw [Zd0,List.length_append,List.length_append,List.length_cons]
   have h1:=(Zxv f.1).1
   have h2:=(Zxv f.2).1
   have h3:=Zd2 r
   have e:ZvV (f::r)=f.1.length+f.2.length+ZvV r:=by simp [ZvV]
   omega
theorem ZdX (e:Ev):(ZdV e).length≤20+20*e.2.length+ZvV e.2∧1≤(ZdV e).length:=by
 unfold ZdV
 rw [List.length_append,List.length_append]
 have h1:=Zea (zig e.1)
 have h2:=Zea e.2.length
 have h3:=Zd2 e.2
 unfold intL
 omega
def Zkb:Nat→List Fld→List UInt8→Option (List Fld×List UInt8)
 | 0,acc,l=>some (acc,l)
 | k+1,acc,l =>
   if (getT l 32).2.2≠0∨(getT (l.drop (getT l 32).2.1) 4096).2.2≠0 then none
   else Zkb k (acc++[((getT l 32).1,(getT (l.drop (getT l 32).2.1) 4096).1)]) ((l.drop (getT l 32).2.1).drop (getT (l.drop (getT l 32).2.1) 4096).2.1)
def rdE (l:List UInt8):Option (Ev×List UInt8) :=
 if (getI l).2.2≠0 then none
 else if (getL (l.drop (getI l).2.1)).2.2≠0∨16<(getL (l.drop (getI l).2.1)).1 then none
 else match Zkb (getL (l.drop (getI l).2.1)).1 [] ((l.drop (getI l).2.1).drop (getL (l.drop (getI l).2.1)).2.1) with
  | none=>none
  | some (fs,r)=>some (((getI l).1,fs),r)
def getE (l:List UInt8):Option (Ev×List UInt8) :=
 match rdE l with
 | none=>none
 | some (e,r)=>if ZeD e=0 then some (e,r) else none
theorem Zky {l s:List UInt8} {m:Int} {k:Nat} (h:getT l m=(s,k,0)):Zxu s++l.drop k=l∧(s.length:Int)≤max 0 m∧k≤l.length:=by
 unfold getT at h
 split at h
 ·rename_i h1
  have:=congrArg (fun x=>x.2.2) h
  simp at this
  exact absurd this h1
 ·split at h
  ·simp at h
  ·split at h
   ·simp at h
   ·rename_i h1 h2 h3
    simp only [Prod.mk.injEq,and_true] at h
    obtain ⟨hs,hk⟩:=h
    have h0:(getL l).2.2=0:=by simpa using h1
    have hb:=Zkg (l:=l) (n:=(getL l).1) (k:=(getL l).2.1) (by rw [← h0])
    have hbd:=(Zkh l).2.1
    have hl:s.length=(getL l).1:=by rw [← hs,List.length_take,List.length_drop];omega
    refine ⟨?_,by rw [hl];omega,by omega⟩
    unfold Zxu
    rw [hl,← hk,List.append_assoc]
    have e:s++l.drop ((getL l).2.1+(getL l).1)=l.drop (getL l).2.1:=by
     rw [← hs,← List.drop_drop,List.take_append_drop]
    rw [e]
    exact hb
theorem Zkd:∀ (fs acc:List Fld) (r:List UInt8),(∀ f∈fs,f.1.length≤32∧f.2.length≤4096)→Zkb fs.length acc (ZdZ fs++r)=some (acc++fs,r)
 | [],acc,r,_=>by simp [Zkb,ZdZ]
 | f::fs,acc,r,h=>by
   obtain ⟨h1,h2⟩:=h f (by simp)
   rw [List.length_cons,Zkb,Zd0,List.append_assoc,List.append_assoc,ZkB f.1 (by omega) 32 (by omega)]
   dsimp only
   rw [List.drop_left,ZkB f.2 (by omega) 4096 (by omega)]
   dsimp only
   rw [List.drop_left,if_neg (by simp)]
   rw [Zkd fs (acc++[(f.1,f.2)]) r fun g hg=>h g (by simp [hg])]
   simp
theorem Zkc:∀ (k:Nat) (acc:List Fld) (l:List UInt8) (fs:List Fld) (r:List UInt8),Zkb k acc l=some (fs,r) →
  ∃ gs,fs=acc++gs∧gs.length=k∧ZdZ gs++r=l∧∀ f∈gs,f.1.length≤32∧f.2.length≤4096
 | 0,acc,l,fs,r,h=>by
   simp only [Zkb,Option.some.injEq,Prod.mk.injEq] at h
   exact ⟨[],by simp [h.1],rfl,by simp [ZdZ,h.2],by simp⟩
 | k+1,acc,l,fs,r,h=>by
   rw [Zkb] at h
   split at h
   ·cases h
   ·rename_i hne
    obtain ⟨s,k1,e1,hs⟩:∃ s k1 e1,getT l 32=(s,k1,e1):=⟨_,_,_,rfl⟩
    rw [hs] at h hne
    dsimp only at h hne
    obtain ⟨t,k2,e2,ht⟩:∃ t k2 e2,getT (l.drop k1) 4096=(t,k2,e2):=⟨_,_,_,rfl⟩
    rw [ht] at h hne
    dsimp only at h hne
    obtain ⟨rfl,rfl⟩:e1=0∧e2=0:=by constructor<;>(apply Classical.byContradiction;intro hc;exact hne (by simp [hc]))
    obtain ⟨b1,b2,_⟩:=Zky hs
    obtain ⟨c1,c2,_⟩:=Zky ht
    obtain ⟨gs,g1,g2,g3,g4⟩:=Zkc k _ _ _ _ h
    refine ⟨(s,t)::gs,by rw [g1];simp,by simp [g2],?_,?_⟩
    ·rw [Zd0,List.append_assoc,List.append_assoc,g3]
     dsimp only
     rw [c1,b1]
    ·intro f hf
     rcases List.mem_cons.1 hf with rfl | hf
     ·exact ⟨by show s.length≤32;omega,by show t.length≤4096;omega⟩
     ·exact g4 f hf
def FitE (e:Ev):Prop := -9223372036854775808≤e.1∧e.1≤9223372036854775807
theorem ZsG {e:Ev} (hf:FitE e) (hn:e.2.length≤16) (h:∀ f∈e.2,f.1.length≤32∧f.2.length≤4096) (r:List UInt8):rdE (ZdV e++r)=some (e,r):=by
 unfold rdE ZdV
 rw [List.append_assoc,List.append_assoc,Zkf e.1 hf.1 hf.2]
 dsimp only
 rw [List.drop_left,Zkj _ (by omega)]
 dsimp only
 rw [List.drop_left,if_neg (by simp),if_neg (by simp;omega),Zkd e.2 [] r h]
 simp
theorem ZpA {e:Ev} (h:ZeD e=0):e.2.length≤16∧∀ f∈e.2,f.1.length≤32∧f.2.length≤4096:=by
 obtain ⟨h1,h2⟩:=ZeE.1 h
 exact ⟨h1,fun f hf=>⟨Zoz (h2 f hf).1,(h2 f hf).2⟩⟩
theorem Zj3 {e:Ev} (hf:FitE e) (h:ZeD e=0) (r:List UInt8):getE (ZdV e++r)=some (e,r):=by
 obtain ⟨h1,h2⟩:=ZpA h
 unfold getE
 rw [ZsG hf h1 h2]
 simp [h]
theorem ZsF {l r:List UInt8} {e:Ev} (h:rdE l=some (e,r)):ZdV e++r=l∧FitE e∧e.2.length≤16:=by
 unfold rdE at h
 split at h
 ·cases h
 ·split at h
  ·cases h
  ·rename_i h1 h2
   have h10:(getI l).2.2=0:=by simpa using h1
   obtain ⟨n,k1,e1,hI⟩:∃ n k1 e1,getI l=(n,k1,e1):=⟨_,_,_,rfl⟩
   rw [hI] at h h2 h10
   dsimp only at h h2 h10
   subst h10
   obtain ⟨m,k2,e2,hL⟩:∃ m k2 e2,getL (l.drop k1)=(m,k2,e2):=⟨_,_,_,rfl⟩
   rw [hL] at h h2
   dsimp only at h h2
   have h20:e2=0∧m≤16:=by constructor<;>(apply Classical.byContradiction;intro hc;exact h2 (by first | exact .inl hc | exact .inr (by omega)))
   obtain ⟨rfl,hm⟩:=h20
   cases hg:Zkb m [] ((l.drop k1).drop k2) with
   | none=>rw [hg] at h;cases h
   | some p =>
     obtain ⟨fs,r2⟩:=p
     rw [hg] at h
     simp only [Option.some.injEq,Prod.mk.injEq] at h
     obtain ⟨rfl,rfl⟩:=h
     obtain ⟨gs,g1,g2,g3,g4⟩:=Zkc _ _ _ _ _ hg
     rw [List.nil_append] at g1
     subst g1
     have hb1:intL n++l.drop k1=l:=by
      unfold getI at hI
      simp only [Prod.mk.injEq] at hI
      have hz:=Zkg (l:=l) (n:=(getL l).1) (k:=k1) (by rw [← hI.2.1,← hI.2.2])
      have hzz:zig n=(getL l).1:=by
       rw [← hI.1]
       generalize (getL l).1=u
       unfold zig zag
       split<;>split<;>omega
      unfold intL
      rw [hzz]
      exact hz
     have hb2:=Zkg hL
     refine ⟨?_,?_,by show fs.length≤16;omega⟩
     ·unfold ZdV
      dsimp only
      rw [List.append_assoc,List.append_assoc,g3,g2,hb2,hb1]
     ·have hbd:=(Zke l).1
      rw [hI] at hbd
      exact hbd
theorem Zj2 {l r:List UInt8} {e:Ev} (h:getE l=some (e,r)):ZdV e++r=l∧FitE e∧ZeD e=0:=by
 unfold getE at h
 cases hr:rdE l with
 | none=>rw [hr] at h;cases h
 | some p =>
   obtain ⟨e',r'⟩:=p
   rw [hr] at h
   dsimp only at h
   split at h
   ·simp only [Option.some.injEq,Prod.mk.injEq] at h
    obtain ⟨rfl,rfl⟩:=h
    exact ⟨(ZsF hr).1,(ZsF hr).2.1,by assumption⟩
   ·cases h
end Go.Proofs.YtdijhifdjbnkfaaGreat.EM
