import Derived.Lib.ValidLaws
import Derived.Test.YtdfibahafilklaaGreatDoorZA5
set_option maxRecDepth 100000
set_option maxHeartbeats 8000000
set_option linter.unusedVariables false
set_option linter.unusedSimpArgs false
namespace Go.Proofs.YtdfibahafilklaaGreatDoor.UM
open Go.Lib
def norm (r:Int):Int:=if r<0∨(55296≤r∧r≤57343)∨1114111<r then 65533 else r
def encL (rs:List Int):List UInt8:=rs.flatMap encodeRune
theorem norm_good (r:Int):(0≤norm r∧norm r<55296)∨(57343<norm r∧norm r≤1114111):=by unfold norm;split<;>omega
theorem norm_of_good (r:Int) (h:(0≤r∧r<55296)∨(57343<r∧r≤1114111)):norm r=r:=by unfold norm;rw [if_neg (by omega)]
theorem encodeRuneZ_norm (r:Int):encodeRuneZ (norm r)=encodeRuneZ r:=by
 unfold norm
 split
 ·rename_i h
  rw [encodeRuneZ_bad h]
  decide
 ·rfl
theorem decodeN_two (n b1:Nat) (r b2 b3:Nat) (h0:128≤r) (h1:r≤2047) (hn:2≤n):decodeN n (192+r / 64) (128+r%64) b2 b3=(r,2):=by
 unfold decodeN
 rw [if_neg (by omega),if_pos (by omega),if_pos (by omega)]
 congr 1
 omega
theorem decodeN_three (n:Nat) (r b3:Nat) (h:(2048≤r∧r<55296)∨(57343<r∧r≤65535)) (hn:3≤n):decodeN n (224+r / 4096) (128+r / 64%64) (128+r%64) b3=(r,3):=by
 have e:(224+r / 4096)%16*4096+(128+r / 64%64)%64*64+(128+r%64)%64=r:=by omega
 unfold decodeN
 rw [e,if_neg (by omega),if_neg (by omega),if_pos (by omega),if_pos (by omega)]
theorem decodeN_four (n:Nat) (r:Nat) (h0:65536≤r) (h1:r≤1114111) (hn:4≤n):decodeN n (240+r / 262144) (128+r / 4096%64) (128+r / 64%64) (128+r%64)=(r,4):=by
 have e:(240+r / 262144)%8*262144+(128+r / 4096%64)%64*4096+(128+r / 64%64)%64*64+(128+r%64)%64=r:=by omega
 unfold decodeN
 rw [e,if_neg (by omega),if_neg (by omega),if_neg (by omega),if_pos (by omega),if_pos (by omega)]
theorem byte_toNat (x:Int) (h0:0≤x) (h1:x<256):(x.toNat.toUInt8).toNat=x.toNat:=by
 simp
 omega
theorem decode_enc (r:Int) (t:List UInt8):decodeL (encodeRune r++t)=((norm r).toNat,(encodeRune r).length):=by
 have key:∀ q:Int,((0≤q∧q<55296)∨(57343<q∧q≤1114111))→decodeL (encodeRune q++t)=(q.toNat,(encodeRune q).length):=by
  intro q hq
  rw [decodeL_N]
  by_cases c1:q≤127
  ·have e:encodeRune q=[q.toNat.toUInt8]:=by unfold encodeRune;rw [encodeRuneZ_one (by omega) c1];rfl
   rw [e]
   simp only [List.cons_append,List.nil_append,List.length_cons,List.length_nil,List.getD_cons_zero,List.getD_cons_succ]
   rw [byte_toNat q (by omega) (by omega),decodeN,if_pos (by omega)]
  ·by_cases c2:q≤2047
   ·have e:encodeRune q=[(192+q / 64).toNat.toUInt8,(128+q%64).toNat.toUInt8]:=by unfold encodeRune;rw [encodeRuneZ_two (by omega) c2];rfl
    rw [e]
    simp only [List.cons_append,List.nil_append,List.length_cons,List.length_nil,List.getD_cons_zero,List.getD_cons_succ]
    rw [byte_toNat _ (by omega) (by omega),byte_toNat _ (by omega) (by omega)]
    rw [show (192+q / 64).toNat=192+q.toNat / 64 by omega,show (128+q%64).toNat=128+q.toNat%64 by omega]
    exact decodeN_two _ 0 _ _ _ (by omega) (by omega) (by omega)
   ·by_cases c3:q≤65535
    ·have e:encodeRune q=[(224+q / 4096).toNat.toUInt8,(128+q / 64%64).toNat.toUInt8,(128+q%64).toNat.toUInt8]:=by unfold encodeRune;rw [encodeRuneZ_three (by omega)];rfl
     rw [e]
     simp only [List.cons_append,List.nil_append,List.length_cons,List.length_nil,List.getD_cons_zero,List.getD_cons_succ]
     rw [byte_toNat _ (by omega) (by omega),byte_toNat _ (by omega) (by omega),byte_toNat _ (by omega) (by omega)]
     rw [show (224+q / 4096).toNat=224+q.toNat / 4096 by omega,show (128+q / 64%64).toNat=128+q.toNat / 64%64 by omega,show (128+q%64).toNat=128+q.toNat%64 by omega]
     exact decodeN_three _ _ _ (by omega) (by omega)
    ·have e:encodeRune q=[(240+q / 262144).toNat.toUInt8,(128+q / 4096%64).toNat.toUInt8,(128+q / 64%64).toNat.toUInt8,(128+q%64).toNat.toUInt8]:=by unfold encodeRune;rw [encodeRuneZ_four (by omega) (by omega)];rfl
     rw [e]
     simp only [List.cons_append,List.nil_append,List.length_cons,List.length_nil,List.getD_cons_zero,List.getD_cons_succ]
     rw [byte_toNat _ (by omega) (by omega),byte_toNat _ (by omega) (by omega),byte_toNat _ (by omega) (by omega),byte_toNat _ (by omega) (by omega)]
     rw [show (240+q / 262144).toNat=240+q.toNat / 262144 by omega,show (128+q / 4096%64).toNat=128+q.toNat / 4096%64 by omega,show (128+q / 64%64).toNat=128+q.toNat / 64%64 by omega,show (128+q%64).toNat=128+q.toNat%64 by omega]
     exact decodeN_four _ _ (by omega) (by omega) (by omega)
 have e:encodeRune r=encodeRune (norm r):=by unfold encodeRune;rw [encodeRuneZ_norm]
 rw [e]
 exact key (norm r) (norm_good r)
theorem decode_back (l:List UInt8) (hne:l≠[]):((decodeL l).1=65533∧(decodeL l).2=1)∨encodeRune ((decodeL l).1:Int)=l.take (decodeL l).2:=by
 have hl:0<l.length:=List.length_pos_iff.2 hne
 have e0:∀ k,k<l.length→l.take (k+1)=l.take k++[l.getD k 0]:=by
  intro k hk
  rw [List.take_succ_eq_append_getElem hk]
  simp [List.getD,hk]
 have by8:∀ (x:UInt8) (n:Nat),x.toNat=n→n.toUInt8=x:=by
  intro x n h;subst h;simp
 rw [decodeL_N]
 generalize h0:l.getD 0 0=x0
 generalize h1:l.getD 1 0=x1
 generalize h2:l.getD 2 0=x2
 generalize h3:l.getD 3 0=x3
 have y0:x0.toNat<256:=x0.toNat_lt
 have y1:x1.toNat<256:=x1.toNat_lt
 have y2:x2.toNat<256:=x2.toNat_lt
 have y3:x3.toNat<256:=x3.toNat_lt
 unfold decodeN
 by_cases c0:x0.toNat<128
 ·right
  rw [if_pos c0]
  show encodeRune _=_
  unfold encodeRune
  rw [encodeRuneZ_one (by omega) (by omega),e0 0 hl,h0]
  simp
 ·rw [if_neg c0]
  by_cases c1:x0.toNat / 32=6∧(1<l.length∧x1.toNat / 64=2)
  ·rw [if_pos c1]
   by_cases d:x0.toNat%32*64+x1.toNat%64≥128
   ·right
    rw [if_pos d]
    show encodeRune _=_
    unfold encodeRune
    rw [encodeRuneZ_two (by omega) (by omega),e0 1 (by omega),e0 0 hl,h0,h1]
    simp only [List.map_cons,List.map_nil,List.take_zero,List.nil_append,List.cons_append,List.cons.injEq,and_true]
    exact ⟨by8 _ _ (by omega),by8 _ _ (by omega)⟩
   ·left
    rw [if_neg d]
    exact ⟨rfl,rfl⟩
  ·rw [if_neg c1]
   by_cases c2:x0.toNat / 16=14∧(1<l.length∧x1.toNat / 64=2)∧(2<l.length∧x2.toNat / 64=2)
   ·rw [if_pos c2]
    split
    ·right
     show encodeRune _=_
     unfold encodeRune
     rw [encodeRuneZ_three (by omega),e0 2 (by omega),e0 1 (by omega),e0 0 hl,h0,h1,h2]
     simp only [List.map_cons,List.map_nil,List.take_zero,List.nil_append,List.cons_append,List.cons.injEq,and_true]
     exact ⟨by8 _ _ (by omega),by8 _ _ (by omega),by8 _ _ (by omega)⟩
    ·left
     exact ⟨rfl,rfl⟩
   ·rw [if_neg c2]
    by_cases c3:x0.toNat / 8=30∧(1<l.length∧x1.toNat / 64=2)∧(2<l.length∧x2.toNat / 64=2)∧(3<l.length∧x3.toNat / 64=2)
    ·rw [if_pos c3]
     split
     ·right
      show encodeRune _=_
      unfold encodeRune
      rw [encodeRuneZ_four (by omega) (by omega),e0 3 (by omega),e0 2 (by omega),e0 1 (by omega),e0 0 hl,h0,h1,h2,h3]
      simp only [List.map_cons,List.map_nil,List.take_zero,List.nil_append,List.cons_append,List.cons.injEq,and_true]
      exact ⟨by8 _ _ (by omega),by8 _ _ (by omega),by8 _ _ (by omega),by8 _ _ (by omega)⟩
     ·left
      exact ⟨rfl,rfl⟩
    ·rw [if_neg c3]
     left
     exact ⟨rfl,rfl⟩
def lowerZ (r:Int):Int :=
 if (65≤r∧r≤90)∨(192≤r∧r≤222∧r≠215)∨(913≤r∧r≤939∧r≠930)∨(1040≤r∧r≤1071) then r+32
 else if 1024≤r∧r≤1039 then r+80 else r
def wordZ (r:Int):Bool :=
 decide ((48≤r∧r≤57)∨(65≤r∧r≤90)∨(97≤r∧r≤122)∨(192≤r∧r≤255∧r≠215∧r≠247)∨(913≤r∧r≤974∧r≠930)∨(1024≤r∧r≤1119))
end Go.Proofs.YtdfibahafilklaaGreatDoor.UM
namespace Go.Proofs.YtdfibahafilklaaGreatDoor.TK
open Go.Lib UM
def lowL (row:List Int):List UInt8:=encL (row.map lowerZ)
def one (l:List Int):List (List Int):=if l=[] then [] else [l]
def Good (zs:List Int):Prop:=zs≠[]∧(∀ z∈zs,wordZ z=true)∧(∀ z∈zs,lowerZ z=z)∧(encL zs).length≤32
theorem Good.low {zs:List Int} (h:Good zs):lowL zs=encL zs:=by
 have:∀ z∈zs,lowerZ z=id z:=h.2.2.1
 unfold lowL
 rw [List.map_congr_left this,List.map_id]
def nameByte (c:UInt8):Bool:=decide ((97≤c.toNat∧c.toNat≤122)∨(48≤c.toNat∧c.toNat≤57)∨c.toNat=95)
def nameL (l:List UInt8):Bool:=decide (1≤l.length∧l.length≤32)&&l.all nameByte
def nameRune (r:Int):Bool:=decide ((97≤r∧r≤122)∨(48≤r∧r≤57)∨r=95)
end Go.Proofs.YtdfibahafilklaaGreatDoor.TK
namespace Go.Proofs.YtdfibahafilklaaGreatDoor.MM
open Go Go.RowKit
def Two (w:World) (g:Nat) (t:TypeId) (a b:Value):Prop:=w.heap[g]? = some (.cells #[a,b] t (0,0))
theorem Two.lt {w:World} {g:Nat} {t:TypeId} {a b:Value} (h:Two w g t a b):g<w.heap.size:=(Array.getElem?_eq_some_iff.1 h).1
theorem Two.c0 {w:World} {g:Nat} {t:TypeId} {a b:Value} (h:Two w g t a b):w.cell? ⟨g,0,none⟩=some a:=by rw [cell_of_row w g 0 _ _ _ h];rfl
theorem Two.c1 {w:World} {g:Nat} {t:TypeId} {a b:Value} (h:Two w g t a b):w.cell? ⟨g,1,none⟩=some b:=by rw [cell_of_row w g 1 _ _ _ h];rfl
theorem Two.f0 {w:World} {g:Nat} {t:TypeId} {a b:Value} (h:Two w g t a b):w.frozen? ⟨g,0,none⟩=false:=frozen_of_row w g 0 _ _ h
theorem Two.f1 {w:World} {g:Nat} {t:TypeId} {a b:Value} (h:Two w g t a b):w.frozen? ⟨g,1,none⟩=false:=frozen_of_row w g 1 _ _ h
theorem Two.s0 {w:World} {g:Nat} {t:TypeId} {a b:Value} (h:Two w g t a b) (x:Value):Two (w.setCell ⟨g,0,none⟩ x) g t x b:=heap_setCell_same w g 0 _ _ x h
theorem Two.s1 {w:World} {g:Nat} {t:TypeId} {a b:Value} (h:Two w g t a b) (x:Value):Two (w.setCell ⟨g,1,none⟩ x) g t a x:=heap_setCell_same w g 1 _ _ x h
theorem Two.s01 {w:World} {g:Nat} {t:TypeId} {a b:Value} (h:Two w g t a b) (x y:Value):Two ((w.setCell ⟨g,0,none⟩ x).setCell ⟨g,1,none⟩ y) g t x y:=(h.s0 x).s1 y
theorem Two.keep {S:Nat→Prop} {w w':World} {g:Nat} {t:TypeId} {a b:Value} (h:Two w g t a b) (hk:Kep S w w') (hS:S g):Two w' g t a b:=(hk.block g h.lt hS).trans h
theorem Two.below {B:Nat} {w w':World} {g:Nat} {t:TypeId} {a b:Value} (h:Two w g t a b) (hb:Below B w w') (hg:g<B):Two w' g t a b:=(hb.block g hg).trans h
theorem two_new (w:World) (t:TypeId) (a b:Value):Two (w.alloc (.cells #[a,b] t)) w.heap.size t a b:=heap_alloc_new _ _
theorem Two.all {w:World} {g:Nat} {t:TypeId} {a b:Value} (h:Two w g t a b) (x:Value) :
  w.cell? ⟨g,0,none⟩=some a∧w.cell? ⟨g,1,none⟩=some b∧w.frozen? ⟨g,0,none⟩=false∧w.frozen? ⟨g,1,none⟩=false∧(w.setCell ⟨g,0,none⟩ x).cell? ⟨g,1,none⟩=some b∧(w.setCell ⟨g,0,none⟩ x).frozen? ⟨g,1,none⟩=false :=
 ⟨h.c0,h.c1,h.f0,h.f1,(h.s0 x).c1,(h.s0 x).f1⟩
theorem kep_set0 {w:World} {g i:Nat} (x:Value):Kep (fun b=>b≠g) w (w.setCell ⟨g,i,none⟩ x):=kep_set (fun h=>h rfl) x
theorem kep_set01 {w:World} {g:Nat} (x y:Value):Kep (fun b=>b≠g) w ((w.setCell ⟨g,0,none⟩ x).setCell ⟨g,1,none⟩ y):=(kep_set0 x).trans (kep_set0 y)
section
variable {P : Program} {fn : Func} {t : TypeId} {d : TypeDesc}
theorem results_box1 {p:Tmp} (h:fn.results=#[.cell p t]) (hu:P.underlying t=some d) (hd:(match d with | .struct _ | .array _ _=>true | _=>false)=true) (hi:(P.info? t).map (·.size)=some 2) (tmps:Array Value) (w:World) (g:Nat) (a b:Value)
  (hp:tmps.getD p undef=.pointer (some ⟨g,0,none⟩)) (hg:Two w g t a b):(results fn tmps).run P w=.ok (.agg #[a,b]) w:=by
 have hp':tmps[p]?.getD undef=.pointer (some ⟨g,0,none⟩):=by simpa using hp
 have hl:=run_loadVar_row (P:=P) w g t t _ (0,0) d hg hu hd hi
 simp [results,h,hp',asAddr,hl]
theorem results_box2 {p u:Tmp} (h:fn.results=#[.cell p t,.tmp u]) (hu:P.underlying t=some d) (hd:(match d with | .struct _ | .array _ _=>true | _=>false)=true) (hi:(P.info? t).map (·.size)=some 2) (tmps:Array Value) (w:World) (g:Nat) (a b:Value)
  (hp:tmps.getD p undef=.pointer (some ⟨g,0,none⟩)) (hg:Two w g t a b):(results fn tmps).run P w=.ok (.tuple #[.agg #[a,b],tmps.getD u undef]) w:=by
 have hp':tmps[p]?.getD undef=.pointer (some ⟨g,0,none⟩):=by simpa using hp
 have hl:=run_loadVar_row (P:=P) w g t t _ (0,0) d hg hu hd hi
 simp [results,h,hp',asAddr,hl]
theorem results_box3 {p u v:Tmp} (h:fn.results=#[.cell p t,.tmp u,.tmp v]) (hu:P.underlying t=some d) (hd:(match d with | .struct _ | .array _ _=>true | _=>false)=true) (hi:(P.info? t).map (·.size)=some 2) (tmps:Array Value) (w:World) (g:Nat) (a b:Value)
  (hp:tmps.getD p undef=.pointer (some ⟨g,0,none⟩)) (hg:Two w g t a b):(results fn tmps).run P w=.ok (.tuple #[.agg #[a,b],tmps.getD u undef,tmps.getD v undef]) w:=by
 have hp':tmps[p]?.getD undef=.pointer (some ⟨g,0,none⟩):=by simpa using hp
 have hl:=run_loadVar_row (P:=P) w g t t _ (0,0) d hg hu hd hi
 simp [results,h,hp',asAddr,hl]
end
end Go.Proofs.YtdfibahafilklaaGreatDoor.MM
namespace Go.Proofs.YtdfibahafilklaaGreatDoor.MM
open Go Go.RowKit
theorem text_index {s:ByteArray} {l:List UInt8} (hl:s.data.toList=l) {i:Nat} {c:UInt8} (hi:l[i]? = some c) (W:World):(Instr.index 9 (.string s) (.int .i64 (i:Int))).run Tryz.prog W=.ok (.int .u8 (c.toNat:Int)) W:=by
 obtain ⟨hlt,he⟩:=List.getElem?_eq_some_iff.1 hi
 have hsz:s.size=l.length:=by rw [Lib.size_eq,hl]
 rw [run_index_string W 9 s .i64 i Tryz.underlying9,dif_pos ⟨by omega,by omega⟩]
 subst hl
 have e:(s[(i:Int).toNat]'(by omega))=c:=by
  rw [← he]
  simp only [Int.toNat_natCast]
  rfl
 rw [e]
theorem text_part (l:List UInt8) (a b:Nat):(⟨l.toArray⟩:ByteArray).extract a b=⟨((l.drop a).take (b - a)).toArray⟩:=by
 apply ByteArray.ext
 rw [ByteArray.data_extract]
 apply Array.toList_inj.1
 simp [List.extract_eq_take_drop]
theorem text_cut (l:List UInt8) (a b:Nat):((⟨l.toArray⟩:ByteArray).extract a b).toList=(l.drop a).take (b - a):=by rw [text_part,Lib.toList_data]
end Go.Proofs.YtdfibahafilklaaGreatDoor.MM
