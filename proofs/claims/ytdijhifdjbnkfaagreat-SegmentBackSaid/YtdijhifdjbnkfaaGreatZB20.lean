import Derived.Test.YtdijhifdjbnkfaaGreatZB18
import Derived.Test.YtdijhifdjbnkfaaGreatZB6
import Derived.Test.YtdijhifdjbnkfaaGreatZB15
import Derived.Test.YtdijhifdjbnkfaaGreatZB5
import Derived.Test.YtdijhifdjbnkfaaGreatZB12
import Derived.Test.YtdijhifdjbnkfaaGreatZB19
import Derived.Test.YtdijhifdjbnkfaaGreatZB17
import Derived.Test.YtdijhifdjbnkfaaGreatZB10
import Derived.OwnWalkIn
import Derived.Laws.AppendOwnNone
set_option linter.unusedVariables false
set_option linter.unusedSimpArgs false
namespace Go.Proofs.YtdijhifdjbnkfaaGreat.TR
open Go Go.RowKit Go.Proofs.YtdijhifdjbnkfaaGreat.MM Go.Proofs.YtdijhifdjbnkfaaGreat.GB
theorem grown_low {B:Nat} {wr w':World} {u u':Value} {L L':List UInt8} (hB:B≤wr.heap.size) (ho:OwnB B wr u L) (hg:Grown wr w' u u') (ho':OwnB 0 w' u' L'):OwnB B w' u' L'∧Below B wr w':=by
 have h1:∀ k,u.ownBlock=some k→B≤k:=fun k hk=>(World.ownsRow.lt ho k hk).1
 refine ⟨OwnB.from ho' fun k hk => ?_,hg.kep.below hB fun k hk e=>by have:=h1 k e;omega⟩
 rcases hg.2 k hk with e | e
 ·exact h1 k e
 ·omega
structure EncSt (w W wr:World) (gb:Option Nat) (vh vb:Value) (H Bd:List UInt8):Prop where
 low:Below w.heap.size w wr
 gsz:W.heap.size≤wr.heap.size
 wsz:w.heap.size≤W.heap.size
 blk:∀ g,gb=some g→g<W.heap.size∧wr.heap[g]? = W.heap[g]?
 oh:OwnB 0 wr vh H
 ob:OwnB 0 wr vb Bd
 fh:∀ k,vh.ownBlock=some k→w.heap.size≤k∧gb≠some k
 fb:∀ k,vb.ownBlock=some k→w.heap.size≤k∧gb≠some k
 ap:∀ k,vh.ownBlock=some k→vb.ownBlock≠some k
theorem EncSt.below {w W wr w':World} {gb:Option Nat} {vh vb:Value} {H Bd:List UInt8} (h:EncSt w W wr gb vh vb H Bd) (hb:Below wr.heap.size wr w'):EncSt w W w' gb vh vb H Bd :=
 ⟨h.low.trans (hb.mono h.low.size),Nat.le_trans h.gsz hb.size,h.wsz,fun g hg=>⟨(h.blk g hg).1,(hb.block g (Nat.lt_of_lt_of_le (h.blk g hg).1 h.gsz)).trans (h.blk g hg).2⟩,OwnB.keep h.oh hb,OwnB.keep h.ob hb,h.fh,h.fb,h.ap⟩
theorem EncSt.row {w wr:World} {vh vb x:Value} {H Bd X:List UInt8} (h:EncSt w w wr none vh vb H Bd) {w5:World} (hb:Below wr.heap.size wr w5) (hx:OwnB wr.heap.size w5 x X):EncSt w w5 w5 x.ownBlock vh vb H Bd :=
 ⟨h.low.trans (hb.mono h.low.size),Nat.le_refl _,Nat.le_trans h.low.size hb.size,fun g hg=>⟨(World.ownsRow.lt hx g hg).2,rfl⟩,OwnB.keep h.oh hb,OwnB.keep h.ob hb,
  fun k hk=>⟨(h.fh k hk).1,fun e=>by have h1:=(World.ownsRow.lt hx k e).1;have h2:=own_lt h.oh k hk;omega⟩,
  fun k hk=>⟨(h.fb k hk).1,fun e=>by have h1:=(World.ownsRow.lt hx k e).1;have h2:=own_lt h.ob k hk;omega⟩,h.ap⟩
end Go.Proofs.YtdijhifdjbnkfaaGreat.TR
namespace Go.Proofs.YtdijhifdjbnkfaaGreat.DT
open Go Go.RowKit Go.Proofs.YtdijhifdjbnkfaaGreat.MM Go.Proofs.YtdijhifdjbnkfaaGreat.DM Go.Proofs.YtdijhifdjbnkfaaGreat.VM
open Go.Proofs.YtdijhifdjbnkfaaGreat.EM (lessL lessL_irr lessL_trans lessL_total getT_back)
theorem num_ok {m:Nat} {l:List UInt8} (o:Bool) (h:(getL l).2.2=0) (h2:(getL l).1≤m):numSt m l o=((getL l).1,l.drop (getL l).2.1,o):=by
 unfold numSt VG.restL
 rw [if_pos ⟨h,h2⟩,if_pos h]
theorem num_le (m:Nat) (l:List UInt8) (o:Bool):(numSt m l o).1≤m:=by
 unfold numSt
 split
 ·rename_i h;exact h.2
 ·exact Nat.zero_le _
theorem num_put {n m:Nat} (h:n≤m) (hn:n<18446744073709551616) (r:List UInt8) (o:Bool):numSt m (bytesL n++r) o=(n,r,o):=by
 have e:=getL_put n hn r
 rw [num_ok o (by rw [e]) (by rw [e];exact h),e]
 dsimp only
 rw [List.drop_left]
theorem num_back {m:Nat} {l:List UInt8} {o:Bool} (h:(numSt m l o).2.2=false):o=false∧bytesL (numSt m l o).1++(numSt m l o).2.1=l:=by
 by_cases h1:(getL l).2.2=0∧(getL l).1≤m
 ·rw [num_ok o h1.1 h1.2] at h ⊢
  exact ⟨h,getL_back (Prod.ext rfl (Prod.ext rfl h1.1))⟩
 ·unfold numSt at h
  rw [if_neg h1] at h
  cases h
theorem txt_ok {m:Int} {l:List UInt8} (o:Bool) (h:(getT l m).2.2=0):txtSt m l o=((getT l m).1,l.drop (getT l m).2.1,o):=by
 unfold txtSt VG.restT
 rw [if_pos h,h]
 simp
theorem txt_put {s:List UInt8} {m:Int} (h:(s.length:Int)≤m) (hs:s.length<18446744073709551616) (r:List UInt8) (o:Bool):txtSt m (textL s++r) o=(s,r,o):=by
 have e:=getT_put s hs m h r
 rw [txt_ok o (by rw [e]),e]
 dsimp only
 rw [List.drop_left]
theorem txt_back {m:Int} {l:List UInt8} {o:Bool} (h:(txtSt m l o).2.2=false):o=false∧textL (txtSt m l o).1++(txtSt m l o).2.1=l:=by
 by_cases h1:(getT l m).2.2=0
 ·rw [txt_ok o h1] at h ⊢
  exact ⟨h,(getT_back (Prod.ext rfl (Prod.ext rfl h1))).1⟩
 ·unfold txtSt at h
  have:((getT l m).2.2 != 0)=true:=by rw [bne_iff_ne];exact h1
  rw [this] at h
  simp at h
theorem txt_len (m:Int) (l:List UInt8) (o:Bool):((txtSt m l o).1.length:Int)≤max 0 m:=by
 have:(txtSt m l o).1=(getT l m).1:=rfl
 rw [this]
 by_cases h1:(getT l m).2.2=0
 ·exact (getT_back (Prod.ext rfl (Prod.ext rfl h1))).2.1
 ·unfold getT at h1 ⊢
  split
  ·simp;omega
  ·split
   ·simp;omega
   ·split
    ·simp;omega
    ·rename_i h2 h3 h4
     rw [if_neg h2,if_neg h3,if_neg h4] at h1
     exact absurd rfl h1
theorem num_odd (m:Nat) (l:List UInt8):(numSt m l true).2.2=true:=by
 unfold numSt
 split<;>rfl
def okW (x:Ent):Prop:=x.1.length≤65∧(0≤x.2.1∧x.2.1≤67108864)∧(0≤x.2.2.1∧x.2.2.1≤67108864)∧(0≤x.2.2.2∧x.2.2.2≤67108864)
theorem okX_of {x:Ent}:okX x=true↔1≤x.1.length∧okW x:=by
 rw [okX_iff]
 unfold okW
 constructor
 ·rintro ⟨⟨h1,h2⟩,h3⟩;exact ⟨h1,h2,h3⟩
 ·rintro ⟨h1,h2,h3⟩;exact ⟨⟨h1,h2⟩,h3⟩
def termSt (a l:List UInt8) (o:Bool):List UInt8×List UInt8×Bool :=
 (a.take (numSt a.length l o).1++(txtSt (65 - ((numSt a.length l o).1:Int)) (numSt a.length l o).2.1 (numSt a.length l o).2.2).1,(txtSt (65 - ((numSt a.length l o).1:Int)) (numSt a.length l o).2.1 (numSt a.length l o).2.2).2)
def heldSt (a l:List UInt8) (o:Bool):List UInt8×Bool :=
 if sharedL a (termSt a l o).1=(numSt a.length l o).1 then (termSt a l o).2 else ([],true)
def trioSt (l:List UInt8) (o:Bool):(Nat×Nat×Nat)×List UInt8×Bool :=
 (((numSt 67108864 l o).1,(numSt 67108864 (numSt 67108864 l o).2.1 (numSt 67108864 l o).2.2).1,(numSt 67108864 (numSt 67108864 (numSt 67108864 l o).2.1 (numSt 67108864 l o).2.2).2.1 (numSt 67108864 (numSt 67108864 l o).2.1 (numSt 67108864 l o).2.2).2.2).1),
   (numSt 67108864 (numSt 67108864 (numSt 67108864 l o).2.1 (numSt 67108864 l o).2.2).2.1 (numSt 67108864 (numSt 67108864 l o).2.1 (numSt 67108864 l o).2.2).2.2).2)
def entSt (a l:List UInt8) (o:Bool):Ent×List UInt8×Bool :=
 (((termSt a l o).1,((trioSt (heldSt a l o).1 (heldSt a l o).2).1.1:Int),((trioSt (heldSt a l o).1 (heldSt a l o).2).1.2.1:Int),((trioSt (heldSt a l o).1 (heldSt a l o).2).1.2.2:Int)),(trioSt (heldSt a l o).1 (heldSt a l o).2).2)
theorem trio_put {a b c:Nat} (ha:a≤67108864) (hb:b≤67108864) (hc:c≤67108864) (r:List UInt8) (o:Bool):trioSt (bytesL a++(bytesL b++(bytesL c++r))) o=((a,b,c),r,o):=by
 unfold trioSt
 rw [num_put ha (by omega)]
 dsimp only
 rw [num_put hb (by omega)]
 dsimp only
 rw [num_put hc (by omega)]
theorem trio_back {l:List UInt8} {o:Bool} (h:(trioSt l o).2.2=false):o=false∧bytesL (trioSt l o).1.1++(bytesL (trioSt l o).1.2.1++(bytesL (trioSt l o).1.2.2++(trioSt l o).2.1))=l:=by
 unfold trioSt at h ⊢
 dsimp only at h ⊢
 obtain ⟨h1,e1⟩:=num_back h
 obtain ⟨h2,e2⟩:=num_back h1
 obtain ⟨h3,e3⟩:=num_back h2
 refine ⟨h3,?_⟩
 rw [e1,e2,e3]
theorem trio_le (l:List UInt8) (o:Bool):(trioSt l o).1.1≤67108864∧(trioSt l o).1.2.1≤67108864∧(trioSt l o).1.2.2≤67108864:=⟨num_le _ _ _,num_le _ _ _,num_le _ _ _⟩
theorem term_len {a:List UInt8} (ha:a.length≤65) (l:List UInt8) (o:Bool):(termSt a l o).1.length≤65:=by
 unfold termSt
 have h1:=num_le a.length l o
 generalize numSt a.length l o=s at *
 have h2:=txt_len (65 - (s.1:Int)) s.2.1 s.2.2
 dsimp only
 rw [List.length_append,List.length_take]
 omega
theorem ent_w {a:List UInt8} (ha:a.length≤65) (l:List UInt8) (o:Bool):okW (entSt a l o).1:=by
 have h:=trio_le (heldSt a l o).1 (heldSt a l o).2
 have h2:=term_len ha l o
 unfold entSt okW
 dsimp only
 omega
theorem ent_put {a:List UInt8} {x:Ent} (hx:okW x) (ha:a.length≤65) (r:List UInt8) (o:Bool):entSt a (entB a x++r) o=(x,r,o):=by
 obtain ⟨h1,h3,h4,h5⟩:=hx
 have hs:=sharedL_le a x.1
 have n1:numSt a.length (entB a x++r) o=(sharedL a x.1,(textL (x.1.drop (sharedL a x.1))++(bytesL x.2.1.toNat++(bytesL x.2.2.1.toNat++(bytesL x.2.2.2.toNat++r)))),o):=by
  unfold entB
  simp only [List.append_assoc]
  exact num_put hs.1 (by omega) _ _
 have n2:termSt a (entB a x++r) o=(x.1,(bytesL x.2.1.toNat++(bytesL x.2.2.1.toNat++(bytesL x.2.2.2.toNat++r))),o):=by
  unfold termSt
  rw [n1]
  dsimp only
  rw [txt_put (by rw [List.length_drop];omega) (by rw [List.length_drop];omega)]
  dsimp only
  rw [sharedL_take,List.take_append_drop]
 have n3:heldSt a (entB a x++r) o=((bytesL x.2.1.toNat++(bytesL x.2.2.1.toNat++(bytesL x.2.2.2.toNat++r))),o):=by
  unfold heldSt
  rw [n1,n2]
  dsimp only
  rw [if_pos rfl]
 unfold entSt
 rw [n3,n2]
 dsimp only
 rw [trio_put (by omega) (by omega) (by omega)]
 obtain ⟨t,p,m,n⟩:=x
 dsimp only at h3 h4 h5 ⊢
 rw [show ((p.toNat:Nat):Int)=p by omega,show ((m.toNat:Nat):Int)=m by omega,show ((n.toNat:Nat):Int)=n by omega]
theorem ent_back {a l:List UInt8} {o:Bool} (h:(entSt a l o).2.2=false):o=false∧entB a (entSt a l o).1++(entSt a l o).2.1=l:=by
 have h0:(trioSt (heldSt a l o).1 (heldSt a l o).2).2.2=false:=h
 obtain ⟨h1,e1⟩:=trio_back h0
 unfold heldSt at h1
 by_cases hs:sharedL a (termSt a l o).1=(numSt a.length l o).1
 ·rw [if_pos hs] at h1
  have e2:heldSt a l o=(termSt a l o).2:=by unfold heldSt;rw [if_pos hs]
  obtain ⟨h3,e3⟩:=txt_back (show (txtSt (65 - ((numSt a.length l o).1:Int)) (numSt a.length l o).2.1 (numSt a.length l o).2.2).2.2=false from h1)
  obtain ⟨h4,e4⟩:=num_back h3
  refine ⟨h4,?_⟩
  unfold entB entSt
  dsimp only
  rw [hs]
  simp only [List.append_assoc,Int.toNat_natCast]
  rw [e1,e2]
  have e5:(termSt a l o).1.drop (numSt a.length l o).1=(txtSt (65 - ((numSt a.length l o).1:Int)) (numSt a.length l o).2.1 (numSt a.length l o).2.2).1:=by
   unfold termSt
   dsimp only
   have:=num_le a.length l o
   rw [List.drop_append,List.drop_of_length_le (by rw [List.length_take];omega),List.nil_append,List.length_take,Nat.min_eq_left this,Nat.sub_self,List.drop_zero]
  rw [e5]
  rw [show (termSt a l o).2.1=(txtSt (65 - ((numSt a.length l o).1:Int)) (numSt a.length l o).2.1 (numSt a.length l o).2.2).2.1 from rfl,e3,e4]
 ·rw [if_neg hs] at h1
  cases h1
def entsSt:Nat→List UInt8→List Ent→List UInt8→Bool→List Ent×List UInt8×Bool
 | 0,_,acc,l,o=>(acc,l,o)
 | f+1,a,acc,l,o=>if l=[] then (acc,l,o) else entsSt f (entSt a l o).1.1 (acc++[(entSt a l o).1]) (entSt a l o).2.1 (entSt a l o).2.2
theorem entB_pos (a:List UInt8) (x:Ent):entB a x≠[]:=fun h=>by
 have h1:=(bytesL_length (sharedL a x.1)).1
 have:=congrArg List.length h
 unfold entB at this
 simp at this
 rw [this.1] at h1
 simp at h1
theorem ents_put:∀ (l:List Ent) (f:Nat) (a:List UInt8) (acc:List Ent) (o:Bool),(∀ x∈l,okW x)→a.length≤65→l.length≤f→entsSt f a acc (blockB a l) o=(acc++l,[],o)
 | [],0,a,acc,o,_,_,_=>by simp [entsSt,blockB]
 | [],f+1,a,acc,o,_,_,_=>by simp [entsSt,blockB]
 | x::l,0,a,acc,o,_,_,h=>by simp at h
 | x::l,f+1,a,acc,o,h,ha,hf=>by
   have hx:=h x (by simp)
   rw [entsSt,blockB,if_neg (fun e=>entB_pos a x (List.append_eq_nil_iff.1 e).1),ent_put hx ha]
   dsimp only
   rw [ents_put l f x.1 (acc++[x]) o (fun y hy=>h y (by simp [hy])) hx.1 (by simpa using hf),List.append_assoc]
   rfl
theorem ents_back:∀ (f:Nat) (a:List UInt8) (acc:List Ent) (l:List UInt8) (o:Bool),a.length≤65→(entsSt f a acc l o).2.1=[]→(entsSt f a acc l o).2.2=false →
  o=false∧∃ m,(entsSt f a acc l o).1=acc++m∧blockB a m=l∧m.length≤f∧∀ x∈m,okW x
 | 0,a,acc,l,o,ha,h1,h2=>by
   rw [entsSt] at h1 h2 ⊢
   exact ⟨h2,[],by simp,by rw [show l=[] from h1];rfl,by simp,by simp⟩
 | f+1,a,acc,l,o,ha,h1,h2=>by
   rw [entsSt] at h1 h2 ⊢
   by_cases hl:l=[]
   ·rw [if_pos hl] at h1 h2 ⊢
    exact ⟨h2,[],by simp,by rw [hl];rfl,by simp,by simp⟩
   ·rw [if_neg hl] at h1 h2 ⊢
    have hw:=ent_w ha l o
    obtain ⟨h3,m,e1,e2,e3,e4⟩:=ents_back f _ _ _ _ hw.1 h1 h2
    obtain ⟨h5,e5⟩:=ent_back h3
    refine ⟨h5,(entSt a l o).1::m,by rw [e1];simp,by rw [blockB,e2,e5],by simpa using e3,fun x hx => ?_⟩
    rcases List.mem_cons.1 hx with rfl | hx
    ·exact hw
    ·exact e4 x hx
def rises:List UInt8→List Ent→Bool
 | _,[]=>true
 | t,x::r=>lessL t x.1&&rises x.1 r
theorem less_nil {t:List UInt8} (h:1≤t.length):lessL [] t=true:=by
 cases t with
 | nil=>simp at h
 | cons a t=>rfl
theorem less_pos {t u:List UInt8} (h:lessL t u=true):1≤u.length:=by
 cases u with
 | nil=>cases t<;>simp [lessL] at h
 | cons a u=>simp
theorem areR_some:∀ (l:List Ent) (t:List UInt8),areR (some t) l=true↔(∀ x∈l,okW x)∧rises t l=true
 | [],t=>by simp [areR,rises]
 | x::r,t=>by
   rw [areR_cons,rises,Bool.and_eq_true,Bool.and_eq_true,Bool.and_eq_true,areR_some r x.1,okX_of]
   simp only [List.mem_cons,forall_eq_or_imp]
   constructor
   ·rintro ⟨⟨⟨_,h1⟩,h2⟩,h3,h4⟩;exact ⟨⟨h1,h3⟩,h2,h4⟩
   ·rintro ⟨⟨h1,h3⟩,h2,h4⟩;exact ⟨⟨⟨less_pos h2,h1⟩,h2⟩,h3,h4⟩
theorem areR_none (l:List Ent):areR none l=true↔(∀ x∈l,okW x)∧rises [] l=true:=by
 rw [← areR_some]
 cases l with
 | nil=>simp [areR]
 | cons x r =>
   rw [areR_cons,areR_cons]
   by_cases h:okX x=true
   ·have h1:riseO (some []) x.1=true:=less_nil (okX_of.1 h).1
    rw [h1]
    rfl
   ·have:okX x=false:=by simpa using h
    rw [this]
    simp
theorem rises_app:∀ (l m:List Ent) (t:List UInt8),rises t (l++m)=(rises t l&&rises ((l.getLast?.map (·.1)).getD t) m)
 | [],m,t=>by simp [rises]
 | x::l,m,t=>by
   rw [List.cons_append,rises,rises,rises_app l m x.1,Bool.and_assoc]
   cases l<;>simp [List.getLast?_cons]
def chunksOf (l:List Ent):List (List Ent):=(List.range (chunksN l)).map (chunk l)
def blkB (c:List Ent):List UInt8:=textL (blockB [] c)
theorem encD_chunks (l:List Ent):encD l=bytesL l.length++(chunksOf l).flatMap blkB:=by
 unfold encD chunksB chunksOf
 rw [List.drop_zero,List.flatMap_map]
 rfl
theorem chunksOf_nil:chunksOf []=[]:=rfl
theorem chunksOf_cons {c m:List Ent} (h0:0<c.length) (h:c.length=16∨(c.length≤16∧m=[])):chunksOf (c++m)=c::chunksOf m:=by
 have hn:chunksN (c++m)=chunksN m+1:=by
  unfold chunksN
  rw [List.length_append]
  rcases h with h | ⟨h,rfl⟩
  ·omega
  ·simp only [List.length_nil];omega
 unfold chunksOf
 rw [hn,List.range_succ_eq_map,List.map_cons,List.map_map]
 have h1:chunk (c++m) 0=c:=by
  unfold chunk
  rw [Nat.mul_zero,List.drop_zero]
  rcases h with h | ⟨h,rfl⟩
  ·rw [← h,List.take_left]
  ·rw [List.append_nil,List.take_of_length_le h]
 rw [h1]
 congr 1
 apply List.map_congr_left
 intro j hj
 show chunk (c++m) (j+1)=chunk m j
 unfold chunk
 rcases h with h | ⟨h,rfl⟩
 ·rw [show 16*(j+1)=16+16*j by omega,← h,← List.drop_drop,List.drop_left]
 ·simp [chunksN] at hj
theorem chunksOf_len (l:List Ent):(chunksOf l).length=chunksN l:=by simp [chunksOf]
theorem chunksOf_at {l:List Ent} {j:Nat} (h:j<(chunksOf l).length):(chunksOf l)[j]=chunk l j:=by simp [chunksOf]
theorem chunk_size (l:List Ent) (j:Nat):(chunk l j).length=min 16 (l.length - 16*j):=by unfold chunk;rw [List.length_take,List.length_drop]
theorem chunk_at {l:List Ent} {j k:Nat} (h:k<(chunk l j).length):(chunk l j)[k]=l[16*j+k]'(by rw [chunk_size] at h;omega):=by
 simp [chunk]
def lastT (t:List UInt8) (l:List Ent):List UInt8:=(l.getLast?.map (·.1)).getD t
def blkOk (n at_:Nat) (last:List UInt8) (e:List Ent×List UInt8×Bool):Bool := !e.2.2&&(decide (e.2.1=[])&&(decide (e.1.length=min 16 (n - at_))&&rises last e.1))
def chunksSt:Nat→Nat→Nat→List UInt8→List (List Ent)→List UInt8→Bool→Option (List (List Ent)×List UInt8×Bool)
 | 0,_,_,_,acc,l,o=>some (acc,l,o)
 | f+1,n,at_,last,acc,l,o =>
   if at_<n then
    if blkOk n at_ last (entsSt 16 [] [] (txtSt l.length l o).1 false)=true then
     chunksSt f n (at_+16) (lastT last (entsSt 16 [] [] (txtSt l.length l o).1 false).1) (acc++[(entsSt 16 [] [] (txtSt l.length l o).1 false).1]) (txtSt l.length l o).2.1 (txtSt l.length l o).2.2
    else none
   else some (acc,l,o)
theorem blkOk_iff {n at_:Nat} {last:List UInt8} {e:List Ent×List UInt8×Bool}:blkOk n at_ last e=true↔e.2.2=false∧e.2.1=[]∧e.1.length=min 16 (n - at_)∧rises last e.1=true:=by
 unfold blkOk
 rw [Bool.and_eq_true,Bool.and_eq_true,Bool.and_eq_true,decide_eq_true_eq,decide_eq_true_eq]
 simp
theorem chunks_put:∀ (f:Nat) (m:List Ent) (n at_:Nat) (last:List UInt8) (acc:List (List Ent)) (o:Bool),m.length=n - at_→n≤at_+16*f→(∀ x∈m,okW x)→rises last m=true →
  chunksSt f n at_ last acc ((chunksOf m).flatMap blkB) o=some (acc++chunksOf m,[],o)
 | 0,m,n,at_,last,acc,o,hl,hf,hw,hr=>by
   have:m=[]:=List.eq_nil_of_length_eq_zero (by omega)
   subst this
   simp [chunksSt,chunksOf_nil]
 | f+1,m,n,at_,last,acc,o,hl,hf,hw,hr=>by
   rw [chunksSt]
   by_cases h:at_<n
   ·rw [if_pos h]
    have hm:m.take 16++m.drop 16=m:=List.take_append_drop _ _
    have hcl:(m.take 16).length=min 16 (n - at_):=by rw [List.length_take,hl]
    have hcw:∀ x∈m.take 16,okW x:=fun x hx=>hw x (List.mem_of_mem_take hx)
    have hdw:∀ x∈m.drop 16,okW x:=fun x hx=>hw x (List.mem_of_mem_drop hx)
    have hsp:chunksOf m=m.take 16::chunksOf (m.drop 16):=by
     conv=>lhs;rw [← hm]
     refine chunksOf_cons (by omega) ?_
     by_cases h16:16≤m.length
     ·left;rw [List.length_take];omega
     ·right;exact ⟨by omega,List.drop_of_length_le (by omega)⟩
    rw [← hm,rises_app,Bool.and_eq_true] at hr
    have hbl:(blockB [] (m.take 16)).length≤1840+100000:=by
     by_cases hall:∀ x∈m.take 16,okX x=true
     ·have:=blockB_len (m.take 16) [] hall
      rw [hcl] at this
      omega
     ·exfalso
      exact hall ((areR_all ((areR_some _ _).2 ⟨hcw,hr.1⟩)))
    rw [hsp,List.flatMap_cons]
    have ht:txtSt (((blkB (m.take 16)++(chunksOf (m.drop 16)).flatMap blkB).length:Nat):Int) (blkB (m.take 16)++(chunksOf (m.drop 16)).flatMap blkB) o=(blockB [] (m.take 16),(chunksOf (m.drop 16)).flatMap blkB,o):=by
     unfold blkB
     refine txt_put ?_ (by omega) _ _
     unfold textL
     simp only [List.length_append]
     omega
    have he:=ents_put (m.take 16) 16 [] [] false hcw (by simp) (by omega)
    rw [ht]
    dsimp only
    rw [he,if_pos (blkOk_iff.2 ⟨rfl,rfl,by simpa using hcl,by simpa using hr.1⟩)]
    dsimp only
    rw [List.nil_append]
    have:=chunks_put f (m.drop 16) n (at_+16) (lastT last (m.take 16)) (acc++[m.take 16]) o (by rw [List.length_drop,hl];omega) (by omega) hdw hr.2
    rw [this]
    simp
   ·rw [if_neg h]
    have:m=[]:=List.eq_nil_of_length_eq_zero (by omega)
    subst this
    simp [chunksOf_nil]
theorem chunks_back:∀ (f n at_:Nat) (last:List UInt8) (acc acc':List (List Ent)) (l:List UInt8) (o:Bool),n≤at_+16*f→chunksSt f n at_ last acc l o=some (acc',[],false) →
  o=false∧∃ m,acc'=acc++chunksOf m∧m.length=n - at_∧(chunksOf m).flatMap blkB=l∧(∀ x∈m,okW x)∧rises last m=true
 | 0,n,at_,last,acc,acc',l,o,hf,h=>by
   rw [chunksSt] at h
   simp only [Option.some.injEq,Prod.mk.injEq] at h
   obtain ⟨rfl,rfl,rfl⟩:=h
   exact ⟨rfl,[],by simp [chunksOf_nil],by simp;omega,by simp [chunksOf_nil],by simp,rfl⟩
 | f+1,n,at_,last,acc,acc',l,o,hf,h=>by
   rw [chunksSt] at h
   by_cases hlt:at_<n
   ·rw [if_pos hlt] at h
    by_cases hb:blkOk n at_ last (entsSt 16 [] [] (txtSt l.length l o).1 false)=true
    ·rw [if_pos hb] at h
     obtain ⟨b1,b2,b3,b4⟩:=blkOk_iff.1 hb
     obtain ⟨_,c,c1,c2,c3,c4⟩:=ents_back 16 [] [] (txtSt l.length l o).1 false (by simp) b2 b1
     rw [List.nil_append] at c1
     rw [c1] at h b3 b4
     obtain ⟨k1,m,k2,k3,k4,k5,k6⟩:=chunks_back f n (at_+16) _ _ _ _ _ (by omega) h
     obtain ⟨t1,t2⟩:=txt_back k1
     have hsp:chunksOf (c++m)=c::chunksOf m:=by
      refine chunksOf_cons (by omega) ?_
      by_cases h16:16≤n - at_
      ·left;omega
      ·right;exact ⟨by omega,List.eq_nil_of_length_eq_zero (by omega)⟩
     refine ⟨t1,c++m,?_,?_,?_,?_,?_⟩
     ·rw [k2,hsp];simp
     ·rw [List.length_append,b3,k3];omega
     ·rw [hsp,List.flatMap_cons,k4]
      unfold blkB
      rw [c2,t2]
     ·intro x hx
      rcases List.mem_append.1 hx with hx | hx
      ·exact c4 x hx
      ·exact k5 x hx
     ·rw [rises_app,b4];exact k6
    ·rw [if_neg hb] at h;cases h
   ·rw [if_neg hlt] at h
    simp only [Option.some.injEq,Prod.mk.injEq] at h
    obtain ⟨rfl,rfl,rfl⟩:=h
    exact ⟨rfl,[],by simp [chunksOf_nil],by simp;omega,by simp [chunksOf_nil],by simp,rfl⟩
def openSt (b:List UInt8):Option (Nat×List (List Ent)) :=
 match chunksSt 16384 (numSt 262144 b false).1 0 [] [] (numSt 262144 b false).2.1 (numSt 262144 b false).2.2 with
 | none=>none
 | some (cs,l,o)=>if o=true∨l≠[] then none else some ((numSt 262144 b false).1,cs)
theorem open_put {l:List Ent} (h:areD l=true):openSt (encD l)=some (l.length,chunksOf l):=by
 unfold areD at h
 rw [Bool.and_eq_true,decide_eq_true_eq,areR_none] at h
 unfold openSt
 rw [encD_chunks,num_put h.1 (by omega)]
 dsimp only
 rw [chunks_put 16384 l l.length 0 [] [] false (by omega) (by omega) h.2.1 h.2.2]
 simp
theorem open_back {b:List UInt8} {n:Nat} {cs:List (List Ent)} (h:openSt b=some (n,cs)):∃ l,areD l=true∧encD l=b∧n=l.length∧cs=chunksOf l:=by
 have hle:=num_le 262144 b false
 have hbk:=@num_back 262144 b false
 unfold openSt at h
 generalize numSt 262144 b false=s at *
 cases hc:chunksSt 16384 s.1 0 [] [] s.2.1 s.2.2 with
 | none=>rw [hc] at h;cases h
 | some p =>
   obtain ⟨cs',l',o'⟩:=p
   rw [hc] at h
   dsimp only at h
   by_cases hx:o'=true∨l'≠[]
   ·rw [if_pos hx] at h;cases h
   ·rw [if_neg hx] at h
    have ho:o'=false:=by simpa using fun e=>hx (.inl e)
    have hl:l'=[]:=Classical.byContradiction fun e=>hx (.inr e)
    subst ho hl
    obtain ⟨k1,m,k2,k3,k4,k5,k6⟩:=chunks_back 16384 s.1 0 [] [] cs' s.2.1 s.2.2 (by omega) hc
    obtain ⟨_,e⟩:=hbk k1
    simp only [Option.some.injEq,Prod.mk.injEq] at h
    have hml:m.length=s.1:=by omega
    refine ⟨m,?_,?_,by rw [← h.1,hml],by rw [← h.2,k2];rfl⟩
    ·unfold areD
     rw [Bool.and_eq_true,decide_eq_true_eq,areR_none]
     exact ⟨by omega,k5,k6⟩
    ·rw [encD_chunks,hml,k4]
     exact e
theorem open_dec (b:List UInt8):openSt b=(decD b).map fun l=>(l.length,chunksOf l):=by
 cases h:openSt b with
 | some p =>
   obtain ⟨n,cs⟩:=p
   obtain ⟨l,h1,h2,h3,h4⟩:=open_back h
   rw [decD_iff.2 ⟨h1,h2⟩,h3,h4]
   rfl
 | none =>
   cases hd:decD b with
   | none=>rfl
   | some l =>
     obtain ⟨h1,h2⟩:=decD_back hd
     rw [← h2,open_put h1] at h
     cases h
end Go.Proofs.YtdijhifdjbnkfaaGreat.DT
namespace Go.Proofs.YtdijhifdjbnkfaaGreat.ST
open Go Go.RowKit Go.Proofs.YtdijhifdjbnkfaaGreat.MM Go.Proofs.YtdijhifdjbnkfaaGreat.DM Go.Proofs.YtdijhifdjbnkfaaGreat.VM Go.Proofs.YtdijhifdjbnkfaaGreat.VP Go.Proofs.YtdijhifdjbnkfaaGreat.GB
theorem bytesL_ne (n:Nat):bytesL n≠[]:=fun h=>by
 have:=bytesL_length n
 rw [h] at this
 simp at this
end Go.Proofs.YtdijhifdjbnkfaaGreat.ST
namespace Go.Proofs.YtdijhifdjbnkfaaGreat.EV
open Go Go.RowKit Go.Proofs.YtdijhifdjbnkfaaGreat.MM Go.Proofs.YtdijhifdjbnkfaaGreat.EM Go.Proofs.YtdijhifdjbnkfaaGreat.VM Go.Proofs.YtdijhifdjbnkfaaGreat.GB
open Go.Proofs.YtdijhifdjbnkfaaGreat.VP
end Go.Proofs.YtdijhifdjbnkfaaGreat.EV
namespace Go.Proofs.YtdijhifdjbnkfaaGreat.ST
open Go Go.RowKit Go.Proofs.YtdijhifdjbnkfaaGreat.MM Go.Proofs.YtdijhifdjbnkfaaGreat.EM Go.Proofs.YtdijhifdjbnkfaaGreat.SM Go.Proofs.YtdijhifdjbnkfaaGreat.VM Go.Proofs.YtdijhifdjbnkfaaGreat.VP Go.Proofs.YtdijhifdjbnkfaaGreat.GB Go.Proofs.YtdijhifdjbnkfaaGreat.TR
open Go.Proofs.YtdijhifdjbnkfaaGreat.EV (docC evC fldC doc_at BoolLeft IntLeft)
theorem bytesE_ne (e:Ev):bytesE e≠[]:=fun h=>by
 have:=(bytesE_len e).2
 rw [h] at this
 simp at this
theorem headsB_len (l:List Doc) (a:Nat):∀ c,(headsB l a c).length≤20*c
 | 0=>by rw [headsB_zero];simp
 | c+1=>by
   have ih:=headsB_len l a c
   have h1:=bytesL_length (lastS l (endS l (a+c))).toNat
   have h2:=bytesL_length (rangeB l (16*(a+c)) (endS l (a+c))).length
   rw [headsB_next]
   unfold headB
   simp only [List.length_append]
   omega
def CodeS (l:List UInt8) (x:Int) (w:World) (e:Ending) (w':World):Prop:=∃ v,e=.returned (.tuple #[v,.int .i64 x])∧OwnB w.heap.size w' v l∧Below w.heap.size w w'
end Go.Proofs.YtdijhifdjbnkfaaGreat.ST
namespace Go.Proofs.YtdijhifdjbnkfaaGreat.GB
open Go Go.RowKit Go.Proofs.YtdijhifdjbnkfaaGreat.MM
def Beside (B q:Nat) (w W:World) (v:Value) (l:List UInt8):Prop:=OwnB B W v l∧Below B w W∧B≤W.heap.size∧q<W.heap.size∧∀ g,v.ownBlock=some g→g≠q
theorem Beside.grown {B q:Nat} {w W W':World} {v v':Value} {l m:List UInt8} (h:Beside B q w W v l) (ho:OwnB 0 W' v' m) (hg:Grown W W' v v'):Beside B q w W' v' m∧W'.heap[q]? = W.heap[q]? := by
 obtain ⟨h1,h2,h3,h4,h5⟩:=h
 have hs:=hg.1.size
 have hlo:∀ k,v.ownBlock=some k→B≤k:=fun k hk=>(World.ownsRow.lt h1 k hk).1
 refine ⟨⟨OwnB.from ho fun k hk => ?_,h2.trans (hg.kep.below h3 fun k hk e=>by have:=hlo k e;omega),by omega,by omega,fun g hgv => ?_⟩,hg.1.block q h4 fun e=>h5 q e.symm rfl⟩
 ·rcases hg.2 k hk with e | e
  ·exact hlo k e
  ·omega
 ·rcases hg.2 g hgv with e | e
  ·exact h5 g e
  ·omega
theorem Beside.below {B q:Nat} {w W W':World} {v:Value} {l:List UInt8} (h:Beside B q w W v l) (hb:Below W.heap.size W W'):Beside B q w W' v l:=by
 obtain ⟨h1,h2,h3,h4,h5⟩:=h
 have hs:=hb.size
 exact ⟨h1.keep hb,h2.trans (hb.mono h3),by omega,by omega,h5⟩
end Go.Proofs.YtdijhifdjbnkfaaGreat.GB
namespace Go.Proofs.YtdijhifdjbnkfaaGreat.GB
open Go Go.RowKit Go.Proofs.YtdijhifdjbnkfaaGreat.MM
theorem wpListIn_append_grown {F:Fence} {n:Nat} {w:World} {ops:Array Oper} {rest:List Oper} {o:Oper} {a:Act} {Q:Exit→Act→World→Prop} (hgd:o.guard=none) (s x:Operand)
  (ho:o.op=.call { callee:=.builtin .append,args:=#[s,x],argTypes:=#[23,23] }) (v:Value) (l:List UInt8) (hs:a.eval s=v) (hown:OwnB 0 w v l)
  (src:Value) (m:List UInt8) (hx:a.eval x=src) (hr:BRow w src m) (hm:m≠[]∨src=.slice none 0 0) (hlen:l.length+m.length≤140737488355328)
  (h:∀ v' w',OwnB 0 w' v' (l++m)→Grown w w' v v'→wpListIn F n Tryz.prog ops Q rest (a.put o.dst v') w'):wpListIn F n Tryz.prog ops Q (o::rest) a w:=by
 obtain ⟨i0,hi,hz0,hz1,hz2⟩:=info_parts infoByte
 obtain ⟨p,cap,rfl,_,_,h3,hc⟩:=hr
 rcases hc with hc | ⟨b,off,rfl,_,hc⟩
 ·have hm0:m=[]:=by
   have:=byteCells_len m
   rw [hc] at this
   exact List.eq_nil_of_length_eq_zero (by simpa using this.symm)
  have hsn:=hm.resolve_left fun h=>h hm0
  subst hm0
  refine wpListIn_plain hgd fun K hK' => ?_
  have hrun:=run_append_owned_none (P:=Tryz.prog) (w:=w) 0 23 o.type 5 i0 1 Tryz.underlying23 hi v l.length (Lib.byteCells l) hown
  have hh:=h v w (by rw [List.append_nil];exact hown) (Grown.refl w v)
  rw [hsn] at hx
  unfold Oper.wpIn
  refine ⟨?_,?_⟩
  ·simp [Oper.about,ho,resolve,Target.leads,Sem.run_pure]
  ·rw [Oper.semAt_plain F _ _ (by rw [ho];intro c hc';cases hc')]
   simp [execOp,ho,resolve,invoke,builtin,hs,hx,hrun,Result.andThen]
   exact hK' _ _ hh
 ·by_cases hm0:m=[]
  ·have hsn:=hm.resolve_left fun h=>h hm0
   cases hsn
  ·have h0:=List.length_pos_iff.2 hm0
   refine wpListIn_plain hgd fun K hK' => ?_
   obtain ⟨g,cap',w',hrun,h2,h3',h4,h5⟩:=run_append_lies (P:=Tryz.prog) w 23 o.type 0 5 i0 (.int .u8 0) 1 1 Tryz.underlying23 hi hz0 hz1 hz2 rfl (by decide) v l.length (Lib.byteCells l) hown ⟨b,off,none⟩ (Lib.byteCells m).length cap (Lib.byteCells m) (by simp)
    (fun j u hu=>by rw [add_at];exact hc j u hu) (byteCells_one m) (by rw [byteCells_len];omega) (by rw [byteCells_len];unfold maxLen;omega) (by rw [byteCells_len];omega) (Nat.zero_le _) w.heap.size rfl
   have hh:=h _ w' (by
    unfold OwnB
    rw [List.length_append,byteCells_append]
    rw [byteCells_len] at h2
    exact h2) ⟨h3',fun k hk=>by
     simp only [Value.ownBlock,Option.some.injEq] at hk
     subst hk
     rcases h4 with h | h
     ·exact .inl h
     ·exact .inr (Nat.le_of_eq h.symm)⟩
   unfold Oper.wpIn
   refine ⟨?_,?_⟩
   ·simp [Oper.about,ho,resolve,Target.leads,Sem.run_pure]
   ·rw [Oper.semAt_plain F _ _ (by rw [ho];intro c hc';cases hc')]
    rw [byteCells_len] at hrun
    rw [byteCells_len] at hx
    simp [execOp,ho,resolve,invoke,builtin,hs,hx,hrun,Result.andThen]
    exact hK' _ _ hh
end Go.Proofs.YtdijhifdjbnkfaaGreat.GB
namespace Go.Proofs.YtdijhifdjbnkfaaGreat.EV
open Go Go.RowKit Go.Proofs.YtdijhifdjbnkfaaGreat.MM Go.Proofs.YtdijhifdjbnkfaaGreat.EM Go.Proofs.YtdijhifdjbnkfaaGreat.VM
theorem num_ok {m:Nat} {l:List UInt8} (o:Bool) (h:(getL l).2.2=0) (h2:(getL l).1≤m):numSt m l o=((getL l).1,l.drop (getL l).2.1,o):=by
 unfold numSt VG.restL
 rw [if_pos ⟨h,h2⟩,if_pos h]
theorem num_no {m:Nat} {l:List UInt8} (o:Bool) (h:(getL l).2.2≠0∨m<(getL l).1):numSt m l o=(0,[],true):=by
 unfold numSt
 rw [if_neg (fun hc=>h.elim (fun h=>h hc.1) (fun h=>by omega))]
theorem num_le (m:Nat) (l:List UInt8) (o:Bool):(numSt m l o).1≤m:=by
 unfold numSt
 split
 ·rename_i h;exact h.2
 ·exact Nat.zero_le _
theorem num_odd (m:Nat) (l:List UInt8):(numSt m l true).2.2=true:=by
 unfold numSt
 split<;>rfl
theorem tim_ok {l:List UInt8} (o:Bool) (h:(getI l).2.2=0):timSt l o=((getI l).1,l.drop (getI l).2.1,o):=by
 unfold timSt VG.restL
 have h':(getL l).2.2=0:=h
 rw [if_pos h',h]
 simp [getI]
theorem tim_no {l:List UInt8} (o:Bool) (h:(getI l).2.2≠0):(timSt l o).2.2=true:=by
 unfold timSt
 have:((getI l).2.2 != 0)=true:=by rw [bne_iff_ne];exact h
 simp [this]
theorem txt_ok {m:Int} {l:List UInt8} (o:Bool) (h:(getT l m).2.2=0):txtSt m l o=((getT l m).1,l.drop (getT l m).2.1,o):=by
 unfold txtSt VG.restT
 rw [if_pos h,h]
 simp
theorem txt_no {m:Int} {l:List UInt8} (o:Bool) (h:(getT l m).2.2≠0):(txtSt m l o).2.2=true:=by
 unfold txtSt
 have:((getT l m).2.2 != 0)=true:=by rw [bne_iff_ne];exact h
 simp [this]
theorem txt_odd (m:Int) (l:List UInt8):(txtSt m l true).2.2=true:=by unfold txtSt;simp
abbrev FSt:=List Fld×List UInt8×Bool
def stepF (s:FSt):FSt :=
 (s.1++[((txtSt 32 s.2.1 s.2.2).1,(txtSt 4096 (txtSt 32 s.2.1 s.2.2).2.1 (txtSt 32 s.2.1 s.2.2).2.2).1)],(txtSt 4096 (txtSt 32 s.2.1 s.2.2).2.1 (txtSt 32 s.2.1 s.2.2).2.2).2.1,(txtSt 4096 (txtSt 32 s.2.1 s.2.2).2.1 (txtSt 32 s.2.1 s.2.2).2.2).2.2)
def fldsN:Nat→FSt→FSt
 | 0,s=>s
 | k+1,s=>stepF (fldsN k s)
theorem fldsN_front:∀ (k:Nat) (s:FSt),fldsN (k+1) s=fldsN k (stepF s)
 | 0,s=>rfl
 | k+1,s=>by rw [fldsN,fldsN_front k s,← fldsN]
theorem stepF_odd {s:FSt} (h:s.2.2=true):(stepF s).2.2=true:=by
 unfold stepF
 rw [h]
 have:=txt_odd 32 s.2.1
 rw [this]
 exact txt_odd _ _
theorem fldsN_odd:∀ (k:Nat) {s:FSt},s.2.2=true→(fldsN k s).2.2=true
 | 0,_,h=>h
 | k+1,_,h=>stepF_odd (fldsN_odd k h)
theorem fldsN_len:∀ (k:Nat) (s:FSt),(fldsN k s).1.length=s.1.length+k
 | 0,s=>rfl
 | k+1,s=>by rw [fldsN];unfold stepF;simp [fldsN_len k s];omega
theorem flds_some:∀ (k:Nat) (acc:List Fld) (l:List UInt8) (o:Bool) (fs:List Fld) (r:List UInt8),getFa k acc l=some (fs,r)→fldsN k (acc,l,o)=(fs,r,o)
 | 0,acc,l,o,fs,r,h=>by
   rw [getFa] at h
   simp only [Option.some.injEq,Prod.mk.injEq] at h
   rw [fldsN,h.1,h.2]
 | k+1,acc,l,o,fs,r,h=>by
   rw [getFa] at h
   split at h
   ·cases h
   ·rename_i hn
    have h1:(getT l 32).2.2=0:=Classical.byContradiction fun hc=>hn (.inl hc)
    have h2:(getT (l.drop (getT l 32).2.1) 4096).2.2=0:=Classical.byContradiction fun hc=>hn (.inr hc)
    rw [fldsN_front]
    have e:stepF (acc,l,o)=(acc++[((getT l 32).1,(getT (l.drop (getT l 32).2.1) 4096).1)],(l.drop (getT l 32).2.1).drop (getT (l.drop (getT l 32).2.1) 4096).2.1,o):=by
     unfold stepF
     dsimp only
     rw [txt_ok o h1]
     dsimp only
     rw [txt_ok o h2]
    rw [e]
    exact flds_some k _ _ _ _ _ h
theorem flds_none:∀ (k:Nat) (acc:List Fld) (l:List UInt8) (o:Bool),getFa k acc l=none→(fldsN k (acc,l,o)).2.2=true
 | 0,acc,l,o,h=>by rw [getFa] at h;cases h
 | k+1,acc,l,o,h=>by
   rw [getFa] at h
   rw [fldsN_front]
   by_cases h1:(getT l 32).2.2=0
   ·by_cases h2:(getT (l.drop (getT l 32).2.1) 4096).2.2=0
    ·rw [if_neg (fun hc=>hc.elim (fun h=>h h1) (fun h=>h h2))] at h
     have e:stepF (acc,l,o)=(acc++[((getT l 32).1,(getT (l.drop (getT l 32).2.1) 4096).1)],(l.drop (getT l 32).2.1).drop (getT (l.drop (getT l 32).2.1) 4096).2.1,o):=by
      unfold stepF
      dsimp only
      rw [txt_ok o h1]
      dsimp only
      rw [txt_ok o h2]
     rw [e]
     exact flds_none k _ _ _ h
    ·refine fldsN_odd k ?_
     unfold stepF
     dsimp only
     rw [txt_ok o h1]
     dsimp only
     exact txt_no o h2
   ·refine fldsN_odd k ?_
    unfold stepF
    dsimp only
    rw [txt_no o h1]
    exact txt_odd _ _
def evSt (l:List UInt8) (o:Bool):Ev×List UInt8×Bool :=
 (((timSt l o).1,(fldsN (numSt 16 (timSt l o).2.1 (timSt l o).2.2).1 ([],(numSt 16 (timSt l o).2.1 (timSt l o).2.2).2.1,(numSt 16 (timSt l o).2.1 (timSt l o).2.2).2.2)).1),
   (fldsN (numSt 16 (timSt l o).2.1 (timSt l o).2.2).1 ([],(numSt 16 (timSt l o).2.1 (timSt l o).2.2).2.1,(numSt 16 (timSt l o).2.1 (timSt l o).2.2).2.2)).2.1,
   (fldsN (numSt 16 (timSt l o).2.1 (timSt l o).2.2).1 ([],(numSt 16 (timSt l o).2.1 (timSt l o).2.2).2.1,(numSt 16 (timSt l o).2.1 (timSt l o).2.2).2.2)).2.2)
theorem evSt_len (l:List UInt8) (o:Bool):(evSt l o).1.2.length≤16:=by
 unfold evSt
 dsimp only
 rw [fldsN_len]
 have:=num_le 16 (timSt l o).2.1 (timSt l o).2.2
 simp only [List.length_nil]
 omega
theorem ev_some {l r:List UInt8} {e:Ev} (o:Bool) (h:rdE l=some (e,r)):evSt l o=(e,r,o):=by
 unfold rdE at h
 split at h
 ·cases h
 ·rename_i h1
  split at h
  ·cases h
  ·rename_i h2
   have h1:(getI l).2.2=0:=by simpa using h1
   have h3:(getL (l.drop (getI l).2.1)).2.2=0:=Classical.byContradiction fun hc=>h2 (.inl hc)
   have h4:(getL (l.drop (getI l).2.1)).1≤16:=Nat.not_lt.1 fun hc=>h2 (.inr hc)
   cases hg:getFa (getL (l.drop (getI l).2.1)).1 [] ((l.drop (getI l).2.1).drop (getL (l.drop (getI l).2.1)).2.1) with
   | none=>rw [hg] at h;cases h
   | some p =>
     obtain ⟨fs,r2⟩:=p
     rw [hg] at h
     simp only [Option.some.injEq,Prod.mk.injEq] at h
     obtain ⟨rfl,rfl⟩:=h
     unfold evSt
     rw [tim_ok o h1]
     dsimp only
     rw [num_ok o h3 h4]
     dsimp only
     rw [flds_some _ _ _ o _ _ hg]
theorem ev_none {l:List UInt8} (o:Bool) (h:rdE l=none):(evSt l o).2.2=true:=by
 unfold evSt
 dsimp only
 by_cases h1:(getI l).2.2=0
 ·rw [tim_ok o h1]
  dsimp only
  by_cases h2:(getL (l.drop (getI l).2.1)).2.2≠0∨16<(getL (l.drop (getI l).2.1)).1
  ·rw [num_no o h2]
   exact fldsN_odd _ rfl
  ·have h3:(getL (l.drop (getI l).2.1)).2.2=0:=Classical.byContradiction fun hc=>h2 (.inl hc)
   have h4:(getL (l.drop (getI l).2.1)).1≤16:=Nat.not_lt.1 fun hc=>h2 (.inr hc)
   rw [num_ok o h3 h4]
   dsimp only
   unfold rdE at h
   rw [if_neg (by simpa using h1),if_neg h2] at h
   cases hg:getFa (getL (l.drop (getI l).2.1)).1 [] ((l.drop (getI l).2.1).drop (getL (l.drop (getI l).2.1)).2.1) with
   | none=>exact flds_none _ _ _ _ hg
   | some p=>rw [hg] at h;cases h
 ·refine fldsN_odd _ ?_
  dsimp only
  rw [tim_no o h1]
  exact num_odd _ _
end Go.Proofs.YtdijhifdjbnkfaaGreat.EV
