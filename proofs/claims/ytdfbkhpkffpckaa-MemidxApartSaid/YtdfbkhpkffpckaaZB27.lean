import Derived.Test.YtdfbkhpkffpckaaZB26
import Derived.Test.YtdfbkhpkffpckaaZB16
set_option maxRecDepth 100000
set_option maxHeartbeats 8000000
set_option linter.unusedVariables false
set_option linter.unusedSimpArgs false
namespace Go.Proofs.Ytdfbkhpkffpckaa.EV
open Go Go.RowKit MM EM SM
def NoS:Nat→Prop:=fun _=>False
abbrev OwnZ (w:World) (v:Value) (zs:List Int):Prop:=OwnS cInt 3 NoS w v zs
theorem OwnZ.of {S:Nat→Prop} {w:World} {v:Value} {zs:List Int} (h:OwnS cInt 3 (fun b=>NoS b∧S b) w v zs):OwnZ w v zs:=h.weak (fun _ _ h=>h.1) (fun _ _ h=>h)
theorem OwnZ.ints {w:World} {v:Value} {zs:List Int} (h:OwnZ w v zs) {g:Nat} (hg:v.ownBlock=some g):IntsOf w g:=by
 obtain ⟨raw,h1,_⟩:=h
 exact (own_cells h1 hg).2
theorem OwnZ.keep {T:Nat→Prop} {w w':World} {v:Value} {zs:List Int} (h:OwnZ w v zs) (hk:Kep T w w') (hg:∀ g,v.ownBlock=some g→T g):OwnZ w' v zs:=OwnS.keep h hk (fun _ _ h=>h.elim) hg
theorem OwnZ.nil_ (w:World):OwnZ w (.slice none 0 0) []:=OwnS.nil_ _ _ _
theorem zeroInts (w:World):(zeroValue 27).run Try.prog w=.ok (.slice none 0 0) w:=by kernel_rfl
theorem addP_len {α:Type}:∀ {l:List (EM.Tr α)} (s:List UInt8) (p:α),Rising l→(∀ t∈l,t.2≠[])→(addP l s p).length=if posOf l s=[] then l.length+1 else l.length
 | [],s,p,_,_=>by simp [addP,posOf]
 | t::r,s,p,h,hn=>by
   have hr:Rising r:=(List.pairwise_cons.1 h).2
   have ih:=addP_len (l:=r) s p hr fun u hu=>hn u (by simp [hu])
   rw [addP]
   by_cases h1:lessL t.1 s=true
   ·rw [if_pos h1,List.length_cons,ih,posOf,if_neg (lessL_ne h1),List.length_cons]
    split<;>rfl
   ·rw [if_neg h1]
    by_cases h2:t.1=s
    ·rw [if_pos h2,posOf,if_pos h2,if_neg (hn t (by simp))];rfl
    ·rw [if_neg h2,posOf,if_neg h2]
     have hs:lessL s t.1=true:=lessL_total (by simpa using h1) h2
     have:posOf r s=[]:=posOf_none fun u hu e=>by
      have h3:lessL t.1 u.1=true:=(List.pairwise_cons.1 h).1 u hu
      rw [e] at h3
      exact h1 h3
     rw [if_pos this];rfl
theorem foldP_len_le {α:Type}:∀ (qs:List (List UInt8×α)) (l:List (EM.Tr α)),(foldP l qs).length≤l.length+qs.length
 | [],l=>by simp [foldP]
 | q::qs,l=>by
   have h1:=foldP_len_le qs (addP l q.1 q.2)
   have h2:=addP_len_le l q.1 q.2
   have e:foldP l (q::qs)=foldP (addP l q.1 q.2) qs:=rfl
   rw [e,List.length_cons]
   omega
theorem posOf_len_le {α:Type} (qs:List (List UInt8×α)) (s:List UInt8):(posOf (foldP ([]:List (EM.Tr α)) qs) s).length≤qs.length:=by
 rw [posOf_fold qs s List.Pairwise.nil,posOf,List.nil_append,List.length_map]
 exact List.length_filter_le _ _
structure Plc (B mb:Nat) (T:List Trm) (F:List UInt8→Option Value) (w:World):Prop where
 map:MapV w mb T.length F
 lo:B≤mb
 none:∀ s,F s=none→posOf T s=[]
 own:∀ s v,F s=some v→OwnZ w v (posOf T s)∧posOf T s≠[]∧∀ g,v.ownBlock=some g→B≤g
 apart:∀ s t u v g,F s=some u→F t=some v→u.ownBlock=some g→v.ownBlock=some g→s=t
 rise:Rising T
 ne:∀ t∈T,t.2≠[]
theorem Plc.keep {S:Nat→Prop} {B mb:Nat} {T:List Trm} {F:List UInt8→Option Value} {w w':World} (h:Plc B mb T F w) (hk:Kep S w w') (hm:S mb) (hS:∀ b,IntsOf w b→S b):Plc B mb T F w' :=
 ⟨h.map.kep hk hm,h.lo,h.none,fun s v hv=>⟨(h.own s v hv).1.keep hk fun g hg=>hS g ((h.own s v hv).1.ints hg),(h.own s v hv).2⟩,h.apart,h.rise,h.ne⟩
theorem Plc.below {B mb:Nat} {T:List Trm} {F:List UInt8→Option Value} {w w':World} (h:Plc B mb T F w) (hb:Below w.heap.size w w'):Plc B mb T F w':=h.keep (kep_below (fun _=>True) hb) trivial fun _ _=>trivial
theorem Plc.made (w:World) (B:Nat) (hB:B≤w.heap.size):Plc B w.heap.size [] (fun _=>Option.none) (w.alloc (.map #[] 0)) :=
 ⟨MapV.made w,hB,fun _ _=>rfl,fun _ _ h=>(by cases h),fun _ _ _ _ _ h=>(by cases h),List.Pairwise.nil,fun _ h=>(by cases h)⟩
theorem Plc.not_ints {B mb:Nat} {T:List Trm} {F:List UInt8→Option Value} {w:World} (h:Plc B mb T F w):¬ IntsOf w mb:=fun ⟨cur,fr,hc⟩=>by
 obtain ⟨es,c,hm⟩:=h.map.obj
 rw [hm] at hc
 cases hc
def found (F:List UInt8→Option Value) (s:List UInt8):Value:=(F s).getD (.slice Option.none 0 0)
theorem Plc.look {B mb:Nat} {T:List Trm} {F:List UInt8→Option Value} {w:World} (h:Plc B mb T F w) (s:List UInt8) (hs:s.length≤maxLen):(Instr.lookup 87 (.map (some mb)) (.string ⟨s.toArray⟩) false).run Try.prog w=.ok (found F s) w :=
 MapV.look Try.underlying87 zeroInts h.map s hs
theorem Plc.found {B mb:Nat} {T:List Trm} {F:List UInt8→Option Value} {w:World} (h:Plc B mb T F w) (s:List UInt8):OwnZ w (found F s) (posOf T s)∧∀ g,(EV.found F s).ownBlock=some g→B≤g∧g≠mb∧IntsOf w g∧g<w.heap.size:=by
 unfold EV.found
 cases hf:F s with
 | none =>
   rw [h.none s hf]
   exact ⟨OwnZ.nil_ w,fun g hg=>by cases hg⟩
 | some v =>
   obtain ⟨h1,_,h2⟩:=h.own s v hf
   exact ⟨h1,fun g hg=>⟨h2 g hg,fun e=>h.not_ints (e▸h1.ints hg),h1.ints hg,(OwnS.lt h1 g hg).1⟩⟩
theorem Plc.some_iff {B mb:Nat} {T:List Trm} {F:List UInt8→Option Value} {w:World} (h:Plc B mb T F w) (s:List UInt8):(F s).isSome=true↔posOf T s≠[]:=by
 cases hf:F s with
 | none=>simp [h.none s hf]
 | some v=>simp [(h.own s v hf).2.1]
theorem Plc.put {B mb:Nat} {T:List Trm} {F:List UInt8→Option Value} {w w1 w2:World} {s:List UInt8} {p:Int} {v:Value} (h:Plc B mb T F w) (hBw:B≤w.heap.size)
  (hk1:Kep (fun k=>(EV.found F s).ownBlock≠some k) w w1) (ho:OwnZ w1 v (posOf T s++[p])) (hg:∀ g,v.ownBlock=some g→(EV.found F s).ownBlock=some g∨w.heap.size≤g)
  (hm:MapV w2 mb (if (F s).isSome then T.length else T.length+1) (fun k=>if k=s then some v else F k)) (hk2:Kep (fun k=>k≠mb) w1 w2):Plc B mb (addP T s p) (fun k=>if k=s then some v else F k) w2:=by
 have hf:=h.found s
 have hlen:(if (F s).isSome then T.length else T.length+1)=(addP T s p).length:=by
  rw [addP_len s p h.rise h.ne]
  by_cases hq:posOf T s=[]
  ·rw [if_pos hq,if_neg (fun e=>(h.some_iff s).1 e hq)]
  ·rw [if_neg hq,if_pos ((h.some_iff s).2 hq)]
 rw [hlen] at hm
 have hvB:∀ g,v.ownBlock=some g→B≤g:=fun g hv=>by
  rcases hg g hv with h1 | h1
  ·exact (hf.2 g h1).1
  ·omega
 have hvm:∀ g,v.ownBlock=some g→g≠mb:=fun g hv=>by
  rcases hg g hv with h1 | h1
  ·exact (hf.2 g h1).2.1
  ·have:=h.map.lt;omega
 have hoth:∀ t u,t≠s→F t=some u→∀ g,u.ownBlock=some g→(EV.found F s).ownBlock≠some g:=fun t u hne hu g hg e=>by
  unfold EV.found at e
  cases hF:F s with
  | none=>rw [hF] at e;cases e
  | some u2 =>
    rw [hF] at e
    exact hne (h.apart t s u u2 g hu hF hg e)
 refine ⟨hm,h.lo,fun t ht => ?_,fun t u hu => ?_,fun t t' u u' g hu hu' h1 h2 => ?_,addP_rising s p h.rise,addP_ne s p h.ne⟩
 ·rw [posOf_add s p t h.rise]
  by_cases e:t=s
  ·rw [if_pos e] at ht;cases ht
  ·rw [if_neg e] at ht ⊢
   exact h.none t ht
 ·rw [posOf_add s p t h.rise]
  by_cases e:t=s
  ·rw [if_pos e] at hu ⊢
   obtain rfl:=Option.some.inj hu
   exact ⟨ho.keep hk2 hvm,by simp,hvB⟩
  ·rw [if_neg e] at hu ⊢
   obtain ⟨h1,h2,h3⟩:=h.own t u hu
   refine ⟨(h1.keep hk1 (hoth t u e hu)).keep hk2 fun g hg e2 => ?_,h2,h3⟩
   exact h.not_ints (e2▸h1.ints hg)
 ·by_cases e:t=s
  ·by_cases e':t'=s
   ·rw [e,e']
   ·rw [if_pos e] at hu
    rw [if_neg e'] at hu'
    obtain rfl:=Option.some.inj hu
    rcases hg g h1 with h3 | h3
    ·exact absurd h3 (hoth t' u' e' hu' g h2)
    ·have:=(OwnS.lt (h.own t' u' hu').1 g h2).1
     omega
  ·by_cases e':t'=s
   ·rw [if_neg e] at hu
    rw [if_pos e'] at hu'
    obtain rfl:=Option.some.inj hu'
    rcases hg g h2 with h3 | h3
    ·exact absurd h3 (hoth t u e hu g h1)
    ·have:=(OwnS.lt (h.own t u hu).1 g h1).1
     omega
   ·rw [if_neg e] at hu
    rw [if_neg e'] at hu'
    exact h.apart t t' u u' g hu hu' h1 h2
end Go.Proofs.Ytdfbkhpkffpckaa.EV
namespace Go.Proofs.Ytdfbkhpkffpckaa.SG
open Go Go.RowKit MM EM SM
open EV (addP_len)
abbrev PostD:=Int×List Int
theorem postE:Elem postC Try.prog 22 69 32:=⟨Try.underlying22,by
 have h:(Try.prog.info? 69).map (fun i=>(i.zero,i.size,i.bytes))=some (some (.agg #[.int .i64 0,.slice none 0 0]),2,32):=by kernel_rfl
 obtain ⟨i,h1,h2,h3,h4⟩:=info_parts h
 exact ⟨i,_,h1,h2,h3,h4,rfl⟩⟩
theorem post_on {S:Nat→Prop} {w:World} {cs:List Value} {p:PostD}:postC.on S w cs p↔∃ v,cs=[.int .i64 p.1,v]∧ROn cInt S w v p.2:=by
 constructor
 ·rintro ⟨x,y,rfl,hx,v,hy,hr⟩
  have hx:x=[.int .i64 p.1]:=hx
  exact ⟨v,by rw [hx,hy];rfl,hr⟩
 ·rintro ⟨v,rfl,hr⟩
  exact ⟨[_],[v],rfl,rfl,v,rfl,hr⟩
theorem zeroPosts (w:World):(zeroValue 22).run Try.prog w=.ok (.slice none 0 0) w:=by kernel_rfl
def found (F:List UInt8→Option Value) (s:List UInt8):Value:=(F s).getD (.slice Option.none 0 0)
structure Tab (B mb:Nat) (X:Nat→Prop) (T:List (EM.Tr PostD)) (F:List UInt8→Option Value) (w:World):Prop where
 map:MapV w mb T.length F
 lo:B≤mb
 hi:∀ b,X b→b<w.heap.size∧b≠mb
 none:∀ s,F s=none→posOf T s=[]
 own:∀ s v,F s=some v→OwnS postC 69 X w v (posOf T s)∧posOf T s≠[]∧∀ g,v.ownBlock=some g→B≤g∧g≠mb
 apart:∀ s t u v g,F s=some u→F t=some v→u.ownBlock=some g→v.ownBlock=some g→s=t
 rise:Rising T
 ne:∀ t∈T,t.2≠[]
variable {B mb : Nat} {X : Nat → Prop} {T : List (EM.Tr PostD)} {F : List UInt8 → Option Value} {w w' : World}
theorem Tab.keep {S:Nat→Prop} (h:Tab B mb X T F w) (hk:Kep S w w') (hS:∀ b,B≤b→S b) (hX:∀ b,X b→S b):Tab B mb X T F w' :=
 ⟨h.map.kep hk (hS mb h.lo),h.lo,fun b hb=>⟨Nat.lt_of_lt_of_le (h.hi b hb).1 hk.size,(h.hi b hb).2⟩,h.none,fun s v hv=>⟨(h.own s v hv).1.keep hk (fun b _ hb=>hX b hb) fun g hg=>hS g ((h.own s v hv).2.2 g hg).1,(h.own s v hv).2⟩,h.apart,h.rise,h.ne⟩
theorem Tab.below (h:Tab B mb X T F w) (hb:Below w.heap.size w w'):Tab B mb X T F w':=h.keep (kep_below (fun _=>True) hb) (fun _ _=>trivial) fun _ _=>trivial
theorem Tab.made (w:World) (B:Nat) (hB:B≤w.heap.size):Tab B w.heap.size (fun _=>False) [] (fun _=>Option.none) (w.alloc (.map #[] 0)) :=
 ⟨MapV.made w,hB,fun _ h=>h.elim,fun _ _=>rfl,fun _ _ h=>(by cases h),fun _ _ _ _ _ h=>(by cases h),List.Pairwise.nil,fun _ h=>(by cases h)⟩
theorem Tab.more (h:Tab B mb X T F w) (hb:Below w.heap.size w w'):Tab B mb (fun b=>X b∨(w.heap.size≤b∧b<w'.heap.size)) T F w':=by
 have h':=h.below hb
 refine ⟨h'.map,h'.lo,fun b hb' => ?_,h'.none,fun s v hv=>⟨?_,(h'.own s v hv).2⟩,h'.apart,h'.rise,h'.ne⟩
 ·rcases hb' with hb' | hb'
  ·exact h'.hi b hb'
  ·exact ⟨hb'.2,fun e=>by have:=h.map.lt;omega⟩
 ·refine OwnS.weak (h'.own s v hv).1 (fun b _ hx=>.inl hx) fun g hg hx => ?_
  have h1:=OwnS.lt (h.own s v hv).1 g hg
  rcases hx with hx | hx
  ·exact h1.2 hx
  ·omega
theorem Tab.found (h:Tab B mb X T F w) (s:List UInt8):OwnS postC 69 X w (SG.found F s) (posOf T s)∧∀ g,(SG.found F s).ownBlock=some g→B≤g∧g≠mb∧g<w.heap.size:=by
 unfold SG.found
 cases hf:F s with
 | none =>
   rw [h.none s hf]
   exact ⟨OwnS.nil_ _ _ w,fun g hg=>by cases hg⟩
 | some v =>
   obtain ⟨h1,_,h2⟩:=h.own s v hf
   exact ⟨h1,fun g hg=>⟨(h2 g hg).1,(h2 g hg).2,(OwnS.lt h1 g hg).1⟩⟩
theorem Tab.some_iff (h:Tab B mb X T F w) (s:List UInt8):(F s).isSome=true↔posOf T s≠[]:=by
 cases hf:F s with
 | none=>simp [h.none s hf]
 | some v=>simp [(h.own s v hf).2.1]
theorem Tab.put {w1 w2:World} {s:List UInt8} {p:PostD} {v:Value} (h:Tab B mb X T F w) (hBw:B≤w.heap.size)
  (hk1:Kep (fun k=>(SG.found F s).ownBlock≠some k) w w1) (ho:OwnS postC 69 X w1 v (posOf T s++[p])) (hg:∀ g,v.ownBlock=some g→(SG.found F s).ownBlock=some g∨w.heap.size≤g)
  (hm:MapV w2 mb (if (F s).isSome then T.length else T.length+1) (fun k=>if k=s then some v else F k)) (hk2:Kep (fun k=>k≠mb) w1 w2):Tab B mb X (addP T s p) (fun k=>if k=s then some v else F k) w2:=by
 have hf:=h.found s
 have hlen:(if (F s).isSome then T.length else T.length+1)=(addP T s p).length:=by
  rw [addP_len s p h.rise h.ne]
  by_cases hq:posOf T s=[]
  ·rw [if_pos hq,if_neg (fun e=>(h.some_iff s).1 e hq)]
  ·rw [if_neg hq,if_pos ((h.some_iff s).2 hq)]
 rw [hlen] at hm
 have hvB:∀ g,v.ownBlock=some g→B≤g∧g≠mb:=fun g hv=>by
  rcases hg g hv with h1 | h1
  ·exact ⟨(hf.2 g h1).1,(hf.2 g h1).2.1⟩
  ·have:=h.map.lt;exact ⟨by omega,by omega⟩
 have hoth:∀ t u,t≠s→F t=some u→∀ g,u.ownBlock=some g→(SG.found F s).ownBlock≠some g:=fun t u hne hu g hg e=>by
  unfold SG.found at e
  cases hF:F s with
  | none=>rw [hF] at e;cases e
  | some u2 =>
    rw [hF] at e
    exact hne (h.apart t s u u2 g hu hF hg e)
 have hX1:∀ b,X b→(SG.found F s).ownBlock≠some b:=fun b hb e=>(OwnS.lt hf.1 b e).2 hb
 refine ⟨hm,h.lo,fun b hb=>⟨Nat.lt_of_lt_of_le (h.hi b hb).1 (Nat.le_trans hk1.size hk2.size),(h.hi b hb).2⟩,fun t ht => ?_,fun t u hu => ?_,fun t t' u u' g hu hu' h1 h2 => ?_,addP_rising s p h.rise,addP_ne s p h.ne⟩
 ·rw [posOf_add s p t h.rise]
  by_cases e:t=s
  ·rw [if_pos e] at ht;cases ht
  ·rw [if_neg e] at ht ⊢
   exact h.none t ht
 ·rw [posOf_add s p t h.rise]
  by_cases e:t=s
  ·rw [if_pos e] at hu ⊢
   obtain rfl:=Option.some.inj hu
   exact ⟨ho.keep hk2 (fun b _ hb=>(h.hi b hb).2) fun g hg=>(hvB g hg).2,by simp,hvB⟩
  ·rw [if_neg e] at hu ⊢
   obtain ⟨h1,h2,h3⟩:=h.own t u hu
   exact ⟨(h1.keep hk1 (fun b _ hb=>hX1 b hb) (hoth t u e hu)).keep hk2 (fun b _ hb=>(h.hi b hb).2) fun g hg=>(h3 g hg).2,h2,h3⟩
 ·by_cases e:t=s
  ·by_cases e':t'=s
   ·rw [e,e']
   ·rw [if_pos e] at hu
    rw [if_neg e'] at hu'
    obtain rfl:=Option.some.inj hu
    rcases hg g h1 with h3 | h3
    ·exact absurd h3 (hoth t' u' e' hu' g h2)
    ·have:=(OwnS.lt (h.own t' u' hu').1 g h2).1
     omega
  ·by_cases e':t'=s
   ·rw [if_neg e] at hu
    rw [if_pos e'] at hu'
    obtain rfl:=Option.some.inj hu'
    rcases hg g h2 with h3 | h3
    ·exact absurd h3 (hoth t u e hu g h1)
    ·have:=(OwnS.lt (h.own t u hu).1 g h1).1
     omega
   ·rw [if_neg e] at hu
    rw [if_neg e'] at hu'
    exact h.apart t t' u u' g hu hu' h1 h2
end Go.Proofs.Ytdfbkhpkffpckaa.SG
