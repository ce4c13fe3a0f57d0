import Derived.Test.YtidhgicajlaafaaGreatZD12
import Derived.Lib.SliceRun
set_option maxRecDepth 100000
set_option maxHeartbeats 8000000
set_option linter.unusedVariables false
set_option linter.unusedSimpArgs false
namespace Go.Proofs.YtidhgicajlaafaaGreat.SG
open Go Go.RowKit MM EM SM
open EV (addP_len)
abbrev PostD:=Int×List Int
theorem postE:Elem postC Tryz.prog 33 75 32:=⟨Tryz.underlying33,by
 have h:(Tryz.prog.info? 75).map (fun i=>(i.zero,i.size,i.bytes))=some (some (.agg #[.int .i64 0,.slice none 0 0]),2,32):=by kernel_rfl
 obtain ⟨i,h1,h2,h3,h4⟩:=info_parts h
 exact ⟨i,_,h1,h2,h3,h4,rfl⟩⟩
theorem post_on {S:Nat→Prop} {w:World} {cs:List Value} {p:PostD}:postC.on S w cs p↔∃ v,cs=[.int .i64 p.1,v]∧ROn cInt S w v p.2:=by
 constructor
 ·rintro ⟨x,y,rfl,hx,v,hy,hr⟩
  have hx:x=[.int .i64 p.1]:=hx
  exact ⟨v,by rw [hx,hy];rfl,hr⟩
 ·rintro ⟨v,rfl,hr⟩
  exact ⟨[_],[v],rfl,rfl,v,rfl,hr⟩
theorem zeroPosts (w:World):(zeroValue 33).run Tryz.prog w=.ok (.slice none 0 0) w:=by kernel_rfl
def found (F:List UInt8→Option Value) (s:List UInt8):Value:=(F s).getD (.slice Option.none 0 0)
structure Tab (B mb:Nat) (X:Nat→Prop) (T:List (EM.Tr PostD)) (F:List UInt8→Option Value) (w:World):Prop where
 map:MapV w mb T.length F
 lo:B≤mb
 hi:∀ b,X b→b<w.heap.size∧b≠mb
 none:∀ s,F s=none→posOf T s=[]
 own:∀ s v,F s=some v→OwnS postC 75 X w v (posOf T s)∧posOf T s≠[]∧∀ g,v.ownBlock=some g→B≤g∧g≠mb
 apart:∀ s t u v g,F s=some u→F t=some v→u.ownBlock=some g→v.ownBlock=some g→s=t
 rise:Rising T
 ne:∀ t∈T,t.2≠[]
variable {B mb : Nat} {X : Nat → Prop} {T : List (EM.Tr PostD)} {F : List UInt8 → Option Value} {w w' : World}
theorem Tab.keep {S:Nat→Prop} (h:Tab B mb X T F w) (hk:Kep S w w') (hS:∀ b,B≤b→S b) (hX:∀ b,X b→S b):Tab B mb X T F w' :=
 ⟨h.map.kep hk (hS mb h.lo),h.lo,fun b hb=>⟨Nat.lt_of_lt_of_le (h.hi b hb).1 hk.size,(h.hi b hb).2⟩,h.none,fun s v hv=>⟨(h.own s v hv).1.keep hk (fun b _ hb=>hX b hb) fun g hg=>hS g ((h.own s v hv).2.2 g hg).1,(h.own s v hv).2⟩,h.apart,h.rise,h.ne⟩
theorem Tab.below (h:Tab B mb X T F w) (hb:Below w.heap.size w w'):Tab B mb X T F w':=h.keep (kep_below (fun _=>True) hb) (fun _ _=>trivial) fun _ _=>trivial
theorem Tab.made (w:World) (B:Nat) (hB:B≤w.heap.size):Tab B w.heap.size (fun _=>False) [] (fun _=>Option.none) (w.alloc (.map #[] 0)) :=
 ⟨MapV.made w,hB,fun _ h=>h.elim,fun _ _=>rfl,fun _ _ h=>(by cases h),fun _ _ _ _ _ h=>(by cases h),List.Pairwise.nil,fun _ h=>(by cases h)⟩
theorem Tab.more (h:Tab B mb X T F w) (hb:Below w.heap.size w w'):Tab B mb (fun b=>X b∨(w.heap.size≤b∧b<w'.heap.size)) T F w':=by
 have h':=h.below hb
 refine ⟨h'.map,h'.lo,fun b hb' => ?_,h'.none,fun s v hv=>⟨?_,(h'.own s v hv).2⟩,h'.apart,h'.rise,h'.ne⟩
 ·rcases hb' with hb' | hb'
  ·exact h'.hi b hb'
  ·exact ⟨hb'.2,fun e=>by have:=h.map.lt;omega⟩
 ·refine OwnS.weak (h'.own s v hv).1 (fun b _ hx=>.inl hx) fun g hg hx => ?_
  have h1:=OwnS.lt (h.own s v hv).1 g hg
  rcases hx with hx | hx
  ·exact h1.2 hx
  ·omega
theorem Tab.found (h:Tab B mb X T F w) (s:List UInt8):OwnS postC 75 X w (SG.found F s) (posOf T s)∧∀ g,(SG.found F s).ownBlock=some g→B≤g∧g≠mb∧g<w.heap.size:=by
 unfold SG.found
 cases hf:F s with
 | none =>
   rw [h.none s hf]
   exact ⟨OwnS.nil_ _ _ w,fun g hg=>by cases hg⟩
 | some v =>
   obtain ⟨h1,_,h2⟩:=h.own s v hf
   exact ⟨h1,fun g hg=>⟨(h2 g hg).1,(h2 g hg).2,(OwnS.lt h1 g hg).1⟩⟩
theorem Tab.some_iff (h:Tab B mb X T F w) (s:List UInt8):(F s).isSome=true↔posOf T s≠[]:=by
 cases hf:F s with
 | none=>simp [h.none s hf]
 | some v=>simp [(h.own s v hf).2.1]
theorem Tab.put {w1 w2:World} {s:List UInt8} {p:PostD} {v:Value} (h:Tab B mb X T F w) (hBw:B≤w.heap.size)
  (hk1:Kep (fun k=>(SG.found F s).ownBlock≠some k) w w1) (ho:OwnS postC 75 X w1 v (posOf T s++[p])) (hg:∀ g,v.ownBlock=some g→(SG.found F s).ownBlock=some g∨w.heap.size≤g)
  (hm:MapV w2 mb (if (F s).isSome then T.length else T.length+1) (fun k=>if k=s then some v else F k)) (hk2:Kep (fun k=>k≠mb) w1 w2):Tab B mb X (addP T s p) (fun k=>if k=s then some v else F k) w2:=by
 have hf:=h.found s
 have hlen:(if (F s).isSome then T.length else T.length+1)=(addP T s p).length:=by
  rw [addP_len s p h.rise h.ne]
  by_cases hq:posOf T s=[]
  ·rw [if_pos hq,if_neg (fun e=>(h.some_iff s).1 e hq)]
  ·rw [if_neg hq,if_pos ((h.some_iff s).2 hq)]
 rw [hlen] at hm
 have hvB:∀ g,v.ownBlock=some g→B≤g∧g≠mb:=fun g hv=>by
  rcases hg g hv with h1 | h1
  ·exact ⟨(hf.2 g h1).1,(hf.2 g h1).2.1⟩
  ·have:=h.map.lt;exact ⟨by omega,by omega⟩
 have hoth:∀ t u,t≠s→F t=some u→∀ g,u.ownBlock=some g→(SG.found F s).ownBlock≠some g:=fun t u hne hu g hg e=>by
  unfold SG.found at e
  cases hF:F s with
  | none=>rw [hF] at e;cases e
  | some u2 =>
    rw [hF] at e
    exact hne (h.apart t s u u2 g hu hF hg e)
 have hX1:∀ b,X b→(SG.found F s).ownBlock≠some b:=fun b hb e=>(OwnS.lt hf.1 b e).2 hb
 refine ⟨hm,h.lo,fun b hb=>⟨Nat.lt_of_lt_of_le (h.hi b hb).1 (Nat.le_trans hk1.size hk2.size),(h.hi b hb).2⟩,fun t ht => ?_,fun t u hu => ?_,fun t t' u u' g hu hu' h1 h2 => ?_,addP_rising s p h.rise,addP_ne s p h.ne⟩
 ·rw [posOf_add s p t h.rise]
  by_cases e:t=s
  ·rw [if_pos e] at ht;cases ht
  ·rw [if_neg e] at ht ⊢
   exact h.none t ht
 ·rw [posOf_add s p t h.rise]
  by_cases e:t=s
  ·rw [if_pos e] at hu ⊢
   obtain rfl:=Option.some.inj hu
   exact ⟨ho.keep hk2 (fun b _ hb=>(h.hi b hb).2) fun g hg=>(hvB g hg).2,by simp,hvB⟩
  ·rw [if_neg e] at hu ⊢
   obtain ⟨h1,h2,h3⟩:=h.own t u hu
   exact ⟨(h1.keep hk1 (fun b _ hb=>hX1 b hb) (hoth t u e hu)).keep hk2 (fun b _ hb=>(h.hi b hb).2) fun g hg=>(h3 g hg).2,h2,h3⟩
 ·by_cases e:t=s
  ·by_cases e':t'=s
   ·rw [e,e']
   ·rw [if_pos e] at hu
    rw [if_neg e'] at hu'
    obtain rfl:=Option.some.inj hu
    rcases hg g h1 with h3 | h3
    ·exact absurd h3 (hoth t' u' e' hu' g h2)
    ·have:=(OwnS.lt (h.own t' u' hu').1 g h2).1
     omega
  ·by_cases e':t'=s
   ·rw [if_neg e] at hu
    rw [if_pos e'] at hu'
    obtain rfl:=Option.some.inj hu'
    rcases hg g h2 with h3 | h3
    ·exact absurd h3 (hoth t u e hu g h1)
    ·have:=(OwnS.lt (h.own t u hu).1 g h1).1
     omega
   ·rw [if_neg e] at hu
    rw [if_neg e'] at hu'
    exact h.apart t t' u u' g hu hu' h1 h2
end Go.Proofs.YtidhgicajlaafaaGreat.SG
namespace Go.Proofs.YtidhgicajlaafaaGreat.MX
open Go Go.RowKit MM EM SM
open SG (PostD postC postE Tab found zeroPosts post_on)
open RM (pairsP rowsE termsE_ne)
variable {B mb : Nat} {X : Nat → Prop} {T : List (EM.Tr PostD)} {F : List UInt8 → Option Value} {w w' : World}
theorem tlook (h:Tab B mb X T F w) (s:List UInt8) (hs:s.length≤maxLen):(Instr.lookup 58 (.map (some mb)) (.string ⟨s.toArray⟩) false).run Tryz.prog w=.ok (found F s) w :=
 MapV.look Tryz.underlying58 zeroPosts h.map s hs
theorem tlen (h:Tab B mb X T F w) (ty:TypeId):(Builtin.len_ #[58] ty #[.map (some mb)]).run Tryz.prog w=.ok (.int .i64 (T.length:Int)) w:=MapV.len Tryz.underlying58 h.map ty
structure RowsU (U:Nat→Prop) (mb:Nat) (T:List (EM.Tr PostD)) (X:Nat→Prop) (F:List UInt8→Option Value) (w:World):Prop where
 tab:Tab 0 mb X T F w
 umb:U mb
 uown:∀ s v g,F s=some v→v.ownBlock=some g→U g
 ux:∀ b,X b→U b
theorem RowsU.keep {U S:Nat→Prop} (h:RowsU U mb T X F w) (hk:Kep S w w') (hS:∀ b,b<w.heap.size→U b→S b):RowsU U mb T X F w' :=
 ⟨⟨h.tab.map.kep hk (hS mb h.tab.map.lt h.umb),Nat.zero_le _,fun b hb=>⟨Nat.lt_of_lt_of_le (h.tab.hi b hb).1 hk.size,(h.tab.hi b hb).2⟩,h.tab.none,
   fun s v hv=>⟨OwnS.keep (h.tab.own s v hv).1 hk (fun b hb hx=>hS b hb (h.ux b hx)) fun g hg=>hS g (OwnS.lt (h.tab.own s v hv).1 g hg).1 (h.uown s v g hv hg),(h.tab.own s v hv).2⟩,h.tab.apart,h.tab.rise,h.tab.ne⟩,
  h.umb,h.uown,h.ux⟩
theorem RowsU.weak {U V:Nat→Prop} (h:RowsU U mb T X F w) (hV:∀ b,U b→V b):RowsU V mb T X F w:=⟨h.tab,hV _ h.umb,fun s v g h1 h2=>hV _ (h.uown s v g h1 h2),fun b hb=>hV b (h.ux b hb)⟩
def pairK (k:Nat) (T:List Trm):List (List UInt8×PostD):=T.map fun t=>(t.1,((k:Int),t.2))
theorem pairK_len (k:Nat) (T:List Trm):(pairK k T).length=T.length:=by unfold pairK;simp
theorem pairK_next (k:Nat) {T:List Trm} {j:Nat} (hj:j<T.length):pairK k (T.take (j+1))=pairK k (T.take j)++[(T[j].1,((k:Int),T[j].2))]:=by
 unfold pairK
 rw [List.take_succ_eq_append_getElem hj,List.map_append]
 rfl
theorem more_own {mb:Nat} {X:Nat→Prop} {T:List (EM.Tr PostD)} {F:List UInt8→Option Value} {wd w3:World} {s:List UInt8} {v:Value} {ps:List PostD} (h:Tab B mb X T F wd) (ho:OwnS postC 75 (fun b=>X b∧b<wd.heap.size) w3 v ps)
  (hg:∀ g,v.ownBlock=some g→(found F s).ownBlock=some g∨wd.heap.size≤g):OwnS postC 75 X w3 v ps :=
 OwnS.weak ho (fun _ _ hb=>hb.1) fun g hgv hx=>by
  rcases hg g hgv with h1 | h1
  ·exact (OwnS.lt (h.found s).1 g h1).2 hx
  ·have:=(h.hi g hx).1;omega
def Since (U:Nat→Prop) (n m:Nat):Nat→Prop:=fun b=>U b∨(n≤b∧b<m)
theorem Since.le {U:Nat→Prop} {n m k b:Nat} (h:Since U n m b) (hk:m≤k):Since U n k b:=h.imp id fun ⟨h1,h2⟩=>⟨h1,by omega⟩
end Go.Proofs.YtidhgicajlaafaaGreat.MX
namespace Go.Proofs.YtidhgicajlaafaaGreat.MX
open Go Go.RowKit MM
open SG (PostD postC postE)
open EV (intE)
theorem clonei_any (v:Value) (zs:List Int) (w:World) (hr:RAny cInt w v zs) (hl:zs.length≤2000000):Calls Tryz.prog 52 #[v] w fun e w'=>∃ u,e=.returned u∧ROn cInt (fun b=>w.heap.size≤b) w' u zs∧Below w.heap.size w w':=by
 obtain ⟨p,cap,rfl,hlc,hcm,hn⟩:=hr.shape
 have hq:=fun (w:World) (a:Option Addr) (n c:Nat)=>Lib.run_eql_slice_nil (P:=Tryz.prog) w 73 3 a n c 0 0 Tryz.underlying73
 cases p with
 | none =>
   have h0:=hn rfl
   subst h0
   have hf:zs=[]:=List.eq_nil_of_length_eq_zero (by omega)
   subst hf
   clear hr
   go_enter Tryz.func52,Tryz.ntmps52
   go_wp2_with fail
   go_ret
   exact ⟨_,rfl,ROn.nil_ _ _,Below.refl _ _⟩
 | some ad =>
   have hb0:Below w.heap.size w (w.alloc (.cells #[] 3)):=(Below.refl _ _).alloc (Nat.le_refl _) _
   have HO0:=Lib.hid (OwnX.lit0 (C:=cInt) 3 (fun b=>b<w.heap.size) w (Nat.le_refl _))
   have HS:=Lib.hid (ROn.src (ROn.keep hr.bel (kep_lt hb0) fun _ _ h=>h))
   have HB0:=Lib.hid hb0
   clear hr hb0
   go_enter Tryz.func52,Tryz.ntmps52
   go_wp2_with (at_builtin;go_loud (refine wpList_append_x intE rfl _ _ rfl w.heap.size _ [] rfl HO0.out (fun b _ hb=>.inl hb) _ zs rfl HS.out (by unfold maxLen;simp;omega) (by simp;omega) (by simp) ?_;intro v' w4 ho4 hb4 _;rw [List.nil_append] at ho4;obtain ⟨q4,c4,rfl,_⟩:=ho4.any.shape;have HO4:=Lib.hid ho4;have HB4:=Lib.hid (HB0.out.trans hb4);clear ho4 hb4))
   go_ret
   refine ⟨_,rfl,?_,HB4.out⟩
   have h:=HO4.out
   obtain ⟨raw,h1,h2⟩:=h
   have h3:OwnX cInt 3 w.heap.size (fun _=>False) _ (.slice q4 zs.length c4) zs:=⟨raw,h1,h2.1,fun i hi hi'=>h2.2 i hi hi'⟩
   exact h3.ron (fun g hg=>(h3.cells hg).1) (fun _ _ h=>h.elim)
theorem clonep_any (v:Value) (ps:List PostD) (w:World) (hr:RAny postC w v ps) (hl:ps.length≤1000000000000):Calls Tryz.prog 51 #[v] w fun e w'=>∃ u,e=.returned u∧OwnX postC 75 w.heap.size (fun b=>b<w.heap.size) w' u ps∧Below w.heap.size w w':=by
 obtain ⟨p,cap,rfl,hlc,hcm,hn⟩:=hr.shape
 have hq:=fun (w:World) (a:Option Addr) (n c:Nat)=>Lib.run_eql_slice_nil (P:=Tryz.prog) w 33 75 a n c 0 0 Tryz.underlying33
 cases p with
 | none =>
   have h0:=hn rfl
   subst h0
   have hf:ps=[]:=List.eq_nil_of_length_eq_zero (by omega)
   subst hf
   clear hr
   go_enter Tryz.func51,Tryz.ntmps51
   go_wp2_with fail
   go_ret
   exact ⟨_,rfl,OwnX.nil_ _ _ _ _,Below.refl _ _⟩
 | some ad =>
   have hb0:Below w.heap.size w (w.alloc (.cells #[] 75)):=(Below.refl _ _).alloc (Nat.le_refl _) _
   have HO0:=Lib.hid (OwnX.lit0 (C:=postC) 75 (fun b=>b<w.heap.size) w (Nat.le_refl _))
   have HS:=Lib.hid (ROn.src (ROn.keep hr.bel (kep_lt hb0) fun _ _ h=>h))
   have HB0:=Lib.hid hb0
   clear hr hb0
   go_enter Tryz.func51,Tryz.ntmps51
   go_wp2_with (at_builtin;go_loud (refine wpList_append_x postE rfl _ _ rfl w.heap.size _ [] rfl HO0.out (fun b _ hb=>.inl hb) _ ps rfl HS.out (by unfold maxLen;simp;omega) (by simp;omega) (by simp) ?_;intro v' w4 ho4 hb4 _;rw [List.nil_append] at ho4;obtain ⟨q4,c4,rfl,_⟩:=ho4.any.shape;have HO4:=Lib.hid ho4;have HB4:=Lib.hid (HB0.out.trans hb4);clear ho4 hb4))
   go_ret
   exact ⟨_,rfl,HO4.out,HB4.out⟩
end Go.Proofs.YtidhgicajlaafaaGreat.MX
