import Derived.Test.YtdfbkhpkffpckaaZB27
import Derived.Lib.SliceRun
set_option maxRecDepth 100000
set_option maxHeartbeats 8000000
set_option linter.unusedVariables false
set_option linter.unusedSimpArgs false
namespace Go.Proofs.Ytdfbkhpkffpckaa.MX
open Go Go.RowKit MM EM SM
open SG (PostD postC postE Tab found zeroPosts post_on)
open RM (pairsP rowsE termsE_ne)
variable {B mb : Nat} {X : Nat → Prop} {T : List (EM.Tr PostD)} {F : List UInt8 → Option Value} {w w' : World}
theorem tlook (h:Tab B mb X T F w) (s:List UInt8) (hs:s.length≤maxLen):(Instr.lookup 102 (.map (some mb)) (.string ⟨s.toArray⟩) false).run Try.prog w=.ok (found F s) w :=
 MapV.look Try.underlying102 zeroPosts h.map s hs
structure RowsU (U:Nat→Prop) (mb:Nat) (T:List (EM.Tr PostD)) (X:Nat→Prop) (F:List UInt8→Option Value) (w:World):Prop where
 tab:Tab 0 mb X T F w
 umb:U mb
 uown:∀ s v g,F s=some v→v.ownBlock=some g→U g
 ux:∀ b,X b→U b
theorem RowsU.keep {U S:Nat→Prop} (h:RowsU U mb T X F w) (hk:Kep S w w') (hS:∀ b,b<w.heap.size→U b→S b):RowsU U mb T X F w' :=
 ⟨⟨h.tab.map.kep hk (hS mb h.tab.map.lt h.umb),Nat.zero_le _,fun b hb=>⟨Nat.lt_of_lt_of_le (h.tab.hi b hb).1 hk.size,(h.tab.hi b hb).2⟩,h.tab.none,
   fun s v hv=>⟨OwnS.keep (h.tab.own s v hv).1 hk (fun b hb hx=>hS b hb (h.ux b hx)) fun g hg=>hS g (OwnS.lt (h.tab.own s v hv).1 g hg).1 (h.uown s v g hv hg),(h.tab.own s v hv).2⟩,h.tab.apart,h.tab.rise,h.tab.ne⟩,
  h.umb,h.uown,h.ux⟩
theorem RowsU.weak {U V:Nat→Prop} (h:RowsU U mb T X F w) (hV:∀ b,U b→V b):RowsU V mb T X F w:=⟨h.tab,hV _ h.umb,fun s v g h1 h2=>hV _ (h.uown s v g h1 h2),fun b hb=>hV b (h.ux b hb)⟩
def pairK (k:Nat) (T:List Trm):List (List UInt8×PostD):=T.map fun t=>(t.1,((k:Int),t.2))
theorem pairK_len (k:Nat) (T:List Trm):(pairK k T).length=T.length:=by unfold pairK;simp
theorem pairK_next (k:Nat) {T:List Trm} {j:Nat} (hj:j<T.length):pairK k (T.take (j+1))=pairK k (T.take j)++[(T[j].1,((k:Int),T[j].2))]:=by
 unfold pairK
 rw [List.take_succ_eq_append_getElem hj,List.map_append]
 rfl
theorem more_own {mb:Nat} {X:Nat→Prop} {T:List (EM.Tr PostD)} {F:List UInt8→Option Value} {wd w3:World} {s:List UInt8} {v:Value} {ps:List PostD} (h:Tab B mb X T F wd) (ho:OwnS postC 69 (fun b=>X b∧b<wd.heap.size) w3 v ps)
  (hg:∀ g,v.ownBlock=some g→(found F s).ownBlock=some g∨wd.heap.size≤g):OwnS postC 69 X w3 v ps :=
 OwnS.weak ho (fun _ _ hb=>hb.1) fun g hgv hx=>by
  rcases hg g hgv with h1 | h1
  ·exact (OwnS.lt (h.found s).1 g h1).2 hx
  ·have:=(h.hi g hx).1;omega
def Since (U:Nat→Prop) (n m:Nat):Nat→Prop:=fun b=>U b∨(n≤b∧b<m)
theorem Since.le {U:Nat→Prop} {n m k b:Nat} (h:Since U n m b) (hk:m≤k):Since U n k b:=h.imp id fun ⟨h1,h2⟩=>⟨h1,by omega⟩
end Go.Proofs.Ytdfbkhpkffpckaa.MX
namespace Go.Proofs.Ytdfbkhpkffpckaa.MX
open Go Go.RowKit MM
open SG (PostD postC postE)
open EV (intE)
theorem clonei_any (v:Value) (zs:List Int) (w:World) (hr:RAny cInt w v zs) (hl:zs.length≤2000000):Calls Try.prog 95 #[v] w fun e w'=>∃ u,e=.returned u∧ROn cInt (fun b=>w.heap.size≤b) w' u zs∧Below w.heap.size w w':=by
 obtain ⟨p,cap,rfl,hlc,hcm,hn⟩:=hr.shape
 have hq:=fun (w:World) (a:Option Addr) (n c:Nat)=>Lib.run_eql_slice_nil (P:=Try.prog) w 27 3 a n c 0 0 Try.underlying27
 cases p with
 | none =>
   have h0:=hn rfl
   subst h0
   have hf:zs=[]:=List.eq_nil_of_length_eq_zero (by omega)
   subst hf
   clear hr
   go_enter Try.func95,Try.ntmps95
   go_wp2_with fail
   go_ret
   exact ⟨_,rfl,ROn.nil_ _ _,Below.refl _ _⟩
 | some ad =>
   have hb0:Below w.heap.size w (w.alloc (.cells #[] 3)):=(Below.refl _ _).alloc (Nat.le_refl _) _
   have HO0:=Lib.hid (OwnX.lit0 (C:=cInt) 3 (fun b=>b<w.heap.size) w (Nat.le_refl _))
   have HS:=Lib.hid (ROn.src (ROn.keep hr.bel (kep_lt hb0) fun _ _ h=>h))
   have HB0:=Lib.hid hb0
   clear hr hb0
   go_enter Try.func95,Try.ntmps95
   go_wp2_with (at_builtin;go_loud (refine wpList_append_x intE rfl _ _ rfl w.heap.size _ [] rfl HO0.out (fun b _ hb=>.inl hb) _ zs rfl HS.out (by unfold maxLen;simp;omega) (by simp;omega) (by simp) ?_;intro v' w4 ho4 hb4 _;rw [List.nil_append] at ho4;obtain ⟨q4,c4,rfl,_⟩:=ho4.any.shape;have HO4:=Lib.hid ho4;have HB4:=Lib.hid (HB0.out.trans hb4);clear ho4 hb4))
   go_ret
   refine ⟨_,rfl,?_,HB4.out⟩
   have h:=HO4.out
   obtain ⟨raw,h1,h2⟩:=h
   have h3:OwnX cInt 3 w.heap.size (fun _=>False) _ (.slice q4 zs.length c4) zs:=⟨raw,h1,h2.1,fun i hi hi'=>h2.2 i hi hi'⟩
   exact h3.ron (fun g hg=>(h3.cells hg).1) (fun _ _ h=>h.elim)
theorem clonep_any (v:Value) (ps:List PostD) (w:World) (hr:RAny postC w v ps) (hl:ps.length≤1000000000000):Calls Try.prog 94 #[v] w fun e w'=>∃ u,e=.returned u∧OwnX postC 69 w.heap.size (fun b=>b<w.heap.size) w' u ps∧Below w.heap.size w w':=by
 obtain ⟨p,cap,rfl,hlc,hcm,hn⟩:=hr.shape
 have hq:=fun (w:World) (a:Option Addr) (n c:Nat)=>Lib.run_eql_slice_nil (P:=Try.prog) w 22 69 a n c 0 0 Try.underlying22
 cases p with
 | none =>
   have h0:=hn rfl
   subst h0
   have hf:ps=[]:=List.eq_nil_of_length_eq_zero (by omega)
   subst hf
   clear hr
   go_enter Try.func94,Try.ntmps94
   go_wp2_with fail
   go_ret
   exact ⟨_,rfl,OwnX.nil_ _ _ _ _,Below.refl _ _⟩
 | some ad =>
   have hb0:Below w.heap.size w (w.alloc (.cells #[] 69)):=(Below.refl _ _).alloc (Nat.le_refl _) _
   have HO0:=Lib.hid (OwnX.lit0 (C:=postC) 69 (fun b=>b<w.heap.size) w (Nat.le_refl _))
   have HS:=Lib.hid (ROn.src (ROn.keep hr.bel (kep_lt hb0) fun _ _ h=>h))
   have HB0:=Lib.hid hb0
   clear hr hb0
   go_enter Try.func94,Try.ntmps94
   go_wp2_with (at_builtin;go_loud (refine wpList_append_x postE rfl _ _ rfl w.heap.size _ [] rfl HO0.out (fun b _ hb=>.inl hb) _ ps rfl HS.out (by unfold maxLen;simp;omega) (by simp;omega) (by simp) ?_;intro v' w4 ho4 hb4 _;rw [List.nil_append] at ho4;obtain ⟨q4,c4,rfl,_⟩:=ho4.any.shape;have HO4:=Lib.hid ho4;have HB4:=Lib.hid (HB0.out.trans hb4);clear ho4 hb4))
   go_ret
   exact ⟨_,rfl,HO4.out,HB4.out⟩
end Go.Proofs.Ytdfbkhpkffpckaa.MX
namespace Go.Proofs.Ytdfbkhpkffpckaa.MM
open Go Go.RowKit
def Three (w:World) (g:Nat) (t:TypeId) (a b c:Value):Prop:=w.heap[g]? = some (.cells #[a,b,c] t (0,0))
section
variable {w w' : World} {g : Nat} {t : TypeId} {a b c : Value}
theorem Three.lt (h:Three w g t a b c):g<w.heap.size:=(Array.getElem?_eq_some_iff.1 h).1
theorem Three.c0 (h:Three w g t a b c):w.cell? ⟨g,0,none⟩=some a:=by rw [cell_of_row w g 0 _ _ _ h];rfl
theorem Three.c1 (h:Three w g t a b c):w.cell? ⟨g,1,none⟩=some b:=by rw [cell_of_row w g 1 _ _ _ h];rfl
theorem Three.c2 (h:Three w g t a b c):w.cell? ⟨g,2,none⟩=some c:=by rw [cell_of_row w g 2 _ _ _ h];rfl
theorem Three.fr (h:Three w g t a b c) (i:Nat):w.frozen? ⟨g,i,none⟩=false:=frozen_of_row w g i _ _ h
theorem Three.s0 (h:Three w g t a b c) (x:Value):Three (w.setCell ⟨g,0,none⟩ x) g t x b c:=heap_setCell_same w g 0 _ _ x h
theorem Three.s1 (h:Three w g t a b c) (x:Value):Three (w.setCell ⟨g,1,none⟩ x) g t a x c:=heap_setCell_same w g 1 _ _ x h
theorem Three.s2 (h:Three w g t a b c) (x:Value):Three (w.setCell ⟨g,2,none⟩ x) g t a b x:=heap_setCell_same w g 2 _ _ x h
def set3 (w:World) (g:Nat) (x y z:Value):World:=((w.setCell ⟨g,0,none⟩ x).setCell ⟨g,1,none⟩ y).setCell ⟨g,2,none⟩ z
theorem Three.set (h:Three w g t a b c) (x y z:Value):Three (set3 w g x y z) g t x y z:=((h.s0 x).s1 y).s2 z
theorem Three.keep {S:Nat→Prop} (h:Three w g t a b c) (hk:Kep S w w') (hS:S g):Three w' g t a b c:=(hk.block g h.lt hS).trans h
theorem Three.below {B:Nat} (h:Three w g t a b c) (hb:Below B w w') (hg:g<B):Three w' g t a b c:=(hb.block g hg).trans h
theorem three_new (w:World) (t:TypeId) (a b c:Value):Three (w.alloc (.cells #[a,b,c] t)) w.heap.size t a b c:=heap_alloc_new _ _
theorem Three.cells (h:Three w g t a b c):w.cell? ⟨g,0,none⟩=some a∧w.cell? ⟨g,1,none⟩=some b∧w.cell? ⟨g,2,none⟩=some c:=⟨h.c0,h.c1,h.c2⟩
theorem Three.all (h:Three w g t a b c) (x y:Value) :
  w.frozen? ⟨g,0,none⟩=false∧w.frozen? ⟨g,1,none⟩=false∧w.frozen? ⟨g,2,none⟩=false ∧
  ((w.setCell ⟨g,0,none⟩ x).cell? ⟨g,1,none⟩=some b∧(w.setCell ⟨g,0,none⟩ x).frozen? ⟨g,1,none⟩=false) ∧
  (((w.setCell ⟨g,0,none⟩ x).setCell ⟨g,1,none⟩ y).cell? ⟨g,2,none⟩=some c∧((w.setCell ⟨g,0,none⟩ x).setCell ⟨g,1,none⟩ y).frozen? ⟨g,2,none⟩=false) :=
 ⟨h.fr 0,h.fr 1,h.fr 2,⟨(h.s0 x).c1,(h.s0 x).fr 1⟩,⟨((h.s0 x).s1 y).c2,((h.s0 x).s1 y).fr 2⟩⟩
theorem kep_set3 {g:Nat} (x y z:Value):Kep (fun b=>b≠g) w (set3 w g x y z) :=
 ((kep_set (fun h=>h rfl) x).trans (kep_set (fun h=>h rfl) y)).trans (kep_set (fun h=>h rfl) z)
end
section
variable {P : Program} {fn : Func} {t : TypeId} {ty : TypeDesc}
theorem results_three1 {p:Tmp} (h:fn.results=#[.cell p t]) (hu:P.underlying t=some ty) (hd:(match ty with | .struct _ | .array _ _=>true | _=>false)=true) (hi:(P.info? t).map (·.size)=some 3) (tmps:Array Value) (w:World) (g:Nat) (a b c:Value)
  (hp:tmps.getD p undef=.pointer (some ⟨g,0,none⟩)) (hg:Three w g t a b c):(results fn tmps).run P w=.ok (.agg #[a,b,c]) w:=by
 have hp':tmps[p]?.getD undef=.pointer (some ⟨g,0,none⟩):=by simpa using hp
 have hl:=run_loadVar_row (P:=P) w g t t _ (0,0) ty hg hu hd hi
 simp [results,h,hp',asAddr,hl]
end
end Go.Proofs.Ytdfbkhpkffpckaa.MM
