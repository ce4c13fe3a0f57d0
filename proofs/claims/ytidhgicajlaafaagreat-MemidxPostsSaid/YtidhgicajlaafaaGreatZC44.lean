import Derived.Test.YtidhgicajlaafaaGreatZC32
import Derived.Test.YtidhgicajlaafaaGreatZC37
import Derived.Test.YtidhgicajlaafaaGreatZC43
set_option maxRecDepth 100000
set_option maxHeartbeats 8000000
set_option linter.unusedVariables false
set_option linter.unusedSimpArgs false
namespace Go.Proofs.YtidhgicajlaafaaGreat.MX
open Go Go.RowKit MM Go.Maps IM
theorem zeroInts (w:World):(zeroValue 73).run Tryz.prog w=.ok (.slice none 0 0) w:=by kernel_rfl
theorem own_int_kep {S:Nat→Prop} {e:TypeId} {B:Nat} {w w':World} {v:Value} {zs:List Int} (h:OwnC cInt e B w v zs) (hk:Kep S w w') (hg:∀ g,v.ownBlock=some g→S g):OwnC cInt e B w' v zs:=by
 obtain ⟨raw,h1,h2⟩:=h
 exact ⟨raw,own_row_kep h1 hk hg,h2.1,fun i hi hi'=>h2.2 i hi hi'⟩
def foundI (F:Int→Option Value) (d:Int):Value:=(F d).getD (.slice none 0 0)
structure PlT (B mb c:Nat) (G:Int→List Int) (F:Int→Option Value) (w:World):Prop where
 map:∃ m,m≤c∧MapI w mb m F
 none:∀ d,F d=none→G d=[]
 own:∀ d v,F d=some v→OwnC cInt 3 B w v (G d)∧∀ g,v.ownBlock=some g→g≠mb
 apart:∀ d e u v g,F d=some u→F e=some v→u.ownBlock=some g→v.ownBlock=some g→d=e
variable {B mb c : Nat} {G : Int → List Int} {F : Int → Option Value} {w w' : World}
theorem PlT.lt (h:PlT B mb c G F w):mb<w.heap.size:=by
 obtain ⟨m,_,hm⟩:=h.map
 exact hm.lt
theorem PlT.keep {S:Nat→Prop} (h:PlT B mb c G F w) (hk:Kep S w w') (hSm:S mb) (hS:∀ b,B≤b→S b):PlT B mb c G F w':=by
 obtain ⟨m,hm,hv⟩:=h.map
 exact ⟨⟨m,hm,hv.kep hk hSm⟩,h.none,fun d v hf=>⟨own_int_kep (h.own d v hf).1 hk fun g hg=>hS g (OwnC.lt (h.own d v hf).1 g hg).1,(h.own d v hf).2⟩,h.apart⟩
theorem PlT.below (h:PlT B mb c G F w) (hb:Below w.heap.size w w'):PlT B mb c G F w':=h.keep (kep_below (fun _=>True) hb) trivial fun _ _=>trivial
theorem PlT.made (w:World) (B:Nat):PlT B w.heap.size 0 (fun _=>[]) (fun _=>Option.none) (w.alloc (.map #[] 0)) :=
 ⟨⟨0,Nat.le_refl _,MapI.made w⟩,fun _ _=>rfl,fun _ _ h=>(by cases h),fun _ _ _ _ _ h=>(by cases h)⟩
theorem PlT.look (h:PlT B mb c G F w) (d:Int) (hd:InI d):(Instr.lookup 98 (.map (some mb)) (.int .i64 d) false).run Tryz.prog w=.ok (foundI F d) w:=by
 obtain ⟨m,_,hm⟩:=h.map
 exact MapI.look Tryz.underlying98 zeroInts hm d hd
theorem PlT.len (h:PlT B mb c G F w) (ty:TypeId):∃ m:Nat,m≤c∧(Builtin.len_ #[98] ty #[.map (some mb)]).run Tryz.prog w=.ok (.int .i64 (m:Int)) w:=by
 obtain ⟨m,hmc,hm⟩:=h.map
 exact ⟨m,hmc,MapI.len Tryz.underlying98 hm ty⟩
theorem PlT.found (h:PlT B mb c G F w) (d:Int):OwnC cInt 3 B w (foundI F d) (G d)∧∀ g,(foundI F d).ownBlock=some g→B≤g∧g≠mb∧g<w.heap.size:=by
 unfold foundI
 cases hf:F d with
 | none =>
   rw [h.none d hf]
   exact ⟨OwnC.nil_ _ _ w,fun g hg=>by cases hg⟩
 | some v =>
   obtain ⟨h1,h2⟩:=h.own d v hf
   exact ⟨h1,fun g hg=>⟨(OwnC.lt h1 g hg).1,h2 g hg,(OwnC.lt h1 g hg).2⟩⟩
theorem PlT.put {w1 w2:World} {d:Int} {zs:List Int} {v:Value} (h:PlT B mb c G F w)
  (hk1:Kep (fun k=>(foundI F d).ownBlock≠some k) w w1) (ho:OwnC cInt 3 B w1 v (G d++zs)) (hg:∀ g,v.ownBlock=some g→(foundI F d).ownBlock=some g∨w.heap.size≤g)
  (hm:∃ m,m≤c+1∧MapI w2 mb m (fun k=>if k=d then some v else F k)) (hk2:Kep (fun k=>k≠mb) w1 w2):PlT B mb (c+1) (fun k=>if k=d then G k++zs else G k) (fun k=>if k=d then some v else F k) w2:=by
 have hf:=h.found d
 have hlt:=h.lt
 have hvm:∀ g,v.ownBlock=some g→g≠mb:=fun g hv=>by
  rcases hg g hv with h1 | h1
  ·exact (hf.2 g h1).2.1
  ·omega
 have hoth:∀ t u,t≠d→F t=some u→∀ g,u.ownBlock=some g→(foundI F d).ownBlock≠some g:=fun t u hne hu g hg e=>by
  unfold foundI at e
  cases hF:F d with
  | none=>rw [hF] at e;cases e
  | some u2 =>
    rw [hF] at e
    exact hne (h.apart t d u u2 g hu hF hg e)
 refine ⟨hm,fun t ht => ?_,fun t u hu => ?_,fun t t' u u' g hu hu' h1 h2 => ?_⟩
 ·by_cases e:t=d
  ·rw [if_pos e] at ht;cases ht
  ·rw [if_neg e] at ht ⊢
   exact h.none t ht
 ·by_cases e:t=d
  ·rw [if_pos e] at hu ⊢
   obtain rfl:=Option.some.inj hu
   subst e
   exact ⟨own_int_kep ho hk2 fun g hg=>hvm g hg,hvm⟩
  ·rw [if_neg e] at hu ⊢
   obtain ⟨h1,h2⟩:=h.own t u hu
   exact ⟨own_int_kep (own_int_kep h1 hk1 (hoth t u e hu)) hk2 fun g hg=>h2 g hg,h2⟩
 ·by_cases e:t=d
  ·by_cases e':t'=d
   ·rw [e,e']
   ·rw [if_pos e] at hu
    rw [if_neg e'] at hu'
    obtain rfl:=Option.some.inj hu
    rcases hg g h1 with h3 | h3
    ·exact absurd h3 (hoth t' u' e' hu' g h2)
    ·have:=(OwnC.lt (h.own t' u' hu').1 g h2).2
     omega
  ·by_cases e':t'=d
   ·rw [if_neg e] at hu
    rw [if_pos e'] at hu'
    obtain rfl:=Option.some.inj hu'
    rcases hg g h2 with h3 | h3
    ·exact absurd h3 (hoth t u e hu g h1)
    ·have:=(OwnC.lt (h.own t u hu).1 g h1).2
     omega
   ·rw [if_neg e] at hu
    rw [if_neg e'] at hu'
    exact h.apart t t' u u' g hu hu' h1 h2
theorem PlT.turn {d:Int} {v:Value} {zs:List Int} (h:PlT B mb c G F w) (hF:F d=some v) (hk:Kep (fun b=>v.ownBlock≠some b) w w') (ho:OwnC cInt 3 B w' v zs):PlT B mb c (fun k=>if k=d then zs else G k) F w':=by
 obtain ⟨m,hm,hv⟩:=h.map
 refine ⟨⟨m,hm,hv.kep hk fun e=>(h.own d v hF).2 _ e rfl⟩,fun t ht => ?_,fun t u hu => ?_,h.apart⟩
 ·by_cases e:t=d
  ·subst e;rw [hF] at ht;cases ht
  ·rw [if_neg e];exact h.none t ht
 ·by_cases e:t=d
  ·subst e
   rw [hF] at hu
   obtain rfl:=Option.some.inj hu
   rw [if_pos rfl]
   exact ⟨ho,(h.own t v hF).2⟩
  ·rw [if_neg e]
   obtain ⟨h1,h2⟩:=h.own t u hu
   exact ⟨own_int_kep h1 hk fun g hg e2=>e (h.apart t d u v g hu hF hg e2),h2⟩
end Go.Proofs.YtidhgicajlaafaaGreat.MX
namespace Go.Proofs.YtidhgicajlaafaaGreat.MX
open Go Go.RowKit MM EM SM
open SG (PostD Tab)
open EV (docC)
open RM (rowsE)
theorem ix_row {w:World} {g:Nat} {l:List Doc} {dv mv:Value} (h:w.heap[g]? = some (.cells (ixA l dv mv) 60 (0,0))):Row8 w g (l.length:Int) (sizeM l:Int) (timesM l).1 (timesM l).2.1 (seqsM l).1 (seqsM l).2 dv mv:=h
theorem ix_snoc (l:List Doc) (d:Doc) (dv mv:Value):ixA (l++[d]) dv mv=#[.int .i64 ((l.length:Int)+1),.int .i64 ((sizeM l:Int)+(16+sizeF d.2.2:Nat)),.int .i64 (min (if (l.length:Int)=0 then d.2.1 else (timesM l).1) d.2.1),.int .i64 (max (if (l.length:Int)=0 then d.2.1 else (timesM l).2.1) d.2.1),.int .i64 (if (l.length:Int)=0 then d.1 else (seqsM l).1),.int .i64 d.1,dv,mv]:=by
 unfold ixA
 have e1:sizeM (l++[d])=sizeM l+(16+sizeF d.2.2):=by rw [sizeM_append];simp [sizeM,sizeE]
 rw [e1,seqsM_app,List.length_append,List.length_singleton]
 cases l with
 | nil=>simp [timesM,sizeM,seqsM]
 | cons x r =>
   rw [timesM_append (by simp) d]
   have h0:¬ (((x::r).length:Int)=0):=by simp;omega
   rw [if_neg h0,if_neg h0,if_neg h0,if_neg (by simp)]
   simp
theorem row_snoc {w:World} {g:Nat} {l:List Doc} {d:Doc} {dv mv:Value} (h:Row8 w g ((l.length:Int)+1) ((sizeM l:Int)+(16+sizeF d.2.2:Nat)) (min (if (l.length:Int)=0 then d.2.1 else (timesM l).1) d.2.1) (max (if (l.length:Int)=0 then d.2.1 else (timesM l).2.1) d.2.1) (if (l.length:Int)=0 then d.1 else (seqsM l).1) d.1 dv mv) :
  w.heap[g]? = some (.cells (ixA (l++[d]) dv mv) 60 (0,0)):=by
 rw [ix_snoc]
 exact h
section
variable {A U D X : Nat → Prop} {w w' : World} {g mb n : Nat} {F : List UInt8 → Option Value} {dv : Value} {T : List (EM.Tr PostD)} {l lc : List Doc}
theorem IdxD.own (h:IdxD A U D w g mb X F dv T l lc) {b:Nat} (hb:dv.ownBlock=some b):¬ D b:=(OwnS.lt h.docs b hb).2
theorem IdxD.start (h:IdxD A U D w g mb X F dv T l lc):IdxD (Since A w.heap.size w.heap.size) U D w g mb X F dv T l lc :=
 ⟨h.cells,h.rows,h.docs,.inl h.ag,fun b hb=>⟨.inl (h.au b hb).1,(h.au b hb).2⟩,fun b hb=>⟨.inl (h.ad b hb).1,(h.ad b hb).2⟩,fun b hb=>⟨.inl (h.ao b hb).1,(h.ao b hb).2⟩,fun b hb=>hb.elim (h.alt b) fun h=>h.2⟩
theorem IdxD.grow (h:IdxD (Since A n w.heap.size) U D w g mb X F dv T l lc) (hn:n≤w.heap.size) (hb:Below w.heap.size w w'):IdxD (Since A n w'.heap.size) U D w' g mb X F dv T l lc:=by
 have h':=h.keep (kep_below (fun _=>True) hb) fun _ _=>trivial
 exact ⟨h'.cells,h'.rows,h'.docs,h.ag.le hb.size,fun b hb'=>⟨(h.au b hb').1.le hb.size,(h.au b hb').2⟩,fun b hb'=>⟨(h.ad b hb').1.le hb.size,(h.ad b hb').2⟩,fun b hb'=>⟨(h.ao b hb').1.le hb.size,(h.ao b hb').2⟩,fun b hb'=>hb'.elim (fun h1=>Nat.lt_of_lt_of_le (h.alt b (.inl h1)) hb.size) fun h=>h.2⟩
theorem IdxD.more {q:Nat} (h:IdxD (Since A n w.heap.size) U D w g mb X F dv T l lc) (hn:n≤q) (hq:∀ b,q≤b→b<w.heap.size→b≠g∧¬ U b∧dv.ownBlock≠some b):IdxD (Since A n w.heap.size) U (fun b=>D b∨(q≤b∧b<w.heap.size)) w g mb X F dv T l lc :=
 ⟨h.cells,h.rows,OwnS.weak h.docs (fun _ _ hb=>.inl hb) fun b hb hd=>hd.elim (h.own hb) fun hd=>(hq b hd.1 hd.2).2.2 hb,h.ag,h.au,fun b hb=>hb.elim (h.ad b) fun hb=>⟨.inr ⟨by omega,hb.2⟩,(hq b hb.1 hb.2).1,(hq b hb.1 hb.2).2.1⟩,h.ao,h.alt⟩
theorem IdxD.rowed {T':List (EM.Tr PostD)} (h:IdxD (Since A n w.heap.size) U D w g mb X F dv T l lc) (hn:n≤w.heap.size) {X':Nat→Prop} {F':List UInt8→Option Value} (hr:RowsU (Since U w.heap.size w'.heap.size) mb T' X' F' w') (hk:Kep (fun b=>¬ U b) w w') :
  IdxD (Since A n w'.heap.size) (Since U w.heap.size w'.heap.size) D w' g mb X' F' dv T' l lc:=by
 have hgU:¬ U g:=fun hg=>(h.au g hg).2 rfl
 have hlt:∀ b,Since A n w.heap.size b→b<w.heap.size:=h.alt
 have hS:∀ b,Since A n w.heap.size b→¬ U b→¬ Since U w.heap.size w'.heap.size b:=fun b hb hu hs=>hs.elim hu fun h1=>by have:=hlt b hb;omega
 refine ⟨(hk.block g (hlt g h.ag) hgU).trans h.cells,hr,OwnS.keep h.docs hk (fun b _ hb=>(h.ad b hb).2.2) fun b hb=>(h.ao b hb).2.2,h.ag.le hk.size,fun b hb => ?_,fun b hb => ?_,fun b hb => ?_,fun b hb => ?_⟩
 ·rcases hb with hb | hb
  ·exact ⟨(h.au b hb).1.le hk.size,(h.au b hb).2⟩
  ·exact ⟨.inr ⟨by omega,hb.2⟩,fun e=>by have:=hlt g h.ag;omega⟩
 ·obtain ⟨h1,h2,h3⟩:=h.ad b hb
  exact ⟨h1.le hk.size,h2,hS b h1 h3⟩
 ·obtain ⟨h1,h2,h3⟩:=h.ao b hb
  exact ⟨h1.le hk.size,h2,hS b h1 h3⟩
 ·rcases hb with hb | hb
  ·exact Nat.lt_of_lt_of_le (hlt b (.inl hb)) hk.size
  ·exact hb.2
theorem IdxD.docd {w3:World} {v':Value} {l':List Doc} (h:IdxD (Since A n w.heap.size) U D w g mb X F dv T l lc) (hn:n≤w.heap.size) (hk:Kep (fun b=>dv.ownBlock≠some b) w w3) (ho:OwnS docC 67 D w3 v' l') (hg:∀ b,v'.ownBlock=some b→dv.ownBlock=some b∨w.heap.size≤b) :
  IdxD (Since A n w3.heap.size) U D (w3.setCell ⟨g,6,none⟩ v') g mb X F v' T l' lc:=by
 have hlt:∀ b,Since A n w.heap.size b→b<w.heap.size:=h.alt
 have hk2:Kep (fun b=>b≠g) w3 (w3.setCell ⟨g,6,none⟩ v'):=kep_set (by simp) _
 have hgo:dv.ownBlock≠some g:=fun e=>(h.ao g e).2.1 rfl
 have hgl:=hlt g h.ag
 have hr3:Row8 w3 g (lc.length:Int) (sizeM lc:Int) (timesM lc).1 (timesM lc).2.1 (seqsM lc).1 (seqsM lc).2 dv (.map (some mb)):=ix_row ((hk.block g hgl hgo).trans h.cells)
 have hsz:(w3.setCell ⟨g,6,none⟩ v').heap.size=w3.heap.size:=by simp
 refine ⟨hr3.s6 v',(h.rows.keep hk fun b _ hb e=>(h.ao b e).2.2 hb).keep hk2 fun b _ hb=>(h.au b hb).2,OwnS.keep ho hk2 (fun b _ hb=>(h.ad b hb).2.1) fun b hb e => ?_,h.ag.le hk.size,fun b hb=>⟨(h.au b hb).1.le hk.size,(h.au b hb).2⟩,fun b hb=>⟨(h.ad b hb).1.le hk.size,(h.ad b hb).2⟩,fun b hb => ?_,fun b hb => ?_⟩
 ·rcases hg b hb with h1 | h1
  ·exact (h.ao b h1).2.1 e
  ·omega
 ·rcases hg b hb with h1 | h1
  ·exact ⟨(h.ao b h1).1.le hk.size,(h.ao b h1).2⟩
  ·exact ⟨.inr ⟨by omega,(OwnS.lt ho b hb).1⟩,by omega,fun hu=>by have:=hlt b (h.au b hu).1;omega⟩
 ·rw [hsz]
  rcases hb with hb | hb
  ·exact Nat.lt_of_lt_of_le (hlt b (.inl hb)) hk.size
  ·exact hb.2
theorem IdxD.counted {lc':List Doc} (h:IdxD (Since A n w.heap.size) U D w g mb X F dv T l lc) (hn:n≤w.heap.size) (hk:Kep (fun b=>b≠g) w w') (hc:w'.heap[g]? = some (.cells (ixA lc' dv (.map (some mb))) 60 (0,0))):IdxD (Since A n w'.heap.size) U D w' g mb X F dv T l lc' :=
 ⟨hc,h.rows.keep hk fun b _ hb=>(h.au b hb).2,OwnS.keep h.docs hk (fun b _ hb=>(h.ad b hb).2.1) fun b hb=>(h.ao b hb).2.1,h.ag.le hk.size,fun b hb=>⟨(h.au b hb).1.le hk.size,(h.au b hb).2⟩,fun b hb=>⟨(h.ad b hb).1.le hk.size,(h.ad b hb).2⟩,
  fun b hb=>⟨(h.ao b hb).1.le hk.size,(h.ao b hb).2⟩,fun b hb=>hb.elim (fun h1=>Nat.lt_of_lt_of_le (h.alt b (.inl h1)) hk.size) fun h1=>h1.2⟩
end
end Go.Proofs.YtidhgicajlaafaaGreat.MX
namespace Go.Proofs.YtidhgicajlaafaaGreat.MX
open Go Go.RowKit MM EM SM
open SG (PostD Tab)
open EV (docC IntLeft)
open RM (rowsE)
theorem ix_f0 (a b c d e f g h:Value) (w:World):(Instr.field 60 (.agg #[a,b,c,d,e,f,g,h]) 0).run Tryz.prog w=.ok (.agg #[a,b,c,d,e,f]) w:=by kernel_rfl
theorem ix_f2 (a b c d e f g h:Value) (w:World):(Instr.field 60 (.agg #[a,b,c,d,e,f,g,h]) 2).run Tryz.prog w=.ok h w:=by kernel_rfl
theorem cn_f0 (a b c d e f:Value) (w:World):(Instr.field 56 (.agg #[a,b,c,d,e,f]) 0).run Tryz.prog w=.ok a w:=by kernel_rfl
theorem cn_f1 (a b c d e f:Value) (w:World):(Instr.field 56 (.agg #[a,b,c,d,e,f]) 1).run Tryz.prog w=.ok b w:=by kernel_rfl
def PCell (w:World) (p:Option Addr) (l:List Doc) (dp:Option Addr) (dn dc:Nat) (mp:Option Nat):Prop :=
 (p=none∧l=[]∧dp=none∧dn=0∧dc=0∧mp=none)∨∃ g,p=some ⟨g,0,none⟩∧w.heap[g]? = some (.cells (ixA l (.slice dp dn dc) (.map mp)) 60 (0,0))
section
variable {w : World} {p : Option Addr} {l : List Doc} {dp : Option Addr} {dn dc : Nat} {mp : Option Nat}
theorem ornone_p (h:PCell w p l dp dn dc mp):Calls Tryz.prog 31 #[.pointer p] w (CellsLeft (ixA l (.slice dp dn dc) (.map mp)) w):=by
 rcases h with ⟨rfl,rfl,rfl,rfl,rfl,rfl⟩ | ⟨g,rfl,h⟩
 ·exact ornone_none w
 ·exact ornone_row _ _ _ _ _ _ dp dn dc mp g w h
theorem len_any (h:PCell w p l dp dn dc mp):Calls Tryz.prog 26 #[.pointer p] w (IntLeft (l.length:Int) w):=by
 have HO:=Lib.hid (ornone_p h)
 clear h
 go_enter Tryz.func26,Tryz.ntmps26
 go_wp2_with fail
 refine HO.out.mono ?_
 rintro e w1 ⟨rfl,hb⟩
 have HB:=Lib.hid hb
 unfold ixA
 have f0:=ix_f0 (.int .i64 (l.length:Int)) (.int .i64 (sizeM l:Int)) (.int .i64 (timesM l).1) (.int .i64 (timesM l).2.1) (.int .i64 (seqsM l).1) (.int .i64 (seqsM l).2) (.slice dp dn dc) (.map mp) w1
 have f1:=cn_f0 (.int .i64 (l.length:Int)) (.int .i64 (sizeM l:Int)) (.int .i64 (timesM l).1) (.int .i64 (timesM l).2.1) (.int .i64 (seqsM l).1) (.int .i64 (seqsM l).2) w1
 clear hb HO
 go_wp2_with fail
 go_ret
 exact ⟨rfl,HB.out⟩
theorem size_any (h:PCell w p l dp dn dc mp):Calls Tryz.prog 27 #[.pointer p] w (IntLeft (sizeM l:Int) w):=by
 have HO:=Lib.hid (ornone_p h)
 clear h
 go_enter Tryz.func27,Tryz.ntmps27
 go_wp2_with fail
 refine HO.out.mono ?_
 rintro e w1 ⟨rfl,hb⟩
 have HB:=Lib.hid hb
 unfold ixA
 have f0:=ix_f0 (.int .i64 (l.length:Int)) (.int .i64 (sizeM l:Int)) (.int .i64 (timesM l).1) (.int .i64 (timesM l).2.1) (.int .i64 (seqsM l).1) (.int .i64 (seqsM l).2) (.slice dp dn dc) (.map mp) w1
 have f1:=cn_f1 (.int .i64 (l.length:Int)) (.int .i64 (sizeM l:Int)) (.int .i64 (timesM l).1) (.int .i64 (timesM l).2.1) (.int .i64 (seqsM l).1) (.int .i64 (seqsM l).2) w1
 clear hb HO
 go_wp2_with fail
 go_ret
 exact ⟨rfl,HB.out⟩
end
theorem Idx.cellp {A:Nat→Prop} {w:World} {g:Nat} {l:List Doc} (h:Idx A w g l):∃ dp dc mb X F,PCell w (some ⟨g,0,none⟩) l dp l.length dc (some mb)∧ROn docC A w (.slice dp l.length dc) l∧RowsU A mb (rowsE (evM l)) X F w:=by
 obtain ⟨_,U,D,mb,X,F,dv,h⟩:=h
 obtain ⟨dp,dc,rfl,_⟩:=(OwnS.any h.docs).shape
 exact ⟨dp,dc,mb,X,F,.inr ⟨g,rfl,h.cells⟩,OwnS.ron h.docs (fun b hb=>(h.ao b hb).1) fun b _ hb=>(h.ad b hb).1,h.rows.weak fun b hb=>(h.au b hb).1⟩
end Go.Proofs.YtidhgicajlaafaaGreat.MX
