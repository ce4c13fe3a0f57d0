import Derived.Test.YtidhgicajlaafaaGreatZD13
import Derived.WalkSpells
set_option maxRecDepth 100000
set_option maxHeartbeats 8000000
set_option linter.unusedVariables false
set_option linter.unusedSimpArgs false
namespace Go.Proofs.YtidhgicajlaafaaGreat.MX
open Go Go.RowKit MM EM SM
open SG (PostD Tab)
open EV (docC)
open RM (rowsE)
abbrev Doc:=SM.Doc
def ixA (l:List Doc) (dv mv:Value):Array Value :=
 #[.int .i64 (l.length:Int),.int .i64 (sizeM l:Int),.int .i64 (timesM l).1,.int .i64 (timesM l).2.1,.int .i64 (seqsM l).1,.int .i64 (seqsM l).2,dv,mv]
structure IdxD (A U D:Nat→Prop) (w:World) (g mb:Nat) (X:Nat→Prop) (F:List UInt8→Option Value) (dv:Value) (T:List (EM.Tr PostD)) (l lc:List Doc):Prop where
 cells:w.heap[g]? = some (.cells (ixA lc dv (.map (some mb))) 60 (0,0))
 rows:RowsU U mb T X F w
 docs:OwnS docC 67 D w dv l
 ag:A g
 au:∀ b,U b→A b∧b≠g
 ad:∀ b,D b→A b∧b≠g∧¬ U b
 ao:∀ b,dv.ownBlock=some b→A b∧b≠g∧¬ U b
 alt:∀ b,A b→b<w.heap.size
def Idx (A:Nat→Prop) (w:World) (g:Nat) (l:List Doc):Prop:=BigM l∧∃ U D mb X F dv,IdxD A U D w g mb X F dv (rowsE (evM l)) l l
variable {A U D X : Nat → Prop} {w w' : World} {g mb : Nat} {F : List UInt8 → Option Value} {dv : Value} {T : List (EM.Tr PostD)} {l lc : List Doc}
theorem IdxD.keep {S:Nat→Prop} (h:IdxD A U D w g mb X F dv T l lc) (hk:Kep S w w') (hS:∀ b,A b→S b):IdxD A U D w' g mb X F dv T l lc :=
 ⟨(hk.block g (h.alt g h.ag) (hS g h.ag)).trans h.cells,h.rows.keep hk fun b _ hb=>hS b (h.au b hb).1,OwnS.keep h.docs hk (fun b _ hb=>hS b (h.ad b hb).1) fun b hb=>hS b (h.ao b hb).1,
  h.ag,h.au,h.ad,h.ao,fun b hb=>Nat.lt_of_lt_of_le (h.alt b hb) hk.size⟩
theorem Idx.keep {S:Nat→Prop} (h:Idx A w g l) (hk:Kep S w w') (hS:∀ b,A b→S b):Idx A w' g l:=by
 obtain ⟨hb,U,D,mb,X,F,dv,h⟩:=h
 exact ⟨hb,U,D,mb,X,F,dv,h.keep hk hS⟩
theorem Idx.below (h:Idx A w g l) (hb:Below w.heap.size w w'):Idx A w' g l:=h.keep (kep_below (fun _=>True) hb) fun _ _=>trivial
theorem Idx.alt (h:Idx A w g l):∀ b,A b→b<w.heap.size:=by obtain ⟨_,U,D,mb,X,F,dv,h⟩:=h;exact h.alt
theorem Idx.big (h:Idx A w g l):BigM l:=h.1
theorem info8:(Tryz.prog.info? 60).map (·.size)=some 8:=by kernel_rfl
theorem rowsE_nil:rowsE (evM [])=[]:=rfl
def NewLeft (w:World) (e:Ending) (w':World):Prop:=∃ g,e=.returned (.pointer (some ⟨g,0,none⟩))∧Idx (fun b=>w.heap.size≤b∧b<w'.heap.size) w' g []∧w.heap.size≤g∧Below w.heap.size w w'
theorem new_any (w:World):Calls Tryz.prog 29 #[] w (NewLeft w):=by
 obtain ⟨w1,hw1⟩:∃ w1,w.alloc (.map #[] 0)=w1:=⟨_,rfl⟩
 obtain ⟨w2,hw2⟩:∃ w2,w1.alloc (.cells #[.int .i64 0,.int .i64 0,.int .i64 0,.int .i64 0,.int .i64 0,.int .i64 0,.slice none 0 0,.map (some w.heap.size)] 60)=w2:=⟨_,rfl⟩
 have hm1:MapV w1 w.heap.size 0 (fun _=>none):=by rw [← hw1];exact MapV.made w
 have hs1:w1.heap.size=w.heap.size+1:=by rw [← hw1];simp
 have hs2:w2.heap.size=w.heap.size+2:=by rw [← hw2];simp [hs1]
 have hb1:Below w.heap.size w w1:=by rw [← hw1];exact (Below.refl _ _).alloc (Nat.le_refl _) _
 have hb2:Below w1.heap.size w1 w2:=by rw [← hw2];exact (Below.refl _ _).alloc (Nat.le_refl _) _
 have ht:Tab 0 w.heap.size (fun _=>False) [] (fun _=>none) w2:=by
  have:=Tab.made w 0 (Nat.zero_le _)
  rw [hw1] at this
  exact this.below hb2
 have hq:NewLeft w (.returned (.pointer (some ⟨w.heap.size+1,0,none⟩))) w2:=by
  rw [← hs1]
  refine ⟨w1.heap.size,rfl,⟨BigM.nil,fun b=>b=w.heap.size,fun _=>False,w.heap.size,fun _=>False,fun _=>none,.slice none 0 0,?_⟩,by omega,hb1.trans (hb2.mono (by omega))⟩
  exact ⟨by rw [← hw2];exact heap_alloc_new _ _,⟨by rw [rowsE_nil];exact ht,rfl,fun s v g h=>(by cases h),fun _ h=>h.elim⟩,OwnS.nil_ _ _ _,⟨by omega,by omega⟩,
   fun b hb=>⟨⟨by omega,by omega⟩,by omega⟩,fun b h=>h.elim,fun b h=>(by cases h),fun b hb=>hb.2⟩
 have HQ:=Lib.hid hq
 have HW1:=Lib.hid hw1
 have HW2:=Lib.hid hw2
 have hmm:=@run_makeMap Tryz.prog
 clear hm1 hs1 hs2 hb1 hb2 ht hq hw1 hw2
 go_enter Tryz.func29,Tryz.ntmps29
 go_wp2_with fail
 rw [HW1.out,HW2.out]
 go_ret
 exact HQ.out
theorem mapNe (w:World) (r:Option Nat):(binOp .neq 58 (.map r) (.map none)).run Tryz.prog w=.ok (.bool (!r.isNone)) w:=run_neq_map_nil w _ _ _ r Tryz.underlying58
theorem made_any (h:Idx A w g l):Calls Tryz.prog 40 #[.pointer (some ⟨g,0,none⟩)] w fun e w'=>e=.returned (.bool true)∧w=w':=by
 obtain ⟨_,U,D,mb,X,F,dv,h⟩:=h
 have c7:w.cell? ⟨g,7,none⟩=some (.map (some mb)):=row_cell h.cells 7
 have hne:=mapNe w
 clear h
 go_enter Tryz.func40,Tryz.ntmps40
 go_wp2_with fail
 go_ret
 exact ⟨rfl,rfl⟩
def zero8:Array Value:=#[.int .i64 0,.int .i64 0,.int .i64 0,.int .i64 0,.int .i64 0,.int .i64 0,.slice none 0 0,.map none]
def NobP (w:World) (p:Option Addr):Prop:=p=none∨∃ g,p=some ⟨g,0,none⟩∧w.heap[g]? = some (.cells zero8 60 (0,0))
theorem made_nob {p:Option Addr} (h:NobP w p):Calls Tryz.prog 40 #[.pointer p] w fun e w'=>e=.returned (.bool false)∧w=w':=by
 rcases h with rfl | ⟨g,rfl,h⟩
 ·go_enter Tryz.func40,Tryz.ntmps40
  go_wp2_with fail
  go_ret
  exact ⟨rfl,rfl⟩
 ·have c7:w.cell? ⟨g,7,none⟩=some (.map none):=row_cell h 7
  have hne:=mapNe w
  clear h
  go_enter Tryz.func40,Tryz.ntmps40
  go_wp2_with fail
  go_ret
  exact ⟨rfl,rfl⟩
def CellsLeft (cs:Array Value) (w:World) (e:Ending) (w':World):Prop:=e=.returned (.agg cs)∧Below w.heap.size w w'
theorem ornone_row (n s a b c d:Int) (dp:Option Addr) (dn dc:Nat) (mp:Option Nat) (g:Nat) (w:World) (hg:w.heap[g]? = some (.cells #[.int .i64 n,.int .i64 s,.int .i64 a,.int .i64 b,.int .i64 c,.int .i64 d,.slice dp dn dc,.map mp] 60 (0,0))) :
  Calls Tryz.prog 31 #[.pointer (some ⟨g,0,none⟩)] w (CellsLeft #[.int .i64 n,.int .i64 s,.int .i64 a,.int .i64 b,.int .i64 c,.int .i64 d,.slice dp dn dc,.map mp] w):=by
 have hbz:Below w.heap.size w (w.alloc (.cells #[.int .i64 0,.int .i64 0,.int .i64 0,.int .i64 0,.int .i64 0,.int .i64 0,.slice none 0 0,.map none] 60)):=(Below.refl _ _).alloc (Nat.le_refl _) _
 have hg2:=(hbz.block g (Array.getElem?_eq_some_iff.1 hg).1).trans hg
 have c0:(w.alloc (.cells #[.int .i64 0,.int .i64 0,.int .i64 0,.int .i64 0,.int .i64 0,.int .i64 0,.slice none 0 0,.map none] 60)).cell? ⟨g,0,none⟩=some (.int .i64 n):=row_cell hg2 0
 have c1:(w.alloc (.cells #[.int .i64 0,.int .i64 0,.int .i64 0,.int .i64 0,.int .i64 0,.int .i64 0,.slice none 0 0,.map none] 60)).cell? ⟨g,1,none⟩=some (.int .i64 s):=row_cell hg2 1
 have c2:(w.alloc (.cells #[.int .i64 0,.int .i64 0,.int .i64 0,.int .i64 0,.int .i64 0,.int .i64 0,.slice none 0 0,.map none] 60)).cell? ⟨g,2,none⟩=some (.int .i64 a):=row_cell hg2 2
 have c3:(w.alloc (.cells #[.int .i64 0,.int .i64 0,.int .i64 0,.int .i64 0,.int .i64 0,.int .i64 0,.slice none 0 0,.map none] 60)).cell? ⟨g,3,none⟩=some (.int .i64 b):=row_cell hg2 3
 have c4:(w.alloc (.cells #[.int .i64 0,.int .i64 0,.int .i64 0,.int .i64 0,.int .i64 0,.int .i64 0,.slice none 0 0,.map none] 60)).cell? ⟨g,4,none⟩=some (.int .i64 c):=row_cell hg2 4
 have c5:(w.alloc (.cells #[.int .i64 0,.int .i64 0,.int .i64 0,.int .i64 0,.int .i64 0,.int .i64 0,.slice none 0 0,.map none] 60)).cell? ⟨g,5,none⟩=some (.int .i64 d):=row_cell hg2 5
 have c6:(w.alloc (.cells #[.int .i64 0,.int .i64 0,.int .i64 0,.int .i64 0,.int .i64 0,.int .i64 0,.slice none 0 0,.map none] 60)).cell? ⟨g,6,none⟩=some (.slice dp dn dc):=row_cell hg2 6
 have c7:(w.alloc (.cells #[.int .i64 0,.int .i64 0,.int .i64 0,.int .i64 0,.int .i64 0,.int .i64 0,.slice none 0 0,.map none] 60)).cell? ⟨g,7,none⟩=some (.map mp):=row_cell hg2 7
 obtain ⟨Y,hY⟩:∃ Y:Array Value,#[.int .i64 n,.int .i64 s,.int .i64 a,.int .i64 b,.int .i64 c,.int .i64 d,.slice dp dn dc,.map mp]=Y:=⟨_,rfl⟩
 have hxs:Y.size=8:=by rw [← hY];rfl
 have hx1:Y.all (·.oneCell')=true:=by rw [← hY];simp [Value.oneCell']
 have hz:(w.alloc (.cells #[.int .i64 0,.int .i64 0,.int .i64 0,.int .i64 0,.int .i64 0,.int .i64 0,.slice none 0 0,.map none] 60)).heap[w.heap.size]? = some (.cells #[.int .i64 0,.int .i64 0,.int .i64 0,.int .i64 0,.int .i64 0,.int .i64 0,.slice none 0 0,.map none] 60 (0,0)):=heap_alloc_new _ _
 have hi:(Tryz.prog.info? 60).map (·.size)=some Y.size:=by rw [hxs];exact info8
 have HG:=Lib.hid (setRow_heap (w.alloc (.cells #[.int .i64 0,.int .i64 0,.int .i64 0,.int .i64 0,.int .i64 0,.int .i64 0,.slice none 0 0,.map none] 60)) w.heap.size _ Y _ _ hz)
 have hba:Below w.heap.size w ((w.alloc (.cells #[.int .i64 0,.int .i64 0,.int .i64 0,.int .i64 0,.int .i64 0,.int .i64 0,.slice none 0 0,.map none] 60)).setRow w.heap.size Y):=hbz.trans ⟨rfl,rfl,rfl,by simp [World.setRow],fun k hk=>setRow_other _ _ k Y (by omega)⟩
 have HB:=Lib.hid hba
 have HI:=Lib.hid hi
 have HXS:Hid ((#[.int .i64 0,.int .i64 0,.int .i64 0,.int .i64 0,.int .i64 0,.int .i64 0,.slice none 0 0,.map none]:Array Value).size=Y.size):=Lib.hid (by rw [hxs];rfl)
 have HX1:=Lib.hid hx1
 have HZ:=Lib.hid hz
 have HX:=Lib.hid hY
 rw [hY]
 clear hba hbz hg hg2 hY hz hi hx1 hxs
 go_enter Tryz.func31,Tryz.ntmps31
 go_wp2_with (go_loud (refine wpList_store_row rfl 60 (.tmp 2) (.tmp 8) rfl w.heap.size Y rfl (by rw [← HX.out];rfl) 60 #[.int .i64 0,.int .i64 0,.int .i64 0,.int .i64 0,.int .i64 0,.int .i64 0,.slice none 0 0,.map none] HZ.out HI.out HXS.out HX1.out ?_))
 refine bodyPost_ret (v:=.agg Y) (results_cell_row rfl _ _ w.heap.size 60 Y (0,0) _ rfl HG.out Tryz.underlying60 rfl HI.out) rfl ⟨rfl,HB.out⟩
theorem ornone_none (w:World):Calls Tryz.prog 31 #[.pointer none] w (CellsLeft zero8 w):=by
 obtain ⟨q,hq⟩:∃ q,w.heap.size=q:=⟨_,rfl⟩
 obtain ⟨wa,hwa⟩:∃ wa,w.alloc (.cells #[.int .i64 0,.int .i64 0,.int .i64 0,.int .i64 0,.int .i64 0,.int .i64 0,.slice none 0 0,.map none] 60)=wa:=⟨_,rfl⟩
 have HB:=Lib.hid (show Below w.heap.size w wa by rw [← hwa];exact (Below.refl _ _).alloc (Nat.le_refl _) _)
 have HG:Hid (wa.heap[q]? = some (.cells zero8 60 (0,0))):=Lib.hid (by rw [← hwa,← hq];exact heap_alloc_new _ _)
 have HWA:=Lib.hid hwa
 clear hwa
 go_enter Tryz.func31,Tryz.ntmps31
 go_wp2_with fail
 rw [HWA.out]
 refine bodyPost_ret (results_row1 (p:=2) rfl Tryz.underlying60 rfl _ (by exact info8) _ _ q rfl HG.out) rfl ⟨rfl,HB.out⟩
theorem ornone_nob {p:Option Addr} (h:NobP w p):Calls Tryz.prog 31 #[.pointer p] w (CellsLeft zero8 w):=by
 rcases h with rfl | ⟨g,rfl,h⟩
 ·exact ornone_none w
 ·exact ornone_row 0 0 0 0 0 0 none 0 0 none g w h
end Go.Proofs.YtidhgicajlaafaaGreat.MX
