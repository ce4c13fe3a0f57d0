import Derived.Test.YtidhgicajlaafaaGreatZD21
import Derived.Test.YtidhgicajlaafaaGreatZD32
set_option maxRecDepth 100000
set_option maxHeartbeats 8000000
set_option linter.unusedVariables false
set_option linter.unusedSimpArgs false
namespace Go.Proofs.YtidhgicajlaafaaGreat.MX
open Go Go.RowKit MM EM SM
open SG (PostD Tab)
open EV (docC)
open RM (rowsE)
theorem ix_row {w:World} {g:Nat} {l:List Doc} {dv mv:Value} (h:w.heap[g]? = some (.cells (ixA l dv mv) 60 (0,0))):Row8 w g (l.length:Int) (sizeM l:Int) (timesM l).1 (timesM l).2.1 (seqsM l).1 (seqsM l).2 dv mv:=h
theorem ix_snoc (l:List Doc) (d:Doc) (dv mv:Value):ixA (l++[d]) dv mv=#[.int .i64 ((l.length:Int)+1),.int .i64 ((sizeM l:Int)+(16+sizeF d.2.2:Nat)),.int .i64 (min (if (l.length:Int)=0 then d.2.1 else (timesM l).1) d.2.1),.int .i64 (max (if (l.length:Int)=0 then d.2.1 else (timesM l).2.1) d.2.1),.int .i64 (if (l.length:Int)=0 then d.1 else (seqsM l).1),.int .i64 d.1,dv,mv]:=by
 unfold ixA
 have e1:sizeM (l++[d])=sizeM l+(16+sizeF d.2.2):=by rw [sizeM_append];simp [sizeM,sizeE]
 rw [e1,seqsM_app,List.length_append,List.length_singleton]
 cases l with
 | nil=>simp [timesM,sizeM,seqsM]
 | cons x r =>
   rw [timesM_append (by simp) d]
   have h0:¬ (((x::r).length:Int)=0):=by simp;omega
   rw [if_neg h0,if_neg h0,if_neg h0,if_neg (by simp)]
   simp
theorem row_snoc {w:World} {g:Nat} {l:List Doc} {d:Doc} {dv mv:Value} (h:Row8 w g ((l.length:Int)+1) ((sizeM l:Int)+(16+sizeF d.2.2:Nat)) (min (if (l.length:Int)=0 then d.2.1 else (timesM l).1) d.2.1) (max (if (l.length:Int)=0 then d.2.1 else (timesM l).2.1) d.2.1) (if (l.length:Int)=0 then d.1 else (seqsM l).1) d.1 dv mv) :
  w.heap[g]? = some (.cells (ixA (l++[d]) dv mv) 60 (0,0)):=by
 rw [ix_snoc]
 exact h
section
variable {A U D X : Nat → Prop} {w w' : World} {g mb n : Nat} {F : List UInt8 → Option Value} {dv : Value} {T : List (EM.Tr PostD)} {l lc : List Doc}
theorem IdxD.own (h:IdxD A U D w g mb X F dv T l lc) {b:Nat} (hb:dv.ownBlock=some b):¬ D b:=(OwnS.lt h.docs b hb).2
theorem IdxD.start (h:IdxD A U D w g mb X F dv T l lc):IdxD (Since A w.heap.size w.heap.size) U D w g mb X F dv T l lc :=
 ⟨h.cells,h.rows,h.docs,.inl h.ag,fun b hb=>⟨.inl (h.au b hb).1,(h.au b hb).2⟩,fun b hb=>⟨.inl (h.ad b hb).1,(h.ad b hb).2⟩,fun b hb=>⟨.inl (h.ao b hb).1,(h.ao b hb).2⟩,fun b hb=>hb.elim (h.alt b) fun h=>h.2⟩
theorem IdxD.grow (h:IdxD (Since A n w.heap.size) U D w g mb X F dv T l lc) (hn:n≤w.heap.size) (hb:Below w.heap.size w w'):IdxD (Since A n w'.heap.size) U D w' g mb X F dv T l lc:=by
 have h':=h.keep (kep_below (fun _=>True) hb) fun _ _=>trivial
 exact ⟨h'.cells,h'.rows,h'.docs,h.ag.le hb.size,fun b hb'=>⟨(h.au b hb').1.le hb.size,(h.au b hb').2⟩,fun b hb'=>⟨(h.ad b hb').1.le hb.size,(h.ad b hb').2⟩,fun b hb'=>⟨(h.ao b hb').1.le hb.size,(h.ao b hb').2⟩,fun b hb'=>hb'.elim (fun h1=>Nat.lt_of_lt_of_le (h.alt b (.inl h1)) hb.size) fun h=>h.2⟩
theorem IdxD.more {q:Nat} (h:IdxD (Since A n w.heap.size) U D w g mb X F dv T l lc) (hn:n≤q) (hq:∀ b,q≤b→b<w.heap.size→b≠g∧¬ U b∧dv.ownBlock≠some b):IdxD (Since A n w.heap.size) U (fun b=>D b∨(q≤b∧b<w.heap.size)) w g mb X F dv T l lc :=
 ⟨h.cells,h.rows,OwnS.weak h.docs (fun _ _ hb=>.inl hb) fun b hb hd=>hd.elim (h.own hb) fun hd=>(hq b hd.1 hd.2).2.2 hb,h.ag,h.au,fun b hb=>hb.elim (h.ad b) fun hb=>⟨.inr ⟨by omega,hb.2⟩,(hq b hb.1 hb.2).1,(hq b hb.1 hb.2).2.1⟩,h.ao,h.alt⟩
theorem IdxD.rowed {T':List (EM.Tr PostD)} (h:IdxD (Since A n w.heap.size) U D w g mb X F dv T l lc) (hn:n≤w.heap.size) {X':Nat→Prop} {F':List UInt8→Option Value} (hr:RowsU (Since U w.heap.size w'.heap.size) mb T' X' F' w') (hk:Kep (fun b=>¬ U b) w w') :
  IdxD (Since A n w'.heap.size) (Since U w.heap.size w'.heap.size) D w' g mb X' F' dv T' l lc:=by
 have hgU:¬ U g:=fun hg=>(h.au g hg).2 rfl
 have hlt:∀ b,Since A n w.heap.size b→b<w.heap.size:=h.alt
 have hS:∀ b,Since A n w.heap.size b→¬ U b→¬ Since U w.heap.size w'.heap.size b:=fun b hb hu hs=>hs.elim hu fun h1=>by have:=hlt b hb;omega
 refine ⟨(hk.block g (hlt g h.ag) hgU).trans h.cells,hr,OwnS.keep h.docs hk (fun b _ hb=>(h.ad b hb).2.2) fun b hb=>(h.ao b hb).2.2,h.ag.le hk.size,fun b hb => ?_,fun b hb => ?_,fun b hb => ?_,fun b hb => ?_⟩
 ·rcases hb with hb | hb
  ·exact ⟨(h.au b hb).1.le hk.size,(h.au b hb).2⟩
  ·exact ⟨.inr ⟨by omega,hb.2⟩,fun e=>by have:=hlt g h.ag;omega⟩
 ·obtain ⟨h1,h2,h3⟩:=h.ad b hb
  exact ⟨h1.le hk.size,h2,hS b h1 h3⟩
 ·obtain ⟨h1,h2,h3⟩:=h.ao b hb
  exact ⟨h1.le hk.size,h2,hS b h1 h3⟩
 ·rcases hb with hb | hb
  ·exact Nat.lt_of_lt_of_le (hlt b (.inl hb)) hk.size
  ·exact hb.2
theorem IdxD.docd {w3:World} {v':Value} {l':List Doc} (h:IdxD (Since A n w.heap.size) U D w g mb X F dv T l lc) (hn:n≤w.heap.size) (hk:Kep (fun b=>dv.ownBlock≠some b) w w3) (ho:OwnS docC 67 D w3 v' l') (hg:∀ b,v'.ownBlock=some b→dv.ownBlock=some b∨w.heap.size≤b) :
  IdxD (Since A n w3.heap.size) U D (w3.setCell ⟨g,6,none⟩ v') g mb X F v' T l' lc:=by
 have hlt:∀ b,Since A n w.heap.size b→b<w.heap.size:=h.alt
 have hk2:Kep (fun b=>b≠g) w3 (w3.setCell ⟨g,6,none⟩ v'):=kep_set (by simp) _
 have hgo:dv.ownBlock≠some g:=fun e=>(h.ao g e).2.1 rfl
 have hgl:=hlt g h.ag
 have hr3:Row8 w3 g (lc.length:Int) (sizeM lc:Int) (timesM lc).1 (timesM lc).2.1 (seqsM lc).1 (seqsM lc).2 dv (.map (some mb)):=ix_row ((hk.block g hgl hgo).trans h.cells)
 have hsz:(w3.setCell ⟨g,6,none⟩ v').heap.size=w3.heap.size:=by simp
 refine ⟨hr3.s6 v',(h.rows.keep hk fun b _ hb e=>(h.ao b e).2.2 hb).keep hk2 fun b _ hb=>(h.au b hb).2,OwnS.keep ho hk2 (fun b _ hb=>(h.ad b hb).2.1) fun b hb e => ?_,h.ag.le hk.size,fun b hb=>⟨(h.au b hb).1.le hk.size,(h.au b hb).2⟩,fun b hb=>⟨(h.ad b hb).1.le hk.size,(h.ad b hb).2⟩,fun b hb => ?_,fun b hb => ?_⟩
 ·rcases hg b hb with h1 | h1
  ·exact (h.ao b h1).2.1 e
  ·omega
 ·rcases hg b hb with h1 | h1
  ·exact ⟨(h.ao b h1).1.le hk.size,(h.ao b h1).2⟩
  ·exact ⟨.inr ⟨by omega,(OwnS.lt ho b hb).1⟩,by omega,fun hu=>by have:=hlt b (h.au b hu).1;omega⟩
 ·rw [hsz]
  rcases hb with hb | hb
  ·exact Nat.lt_of_lt_of_le (hlt b (.inl hb)) hk.size
  ·exact hb.2
theorem IdxD.counted {lc':List Doc} (h:IdxD (Since A n w.heap.size) U D w g mb X F dv T l lc) (hn:n≤w.heap.size) (hk:Kep (fun b=>b≠g) w w') (hc:w'.heap[g]? = some (.cells (ixA lc' dv (.map (some mb))) 60 (0,0))):IdxD (Since A n w'.heap.size) U D w' g mb X F dv T l lc' :=
 ⟨hc,h.rows.keep hk fun b _ hb=>(h.au b hb).2,OwnS.keep h.docs hk (fun b _ hb=>(h.ad b hb).2.1) fun b hb=>(h.ao b hb).2.1,h.ag.le hk.size,fun b hb=>⟨(h.au b hb).1.le hk.size,(h.au b hb).2⟩,fun b hb=>⟨(h.ad b hb).1.le hk.size,(h.ad b hb).2⟩,
  fun b hb=>⟨(h.ao b hb).1.le hk.size,(h.ao b hb).2⟩,fun b hb=>hb.elim (fun h1=>Nat.lt_of_lt_of_le (h.alt b (.inl h1)) hk.size) fun h1=>h1.2⟩
end
end Go.Proofs.YtidhgicajlaafaaGreat.MX
namespace Go.Proofs.YtidhgicajlaafaaGreat.MX
open Go Go.RowKit MM Go.Maps EM SM
open SG (PostD postC Tab)
def wclr (w:World) (mb c:Nat):World:={ w with heap:=w.heap.setIfInBounds mb (.map #[] c) }
section
variable {w : World} {mb c : Nat} {es : Array MapEntry}
theorem run_clr (hb:w.heap[mb]? = some (.map es c)) (ty:TypeId):(Builtin.clear_ #[58] ty #[.map (some mb)]).run Tryz.prog w=.ok (.tuple #[]) (wclr w mb c):=by
 simp [Builtin.clear_,run_underlying Tryz.underlying58,MapKept.run_getObj_map hb,MapKept.run_setObj_map _ hb,Result.andThen,wclr]
theorem clr_kep:Kep (fun b=>b≠mb) w (wclr w mb c) :=
 ⟨rfl,rfl,rfl,by unfold wclr;simp,fun b _ hne=>by unfold wclr;simp only [Array.getElem?_setIfInBounds];rw [if_neg (fun e=>hne e.symm)]⟩
theorem clr_at (hb:w.heap[mb]? = some (.map es c)):(wclr w mb c).heap[mb]? = some (.map #[] c):=by
 have hlt:=(Array.getElem?_eq_some_iff.1 hb).1
 unfold wclr
 simp [hlt]
theorem clr_map (hb:w.heap[mb]? = some (.map es c)):MapV (wclr w mb c) mb 0 (fun _=>none) :=
 ⟨.map [],⟨#[],c,clr_at hb,⟨by simp,MapKept.stamped_empty c,by simp⟩,Nat.le_refl _,rfl⟩,rfl,fun n=>⟨rfl,fun v h=>by cases h⟩⟩
end
def ClearLeft (A:Nat→Prop) (g:Nat) (w:World) (e:Ending) (w':World):Prop:=e=.returned (.tuple #[])∧Idx A w' g []∧Kep (fun b=>¬ A b) w w'
theorem one6:(#[Value.int .i64 0,.int .i64 0,.int .i64 0,.int .i64 0,.int .i64 0,.int .i64 0]:Array Value).all (·.oneCell')=true:=by simp [Value.oneCell']
theorem infoCnt:(Tryz.prog.info? 56).map (·.size)=some 6:=by kernel_rfl
theorem clear_idx {A:Nat→Prop} {w:World} {g:Nat} {l:List Doc} (h:Idx A w g l):Calls Tryz.prog 22 #[.pointer (some ⟨g,0,none⟩)] w (ClearLeft A g w):=by
 have HM:=Lib.hid (made_any h)
 obtain ⟨_,U,D,mb,X,F,dv,h⟩:=h
 obtain ⟨es,c,hmb⟩:=h.rows.tab.map.obj
 obtain ⟨hAm,hmg⟩:=h.au mb h.rows.umb
 have hr:Row8 w g (l.length:Int) (sizeM l:Int) (timesM l).1 (timesM l).2.1 (seqsM l).1 (seqsM l).2 dv (.map (some mb)):=h.cells
 obtain ⟨w1,hw1⟩:∃ w1,w.setCells g 0 [.int .i64 0,.int .i64 0,.int .i64 0,.int .i64 0,.int .i64 0,.int .i64 0]=w1:=⟨_,rfl⟩
 have hr1:Row8 w1 g 0 0 0 0 0 0 dv (.map (some mb)):=by rw [← hw1];exact (((((hr.s0 0).s1 0).s2 0).s3 0).s4 0).s5 0
 have hk1:Kep (fun b=>b≠g) w w1:=by rw [← hw1];exact (((((kep_set (fun h=>h rfl) _).trans (kep_set (fun h=>h rfl) _)).trans (kep_set (fun h=>h rfl) _)).trans (kep_set (fun h=>h rfl) _)).trans (kep_set (fun h=>h rfl) _)).trans (kep_set (fun h=>h rfl) _)
 have hth:w.there g 0 6:=fun j hj=>by
  obtain ⟨hc,hf⟩:=hr.all
  refine ⟨?_,by simpa using hf (0+j)⟩
  match j,hj with
  | 0,_=>exact Option.isSome_iff_exists.2 ⟨_,hc.1⟩
  | 1,_=>exact Option.isSome_iff_exists.2 ⟨_,hc.2.1⟩
  | 2,_=>exact Option.isSome_iff_exists.2 ⟨_,hc.2.2.1⟩
  | 3,_=>exact Option.isSome_iff_exists.2 ⟨_,hc.2.2.2.1⟩
  | 4,_=>exact Option.isSome_iff_exists.2 ⟨_,hc.2.2.2.2.1⟩
  | 5,_=>exact Option.isSome_iff_exists.2 ⟨_,hc.2.2.2.2.2.1⟩
 obtain ⟨w2,hw2⟩:∃ w2,w1.setCell ⟨g,6,none⟩ (.slice none 0 0)=w2:=⟨_,rfl⟩
 have hr2:Row8 w2 g 0 0 0 0 0 0 (.slice none 0 0) (.map (some mb)):=by rw [← hw2];exact hr1.s6 _
 have hk2:Kep (fun b=>b≠g) w w2:=by rw [← hw2];exact hk1.trans (kep_set (fun h=>h rfl) _)
 have hmb2:w2.heap[mb]? = some (.map es c):=(hk2.block mb (Array.getElem?_eq_some_iff.1 hmb).1 hmg).trans hmb
 obtain ⟨w3,hw3⟩:∃ w3,wclr w2 mb c=w3:=⟨_,rfl⟩
 have hk3:Kep (fun b=>b≠mb) w2 w3:=by rw [← hw3];exact clr_kep
 have hr3:Row8 w3 g 0 0 0 0 0 0 (.slice none 0 0) (.map (some mb)):=hr2.keep hk3 (fun e=>hmg e.symm)
 have hmv:MapV w3 mb 0 (fun _=>none):=by rw [← hw3];exact clr_map hmb2
 have hidx:Idx A w3 g []:=⟨BigM.nil,fun b=>b=mb,fun _=>False,mb,fun _=>False,fun _=>none,.slice none 0 0,{
  cells:=hr3
  rows:=⟨⟨hmv,Nat.zero_le _,fun _ h=>h.elim,fun _ _=>rfl,fun _ _ h=>(by cases h),fun _ _ _ _ _ h=>(by cases h),List.Pairwise.nil,fun _ h=>(by cases h)⟩,rfl,fun _ _ _ h=>(by cases h),fun _ h=>h.elim⟩
  docs:=OwnS.nil_ _ _ _
  ag:=h.ag
  au:=fun b hb=>by subst hb;exact ⟨hAm,hmg⟩
  ad:=fun _ h=>h.elim
  ao:=fun _ h=>(by cases h)
  alt:=fun b hb=>Nat.lt_of_lt_of_le (h.alt b hb) (Nat.le_trans hk2.size hk3.size) }⟩
 have hkA:Kep (fun b=>¬ A b) w w3:=(hk2.mono fun b hb e=>hb (by rw [e];exact h.ag)).trans (hk3.mono fun b hb e=>hb (by rw [e];exact hAm))
 have HQ:=Lib.hid (show ClearLeft A g w (.returned (.tuple #[])) w3 from ⟨rfl,hidx,hkA⟩)
 have d6:w1.cell? ⟨g,6,none⟩=some dv:=row_cell hr1 6
 have z6:=hr1.all.2 6
 have d7:w2.cell? ⟨g,7,none⟩=some (.map (some mb)):=row_cell hr2 7
 have hclr:=run_clr hmb2
 rw [hw3] at hclr
 have HW1:=Lib.hid hw1
 have HW2:=Lib.hid hw2
 have HTH:=Lib.hid hth
 clear h hmb hAm hmg hr hw1 hr1 hk1 hth hw2 hr2 hk2 hmb2 hw3 hk3 hr3 hmv hidx hkA
 go_enter Tryz.func22,Tryz.ntmps22
 go_wp2_with fail
 refine HM.out.mono ?_
 rintro e w9 ⟨rfl,rfl⟩
 go_wp2_with (first | (refine wpList_store_mid rfl 56 _ _ rfl g 0 #[.int .i64 0,.int .i64 0,.int .i64 0,.int .i64 0,.int .i64 0,.int .i64 0] rfl rfl HTH.out infoCnt one6 ?_;show wpList _ _ _ _ _ (World.setCells _ _ _ [.int .i64 0,.int .i64 0,.int .i64 0,.int .i64 0,.int .i64 0,.int .i64 0]);rw [HW1.out]) | (rw [HW2.out]))
 refine bodyPost_end (results_none rfl _ _ _) rfl ?_
 exact HQ.out
theorem clear_nob {w:World} {p:Option Addr} (h:NobP w p):Calls Tryz.prog 22 #[.pointer p] w fun e w'=>e=.returned (.tuple #[])∧w=w':=by
 have HM:=Lib.hid (made_nob h)
 clear h
 go_enter Tryz.func22,Tryz.ntmps22
 go_wp2_with fail
 refine HM.out.mono ?_
 rintro e w9 ⟨rfl,rfl⟩
 go_wp2_with fail
 refine bodyPost_ret (results_none rfl _ _ _) rfl ?_
 exact ⟨rfl,rfl⟩
end Go.Proofs.YtidhgicajlaafaaGreat.MX
