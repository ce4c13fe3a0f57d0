/-
  A range over a function, as Rfn; the rounds keep the blocks of a set (T), and of those from the range on all but cells of one type (so the iterator may have blocks of its own). No program; no condition. The code's blocks: what its iterator yields. Conditions: fewer than 10^9 bytes.
-/
import Derived.Test.YthgfaadlnffpcaaZA34
import Derived.Test.YthgfaadlnffpcaaZA2
import Derived.RangeFuncNested
import Derived.RangeFuncBound
import Derived.RangeFuncCalls
import Derived.RangeFuncLeaves
import Derived.Shelf.Abstract
import Derived.Shelf.RegionOpen
import Derived.OwnWalkIn
import Derived.TacticsInMore
import Derived.LoopNIn
import Derived.LoopIn
import Derived.Test.YthgfaadlnffpcaaZA39
set_option linter.unusedVariables false
namespace Go.Proofs.Ythgfaadlnffpcaa.RF
open Go Go.RowKit Go.Proofs.Ythgfaadlnffpcaa.MM

/-- The blocks that an iterator does not turn: all but its own, cells of type er from D on. -/
def FreeT (D : Nat) (er : TypeId) (A : World) (b : Nat) : Prop := ¬ (D ≤ b ∧ ∃ cur fr, A.heap[b]? = some (.cells cur er fr))
/-- What is said abides new memory, and the iterator's own blocks. -/
def GrowsT {β : Type} (D : Nat) (er : TypeId) (J : β → World → Prop) : Prop := ∀ s A B, J s A → Kep (FreeT D er A) A B → J s B
theorem Books.free {rec : LoopState → Option Code → Loop} {D0 D : Nat} {er : TypeId} {st : LoopState} {pe : Option Code} {A B : World} (h : Books rec D0 st pe A) (hk : Kep (FreeT D er A) A B) : Books rec D0 st pe B :=
  ⟨(hk.block _ h.lt (fun ⟨_, _, _, e⟩ => by rw [h.loop] at e; cases e)).trans h.loop, (hk.block _ (by have := h.lt; omega) (fun ⟨_, _, _, e⟩ => by rw [h.calls] at e; cases e)).trans h.calls⟩
/-- The blocks that a round keeps: those of T, and of those from D on the cells that are not of type e. -/
def TagT (T : Nat → Prop) (D : Nat) (e : TypeId) (W : World) (b : Nat) : Prop := T b ∨ (D ≤ b ∧ ∃ cur t fr, W.heap[b]? = some (.cells cur t fr) ∧ t ≠ e)
theorem TagT.step {T : Nat → Prop} {D : Nat} {e : TypeId} {A B : World} {i : Nat} (ht : TagT T D e A i) (h : Kep (TagT T D e A) A B) (hi : i < A.heap.size) : TagT T D e B i := by
  have hk := h.block i hi ht
  rcases ht with h1 | ⟨h1, cur, t, fr, h2, h3⟩
  · exact .inl h1
  · exact .inr ⟨h1, cur, t, fr, hk.trans h2, h3⟩
theorem TagT.trans {T : Nat → Prop} {D : Nat} {e : TypeId} {A B C : World} (h : Kep (TagT T D e A) A B) (k : Kep (TagT T D e B) B C) : Kep (TagT T D e A) A C := h.andThen k fun i hi ht => ht.step h hi
theorem tag_turn {T : Nat → Prop} {D : Nat} {e : TypeId} {l : Nat} (W : World) (o : Obj) (h : ¬ T l) (hl : l < W.heap.size) (hn : ∀ cur t fr, W.heap[l]? ≠ some (.cells cur t fr)) : Kep (TagT T D e W) W (W.putObj l o) :=
  kep_grown (grownBy_putObj' W l o) fun k hk hs => by cases hk; exact hs.elim h fun ⟨_, cur, t, fr, h2, _⟩ => hn cur t fr h2
/-- THE ITERATOR's WORD: it yields, one behind the other, xs of which S speaks (or a part, of which Sp speaks, where a round has said 'no more'); at each it vows R. Kep T a round that goes on turns nothing. -/
def VowsT {α : Type} (F : Fence) (n : Nat) (P : Program) (f : Nat) (lb : Array Value) (encs : α → Array Value) (T : Nat → Prop) (D : Nat) (et er : TypeId) (R : α → World → Prop) (S Sp : List α → Prop) (N : Nat) (w : World) : Prop :=
  ∀ (l : Nat) (J Jx : List α → World → Prop) (W : World), Below w.heap.size w W → D ≤ W.heap.size → GrowsT D er J → GrowsT D er Jx →
    (∀ pre x A, J pre A → R x A → pre.length < N → YieldAt F (n - 1) P l (encs x) A fun e B =>
      (e = .returned (.bool true) ∧ J (pre ++ [x]) B ∧ Kep (TagT T D et A) A B) ∨ (e = .returned (.bool false) ∧ Jx (pre ++ [x]) B)) →
    J [] W →
    CallsIn F n P f (#[.func (.yield l) #[] #[]] ++ lb) W fun e B => (∃ v, e = .returned v) ∧ ((∃ xs, S xs ∧ J xs B) ∨ (∃ pre, Sp pre ∧ Jx pre B))

/-- How a round's body may be left. -/
def LeftT {α : Type} (D : Nat) (T : Nat → Prop) (et : TypeId) (I Ix : List α → World → Prop) (xs : List α) (A : World) : Exit → Act → World → Prop
  | .normal, _, B => KeepsFrom D A B ∧ Kep (TagT T D et A) A B ∧ I xs B
  | .ret, _, B => KeepsFrom D A B ∧ Ix xs B
  | _, _, _ => False

variable {F : Fence} {n : Nat} {P : Program}

/-- THE LAW. -/
theorem rangeT_ {α : Type} {g : Operand} {ps : Array Tmp} {assign body : Code} {Q : Exit → Act → World → Prop} {a : Act} {w : World}
    (hro : F.round = none) (h1 : 1 ≤ n) {gf : Nat} {lb : Array Value} (hg : a.eval g = .func (.func gf) #[] lb) (hF : F.fn gf) (eg : ∀ args w, (callFunc gf args).run P w = .ok (.enter gf args) w)
    {encs : α → Array Value} {T : Nat → Prop} {et er : TypeId} {R : α → World → Prop} {S Sp : List α → Prop} {N : Nat} {w0 : World} (hseq : VowsT F (n - 1) P gf lb encs T w.heap.size et er R S Sp N w0) (hb0 : Below w0.heap.size w0 w) (hT : ∀ k, T k → k < w.heap.size)
    (hps : ∀ x, (encs x).size = ps.size) (I Ix : List α → World → Prop) (hI : OwnFrom w.heap.size I) (hIx : OwnFrom w.heap.size Ix) (hI2 : GrowsT w.heap.size er I) (hIx2 : GrowsT w.heap.size er Ix) (hR : OwnFrom w.heap.size R) (h0 : I [] w) (a₁ : α → Act)
    (hassign : ∀ (l : Nat) (x : α) (W : World) (K : Act → World → Prop), K (a₁ x) W →
      assign.wpIn (F.inRound l) (n - 1 - 1) P (Exit.then K (fun _ _ _ => False)) { tmps := (ps.zip (encs x)).foldl (fun t (p, v) => t.setIfInBounds p v) a.tmps, defers := [] } W)
    (hbody : ∀ (l : Nat) (pre : List α) (x : α) (W : World), I pre W → R x W → pre.length < N → body.wpIn (F.inRound l) (n - 1 - 1) P (LeftT w.heap.size T et I Ix (pre ++ [x]) W) (a₁ x) W)
    (hdone : ∀ (D : Nat) (xs : List α) (W : World), w.heap.size ≤ D → S xs → I xs W → W.heap[D]? = some (.deferred (some [])) → Q .normal { a with defers := { target := .collected D, args := #[] } :: a.defers } W)
    (hstop : ∀ (D : Nat) (pre : List α) (W : World), w.heap.size ≤ D → Sp pre → Ix pre W → W.heap[D]? = some (.deferred (some [])) → Code.ret.wpIn F n P Q { a with defers := { target := .collected D, args := #[] } :: a.defers } W) :
    (Code.rangeFunc g ps assign body).wpIn F n P Q a w := by
  refine wpIn_rangeFunc fun fn hfn => ?_
  rw [hro]
  obtain ⟨rec, hrec⟩ : ∃ rec : LoopState → Option Code → Loop, ∀ st pe, rec st pe = { state := st, pending := pe, fn := fn, tmps := a.tmps, params := ps, assign := assign, body := body, defers := w.heap.size } := ⟨_, fun _ _ => rfl⟩
  obtain ⟨W1, hW1⟩ : ∃ W1, (w.alloc (.deferred (some []))).alloc (.loop (rec .ready none)) = W1 := ⟨_, rfl⟩
  have hbk1 : Books rec w.heap.size .ready none W1 := by
    subst hW1
    refine ⟨?_, (Below.heap_alloc _ _ _ (by simp)).trans (World.alloc_heap_new w _)⟩
    have := World.alloc_heap_new (w.alloc (.deferred (some []))) (.loop (rec .ready none))
    rwa [World.size_alloc] at this
  have hI1 : I [] W1 := by subst hW1; exact hI.alloc _ (hI.alloc _ h0)
  have hb1 : Below w0.heap.size w0 W1 := by subst hW1; exact hb0.trans ((((Below.refl _ w).alloc (Nat.le_refl _) _).alloc (by simp) _).mono hb0.size)
  have hgrow : ∀ {I' : List α → World → Prop}, GrowsT w.heap.size er I' → ∀ {st pe}, GrowsT w.heap.size er (fun pre W => I' pre W ∧ Books rec w.heap.size st pe W) := fun h' _ _ s A B hs hk => ⟨h' s A B hs.1 hk, hs.2.free hk⟩
  have hend : ∀ {st : LoopState} {pe : Option Code} (jump : Option Code) (W : World), Books rec w.heap.size st pe W →
      (Instr.endRound (w.heap.size + 1) jump).run P W = .ok (.bool jump.isNone) (W.putObj (w.heap.size + 1) (.loop (rec (if jump.isNone then .ready else .done) jump))) := fun jump W h => by
    have := run_endRound (P := P) jump h.loop
    rw [hrec] at this ⊢
    exact this
  have hover : ∀ {st : LoopState} {pe : Option Code} (W : World), st ≠ .busy → Books rec w.heap.size st pe W → (Instr.endLoop (w.heap.size + 1)).run P W = .ok pe (W.putObj (w.heap.size + 1) (.loop (rec .exhausted pe))) := fun W hst h => by
    have := run_endLoop (P := P) h.loop (by rw [hrec]; exact hst)
    rw [hrec] at this ⊢
    exact this
  refine ⟨w.heap.size + 1, [{ target := .collected w.heap.size, args := #[] }], W1, { target := .fn (.func gf) lb, args := #[.func (.yield (w.heap.size + 1)) #[] #[]] }, W1, gf,
    #[.func (.yield (w.heap.size + 1)) #[] #[]] ++ lb, W1, ?_, ?_, ?_, ?_, fun _ => h1, ?_⟩
  · rw [← hW1, hrec]
    exact run_enterLoop_outer _ _ _ _ _
  · simp only [resolve, hg]
    simp [go_sem]
  · intro f' hf'
    simp [Target.leads] at hf'
    subst hf'
    exact hF
  · simp [invoke, go_sem, eg]
  refine (hseq (w.heap.size + 1) (fun pre W => I pre W ∧ Books rec w.heap.size .ready none W) (fun pre W => Ix pre W ∧ Books rec w.heap.size .done (some .ret) W) W1 hb1 (by subst hW1; simp; omega) (hgrow hI2) (hgrow hIx2) ?_ ⟨hI1, hbk1⟩).mono ?_
  · rintro pre x A ⟨hi, hbk⟩ hx hlen
    have hy := run_yield (P := P) (args := encs x) hbk.loop (by rw [hrec]; exact hps x)
    rw [hrec] at hy
    have hbegin := run_beginRound (P := P) hbk.loop (by rw [hrec])
    have hbusy : ({ rec .ready none with state := .busy } : Loop) = rec .busy none := by rw [hrec, hrec]
    rw [hbusy] at hbegin
    refine ⟨fn, _, assign, body, hy, roundIn_of_wpIn hfn (hassign _ x A _ ⟨_, hbegin, ?_⟩)⟩
    have hbk2 : Books rec w.heap.size .busy none (A.putObj (w.heap.size + 1) (.loop (rec .busy none))) := hbk.turn
    refine wpIn_mono (hbody _ pre x _ (hI.putObj _ hi (by omega) hbk.loop rfl) (hR.putObj _ hx (by omega) hbk.loop rfl) hlen) ?_
    have hb2 : Kep (TagT T w.heap.size et A) A (A.putObj (w.heap.size + 1) (.loop (rec .busy none))) := tag_turn _ _ (fun h => by have := hT _ h; omega) hbk.lt (fun _ _ _ h => by rw [hbk.loop] at h; cases h)
    rintro e a3 B hp
    cases e with
    | normal =>
      obtain ⟨hk, hbl, hi3⟩ := hp
      have hbk3 := hbk2.keeps hk
      exact ⟨_, _, hend none B hbk3, .inl ⟨rfl, ⟨hI.putObj _ hi3 (by omega) hbk3.loop rfl, hbk3.turn⟩, TagT.trans (TagT.trans hb2 hbl) (tag_turn _ _ (fun h => by have := hT _ h; omega) hbk3.lt (fun _ _ _ h => by rw [hbk3.loop] at h; cases h))⟩⟩
    | ret =>
      obtain ⟨hk, hi3⟩ := hp
      have hbk3 := hbk2.keeps hk
      exact ⟨_, _, hend (some .ret) B hbk3, .inr ⟨rfl, hIx.putObj _ hi3 (by omega) hbk3.loop rfl, hbk3.turn⟩⟩
    | exit id => exact hp.elim
    | goto t => exact hp.elim
    | panic ch => exact hp.elim
    | outgrown => exact hp.elim
  · rintro e B ⟨⟨v, rfl⟩, (⟨xs, hS, hi, hbk⟩ | ⟨pre, hSp, hi, hbk⟩)⟩
    · exact ⟨none, _, hover B (by simp) hbk, hdone _ xs _ (Nat.le_refl _) hS (hI.putObj _ hi (by omega) hbk.loop rfl) (hbk.turn (st' := .exhausted)).calls⟩
    · exact ⟨some .ret, _, hover B (by simp) hbk, hstop _ pre _ (Nat.le_refl _) hSp (hIx.putObj _ hi (by omega) hbk.loop rfl) (hbk.turn (st' := .exhausted)).calls⟩
end Go.Proofs.Ythgfaadlnffpcaa.RF
set_option linter.unusedVariables false
namespace Go.Proofs.Ythgfaadlnffpcaa.SR
open Go Go.RowKit Go.Shelf Go.Proofs.Ythgfaadlnffpcaa.MM Go.Proofs.Ythgfaadlnffpcaa.VM Go.Proofs.Ythgfaadlnffpcaa.SM
open Go.Proofs.Ythgfaadlnffpcaa.EV (fldC docC docE doc_on IsF NewF)
open Go.Proofs.Ythgfaadlnffpcaa.RF (VowsT GrowsT FreeT TagT)
attribute [local go_sem] Oper.semAt_some

/-! ### what is yielded -/
abbrev Part := Value × (List Doc × Int)
abbrev encQ (x : Part) : Array Value := #[x.1, .int .i64 x.2.2]
/-- Blocks of fields, from D on. -/
def FldS (D : Nat) (W : World) (b : Nat) : Prop := D ≤ b ∧ IsF W b
def VowQ (D : Nat) (x : Part) (W : World) : Prop := x.2.1.length ≤ 16 ∧ (x.2.2 = 0 → x.2.1 ≠ []) ∧ SrcX docC (FldS D W) W x.1 x.2.1
/-- All that is told of bytes: blocks' docs, and an error's number behind them. -/
def toldS (b : List UInt8) : List (List Doc × Int) := (allSt b).1.map (fun c => (c, (0 : Int))) ++ if (allSt b).2.2 = true ∨ (allSt b).2.1 ≠ [] then [([], 120)] else []
theorem src_of_own {D : Nat} {w : World} {v : Value} {ds : List Doc} (h : DocsOwn D w v ds) : SrcX docC (FldS D w) w v ds := by
  obtain ⟨S, h1, raw, ho, hm⟩ := h
  rcases ho.2 with ⟨rfl, h0⟩ | ⟨g, cap, cur, rfl, hg, hh, hnc, hmx, hs, ht⟩
  · have : ds = [] := List.eq_nil_of_length_eq_zero h0
    subst this
    exact (ROn.nil_ _ _).src
  · refine ⟨some ⟨g, 0, none⟩, cap, raw, rfl, hnc, (fun h => by cases h), hm.keep (Kep.refl _ _) (fun b _ hb => h1 b hb), .inr ⟨g, 0, rfl, fun j u hj => ?_⟩⟩
    have := Lib.cells_of_row hh (ds.length * docC.size) j u (by rw [ht]; exact hj)
    rw [add_at] at this
    exact this

theorem blk_docs (h : Head) (a : Int) (l : List UInt8) (o : Bool) (hn : 0 ≤ h.1) (h16 : h.1 ≤ 16) : (blkSt h a l o).2.2 = false → (blkSt h a l o).1.length ≤ 16 := by
  intro hb
  unfold blkSt at hb ⊢
  by_cases h1 : (l.length : Int) < h.2.2
  · rw [if_pos h1] at hb; cases hb
  · rw [if_neg h1] at hb ⊢
    dsimp only at hb ⊢
    by_cases h2 : (docsSt h.1.toNat a (l.take h.2.2.toNat) false).2.2.2 = true ∨ (docsSt h.1.toNat a (l.take h.2.2.toNat) false).2.2.1 ≠ [] ∨ (docsSt h.1.toNat a (l.take h.2.2.toNat) false).2.1 ≠ h.2.1
    · rw [if_pos h2] at hb; cases hb
    · rw [if_neg h2]
      dsimp only
      have e1 : (docsSt h.1.toNat a (l.take h.2.2.toNat) false).2.2.2 = false := by
        cases hc : (docsSt h.1.toNat a (l.take h.2.2.toNat) false).2.2.2 with
        | false => rfl
        | true => exact absurd (.inl hc) h2
      have := (docs_back _ _ _ _ e1).2.1
      omega
theorem heads_count : ∀ (f n : Nat) (l : List UInt8) (o : Bool), (headsSt f n l o).1.length ≤ f
  | 0, _, _, _ => by simp [headsSt]
  | f + 1, n, l, o => by
    rw [headsSt]
    by_cases hn : n = 0
    · rw [if_pos hn]; simp
    · rw [if_neg hn]
      have := heads_count f (n - 16) (numSt (numSt 1099511627776 l o).2.1.length (numSt 1099511627776 l o).2.1 (numSt 1099511627776 l o).2.2).2.1 (numSt (numSt 1099511627776 l o).2.1.length (numSt 1099511627776 l o).2.1 (numSt 1099511627776 l o).2.2).2.2
      dsimp only
      rw [List.length_cons]
      omega
theorem heads_left : ∀ (f n : Nat) (l : List UInt8) (o : Bool), (headsSt f n l o).2.1.length ≤ l.length
  | 0, _, _, _ => by simp [headsSt]
  | f + 1, n, l, o => by
    rw [headsSt]
    by_cases hn : n = 0
    · rw [if_pos hn]; exact Nat.le_refl _
    · rw [if_neg hn]
      have e1 := num_rest 1099511627776 l o
      have e2 := num_rest (numSt 1099511627776 l o).2.1.length (numSt 1099511627776 l o).2.1 (numSt 1099511627776 l o).2.2
      have := heads_left f (n - 16) (numSt (numSt 1099511627776 l o).2.1.length (numSt 1099511627776 l o).2.1 (numSt 1099511627776 l o).2.2).2.1 (numSt (numSt 1099511627776 l o).2.1.length (numSt 1099511627776 l o).2.1 (numSt 1099511627776 l o).2.2).2.2
      dsimp only
      omega
theorem blk_left (h : Head) (a : Int) (l : List UInt8) (o : Bool) : (blkSt h a l o).2.1.length ≤ l.length := by
  unfold blkSt
  split
  · simp
  · dsimp only
    split
    · simp
    · rw [List.length_drop]; omega
theorem row_drop (hs : List Head) (a : Int) (l : List UInt8) (o : Bool) {k : Nat} (hk : k < hs.length) : rowSt (hs.drop k) a l o =
    if (blkSt hs[k] a l o).2.2 = true then ([], (blkSt hs[k] a l o).2.1, true) else
    ((blkSt hs[k] a l o).1 :: (rowSt (hs.drop (k + 1)) hs[k].2.1 (blkSt hs[k] a l o).2.1 (blkSt hs[k] a l o).2.2).1, (rowSt (hs.drop (k + 1)) hs[k].2.1 (blkSt hs[k] a l o).2.1 (blkSt hs[k] a l o).2.2).2) := by
  rw [List.drop_eq_getElem_cons hk, rowSt]
theorem row_end (hs : List Head) (a : Int) (l : List UInt8) (o : Bool) : rowSt (hs.drop hs.length) a l o = ([], l, o) := by rw [List.drop_length, rowSt]
/-- A reader's own cells. -/
theorem Rd.cells {S : Nat → Prop} {w : World} {g : Nat} {l : List UInt8} {o : Bool} (h : Rd S w g l o) : ∃ p c, w.cell? ⟨g, 0, none⟩ = some (.slice p l.length c) ∧ w.cell? ⟨g, 1, none⟩ = some (.bool o) ∧ ∃ cur fr, w.heap[g]? = some (.cells cur 93 fr) := by
  obtain ⟨v, hc, hv⟩ := h
  obtain ⟨p, c, rfl, _⟩ := hv.shape
  exact ⟨p, c, by rw [cell_of_row w g 0 _ _ _ hc]; rfl, by rw [cell_of_row w g 1 _ _ _ hc]; rfl, _, _, hc⟩
/-- What an iterator turns of its own is free. -/
theorem free_of {D q : Nat} {A B : World} (h : Kep (fun b => b ≠ q) A B) (hD : D ≤ q) (hq : ∃ cur fr, A.heap[q]? = some (.cells cur 93 fr)) : Kep (FreeT D 93 A) A B :=
  h.mono fun b hb e => hb ⟨by omega, by rw [e]; exact hq⟩
theorem free_below {D : Nat} {A B : World} (h : Below A.heap.size A B) : Kep (FreeT D 93 A) A B := kep_below _ h
end Go.Proofs.Ythgfaadlnffpcaa.SR
