/-
  A range over a function whose iterator vows, of what it hands over, a fact of the world (R), and makes memory between two rounds; its rounds go on, or return. No program; no condition.
-/
import Derived.RangeFuncBox
import Derived.RangeFuncCalls
namespace Go.Proofs.Ythgfaadlnffpcaa.RF
open Go Go.RowKit

/-- What is said abides new memory. -/
def Grows {β : Type} (J : β → World → Prop) : Prop := ∀ s A B, J s A → A.grownBy B none → J s B

/-- THE ITERATOR's WORD: it yields, one behind the other, xs of which S speaks (or a part, of which Sp speaks, where a round has said 'no more'); at each it vows R. Below n₀ a round that goes on turns nothing. -/
def Vows {α : Type} (F : Fence) (n : Nat) (P : Program) (f : Nat) (lb : Array Value) (encs : α → Array Value) (n₀ : Nat) (R : α → World → Prop) (S Sp : List α → Prop) (N : Nat) (w : World) : Prop :=
  ∀ (l : Nat) (J Jx : List α → World → Prop) (W : World), Below w.heap.size w W → Grows J → Grows Jx →
    (∀ pre x A, J pre A → R x A → pre.length < N → YieldAt F (n - 1) P l (encs x) A fun e B =>
      (e = .returned (.bool true) ∧ J (pre ++ [x]) B ∧ Below n₀ A B) ∨ (e = .returned (.bool false) ∧ Jx (pre ++ [x]) B)) →
    J [] W →
    CallsIn F n P f (#[.func (.yield l) #[] #[]] ++ lb) W fun e B => (∃ v, e = .returned v) ∧ ((∃ xs, S xs ∧ J xs B) ∨ (∃ pre, Sp pre ∧ Jx pre B))

/-- How a round's body may be left. -/
def Left {α : Type} (D n₀ : Nat) (I Ix : List α → World → Prop) (xs : List α) (A : World) : Exit → Act → World → Prop
  | .normal, _, B => KeepsFrom D A B ∧ Below n₀ A B ∧ I xs B
  | .ret, _, B => KeepsFrom D A B ∧ Ix xs B
  | _, _, _ => False

/-- THE BOOKS: the loop's record, and the block for the rounds' deferred calls. -/
structure Books (rec : LoopState → Option Code → Loop) (D : Nat) (st : LoopState) (pe : Option Code) (W : World) : Prop where
  loop : W.heap[D + 1]? = some (.loop (rec st pe))
  calls : W.heap[D]? = some (.deferred (some []))
theorem Books.lt {rec : LoopState → Option Code → Loop} {D : Nat} {st : LoopState} {pe : Option Code} {W : World} (h : Books rec D st pe W) : D + 1 < W.heap.size := (Array.getElem?_eq_some_iff.1 h.loop).1
theorem Books.grown {rec : LoopState → Option Code → Loop} {D : Nat} {st : LoopState} {pe : Option Code} {A B : World} (h : Books rec D st pe A) (hg : A.grownBy B none) : Books rec D st pe B :=
  ⟨(hg.block _ h.lt (by simp)).trans h.loop, (hg.block _ (by have := h.lt; omega) (by simp)).trans h.calls⟩
theorem Books.keeps {rec : LoopState → Option Code → Loop} {D : Nat} {st : LoopState} {pe : Option Code} {A B : World} (h : Books rec D st pe A) (hk : KeepsFrom D A B) : Books rec D st pe B :=
  ⟨hk.same _ _ (by omega) h.loop rfl, hk.same _ _ (Nat.le_refl _) h.calls rfl⟩
theorem Books.turn {rec : LoopState → Option Code → Loop} {D : Nat} {st st' : LoopState} {pe pe' : Option Code} {A : World} (h : Books rec D st pe A) : Books rec D st' pe' (A.putObj (D + 1) (.loop (rec st' pe'))) :=
  ⟨World.putObj_heap_same h.lt, (World.putObj_heap_other (by omega)).trans h.calls⟩
theorem below_turn {n₀ l : Nat} (W : World) (o : Obj) (h : n₀ ≤ l) (hl : l < W.heap.size) : Below n₀ W (W.putObj l o) :=
  (Below.refl n₀ W).grown (grownBy_putObj' W l o) (by omega) (fun k e => by cases e; exact h)

variable {F : Fence} {n : Nat} {P : Program}

/-- THE LAW. -/
theorem range_ {α : Type} {g : Operand} {ps : Array Tmp} {assign body : Code} {Q : Exit → Act → World → Prop} {a : Act} {w : World}
    (hro : F.round = none) (h1 : 1 ≤ n) {gf : Nat} {lb : Array Value} (hg : a.eval g = .func (.func gf) #[] lb) (hF : F.fn gf) (eg : ∀ args w, (callFunc gf args).run P w = .ok (.enter gf args) w)
    {encs : α → Array Value} {n₀ : Nat} {R : α → World → Prop} {S Sp : List α → Prop} {N : Nat} {w0 : World} (hseq : Vows F (n - 1) P gf lb encs n₀ R S Sp N w0) (hb0 : Below w0.heap.size w0 w) (hn₀ : n₀ ≤ w.heap.size)
    (hps : ∀ x, (encs x).size = ps.size) (I Ix : List α → World → Prop) (hI : OwnFrom w.heap.size I) (hIx : OwnFrom w.heap.size Ix) (hR : OwnFrom w.heap.size R) (h0 : I [] w) (a₁ : α → Act)
    (hassign : ∀ (l : Nat) (x : α) (W : World) (K : Act → World → Prop), K (a₁ x) W →
      assign.wpIn (F.inRound l) (n - 1 - 1) P (Exit.then K (fun _ _ _ => False)) { tmps := (ps.zip (encs x)).foldl (fun t (p, v) => t.setIfInBounds p v) a.tmps, defers := [] } W)
    (hbody : ∀ (l : Nat) (pre : List α) (x : α) (W : World), I pre W → R x W → pre.length < N → body.wpIn (F.inRound l) (n - 1 - 1) P (Left w.heap.size n₀ I Ix (pre ++ [x]) W) (a₁ x) W)
    (hdone : ∀ (D : Nat) (xs : List α) (W : World), w.heap.size ≤ D → S xs → I xs W → W.heap[D]? = some (.deferred (some [])) → Q .normal { a with defers := { target := .collected D, args := #[] } :: a.defers } W)
    (hstop : ∀ (D : Nat) (pre : List α) (W : World), w.heap.size ≤ D → Sp pre → Ix pre W → W.heap[D]? = some (.deferred (some [])) → Code.ret.wpIn F n P Q { a with defers := { target := .collected D, args := #[] } :: a.defers } W) :
    (Code.rangeFunc g ps assign body).wpIn F n P Q a w := by
  refine wpIn_rangeFunc fun fn hfn => ?_
  rw [hro]
  obtain ⟨rec, hrec⟩ : ∃ rec : LoopState → Option Code → Loop, ∀ st pe, rec st pe = { state := st, pending := pe, fn := fn, tmps := a.tmps, params := ps, assign := assign, body := body, defers := w.heap.size } := ⟨_, fun _ _ => rfl⟩
  obtain ⟨W1, hW1⟩ : ∃ W1, (w.alloc (.deferred (some []))).alloc (.loop (rec .ready none)) = W1 := ⟨_, rfl⟩
  have hbk1 : Books rec w.heap.size .ready none W1 := by
    subst hW1
    refine ⟨?_, (Below.heap_alloc _ _ _ (by simp)).trans (World.alloc_heap_new w _)⟩
    have := World.alloc_heap_new (w.alloc (.deferred (some []))) (.loop (rec .ready none))
    rwa [World.size_alloc] at this
  have hI1 : I [] W1 := by subst hW1; exact hI.alloc _ (hI.alloc _ h0)
  have hb1 : Below w0.heap.size w0 W1 := by subst hW1; exact hb0.trans ((((Below.refl _ w).alloc (Nat.le_refl _) _).alloc (by simp) _).mono hb0.size)
  have hgrow : ∀ {I' : List α → World → Prop}, OwnFrom w.heap.size I' → ∀ {st pe}, Grows (fun pre W => I' pre W ∧ Books rec w.heap.size st pe W) := fun h' _ _ s A B hs hg' => ⟨h' s A B none hs.1 hg' (fun r e => by cases e), hs.2.grown hg'⟩
  have hend : ∀ {st : LoopState} {pe : Option Code} (jump : Option Code) (W : World), Books rec w.heap.size st pe W →
      (Instr.endRound (w.heap.size + 1) jump).run P W = .ok (.bool jump.isNone) (W.putObj (w.heap.size + 1) (.loop (rec (if jump.isNone then .ready else .done) jump))) := fun jump W h => by
    have := run_endRound (P := P) jump h.loop
    rw [hrec] at this ⊢
    exact this
  have hover : ∀ {st : LoopState} {pe : Option Code} (W : World), st ≠ .busy → Books rec w.heap.size st pe W → (Instr.endLoop (w.heap.size + 1)).run P W = .ok pe (W.putObj (w.heap.size + 1) (.loop (rec .exhausted pe))) := fun W hst h => by
    have := run_endLoop (P := P) h.loop (by rw [hrec]; exact hst)
    rw [hrec] at this ⊢
    exact this
  refine ⟨w.heap.size + 1, [{ target := .collected w.heap.size, args := #[] }], W1, { target := .fn (.func gf) lb, args := #[.func (.yield (w.heap.size + 1)) #[] #[]] }, W1, gf,
    #[.func (.yield (w.heap.size + 1)) #[] #[]] ++ lb, W1, ?_, ?_, ?_, ?_, fun _ => h1, ?_⟩
  · rw [← hW1, hrec]
    exact run_enterLoop_outer _ _ _ _ _
  · simp only [resolve, hg]
    simp [go_sem]
  · intro f' hf'
    simp [Target.leads] at hf'
    subst hf'
    exact hF
  · simp [invoke, go_sem, eg]
  refine (hseq (w.heap.size + 1) (fun pre W => I pre W ∧ Books rec w.heap.size .ready none W) (fun pre W => Ix pre W ∧ Books rec w.heap.size .done (some .ret) W) W1 hb1 (hgrow hI) (hgrow hIx) ?_ ⟨hI1, hbk1⟩).mono ?_
  · rintro pre x A ⟨hi, hbk⟩ hx hlen
    have hy := run_yield (P := P) (args := encs x) hbk.loop (by rw [hrec]; exact hps x)
    rw [hrec] at hy
    have hbegin := run_beginRound (P := P) hbk.loop (by rw [hrec])
    have hbusy : ({ rec .ready none with state := .busy } : Loop) = rec .busy none := by rw [hrec, hrec]
    rw [hbusy] at hbegin
    refine ⟨fn, _, assign, body, hy, roundIn_of_wpIn hfn (hassign _ x A _ ⟨_, hbegin, ?_⟩)⟩
    have hbk2 : Books rec w.heap.size .busy none (A.putObj (w.heap.size + 1) (.loop (rec .busy none))) := hbk.turn
    refine wpIn_mono (hbody _ pre x _ (hI.putObj _ hi (by omega) hbk.loop rfl) (hR.putObj _ hx (by omega) hbk.loop rfl) hlen) ?_
    have hb2 : Below n₀ A (A.putObj (w.heap.size + 1) (.loop (rec .busy none))) := below_turn _ _ (by omega) hbk.lt
    rintro e a3 B hp
    cases e with
    | normal =>
      obtain ⟨hk, hbl, hi3⟩ := hp
      have hbk3 := hbk2.keeps hk
      exact ⟨_, _, hend none B hbk3, .inl ⟨rfl, ⟨hI.putObj _ hi3 (by omega) hbk3.loop rfl, hbk3.turn⟩, (hb2.trans hbl).trans (below_turn _ _ (by omega) hbk3.lt)⟩⟩
    | ret =>
      obtain ⟨hk, hi3⟩ := hp
      have hbk3 := hbk2.keeps hk
      exact ⟨_, _, hend (some .ret) B hbk3, .inr ⟨rfl, hIx.putObj _ hi3 (by omega) hbk3.loop rfl, hbk3.turn⟩⟩
    | exit id => exact hp.elim
    | goto t => exact hp.elim
    | panic ch => exact hp.elim
    | outgrown => exact hp.elim
  · rintro e B ⟨⟨v, rfl⟩, (⟨xs, hS, hi, hbk⟩ | ⟨pre, hSp, hi, hbk⟩)⟩
    · exact ⟨none, _, hover B (by simp) hbk, hdone _ xs _ (Nat.le_refl _) hS (hI.putObj _ hi (by omega) hbk.loop rfl) (hbk.turn (st' := .exhausted)).calls⟩
    · exact ⟨some .ret, _, hover B (by simp) hbk, hstop _ pre _ (Nat.le_refl _) hSp (hIx.putObj _ hi (by omega) hbk.loop rfl) (hbk.turn (st' := .exhausted)).calls⟩
end Go.Proofs.Ythgfaadlnffpcaa.RF
