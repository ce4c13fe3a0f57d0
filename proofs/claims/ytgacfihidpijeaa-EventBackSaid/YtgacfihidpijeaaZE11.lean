/-
  A range over a function whose iterator vows, of what it hands over, a fact of the world (R), and makes memory between two rounds; its rounds go on, or return. No program; no condition. A map from texts to rows of places, as a rising row of terms: how it is looked into, how a place is put. No condition.
-/
import Derived.RangeFuncBox
import Derived.RangeFuncCalls
import Derived.Test.YtgacfihidpijeaaZE10
import Derived.Test.YtgacfihidpijeaaZE5
import Derived.Test.YtgacfihidpijeaaZE9
namespace Go.Proofs.Ytgacfihidpijeaa.RF
open Go Go.RowKit

/-- What is said abides new memory. -/
def Grows {β : Type} (J : β → World → Prop) : Prop := ∀ s A B, J s A → A.grownBy B none → J s B

/-- THE ITERATOR's WORD: it yields, one behind the other, xs of which S speaks (or a part, of which Sp speaks, where a round has said 'no more'); at each it vows R. Below n₀ a round that goes on turns nothing. -/
def Vows {α : Type} (F : Fence) (n : Nat) (P : Program) (f : Nat) (lb : Array Value) (encs : α → Array Value) (n₀ : Nat) (R : α → World → Prop) (S Sp : List α → Prop) (N : Nat) (w : World) : Prop :=
  ∀ (l : Nat) (J Jx : List α → World → Prop) (W : World), Below w.heap.size w W → Grows J → Grows Jx →
    (∀ pre x A, J pre A → R x A → pre.length < N → YieldAt F (n - 1) P l (encs x) A fun e B =>
      (e = .returned (.bool true) ∧ J (pre ++ [x]) B ∧ Below n₀ A B) ∨ (e = .returned (.bool false) ∧ Jx (pre ++ [x]) B)) →
    J [] W →
    CallsIn F n P f (#[.func (.yield l) #[] #[]] ++ lb) W fun e B => (∃ v, e = .returned v) ∧ ((∃ xs, S xs ∧ J xs B) ∨ (∃ pre, Sp pre ∧ Jx pre B))

/-- How a round's body may be left. -/
def Left {α : Type} (D n₀ : Nat) (I Ix : List α → World → Prop) (xs : List α) (A : World) : Exit → Act → World → Prop
  | .normal, _, B => KeepsFrom D A B ∧ Below n₀ A B ∧ I xs B
  | .ret, _, B => KeepsFrom D A B ∧ Ix xs B
  | _, _, _ => False

/-- THE BOOKS: the loop's record, and the block for the rounds' deferred calls. -/
structure Books (rec : LoopState → Option Code → Loop) (D : Nat) (st : LoopState) (pe : Option Code) (W : World) : Prop where
  loop : W.heap[D + 1]? = some (.loop (rec st pe))
  calls : W.heap[D]? = some (.deferred (some []))
theorem Books.lt {rec : LoopState → Option Code → Loop} {D : Nat} {st : LoopState} {pe : Option Code} {W : World} (h : Books rec D st pe W) : D + 1 < W.heap.size := (Array.getElem?_eq_some_iff.1 h.loop).1
theorem Books.grown {rec : LoopState → Option Code → Loop} {D : Nat} {st : LoopState} {pe : Option Code} {A B : World} (h : Books rec D st pe A) (hg : A.grownBy B none) : Books rec D st pe B :=
  ⟨(hg.block _ h.lt (by simp)).trans h.loop, (hg.block _ (by have := h.lt; omega) (by simp)).trans h.calls⟩
theorem Books.keeps {rec : LoopState → Option Code → Loop} {D : Nat} {st : LoopState} {pe : Option Code} {A B : World} (h : Books rec D st pe A) (hk : KeepsFrom D A B) : Books rec D st pe B :=
  ⟨hk.same _ _ (by omega) h.loop rfl, hk.same _ _ (Nat.le_refl _) h.calls rfl⟩
theorem Books.turn {rec : LoopState → Option Code → Loop} {D : Nat} {st st' : LoopState} {pe pe' : Option Code} {A : World} (h : Books rec D st pe A) : Books rec D st' pe' (A.putObj (D + 1) (.loop (rec st' pe'))) :=
  ⟨World.putObj_heap_same h.lt, (World.putObj_heap_other (by omega)).trans h.calls⟩
theorem below_turn {n₀ l : Nat} (W : World) (o : Obj) (h : n₀ ≤ l) (hl : l < W.heap.size) : Below n₀ W (W.putObj l o) :=
  (Below.refl n₀ W).grown (grownBy_putObj' W l o) (by omega) (fun k e => by cases e; exact h)

variable {F : Fence} {n : Nat} {P : Program}

/-- THE LAW. -/
theorem range_ {α : Type} {g : Operand} {ps : Array Tmp} {assign body : Code} {Q : Exit → Act → World → Prop} {a : Act} {w : World}
    (hro : F.round = none) (h1 : 1 ≤ n) {gf : Nat} {lb : Array Value} (hg : a.eval g = .func (.func gf) #[] lb) (hF : F.fn gf) (eg : ∀ args w, (callFunc gf args).run P w = .ok (.enter gf args) w)
    {encs : α → Array Value} {n₀ : Nat} {R : α → World → Prop} {S Sp : List α → Prop} {N : Nat} {w0 : World} (hseq : Vows F (n - 1) P gf lb encs n₀ R S Sp N w0) (hb0 : Below w0.heap.size w0 w) (hn₀ : n₀ ≤ w.heap.size)
    (hps : ∀ x, (encs x).size = ps.size) (I Ix : List α → World → Prop) (hI : OwnFrom w.heap.size I) (hIx : OwnFrom w.heap.size Ix) (hR : OwnFrom w.heap.size R) (h0 : I [] w) (a₁ : α → Act)
    (hassign : ∀ (l : Nat) (x : α) (W : World) (K : Act → World → Prop), K (a₁ x) W →
      assign.wpIn (F.inRound l) (n - 1 - 1) P (Exit.then K (fun _ _ _ => False)) { tmps := (ps.zip (encs x)).foldl (fun t (p, v) => t.setIfInBounds p v) a.tmps, defers := [] } W)
    (hbody : ∀ (l : Nat) (pre : List α) (x : α) (W : World), I pre W → R x W → pre.length < N → body.wpIn (F.inRound l) (n - 1 - 1) P (Left w.heap.size n₀ I Ix (pre ++ [x]) W) (a₁ x) W)
    (hdone : ∀ (D : Nat) (xs : List α) (W : World), w.heap.size ≤ D → S xs → I xs W → W.heap[D]? = some (.deferred (some [])) → Q .normal { a with defers := { target := .collected D, args := #[] } :: a.defers } W)
    (hstop : ∀ (D : Nat) (pre : List α) (W : World), w.heap.size ≤ D → Sp pre → Ix pre W → W.heap[D]? = some (.deferred (some [])) → Code.ret.wpIn F n P Q { a with defers := { target := .collected D, args := #[] } :: a.defers } W) :
    (Code.rangeFunc g ps assign body).wpIn F n P Q a w := by
  refine wpIn_rangeFunc fun fn hfn => ?_
  rw [hro]
  obtain ⟨rec, hrec⟩ : ∃ rec : LoopState → Option Code → Loop, ∀ st pe, rec st pe = { state := st, pending := pe, fn := fn, tmps := a.tmps, params := ps, assign := assign, body := body, defers := w.heap.size } := ⟨_, fun _ _ => rfl⟩
  obtain ⟨W1, hW1⟩ : ∃ W1, (w.alloc (.deferred (some []))).alloc (.loop (rec .ready none)) = W1 := ⟨_, rfl⟩
  have hbk1 : Books rec w.heap.size .ready none W1 := by
    subst hW1
    refine ⟨?_, (Below.heap_alloc _ _ _ (by simp)).trans (World.alloc_heap_new w _)⟩
    have := World.alloc_heap_new (w.alloc (.deferred (some []))) (.loop (rec .ready none))
    rwa [World.size_alloc] at this
  have hI1 : I [] W1 := by subst hW1; exact hI.alloc _ (hI.alloc _ h0)
  have hb1 : Below w0.heap.size w0 W1 := by subst hW1; exact hb0.trans ((((Below.refl _ w).alloc (Nat.le_refl _) _).alloc (by simp) _).mono hb0.size)
  have hgrow : ∀ {I' : List α → World → Prop}, OwnFrom w.heap.size I' → ∀ {st pe}, Grows (fun pre W => I' pre W ∧ Books rec w.heap.size st pe W) := fun h' _ _ s A B hs hg' => ⟨h' s A B none hs.1 hg' (fun r e => by cases e), hs.2.grown hg'⟩
  have hend : ∀ {st : LoopState} {pe : Option Code} (jump : Option Code) (W : World), Books rec w.heap.size st pe W →
      (Instr.endRound (w.heap.size + 1) jump).run P W = .ok (.bool jump.isNone) (W.putObj (w.heap.size + 1) (.loop (rec (if jump.isNone then .ready else .done) jump))) := fun jump W h => by
    have := run_endRound (P := P) jump h.loop
    rw [hrec] at this ⊢
    exact this
  have hover : ∀ {st : LoopState} {pe : Option Code} (W : World), st ≠ .busy → Books rec w.heap.size st pe W → (Instr.endLoop (w.heap.size + 1)).run P W = .ok pe (W.putObj (w.heap.size + 1) (.loop (rec .exhausted pe))) := fun W hst h => by
    have := run_endLoop (P := P) h.loop (by rw [hrec]; exact hst)
    rw [hrec] at this ⊢
    exact this
  refine ⟨w.heap.size + 1, [{ target := .collected w.heap.size, args := #[] }], W1, { target := .fn (.func gf) lb, args := #[.func (.yield (w.heap.size + 1)) #[] #[]] }, W1, gf,
    #[.func (.yield (w.heap.size + 1)) #[] #[]] ++ lb, W1, ?_, ?_, ?_, ?_, fun _ => h1, ?_⟩
  · rw [← hW1, hrec]
    exact run_enterLoop_outer _ _ _ _ _
  · simp only [resolve, hg]
    simp [go_sem]
  · intro f' hf'
    simp [Target.leads] at hf'
    subst hf'
    exact hF
  · simp [invoke, go_sem, eg]
  refine (hseq (w.heap.size + 1) (fun pre W => I pre W ∧ Books rec w.heap.size .ready none W) (fun pre W => Ix pre W ∧ Books rec w.heap.size .done (some .ret) W) W1 hb1 (hgrow hI) (hgrow hIx) ?_ ⟨hI1, hbk1⟩).mono ?_
  · rintro pre x A ⟨hi, hbk⟩ hx hlen
    have hy := run_yield (P := P) (args := encs x) hbk.loop (by rw [hrec]; exact hps x)
    rw [hrec] at hy
    have hbegin := run_beginRound (P := P) hbk.loop (by rw [hrec])
    have hbusy : ({ rec .ready none with state := .busy } : Loop) = rec .busy none := by rw [hrec, hrec]
    rw [hbusy] at hbegin
    refine ⟨fn, _, assign, body, hy, roundIn_of_wpIn hfn (hassign _ x A _ ⟨_, hbegin, ?_⟩)⟩
    have hbk2 : Books rec w.heap.size .busy none (A.putObj (w.heap.size + 1) (.loop (rec .busy none))) := hbk.turn
    refine wpIn_mono (hbody _ pre x _ (hI.putObj _ hi (by omega) hbk.loop rfl) (hR.putObj _ hx (by omega) hbk.loop rfl) hlen) ?_
    have hb2 : Below n₀ A (A.putObj (w.heap.size + 1) (.loop (rec .busy none))) := below_turn _ _ (by omega) hbk.lt
    rintro e a3 B hp
    cases e with
    | normal =>
      obtain ⟨hk, hbl, hi3⟩ := hp
      have hbk3 := hbk2.keeps hk
      exact ⟨_, _, hend none B hbk3, .inl ⟨rfl, ⟨hI.putObj _ hi3 (by omega) hbk3.loop rfl, hbk3.turn⟩, (hb2.trans hbl).trans (below_turn _ _ (by omega) hbk3.lt)⟩⟩
    | ret =>
      obtain ⟨hk, hi3⟩ := hp
      have hbk3 := hbk2.keeps hk
      exact ⟨_, _, hend (some .ret) B hbk3, .inr ⟨rfl, hIx.putObj _ hi3 (by omega) hbk3.loop rfl, hbk3.turn⟩⟩
    | exit id => exact hp.elim
    | goto t => exact hp.elim
    | panic ch => exact hp.elim
    | outgrown => exact hp.elim
  · rintro e B ⟨⟨v, rfl⟩, (⟨xs, hS, hi, hbk⟩ | ⟨pre, hSp, hi, hbk⟩)⟩
    · exact ⟨none, _, hover B (by simp) hbk, hdone _ xs _ (Nat.le_refl _) hS (hI.putObj _ hi (by omega) hbk.loop rfl) (hbk.turn (st' := .exhausted)).calls⟩
    · exact ⟨some .ret, _, hover B (by simp) hbk, hstop _ pre _ (Nat.le_refl _) hSp (hIx.putObj _ hi (by omega) hbk.loop rfl) (hbk.turn (st' := .exhausted)).calls⟩
end Go.Proofs.Ytgacfihidpijeaa.RF
set_option linter.unusedVariables false
namespace Go.Proofs.Ytgacfihidpijeaa.EV
open Go Go.RowKit Go.Proofs.Ytgacfihidpijeaa.MM Go.Proofs.Ytgacfihidpijeaa.EM Go.Proofs.Ytgacfihidpijeaa.SM

theorem intE : Elem cInt Try.prog 60 3 8 := ⟨Try.underlying60, by
  have h : (Try.prog.info? 3).map (fun i => (i.zero, i.size, i.bytes)) = some (some (.int .i64 0), 1, 8) := by kernel_rfl
  obtain ⟨i, h1, h2, h3, h4⟩ := info_parts h
  exact ⟨i, _, h1, h2, h3, h4, rfl⟩⟩
def NoS : Nat → Prop := fun _ => False
/-- A row of numbers of the call's own. -/
abbrev OwnZ (w : World) (v : Value) (zs : List Int) : Prop := OwnS cInt 3 NoS w v zs
theorem OwnZ.of {S : Nat → Prop} {w : World} {v : Value} {zs : List Int} (h : OwnS cInt 3 (fun b => NoS b ∧ S b) w v zs) : OwnZ w v zs := h.weak (fun _ _ h => h.1) (fun _ _ h => h)
/-- A block of numbers. -/
def IntsOf (w : World) (b : Nat) : Prop := ∃ cur fr, w.heap[b]? = some (.cells cur 3 fr)
theorem OwnZ.ints {w : World} {v : Value} {zs : List Int} (h : OwnZ w v zs) {g : Nat} (hg : v.ownBlock = some g) : IntsOf w g := by
  obtain ⟨raw, h1, _⟩ := h
  exact (own_cells h1 hg).2
theorem OwnZ.keep {T : Nat → Prop} {w w' : World} {v : Value} {zs : List Int} (h : OwnZ w v zs) (hk : Kep T w w') (hg : ∀ g, v.ownBlock = some g → T g) : OwnZ w' v zs := OwnS.keep h hk (fun _ _ h => h.elim) hg
theorem OwnZ.nil_ (w : World) : OwnZ w (.slice none 0 0) [] := OwnS.nil_ _ _ _
theorem zeroInts (w : World) : (zeroValue 60).run Try.prog w = .ok (.slice none 0 0) w := by kernel_rfl

theorem addP_len {α : Type} : ∀ {l : List (EM.Tr α)} (s : List UInt8) (p : α), Rising l → (∀ t ∈ l, t.2 ≠ []) → (addP l s p).length = if posOf l s = [] then l.length + 1 else l.length
  | [], s, p, _, _ => by simp [addP, posOf]
  | t :: r, s, p, h, hn => by
    have hr : Rising r := (List.pairwise_cons.1 h).2
    have ih := addP_len (l := r) s p hr fun u hu => hn u (by simp [hu])
    rw [addP]
    by_cases h1 : lessL t.1 s = true
    · rw [if_pos h1, List.length_cons, ih, posOf, if_neg (lessL_ne h1), List.length_cons]
      split <;> rfl
    · rw [if_neg h1]
      by_cases h2 : t.1 = s
      · rw [if_pos h2, posOf, if_pos h2, if_neg (hn t (by simp))]; rfl
      · rw [if_neg h2, posOf, if_neg h2]
        have hs : lessL s t.1 = true := lessL_total (by simpa using h1) h2
        have : posOf r s = [] := posOf_none fun u hu e => by
          have h3 : lessL t.1 u.1 = true := (List.pairwise_cons.1 h).1 u hu
          rw [e] at h3
          exact h1 h3
        rw [if_pos this]; rfl

theorem addP_len_le {α : Type} : ∀ (l : List (EM.Tr α)) (s : List UInt8) (p : α), (addP l s p).length ≤ l.length + 1
  | [], s, p => by simp [addP]
  | t :: r, s, p => by
    have ih := addP_len_le r s p
    rw [addP]
    split
    · simp only [List.length_cons]; omega
    · split <;> simp
theorem foldP_len_le {α : Type} : ∀ (qs : List (List UInt8 × α)) (l : List (EM.Tr α)), (foldP l qs).length ≤ l.length + qs.length
  | [], l => by simp [foldP]
  | q :: qs, l => by
    have h1 := foldP_len_le qs (addP l q.1 q.2)
    have h2 := addP_len_le l q.1 q.2
    have e : foldP l (q :: qs) = foldP (addP l q.1 q.2) qs := rfl
    rw [e, List.length_cons]
    omega
theorem posOf_len_le {α : Type} (qs : List (List UInt8 × α)) (s : List UInt8) : (posOf (foldP ([] : List (EM.Tr α)) qs) s).length ≤ qs.length := by
  rw [posOf_fold qs s List.Pairwise.nil, posOf, List.nil_append, List.length_map]
  exact List.length_filter_le _ _
/-- The map mb tells these terms. -/
structure Plc (B mb : Nat) (T : List Trm) (F : List UInt8 → Option Value) (w : World) : Prop where
  map : MapV w mb T.length F
  lo : B ≤ mb
  none : ∀ s, F s = none → posOf T s = []
  own : ∀ s v, F s = some v → OwnZ w v (posOf T s) ∧ posOf T s ≠ [] ∧ ∀ g, v.ownBlock = some g → B ≤ g
  apart : ∀ s t u v g, F s = some u → F t = some v → u.ownBlock = some g → v.ownBlock = some g → s = t
  rise : Rising T
  ne : ∀ t ∈ T, t.2 ≠ []
theorem Plc.keep {S : Nat → Prop} {B mb : Nat} {T : List Trm} {F : List UInt8 → Option Value} {w w' : World} (h : Plc B mb T F w) (hk : Kep S w w') (hm : S mb) (hS : ∀ b, IntsOf w b → S b) : Plc B mb T F w' :=
  ⟨h.map.kep hk hm, h.lo, h.none, fun s v hv => ⟨(h.own s v hv).1.keep hk fun g hg => hS g ((h.own s v hv).1.ints hg), (h.own s v hv).2⟩, h.apart, h.rise, h.ne⟩
theorem Plc.below {B mb : Nat} {T : List Trm} {F : List UInt8 → Option Value} {w w' : World} (h : Plc B mb T F w) (hb : Below w.heap.size w w') : Plc B mb T F w' := h.keep (kep_below (fun _ => True) hb) trivial fun _ _ => trivial
theorem Plc.made (w : World) (B : Nat) (hB : B ≤ w.heap.size) : Plc B w.heap.size [] (fun _ => Option.none) (w.alloc (.map #[] 0)) :=
  ⟨MapV.made w, hB, fun _ _ => rfl, fun _ _ h => (by cases h), fun _ _ _ _ _ h => (by cases h), List.Pairwise.nil, fun _ h => (by cases h)⟩
theorem Plc.not_ints {B mb : Nat} {T : List Trm} {F : List UInt8 → Option Value} {w : World} (h : Plc B mb T F w) : ¬ IntsOf w mb := fun ⟨cur, fr, hc⟩ => by
  obtain ⟨es, c, hm⟩ := h.map.obj
  rw [hm] at hc
  cases hc
/-- What is found. -/
def found (F : List UInt8 → Option Value) (s : List UInt8) : Value := (F s).getD (.slice Option.none 0 0)
theorem Plc.look {B mb : Nat} {T : List Trm} {F : List UInt8 → Option Value} {w : World} (h : Plc B mb T F w) (s : List UInt8) (hs : s.length ≤ maxLen) : (Instr.lookup 90 (.map (some mb)) (.string ⟨s.toArray⟩) false).run Try.prog w = .ok (found F s) w :=
  MapV.look Try.underlying90 zeroInts h.map s hs
theorem Plc.found {B mb : Nat} {T : List Trm} {F : List UInt8 → Option Value} {w : World} (h : Plc B mb T F w) (s : List UInt8) : OwnZ w (found F s) (posOf T s) ∧ ∀ g, (EV.found F s).ownBlock = some g → B ≤ g ∧ g ≠ mb ∧ IntsOf w g ∧ g < w.heap.size := by
  unfold EV.found
  cases hf : F s with
  | none =>
    rw [h.none s hf]
    exact ⟨OwnZ.nil_ w, fun g hg => by cases hg⟩
  | some v =>
    obtain ⟨h1, _, h2⟩ := h.own s v hf
    exact ⟨h1, fun g hg => ⟨h2 g hg, fun e => h.not_ints (e ▸ h1.ints hg), h1.ints hg, (OwnS.lt h1 g hg).1⟩⟩
theorem Plc.some_iff {B mb : Nat} {T : List Trm} {F : List UInt8 → Option Value} {w : World} (h : Plc B mb T F w) (s : List UInt8) : (F s).isSome = true ↔ posOf T s ≠ [] := by
  cases hf : F s with
  | none => simp [h.none s hf]
  | some v => simp [(h.own s v hf).2.1]
/-- A place is put: the row has grown (w1), then the map (w2). -/
theorem Plc.put {B mb : Nat} {T : List Trm} {F : List UInt8 → Option Value} {w w1 w2 : World} {s : List UInt8} {p : Int} {v : Value} (h : Plc B mb T F w) (hBw : B ≤ w.heap.size)
    (hk1 : Kep (fun k => (EV.found F s).ownBlock ≠ some k) w w1) (ho : OwnZ w1 v (posOf T s ++ [p])) (hg : ∀ g, v.ownBlock = some g → (EV.found F s).ownBlock = some g ∨ w.heap.size ≤ g)
    (hm : MapV w2 mb (if (F s).isSome then T.length else T.length + 1) (fun k => if k = s then some v else F k)) (hk2 : Kep (fun k => k ≠ mb) w1 w2) : Plc B mb (addP T s p) (fun k => if k = s then some v else F k) w2 := by
  have hf := h.found s
  have hlen : (if (F s).isSome then T.length else T.length + 1) = (addP T s p).length := by
    rw [addP_len s p h.rise h.ne]
    by_cases hq : posOf T s = []
    · rw [if_pos hq, if_neg (fun e => (h.some_iff s).1 e hq)]
    · rw [if_neg hq, if_pos ((h.some_iff s).2 hq)]
  rw [hlen] at hm
  have hvB : ∀ g, v.ownBlock = some g → B ≤ g := fun g hv => by
    rcases hg g hv with h1 | h1
    · exact (hf.2 g h1).1
    · omega
  have hvm : ∀ g, v.ownBlock = some g → g ≠ mb := fun g hv => by
    rcases hg g hv with h1 | h1
    · exact (hf.2 g h1).2.1
    · have := h.map.lt; omega
  have hoth : ∀ t u, t ≠ s → F t = some u → ∀ g, u.ownBlock = some g → (EV.found F s).ownBlock ≠ some g := fun t u hne hu g hg e => by
    unfold EV.found at e
    cases hF : F s with
    | none => rw [hF] at e; cases e
    | some u2 =>
      rw [hF] at e
      exact hne (h.apart t s u u2 g hu hF hg e)
  refine ⟨hm, h.lo, fun t ht => ?_, fun t u hu => ?_, fun t t' u u' g hu hu' h1 h2 => ?_, addP_rising s p h.rise, addP_ne s p h.ne⟩
  · rw [posOf_add s p t h.rise]
    by_cases e : t = s
    · rw [if_pos e] at ht; cases ht
    · rw [if_neg e] at ht ⊢
      exact h.none t ht
  · rw [posOf_add s p t h.rise]
    by_cases e : t = s
    · rw [if_pos e] at hu ⊢
      obtain rfl := Option.some.inj hu
      exact ⟨ho.keep hk2 hvm, by simp, hvB⟩
    · rw [if_neg e] at hu ⊢
      obtain ⟨h1, h2, h3⟩ := h.own t u hu
      refine ⟨(h1.keep hk1 (hoth t u e hu)).keep hk2 fun g hg e2 => ?_, h2, h3⟩
      exact h.not_ints (e2 ▸ h1.ints hg)
  · by_cases e : t = s
    · by_cases e' : t' = s
      · rw [e, e']
      · rw [if_pos e] at hu
        rw [if_neg e'] at hu'
        obtain rfl := Option.some.inj hu
        rcases hg g h1 with h3 | h3
        · exact absurd h3 (hoth t' u' e' hu' g h2)
        · have := (OwnS.lt (h.own t' u' hu').1 g h2).1
          omega
    · by_cases e' : t' = s
      · rw [if_neg e] at hu
        rw [if_pos e'] at hu'
        obtain rfl := Option.some.inj hu'
        rcases hg g h2 with h3 | h3
        · exact absurd h3 (hoth t u e hu g h1)
        · have := (OwnS.lt (h.own t u hu).1 g h1).1
          omega
      · rw [if_neg e] at hu
        rw [if_neg e'] at hu'
        exact h.apart t t' u u' g hu hu' h1 h2
end Go.Proofs.Ytgacfihidpijeaa.EV
