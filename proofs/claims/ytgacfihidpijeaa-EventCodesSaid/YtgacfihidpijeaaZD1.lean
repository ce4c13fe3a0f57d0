/-
  A range over a function whose iterator vows, of what it hands over, a fact of the world (R), and makes memory between two rounds; its rounds go on, or return. No program; no condition. Slices that read as lists of cells (bytes, whole numbers): how they stay, what string(..) makes of them, how they are appended. No condition. Numbers in as few bytes as they need, as plain lists. No program; no condition. What the texts of layer 1 say of bytes and runes, in plain lists: runes of bytes, bytes of runes, there and back, what is folded twice. No conditions: no program is named here. DERIVED: THE SHELF's CONTRACTS AT THIS DUMP, IN PLAIN WORDS (tools/lay-plain.mjs out of 'TryShelf.lean', which tools/lay-shelf.mjs wrote): THE SAME DECLARATIONS UNDER THE SAME NAMES: 'import', 'namespace', 'open', 'def', 'theorem' AND NOTHING ELSE: no command of the shelf's: FOR A HAND-IN. Each laying: the table of numbers ('.._ren') and one theorem, a field a fact of the dump's own or the kernel's comparison; each contract: ONE APPLICATION.
-/
import Derived.RangeFuncBox
import Derived.RangeFuncCalls
import Derived.Test.YtgacfihidpijeaaProg
import Derived.WalkKit
import Derived.Below
import Derived.Lib.Hide
import Derived.LoopTactic
import Derived.Outline
import Derived.OwnWalk
import Derived.Laws.AppendOwn
import Derived.Laws.AppendOwnNone
import Derived.Lib.BufferRead
import Derived.Lib.AppendStr
import Derived.Deep.QuietTactic
import Derived.BigQuiet
import Derived.Lib.ValidLaws
import Derived.Lib.MapLaws
import Derived.Lib.RuneBytes
import Derived.Lib.TrimUEq
import Derived.Shelf.Small.Bits
import Derived.Shelf.Utf8.AppendRune
import Derived.Shelf.Utf8.AppendRunePlain
import Derived.Shelf.Utf8.RuneCount
import Derived.Shelf.Strconv.Itoa0
import Derived.Shelf.GgClosure.StringsIndexFunc
import Derived.Ground.GgwProg
import Derived.Shelf.GgClosure.StringsIndexFuncTop
import Derived.Shelf.GgClosure.StringsRunes
import Derived.Shelf.Strings.RuneCount
import Derived.Shelf.Strings.FuncGrows
import Derived.Ground.SlbCloneProg
import Derived.Shelf.Bytes.SlClone
namespace Go.Proofs.Ytgacfihidpijeaa.RF
open Go Go.RowKit

/-- What is said abides new memory. -/
def Grows {β : Type} (J : β → World → Prop) : Prop := ∀ s A B, J s A → A.grownBy B none → J s B

/-- THE ITERATOR's WORD: it yields, one behind the other, xs of which S speaks (or a part, of which Sp speaks, where a round has said 'no more'); at each it vows R. Below n₀ a round that goes on turns nothing. -/
def Vows {α : Type} (F : Fence) (n : Nat) (P : Program) (f : Nat) (lb : Array Value) (encs : α → Array Value) (n₀ : Nat) (R : α → World → Prop) (S Sp : List α → Prop) (N : Nat) (w : World) : Prop :=
  ∀ (l : Nat) (J Jx : List α → World → Prop) (W : World), Below w.heap.size w W → Grows J → Grows Jx →
    (∀ pre x A, J pre A → R x A → pre.length < N → YieldAt F (n - 1) P l (encs x) A fun e B =>
      (e = .returned (.bool true) ∧ J (pre ++ [x]) B ∧ Below n₀ A B) ∨ (e = .returned (.bool false) ∧ Jx (pre ++ [x]) B)) →
    J [] W →
    CallsIn F n P f (#[.func (.yield l) #[] #[]] ++ lb) W fun e B => (∃ v, e = .returned v) ∧ ((∃ xs, S xs ∧ J xs B) ∨ (∃ pre, Sp pre ∧ Jx pre B))

/-- How a round's body may be left. -/
def Left {α : Type} (D n₀ : Nat) (I Ix : List α → World → Prop) (xs : List α) (A : World) : Exit → Act → World → Prop
  | .normal, _, B => KeepsFrom D A B ∧ Below n₀ A B ∧ I xs B
  | .ret, _, B => KeepsFrom D A B ∧ Ix xs B
  | _, _, _ => False

/-- THE BOOKS: the loop's record, and the block for the rounds' deferred calls. -/
structure Books (rec : LoopState → Option Code → Loop) (D : Nat) (st : LoopState) (pe : Option Code) (W : World) : Prop where
  loop : W.heap[D + 1]? = some (.loop (rec st pe))
  calls : W.heap[D]? = some (.deferred (some []))
theorem Books.lt {rec : LoopState → Option Code → Loop} {D : Nat} {st : LoopState} {pe : Option Code} {W : World} (h : Books rec D st pe W) : D + 1 < W.heap.size := (Array.getElem?_eq_some_iff.1 h.loop).1
theorem Books.grown {rec : LoopState → Option Code → Loop} {D : Nat} {st : LoopState} {pe : Option Code} {A B : World} (h : Books rec D st pe A) (hg : A.grownBy B none) : Books rec D st pe B :=
  ⟨(hg.block _ h.lt (by simp)).trans h.loop, (hg.block _ (by have := h.lt; omega) (by simp)).trans h.calls⟩
theorem Books.keeps {rec : LoopState → Option Code → Loop} {D : Nat} {st : LoopState} {pe : Option Code} {A B : World} (h : Books rec D st pe A) (hk : KeepsFrom D A B) : Books rec D st pe B :=
  ⟨hk.same _ _ (by omega) h.loop rfl, hk.same _ _ (Nat.le_refl _) h.calls rfl⟩
theorem Books.turn {rec : LoopState → Option Code → Loop} {D : Nat} {st st' : LoopState} {pe pe' : Option Code} {A : World} (h : Books rec D st pe A) : Books rec D st' pe' (A.putObj (D + 1) (.loop (rec st' pe'))) :=
  ⟨World.putObj_heap_same h.lt, (World.putObj_heap_other (by omega)).trans h.calls⟩
theorem below_turn {n₀ l : Nat} (W : World) (o : Obj) (h : n₀ ≤ l) (hl : l < W.heap.size) : Below n₀ W (W.putObj l o) :=
  (Below.refl n₀ W).grown (grownBy_putObj' W l o) (by omega) (fun k e => by cases e; exact h)

variable {F : Fence} {n : Nat} {P : Program}

/-- THE LAW. -/
theorem range_ {α : Type} {g : Operand} {ps : Array Tmp} {assign body : Code} {Q : Exit → Act → World → Prop} {a : Act} {w : World}
    (hro : F.round = none) (h1 : 1 ≤ n) {gf : Nat} {lb : Array Value} (hg : a.eval g = .func (.func gf) #[] lb) (hF : F.fn gf) (eg : ∀ args w, (callFunc gf args).run P w = .ok (.enter gf args) w)
    {encs : α → Array Value} {n₀ : Nat} {R : α → World → Prop} {S Sp : List α → Prop} {N : Nat} {w0 : World} (hseq : Vows F (n - 1) P gf lb encs n₀ R S Sp N w0) (hb0 : Below w0.heap.size w0 w) (hn₀ : n₀ ≤ w.heap.size)
    (hps : ∀ x, (encs x).size = ps.size) (I Ix : List α → World → Prop) (hI : OwnFrom w.heap.size I) (hIx : OwnFrom w.heap.size Ix) (hR : OwnFrom w.heap.size R) (h0 : I [] w) (a₁ : α → Act)
    (hassign : ∀ (l : Nat) (x : α) (W : World) (K : Act → World → Prop), K (a₁ x) W →
      assign.wpIn (F.inRound l) (n - 1 - 1) P (Exit.then K (fun _ _ _ => False)) { tmps := (ps.zip (encs x)).foldl (fun t (p, v) => t.setIfInBounds p v) a.tmps, defers := [] } W)
    (hbody : ∀ (l : Nat) (pre : List α) (x : α) (W : World), I pre W → R x W → pre.length < N → body.wpIn (F.inRound l) (n - 1 - 1) P (Left w.heap.size n₀ I Ix (pre ++ [x]) W) (a₁ x) W)
    (hdone : ∀ (D : Nat) (xs : List α) (W : World), w.heap.size ≤ D → S xs → I xs W → W.heap[D]? = some (.deferred (some [])) → Q .normal { a with defers := { target := .collected D, args := #[] } :: a.defers } W)
    (hstop : ∀ (D : Nat) (pre : List α) (W : World), w.heap.size ≤ D → Sp pre → Ix pre W → W.heap[D]? = some (.deferred (some [])) → Code.ret.wpIn F n P Q { a with defers := { target := .collected D, args := #[] } :: a.defers } W) :
    (Code.rangeFunc g ps assign body).wpIn F n P Q a w := by
  refine wpIn_rangeFunc fun fn hfn => ?_
  rw [hro]
  obtain ⟨rec, hrec⟩ : ∃ rec : LoopState → Option Code → Loop, ∀ st pe, rec st pe = { state := st, pending := pe, fn := fn, tmps := a.tmps, params := ps, assign := assign, body := body, defers := w.heap.size } := ⟨_, fun _ _ => rfl⟩
  obtain ⟨W1, hW1⟩ : ∃ W1, (w.alloc (.deferred (some []))).alloc (.loop (rec .ready none)) = W1 := ⟨_, rfl⟩
  have hbk1 : Books rec w.heap.size .ready none W1 := by
    subst hW1
    refine ⟨?_, (Below.heap_alloc _ _ _ (by simp)).trans (World.alloc_heap_new w _)⟩
    have := World.alloc_heap_new (w.alloc (.deferred (some []))) (.loop (rec .ready none))
    rwa [World.size_alloc] at this
  have hI1 : I [] W1 := by subst hW1; exact hI.alloc _ (hI.alloc _ h0)
  have hb1 : Below w0.heap.size w0 W1 := by subst hW1; exact hb0.trans ((((Below.refl _ w).alloc (Nat.le_refl _) _).alloc (by simp) _).mono hb0.size)
  have hgrow : ∀ {I' : List α → World → Prop}, OwnFrom w.heap.size I' → ∀ {st pe}, Grows (fun pre W => I' pre W ∧ Books rec w.heap.size st pe W) := fun h' _ _ s A B hs hg' => ⟨h' s A B none hs.1 hg' (fun r e => by cases e), hs.2.grown hg'⟩
  have hend : ∀ {st : LoopState} {pe : Option Code} (jump : Option Code) (W : World), Books rec w.heap.size st pe W →
      (Instr.endRound (w.heap.size + 1) jump).run P W = .ok (.bool jump.isNone) (W.putObj (w.heap.size + 1) (.loop (rec (if jump.isNone then .ready else .done) jump))) := fun jump W h => by
    have := run_endRound (P := P) jump h.loop
    rw [hrec] at this ⊢
    exact this
  have hover : ∀ {st : LoopState} {pe : Option Code} (W : World), st ≠ .busy → Books rec w.heap.size st pe W → (Instr.endLoop (w.heap.size + 1)).run P W = .ok pe (W.putObj (w.heap.size + 1) (.loop (rec .exhausted pe))) := fun W hst h => by
    have := run_endLoop (P := P) h.loop (by rw [hrec]; exact hst)
    rw [hrec] at this ⊢
    exact this
  refine ⟨w.heap.size + 1, [{ target := .collected w.heap.size, args := #[] }], W1, { target := .fn (.func gf) lb, args := #[.func (.yield (w.heap.size + 1)) #[] #[]] }, W1, gf,
    #[.func (.yield (w.heap.size + 1)) #[] #[]] ++ lb, W1, ?_, ?_, ?_, ?_, fun _ => h1, ?_⟩
  · rw [← hW1, hrec]
    exact run_enterLoop_outer _ _ _ _ _
  · simp only [resolve, hg]
    simp [go_sem]
  · intro f' hf'
    simp [Target.leads] at hf'
    subst hf'
    exact hF
  · simp [invoke, go_sem, eg]
  refine (hseq (w.heap.size + 1) (fun pre W => I pre W ∧ Books rec w.heap.size .ready none W) (fun pre W => Ix pre W ∧ Books rec w.heap.size .done (some .ret) W) W1 hb1 (hgrow hI) (hgrow hIx) ?_ ⟨hI1, hbk1⟩).mono ?_
  · rintro pre x A ⟨hi, hbk⟩ hx hlen
    have hy := run_yield (P := P) (args := encs x) hbk.loop (by rw [hrec]; exact hps x)
    rw [hrec] at hy
    have hbegin := run_beginRound (P := P) hbk.loop (by rw [hrec])
    have hbusy : ({ rec .ready none with state := .busy } : Loop) = rec .busy none := by rw [hrec, hrec]
    rw [hbusy] at hbegin
    refine ⟨fn, _, assign, body, hy, roundIn_of_wpIn hfn (hassign _ x A _ ⟨_, hbegin, ?_⟩)⟩
    have hbk2 : Books rec w.heap.size .busy none (A.putObj (w.heap.size + 1) (.loop (rec .busy none))) := hbk.turn
    refine wpIn_mono (hbody _ pre x _ (hI.putObj _ hi (by omega) hbk.loop rfl) (hR.putObj _ hx (by omega) hbk.loop rfl) hlen) ?_
    have hb2 : Below n₀ A (A.putObj (w.heap.size + 1) (.loop (rec .busy none))) := below_turn _ _ (by omega) hbk.lt
    rintro e a3 B hp
    cases e with
    | normal =>
      obtain ⟨hk, hbl, hi3⟩ := hp
      have hbk3 := hbk2.keeps hk
      exact ⟨_, _, hend none B hbk3, .inl ⟨rfl, ⟨hI.putObj _ hi3 (by omega) hbk3.loop rfl, hbk3.turn⟩, (hb2.trans hbl).trans (below_turn _ _ (by omega) hbk3.lt)⟩⟩
    | ret =>
      obtain ⟨hk, hi3⟩ := hp
      have hbk3 := hbk2.keeps hk
      exact ⟨_, _, hend (some .ret) B hbk3, .inr ⟨rfl, hIx.putObj _ hi3 (by omega) hbk3.loop rfl, hbk3.turn⟩⟩
    | exit id => exact hp.elim
    | goto t => exact hp.elim
    | panic ch => exact hp.elim
    | outgrown => exact hp.elim
  · rintro e B ⟨⟨v, rfl⟩, (⟨xs, hS, hi, hbk⟩ | ⟨pre, hSp, hi, hbk⟩)⟩
    · exact ⟨none, _, hover B (by simp) hbk, hdone _ xs _ (Nat.le_refl _) hS (hI.putObj _ hi (by omega) hbk.loop rfl) (hbk.turn (st' := .exhausted)).calls⟩
    · exact ⟨some .ret, _, hover B (by simp) hbk, hstop _ pre _ (Nat.le_refl _) hSp (hIx.putObj _ hi (by omega) hbk.loop rfl) (hbk.turn (st' := .exhausted)).calls⟩
end Go.Proofs.Ytgacfihidpijeaa.RF
set_option linter.unusedVariables false
namespace Go.Proofs.Ytgacfihidpijeaa.MM
open Go.RowKit

theorem infoByte : (Try.prog.info? 5).map (fun i => (i.zero, i.size, i.bytes)) = some (some (.int .u8 0), 1, 1) := by kernel_rfl

theorem grow {a b c : World} (h : Below a.heap.size a b) (k : Below b.heap.size b c) : Below a.heap.size a c := h.trans (k.mono h.size)

theorem add_at (b off j : Nat) : (⟨b, off, none⟩ : Addr).add j = ⟨b, off + j, none⟩ := by unfold Addr.add; split <;> simp_all

theorem below_drewN {B : Nat} {a w : World} (h : Below B a w) (n : Nat) : Below B a (w.drewN n) := ⟨h.os, h.tape, h.output, h.size, h.block⟩

/-- A slice value that reads as these cells, which lie below block B. -/
def RowIn (B : Nat) (w : World) (v : Value) (xs : List Value) : Prop :=
  ∃ (p : Option Addr) (cap : Nat), v = .slice p xs.length cap ∧ xs.length ≤ cap ∧ cap ≤ maxLen ∧ (p = none → cap = 0) ∧
    (xs = [] ∨ ∃ b off, p = some ⟨b, off, none⟩ ∧ b < B ∧ ∀ i u, xs[i]? = some u → w.cell? ⟨b, off + i, none⟩ = some u)
theorem RowIn.below {B : Nat} {w w' : World} {v : Value} {xs : List Value} (h : RowIn B w v xs) (hb : Below B w w') : RowIn B w' v xs := by
  obtain ⟨p, cap, hv, h1, h2, h3, h⟩ := h
  refine ⟨p, cap, hv, h1, h2, h3, ?_⟩
  rcases h with h | ⟨b, off, hp, hlt, hc⟩
  · exact .inl h
  · exact .inr ⟨b, off, hp, hlt, fun i u hi => by rw [hb.cell (p := ⟨b, off + i, none⟩) hlt]; exact hc i u hi⟩
theorem RowIn.mono {B B' : Nat} {w : World} {v : Value} {xs : List Value} (h : RowIn B w v xs) (hB : B ≤ B') : RowIn B' w v xs := by
  obtain ⟨p, cap, hv, h1, h2, h3, h⟩ := h
  refine ⟨p, cap, hv, h1, h2, h3, ?_⟩
  rcases h with h | ⟨b, off, hp, hlt, hc⟩
  · exact .inl h
  · exact .inr ⟨b, off, hp, by omega, hc⟩
/-- .. whatever lies there. -/
def Row (w : World) (v : Value) (xs : List Value) : Prop := RowIn w.heap.size w v xs
theorem Row.below {w w' : World} {v : Value} {xs : List Value} {B : Nat} (h : Row w v xs) (hb : Below w.heap.size w w') : Row w' v xs := (RowIn.below h hb).mono hb.size
theorem Row.drewN {w : World} {v : Value} {xs : List Value} (h : Row w v xs) (n : Nat) : Row (w.drewN n) v xs := h
theorem Row.nil_ (w : World) : Row w (.slice none 0 0) [] := ⟨none, 0, rfl, Nat.le_refl _, by unfold maxLen; omega, fun _ => rfl, .inl rfl⟩
theorem Row.of_own {w : World} {base e : Nat} {v : Value} {n : Nat} {xs : List Value} (h : w.ownsRow base e 1 v n xs) : Row w v xs := by
  have hn : xs.length = n := by have := h.1; omega
  rcases h.2 with ⟨rfl, h0⟩ | ⟨g, cap, cur, rfl, hg, hh, hnc, hm, hs, ht⟩
  · have : xs = [] := List.eq_nil_of_length_eq_zero (by omega)
    subst this
    exact Row.nil_ w
  · refine ⟨some ⟨g, 0, none⟩, cap, by rw [hn], by omega, hm, (fun h => by cases h), .inr ⟨g, 0, rfl, (Array.getElem?_eq_some_iff.1 hh).1, fun i u hi => ?_⟩⟩
    rw [Nat.mul_one] at ht
    have := Lib.cells_of_row hh n i u (by rw [ht]; exact hi)
    rw [add_at] at this
    exact this
theorem RowIn.drop {B : Nat} {w : World} {p : Option Addr} {n cap : Nat} {xs : List Value} (h : RowIn B w (.slice p n cap) xs) (k : Nat) (hk : k ≤ n) :
    RowIn B w (.slice (if cap = k then p else p.map (·.add k)) (n - k) (cap - k)) (xs.drop k) := by
  obtain ⟨p', cap', hv, h1, h2, h3, h⟩ := h
  simp only [Value.slice.injEq] at hv
  obtain ⟨rfl, rfl, rfl⟩ := hv
  refine ⟨_, _, by rw [List.length_drop], by rw [List.length_drop]; omega, by omega, fun hp => ?_, ?_⟩
  · by_cases hc : cap = k
    · omega
    · rw [if_neg hc] at hp
      have : p = none := by cases p <;> simp_all
      have := h3 this
      omega
  by_cases hkn : k = xs.length
  · left; rw [hkn, List.drop_length]
  · rcases h with h | ⟨b, off, rfl, hlt, hc⟩
    · subst h; simp at hk; simp at hkn; omega
    · right
      rw [if_neg (by omega)]
      refine ⟨b, off + k, ?_, hlt, fun i u hi => ?_⟩
      · simp only [Option.map_some, Option.some.injEq]
        rw [add_at]
      · rw [List.getElem?_drop] at hi
        rw [Nat.add_assoc]
        exact hc _ u hi
theorem RowIn.take {B : Nat} {w : World} {p : Option Addr} {n cap : Nat} {xs : List Value} (h : RowIn B w (.slice p n cap) xs) (k : Nat) (hk : k ≤ n) : RowIn B w (.slice p k cap) (xs.take k) := by
  obtain ⟨p', cap', hv, h1, h2, h3, h⟩ := h
  simp only [Value.slice.injEq] at hv
  obtain ⟨rfl, rfl, rfl⟩ := hv
  have hl : (xs.take k).length = k := by rw [List.length_take]; omega
  refine ⟨_, _, by rw [hl], by omega, by omega, h3, ?_⟩
  rcases h with h | ⟨b, off, rfl, hlt, hc⟩
  · subst h; left; simp
  · right
    refine ⟨b, off, rfl, hlt, fun i u hi => hc i u ?_⟩
    rw [List.getElem?_take] at hi
    split at hi
    · exact hi
    · cases hi

/-- append onto a row of the call's own, of whatever slice. -/
theorem wpList_append_row {w : World} {ops : Array Oper} {rest : List Oper} {o : Oper} {a : Act} {Q : Exit → Act → World → Prop} (hgd : o.guard = none) (s x : Operand) (t : TypeId)
    (ho : o.op = .call { callee := .builtin .append, args := #[s, x], argTypes := #[t, t] })
    (base : Nat) (e : TypeId) (i : TypeInfo) (z : Value) (bytes : Nat) (ht : Try.prog.underlying t = some (.slice e)) (hi : Try.prog.info? e = some i) (hz : i.zero = some z)
    (hsize : i.size = 1) (hby : i.bytes = bytes) (hzs : z.cells.size = 1)
    (v : Value) (n : Nat) (xs : List Value) (hs : a.eval s = v) (hown : w.ownsRow base e 1 v n xs)
    (src : Value) (news : List Value) (hx : a.eval x = src) (hr : Row w src news) (h1 : ∀ u ∈ news, u.oneCell' = true)
    (h63 : n + news.length ≤ maxLen) (hbytes : (n + news.length) * bytes ≤ 140737488355328) (hbase : base ≤ w.heap.size)
    (h : ∀ v' w', w'.ownsRow base e 1 v' (n + news.length) (xs ++ news) → Below base w w' → wpList Try.prog ops Q rest (a.put o.dst v') w') : wpList Try.prog ops Q (o :: rest) a w := by
  have hlo : ∀ k, v.ownBlock = some k → base ≤ k := fun k hk => (hown.lt k hk).1
  obtain ⟨p, cap, rfl, _, _, h3, hc⟩ := hr
  cases p with
  | none =>
    have h0 := h3 rfl
    subst h0
    rcases hc with rfl | ⟨b, off, hp, _⟩
    · refine wpList_append_own_none hgd s x t ho base e i 1 ht hi v n xs hs hown hx (h v w ?_ (Below.refl _ _))
      simpa using hown
    · cases hp
  | some ad =>
    refine wpList_append_own w hgd s x t ho base e i z 1 bytes ht hi hz hsize hby hzs (by omega) v n xs hs hown ad news.length cap news hx (by omega) ?_ h1 h63 hbytes hbase
      (fun v' w' h2 hg _ => h v' w' h2 ((Below.refl base w).grown hg hbase hlo))
    intro j u hj
    rcases hc with rfl | ⟨b, off, hp, _, hc⟩
    · simp at hj
    · obtain rfl : ad = ⟨b, off, none⟩ := Option.some.inj hp
      rw [add_at]
      exact hc j u hj

/-! ### bytes -/
/-- Bytes that lie below block B; bytes. -/
def BIn (B : Nat) (w : World) (v : Value) (l : List UInt8) : Prop := RowIn B w v (Lib.byteCells l)
def BRow (w : World) (v : Value) (l : List UInt8) : Prop := BIn w.heap.size w v l
theorem byteCells_len (l : List UInt8) : (Lib.byteCells l).length = l.length := by simp [Lib.byteCells]
theorem byteCells_get (l : List UInt8) (k : Nat) (hk : k < l.length) : (Lib.byteCells l)[k]? = some (.int .u8 ((l[k]).toNat : Int)) := by simp [Lib.byteCells, hk]
theorem byteCells_append (l m : List UInt8) : Lib.byteCells (l ++ m) = Lib.byteCells l ++ Lib.byteCells m := by simp [Lib.byteCells]
theorem byteCells_drop (l : List UInt8) (k : Nat) : (Lib.byteCells l).drop k = Lib.byteCells (l.drop k) := by simp [Lib.byteCells]
theorem byteCells_take (l : List UInt8) (k : Nat) : (Lib.byteCells l).take k = Lib.byteCells (l.take k) := by simp [Lib.byteCells]
theorem byteCells_one (l : List UInt8) : ∀ u ∈ Lib.byteCells l, u.oneCell' = true := by
  intro u hu
  obtain ⟨b, _, rfl⟩ := List.mem_map.1 hu
  rfl
/-- A row of bytes of the call's own, from block B on. -/
def OwnB (B : Nat) (w : World) (v : Value) (l : List UInt8) : Prop := w.ownsRow B 5 1 v l.length (Lib.byteCells l)
theorem OwnB.brow {B : Nat} {w : World} {v : Value} {l : List UInt8} (h : OwnB B w v l) : BRow w v l := Row.of_own h
/-- What an append leaves: the row holds these; below B nothing has turned. -/
def PutLeft (B : Nat) (l : List UInt8) (w : World) (e : Ending) (w' : World) : Prop := ∃ v', e = .returned v' ∧ OwnB B w' v' l ∧ Below B w w'
theorem cell_new1 (w : World) (x : Value) (t : TypeId) : ∀ j u, [x][j]? = some u → (w.alloc (.cells #[x] t)).cell? ((⟨w.heap.size, 0, none⟩ : Addr).add j) = some u := by
  intro j u hj
  match j, hj with
  | 0, hj => simp at hj; subst hj; simp [Addr.add]
  | (j + 1), hj => simp at hj
theorem int_one (k : IntKind) (r : Int) : ∀ u ∈ [Value.int k r], u.oneCell' = true := by intro u hu; simp at hu; subst hu; rfl
/-- What an append onto a row of the call's own turns. -/
theorem below_app {B : Nat} {w wr w' : World} {o : Obj} {v : Value} (hb : Below B w wr) (hB : B ≤ wr.heap.size) (hv : ∀ k, v.ownBlock = some k → B ≤ k) (hg : (wr.alloc o).grownBy w' v.ownBlock) : Below B w w' :=
  (hb.alloc hB o).grown hg (by simp; omega) hv
/-- A literal's one block is a row of the call's own. -/
theorem own_lit (w : World) (xs : List Value) (e B : Nat) (hB : B ≤ w.heap.size) (hl : xs.length ≤ maxLen) :
    (w.alloc (.cells xs.toArray e)).ownsRow B e 1 (.slice (some ⟨w.heap.size, 0, none⟩) xs.length xs.length) xs.length xs := by
  refine ⟨by omega, .inr ⟨w.heap.size, xs.length, xs.toArray, rfl, hB, ?_, Nat.le_refl _, hl, by simp, by simp⟩⟩
  show (w.heap.push (.cells xs.toArray e))[w.heap.size]? = _
  simp
theorem own_keep {w w' : World} {base e size n B : Nat} {v : Value} {xs : List Value} (h : w.ownsRow base e size v n xs) (hb : Below w.heap.size w w') : w'.ownsRow base e size v n xs := by
  refine ⟨h.1, ?_⟩
  rcases h.2 with h0 | ⟨g, cap, cur, hv, hg, hh, rest⟩
  · exact .inl h0
  · exact .inr ⟨g, cap, cur, hv, hg, by rw [hb.block g (Array.getElem?_eq_some_iff.1 hh).1]; exact hh, rest⟩
theorem OwnB.keep {w w' : World} {B : Nat} {v : Value} {l : List UInt8} (h : OwnB B w v l) (hb : Below w.heap.size w w') : OwnB B w' v l := own_keep (B := 0) h hb
theorem OwnB.weaken {w : World} {B B' : Nat} {v : Value} {l : List UInt8} (h : OwnB B w v l) (hB : B' ≤ B) : OwnB B' w v l := by
  refine ⟨h.1, ?_⟩
  rcases h.2 with h0 | ⟨g, cap, cur, hv, hg, rest⟩
  · exact .inl h0
  · exact .inr ⟨g, cap, cur, hv, Nat.le_trans hB hg, rest⟩
/-- append(row, b...). -/
theorem wpList_append_bytes {w : World} {ops : Array Oper} {rest : List Oper} {o : Oper} {a : Act} {Q : Exit → Act → World → Prop} (hgd : o.guard = none) (s x : Operand)
    (ho : o.op = .call { callee := .builtin .append, args := #[s, x], argTypes := #[40, 40] }) (B : Nat) (v : Value) (l : List UInt8) (hs : a.eval s = v) (hown : OwnB B w v l)
    (src : Value) (m : List UInt8) (hx : a.eval x = src) (hr : BRow w src m) (hlen : l.length + m.length ≤ 140737488355328) (hbase : B ≤ w.heap.size)
    (h : ∀ v' w', OwnB B w' v' (l ++ m) → Below B w w' → wpList Try.prog ops Q rest (a.put o.dst v') w') : wpList Try.prog ops Q (o :: rest) a w := by
  obtain ⟨i0, hi, hz0, hz1, hz2⟩ := info_parts infoByte
  refine wpList_append_row hgd s x 40 ho B 5 i0 (.int .u8 0) 1 Try.underlying40 hi hz0 hz1 hz2 rfl v l.length (Lib.byteCells l) hs hown src (Lib.byteCells m) hx hr (byteCells_one m)
    (by rw [byteCells_len]; unfold maxLen; omega) (by rw [byteCells_len]; omega) hbase (fun v' w' h1 h2 => h v' w' ?_ h2)
  unfold OwnB
  rw [List.length_append, byteCells_append]
  rw [byteCells_len] at h1
  exact h1
/-- append(row, s...). -/
theorem wpList_append_text {w : World} {ops : Array Oper} {rest : List Oper} {o : Oper} {a : Act} {Q : Exit → Act → World → Prop} (hgd : o.guard = none) (sl x : Operand)
    (ho : o.op = .call { callee := .builtin .append, args := #[sl, x], argTypes := #[40, 9] }) (B : Nat) (v : Value) (l : List UInt8) (hs : a.eval sl = v) (hown : OwnB B w v l)
    (s : ByteArray) (hx : a.eval x = .string s) (hlen : l.length + s.size ≤ 140737488355328) (hbase : B ≤ w.heap.size)
    (h : ∀ v' w', OwnB B w' v' (l ++ s.data.toList) → Below B w w' → wpList Try.prog ops Q rest (a.put o.dst v') w') : wpList Try.prog ops Q (o :: rest) a w := by
  obtain ⟨i0, hi, hz0, hz1, hz2⟩ := info_parts infoByte
  have hlo : ∀ k, v.ownBlock = some k → B ≤ k := fun k hk => (World.ownsRow.lt hown k hk).1
  refine Lib.wpList_append_own_string w hgd sl x 40 9 ho B 5 i0 Try.underlying40 Try.underlying9 hi hz0 hz1 hz2 v l.length (Lib.byteCells l) hs hown s hx (by unfold maxLen; omega) hlen hbase
    (fun v' w' h1 hg _ => h v' w' ?_ ((Below.refl B w).grown hg hbase hlo))
  unfold OwnB
  rw [List.length_append, byteCells_append]
  rw [Lib.size_eq] at h1
  exact h1
/-- make([]byte, 0, c). -/
theorem wpList_make_bytes {w : World} {ops : Array Oper} {rest : List Oper} {o : Oper} {a : Act} {Q : Exit → Act → World → Prop} (hgd : o.guard = none) (x : Operand)
    (ho : o.op = .makeSlice 40 (.const (.int .i64 0)) x) (B : Nat) (C : Int) (c : Nat) (hx : a.eval x = .int .i64 C) (hC : C = (c : Int)) (hc : c ≤ 281474976710656) (hbase : B ≤ w.heap.size)
    (h : ∀ v' w', OwnB B w' v' [] → Below w.heap.size w w' → wpList Try.prog ops Q rest (a.put o.dst v') w') : wpList Try.prog ops Q (o :: rest) a w := by
  obtain ⟨i0, hi, hz0, hz1, hz2⟩ := info_parts infoByte
  exact wpList_make_own w hgd (.const (.int .i64 0)) x 40 ho B 5 i0 (.int .u8 0) 1 Try.underlying40 hi hz0 hz1 .i64 .i64 C c rfl hx hC (by rw [hz2]; omega) (by unfold maxLen; omega) hbase
    (fun w' h1 hg => h _ w' h1 ((Below.refl w.heap.size w).grown hg (Nat.le_refl _) (fun k h => by cases h)))
theorem BIn.shape {B : Nat} {w : World} {v : Value} {l : List UInt8} (h : BIn B w v l) : ∃ p cap, v = .slice p l.length cap ∧ l.length ≤ cap ∧ cap ≤ maxLen := by
  obtain ⟨p, cap, hv, h1, h2, _, _⟩ := h
  rw [byteCells_len] at hv h1
  exact ⟨p, cap, hv, h1, h2⟩
theorem BIn.below {B : Nat} {w w' : World} {v : Value} {l : List UInt8} (h : BIn B w v l) (hb : Below B w w') : BIn B w' v l := RowIn.below h hb
theorem BIn.mono {B B' : Nat} {w : World} {v : Value} {l : List UInt8} (h : BIn B w v l) (hB : B ≤ B') : BIn B' w v l := RowIn.mono h hB
theorem BIn.row {B : Nat} {w : World} {v : Value} {l : List UInt8} (h : BIn B w v l) (hB : B ≤ w.heap.size) : BRow w v l := RowIn.mono h hB
theorem BRow.below {w w' : World} {v : Value} {l : List UInt8} (h : BRow w v l) (hb : Below w.heap.size w w') : BRow w' v l := Row.below (B := 0) h hb
theorem BIn.drewN {B : Nat} {w : World} {v : Value} {l : List UInt8} (h : BIn B w v l) (n : Nat) : BIn B (w.drewN n) v l := h
theorem BRow.drewN {w : World} {v : Value} {l : List UInt8} (h : BRow w v l) (n : Nat) : BRow (w.drewN n) v l := h
theorem BIn.nil_ (B : Nat) (w : World) : BIn B w (.slice none 0 0) [] := ⟨none, 0, rfl, Nat.le_refl _, by unfold maxLen; omega, fun _ => rfl, .inl rfl⟩
theorem BRow.nil_ (w : World) : BRow w (.slice none 0 0) [] := Row.nil_ w
theorem BRow.of_own {w : World} {base e : Nat} {v : Value} {n : Nat} {l : List UInt8} (h : w.ownsRow base e 1 v n (Lib.byteCells l)) : BRow w v l := Row.of_own h
theorem BIn.at_ {B : Nat} {w : World} {p : Option Addr} {n cap : Nat} {l : List UInt8} (h : BIn B w (.slice p n cap) l) {k : Nat} (hk : k < l.length) :
    ∃ b off, p = some ⟨b, off, none⟩ ∧ b < B ∧ w.cell? ⟨b, off + k, none⟩ = some (.int .u8 ((l[k]).toNat : Int)) := by
  obtain ⟨p', cap', hv, _, _, _, h⟩ := h
  simp only [Value.slice.injEq] at hv
  obtain ⟨rfl, _, _⟩ := hv
  rcases h with h | ⟨b, off, hp, hlt, hc⟩
  · have := byteCells_len l; rw [h] at this; simp at this; omega
  · exact ⟨b, off, hp, hlt, hc k _ (byteCells_get l k hk)⟩
theorem BIn.drop {B : Nat} {w : World} {p : Option Addr} {n cap : Nat} {l : List UInt8} (h : BIn B w (.slice p n cap) l) (k : Nat) (hk : k ≤ n) :
    BIn B w (.slice (if cap = k then p else p.map (·.add k)) (n - k) (cap - k)) (l.drop k) := by
  have := RowIn.drop h k hk
  rw [byteCells_drop] at this
  exact this
/-- .. as the walk parts it. -/
theorem BIn.drop2 {B : Nat} {w : World} {b off n cap : Nat} {l : List UInt8} (h : BIn B w (.slice (some ⟨b, off, none⟩) n cap) l) (k : Nat) (hk : k ≤ n) :
    (cap = k → BIn B w (.slice (some ⟨b, off, none⟩) (n - k) 0) (l.drop k)) ∧ (¬ cap = k → BIn B w (.slice (some ⟨b, off + k, none⟩) (n - k) (cap - k)) (l.drop k)) := by
  have h1 := h.drop k hk
  constructor
  · intro hc
    rw [if_pos hc, hc, Nat.sub_self] at h1
    exact h1
  · intro hc
    rw [if_neg hc, Option.map_some, add_at] at h1
    exact h1
theorem BIn.drop3 {B : Nat} {w : World} {p : Option Addr} {n cap : Nat} {l : List UInt8} (h : BIn B w (.slice p n cap) l) (k : Nat) (hk : k ≤ n) :
    (cap = k → BIn B w (.slice p (n - k) 0) (l.drop k)) ∧ (¬ cap = k → BIn B w (.slice (p.map (fun x => x.add k)) (n - k) (cap - k)) (l.drop k)) := by
  have h1 := h.drop k hk
  constructor
  · intro hc
    rw [if_pos hc, hc, Nat.sub_self] at h1
    exact h1
  · intro hc
    rw [if_neg hc] at h1
    exact h1
theorem BIn.take {B : Nat} {w : World} {p : Option Addr} {n cap : Nat} {l : List UInt8} (h : BIn B w (.slice p n cap) l) (k : Nat) (hk : k ≤ n) : BIn B w (.slice p k cap) (l.take k) := by
  have := RowIn.take h k hk
  rw [byteCells_take] at this
  exact this
/-- Two texts of bytes, one behind the other. -/
theorem bytes_cat (l m : List UInt8) : (⟨l.toArray⟩ : ByteArray) ++ ⟨m.toArray⟩ = ⟨(l ++ m).toArray⟩ := by
  apply ByteArray.ext
  simp
/-- 'string(b)'. -/
theorem BIn.conv {B : Nat} {w : World} {v : Value} {l : List UInt8} (h : BIn B w v l) : (convert 40 9 v).run Try.prog w = .ok (.string ⟨l.toArray⟩) w := by
  obtain ⟨p, cap, hv, _, _, _, h⟩ := h
  rw [byteCells_len] at hv
  subst hv
  rcases h with h | ⟨b, off, rfl, _, hc⟩
  · have h0 : l.length = 0 := by rw [← byteCells_len, h]; rfl
    have : l = [] := List.eq_nil_of_length_eq_zero h0
    subst this
    show (convert 40 9 (.slice p 0 cap)).run Try.prog w = .ok (.string ⟨#[]⟩) w
    rw [run_convert_bytes_string w 40 9 5 p 0 cap Try.underlying40 Try.underlying5 Try.underlying9]
    cases p with
    | none => simp [Conv.bytesToString]; rfl
    | some a => exact run_bytesToString w a 0 cap [] (run_loadCells_list (P := Try.prog) w a [] (fun j v hj => by simp at hj))
  · exact run_convert_bytes_back w 40 9 5 _ cap l Try.underlying40 Try.underlying5 Try.underlying9 (fun j hj => by
      have := hc j _ (byteCells_get l j hj)
      rw [add_at]; exact this)
end Go.Proofs.Ytgacfihidpijeaa.MM
set_option linter.unusedVariables false
namespace Go.Proofs.Ytgacfihidpijeaa.VM

/-! ### a number's bytes -/
/-- Its lowest seven bits, and so on: as many bytes as it needs, k + 1 at most. -/
def bytesF : Nat → Nat → List UInt8
  | 0, n => [UInt8.ofNat n]
  | k + 1, n => if n < 128 then [UInt8.ofNat n] else UInt8.ofNat (n % 128 + 128) :: bytesF k (n / 128)
def bytesL (n : Nat) : List UInt8 := bytesF 9 n

theorem bytesF_more : ∀ (k n : Nat), n < 128 ^ (k + 1) → bytesF (k + 1) n = bytesF k n
  | 0, n, h => by
    have h2 : n < 128 := by simpa using h
    simp [bytesF, h2]
  | k + 1, n, h => by
    have e1 : bytesF (k + 2) n = if n < 128 then [UInt8.ofNat n] else UInt8.ofNat (n % 128 + 128) :: bytesF (k + 1) (n / 128) := rfl
    have e2 : bytesF (k + 1) n = if n < 128 then [UInt8.ofNat n] else UInt8.ofNat (n % 128 + 128) :: bytesF k (n / 128) := rfl
    rw [e1, e2, bytesF_more k (n / 128) (by rw [Nat.div_lt_iff_lt_mul (by omega)]; rw [Nat.pow_succ] at h; exact h)]
theorem bytesL_small {n : Nat} (h : n < 128) : bytesL n = [UInt8.ofNat n] := by
  unfold bytesL
  rw [show (9 : Nat) = 8 + 1 from rfl, bytesF, if_pos h]
theorem bytesL_big {n : Nat} (h : ¬ n < 128) (hn : n < 18446744073709551616) : bytesL n = UInt8.ofNat (n % 128 + 128) :: bytesL (n / 128) := by
  have e : bytesF 9 (n / 128) = bytesF 8 (n / 128) := bytesF_more 8 _ (by have : (128 : Nat) ^ (8 + 1) = 9223372036854775808 := by decide
                                                                          omega)
  unfold bytesL
  rw [e, show (9 : Nat) = 8 + 1 from rfl, bytesF, if_neg h]
theorem bytesF_length : ∀ (k n : Nat), 1 ≤ (bytesF k n).length ∧ (bytesF k n).length ≤ k + 1
  | 0, n => by simp [bytesF]
  | k + 1, n => by
    unfold bytesF
    have := bytesF_length k (n / 128)
    split <;> simp <;> omega
theorem bytesL_length (n : Nat) : 1 ≤ (bytesL n).length ∧ (bytesL n).length ≤ 10 := bytesF_length 9 n
/-- By a number and the one that is a 128th of it. -/
theorem rec128 {P : Nat → Prop} (h0 : ∀ n, n < 128 → P n) (h1 : ∀ n, ¬ n < 128 → P (n / 128) → P n) (n : Nat) : P n := by
  induction n using Nat.strongRecOn with
  | ind n ih =>
    by_cases h : n < 128
    · exact h0 n h
    · exact h1 n h (ih _ (by omega))

/-! ### what is got -/
/-- The number, how many bytes it takes, and the error's number: from byte number i on, n gathered so far. -/
def getF : Nat → Nat → List UInt8 → Nat × Nat × Int
  | _, _, [] => (0, 0, 6)
  | i, n, c :: l => if (i = 9 ∧ 1 < c.toNat) ∨ (0 < i ∧ c.toNat = 0) then (0, 0, 20) else if c.toNat < 128 then (n + c.toNat % 128 * 2 ^ (7 * i), i + 1, 0) else getF (i + 1) (n + c.toNat % 128 * 2 ^ (7 * i)) l
def getL (l : List UInt8) : Nat × Nat × Int := getF 0 0 l

theorem getF_nil (i n : Nat) : getF i n [] = (0, 0, 6) := by rw [getF]
theorem getF_bad {i n : Nat} {c : UInt8} {l : List UInt8} (h : (i = 9 ∧ 1 < c.toNat) ∨ (0 < i ∧ c.toNat = 0)) : getF i n (c :: l) = (0, 0, 20) := by rw [getF, if_pos h]
theorem getF_end {i n : Nat} {c : UInt8} {l : List UInt8} (h : ¬ ((i = 9 ∧ 1 < c.toNat) ∨ (0 < i ∧ c.toNat = 0))) (h2 : c.toNat < 128) : getF i n (c :: l) = (n + c.toNat % 128 * 2 ^ (7 * i), i + 1, 0) := by rw [getF, if_neg h, if_pos h2]
theorem getF_more {i n : Nat} {c : UInt8} {l : List UInt8} (h : ¬ ((i = 9 ∧ 1 < c.toNat) ∨ (0 < i ∧ c.toNat = 0))) (h2 : ¬ c.toNat < 128) : getF i n (c :: l) = getF (i + 1) (n + c.toNat % 128 * 2 ^ (7 * i)) l := by rw [getF, if_neg h, if_neg h2]

/-- What has been gathered fits, and more of it does. -/
theorem pow7 (i : Nat) : 2 ^ (7 * (i + 1)) = 128 * 2 ^ (7 * i) := by
  rw [Nat.mul_add, Nat.pow_add]; omega
theorem gather_lt {i n : Nat} (hn : n < 2 ^ (7 * i)) (c : Nat) : n + c % 128 * 2 ^ (7 * i) < 2 ^ (7 * (i + 1)) := by
  rw [pow7]
  have h1 : c % 128 ≤ 127 := by omega
  have h2 := Nat.mul_le_mul_right (2 ^ (7 * i)) h1
  omega
theorem pow_le {i j : Nat} (h : i ≤ j) : 2 ^ (7 * i) ≤ 2 ^ (7 * j) := Nat.pow_le_pow_right (by omega) (by omega)
theorem pow9 : 2 ^ (7 * 9) = 9223372036854775808 := by decide
theorem gather_fits {i n : Nat} (hn : n < 2 ^ (7 * i)) (hi : i ≤ 9) {c : UInt8} (h : ¬ ((i = 9 ∧ 1 < c.toNat) ∨ (0 < i ∧ c.toNat = 0))) : n + c.toNat % 128 * 2 ^ (7 * i) < 18446744073709551616 := by
  by_cases h9 : i = 9
  · subst h9
    have hc : c.toNat = 1 := by omega
    rw [pow9] at hn ⊢
    rw [hc]
    omega
  · have h1 := gather_lt hn c.toNat
    have h2 : 2 ^ (7 * (i + 1)) ≤ 2 ^ (7 * 9) := pow_le (by omega)
    rw [pow9] at h2
    omega
/-- A byte of 128 or more is not the tenth. -/
theorem gather_next {i : Nat} (hi : i ≤ 9) {c : UInt8} (h : ¬ ((i = 9 ∧ 1 < c.toNat) ∨ (0 < i ∧ c.toNat = 0))) (h2 : ¬ c.toNat < 128) : i + 1 ≤ 9 := by
  by_cases h9 : i = 9 <;> omega

/-- The answer's bounds. -/
theorem getF_bounds : ∀ (l : List UInt8) (i n : Nat), i ≤ 9 → n < 2 ^ (7 * i) →
    (getF i n l).1 < 18446744073709551616 ∧ (getF i n l).2.1 ≤ i + l.length ∧ ((getF i n l).2.2 = 0 ∨ (getF i n l = (0, 0, 6) ∨ getF i n l = (0, 0, 20))) ∧ ((getF i n l).2.2 = 0 → 1 ≤ (getF i n l).2.1)
  | [], i, n, _, _ => by rw [getF_nil]; simp
  | c :: l, i, n, hi, hn => by
    by_cases h : (i = 9 ∧ 1 < c.toNat) ∨ (0 < i ∧ c.toNat = 0)
    · rw [getF_bad h]; simp
    · by_cases h2 : c.toNat < 128
      · rw [getF_end h h2]
        refine ⟨gather_fits hn hi h, by simp, .inl rfl, fun _ => by simp⟩
      · rw [getF_more h h2]
        have := getF_bounds l (i + 1) _ (gather_next hi h h2) (gather_lt hn c.toNat)
        rw [List.length_cons]
        exact ⟨this.1, by omega, this.2.2.1, this.2.2.2⟩
theorem getL_bounds (l : List UInt8) : (getL l).1 < 18446744073709551616 ∧ (getL l).2.1 ≤ l.length ∧ ((getL l).2.2 = 0 ∨ (getL l = (0, 0, 6) ∨ getL l = (0, 0, 20))) ∧ ((getL l).2.2 = 0 → 1 ≤ (getL l).2.1) := by
  have := getF_bounds l 0 0 (by omega) (by omega)
  rw [Nat.zero_add] at this
  exact this

/-! ### there and back -/
theorem toNat_small {n : Nat} (h : n < 256) : (UInt8.ofNat n).toNat = n := by simp; omega
theorem getF_put (n : Nat) : ∀ (i acc : Nat) (l : List UInt8), i ≤ 9 → acc + n * 2 ^ (7 * i) < 18446744073709551616 → (i = 0 ∨ 0 < n) →
    getF i acc (bytesL n ++ l) = (acc + n * 2 ^ (7 * i), i + (bytesL n).length, 0) := by
  refine rec128 (P := fun n => ∀ (i acc : Nat) (l : List UInt8), i ≤ 9 → acc + n * 2 ^ (7 * i) < 18446744073709551616 → (i = 0 ∨ 0 < n) →
    getF i acc (bytesL n ++ l) = (acc + n * 2 ^ (7 * i), i + (bytesL n).length, 0)) ?_ ?_ n
  · intro n h i acc l hi hf h0
    have hc : (UInt8.ofNat n).toNat = n := toNat_small (by omega)
    rw [bytesL_small h, List.singleton_append, getF_end]
    · rw [hc, Nat.mod_eq_of_lt h]; rfl
    · rw [hc]
      rintro (⟨h9, h1⟩ | ⟨h9, h1⟩)
      · subst h9
        rw [pow9] at hf
        omega
      · omega
    · omega
  · intro n h ih i acc l hi hf h0
    have hbig : n < 18446744073709551616 := by
      have : 1 ≤ 2 ^ (7 * i) := Nat.one_le_two_pow
      have := Nat.mul_le_mul_left n this
      omega
    have hc : (UInt8.ofNat (n % 128 + 128)).toNat = n % 128 + 128 := toNat_small (by omega)
    have hi8 : i + 1 ≤ 9 := by
      by_cases h9 : i = 9
      · subst h9
        rw [pow9] at hf
        omega
      · omega
    have e1 : n * 2 ^ (7 * i) = n % 128 * 2 ^ (7 * i) + n / 128 * (128 * 2 ^ (7 * i)) := by
      have h2 : n = n % 128 + n / 128 * 128 := by omega
      rw [← Nat.mul_assoc, ← Nat.add_mul, ← h2]
    have hn : acc + n % 128 * 2 ^ (7 * i) + n / 128 * 2 ^ (7 * (i + 1)) = acc + n * 2 ^ (7 * i) := by
      rw [pow7, e1, Nat.add_assoc]
    rw [bytesL_big h hbig, List.cons_append, getF_more]
    · rw [hc, show (n % 128 + 128) % 128 = n % 128 by omega, ih (i + 1) _ l hi8 (by rw [hn]; exact hf) (.inr (by omega)), hn, List.length_cons]
      simp only [Prod.mk.injEq, true_and, and_true]
      omega
    · rw [hc]; omega
    · rw [hc]; omega
theorem getL_put (n : Nat) (hn : n < 18446744073709551616) (l : List UInt8) : getL (bytesL n ++ l) = (n, (bytesL n).length, 0) := by
  have := getF_put n 0 0 l (by omega) (by omega) (.inl rfl)
  rw [Nat.zero_add, Nat.zero_add, Nat.mul_zero, Nat.pow_zero, Nat.mul_one] at this
  exact this

/-- A beginning of a number's bytes is short. -/
theorem getF_part (n : Nat) : ∀ (i acc j : Nat), i ≤ 9 → acc + n * 2 ^ (7 * i) < 18446744073709551616 → (i = 0 ∨ 0 < n) → j < (bytesL n).length → getF i acc ((bytesL n).take j) = (0, 0, 6) := by
  refine rec128 (P := fun n => ∀ (i acc j : Nat), i ≤ 9 → acc + n * 2 ^ (7 * i) < 18446744073709551616 → (i = 0 ∨ 0 < n) → j < (bytesL n).length → getF i acc ((bytesL n).take j) = (0, 0, 6)) ?_ ?_ n
  · intro n h i acc j hi hf h0 hj
    rw [bytesL_small h] at hj ⊢
    have : j = 0 := by simpa using hj
    subst this
    rw [List.take_zero, getF_nil]
  · intro n h ih i acc j hi hf h0 hj
    have hbig : n < 18446744073709551616 := by
      have : 1 ≤ 2 ^ (7 * i) := Nat.one_le_two_pow
      have := Nat.mul_le_mul_left n this
      omega
    have hc : (UInt8.ofNat (n % 128 + 128)).toNat = n % 128 + 128 := toNat_small (by omega)
    have hi8 : i + 1 ≤ 9 := by
      by_cases h9 : i = 9
      · subst h9
        rw [pow9] at hf
        omega
      · omega
    have e1 : n * 2 ^ (7 * i) = n % 128 * 2 ^ (7 * i) + n / 128 * (128 * 2 ^ (7 * i)) := by
      have h2 : n = n % 128 + n / 128 * 128 := by omega
      rw [← Nat.mul_assoc, ← Nat.add_mul, ← h2]
    have hn : acc + n % 128 * 2 ^ (7 * i) + n / 128 * 2 ^ (7 * (i + 1)) = acc + n * 2 ^ (7 * i) := by
      rw [pow7, e1, Nat.add_assoc]
    rw [bytesL_big h hbig] at hj ⊢
    rw [List.length_cons] at hj
    cases j with
    | zero => rw [List.take_zero, getF_nil]
    | succ j =>
      rw [List.take_succ_cons, getF_more]
      · rw [hc, show (n % 128 + 128) % 128 = n % 128 by omega]
        exact ih (i + 1) _ j hi8 (by rw [hn]; exact hf) (.inr (by omega)) (by omega)
      · rw [hc]; omega
      · rw [hc]; omega
theorem getL_part (n j : Nat) (hn : n < 18446744073709551616) (hj : j < (bytesL n).length) : getL ((bytesL n).take j) = (0, 0, 6) :=
  getF_part n 0 0 j (by omega) (by omega) (.inl rfl) hj

/-- What is got, put, is what stood there. -/
theorem getF_back : ∀ (l : List UInt8) (i acc n k : Nat), i ≤ 9 → acc < 2 ^ (7 * i) → getF i acc l = (n, k, 0) → ∃ m, n = acc + m * 2 ^ (7 * i) ∧ i < k ∧ k ≤ i + l.length ∧ bytesL m = l.take (k - i) ∧ (0 < i → 0 < m)
  | [], i, acc, n, k, _, _, h => by rw [getF_nil] at h; simp at h
  | c :: l, i, acc, n, k, hi, ha, h => by
    by_cases hb : (i = 9 ∧ 1 < c.toNat) ∨ (0 < i ∧ c.toNat = 0)
    · rw [getF_bad hb] at h; simp at h
    · by_cases h2 : c.toNat < 128
      · rw [getF_end hb h2] at h
        simp only [Prod.mk.injEq, and_true] at h
        obtain ⟨rfl, rfl⟩ := h
        refine ⟨c.toNat, by rw [Nat.mod_eq_of_lt h2], by omega, by rw [List.length_cons]; omega, ?_, by omega⟩
        rw [bytesL_small h2, show i + 1 - i = 1 by omega, List.take_succ_cons, List.take_zero]
        simp
      · rw [getF_more hb h2] at h
        have hi2 := gather_next hi hb h2
        obtain ⟨m, hm, hk, hkl, hbm, h0⟩ := getF_back l (i + 1) _ n k hi2 (gather_lt ha c.toNat) h
        have hc := c.toNat_lt
        have hfit := (getF_bounds l (i + 1) _ hi2 (gather_lt ha c.toNat)).1
        rw [h] at hfit
        have hmp := h0 (by omega)
        have hN : c.toNat % 128 + 128 * m < 18446744073709551616 := by
          have h1 : 1 ≤ 2 ^ (7 * i) := Nat.one_le_two_pow
          have h3 := Nat.mul_le_mul_left (c.toNat % 128) h1
          have h4 := Nat.mul_le_mul_left (m * 128) h1
          rw [pow7, ← Nat.mul_assoc] at hm
          have hfit' : n < 18446744073709551616 := hfit
          omega
        refine ⟨c.toNat % 128 + 128 * m, ?_, by omega, by rw [List.length_cons]; omega, ?_, by omega⟩
        · rw [hm, pow7, Nat.add_mul, Nat.add_assoc, Nat.mul_comm 128 m, Nat.mul_assoc]
        · have hnb : ¬ c.toNat % 128 + 128 * m < 128 := by omega
          rw [bytesL_big hnb hN, show (c.toNat % 128 + 128 * m) / 128 = m by omega, hbm, show k - i = (k - (i + 1)) + 1 by omega, List.take_succ_cons, show (c.toNat % 128 + 128 * m) % 128 + 128 = c.toNat by omega]
          simp
theorem getL_back {l : List UInt8} {n k : Nat} (h : getL l = (n, k, 0)) : bytesL n ++ l.drop k = l := by
  obtain ⟨m, hm, _, _, hb, _⟩ := getF_back l 0 0 n k (by omega) (by omega) h
  rw [Nat.zero_add, Nat.mul_zero, Nat.pow_zero, Nat.mul_one] at hm
  rw [hm, hb, Nat.sub_zero, List.take_append_drop]

/-! ### whole numbers -/
def zig (n : Int) : Nat := if 0 ≤ n then (2 * n).toNat else (-2 * n - 1).toNat
def zag (u : Nat) : Int := if u % 2 = 0 then ((u / 2 : Nat) : Int) else -1 - ((u / 2 : Nat) : Int)
theorem zag_zig (n : Int) : zag (zig n) = n := by unfold zag zig; split <;> split <;> omega
theorem zig_lt {n : Int} (h0 : -9223372036854775808 ≤ n) (h1 : n ≤ 9223372036854775807) : zig n < 18446744073709551616 := by unfold zig; split <;> omega
theorem zag_bd {u : Nat} (h : u < 18446744073709551616) : -9223372036854775808 ≤ zag u ∧ zag u ≤ 9223372036854775807 := by unfold zag; split <;> omega

def intL (n : Int) : List UInt8 := bytesL (zig n)
/-- The whole number that is got: 0 with an error. -/
def getI (l : List UInt8) : Int × Nat × Int := (zag (getL l).1, (getL l).2.1, (getL l).2.2)
theorem getI_bounds (l : List UInt8) : (-9223372036854775808 ≤ (getI l).1 ∧ (getI l).1 ≤ 9223372036854775807) ∧ (getI l).2.1 ≤ l.length ∧ ((getI l).2.2 = 0 ∨ (getI l = (0, 0, 6) ∨ getI l = (0, 0, 20))) ∧ ((getI l).2.2 = 0 → 1 ≤ (getI l).2.1) := by
  have h := getL_bounds l
  refine ⟨zag_bd h.1, h.2.1, ?_, h.2.2.2⟩
  rcases h.2.2.1 with h0 | h0 | h0
  · exact .inl h0
  · refine .inr (.inl ?_); unfold getI; rw [h0]; rfl
  · refine .inr (.inr ?_); unfold getI; rw [h0]; rfl
theorem getI_put (n : Int) (h0 : -9223372036854775808 ≤ n) (h1 : n ≤ 9223372036854775807) (l : List UInt8) : getI (intL n ++ l) = (n, (intL n).length, 0) := by
  unfold getI intL
  rw [getL_put _ (zig_lt h0 h1), zag_zig]

/-! ### texts -/
def textL (s : List UInt8) : List UInt8 := bytesL s.length ++ s
/-- The text, how many bytes it takes in all, and the error's number. -/
def getT (l : List UInt8) (most : Int) : List UInt8 × Nat × Int :=
  if (getL l).2.2 ≠ 0 then ([], 0, (getL l).2.2)
  else if max 0 most < ((getL l).1 : Int) then ([], 0, 2)
  else if l.length - (getL l).2.1 < (getL l).1 then ([], 0, 6)
  else ((l.drop (getL l).2.1).take (getL l).1, (getL l).2.1 + (getL l).1, 0)
theorem getT_put (s : List UInt8) (hs : s.length < 18446744073709551616) (most : Int) (hm : (s.length : Int) ≤ most) (l : List UInt8) : getT (textL s ++ l) most = (s, (textL s).length, 0) := by
  unfold getT textL
  rw [List.append_assoc, getL_put _ hs]
  have e1 : ¬ ((0 : Int) ≠ 0) := by simp
  have e2 : ¬ max 0 most < (s.length : Int) := by omega
  have e3 : ¬ (bytesL s.length ++ (s ++ l)).length - (bytesL s.length).length < s.length := by simp
  simp only []
  rw [if_neg e1, if_neg e2, if_neg e3, List.drop_left, List.take_left, List.length_append]

/-! ### rows -/
def allL (zs : List Int) : List UInt8 := (zs.map intL).flatten
theorem allL_snoc (zs : List Int) (k : Nat) (hk : k < zs.length) : allL (zs.take (k + 1)) = allL (zs.take k) ++ intL (zs.getD k 0) := by
  unfold allL
  rw [List.take_succ_eq_append_getElem hk, List.map_append, List.flatten_append]
  simp [List.getD, hk]
theorem allL_length (zs : List Int) : (allL zs).length ≤ 10 * zs.length := by
  induction zs with
  | nil => simp [allL]
  | cons z zs ih =>
    have : allL (z :: zs) = intL z ++ allL zs := by simp [allL]
    rw [this, List.length_append, List.length_cons]
    have := (bytesL_length (zig z)).2
    unfold intL
    omega
/-- So many whole numbers: they, how many bytes they take, and the error's number. -/
def getA : Nat → List UInt8 → List Int × Nat × Int
  | 0, _ => ([], 0, 0)
  | m + 1, l => if (getI l).2.2 ≠ 0 then ([], 0, (getI l).2.2) else
      if (getA m (l.drop (getI l).2.1)).2.2 ≠ 0 then ([], 0, (getA m (l.drop (getI l).2.1)).2.2)
      else ((getI l).1 :: (getA m (l.drop (getI l).2.1)).1, (getI l).2.1 + (getA m (l.drop (getI l).2.1)).2.1, 0)
end Go.Proofs.Ytgacfihidpijeaa.VM
set_option linter.unusedVariables false
namespace Go.Proofs.Ytgacfihidpijeaa.UM
open Go.Lib

/-! ### runes of bytes -/
def runesGo : Nat → List UInt8 → List Int
  | 0, _ => []
  | n + 1, l => if l = [] then [] else ((decodeL l).1 : Int) :: runesGo n (l.drop (decodeL l).2)
def runesL (l : List UInt8) : List Int := runesGo l.length l

theorem runesGo_fuel : ∀ (n m : Nat) (l : List UInt8), l.length ≤ n → l.length ≤ m → runesGo n l = runesGo m l
  | 0, 0, l, _, _ => rfl
  | 0, m + 1, l, h, _ => by
    have : l = [] := List.eq_nil_of_length_eq_zero (by omega)
    simp [runesGo, this]
  | n + 1, 0, l, _, h => by
    have : l = [] := List.eq_nil_of_length_eq_zero (by omega)
    simp [runesGo, this]
  | n + 1, m + 1, l, h, k => by
    unfold runesGo
    by_cases e : l = []
    · simp [e]
    · have hw := decodeL_width l
      have hl : 0 < l.length := List.length_pos_iff.2 e
      rw [if_neg e, if_neg e, runesGo_fuel n m _ (by rw [List.length_drop]; omega) (by rw [List.length_drop]; omega)]
theorem runesL_nil : runesL [] = [] := rfl
theorem runesL_step (l : List UInt8) (hne : l ≠ []) : runesL l = ((decodeL l).1 : Int) :: runesL (l.drop (decodeL l).2) := by
  have hl : 0 < l.length := List.length_pos_iff.2 hne
  have hw := decodeL_width l
  obtain ⟨n, hn⟩ : ∃ n, l.length = n + 1 := ⟨l.length - 1, by omega⟩
  unfold runesL
  rw [hn, runesGo, if_neg hne, runesGo_fuel n (l.drop (decodeL l).2).length _ (by rw [List.length_drop]; omega) (Nat.le_refl _)]
theorem runesL_length (l : List UInt8) : (runesL l).length ≤ l.length := by
  suffices h : ∀ n l, (runesGo n l).length ≤ n from h _ _
  intro n
  induction n with
  | zero => intro l; simp [runesGo]
  | succ n ih =>
    intro l
    unfold runesGo
    split
    · simp
    · have := ih (l.drop (decodeL l).2)
      simp
      omega

/-! ### bytes of runes -/
def norm (r : Int) : Int := if r < 0 ∨ (55296 ≤ r ∧ r ≤ 57343) ∨ 1114111 < r then 65533 else r
def encL (rs : List Int) : List UInt8 := rs.flatMap encodeRune
theorem encL_nil : encL [] = [] := rfl
theorem encL_cons (r : Int) (rs : List Int) : encL (r :: rs) = encodeRune r ++ encL rs := rfl
theorem encL_append (a b : List Int) : encL (a ++ b) = encL a ++ encL b := by simp [encL]
theorem encL_length (rs : List Int) : (encL rs).length ≤ 4 * rs.length := by
  induction rs with
  | nil => simp [encL]
  | cons r t ih =>
    have := (encodeRuneZ_length r).2
    have h2 : (encodeRune r).length = (encodeRuneZ r).length := by simp [encodeRune]
    rw [encL_cons, List.length_append, List.length_cons]
    omega

theorem norm_norm (r : Int) : norm (norm r) = norm r := by unfold norm; split <;> (try split) <;> omega
theorem norm_good (r : Int) : (0 ≤ norm r ∧ norm r < 55296) ∨ (57343 < norm r ∧ norm r ≤ 1114111) := by unfold norm; split <;> omega
theorem norm_of_good (r : Int) (h : (0 ≤ r ∧ r < 55296) ∨ (57343 < r ∧ r ≤ 1114111)) : norm r = r := by unfold norm; rw [if_neg (by omega)]
theorem encodeRuneZ_norm (r : Int) : encodeRuneZ (norm r) = encodeRuneZ r := by
  unfold norm
  split
  · rename_i h
    rw [encodeRuneZ_bad h]
    decide
  · rfl

/-- Reading back the first rune's bytes, whatever follows. -/
theorem decodeN_two (n b1 : Nat) (r b2 b3 : Nat) (h0 : 128 ≤ r) (h1 : r ≤ 2047) (hn : 2 ≤ n) : decodeN n (192 + r / 64) (128 + r % 64) b2 b3 = (r, 2) := by
  unfold decodeN
  rw [if_neg (by omega), if_pos (by omega), if_pos (by omega)]
  congr 1
  omega
theorem decodeN_three (n : Nat) (r b3 : Nat) (h : (2048 ≤ r ∧ r < 55296) ∨ (57343 < r ∧ r ≤ 65535)) (hn : 3 ≤ n) : decodeN n (224 + r / 4096) (128 + r / 64 % 64) (128 + r % 64) b3 = (r, 3) := by
  have e : (224 + r / 4096) % 16 * 4096 + (128 + r / 64 % 64) % 64 * 64 + (128 + r % 64) % 64 = r := by omega
  unfold decodeN
  rw [e, if_neg (by omega), if_neg (by omega), if_pos (by omega), if_pos (by omega)]
theorem decodeN_four (n : Nat) (r : Nat) (h0 : 65536 ≤ r) (h1 : r ≤ 1114111) (hn : 4 ≤ n) : decodeN n (240 + r / 262144) (128 + r / 4096 % 64) (128 + r / 64 % 64) (128 + r % 64) = (r, 4) := by
  have e : (240 + r / 262144) % 8 * 262144 + (128 + r / 4096 % 64) % 64 * 4096 + (128 + r / 64 % 64) % 64 * 64 + (128 + r % 64) % 64 = r := by omega
  unfold decodeN
  rw [e, if_neg (by omega), if_neg (by omega), if_neg (by omega), if_pos (by omega), if_pos (by omega)]

theorem byte_toNat (x : Int) (h0 : 0 ≤ x) (h1 : x < 256) : (x.toNat.toUInt8).toNat = x.toNat := by
  simp
  omega

theorem decode_enc (r : Int) (t : List UInt8) : decodeL (encodeRune r ++ t) = ((norm r).toNat, (encodeRune r).length) := by
  have key : ∀ q : Int, ((0 ≤ q ∧ q < 55296) ∨ (57343 < q ∧ q ≤ 1114111)) → decodeL (encodeRune q ++ t) = (q.toNat, (encodeRune q).length) := by
    intro q hq
    rw [decodeL_N]
    by_cases c1 : q ≤ 127
    · have e : encodeRune q = [q.toNat.toUInt8] := by unfold encodeRune; rw [encodeRuneZ_one (by omega) c1]; rfl
      rw [e]
      simp only [List.cons_append, List.nil_append, List.length_cons, List.length_nil, List.getD_cons_zero, List.getD_cons_succ]
      rw [byte_toNat q (by omega) (by omega), decodeN, if_pos (by omega)]
    · by_cases c2 : q ≤ 2047
      · have e : encodeRune q = [(192 + q / 64).toNat.toUInt8, (128 + q % 64).toNat.toUInt8] := by unfold encodeRune; rw [encodeRuneZ_two (by omega) c2]; rfl
        rw [e]
        simp only [List.cons_append, List.nil_append, List.length_cons, List.length_nil, List.getD_cons_zero, List.getD_cons_succ]
        rw [byte_toNat _ (by omega) (by omega), byte_toNat _ (by omega) (by omega)]
        rw [show (192 + q / 64).toNat = 192 + q.toNat / 64 by omega, show (128 + q % 64).toNat = 128 + q.toNat % 64 by omega]
        exact decodeN_two _ 0 _ _ _ (by omega) (by omega) (by omega)
      · by_cases c3 : q ≤ 65535
        · have e : encodeRune q = [(224 + q / 4096).toNat.toUInt8, (128 + q / 64 % 64).toNat.toUInt8, (128 + q % 64).toNat.toUInt8] := by unfold encodeRune; rw [encodeRuneZ_three (by omega)]; rfl
          rw [e]
          simp only [List.cons_append, List.nil_append, List.length_cons, List.length_nil, List.getD_cons_zero, List.getD_cons_succ]
          rw [byte_toNat _ (by omega) (by omega), byte_toNat _ (by omega) (by omega), byte_toNat _ (by omega) (by omega)]
          rw [show (224 + q / 4096).toNat = 224 + q.toNat / 4096 by omega, show (128 + q / 64 % 64).toNat = 128 + q.toNat / 64 % 64 by omega, show (128 + q % 64).toNat = 128 + q.toNat % 64 by omega]
          exact decodeN_three _ _ _ (by omega) (by omega)
        · have e : encodeRune q = [(240 + q / 262144).toNat.toUInt8, (128 + q / 4096 % 64).toNat.toUInt8, (128 + q / 64 % 64).toNat.toUInt8, (128 + q % 64).toNat.toUInt8] := by unfold encodeRune; rw [encodeRuneZ_four (by omega) (by omega)]; rfl
          rw [e]
          simp only [List.cons_append, List.nil_append, List.length_cons, List.length_nil, List.getD_cons_zero, List.getD_cons_succ]
          rw [byte_toNat _ (by omega) (by omega), byte_toNat _ (by omega) (by omega), byte_toNat _ (by omega) (by omega), byte_toNat _ (by omega) (by omega)]
          rw [show (240 + q / 262144).toNat = 240 + q.toNat / 262144 by omega, show (128 + q / 4096 % 64).toNat = 128 + q.toNat / 4096 % 64 by omega, show (128 + q / 64 % 64).toNat = 128 + q.toNat / 64 % 64 by omega, show (128 + q % 64).toNat = 128 + q.toNat % 64 by omega]
          exact decodeN_four _ _ (by omega) (by omega) (by omega)
  have e : encodeRune r = encodeRune (norm r) := by unfold encodeRune; rw [encodeRuneZ_norm]
  rw [e]
  exact key (norm r) (norm_good r)

theorem encodeRune_ne (r : Int) : encodeRune r ≠ [] := by
  have := (encodeRuneZ_length r).1
  intro h
  have h2 : (encodeRune r).length = (encodeRuneZ r).length := by simp [encodeRune]
  rw [h] at h2
  simp at h2
  omega

/-- THERE AND BACK. -/
theorem runes_enc (rs : List Int) : runesL (encL rs) = rs.map norm := by
  induction rs with
  | nil => rfl
  | cons r t ih =>
    rw [encL_cons, runesL_step _ (by simp [encodeRune_ne]), decode_enc]
    simp only [List.drop_left, ih, List.map_cons]
    congr 1
    have := norm_good r
    omega

theorem width_enc (r : Int) : (encodeRune r).length = 1 → (norm r).toNat ≠ 65533 := by
  intro h e
  have h2 : (encodeRune r).length = (encodeRuneZ r).length := by simp [encodeRune]
  have h3 := encodeRuneZ_norm r
  have h4 : norm r = 65533 := by have := norm_good r; omega
  rw [h4] at h3
  rw [← h3] at h2
  rw [h] at h2
  revert h2
  decide

/-- WHAT WAS ENCODED IS VALID. -/
theorem valid_enc (rs : List Int) : validD (encL rs) = true := by
  induction rs with
  | nil => rfl
  | cons r t ih =>
    rw [encL_cons, validD_step _ (by simp [encodeRune_ne]), decode_enc]
    rw [if_neg (fun h => width_enc r h.2 h.1)]
    simp only [List.drop_left, ih]

/-- A step of the reading: either wrong bytes (U+FFFD, one byte), or the rune's own bytes. -/
theorem decode_back (l : List UInt8) (hne : l ≠ []) : ((decodeL l).1 = 65533 ∧ (decodeL l).2 = 1) ∨ encodeRune ((decodeL l).1 : Int) = l.take (decodeL l).2 := by
  have hl : 0 < l.length := List.length_pos_iff.2 hne
  have e0 : ∀ k, k < l.length → l.take (k + 1) = l.take k ++ [l.getD k 0] := by
    intro k hk
    rw [List.take_succ_eq_append_getElem hk]
    simp [List.getD, hk]
  have by8 : ∀ (x : UInt8) (n : Nat), x.toNat = n → n.toUInt8 = x := by
    intro x n h; subst h; simp
  rw [decodeL_N]
  generalize h0 : l.getD 0 0 = x0
  generalize h1 : l.getD 1 0 = x1
  generalize h2 : l.getD 2 0 = x2
  generalize h3 : l.getD 3 0 = x3
  have y0 : x0.toNat < 256 := x0.toNat_lt
  have y1 : x1.toNat < 256 := x1.toNat_lt
  have y2 : x2.toNat < 256 := x2.toNat_lt
  have y3 : x3.toNat < 256 := x3.toNat_lt
  unfold decodeN
  by_cases c0 : x0.toNat < 128
  · right
    rw [if_pos c0]
    show encodeRune _ = _
    unfold encodeRune
    rw [encodeRuneZ_one (by omega) (by omega), e0 0 hl, h0]
    simp
  · rw [if_neg c0]
    by_cases c1 : x0.toNat / 32 = 6 ∧ (1 < l.length ∧ x1.toNat / 64 = 2)
    · rw [if_pos c1]
      by_cases d : x0.toNat % 32 * 64 + x1.toNat % 64 ≥ 128
      · right
        rw [if_pos d]
        show encodeRune _ = _
        unfold encodeRune
        rw [encodeRuneZ_two (by omega) (by omega), e0 1 (by omega), e0 0 hl, h0, h1]
        simp only [List.map_cons, List.map_nil, List.take_zero, List.nil_append, List.cons_append, List.cons.injEq, and_true]
        exact ⟨by8 _ _ (by omega), by8 _ _ (by omega)⟩
      · left
        rw [if_neg d]
        exact ⟨rfl, rfl⟩
    · rw [if_neg c1]
      by_cases c2 : x0.toNat / 16 = 14 ∧ (1 < l.length ∧ x1.toNat / 64 = 2) ∧ (2 < l.length ∧ x2.toNat / 64 = 2)
      · rw [if_pos c2]
        split
        · right
          show encodeRune _ = _
          unfold encodeRune
          rw [encodeRuneZ_three (by omega), e0 2 (by omega), e0 1 (by omega), e0 0 hl, h0, h1, h2]
          simp only [List.map_cons, List.map_nil, List.take_zero, List.nil_append, List.cons_append, List.cons.injEq, and_true]
          exact ⟨by8 _ _ (by omega), by8 _ _ (by omega), by8 _ _ (by omega)⟩
        · left
          exact ⟨rfl, rfl⟩
      · rw [if_neg c2]
        by_cases c3 : x0.toNat / 8 = 30 ∧ (1 < l.length ∧ x1.toNat / 64 = 2) ∧ (2 < l.length ∧ x2.toNat / 64 = 2) ∧ (3 < l.length ∧ x3.toNat / 64 = 2)
        · rw [if_pos c3]
          split
          · right
            show encodeRune _ = _
            unfold encodeRune
            rw [encodeRuneZ_four (by omega) (by omega), e0 3 (by omega), e0 2 (by omega), e0 1 (by omega), e0 0 hl, h0, h1, h2, h3]
            simp only [List.map_cons, List.map_nil, List.take_zero, List.nil_append, List.cons_append, List.cons.injEq, and_true]
            exact ⟨by8 _ _ (by omega), by8 _ _ (by omega), by8 _ _ (by omega), by8 _ _ (by omega)⟩
          · left
            exact ⟨rfl, rfl⟩
        · rw [if_neg c3]
          left
          exact ⟨rfl, rfl⟩

theorem encL_runes_longer (l : List UInt8) : l.length ≤ (encL (runesL l)).length := by
  suffices h : ∀ n (l : List UInt8), l.length ≤ n → l.length ≤ (encL (runesL l)).length from h _ l (Nat.le_refl _)
  intro n
  induction n with
  | zero => intro l hl; omega
  | succ n ih =>
    intro l hl
    by_cases e : l = []
    · subst e; simp
    · have hw := decodeL_width l
      have hp : 0 < l.length := List.length_pos_iff.2 e
      have hle := decodeL_le l e
      rw [runesL_step l e, encL_cons, List.length_append]
      have hr := ih (l.drop (decodeL l).2) (by rw [List.length_drop]; omega)
      rw [List.length_drop] at hr
      rcases decode_back l e with ⟨h1, h2⟩ | h
      · have : 1 ≤ (encodeRune ((decodeL l).1 : Int)).length := List.length_pos_iff.2 (encodeRune_ne _)
        omega
      · rw [h, List.length_take]
        omega

/-- VALID: what was read, encoded, is the text. -/
theorem valid_iff (l : List UInt8) : validD l = decide (encL (runesL l) = l) := by
  suffices h : ∀ n (l : List UInt8), l.length ≤ n → validD l = decide (encL (runesL l) = l) from h _ l (Nat.le_refl _)
  intro n
  induction n with
  | zero =>
    intro l hl
    have : l = [] := List.eq_nil_of_length_eq_zero (by omega)
    subst this
    rfl
  | succ n ih =>
    intro l hl
    by_cases e : l = []
    · subst e; rfl
    · have hw := decodeL_width l
      have hp : 0 < l.length := List.length_pos_iff.2 e
      have hle := decodeL_le l e
      rw [validD_step l e, runesL_step l e, encL_cons]
      by_cases hbad : (decodeL l).1 = 65533 ∧ (decodeL l).2 = 1
      · rw [if_pos hbad]
        symm
        rw [decide_eq_false_iff_not]
        intro h
        have hlen := congrArg List.length h
        rw [List.length_append] at hlen
        have hr := encL_runes_longer (l.drop (decodeL l).2)
        rw [List.length_drop] at hr
        have h3 : (encodeRune ((decodeL l).1 : Int)).length = 3 := by rw [hbad.1]; decide
        omega
      · rw [if_neg hbad]
        rcases decode_back l e with h | h
        · exact absurd h hbad
        · rw [h, ih _ (by rw [List.length_drop]; omega)]
          congr 1
          apply propext
          constructor
          · intro k
            rw [k]
            exact List.take_append_drop _ _
          · intro k
            have hlen : (l.take (decodeL l).2).length = (decodeL l).2 := by rw [List.length_take]; omega
            have h5 := congrArg (List.drop (decodeL l).2) k
            rwa [List.drop_left' hlen] at h5

/-! ### each rune that was read has bytes of its own -/
theorem decode_good (l : List UInt8) (hne : l ≠ []) : norm ((decodeL l).1 : Int) = ((decodeL l).1 : Int) := by
  rcases decode_back l hne with h | h
  · rw [h.1]; decide
  · have h1 := decode_enc ((decodeL l).1 : Int) (l.drop (decodeL l).2)
    rw [h, List.take_append_drop] at h1
    have h2 := congrArg Prod.fst h1
    have := norm_good ((decodeL l).1 : Int)
    simp only at h2
    omega
theorem runes_good (l : List UInt8) : ∀ r ∈ runesL l, norm r = r := by
  suffices h : ∀ n (l : List UInt8), l.length ≤ n → ∀ r ∈ runesL l, norm r = r from h _ l (Nat.le_refl _)
  intro n
  induction n with
  | zero =>
    intro l hl r hr
    have : l = [] := List.eq_nil_of_length_eq_zero (by omega)
    subst this
    cases hr
  | succ n ih =>
    intro l hl r hr
    by_cases e : l = []
    · subst e; cases hr
    · have hw := decodeL_width l
      have hp : 0 < l.length := List.length_pos_iff.2 e
      rw [runesL_step l e] at hr
      rcases List.mem_cons.1 hr with rfl | hr
      · exact decode_good l e
      · exact ih _ (by rw [List.length_drop]; omega) r hr

/-! ### lower case, words -/
def lowerZ (r : Int) : Int :=
  if (65 ≤ r ∧ r ≤ 90) ∨ (192 ≤ r ∧ r ≤ 222 ∧ r ≠ 215) ∨ (913 ≤ r ∧ r ≤ 939 ∧ r ≠ 930) ∨ (1040 ≤ r ∧ r ≤ 1071) then r + 32
  else if 1024 ≤ r ∧ r ≤ 1039 then r + 80 else r
def wordZ (r : Int) : Bool :=
  decide ((48 ≤ r ∧ r ≤ 57) ∨ (65 ≤ r ∧ r ≤ 90) ∨ (97 ≤ r ∧ r ≤ 122) ∨ (192 ≤ r ∧ r ≤ 255 ∧ r ≠ 215 ∧ r ≠ 247) ∨ (913 ≤ r ∧ r ≤ 974 ∧ r ≠ 930) ∨ (1024 ≤ r ∧ r ≤ 1119))
theorem lower_lower (r : Int) : lowerZ (lowerZ r) = lowerZ r := by unfold lowerZ; repeat' split; all_goals omega
theorem lower_good (r : Int) (h : norm r = r) : norm (lowerZ r) = lowerZ r := by
  have := norm_good r
  rw [h] at this
  apply norm_of_good
  unfold lowerZ
  repeat' split
  all_goals omega
def foldL (l : List UInt8) : List UInt8 := encL ((runesL l).map lowerZ)
theorem runes_fold (l : List UInt8) : runesL (foldL l) = (runesL l).map lowerZ := by
  unfold foldL
  rw [runes_enc, List.map_map]
  apply List.map_congr_left
  intro r hr
  exact lower_good r (runes_good l r hr)
theorem fold_fold (l : List UInt8) : foldL (foldL l) = foldL l := by
  show encL ((runesL (foldL l)).map lowerZ) = foldL l
  rw [runes_fold, List.map_map]
  unfold foldL
  congr 1
  apply List.map_congr_left
  intro r _
  exact lower_lower r
theorem fold_valid (l : List UInt8) : validD (foldL l) = true := valid_enc _
theorem fold_count (l : List UInt8) : (runesL (foldL l)).length = (runesL l).length := by rw [runes_fold, List.length_map]
end Go.Proofs.Ytgacfihidpijeaa.UM
namespace Go.Proofs
open Go.Shelf
def Try.lays128_ren : Go.Shelf.Ren := ⟨fun | 128 => 100 | n => n, fun | 51 => 135 | 3 => 3 | 4 => 4 | 46 => 115 | 5 => 5 | 9 => 9 | n => n, fun | n => n⟩
theorem Try.lays128 : Go.Proofs.Lays.n128 Try.prog Try.lays128_ren := {
  mixed := by kernel_rfl
  f128 := Try.func100.trans (congrArg some (by kernel_rfl))
  t3 := Try.underlying3
  a3 := Try.isAgg3
  z3 := Try.sizeOf3
  v3 := Try.zeroValue3
  t4 := Try.underlying4
  a4 := Try.isAgg4
  z4 := Try.sizeOf4
  v4 := Try.zeroValue4
  t5 := Try.underlying5
  a5 := Try.isAgg5
  z5 := Try.sizeOf5
  v5 := Try.zeroValue5
  t9 := Try.underlying9
  a9 := Try.isAgg9
  z9 := Try.sizeOf9
  v9 := Try.zeroValue9
  t46 := Try.underlying115
  a46 := Try.isAgg115
  z46 := Try.sizeOf115
  v46 := Try.zeroValue115
  t51 := Try.underlying135
  a51 := Try.isAgg135
  z51 := Try.sizeOf135
  v51 := Try.zeroValue135 }
/-- bits.Len32: "Len32 returns the minimum number of bits required to represent x; the result is 0 for x == 0.": IT RETURNS 'Lib.bitLen x'; the world is as it was. ('h0', 'h1': x is a uint32.) (LAID: no walk: one application.) -/
theorem Try.bits_Len32 (x : Int) (w : World) (h0 : 0 ≤ x) (h1 : x ≤ 4294967295) :
    Calls Try.prog 100 #[.int .u32 x] w fun e w' => e = .returned (.int .i64 (Lib.bitLen x.toNat)) ∧ w' = w := Any.bits_Len32 Try.lays128 x w h0 h1
def Try.lays125_ren : Go.Shelf.Ren := ⟨fun | 125 => 80 | 128 => 100 | 129 => 90 | n => n, fun | 46 => 115 | 3 => 3 | 51 => 135 | 53 => 77 | 4 => 4 | 5 => 5 | 9 => 9 | n => n, fun | n => n⟩
theorem Try.lays125 : Go.Proofs.Lays.n125 Try.prog Try.lays125_ren := {
  mixed := by kernel_rfl
  f125 := Try.func80.trans (congrArg some (by kernel_rfl))
  f128 := Try.func100.trans (congrArg some (by kernel_rfl))
  f129 := Try.func90.trans (congrArg some (by kernel_rfl))
  t3 := Try.underlying3
  a3 := Try.isAgg3
  z3 := Try.sizeOf3
  v3 := Try.zeroValue3
  t4 := Try.underlying4
  a4 := Try.isAgg4
  z4 := Try.sizeOf4
  v4 := Try.zeroValue4
  t5 := Try.underlying5
  a5 := Try.isAgg5
  z5 := Try.sizeOf5
  v5 := Try.zeroValue5
  t9 := Try.underlying9
  a9 := Try.isAgg9
  z9 := Try.sizeOf9
  v9 := Try.zeroValue9
  t46 := Try.underlying115
  a46 := Try.isAgg115
  z46 := Try.sizeOf115
  v46 := Try.zeroValue115
  t51 := Try.underlying135
  a51 := Try.isAgg135
  z51 := Try.sizeOf135
  v51 := Try.zeroValue135
  t53 := Try.underlying77
  a53 := Try.isAgg77
  z53 := Try.sizeOf77
  v53 := Try.zeroValue77 }
/-- bits.Len: "Len returns the minimum number of bits required to represent x; the result is 0 for x == 0.": IT RETURNS 'Lib.bitLen x'; the world is as it was. (A uint has 64 bits in the model.) ITS CALLEE bits.Len64 IS MET BY ITS OWN CONTRACT OFF THE SHELF (lay that first). (LAID: no walk: one application.) -/
theorem Try.bits_Len (x : Int) (w : World) (h0 : 0 ≤ x) (h1 : x ≤ 18446744073709551615) :
    Calls Try.prog 80 #[.int .u64 x] w fun e w' => e = .returned (.int .i64 (Lib.bitLen x.toNat)) ∧ w' = w := Any.bits_Len Try.lays125 x w h0 h1
def Try.lays278_ren : Go.Shelf.Ren := ⟨fun | 278 => 121 | n => n, fun | 37 => 40 | 21 => 21 | 51 => 135 | 4 => 4 | 46 => 115 | 5 => 5 | n => n, fun | n => n⟩
theorem Try.lays278 : Go.Proofs.Lays.n278 Try.prog Try.lays278_ren := {
  mixed := by kernel_rfl
  f278 := Try.func121.trans (congrArg some (by kernel_rfl))
  t4 := Try.underlying4
  a4 := Try.isAgg4
  z4 := Try.sizeOf4
  v4 := Try.zeroValue4
  t5 := Try.underlying5
  a5 := Try.isAgg5
  z5 := Try.sizeOf5
  v5 := Try.zeroValue5
  t21 := Try.underlying21
  a21 := Try.isAgg21
  z21 := Try.sizeOf21
  v21 := Try.zeroValue21
  t37 := Try.underlying40
  a37 := Try.isAgg40
  z37 := Try.sizeOf40
  v37 := Try.zeroValue40
  t46 := Try.underlying115
  a46 := Try.isAgg115
  z46 := Try.sizeOf115
  v46 := Try.zeroValue115
  t51 := Try.underlying135
  a51 := Try.isAgg135
  z51 := Try.sizeOf135
  v51 := Try.zeroValue135 }
open Go.RowKit in
/-- unicode/utf8.appendRuneNonASCII (what AppendRune calls for all but ASCII), ONTO A ROW OF BYTES THAT THE CALL OWNS: every int32 that is no ASCII rune: 'Lib.runeCells r' goes in behind what the row holds. (LAID: no walk: one application.) -/
theorem Try.utf8_appendRuneNonASCII_row (B : Nat) (v : Value) (n : Nat) (xs : List Value) (r : Int) (hr0 : -2147483648 ≤ r) (hr1 : r ≤ 2147483647) (hna : r < 0 ∨ 128 ≤ r) (w : World) (hown : w.ownsRowF B 5 1 v n xs) (hlen : n + 4 ≤ 140737488355328) (hBw : B ≤ w.heap.size) :
    Calls Try.prog 121 #[v, .int .i32 r] w fun e w' => ∃ v', e = .returned v' ∧ w'.ownsRowF B 5 1 v' (n + (Lib.runeCells r).length) (xs ++ Lib.runeCells r) ∧ ∃ o, (w.alloc o).grownBy w' v.ownBlock := Any.utf8_appendRuneNonASCII_row Try.lays278 (by kernel_rfl) B v n xs r hr0 hr1 hna w hown hlen hBw
def Try.lays242_ren : Go.Shelf.Ren := ⟨fun | 242 => 119 | 278 => 121 | n => n, fun | 37 => 40 | 21 => 21 | 51 => 135 | 4 => 4 | 5 => 5 | 46 => 115 | n => n, fun | n => n⟩
theorem Try.lays242 : Go.Proofs.Lays.n242 Try.prog Try.lays242_ren := {
  mixed := by kernel_rfl
  f242 := Try.func119.trans (congrArg some (by kernel_rfl))
  f278 := Try.func121.trans (congrArg some (by kernel_rfl))
  t4 := Try.underlying4
  a4 := Try.isAgg4
  z4 := Try.sizeOf4
  v4 := Try.zeroValue4
  t5 := Try.underlying5
  a5 := Try.isAgg5
  z5 := Try.sizeOf5
  v5 := Try.zeroValue5
  t21 := Try.underlying21
  a21 := Try.isAgg21
  z21 := Try.sizeOf21
  v21 := Try.zeroValue21
  t37 := Try.underlying40
  a37 := Try.isAgg40
  z37 := Try.sizeOf40
  v37 := Try.zeroValue40
  t46 := Try.underlying115
  a46 := Try.isAgg115
  z46 := Try.sizeOf115
  v46 := Try.zeroValue115
  t51 := Try.underlying135
  a51 := Try.isAgg135
  z51 := Try.sizeOf135
  v51 := Try.zeroValue135 }
open Go.RowKit in
/-- unicode/utf8.AppendRune: "AppendRune appends the UTF-8 encoding of r to the end of p and returns the extended buffer. If the rune is out of range, it appends the encoding of RuneError.": ONTO A ROW OF BYTES THAT THE CALL OWNS (its head frozen or not): EVERY int32: 'Lib.runeCells r' goes in behind what the row holds; the world: one new block (the bytes as the call's variadic argument), then what 'append' does to the row. (LAID: no walk: one application.) -/
theorem Try.utf8_AppendRune_row (B : Nat) (v : Value) (n : Nat) (xs : List Value) (r : Int) (hr0 : -2147483648 ≤ r) (hr1 : r ≤ 2147483647) (w : World) (hown : w.ownsRowF B 5 1 v n xs) (hlen : n + 4 ≤ 140737488355328) (hBw : B ≤ w.heap.size) :
    Calls Try.prog 119 #[v, .int .i32 r] w fun e w' => ∃ v', e = .returned v' ∧ w'.ownsRowF B 5 1 v' (n + (Lib.runeCells r).length) (xs ++ Lib.runeCells r) ∧ ∃ o, (w.alloc o).grownBy w' v.ownBlock := Any.utf8_AppendRune_row Try.lays242 (by kernel_rfl) B v n xs r hr0 hr1 w hown hlen hBw
open Go.RowKit in
/-- unicode/utf8.appendRuneNonASCII (what AppendRune calls for all but ASCII), ONTO A ROW OF BYTES THAT THE CALL OWNS: every int32 that is no ASCII rune: 'Lib.runeCells r' goes in behind what the row holds. (LAID: no walk: one application.) -/
theorem Try.utf8_appendRuneNonASCII_plain (B : Nat) (v : Value) (n : Nat) (xs : List Value) (r : Int) (hr0 : -2147483648 ≤ r) (hr1 : r ≤ 2147483647) (hna : r < 0 ∨ 128 ≤ r) (w : World) (hown : w.ownsRow B 5 1 v n xs) (hlen : n + 4 ≤ 140737488355328) (hBw : B ≤ w.heap.size) :
    Calls Try.prog 121 #[v, .int .i32 r] w fun e w' => ∃ v', e = .returned v' ∧ w'.ownsRow B 5 1 v' (n + (Lib.runeCells r).length) (xs ++ Lib.runeCells r) ∧ ∃ o, (w.alloc o).grownBy w' v.ownBlock := Any.utf8_appendRuneNonASCII_plain Try.lays278 (by kernel_rfl) B v n xs r hr0 hr1 hna w hown hlen hBw
open Go.RowKit in
/-- unicode/utf8.AppendRune: "AppendRune appends the UTF-8 encoding of r to the end of p and returns the extended buffer. If the rune is out of range, it appends the encoding of RuneError.": ONTO A ROW OF BYTES THAT THE CALL OWNS (its head frozen or not): EVERY int32: 'Lib.runeCells r' goes in behind what the row holds; the world: one new block (the bytes as the call's variadic argument), then what 'append' does to the row. (LAID: no walk: one application.) -/
theorem Try.utf8_AppendRune_plain (B : Nat) (v : Value) (n : Nat) (xs : List Value) (r : Int) (hr0 : -2147483648 ≤ r) (hr1 : r ≤ 2147483647) (w : World) (hown : w.ownsRow B 5 1 v n xs) (hlen : n + 4 ≤ 140737488355328) (hBw : B ≤ w.heap.size) :
    Calls Try.prog 119 #[v, .int .i32 r] w fun e w' => ∃ v', e = .returned v' ∧ w'.ownsRow B 5 1 v' (n + (Lib.runeCells r).length) (xs ++ Lib.runeCells r) ∧ ∃ o, (w.alloc o).grownBy w' v.ownBlock := Any.utf8_AppendRune_plain Try.lays242 (by kernel_rfl) B v n xs r hr0 hr1 w hown hlen hBw
def Try.lays195_ren : Go.Shelf.Ren := ⟨fun | 195 => 114 | n => n, fun | 9 => 9 | 3 => 3 | 0 => 0 | 4 => 4 | n => n, fun | n => n⟩
theorem Try.lays195 : Go.Proofs.Lays.n195 Try.prog Try.lays195_ren := {
  mixed := by kernel_rfl
  f195 := Try.func114.trans (congrArg some (by kernel_rfl))
  t0 := Try.underlying0
  a0 := Try.isAgg0
  z0 := Try.sizeOf0
  v0 := Try.zeroValue0
  t3 := Try.underlying3
  a3 := Try.isAgg3
  z3 := Try.sizeOf3
  v3 := Try.zeroValue3
  t4 := Try.underlying4
  a4 := Try.isAgg4
  z4 := Try.sizeOf4
  v4 := Try.zeroValue4
  t9 := Try.underlying9
  a9 := Try.isAgg9
  z9 := Try.sizeOf9
  v9 := Try.zeroValue9 }
open Go.RowKit in
/-- unicode/utf8.RuneCountInString: "RuneCountInString is like RuneCount but its input is a string." ("RuneCount returns the number of runes in p. Erroneous and short encodings are treated as single runes of width 1 byte."): EVERY STRING, valid UTF-8 or not: 'Lib.runeCount s' (plain Lean over the model's own 'Utf8.decode'; 'Lib.runeCount_le': at most len(s); 'Lib.runeCount_ascii': on ASCII: len(s)). THE ONE CONDITION: len(s) below 2^63 - 1 (the counter does not wrap): the form's reach pays it. THE WORLD BEHIND THE CALL: ONE BLOCK MORE: the model's iterator over s, at its end: all else as it was. (LAID: no walk: one application.) -/
theorem Try.utf8_RuneCountInString (s : ByteArray) (w : World) (hs : s.size < 9223372036854775807) :
    Calls Try.prog 114 #[.string s] w fun e w' => e = .returned (.int .i64 (Lib.runeCount s)) ∧ ∃ pos, w' = w.iter s pos := Any.utf8_RuneCountInString Try.lays195 s w hs
def Try.lays129_ren : Go.Shelf.Ren := ⟨fun | 129 => 90 | n => n, fun | 53 => 77 | 3 => 3 | 4 => 4 | 46 => 115 | 5 => 5 | 9 => 9 | n => n, fun | n => n⟩
theorem Try.lays129 : Go.Proofs.Lays.n129 Try.prog Try.lays129_ren := {
  mixed := by kernel_rfl
  f129 := Try.func90.trans (congrArg some (by kernel_rfl))
  t3 := Try.underlying3
  a3 := Try.isAgg3
  z3 := Try.sizeOf3
  v3 := Try.zeroValue3
  t4 := Try.underlying4
  a4 := Try.isAgg4
  z4 := Try.sizeOf4
  v4 := Try.zeroValue4
  t5 := Try.underlying5
  a5 := Try.isAgg5
  z5 := Try.sizeOf5
  v5 := Try.zeroValue5
  t9 := Try.underlying9
  a9 := Try.isAgg9
  z9 := Try.sizeOf9
  v9 := Try.zeroValue9
  t46 := Try.underlying115
  a46 := Try.isAgg115
  z46 := Try.sizeOf115
  v46 := Try.zeroValue115
  t53 := Try.underlying77
  a53 := Try.isAgg77
  z53 := Try.sizeOf77
  v53 := Try.zeroValue77 }
/-- bits.Len64: "Len64 returns the minimum number of bits required to represent x; the result is 0 for x == 0.": IT RETURNS 'Lib.bitLen x'; the world is as it was. ('h0', 'h1': x is a uint64.) (LAID: no walk: one application.) -/
theorem Try.bits_Len64 (x : Int) (w : World) (h0 : 0 ≤ x) (h1 : x ≤ 18446744073709551615) :
    Calls Try.prog 90 #[.int .u64 x] w fun e w' => e = .returned (.int .i64 (Lib.bitLen x.toNat)) ∧ w' = w := Any.bits_Len64 Try.lays129 x w h0 h1
def Try.lays315_ren : Go.Shelf.Ren := ⟨fun | 315 => 103 | n => n, fun | 9 => 9 | 40 => 106 | 4 => 4 | 3 => 3 | 0 => 0 | 21 => 21 | n => n, fun | n => n⟩
theorem Try.lays315 : Go.Proofs.Lays.n315 Try.prog Try.lays315_ren := {
  mixed := by kernel_rfl
  f315 := Try.func103.trans (congrArg some (by kernel_rfl))
  t0 := Try.underlying0
  a0 := Try.isAgg0
  z0 := Try.sizeOf0
  v0 := Try.zeroValue0
  t3 := Try.underlying3
  a3 := Try.isAgg3
  z3 := Try.sizeOf3
  v3 := Try.zeroValue3
  t4 := Try.underlying4
  a4 := Try.isAgg4
  z4 := Try.sizeOf4
  v4 := Try.zeroValue4
  t9 := Try.underlying9
  a9 := Try.isAgg9
  z9 := Try.sizeOf9
  v9 := Try.zeroValue9
  t21 := Try.underlying21
  a21 := Try.isAgg21
  z21 := Try.sizeOf21
  v21 := Try.zeroValue21
  t40 := Try.underlying106
  a40 := Try.isAgg106
  z40 := Try.sizeOf106
  v40 := Try.zeroValue106 }
open Go.RowKit Go.Lib in
theorem Try.strings_indexFunc (g : Nat) (lb : Array Value) (eg : ∀ args w, (callFunc g args).run Try.prog w = .ok (.enter g args) w) (p : Nat → Bool) (truth : Bool) (s : ByteArray) (w : World) (hp : PredAt Try.prog g lb encR p w) :
    Calls Try.prog 103 #[.string s, .func (.func g) #[] lb, .bool truth] w fun e w' => e = .returned (.int .i64 (Lib.idxFunc p truth s)) ∧ Below w.heap.size w w' := Any.strings_indexFunc Try.lays315 g lb eg p truth s w hp
def Try.laysGw15_ren : Go.Shelf.Ren := ⟨fun | 15 => 86 | 20 => 103 | n => n, fun | 9 => 9 | 23 => 106 | 3 => 3 | 4 => 4 | 0 => 0 | 21 => 21 | n => n, fun | n => n⟩
theorem Try.laysGw15 : Go.Proofs.LaysGw.n15 Try.prog Try.laysGw15_ren := {
  mixed := by kernel_rfl
  f15 := Try.func86.trans (congrArg some (by kernel_rfl))
  f20 := Try.func103.trans (congrArg some (by kernel_rfl))
  t0 := Try.underlying0
  a0 := Try.isAgg0
  z0 := Try.sizeOf0
  v0 := Try.zeroValue0
  i0 := by kernel_rfl
  t3 := Try.underlying3
  a3 := Try.isAgg3
  z3 := Try.sizeOf3
  v3 := Try.zeroValue3
  i3 := by kernel_rfl
  t4 := Try.underlying4
  a4 := Try.isAgg4
  z4 := Try.sizeOf4
  v4 := Try.zeroValue4
  i4 := by kernel_rfl
  t9 := Try.underlying9
  a9 := Try.isAgg9
  z9 := Try.sizeOf9
  v9 := Try.zeroValue9
  i9 := by kernel_rfl
  t21 := Try.underlying21
  a21 := Try.isAgg21
  z21 := Try.sizeOf21
  v21 := Try.zeroValue21
  i21 := by kernel_rfl
  t23 := Try.underlying106
  a23 := Try.isAgg106
  z23 := Try.sizeOf106
  v23 := Try.zeroValue106
  i23 := by kernel_rfl }
open Go.RowKit Go.Lib in
theorem Try.strings_IndexFunc (g : Nat) (lb : Array Value) (eg : ∀ args w, (callFunc g args).run Try.prog w = .ok (.enter g args) w) (p : Nat → Bool) (s : ByteArray) (w : World) (hp : PredAt Try.prog g lb encR p w) :
    Calls Try.prog 86 #[.string s, .func (.func g) #[] lb] w fun e w' => e = .returned (.int .i64 (Lib.idxFunc p true s)) ∧ Below w.heap.size w w' := Any.strings_IndexFunc Try.laysGw15 g lb eg p s w hp
def Try.laysGw17_ren : Go.Shelf.Ren := ⟨fun | 17 => 63 | 15 => 86 | 20 => 103 | n => n, fun | 9 => 9 | 23 => 106 | 4 => 4 | 3 => 3 | 0 => 0 | 21 => 21 | n => n, fun | n => n⟩
theorem Try.laysGw17 : Go.Proofs.LaysGw.n17 Try.prog Try.laysGw17_ren := {
  mixed := by kernel_rfl
  f15 := Try.func86.trans (congrArg some (by kernel_rfl))
  f17 := Try.func63.trans (congrArg some (by kernel_rfl))
  f20 := Try.func103.trans (congrArg some (by kernel_rfl))
  t0 := Try.underlying0
  a0 := Try.isAgg0
  z0 := Try.sizeOf0
  v0 := Try.zeroValue0
  i0 := by kernel_rfl
  t3 := Try.underlying3
  a3 := Try.isAgg3
  z3 := Try.sizeOf3
  v3 := Try.zeroValue3
  i3 := by kernel_rfl
  t4 := Try.underlying4
  a4 := Try.isAgg4
  z4 := Try.sizeOf4
  v4 := Try.zeroValue4
  i4 := by kernel_rfl
  t9 := Try.underlying9
  a9 := Try.isAgg9
  z9 := Try.sizeOf9
  v9 := Try.zeroValue9
  i9 := by kernel_rfl
  t21 := Try.underlying21
  a21 := Try.isAgg21
  z21 := Try.sizeOf21
  v21 := Try.zeroValue21
  i21 := by kernel_rfl
  t23 := Try.underlying106
  a23 := Try.isAgg106
  z23 := Try.sizeOf106
  v23 := Try.zeroValue106
  i23 := by kernel_rfl }
open Go.RowKit Go.Lib in
theorem Try.strings_ContainsFunc (g : Nat) (lb : Array Value) (eg : ∀ args w, (callFunc g args).run Try.prog w = .ok (.enter g args) w) (p : Nat → Bool) (s : ByteArray) (w : World) (hp : PredAt Try.prog g lb encR p w) :
    Calls Try.prog 63 #[.string s, .func (.func g) #[] lb] w fun e w' => e = .returned (.bool (decide (0 ≤ Lib.idxFunc p true s))) ∧ Below w.heap.size w w' := Any.strings_ContainsFunc Try.laysGw17 g lb eg p s w hp
open Go.RowKit Go.Lib in
theorem Try.strings_indexFunc_runes (g : Nat) (lb : Array Value) (eg : ∀ args w, (callFunc g args).run Try.prog w = .ok (.enter g args) w) (p : Nat → Bool) (truth : Bool) (s : ByteArray) (w : World) (hp : PredAtRunes Try.prog g lb p w) :
    Calls Try.prog 103 #[.string s, .func (.func g) #[] lb, .bool truth] w fun e w' => e = .returned (.int .i64 (Lib.idxFunc p truth s)) ∧ Below w.heap.size w w' := Any.strings_indexFunc_runes Try.lays315 g lb eg p truth s w hp
open Go.RowKit Go.Lib in
theorem Try.strings_IndexFunc_runes (g : Nat) (lb : Array Value) (eg : ∀ args w, (callFunc g args).run Try.prog w = .ok (.enter g args) w) (p : Nat → Bool) (s : ByteArray) (w : World) (hp : PredAtRunes Try.prog g lb p w) :
    Calls Try.prog 86 #[.string s, .func (.func g) #[] lb] w fun e w' => e = .returned (.int .i64 (Lib.idxFunc p true s)) ∧ Below w.heap.size w w' := Any.strings_IndexFunc_runes Try.laysGw15 g lb eg p s w hp
open Go.RowKit Go.Lib in
theorem Try.strings_ContainsFunc_runes (g : Nat) (lb : Array Value) (eg : ∀ args w, (callFunc g args).run Try.prog w = .ok (.enter g args) w) (p : Nat → Bool) (s : ByteArray) (w : World) (hp : PredAtRunes Try.prog g lb p w) :
    Calls Try.prog 63 #[.string s, .func (.func g) #[] lb] w fun e w' => e = .returned (.bool (decide (0 ≤ Lib.idxFunc p true s))) ∧ Below w.heap.size w w' := Any.strings_ContainsFunc_runes Try.laysGw17 g lb eg p s w hp
open Go.RowKit Go.Lib in
theorem Try.utf8_RuneCountInString_ascii (s : ByteArray) (w : World) (hs : s.size < 4294967281) (hascii : ∀ (j : Nat) b, s.data.toList[j]? = some b → b.toNat < 128) :
    Calls Try.prog 114 #[.string s] w fun e w' => e = .returned (.int .i64 s.size) ∧ w' = w.iter s s.size := Any.utf8_RuneCountInString_ascii Try.lays195 s w hs hascii
open Go.RowKit Go.Lib in
theorem Try.strings_indexFunc_grows (g : Nat) (lb : Array Value) (eg : ∀ args w, (callFunc g args).run Try.prog w = .ok (.enter g args) w) (p : Nat → Bool) (truth : Bool) (s : ByteArray) (w : World) (hp : PredGrows Try.prog g lb p w) :
    Calls Try.prog 103 #[.string s, .func (.func g) #[] lb, .bool truth] w fun e w' => e = .returned (.int .i64 (Lib.idxFunc p truth s)) ∧ Below w.heap.size w w' := Any.strings_indexFunc_grows Try.lays315 g lb eg p truth s w hp
open Go.RowKit Go.Lib in
theorem Try.strings_IndexFunc_grows (g : Nat) (lb : Array Value) (eg : ∀ args w, (callFunc g args).run Try.prog w = .ok (.enter g args) w) (p : Nat → Bool) (s : ByteArray) (w : World) (hp : PredGrows Try.prog g lb p w) :
    Calls Try.prog 86 #[.string s, .func (.func g) #[] lb] w fun e w' => e = .returned (.int .i64 (Lib.idxFunc p true s)) ∧ Below w.heap.size w w' := Any.strings_IndexFunc_grows Try.laysGw15 g lb eg p s w hp
open Go.RowKit Go.Lib in
theorem Try.strings_ContainsFunc_grows (g : Nat) (lb : Array Value) (eg : ∀ args w, (callFunc g args).run Try.prog w = .ok (.enter g args) w) (p : Nat → Bool) (s : ByteArray) (w : World) (hp : PredGrows Try.prog g lb p w) :
    Calls Try.prog 63 #[.string s, .func (.func g) #[] lb] w fun e w' => e = .returned (.bool (decide (0 ≤ Lib.idxFunc p true s))) ∧ Below w.heap.size w w' := Any.strings_ContainsFunc_grows Try.laysGw17 g lb eg p s w hp
def Try.laysSlK4_ren : Go.Shelf.Ren := ⟨fun | 4 => 49 | n => n, fun | 22 => 40 | 4 => 4 | 5 => 5 | n => n, fun | n => n⟩
theorem Try.laysSlK4 : Go.Proofs.SlLaysK.n4 Try.prog Try.laysSlK4_ren := {
  mixed := by kernel_rfl
  f4 := Try.func49.trans (congrArg some (by kernel_rfl))
  t4 := Try.underlying4
  a4 := Try.isAgg4
  z4 := Try.sizeOf4
  v4 := Try.zeroValue4
  t22 := Try.underlying40
  a22 := Try.isAgg40
  z22 := Try.sizeOf40
  v22 := Try.zeroValue40
  t5 := Try.underlying5
  i5 := by kernel_rfl }
open Go.RowKit Go.Lib in
/-- bytes.Clone: "Clone returns a copy of b[:len(b)]. The result may have additional unused capacity.": OF A SLICE THAT IS NOT nil IT RETURNS A SLICE THAT IS NOT nil, OF THE SAME BYTES, IN MEMORY OF THE CALL's OWN: in the how-to's words (6f): 'w'.ownsRow B e 1 v' n cells' · 'Below B w w'', B the heap's size at the call. b AT WHATEVER ADDRESS, its cells as 'open_ints' hands them ('a.add i'; the numbers 'xs'). No byte: no cell is asked for. (LAID: no walk: one application.) -/
theorem Try.bytes_Clone_at (a : Addr) (n c : Nat) (xs : List Int) (w : World) (hx : xs.length = n) (hbig : n ≤ 140737488355328) (hc : ∀ i, i < n → w.cell? (a.add i) = some (.int .u8 (xs.getD i 0))) :
    Calls Try.prog 49 #[.slice (some a) n c] w fun e w' => ∃ v', e = .returned v' ∧ w'.ownsRow w.heap.size 5 1 v' n (xs.map (Value.int .u8)) ∧ v' ≠ .slice none 0 0 ∧ Below w.heap.size w w' := Any.bytes_Clone_at Try.laysSlK4 a n c xs w hx hbig hc
open Go.RowKit Go.Lib in
/-- "Clone(nil) returns nil.": the world is as it was. (LAID: no walk: one application.) -/
theorem Try.bytes_Clone_nil (n c : Nat) (w : World) :
    Calls Try.prog 49 #[.slice none n c] w fun e w' => e = .returned (.slice none 0 0) ∧ w' = w := Any.bytes_Clone_nil Try.laysSlK4 n c w
end Go.Proofs
