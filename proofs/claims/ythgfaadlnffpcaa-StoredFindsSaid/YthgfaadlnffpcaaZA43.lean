/-
  append(row, xs...) of a row of data of the call's own, within a round of a range over a function. No program; no condition. A range over a function, as RfnK; what is vowed of what is yielded may speak of what was yielded before. No program; no condition. slices.Chunk at docs, sixteen at a time: what its iterator yields. Condition: 65536 docs at most. append of bytes to a row of the call's own, within a range over a function: which blocks turn. Condition: rows stay below 2^47 bytes.
-/
import Derived.OwnWalkIn
import Derived.Test.YthgfaadlnffpcaaZA8
import Derived.Test.YthgfaadlnffpcaaZA42
import Derived.RangeFuncNested
import Derived.RangeFuncBound
import Derived.RangeFuncCalls
import Derived.RangeFuncLeaves
import Derived.Shelf.Abstract
import Derived.Shelf.RegionOpen
import Derived.TacticsInMore
import Derived.LoopNIn
import Derived.LoopIn
import Derived.Test.YthgfaadlnffpcaaZA12
import Derived.Laws.AppendOwnNone
set_option linter.unusedVariables false
namespace Go.Proofs.Ythgfaadlnffpcaa.MM
open Go Go.RowKit
variable {α : Type} {C : Codec α}

theorem wpListIn_append_x {F : Fence} {n : Nat} {P : Program} {T e : TypeId} {bytes : Nat} (E : Elem C P T e bytes) {S : Nat → Prop} {w : World} {ops : Array Oper} {rest : List Oper} {o : Oper} {a : Act} {Q : Exit → Act → World → Prop} (hgd : o.guard = none) (s x : Operand)
    (ho : o.op = .call { callee := .builtin .append, args := #[s, x], argTypes := #[T, T] }) (B : Nat) (v : Value) (es : List α) (hs : a.eval s = v) (hown : OwnX C e B S w v es) (hS : ∀ b, b < w.heap.size → S b → Apt e B w b)
    (src : Value) (ds : List α) (hx : a.eval x = src) (hr : SrcX C S w src ds) (hne : ds ≠ []) (hlen : es.length + ds.length ≤ maxLen) (hby : (es.length + ds.length) * bytes ≤ 140737488355328) (hbase : B ≤ w.heap.size)
    (h : ∀ v' w', OwnX C e B S w' v' (es ++ ds) → Below B w w' → w.grownBy w' v.ownBlock → wpListIn F n P ops Q rest (a.put o.dst v') w') : wpListIn F n P ops Q (o :: rest) a w := by
  obtain ⟨p, cap, raw, rfl, h1, h3, hm, hc⟩ := hr
  obtain ⟨i, z, hi, hz, hsz, hbt, hzs⟩ := E.info
  obtain ⟨b, off, rfl, hcc⟩ := hc.resolve_left hne
  obtain ⟨raw1, g1, g2⟩ := hown
  have hlo : ∀ k, v.ownBlock = some k → B ≤ k := fun k hk => (World.ownsRow.lt g1 k hk).1
  have hl : raw.flatten.length = ds.length * C.size := by rw [flat_len hm.lens, hm.1]
  refine wpListIn_append_own w hgd s x T ho B e i z C.size bytes E.under hi hz hsz hbt hzs C.pos v es.length _ hs g1 ⟨b, off, none⟩ ds.length cap raw.flatten hx hl ?_ hm.ones hlen hby hbase (fun v' w' h4 hg _ => ?_)
  · intro j u hj
    rw [add_at]
    exact hcc j u hj
  · have hb : Below B w w' := (Below.refl B w).grown hg hbase hlo
    have hk : Kep (Apt e B w) w w' := kep_grown hg fun k hk hA => apt_not_own g1 hA hk
    refine h v' w' ⟨raw1 ++ raw, ?_, ?_⟩ hb hg
    · rw [List.length_append, List.flatten_append]
      exact h4
    · have hm2 := g2.append hm
      refine ⟨hm2.1, fun i hi hi' => ?_⟩
      exact C.keep (C.keep (hm2.2 i hi hi') (Kep.refl _ _) (T := fun b => S b ∧ b < w.heap.size) fun b hb hs => ⟨hs, hb⟩) (hk.mono' (T := fun b => S b ∧ b < w.heap.size) fun b hb hs => hS b hb hs.1) fun b hb hs => hs.1
end Go.Proofs.Ythgfaadlnffpcaa.MM
set_option linter.unusedVariables false
namespace Go.Proofs.Ythgfaadlnffpcaa.RF
open Go Go.RowKit Go.Proofs.Ythgfaadlnffpcaa.MM

/-- THE ITERATOR's WORD: it yields, one behind the other, xs of which S speaks (or a part, of which Sp speaks, where a round has said 'no more'); at each it vows R. Kep T a round that goes on turns nothing. -/
def VowsP {α : Type} (F : Fence) (n : Nat) (P : Program) (f : Nat) (lb : Array Value) (encs : α → Array Value) (T : Nat → Prop) (R : List α → α → World → Prop) (S Sp : List α → Prop) (N : Nat) (w : World) : Prop :=
  ∀ (l : Nat) (J Jx : List α → World → Prop) (W : World), Below w.heap.size w W → Grows J → Grows Jx →
    (∀ pre x A, J pre A → R pre x A → pre.length < N → YieldAt F (n - 1) P l (encs x) A fun e B =>
      (e = .returned (.bool true) ∧ J (pre ++ [x]) B ∧ Kep T A B) ∨ (e = .returned (.bool false) ∧ Jx (pre ++ [x]) B)) →
    J [] W →
    CallsIn F n P f (#[.func (.yield l) #[] #[]] ++ lb) W fun e B => (∃ v, e = .returned v) ∧ ((∃ xs, S xs ∧ J xs B) ∨ (∃ pre, Sp pre ∧ Jx pre B))

variable {F : Fence} {n : Nat} {P : Program}

/-- THE LAW. -/
theorem rangeP_ {α : Type} {g : Operand} {ps : Array Tmp} {assign body : Code} {Q : Exit → Act → World → Prop} {a : Act} {w : World}
    (hro : F.round = none) (h1 : 1 ≤ n) {gf : Nat} {lb : Array Value} (hg : a.eval g = .func (.func gf) #[] lb) (hF : F.fn gf) (eg : ∀ args w, (callFunc gf args).run P w = .ok (.enter gf args) w)
    {encs : α → Array Value} {T : Nat → Prop} {R : List α → α → World → Prop} {S Sp : List α → Prop} {N : Nat} {w0 : World} (hseq : VowsP F (n - 1) P gf lb encs T R S Sp N w0) (hb0 : Below w0.heap.size w0 w) (hT : ∀ k, T k → k < w.heap.size)
    (hps : ∀ x, (encs x).size = ps.size) (I Ix : List α → World → Prop) (hI : OwnFrom w.heap.size I) (hIx : OwnFrom w.heap.size Ix) (hR : ∀ pre, OwnFrom w.heap.size (R pre)) (h0 : I [] w) (a₁ : α → Act)
    (hassign : ∀ (l : Nat) (x : α) (W : World) (K : Act → World → Prop), K (a₁ x) W →
      assign.wpIn (F.inRound l) (n - 1 - 1) P (Exit.then K (fun _ _ _ => False)) { tmps := (ps.zip (encs x)).foldl (fun t (p, v) => t.setIfInBounds p v) a.tmps, defers := [] } W)
    (hbody : ∀ (l : Nat) (pre : List α) (x : α) (W : World), I pre W → R pre x W → pre.length < N → body.wpIn (F.inRound l) (n - 1 - 1) P (LeftK w.heap.size T I Ix (pre ++ [x]) W) (a₁ x) W)
    (hdone : ∀ (D : Nat) (xs : List α) (W : World), w.heap.size ≤ D → S xs → I xs W → W.heap[D]? = some (.deferred (some [])) → Q .normal { a with defers := { target := .collected D, args := #[] } :: a.defers } W)
    (hstop : ∀ (D : Nat) (pre : List α) (W : World), w.heap.size ≤ D → Sp pre → Ix pre W → W.heap[D]? = some (.deferred (some [])) → Code.ret.wpIn F n P Q { a with defers := { target := .collected D, args := #[] } :: a.defers } W) :
    (Code.rangeFunc g ps assign body).wpIn F n P Q a w := by
  refine wpIn_rangeFunc fun fn hfn => ?_
  rw [hro]
  obtain ⟨rec, hrec⟩ : ∃ rec : LoopState → Option Code → Loop, ∀ st pe, rec st pe = { state := st, pending := pe, fn := fn, tmps := a.tmps, params := ps, assign := assign, body := body, defers := w.heap.size } := ⟨_, fun _ _ => rfl⟩
  obtain ⟨W1, hW1⟩ : ∃ W1, (w.alloc (.deferred (some []))).alloc (.loop (rec .ready none)) = W1 := ⟨_, rfl⟩
  have hbk1 : Books rec w.heap.size .ready none W1 := by
    subst hW1
    refine ⟨?_, (Below.heap_alloc _ _ _ (by simp)).trans (World.alloc_heap_new w _)⟩
    have := World.alloc_heap_new (w.alloc (.deferred (some []))) (.loop (rec .ready none))
    rwa [World.size_alloc] at this
  have hI1 : I [] W1 := by subst hW1; exact hI.alloc _ (hI.alloc _ h0)
  have hb1 : Below w0.heap.size w0 W1 := by subst hW1; exact hb0.trans ((((Below.refl _ w).alloc (Nat.le_refl _) _).alloc (by simp) _).mono hb0.size)
  have hgrow : ∀ {I' : List α → World → Prop}, OwnFrom w.heap.size I' → ∀ {st pe}, Grows (fun pre W => I' pre W ∧ Books rec w.heap.size st pe W) := fun h' _ _ s A B hs hg' => ⟨h' s A B none hs.1 hg' (fun r e => by cases e), hs.2.grown hg'⟩
  have hend : ∀ {st : LoopState} {pe : Option Code} (jump : Option Code) (W : World), Books rec w.heap.size st pe W →
      (Instr.endRound (w.heap.size + 1) jump).run P W = .ok (.bool jump.isNone) (W.putObj (w.heap.size + 1) (.loop (rec (if jump.isNone then .ready else .done) jump))) := fun jump W h => by
    have := run_endRound (P := P) jump h.loop
    rw [hrec] at this ⊢
    exact this
  have hover : ∀ {st : LoopState} {pe : Option Code} (W : World), st ≠ .busy → Books rec w.heap.size st pe W → (Instr.endLoop (w.heap.size + 1)).run P W = .ok pe (W.putObj (w.heap.size + 1) (.loop (rec .exhausted pe))) := fun W hst h => by
    have := run_endLoop (P := P) h.loop (by rw [hrec]; exact hst)
    rw [hrec] at this ⊢
    exact this
  refine ⟨w.heap.size + 1, [{ target := .collected w.heap.size, args := #[] }], W1, { target := .fn (.func gf) lb, args := #[.func (.yield (w.heap.size + 1)) #[] #[]] }, W1, gf,
    #[.func (.yield (w.heap.size + 1)) #[] #[]] ++ lb, W1, ?_, ?_, ?_, ?_, fun _ => h1, ?_⟩
  · rw [← hW1, hrec]
    exact run_enterLoop_outer _ _ _ _ _
  · simp only [resolve, hg]
    simp [go_sem]
  · intro f' hf'
    simp [Target.leads] at hf'
    subst hf'
    exact hF
  · simp [invoke, go_sem, eg]
  refine (hseq (w.heap.size + 1) (fun pre W => I pre W ∧ Books rec w.heap.size .ready none W) (fun pre W => Ix pre W ∧ Books rec w.heap.size .done (some .ret) W) W1 hb1 (hgrow hI) (hgrow hIx) ?_ ⟨hI1, hbk1⟩).mono ?_
  · rintro pre x A ⟨hi, hbk⟩ hx hlen
    have hy := run_yield (P := P) (args := encs x) hbk.loop (by rw [hrec]; exact hps x)
    rw [hrec] at hy
    have hbegin := run_beginRound (P := P) hbk.loop (by rw [hrec])
    have hbusy : ({ rec .ready none with state := .busy } : Loop) = rec .busy none := by rw [hrec, hrec]
    rw [hbusy] at hbegin
    refine ⟨fn, _, assign, body, hy, roundIn_of_wpIn hfn (hassign _ x A _ ⟨_, hbegin, ?_⟩)⟩
    have hbk2 : Books rec w.heap.size .busy none (A.putObj (w.heap.size + 1) (.loop (rec .busy none))) := hbk.turn
    refine wpIn_mono (hbody _ pre x _ (hI.putObj _ hi (by omega) hbk.loop rfl) ((hR pre).putObj _ hx (by omega) hbk.loop rfl) hlen) ?_
    have hb2 : Kep T A (A.putObj (w.heap.size + 1) (.loop (rec .busy none))) := kep_turn _ _ (fun h => by have := hT _ h; omega) hbk.lt
    rintro e a3 B hp
    cases e with
    | normal =>
      obtain ⟨hk, hbl, hi3⟩ := hp
      have hbk3 := hbk2.keeps hk
      exact ⟨_, _, hend none B hbk3, .inl ⟨rfl, ⟨hI.putObj _ hi3 (by omega) hbk3.loop rfl, hbk3.turn⟩, (hb2.trans hbl).trans (kep_turn _ _ (fun h => by have := hT _ h; omega) hbk3.lt)⟩⟩
    | ret =>
      obtain ⟨hk, hi3⟩ := hp
      have hbk3 := hbk2.keeps hk
      exact ⟨_, _, hend (some .ret) B hbk3, .inr ⟨rfl, hIx.putObj _ hi3 (by omega) hbk3.loop rfl, hbk3.turn⟩⟩
    | exit id => exact hp.elim
    | goto t => exact hp.elim
    | panic ch => exact hp.elim
    | outgrown => exact hp.elim
  · rintro e B ⟨⟨v, rfl⟩, (⟨xs, hS, hi, hbk⟩ | ⟨pre, hSp, hi, hbk⟩)⟩
    · exact ⟨none, _, hover B (by simp) hbk, hdone _ xs _ (Nat.le_refl _) hS (hI.putObj _ hi (by omega) hbk.loop rfl) (hbk.turn (st' := .exhausted)).calls⟩
    · exact ⟨some .ret, _, hover B (by simp) hbk, hstop _ pre _ (Nat.le_refl _) hSp (hIx.putObj _ hi (by omega) hbk.loop rfl) (hbk.turn (st' := .exhausted)).calls⟩
end Go.Proofs.Ythgfaadlnffpcaa.RF
set_option linter.unusedVariables false
namespace Go.Proofs.Ythgfaadlnffpcaa.ST
open Go Go.RowKit Go.Shelf Go.Proofs.Ythgfaadlnffpcaa.MM Go.Proofs.Ythgfaadlnffpcaa.SM
open Go.Proofs.Ythgfaadlnffpcaa.EV (docC doc_at)
open Go.Proofs.Ythgfaadlnffpcaa.RF (VowsP Grows)
attribute [local go_sem] Oper.semAt_some

/-- The parts. -/
def chunksOf (l : List Doc) : List (List Doc) := (List.range (blocksN l.length)).map (chunkS l)
theorem doc_size : docC.size = 3 := rfl
/-- What is yielded: a part (its value, its docs). -/
abbrev Part := Value × List Doc
abbrev encP (x : Part) : Array Value := #[x.1]
def VowP (T : Nat → Prop) (l : List Doc) (pre : List Part) (x : Part) (W : World) : Prop := ROn docC T W x.1 x.2 ∧ x.2 = chunkS l pre.length
theorem ron_cap {α : Type} {C : Codec α} {S : Nat → Prop} {w : World} {p : Option Addr} {n cap cap' : Nat} {es : List α} (h : ROn C S w (.slice p n cap) es) (h1 : n ≤ cap') (h2 : cap' ≤ maxLen) (h3 : p ≠ none) : ROn C S w (.slice p n cap') es := by
  obtain ⟨p', c', raw, hv, a1, a2, a3, hm, hc⟩ := h
  simp only [Value.slice.injEq] at hv
  obtain ⟨rfl, rfl, rfl⟩ := hv
  exact ⟨_, cap', raw, rfl, h1, h2, fun h => absurd h h3, hm, hc⟩
theorem chunk_eq (l : List Doc) (k m : Nat) (h : m = min 16 (l.length - 16 * k)) : (l.drop (16 * k)).take m = chunkS l k := by
  unfold chunkS
  subst h
  by_cases h2 : 16 ≤ l.length - 16 * k
  · rw [Nat.min_eq_left h2]
  · rw [Nat.min_eq_right (by omega), List.take_of_length_le (by rw [List.length_drop]; exact Nat.le_refl _), List.take_of_length_le (by rw [List.length_drop]; omega)]

set_option maxRecDepth 100000 in
set_option maxHeartbeats 2000000 in
theorem chunk_in (n : Nat) (hn : 1 ≤ n) (y bs bn : Nat) (T : Nat → Prop) (v0 : Value) (l : List Doc) (J Jx : List Part → World → Prop) (hJ : Grows J)
    (hY : ∀ pre x A, J pre A → VowP T l pre x A → pre.length < blocksN l.length → YieldAt Fence.wide (n - 1) Try.prog y (encP x) A fun e B =>
      (e = .returned (.bool true) ∧ J (pre ++ [x]) B ∧ Kep T A B) ∨ (e = .returned (.bool false) ∧ Jx (pre ++ [x]) B))
    (W : World) (hbs : W.cell? ⟨bs, 0, none⟩ = some v0) (hbn : W.cell? ⟨bn, 0, none⟩ = some (.int .i64 16)) (hbs1 : T bs) (hbn1 : T bn) (hl : ROn docC T W v0 l) (h0 : J [] W) (hlen : l.length ≤ 65536) :
    CallsIn Fence.wide n Try.prog 53 #[.func (.yield y) #[] #[], .pointer (some ⟨bs, 0, none⟩), .pointer (some ⟨bn, 0, none⟩)] W fun e B => (∃ v, e = .returned v) ∧
      ((∃ xs, xs.map (·.2) = chunksOf l ∧ J xs B) ∨ (∃ pre, True ∧ Jx pre B)) := by
  obtain ⟨p0, cap0, rfl, hlc, hcm, _⟩ := hl.shape
  unfold maxLen at hcm
  have hmx : Try.prog.follows .mixedOrders = true := by kernel_rfl
  have HB0 := Lib.hid (And.intro hl (And.intro hbs hbn))
  have HT0 : Hid (([] : List Part).map (·.2) = (List.range 0).map (chunkS l)) := Lib.hid rfl
  have HY := Lib.hid hY
  clear hl hY hbs hbn
  refine callsIn_of_wp Try.func53 rfl trivial ?_ rfl
  simp only [Try.ntmps53, List.size_toArray, List.length_cons, List.length_nil, Nat.reduceAdd, Nat.reduceSub, Array.replicate_succ, Array.replicate_zero, List.push_toArray, List.append_toArray, List.nil_append, List.cons_append]
  gi_wp2
  gi_loopw [4] (fun iv wr => ∃ (k : Nat) (xs : List Part), iv = .int .i64 ((16 * k : Nat) : Int) ∧ k ≤ blocksN l.length ∧ xs.length = k ∧ Hid (xs.map (·.2) = (List.range k).map (chunkS l)) ∧ Hid (ROn docC T wr (.slice p0 l.length cap0) l ∧ wr.cell? ⟨bs, 0, none⟩ = some (.slice p0 l.length cap0) ∧ wr.cell? ⟨bn, 0, none⟩ = some (.int .i64 16)) ∧ J xs wr) (fun iv _ => 16 * blocksN l.length + 16 - (intOf iv).toNat)
  case atStart => exact ⟨0, [], rfl, Nat.zero_le _, rfl, HT0, HB0, h0⟩
  case round =>
    obtain ⟨k, xs, rfl, hk, hxl, HT, HR, hJs⟩ := hrel
    clear HT0 HB0 h0
    obtain ⟨hr, hcs, hcn⟩ := HR.out
    have hNd : blocksN l.length = (l.length + 15) / 16 := rfl
    obtain ⟨i, hi⟩ : ∃ i, 16 * k = i := ⟨_, rfl⟩
    rw [hi]
    by_cases hlt : i < l.length
    · have q1 : decide ((i : Int) < (l.length : Int)) = true := by rw [decide_eq_true_eq]; omega
      have q2 : decide (i < l.length) = true := by rw [decide_eq_true_eq]; omega
      have q3 : (i : Int) ≤ (l.length : Int) := by omega
      obtain ⟨m, hm⟩ : ∃ m, min 16 (l.length - i) = m := ⟨_, rfl⟩
      have hmin1 : min (16 : Int) ((l.length - i : Nat) : Int) = (m : Int) := by omega
      have hmin2 : (if l.length - i < 16 then ((l.length - i : Nat) : Int) else 16) = (m : Int) := by split <;> omega
      have hmin3 : (if ((l.length - i : Nat) : Int) < 16 then ((l.length - i : Nat) : Int) else 16) = (m : Int) := by split <;> omega
      obtain ⟨e, he⟩ : ∃ e, i + m = e := ⟨_, rfl⟩
      have hie : (i : Int) + (m : Int) = (e : Int) := by omega
      have hiw : IntKind.i64.wrap ((i : Int) + (m : Int)) = (e : Int) := by rw [IntKind.wrap_i64]; omega
      have q4 : (e : Int) ≤ (cap0 : Int) := by omega
      have q5 : (i : Int) ≤ (e : Int) := by omega
      obtain ⟨b, off, vf, rfl, hbl, hbn₀, _⟩ := doc_at hr hlt
      have hrow := (ROn.drop hr i (by omega)).take m (by omega)
      rw [if_neg (by omega), Option.map_some, add_at, doc_size] at hrow
      have hrow2 := ron_cap (cap' := m) hrow (Nat.le_refl _) (by unfold maxLen; omega) (by simp)
      rw [show (l.drop i).take m = chunkS l k by rw [← hi]; exact chunk_eq l k m (by omega)] at hrow2
      rw [show m = e - i by omega] at hrow2
      obtain ⟨wd, hwd⟩ : ∃ wd, wr.drew = wd := ⟨_, rfl⟩
      have hbd : Below wr.heap.size wr wd := by rw [← hwd]; exact (Below.refl _ _).drew
      have hgd : wr.grownBy wd none := ⟨hbd.os, hbd.tape, hbd.output, hbd.size, fun k hk _ => hbd.block k hk⟩
      have hJd := hJ xs wr wd hJs hgd
      obtain ⟨fn, tmps, assign, body, hy, hRd⟩ := HY.out xs (.slice (some ⟨b, off + i * 3, none⟩) (e - i) (e - i), chunkS l k) wd hJd ⟨ROn.keep hrow2 (kep_below T hbd) (fun _ _ h => h), by rw [hxl]⟩ (by omega)
      dsimp only [encP] at hy
      rw [← hwd] at hy
      have HRd := Lib.hid hRd
      have HWD := Lib.hid hwd
      have HQ : Hid (ROn docC T wd (.slice (some ⟨b, off, none⟩) l.length cap0) l ∧ wd.cell? ⟨bs, 0, none⟩ = some (.slice (some ⟨b, off, none⟩) l.length cap0) ∧ wd.cell? ⟨bn, 0, none⟩ = some (.int .i64 16)) := Lib.hid ⟨ROn.keep hr (kep_below T hbd) (fun _ _ h => h), (hbd.cell (p := ⟨bs, 0, none⟩) (World.block_lt_of_cell? _ _ hcs)).trans hcs, (hbd.cell (p := ⟨bn, 0, none⟩) (World.block_lt_of_cell? _ _ hcn)).trans hcn⟩
      have HXN : Hid ((xs ++ [((.slice (some ⟨b, off + i * 3, none⟩) (e - i) (e - i) : Value), chunkS l k)]).map (·.2) = (List.range (k + 1)).map (chunkS l)) := Lib.hid (by rw [List.map_append, HT.out, List.range_succ, List.map_append]; rfl)
      have HI : Hid (16 * k = i) := Lib.hid hi
      have hkl : k + 1 ≤ blocksN l.length := by omega
      have HLK : Hid (k < blocksN l.length) := Lib.hid (by omega)
      clear hrow hrow2 hbd hgd hwd hRd hr HR HT hJs hi HY
      gi_wp2
      gi_region_with_o (fail)
      all_goals gi_wp2
      all_goals rw [HWD.out]
      all_goals refine HRd.out.mono ?_
      all_goals rintro e w3 (⟨rfl, hJ3, hb3⟩ | ⟨rfl, hJ3⟩)
      all_goals first
        | (have hr3 : ROn docC T w3 (.slice (some ⟨b, off, none⟩) l.length cap0) l := ROn.keep HQ.out.1 hb3 (fun _ _ h => h)
           have cs3 : w3.cell? ⟨bs, 0, none⟩ = some (.slice (some ⟨b, off, none⟩) l.length cap0) := (hb3.cell (World.block_lt_of_cell? _ _ HQ.out.2.1) hbs1 0).trans HQ.out.2.1
           have cn3 : w3.cell? ⟨bn, 0, none⟩ = some (.int .i64 16) := (hb3.cell (World.block_lt_of_cell? _ _ HQ.out.2.2) hbn1 0).trans HQ.out.2.2
           have HR3 := Lib.hid (And.intro hr3 (And.intro cs3 cn3))
           clear hr3 hb3 HRd hy HQ HWD HLK
           gi_wp2
           have hi := HI.out
           go_roundw
           case rel => exact ⟨k + 1, _, by rw [show ((16 * (k + 1) : Nat) : Int) = (i : Int) + 16 by omega], hkl, by rw [List.length_append, hxl]; rfl, HXN, HR3, hJ3⟩
           case measure => simp [intOf]; omega)
        | (clear HRd hy HQ HWD
           gi_wp2
           refine bodyPost_ret (results_none rfl _ _ _) rfl ?_
           exact ⟨⟨_, rfl⟩, .inr ⟨_, trivial, hJ3⟩⟩)
    · have q1 : decide ((i : Int) < (l.length : Int)) = false := by rw [decide_eq_false_iff_not]; omega
      have q2 : decide (i < l.length) = false := by rw [decide_eq_false_iff_not]; omega
      have hkN : k = blocksN l.length := by omega
      have ht := HT.out
      rw [hkN] at ht
      have HT9 : Hid (xs.map (·.2) = chunksOf l) := Lib.hid ht
      clear ht HT hi hkN hlt
      gi_wp2
      go_end0
      exact ⟨⟨_, rfl⟩, .inl ⟨xs, HT9.out, hJs⟩⟩
/-- Chunk(l, 16): l and 16 are boxed; the function value captures the boxes. -/
theorem chk_in (n : Nat) (p : Option Addr) (m c : Nat) (W : World) :
    CallsIn Fence.wide n Try.prog 35 #[.slice p m c, .int .i64 16] W fun e B => e = .returned (.func (.func 53) #[] #[.pointer (some ⟨W.heap.size, 0, none⟩), .pointer (some ⟨W.heap.size + 1, 0, none⟩)]) ∧ B = (W.alloc (.cells #[.slice p m c] 22)).alloc (.cells #[.int .i64 16] 3) := by
  refine callsIn_of_wp Try.func35 rfl trivial ?_ rfl
  simp only [Try.ntmps35, List.size_toArray, List.length_cons, List.length_nil, Nat.reduceAdd, Nat.reduceSub, Array.replicate_succ, Array.replicate_zero, List.push_toArray, List.append_toArray, List.nil_append, List.cons_append]
  gi_wp2
  go_ret
  exact ⟨rfl, rfl⟩
/-- .. it vows. -/
theorem chunk_vow (n : Nat) (hn : 1 ≤ n) (bs bn : Nat) (T : Nat → Prop) (v : Value) (l : List Doc) (w : World) (hlen : l.length ≤ 65536) (hbs : T bs) (hbn : T bn) (hT : ∀ k, T k → k < w.heap.size) (hcs : w.cell? ⟨bs, 0, none⟩ = some v) (hcn : w.cell? ⟨bn, 0, none⟩ = some (.int .i64 16)) (hl : ROn docC T w v l) :
    VowsP Fence.wide n Try.prog 53 #[.pointer (some ⟨bs, 0, none⟩), .pointer (some ⟨bn, 0, none⟩)] encP T (VowP T l) (fun xs => xs.map (·.2) = chunksOf l) (fun _ => True) (blocksN l.length) w :=
  fun y J Jx W hW hJ _ hY h0 => chunk_in n hn y bs bn T v l J Jx hJ hY W ((hW.cell (p := ⟨bs, 0, none⟩) (hT _ hbs)).trans hcs) ((hW.cell (p := ⟨bn, 0, none⟩) (hT _ hbn)).trans hcn) hbs hbn (ROn.keep hl (kep_below T hW) (fun _ _ h => h)) h0 hlen
end Go.Proofs.Ythgfaadlnffpcaa.ST
set_option linter.unusedVariables false
namespace Go.Proofs.Ythgfaadlnffpcaa.GB
open Go Go.RowKit Go.Proofs.Ythgfaadlnffpcaa.MM

theorem wpListIn_append_grown {F : Fence} {n : Nat} {w : World} {ops : Array Oper} {rest : List Oper} {o : Oper} {a : Act} {Q : Exit → Act → World → Prop} (hgd : o.guard = none) (s x : Operand)
    (ho : o.op = .call { callee := .builtin .append, args := #[s, x], argTypes := #[29, 29] }) (v : Value) (l : List UInt8) (hs : a.eval s = v) (hown : OwnB 0 w v l)
    (src : Value) (m : List UInt8) (hx : a.eval x = src) (hr : BRow w src m) (hm : m ≠ [] ∨ src = .slice none 0 0) (hlen : l.length + m.length ≤ 140737488355328)
    (h : ∀ v' w', OwnB 0 w' v' (l ++ m) → Grown w w' v v' → wpListIn F n Try.prog ops Q rest (a.put o.dst v') w') : wpListIn F n Try.prog ops Q (o :: rest) a w := by
  obtain ⟨i0, hi, hz0, hz1, hz2⟩ := info_parts infoByte
  obtain ⟨p, cap, rfl, _, _, h3, hc⟩ := hr
  rcases hc with hc | ⟨b, off, rfl, _, hc⟩
  · have hm0 : m = [] := by
      have := byteCells_len m
      rw [hc] at this
      exact List.eq_nil_of_length_eq_zero (by simpa using this.symm)
    have hsn := hm.resolve_left fun h => h hm0
    subst hm0
    refine wpListIn_plain hgd fun K hK' => ?_
    have hrun := run_append_owned_none (P := Try.prog) (w := w) 0 29 o.type 5 i0 1 Try.underlying29 hi v l.length (Lib.byteCells l) hown
    have hh := h v w (by rw [List.append_nil]; exact hown) (Grown.refl w v)
    rw [hsn] at hx
    unfold Oper.wpIn
    refine ⟨?_, ?_⟩
    · simp [Oper.about, ho, resolve, Target.leads, Sem.run_pure]
    · rw [Oper.semAt_plain F _ _ (by rw [ho]; intro c hc'; cases hc')]
      simp [execOp, ho, resolve, invoke, builtin, hs, hx, hrun, Result.andThen]
      exact hK' _ _ hh
  · by_cases hm0 : m = []
    · have hsn := hm.resolve_left fun h => h hm0
      cases hsn
    · have h0 := List.length_pos_iff.2 hm0
      refine wpListIn_plain hgd fun K hK' => ?_
      obtain ⟨g, cap', w', hrun, h2, h3', h4, h5⟩ := run_append_lies (P := Try.prog) w 29 o.type 0 5 i0 (.int .u8 0) 1 1 Try.underlying29 hi hz0 hz1 hz2 rfl (by decide) v l.length (Lib.byteCells l) hown ⟨b, off, none⟩ (Lib.byteCells m).length cap (Lib.byteCells m) (by simp)
        (fun j u hu => by rw [add_at]; exact hc j u hu) (byteCells_one m) (by rw [byteCells_len]; omega) (by rw [byteCells_len]; unfold maxLen; omega) (by rw [byteCells_len]; omega) (Nat.zero_le _) w.heap.size rfl
      have hh := h _ w' (by
        unfold OwnB
        rw [List.length_append, byteCells_append]
        rw [byteCells_len] at h2
        exact h2) ⟨h3', fun k hk => by
          simp only [Value.ownBlock, Option.some.injEq] at hk
          subst hk
          rcases h4 with h | h
          · exact .inl h
          · exact .inr (Nat.le_of_eq h.symm)⟩
      unfold Oper.wpIn
      refine ⟨?_, ?_⟩
      · simp [Oper.about, ho, resolve, Target.leads, Sem.run_pure]
      · rw [Oper.semAt_plain F _ _ (by rw [ho]; intro c hc'; cases hc')]
        rw [byteCells_len] at hrun
        rw [byteCells_len] at hx
        simp [execOp, ho, resolve, invoke, builtin, hs, hx, hrun, Result.andThen]
        exact hK' _ _ hh
end Go.Proofs.Ythgfaadlnffpcaa.GB
