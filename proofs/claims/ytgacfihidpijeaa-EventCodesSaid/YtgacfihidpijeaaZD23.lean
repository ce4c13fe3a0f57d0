/-
  A range over a function whose rounds' assignments make memory; a region that draws its order within a round. No condition. Rows of the call's own, by codecs: literals, made ones, an element that is stored into, beginnings; and rows whose inner blocks lie in a set that is named. No program; no condition. From the rows' readings to codecs: what is read as data of a type lies as the type's codec says. No program; no condition.
-/
import Derived.Test.YtgacfihidpijeaaZD1
import Derived.Test.YtgacfihidpijeaaZD19
import Derived.OrdersIn
import Derived.TacticsIn
import Derived.Laws.OwnMore
import Derived.Laws.MakeOwn
import Derived.Deep.AppendLies
import Derived.ChangeArms
import Derived.ChangeSame
import Derived.Deep.Slices
import Derived.ProofKit
import Derived.OpenShut
set_option linter.unusedVariables false
namespace Go.Proofs.Ytgacfihidpijeaa.RF
open Go Go.RowKit

variable {F : Fence} {n : Nat} {P : Program}

/-- THE LAW, where the assignment turns the world. -/
theorem rangeW_ {α : Type} {g : Operand} {ps : Array Tmp} {assign body : Code} {Q : Exit → Act → World → Prop} {a : Act} {w : World}
    (hro : F.round = none) (h1 : 1 ≤ n) {gf : Nat} {lb : Array Value} (hg : a.eval g = .func (.func gf) #[] lb) (hF : F.fn gf) (eg : ∀ args w, (callFunc gf args).run P w = .ok (.enter gf args) w)
    {encs : α → Array Value} {n₀ : Nat} {R : α → World → Prop} {S Sp : List α → Prop} {N : Nat} {w0 : World} (hseq : Vows F (n - 1) P gf lb encs n₀ R S Sp N w0) (hb0 : Below w0.heap.size w0 w) (hn₀ : n₀ ≤ w.heap.size)
    (hps : ∀ x, (encs x).size = ps.size) (I Ix : List α → World → Prop) (hI : OwnFrom w.heap.size I) (hIx : OwnFrom w.heap.size Ix) (hR : OwnFrom w.heap.size R) (h0 : I [] w) (Ax : α → Act → World → Prop) (hAx : ∀ a', OwnFrom w.heap.size (fun x W => Ax x a' W))
    (hassign : ∀ (l : Nat) (pre : List α) (x : α) (W : World) (K : Act → World → Prop), I pre W → R x W → (∀ a' W', KeepsFrom w.heap.size W W' → Below n₀ W W' → I pre W' → R x W' → Ax x a' W' → K a' W') →
      assign.wpIn (F.inRound l) (n - 1 - 1) P (Exit.then K (fun _ _ _ => False)) { tmps := (ps.zip (encs x)).foldl (fun t (p, v) => t.setIfInBounds p v) a.tmps, defers := [] } W)
    (hbody : ∀ (l : Nat) (pre : List α) (x : α) (a' : Act) (W : World), w.heap.size ≤ W.heap.size → I pre W → R x W → Ax x a' W → pre.length < N → body.wpIn (F.inRound l) (n - 1 - 1) P (Left w.heap.size n₀ I Ix (pre ++ [x]) W) a' W)
    (hdone : ∀ (D : Nat) (xs : List α) (W : World), w.heap.size ≤ D → S xs → I xs W → W.heap[D]? = some (.deferred (some [])) → Q .normal { a with defers := { target := .collected D, args := #[] } :: a.defers } W)
    (hstop : ∀ (D : Nat) (pre : List α) (W : World), w.heap.size ≤ D → Sp pre → Ix pre W → W.heap[D]? = some (.deferred (some [])) → Code.ret.wpIn F n P Q { a with defers := { target := .collected D, args := #[] } :: a.defers } W) :
    (Code.rangeFunc g ps assign body).wpIn F n P Q a w := by
  refine wpIn_rangeFunc fun fn hfn => ?_
  rw [hro]
  obtain ⟨rec, hrec⟩ : ∃ rec : LoopState → Option Code → Loop, ∀ st pe, rec st pe = { state := st, pending := pe, fn := fn, tmps := a.tmps, params := ps, assign := assign, body := body, defers := w.heap.size } := ⟨_, fun _ _ => rfl⟩
  obtain ⟨W1, hW1⟩ : ∃ W1, (w.alloc (.deferred (some []))).alloc (.loop (rec .ready none)) = W1 := ⟨_, rfl⟩
  have hbk1 : Books rec w.heap.size .ready none W1 := by
    subst hW1
    refine ⟨?_, (Below.heap_alloc _ _ _ (by simp)).trans (World.alloc_heap_new w _)⟩
    have := World.alloc_heap_new (w.alloc (.deferred (some []))) (.loop (rec .ready none))
    rwa [World.size_alloc] at this
  have hI1 : I [] W1 := by subst hW1; exact hI.alloc _ (hI.alloc _ h0)
  have hb1 : Below w0.heap.size w0 W1 := by subst hW1; exact hb0.trans ((((Below.refl _ w).alloc (Nat.le_refl _) _).alloc (by simp) _).mono hb0.size)
  have hgrow : ∀ {I' : List α → World → Prop}, OwnFrom w.heap.size I' → ∀ {st pe}, Grows (fun pre W => I' pre W ∧ Books rec w.heap.size st pe W) := fun h' _ _ s A B hs hg' => ⟨h' s A B none hs.1 hg' (fun r e => by cases e), hs.2.grown hg'⟩
  have hend : ∀ {st : LoopState} {pe : Option Code} (jump : Option Code) (W : World), Books rec w.heap.size st pe W →
      (Instr.endRound (w.heap.size + 1) jump).run P W = .ok (.bool jump.isNone) (W.putObj (w.heap.size + 1) (.loop (rec (if jump.isNone then .ready else .done) jump))) := fun jump W h => by
    have := run_endRound (P := P) jump h.loop
    rw [hrec] at this ⊢
    exact this
  have hover : ∀ {st : LoopState} {pe : Option Code} (W : World), st ≠ .busy → Books rec w.heap.size st pe W → (Instr.endLoop (w.heap.size + 1)).run P W = .ok pe (W.putObj (w.heap.size + 1) (.loop (rec .exhausted pe))) := fun W hst h => by
    have := run_endLoop (P := P) h.loop (by rw [hrec]; exact hst)
    rw [hrec] at this ⊢
    exact this
  refine ⟨w.heap.size + 1, [{ target := .collected w.heap.size, args := #[] }], W1, { target := .fn (.func gf) lb, args := #[.func (.yield (w.heap.size + 1)) #[] #[]] }, W1, gf,
    #[.func (.yield (w.heap.size + 1)) #[] #[]] ++ lb, W1, ?_, ?_, ?_, ?_, fun _ => h1, ?_⟩
  · rw [← hW1, hrec]
    exact run_enterLoop_outer _ _ _ _ _
  · simp only [resolve, hg]
    simp [go_sem]
  · intro f' hf'
    simp [Target.leads] at hf'
    subst hf'
    exact hF
  · simp [invoke, go_sem, eg]
  refine (hseq (w.heap.size + 1) (fun pre W => I pre W ∧ Books rec w.heap.size .ready none W) (fun pre W => Ix pre W ∧ Books rec w.heap.size .done (some .ret) W) W1 hb1 (hgrow hI) (hgrow hIx) ?_ ⟨hI1, hbk1⟩).mono ?_
  · rintro pre x A0 ⟨hi0, hbk0⟩ hx0 hlen
    have hy := run_yield (P := P) (args := encs x) hbk0.loop (by rw [hrec]; exact hps x)
    rw [hrec] at hy
    refine ⟨fn, _, assign, body, hy, roundIn_of_wpIn hfn (hassign _ pre x A0 _ hi0 hx0 ?_)⟩
    intro a' A hk0 hbl0 hi hx hax
    have hbk := hbk0.keeps hk0
    have hbegin := run_beginRound (P := P) hbk.loop (by rw [hrec])
    have hbusy : ({ rec .ready none with state := .busy } : Loop) = rec .busy none := by rw [hrec, hrec]
    rw [hbusy] at hbegin
    refine ⟨_, hbegin, ?_⟩
    have hbk2 : Books rec w.heap.size .busy none (A.putObj (w.heap.size + 1) (.loop (rec .busy none))) := hbk.turn
    have hsz2 : w.heap.size ≤ (A.putObj (w.heap.size + 1) (.loop (rec .busy none))).heap.size := by have := hbk2.lt; omega
    refine wpIn_mono (hbody _ pre x a' _ hsz2 (hI.putObj _ hi (by omega) hbk.loop rfl) (hR.putObj _ hx (by omega) hbk.loop rfl) ((hAx a').putObj (s := x) _ hax (by omega) hbk.loop rfl) hlen) ?_
    have hb2 : Below n₀ A0 (A.putObj (w.heap.size + 1) (.loop (rec .busy none))) := hbl0.trans (below_turn _ _ (by omega) hbk.lt)
    rintro e a3 B hp
    cases e with
    | normal =>
      obtain ⟨hk, hbl, hi3⟩ := hp
      have hbk3 := hbk2.keeps hk
      exact ⟨_, _, hend none B hbk3, .inl ⟨rfl, ⟨hI.putObj _ hi3 (by omega) hbk3.loop rfl, hbk3.turn⟩, (hb2.trans hbl).trans (below_turn _ _ (by omega) hbk3.lt)⟩⟩
    | ret =>
      obtain ⟨hk, hi3⟩ := hp
      have hbk3 := hbk2.keeps hk
      exact ⟨_, _, hend (some .ret) B hbk3, .inr ⟨rfl, hIx.putObj _ hi3 (by omega) hbk3.loop rfl, hbk3.turn⟩⟩
    | exit id => exact hp.elim
    | goto t => exact hp.elim
    | panic ch => exact hp.elim
    | outgrown => exact hp.elim
  · rintro e B ⟨⟨v, rfl⟩, (⟨xs, hS, hi, hbk⟩ | ⟨pre, hSp, hi, hbk⟩)⟩
    · exact ⟨none, _, hover B (by simp) hbk, hdone _ xs _ (Nat.le_refl _) hS (hI.putObj _ hi (by omega) hbk.loop rfl) (hbk.turn (st' := .exhausted)).calls⟩
    · exact ⟨some .ret, _, hover B (by simp) hbk, hstop _ pre _ (Nat.le_refl _) hSp (hIx.putObj _ hi (by omega) hbk.loop rfl) (hbk.turn (st' := .exhausted)).calls⟩

/-! ### a region within a round -/
/-- An operation that is no defer, carried out in a round as everywhere. -/
theorem wp_round {L n : Nat} {o : Oper} {a : Act} {w : World} {K : Act → World → Prop} {Q : Exit → Act → World → Prop} (hd : ∀ c, o.op ≠ .defer c) (h : o.wp P a w K Q) : o.wpIn (Fence.wide.inRound L) n P a w K Q := by
  unfold Oper.wpIn
  refine ⟨fun _ _ => trivial, ?_⟩
  rw [Fence.inRound_round, Oper.semAt_some _ _ _ hd]
  unfold Oper.wp at h
  generalize (execOp a.eval o).run P w = r at *
  cases r with
  | ok x w' =>
    cases x with
    | value v => exact h
    | skip => exact h
    | defer d => exact h
    | enter f args => exact ⟨(fun e => by cases e), CallsIn.inRound L (callsIn_wide.2 h)⟩
    | row row args =>
      refine ⟨(fun e => by cases e), ?_⟩
      intro c cs _
      obtain ⟨v, w', hr, s⟩ := h c cs
      exact ⟨v, w', hr, stepsIn_wide.2 s⟩
    | round l f tmps assign body => exact False.elim h
    | _ => exact h
  | halt x w' => cases x <;> exact h
theorem any_round {L n : Nat} {ops : Array Oper} {Q : Exit → Act → World → Prop} {md : Region.Mode} (hd : ∀ (i : Nat) (o : Oper) c, ops[i]? = some o → o.op ≠ .defer c) (hQ : ¬ LetsOut Q) : ∀ (fuel : Nat) (listed : Array Bool) (a : Act) (w : World), wpAny P md ops Q fuel listed a w → wpAnyIn (Fence.wide.inRound L) n P md ops Q fuel listed a w
  | 0, _, _, _, h => h
  | fuel + 1, listed, a, w, h => by
    refine ⟨h.1, fun i hi => ?_⟩
    have := h.2 i hi
    unfold wpOp at this
    unfold wpOpIn
    cases ho : ops[i]? with
    | none => rw [ho] at this; exact any_round hd hQ fuel _ _ _ this
    | some o =>
      rw [ho] at this
      dsimp only at this ⊢
      split at this
      · rename_i hw
        rw [if_pos hw]
        rcases this with this | ⟨_, hL⟩
        · exact Oper.wpIn_mono (fun a w => any_round hd hQ fuel _ a w) (wp_round (fun c => hd i o c ho) this)
        · exact absurd hL hQ
      · rename_i hw
        rw [if_neg hw]
        exact ⟨fun _ _ => trivial, any_round hd hQ fuel _ _ _ this⟩
/-- No operation is a defer. -/
def noDefer (ops : Array Oper) : Bool := ops.all fun o => match o.op with | .defer _ => false | _ => true
theorem noDefer_spec {ops : Array Oper} (h : noDefer ops = true) : ∀ (i : Nat) (o : Oper) c, ops[i]? = some o → o.op ≠ .defer c := fun i o c hi hc => by
  unfold noDefer at h
  rw [Array.all_eq_true] at h
  obtain ⟨hlt, rfl⟩ := Array.getElem?_eq_some_iff.1 hi
  have := h i hlt
  rw [hc] at this
  cases this
/-- THE BEGINNING, within a round. -/
theorem beginR {T : Nat → Prop} {L : Nat} {ops : Array Oper} {Q : Exit → Act → World → Prop} (l : RT.Plan Nat) {id : Nat} {a : Act} {w : World} (hm : P.follows .mixedOrders = true) (hs : Region.noSelect ops = true) (hl : l.len = ops.size) (hd : noDefer ops = true) (hL : ¬ LetsOut Q)
    (hp : RT.planned .any ops l (Array.replicate ops.size false) = true) (hQ : ∀ c a d v w, Q (.panic c) (Act.put a d v) w → Q (.panic c) a w)
    (h : RT.walk T P ops Q (RT.ordered ops l) a w.drew) : (Code.region id ops true).wpIn (Fence.wide.inRound L) n P Q a w := by
  refine wpIn_region_any hm (any_round (noDefer_spec hd) hL _ _ _ _ ?_)
  rw [← hl]
  have := RT.held_of_walk (md := .any) hs hQ l (Array.replicate ops.size false) a w.drew hp h
  rw [← hl] at this
  exact wpAny_of_held _ _ _ _ this
end Go.Proofs.Ytgacfihidpijeaa.RF
set_option linter.unusedVariables false
namespace Go.Proofs.Ytgacfihidpijeaa.MM
open Go Go.RowKit

section
variable {α : Type} {C : Codec α}
/-- A literal of elements. -/
theorem own_c_lit {e : TypeId} {B : Nat} (w : World) (raw : List (List Value)) (es : List α) (hB : B ≤ w.heap.size) (hl : es.length ≤ maxLen) (hm : Mean C (Apt e B w) w raw es) :
    OwnC C e B (w.alloc (.cells raw.flatten.toArray e)) (.slice (some ⟨w.heap.size, 0, none⟩) es.length es.length) es := by
  have hb : Below w.heap.size w (w.alloc (.cells raw.flatten.toArray e)) := (Below.refl _ _).alloc (Nat.le_refl _) _
  refine ⟨raw, ?_, hm.keep (kep_below _ hb) fun b hlt hA => apt_keep hA (hb.block b hlt)⟩
  have := World.ownsRow_lit (e := e) (base := B) (size := C.size) w raw.flatten.toArray es.length hB hl (by rw [List.size_toArray, flat_len hm.lens, hm.1])
  simpa using this
/-- .. told as a row. -/
theorem ron_lit {e : TypeId} {S : Nat → Prop} (w : World) (raw : List (List Value)) (es : List α) (hl : es.length ≤ maxLen) (hm : Mean C S w raw es) :
    ROn C (fun b => S b ∨ b = w.heap.size) (w.alloc (.cells raw.flatten.toArray e)) (.slice (some ⟨w.heap.size, 0, none⟩) es.length es.length) es := by
  have hb : Below w.heap.size w (w.alloc (.cells raw.flatten.toArray e)) := (Below.refl _ _).alloc (Nat.le_refl _) _
  refine ⟨_, _, raw, rfl, Nat.le_refl _, hl, (fun h => by cases h), hm.keep (kep_below _ hb) fun b _ h => .inl h, .inr ⟨w.heap.size, 0, rfl, by simp, .inr rfl, fun j u hj => ?_⟩⟩
  have := lit_cells w raw.flatten e j u hj
  rw [add_at] at this
  exact this
/-- A made row. -/
theorem own_c_made {e : TypeId} {B n : Nat} {w : World} {v : Value} {zc : List Value} {d : α} (h : w.ownsRow B e C.size v n (madeCells zc.toArray (n * C.size)).toList) (hd : C.on (Apt e B w) w zc d) : OwnC C e B w v (List.replicate n d) := by
  have hz := C.len hd
  have hp := C.pos
  have hlens : ∀ r ∈ List.replicate n zc, r.length = C.size := fun r hr => by rw [(List.mem_replicate.1 hr).2]; exact hz
  have e1 : (madeCells zc.toArray (n * C.size)).toList = (List.replicate n zc).flatten := by
    apply List.ext_getElem?
    intro j
    by_cases hj : j < n * C.size
    · have hi : j / C.size < n := (Nat.div_lt_iff_lt_mul hp).2 hj
      have hmod := Nat.mod_lt j hp
      have hdm := Nat.div_add_mod j C.size
      obtain ⟨u, hu⟩ : ∃ u, zc[j % C.size]? = some u := ⟨_, List.getElem?_eq_getElem (by omega)⟩
      have hf := flat_get hlens (j / C.size) (by simpa using hi) (j % C.size) u (by simpa using hu)
      have e : j / C.size * C.size + j % C.size = j := by rw [Nat.mul_comm]; exact hdm
      rw [e] at hf
      rw [hf, Array.getElem?_toList]
      obtain ⟨hlt, rfl⟩ := List.getElem?_eq_some_iff.1 hu
      simp [madeCells, hj, hz]
      rw [hu]
      rfl
    · rw [List.getElem?_eq_none (by rw [Array.length_toList, size_madeCells]; omega), List.getElem?_eq_none (by rw [flat_len hlens, List.length_replicate]; omega)]
  rw [e1] at h
  refine ⟨List.replicate n zc, by rw [List.length_replicate]; exact h, by simp, fun i hi hi' => ?_⟩
  rw [List.getElem_replicate, List.getElem_replicate]
  exact hd
theorem flat_set : ∀ {raw : List (List Value)} {n : Nat}, (∀ r ∈ raw, r.length = n) → ∀ (k : Nat) (hk : k < raw.length) (j : Nat) (u : Value), j < n → raw.flatten.set (k * n + j) u = (raw.set k (raw[k].set j u)).flatten
  | r :: raw, n, h, 0, _, j, u, hj => by
    have hr := h r (by simp)
    rw [Nat.zero_mul, Nat.zero_add, List.flatten_cons, List.set_append_left _ _ (by omega)]
    simp
  | r :: raw, n, h, k + 1, hk, j, u, hj => by
    have hr := h r (by simp)
    have e : (k + 1) * n + j = r.length + (k * n + j) := by rw [Nat.succ_mul, hr]; omega
    rw [List.flatten_cons, e, List.set_append_right _ _ (by omega), Nat.add_sub_cancel_left, flat_set (fun x hx => h x (by simp [hx])) k (by simpa using hk) j u hj]
    simp
/-- An element of a row of the call's own: its cells; a store into one of them. -/
theorem OwnC.elem {e : TypeId} {B g n cap : Nat} {w : World} {es : List α} (h : OwnC C e B w (.slice (some ⟨g, 0, none⟩) n cap) es) {k : Nat} (hk : k < es.length) :
    ∃ vs, C.on (Apt e B w) w vs es[k] ∧ (∀ j u, vs[j]? = some u → w.cell? ⟨g, k * C.size + j, none⟩ = some u) ∧ (∀ j, w.frozen? ⟨g, j, none⟩ = false) ∧
      ∀ j u d, j < C.size → C.on (Apt e B w) w (vs.set j u) d → OwnC C e B (w.setCell ⟨g, k * C.size + j, none⟩ u) (.slice (some ⟨g, 0, none⟩) n cap) (es.set k d) := by
  obtain ⟨raw, h1, h2⟩ := h
  have hn : n = es.length := by
    rcases h1.2 with ⟨hv, _⟩ | ⟨g', cap', cur, hv, _⟩
    · cases hv
    · simp only [Value.slice.injEq] at hv
      exact hv.2.1
  subst hn
  have hk' : k < raw.length := by rw [h2.1]; exact hk
  refine ⟨raw[k], h2.2 k hk' hk, fun j u hj => ?_, fun j => World.ownsRow.frozenAt h1 j, fun j u d hj hd => ?_⟩
  · have hf := flat_get h2.lens k hk' j u hj
    have hlt := (List.getElem?_eq_some_iff.1 hf).1
    rw [World.ownsRow.cellAt h1 _ (by rw [flat_len h2.lens, h2.1] at hlt; exact hlt)]
    exact hf
  · have hs := (World.ownsRow.stored h1 (k * C.size + j) u).1
    rw [flat_set h2.lens k hk' j u hj] at hs
    have hng : ¬ Apt e B w g := fun ha => apt_not_own h1 ha rfl
    have hkp : Kep (Apt e B w) w (w.setCell ⟨g, k * C.size + j, none⟩ u) := kep_set hng u
    refine ⟨raw.set k (raw[k].set j u), by rw [List.length_set]; exact hs, by rw [List.length_set, List.length_set, h2.1], fun i hi hi' => ?_⟩
    rw [List.length_set] at hi hi'
    have hA : ∀ b, b < w.heap.size → Apt e B w b → Apt e B (w.setCell ⟨g, k * C.size + j, none⟩ u) b := fun b hlt ha => apt_keep ha (hkp.block b hlt ha)
    by_cases hik : i = k
    · subst hik
      rw [List.getElem_set_self, List.getElem_set_self]
      exact C.keep hd hkp hA
    · rw [List.getElem_set_ne (fun e => hik e.symm), List.getElem_set_ne (fun e => hik e.symm)]
      exact C.keep (h2.2 i hi hi') hkp hA
/-- A beginning of a row of the call's own. -/
theorem OwnC.trunc {e : TypeId} {B g n cap : Nat} {w : World} {es : List α} (h : OwnC C e B w (.slice (some ⟨g, 0, none⟩) n cap) es) {k : Nat} (hk : k ≤ es.length) : OwnC C e B w (.slice (some ⟨g, 0, none⟩) k cap) (es.take k) := by
  obtain ⟨raw, h1, h2⟩ := h
  have hl : (es.take k).length = k := by rw [List.length_take]; omega
  refine ⟨raw.take k, ?_, h2.take k⟩
  rw [hl]
  rcases h1.2 with ⟨hv, _⟩ | ⟨g', cap', cur, hv, hb, hh, hn, hm, hs, ht⟩
  · cases hv
  · simp only [Value.slice.injEq, Option.some.injEq, Addr.mk.injEq] at hv
    obtain ⟨⟨rfl, _⟩, rfl, rfl⟩ := hv
    refine ⟨by rw [flat_len (h2.take k).lens, List.length_take, h2.1]; congr 1; omega, .inr ⟨g, cap, cur, rfl, hb, hh, by omega, hm, hs, ?_⟩⟩
    rw [flat_take h2.lens, ← ht, List.take_take, Nat.min_eq_left (Nat.mul_le_mul_right _ hk)]

/-! ### rows whose inner blocks lie in a named set -/
variable (C)
/-- A row of the call's own: what lies behind its cells lies in S, its own block does not. -/
def OwnS (e : TypeId) (S : Nat → Prop) (w : World) (v : Value) (es : List α) : Prop := ∃ raw, w.ownsRow 0 e C.size v es.length raw.flatten ∧ Mean C S w raw es ∧ ∀ g, v.ownBlock = some g → ¬ S g
variable {C}
theorem OwnS.nil_ (e : TypeId) (S : Nat → Prop) (w : World) : OwnS C e S w (.slice none 0 0) [] := ⟨[], World.ownsRow_nil _ _ _ _, Mean.nil_ _ _, fun g h => by cases h⟩
theorem own_row_kep {e : TypeId} {size n B : Nat} {S : Nat → Prop} {w w' : World} {v : Value} {xs : List Value} (h : w.ownsRow B e size v n xs) (hk : Kep S w w') (hg : ∀ g, v.ownBlock = some g → S g) : w'.ownsRow B e size v n xs := by
  refine ⟨h.1, ?_⟩
  rcases h.2 with h0 | ⟨g, cap, cur, hv, hb, hh, rest⟩
  · exact .inl h0
  · exact .inr ⟨g, cap, cur, hv, hb, by rw [hk.block g (Array.getElem?_eq_some_iff.1 hh).1 (hg g (by rw [hv]; rfl))]; exact hh, rest⟩
/-- .. stays while S and the own block stay. -/
theorem OwnS.keep {e : TypeId} {S T : Nat → Prop} {w w' : World} {v : Value} {es : List α} (h : OwnS C e S w v es) (hk : Kep T w w') (hS : ∀ b, b < w.heap.size → S b → T b) (hg : ∀ g, v.ownBlock = some g → T g) : OwnS C e S w' v es := by
  obtain ⟨raw, h1, h2, h3⟩ := h
  exact ⟨raw, own_row_kep h1 hk hg, ⟨h2.1, fun i hi hi' => C.keep (C.keep (h2.2 i hi hi') (Kep.refl _ _) (T := fun b => S b ∧ b < w.heap.size) fun b hb hs => ⟨hs, hb⟩) (hk.mono' (T := fun b => S b ∧ b < w.heap.size) fun b hb hs => hS b hb hs.1) fun b hb hs => hs.1⟩, h3⟩
theorem OwnS.weak {e : TypeId} {S T : Nat → Prop} {w : World} {v : Value} {es : List α} (h : OwnS C e S w v es) (hT : ∀ b, b < w.heap.size → S b → T b) (hg : ∀ g, v.ownBlock = some g → ¬ T g) : OwnS C e T w v es := by
  obtain ⟨raw, h1, h2, h3⟩ := h
  exact ⟨raw, h1, h2.keep (Kep.refl _ _) hT, hg⟩
theorem OwnS.ron {e : TypeId} {S T : Nat → Prop} {w : World} {v : Value} {es : List α} (h : OwnS C e S w v es) (h1 : ∀ g, v.ownBlock = some g → T g) (h2 : ∀ b, b < w.heap.size → S b → T b) : ROn C T w v es := by
  obtain ⟨raw, ho, hm, _⟩ := h
  rcases ho.2 with ⟨rfl, h0⟩ | ⟨g, cap, cur, rfl, hg, hh, hnc, hmx, hs, ht⟩
  · have : es = [] := List.eq_nil_of_length_eq_zero h0
    subst this
    exact ROn.nil_ _ _
  · refine ⟨some ⟨g, 0, none⟩, cap, raw, rfl, hnc, hmx, (fun h => by cases h), hm.keep (Kep.refl _ _) h2, .inr ⟨g, 0, rfl, (Array.getElem?_eq_some_iff.1 hh).1, h1 g rfl, fun j u hj => ?_⟩⟩
    have := Lib.cells_of_row hh (es.length * C.size) j u (by rw [ht]; exact hj)
    rw [add_at] at this
    exact this
theorem OwnS.any {e : TypeId} {S : Nat → Prop} {w : World} {v : Value} {es : List α} (h : OwnS C e S w v es) : RAny C w v es := h.ron (fun _ _ => trivial) (fun _ _ _ => trivial)
theorem OwnS.lt {e : TypeId} {S : Nat → Prop} {w : World} {v : Value} {es : List α} (h : OwnS C e S w v es) : ∀ g, v.ownBlock = some g → g < w.heap.size ∧ ¬ S g := fun g hg => by obtain ⟨raw, h1, _, h3⟩ := h; exact ⟨(World.ownsRow.lt h1 g hg).2, h3 g hg⟩
theorem OwnC.owns {e : TypeId} {B : Nat} {w : World} {v : Value} {es : List α} (h : OwnC C e B w v es) : OwnS C e (Apt e B w) w v es := by
  obtain ⟨raw, h1, h2⟩ := h
  refine ⟨raw, ?_, h2, fun g hg ha => apt_not_own h1 ha hg⟩
  refine ⟨h1.1, ?_⟩
  rcases h1.2 with h0 | ⟨g, cap, cur, hv, hg, rest⟩
  · exact .inl h0
  · exact .inr ⟨g, cap, cur, hv, Nat.zero_le _, rest⟩
/-- append(row, x), as a step: the inner blocks are those that were, and lie below the world's end. -/
theorem wp_append_s {P : Program} {T e : TypeId} {bytes : Nat} (E : Elem C P T e bytes) {S : Nat → Prop} {w : World} {o : Oper} {a : Act} {K : Act → World → Prop} {Q : Exit → Act → World → Prop} (s x : Operand)
    (ho : o.op = .call { callee := .builtin .append, args := #[s, x], argTypes := #[T, T] }) (v : Value) (es : List α) (w0 : World) (vs : List Value) (d : α) (hw : w = w0.alloc (.cells vs.toArray e)) (hs : a.eval s = v) (hown : OwnS C e S w0 v es)
    (hd : C.on S w0 vs d) (hx : a.eval x = .slice (some ⟨w0.heap.size, 0, none⟩) 1 1) (hlen : es.length + 1 ≤ maxLen) (hby : (es.length + 1) * bytes ≤ 140737488355328)
    (h : ∀ v' w', OwnS C e (fun b => S b ∧ b < w0.heap.size) w' v' (es ++ [d]) → Kep (fun k => v.ownBlock ≠ some k) w0 w' → (∀ g, v'.ownBlock = some g → v.ownBlock = some g ∨ w0.heap.size ≤ g) → Kep (fun k => v.ownBlock ≠ some k) w w' → K (a.put o.dst v') w') : o.wp P a w K Q := by
  subst hw
  have hb0 : Below w0.heap.size w0 (w0.alloc (.cells vs.toArray e)) := (Below.refl _ _).alloc (Nat.le_refl _) _
  obtain ⟨i, z, hi, hz, hsz, hbt, hzs⟩ := E.info
  obtain ⟨raw, h1, h2, h3⟩ := hown
  have hlt : ∀ k, v.ownBlock = some k → k < w0.heap.size := fun k hk => (World.ownsRow.lt h1 k hk).2
  have hl := C.len hd
  have hm0 : Mean C (fun b => S b ∧ b < w0.heap.size) w0 (raw ++ [vs]) (es ++ [d]) := (h2.append (Mean.single hd)).keep (Kep.refl _ _) fun b hb hs => ⟨hs, hb⟩
  -- the row, as one from the own block, or the world's end, on
  have h1a := World.ownsRow.alloc h1 (.cells vs.toArray e)
  refine wp_append_lies _ s x T ho 0 e i z C.size bytes E.under hi hz hsz hbt hzs C.pos v es.length _ hs h1a ⟨w0.heap.size, 0, none⟩ 1 1 vs hx (by rw [hl, Nat.one_mul]) (lit_cells w0 vs e) (C.one hd) (by omega) hlen hby (Nat.zero_le _) _ rfl (fun g cap w' h4 hg hwhere _ => ?_)
  have hk : Kep (fun k => v.ownBlock ≠ some k) w0 w' := (kep_below _ hb0).trans (kep_grown hg fun k hk hne => hne hk)
  have hnew : ∀ g', (Value.slice (some ⟨g, 0, none⟩) (es.length + 1) cap).ownBlock = some g' → v.ownBlock = some g' ∨ w0.heap.size ≤ g' := fun g' hgb => by
    have : g = g' := Option.some.inj hgb
    subst this
    rcases hwhere with h5 | h5
    · exact .inl h5
    · right; rw [h5]; simp
  refine h _ w' ⟨raw ++ [vs], ?_, hm0.keep (hk.mono' fun b hb hs he => h3 b he hs.1) fun b hb hs => hs, ?_⟩ hk hnew (kep_grown hg fun k hk hne => hne hk)
  · rw [List.length_append, List.flatten_append, List.flatten_singleton]
    exact h4
  · intro g hgb hs
    rcases hnew g hgb with he | he
    · exact h3 g he hs.1
    · omega
end
end Go.Proofs.Ytgacfihidpijeaa.MM
set_option linter.unusedVariables false
namespace Go.Proofs.Ytgacfihidpijeaa.MM
open Go Go.RowKit Go.ChangeShapes Go.WideShapes

/-- What is read as data of type t lies as C says, and G holds of it. -/
def Reads (P : Program) {α : Type} (C : Codec α) (G : α → Prop) (t : TypeId) : Prop :=
  ∀ {H : Type} {enc : TypeId × Value → H} {W : World} {base n : Nat} {cs : List Value} {x : DataW H × List MemPlace}, DataW.trod enc P W base (fun _ => true) true n t cs = some x → ∃ a, C.on (fun _ => True) W cs a ∧ G a
def FitI (z : Int) : Prop := -9223372036854775808 ≤ z ∧ z ≤ 9223372036854775807
theorem reads_int {P : Program} {t : TypeId} (ht : P.underlying t = some (.int .i64)) : Reads P cInt FitI t := fun h => by
  obtain ⟨z, rfl, _, hw⟩ := DataW.trod_int ht h
  refine ⟨z, rfl, ?_⟩
  simp only [Lit.wf, Bool.and_eq_true, decide_eq_true_eq] at hw
  have h1 : IntKind.i64.min = -9223372036854775808 := by decide
  have h2 : IntKind.i64.max = 9223372036854775807 := by decide
  rw [h1, h2] at hw
  exact hw
theorem reads_bool {P : Program} {t : TypeId} (ht : P.underlying t = some .bool) : Reads P cBool (fun _ => True) t := fun h => by
  obtain ⟨b, rfl, _⟩ := DataW.trod_bool ht h
  exact ⟨b, rfl, trivial⟩
theorem reads_u8 {P : Program} {t : TypeId} (ht : P.underlying t = some (.int .u8)) : Reads P cU8 (fun _ => True) t := fun h => by
  obtain ⟨z, rfl, _, hw⟩ := DataW.trod_int ht h
  simp only [Lit.wf, Bool.and_eq_true, decide_eq_true_eq] at hw
  have h1 : IntKind.u8.min = 0 := by decide
  have h2 : IntKind.u8.max = 255 := by decide
  rw [h1, h2] at hw
  refine ⟨UInt8.ofNat z.toNat, ?_, trivial⟩
  show [Value.int .u8 z] = [.int .u8 ((UInt8.ofNat z.toNat).toNat : Int)]
  rw [UInt8.toNat_ofNat']
  congr 2
  omega
theorem reads_str {P : Program} {t : TypeId} (ht : P.underlying t = some .string) : Reads P cStr (fun l => l.length ≤ maxLen) t := fun h => by
  obtain ⟨s, rfl, _, hs⟩ := DataW.trod_string ht h
  exact ⟨s.data.toList, rfl, by simpa using hs⟩
/-- A slice. -/
theorem reads_row {P : Program} {α : Type} [Inhabited α] {C : Codec α} {G : α → Prop} {T e : TypeId} (ht : P.underlying T = some (.slice e)) (hc : P.cellsOf e = C.size) (he : Reads P C G e) : Reads P (cRow C) (fun l => (∀ a ∈ l, G a) ∧ l.length ≤ maxLen) T := fun {H enc W base n cs x} h => by
  rcases Deep.open_slice ht h with ⟨rfl, _⟩ | ⟨a, len, cap, m, k, D, Pl, rfl, _, hl, hm, hmm, _, hx⟩
  · exact ⟨[], ⟨_, rfl, ROn.nil_ _ _⟩, by simp, by simp [maxLen]⟩
  · simp only [if_true] at hmm
    subst hmm
    have each : ∀ i, i < len → ∃ q : α × List Value, W.cells? base (a.add (i * C.size)) C.size = some q.2 ∧ C.on (fun _ => True) W q.2 q.1 ∧ G q.1 := fun i hi => by
      obtain ⟨cs', h1, h2⟩ := hx i (by omega)
      obtain ⟨d, h3, h4⟩ := he h2
      rw [hc] at h1
      exact ⟨(d, cs'), h1, h3, h4⟩
    obtain ⟨q, hq⟩ := Deep.choose_lt each
    refine ⟨(List.range len).map fun i => (q i).1, ⟨_, rfl, some a, m, (List.range len).map fun i => (q i).2, by simp, by simpa using hl, hm, (fun h => by cases h), ⟨by simp, fun i hi hi' => ?_⟩, ?_⟩, fun d hd => ?_, by simp; omega⟩
    · have hi2 : i < len := by simpa using hi
      simp only [List.getElem_map, List.getElem_range]
      exact (hq i hi2).2.1
    · by_cases h0 : len = 0
      · left; simp [h0]
      · right
        have hlens : ∀ r ∈ (List.range len).map (fun i => (q i).2), r.length = C.size := fun r hr => by
          obtain ⟨i, hi, rfl⟩ := List.mem_map.1 hr
          exact C.len (hq i (List.mem_range.1 hi)).2.1
        have cell : ∀ i, i < len → ∀ j u, (q i).2[j]? = some u → W.cell? ((a.add (i * C.size)).add j) = some u := fun i hi j u hj => by
          obtain ⟨_, hlen, hcell⟩ := World.cells?_some (hq i hi).1
          have hjl := (List.getElem?_eq_some_iff.1 hj).1
          have := hcell j (by omega)
          rw [this]
          simpa using hj
        have hp := C.pos
        have hl0 := C.len (hq 0 (by omega)).2.1
        obtain ⟨u0, hu0⟩ : ∃ u, (q 0).2[0]? = some u := ⟨_, List.getElem?_eq_getElem (by omega)⟩
        have c0 := cell 0 (by omega) 0 u0 hu0
        obtain ⟨b, off, spot⟩ := a
        have hspot : spot = none := by
          have := World.cell?_spot c0
          simpa [Addr.add] using this
        subst hspot
        refine ⟨b, off, rfl, ?_, trivial, fun j u hj => ?_⟩
        · rw [add_at, add_at] at c0
          by_cases hb : b < W.heap.size
          · exact hb
          · simp [World.cell?, Array.getElem?_eq_none (Nat.le_of_not_lt hb)] at c0
        · have hjl := (List.getElem?_eq_some_iff.1 hj).1
          rw [flat_len hlens, List.length_map, List.length_range] at hjl
          have hi : j / C.size < len := (Nat.div_lt_iff_lt_mul hp).2 hjl
          have hmod := Nat.mod_lt j hp
          have hdm := Nat.div_add_mod j C.size
          have hli := C.len (hq _ hi).2.1
          obtain ⟨u', hu'⟩ : ∃ u, (q (j / C.size)).2[j % C.size]? = some u := ⟨_, List.getElem?_eq_getElem (by omega)⟩
          have hf := flat_get hlens (j / C.size) (by simpa using hi) (j % C.size) u' (by simpa using hu')
          have e : j / C.size * C.size + j % C.size = j := by rw [Nat.mul_comm]; exact hdm
          rw [e, hj] at hf
          obtain rfl := Option.some.inj hf
          have := cell _ hi _ _ hu'
          rw [add_at, add_at, Nat.add_assoc, e] at this
          exact this
    · obtain ⟨i, hi, rfl⟩ := List.mem_map.1 hd
      exact (hq i (List.mem_range.1 hi)).2.2
/-- A struct of two fields. -/
theorem reads_pair {P : Program} {α β : Type} {C : Codec α} {D : Codec β} {G : α → Prop} {F : β → Prop} {t : TypeId} {f0 f1 : Field} (ht : P.underlying t = some (.struct #[f0, f1]))
    (ho0 : f0.offset = 0) (ho1 : f1.offset = C.size) (hc0 : P.cellsOf f0.type = C.size) (hc1 : P.cellsOf f1.type = D.size) (hc : P.cellsOf t = C.size + D.size) (h0 : Reads P C G f0.type) (h1 : Reads P D F f1.type) :
    Reads P (cPair C D) (fun p => G p.1 ∧ F p.2) t := fun {H enc W base n cs x} h => by
  obtain ⟨y0, y1, k, _, hl, g0, g1⟩ := trod_struct2 ht h
  obtain ⟨a, a1, a2⟩ := h0 g0
  obtain ⟨b, b1, b2⟩ := h1 g1
  rw [ho0, hc0, List.drop_zero] at a1
  rw [ho1, hc1] at b1
  rw [hc] at hl
  have e : (cs.drop C.size).take D.size = cs.drop C.size := List.take_of_length_le (by rw [List.length_drop]; omega)
  rw [e] at b1
  exact ⟨(a, b), ⟨cs.take C.size, cs.drop C.size, (List.take_append_drop _ _).symm, a1, b1⟩, a2, b2⟩
/-- The fields of a struct from an offset on. -/
def ReadsFs (P : Program) {α : Type} (C : Codec α) (G : α → Prop) (fs : List Field) (off : Nat) : Prop :=
  ∀ {H : Type} {enc : TypeId × Value → H} {W : World} {base n : Nat} {cs : List Value}, cs.length = off + C.size →
    (∀ (i : Nat) f, fs[i]? = some f → ∃ y : DataW H × List MemPlace, DataW.trod enc P W base (fun _ => true) true n f.type ((cs.drop f.offset).take (P.cellsOf f.type)) = some y) →
    ∃ a, C.on (fun _ => True) W (cs.drop off) a ∧ G a
theorem readsFs_one {P : Program} {α : Type} {C : Codec α} {G : α → Prop} {f : Field} {off : Nat} (ho : f.offset = off) (hc : P.cellsOf f.type = C.size) (h : Reads P C G f.type) : ReadsFs P C G [f] off := fun {H enc W base n cs} hl hf => by
  obtain ⟨y, hy⟩ := hf 0 f rfl
  rw [ho, hc] at hy
  have e : (cs.drop off).take C.size = cs.drop off := List.take_of_length_le (by rw [List.length_drop]; omega)
  rw [e] at hy
  exact h hy
theorem readsFs_cons {P : Program} {α β : Type} {C : Codec α} {D : Codec β} {G : α → Prop} {F : β → Prop} {f : Field} {fs : List Field} {off : Nat} (ho : f.offset = off) (hc : P.cellsOf f.type = C.size) (h : Reads P C G f.type)
    (k : ReadsFs P D F fs (off + C.size)) : ReadsFs P (cPair C D) (fun p => G p.1 ∧ F p.2) (f :: fs) off := fun {H enc W base n cs} hl hf => by
  have hl2 : cs.length = off + (C.size + D.size) := hl
  obtain ⟨y, hy⟩ := hf 0 f rfl
  rw [ho, hc] at hy
  obtain ⟨a, a1, a2⟩ := h hy
  obtain ⟨b, b1, b2⟩ := k (enc := enc) (W := W) (base := base) (n := n) (cs := cs) (by omega) (fun i g hg => hf (i + 1) g (by simpa using hg))
  refine ⟨(a, b), ⟨(cs.drop off).take C.size, cs.drop (off + C.size), ?_, a1, b1⟩, a2, b2⟩
  rw [← List.drop_drop, List.take_append_drop]
/-- A struct. -/
theorem reads_struct {P : Program} {α : Type} {C : Codec α} {G : α → Prop} {t : TypeId} {fs : List Field} (ht : P.underlying t = some (.struct fs.toArray)) (hc : P.cellsOf t = C.size) (h : ReadsFs P C G fs 0) : Reads P C G t := fun {H enc W base n cs x} hx => by
  obtain ⟨xs, k, _, _, hl, hlen, hf⟩ := DataW.trod_struct ht hx
  have := h (enc := enc) (W := W) (base := base) (n := k) (cs := cs) (by rw [hl, hc, Nat.zero_add]) (fun i f hi => by
    have hi2 : fs.toArray[i]? = some f := by simpa using hi
    have hlt : i < xs.length := by
      rw [hlen]
      have := (List.getElem?_eq_some_iff.1 hi).1
      simpa using this
    exact ⟨xs[i], by rw [hf i f hi2, List.getElem?_eq_getElem hlt]⟩)
  rwa [List.drop_zero] at this
/-- An argument that is a struct. -/
theorem argC_struct {P : Program} {α : Type} {C : Codec α} {G : α → Prop} {t : TypeId} {fs : Array Field} {H : Type} {enc : TypeId × Value → H} {W : World} {base base2 : Nat} {v : Value} {d : DataW H} {p : List MemPlace} (R : Reads P C G t) (ht : P.underlying t = some (.struct fs))
    (hv : Value.okWide P W .any base2 t v) (h : ∃ fuel, DataW.trod enc P W base (fun _ => true) true fuel t v.cells.toList = some (d, p)) : ∃ cs a, v = .agg cs ∧ C.on (fun _ => True) W cs.toList a ∧ G a := by
  obtain ⟨cs, rfl, hsz⟩ := okWide_struct ht hv
  obtain ⟨fuel, hf⟩ := h
  obtain ⟨a, a1, a2⟩ := R hf
  exact ⟨cs, a, rfl, a1, a2⟩
/-- An argument that is a slice. -/
theorem argC_slice {P : Program} {α : Type} {C : Codec α} {G : List α → Prop} {t : TypeId} {H : Type} {enc : TypeId × Value → H} {W : World} {base : Nat} {a : Option Addr} {len cap : Nat} {d : DataW H} {p : List MemPlace} (R : Reads P (cRow C) G t)
    (h : ∃ fuel, DataW.trod enc P W base (fun _ => true) true fuel t (Value.slice a len cap).cells.toList = some (d, p)) : ∃ l, RAny C W (.slice a len cap) l ∧ G l := by
  obtain ⟨fuel, hf⟩ := h
  obtain ⟨l, ⟨v, hv, hr⟩, hG⟩ := R hf
  have e : (Value.slice a len cap).cells.toList = [.slice a len cap] := rfl
  rw [e] at hv
  obtain rfl : Value.slice a len cap = v := by simpa using hv
  exact ⟨l, hr, hG⟩
end Go.Proofs.Ytgacfihidpijeaa.MM
