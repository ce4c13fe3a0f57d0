/-
  A region that draws its order, as in RegK, where two operations that stand alone may come up at once: both orders are walked. No condition. What lies in cells, said once for all types: numbers, truths, texts, pairs of them, slices of them, at any depth. No program; no condition. An event's terms by definition: rising, once each, with their places; no two places are the same. No program; no condition.
-/
import Derived.Test.YtgacfihidpijeaaZD8
import Derived.OrdersHeld
import Derived.RegionTactic
import Derived.Below
namespace Go.Proofs.Ytgacfihidpijeaa.RT
open Go Go.RowKit Go.Proofs.Ytgacfihidpijeaa.MM

/-- An order, that may part in two: an operation that yields one value in whatever world in which the blocks stay; one that stands alone; two that stand alone, in either order. -/
inductive Plan (α : Type) where
  | done : Plan α
  | take (i : α) (r : Plan α) : Plan α
  | alone (i : α) (r : Plan α) : Plan α
  | both (i j : α) (r s : Plan α) : Plan α
def Plan.len {α : Type} : Plan α → Nat
  | .done => 0
  | .take _ r => r.len + 1
  | .alone _ r => r.len + 1
  | .both _ _ r _ => r.len + 1

section
variable {T : Nat → Prop} {P : Program} {ops : Array Oper} {Q : Exit → Act → World → Prop} {md : Region.Mode}

theorem held_weaken {S S' : World → Prop} (hS : ∀ w, S' w → S w) : ∀ (fuel : Nat) (listed : Array Bool) (a : Act) (w : World), wpAnyH P md ops Q S' fuel listed a w → wpAnyH P md ops Q S fuel listed a w
  | 0, _, _, _, h => h
  | fuel + 1, _, _, _, h => ⟨h.1, fun i hi => wpOp_mono (fun a' w' h' => ⟨hS _ h'.1, held_weaken hS fuel _ a' w' h'.2⟩) (h.2 i hi)⟩

/-- A way on, kept from the walk. -/
def Way (p : Prop) : Prop := p
theorem Way.out {p : Prop} (h : Way p) : p := h

/-- An operation that stands alone, and what follows. -/
def Step (T : Nat → Prop) (P : Program) (ops : Array Oper) (Q : Exit → Act → World → Prop) (o : Option Oper) (N : Act → World → Prop) (a : Act) (w : World) : Prop :=
  match o with
  | some o => ∀ K : Act → World → Prop, (∀ a' w', Kep T w w' → N a' w' → K a' w') → if Region.wanted o (yielded ops a.tmps) = true then o.wp P a w K Q else K (a.put o.dst undef) w
  | none => False
def walk (T : Nat → Prop) (P : Program) (ops : Array Oper) (Q : Exit → Act → World → Prop) : Plan (Option Oper) → Act → World → Prop
  | .done, a, w => Q .normal a w
  | .take (some o) r, a, w => ∃ v, YieldsIf P ops (Kep T w) o v a ∧ walk T P ops Q r (a.put o.dst v) w
  | .take none _, _, _ => False
  | .alone o r, a, w => Step T P ops Q o (walk T P ops Q r) a w
  | .both o o' r s, a, w => Step T P ops Q o (walk T P ops Q r) a w ∧ Step T P ops Q o' (walk T P ops Q s) a w
/-- The operations in the order of a plan. -/
def ordered (ops : Array Oper) : Plan Nat → Plan (Option Oper)
  | .done => .done
  | .take i r => .take ops[i]? (ordered ops r)
  | .alone i r => .alone ops[i]? (ordered ops r)
  | .both i j r s => .both ops[i]? ops[j]? (ordered ops r) (ordered ops s)

/-- The order is one: each operation may come up, and is free, or alone, or one of two. -/
def planned (md : Region.Mode) (ops : Array Oper) : Plan Nat → Array Bool → Bool
  | .done, listed => (Region.ready md ops listed).isEmpty
  | .take i r, listed => Region.free md ops listed i && (Region.ready md ops listed).contains i && planned md ops r (listed.setIfInBounds i true)
  | .alone i r, listed => (Region.ready md ops listed == [i]) && planned md ops r (listed.setIfInBounds i true)
  | .both i j r s, listed => (Region.ready md ops listed == [i, j]) && (r.len == s.len) && planned md ops r (listed.setIfInBounds i true) && planned md ops s (listed.setIfInBounds j true)

theorem held_of_walk (hs : Region.noSelect ops = true) (hQ : ∀ c a d v w, Q (.panic c) (Act.put a d v) w → Q (.panic c) a w) :
    ∀ (l : Plan Nat) (listed : Array Bool) (a : Act) (w : World), planned md ops l listed = true → walk T P ops Q (ordered ops l) a w → wpAnyH P md ops Q (Kep T w) l.len listed a w
  | .done, listed, a, w, hp, h => ⟨by simpa [planned] using hp, h⟩
  | .take i r, listed, a, w, hp, h => by
    have h' : walk T P ops Q (.take ops[i]? (ordered ops r)) a w := h
    cases ho : ops[i]? with
    | none => rw [ho] at h'; exact h'.elim
    | some o =>
      rw [ho] at h'
      obtain ⟨v, hy, hr⟩ := h'
      simp only [planned, Bool.and_eq_true] at hp
      exact wpAnyH_take ho hs hp.1.1 hp.1.2 (fun c a w => hQ c a _ _ w) hy (Kep.refl _ w) (held_of_walk hs hQ r _ _ _ hp.2 hr)
  | .alone i r, listed, a, w, hp, h => by
    have h' : Step T P ops Q ops[i]? (walk T P ops Q (ordered ops r)) a w := h
    cases ho : ops[i]? with
    | none => rw [ho] at h'; exact h'.elim
    | some o =>
      rw [ho] at h'
      simp only [planned, Bool.and_eq_true] at hp
      refine wpAnyH_all (rs := [i]) (by simpa using hp.1) (by simp) (fun j hj => ?_)
      obtain rfl : j = i := by simpa using hj
      exact wpOp_step ho (fun K hK => h' K (fun a' w' h1 h2 => hK a' w' ⟨h1, held_weaken (fun W hW => h1.trans hW) _ _ _ _ (held_of_walk hs hQ r _ _ _ hp.2 h2)⟩))
  | .both i j r s, listed, a, w, hp, h => by
    have h' : Step T P ops Q ops[i]? (walk T P ops Q (ordered ops r)) a w ∧ Step T P ops Q ops[j]? (walk T P ops Q (ordered ops s)) a w := h
    obtain ⟨h1, h2⟩ := h'
    simp only [planned, Bool.and_eq_true, beq_iff_eq] at hp
    cases ho : ops[i]? with
    | none => rw [ho] at h1; exact h1.elim
    | some o =>
      cases ho' : ops[j]? with
      | none => rw [ho'] at h2; exact h2.elim
      | some o' =>
        rw [ho] at h1
        rw [ho'] at h2
        refine wpAnyH_all (rs := [i, j]) (by simpa using hp.1.1.1) (by simp) (fun k hk => ?_)
        simp only [List.mem_cons, List.not_mem_nil, or_false] at hk
        rcases hk with rfl | rfl
        · exact wpOp_step ho (fun K hK => h1 K (fun a' w' g1 g2 => hK a' w' ⟨g1, held_weaken (fun W hW => g1.trans hW) _ _ _ _ (held_of_walk hs hQ r _ _ _ hp.1.2 g2)⟩))
        · refine wpOp_step ho' (fun K hK => h2 K (fun a' w' g1 g2 => hK a' w' ⟨g1, held_weaken (fun W hW => g1.trans hW) _ _ _ _ ?_⟩))
          rw [hp.1.1.2]
          exact held_of_walk hs hQ s _ _ _ hp.2 g2

/-- THE BEGINNING. -/
theorem begin_ (l : Plan Nat) {id : Nat} {a : Act} {w : World} (hm : P.follows .mixedOrders = true) (hs : Region.noSelect ops = true) (hl : l.len = ops.size)
    (hp : planned .any ops l (Array.replicate ops.size false) = true) (hQ : ∀ c a d v w, Q (.panic c) (Act.put a d v) w → Q (.panic c) a w)
    (h : walk T P ops Q (ordered ops l) a w.drew) : (Code.region id ops true).wp P Q a w := by
  refine wp_region_held (S := Kep T w.drew) hm ?_
  rw [← hl]
  have := held_of_walk (md := .any) hs hQ l (Array.replicate ops.size false) a w.drew hp h
  rw [← hl] at this
  exact this

/-- THE STEPS. -/
theorem take {r : Plan (Option Oper)} {a : Act} {w : World} {o : Oper} {v : Value} (hw : Region.wanted o (yielded ops a.tmps) = true)
    (hy : ∀ W, Kep T w W → (execOp a.eval o).run P W = .ok (.value v) W) (h : walk T P ops Q r (a.put o.dst v) w) : walk T P ops Q (.take (some o) r) a w :=
  ⟨v, .inl ⟨hw, hy⟩, h⟩
theorem skip {r : Plan (Option Oper)} {a : Act} {w : World} {o : Oper} (hw : Region.wanted o (yielded ops a.tmps) = false)
    (h : walk T P ops Q r (a.put o.dst undef) w) : walk T P ops Q (.take (some o) r) a w :=
  ⟨undef, .inr ⟨hw, rfl⟩, h⟩
theorem step {N : Act → World → Prop} {a : Act} {w : World} {o : Oper} (hw : Region.wanted o (yielded ops a.tmps) = true)
    (h : ∀ K : Act → World → Prop, Way (∀ a' w', Kep T w w' → N a' w' → K a' w') → o.wp P a w K Q) : Step T P ops Q (some o) N a w := by
  intro K hK
  rw [if_pos hw]
  exact h K hK
theorem step_skip {N : Act → World → Prop} {a : Act} {w : World} {o : Oper} (hw : Region.wanted o (yielded ops a.tmps) = false)
    (h : N (a.put o.dst undef) w) : Step T P ops Q (some o) N a w := by
  intro K hK
  rw [if_neg (by rw [hw]; exact Bool.false_ne_true)]
  exact hK _ _ (Kep.refl _ w) h
theorem alone {r : Plan (Option Oper)} {a : Act} {w : World} {o : Oper} (h : Step T P ops Q (some o) (walk T P ops Q r) a w) : walk T P ops Q (.alone (some o) r) a w := h
theorem both {r s : Plan (Option Oper)} {a : Act} {w : World} {o o' : Oper} (h : Step T P ops Q (some o) (walk T P ops Q r) a w) (h' : Step T P ops Q (some o') (walk T P ops Q s) a w) : walk T P ops Q (.both (some o) (some o') r s) a w := ⟨h, h'⟩
theorem done {a : Act} {w : World} (h : Q .normal a w) : walk T P ops Q .done a w := h
end
end Go.Proofs.Ytgacfihidpijeaa.RT
set_option linter.unusedVariables false
namespace Go.Proofs.Ytgacfihidpijeaa.MM
open Go Go.RowKit

/-! ### codecs -/
/-- How a datum lies in cells: what they hold; what lies behind them lies in blocks of S. -/
structure Codec (α : Type) where
  size : Nat
  on : (Nat → Prop) → World → List Value → α → Prop
  pos : 0 < size
  len : ∀ {S w vs a}, on S w vs a → vs.length = size
  keep : ∀ {S T w w' vs a}, on S w vs a → Kep S w w' → (∀ b, b < w.heap.size → S b → T b) → on T w' vs a
  one : ∀ {S w vs a}, on S w vs a → ∀ u ∈ vs, u.oneCell' = true
theorem Codec.weak {α : Type} (C : Codec α) {S T : Nat → Prop} {w : World} {vs : List Value} {a : α} (h : C.on S w vs a) (hT : ∀ b, b < w.heap.size → S b → T b) : C.on T w vs a := C.keep h (Kep.refl _ _) hT
theorem Codec.all {α : Type} (C : Codec α) {S : Nat → Prop} {w : World} {vs : List Value} {a : α} (h : C.on S w vs a) : C.on (fun _ => True) w vs a := C.weak h fun _ _ _ => trivial
theorem Codec.below {α : Type} (C : Codec α) {w w' : World} {vs : List Value} {a : α} (h : C.on (fun _ => True) w vs a) (hb : Below w.heap.size w w') : C.on (fun _ => True) w' vs a := C.keep h (kep_below _ hb) fun _ _ h => h
/-- A cell by a function. -/
def cOne {α : Type} (f : α → Value) (hf : ∀ a, (f a).oneCell' = true) : Codec α where
  size := 1
  on := fun _ _ vs a => vs = [f a]
  pos := by decide
  len := fun h => by rw [h]; rfl
  keep := fun h _ _ => h
  one := fun h u hu => by rw [h] at hu; simp at hu; rw [hu]; exact hf _
def cInt : Codec Int := cOne (fun z => .int .i64 z) (fun _ => rfl)
def cBool : Codec Bool := cOne (fun b => .bool b) (fun _ => rfl)
def cU8 : Codec UInt8 := cOne (fun c => .int .u8 (c.toNat : Int)) (fun _ => rfl)
def cStr : Codec (List UInt8) := cOne (fun l => .string ⟨l.toArray⟩) (fun _ => rfl)
/-- One behind the other. -/
def cPair {α β : Type} (C : Codec α) (D : Codec β) : Codec (α × β) where
  size := C.size + D.size
  on := fun S w vs p => ∃ x y, vs = x ++ y ∧ C.on S w x p.1 ∧ D.on S w y p.2
  pos := by have := C.pos; omega
  len := fun ⟨x, y, h, h1, h2⟩ => by rw [h, List.length_append, C.len h1, D.len h2]
  keep := fun ⟨x, y, h, h1, h2⟩ hk hT => ⟨x, y, h, C.keep h1 hk hT, D.keep h2 hk hT⟩
  one := fun ⟨x, y, h, h1, h2⟩ u hu => by
    rw [h, List.mem_append] at hu
    rcases hu with hu | hu
    · exact C.one h1 u hu
    · exact D.one h2 u hu
/-- A datum told by another. -/
def cMap {α β : Type} (C : Codec α) (f : β → α) : Codec β where
  size := C.size
  on := fun S w vs b => C.on S w vs (f b)
  pos := C.pos
  len := fun h => C.len h
  keep := fun h hk hT => C.keep h hk hT
  one := fun h => C.one h

/-! ### rows -/
section
variable {α : Type} (C : Codec α)
/-- What raw cells mean, element by element. -/
def Mean (S : Nat → Prop) (w : World) (raw : List (List Value)) (es : List α) : Prop := raw.length = es.length ∧ ∀ i (h : i < raw.length) (h' : i < es.length), C.on S w raw[i] es[i]
variable {C}
theorem Mean.keep {S T : Nat → Prop} {w w' : World} {raw : List (List Value)} {es : List α} (h : Mean C S w raw es) (hk : Kep S w w') (hT : ∀ b, b < w.heap.size → S b → T b) : Mean C T w' raw es :=
  ⟨h.1, fun i hi hi' => C.keep (h.2 i hi hi') hk hT⟩
theorem Mean.nil_ (S : Nat → Prop) (w : World) : Mean C S w [] [] := ⟨rfl, fun i h => by simp at h⟩
theorem Mean.append {S : Nat → Prop} {w : World} {xs ys : List (List Value)} {es bs : List α} (h : Mean C S w xs es) (k : Mean C S w ys bs) : Mean C S w (xs ++ ys) (es ++ bs) := by
  refine ⟨by rw [List.length_append, List.length_append, h.1, k.1], fun i hi hi' => ?_⟩
  by_cases hlt : i < xs.length
  · rw [List.getElem_append_left hlt, List.getElem_append_left (by rw [← h.1]; exact hlt)]
    exact h.2 i hlt (by rw [← h.1]; exact hlt)
  · rw [List.length_append] at hi hi'
    have e := h.1
    rw [List.getElem_append_right (by omega), List.getElem_append_right (by omega)]
    simp only [← e]
    exact k.2 (i - xs.length) (by omega) (by omega)
theorem Mean.single {S : Nat → Prop} {w : World} {vs : List Value} {a : α} (h : C.on S w vs a) : Mean C S w [vs] [a] :=
  ⟨rfl, fun i hi hi' => by obtain rfl : i = 0 := (by simpa using hi); exact h⟩
theorem Mean.take {S : Nat → Prop} {w : World} {raw : List (List Value)} {es : List α} (h : Mean C S w raw es) (k : Nat) : Mean C S w (raw.take k) (es.take k) := by
  refine ⟨by rw [List.length_take, List.length_take, h.1], fun i hi hi' => ?_⟩
  rw [List.getElem_take, List.getElem_take]
  exact h.2 i (by rw [List.length_take] at hi; omega) (by rw [List.length_take] at hi'; omega)
theorem Mean.drop {S : Nat → Prop} {w : World} {raw : List (List Value)} {es : List α} (h : Mean C S w raw es) (k : Nat) : Mean C S w (raw.drop k) (es.drop k) := by
  refine ⟨by rw [List.length_drop, List.length_drop, h.1], fun i hi hi' => ?_⟩
  rw [List.getElem_drop, List.getElem_drop]
  exact h.2 _ (by rw [List.length_drop] at hi; omega) (by rw [List.length_drop] at hi'; omega)
theorem Mean.lens {S : Nat → Prop} {w : World} {raw : List (List Value)} {es : List α} (h : Mean C S w raw es) : ∀ r ∈ raw, r.length = C.size := fun r hr => by
  obtain ⟨i, hi, rfl⟩ := List.getElem_of_mem hr
  exact C.len (h.2 i hi (by rw [← h.1]; exact hi))
theorem Mean.ones {S : Nat → Prop} {w : World} {raw : List (List Value)} {es : List α} (h : Mean C S w raw es) : ∀ u ∈ raw.flatten, u.oneCell' = true := fun u hu => by
  obtain ⟨r, hr, hu⟩ := List.mem_flatten.1 hu
  obtain ⟨i, hi, rfl⟩ := List.getElem_of_mem hr
  exact C.one (h.2 i hi (by rw [← h.1]; exact hi)) u hu
theorem flat_len : ∀ {raw : List (List Value)} {n : Nat}, (∀ r ∈ raw, r.length = n) → raw.flatten.length = raw.length * n
  | [], n, _ => by simp
  | r :: raw, n, h => by
    rw [List.flatten_cons, List.length_append, flat_len fun x hx => h x (by simp [hx]), h r (by simp), List.length_cons, Nat.succ_mul]
    omega
theorem flat_get : ∀ {raw : List (List Value)} {n : Nat}, (∀ r ∈ raw, r.length = n) → ∀ (i : Nat) (hi : i < raw.length) (j : Nat) (u : Value), raw[i][j]? = some u → raw.flatten[i * n + j]? = some u
  | r :: raw, n, h, 0, _, j, u, hu => by
    rw [List.getElem_cons_zero] at hu
    have hj := (List.getElem?_eq_some_iff.1 hu).1
    rw [Nat.zero_mul, Nat.zero_add, List.flatten_cons, List.getElem?_append_left hj]
    exact hu
  | r :: raw, n, h, i + 1, hi, j, u, hu => by
    have hr := h r (by simp)
    have e : (i + 1) * n + j = r.length + (i * n + j) := by rw [Nat.succ_mul, hr]; omega
    rw [List.flatten_cons, e, List.getElem?_append_right (by omega), Nat.add_sub_cancel_left]
    exact flat_get (fun x hx => h x (by simp [hx])) i (by simpa using hi) j u (by simpa using hu)
theorem flat_take : ∀ {raw : List (List Value)} {n : Nat}, (∀ r ∈ raw, r.length = n) → ∀ k, (raw.take k).flatten = raw.flatten.take (k * n)
  | [], n, _, k => by simp
  | r :: raw, n, h, 0 => by simp
  | r :: raw, n, h, k + 1 => by
    have hr := h r (by simp)
    have e1 : r.take (k * n + n) = r := List.take_of_length_le (by omega)
    have e2 : k * n + n - n = k * n := by omega
    rw [List.take_succ_cons, List.flatten_cons, List.flatten_cons, flat_take (fun x hx => h x (by simp [hx])) k, Nat.succ_mul, List.take_append, hr, e1, e2]
theorem flat_drop : ∀ {raw : List (List Value)} {n : Nat}, (∀ r ∈ raw, r.length = n) → ∀ k, (raw.drop k).flatten = raw.flatten.drop (k * n)
  | [], n, _, k => by simp
  | r :: raw, n, h, 0 => by simp
  | r :: raw, n, h, k + 1 => by
    have hr := h r (by simp)
    have e1 : r.drop (k * n + n) = [] := List.drop_of_length_le (by omega)
    have e2 : k * n + n - n = k * n := by omega
    rw [List.drop_succ_cons, List.flatten_cons, flat_drop (fun x hx => h x (by simp [hx])) k, Nat.succ_mul, List.drop_append, hr, e1, e2, List.nil_append]
variable (C)
/-- A slice of such data that lie in blocks of S. -/
def ROn (S : Nat → Prop) (w : World) (v : Value) (es : List α) : Prop :=
  ∃ (p : Option Addr) (cap : Nat) (raw : List (List Value)), v = .slice p es.length cap ∧ es.length ≤ cap ∧ cap ≤ maxLen ∧ (p = none → cap = 0) ∧ Mean C S w raw es ∧
    (es = [] ∨ ∃ b off, p = some ⟨b, off, none⟩ ∧ b < w.heap.size ∧ S b ∧ ∀ j u, raw.flatten[j]? = some u → w.cell? ⟨b, off + j, none⟩ = some u)
/-- .. wherever. -/
def RAny (w : World) (v : Value) (es : List α) : Prop := ROn C (fun _ => True) w v es
/-- .. below block B. -/
def RBel (B : Nat) (w : World) (v : Value) (es : List α) : Prop := ROn C (fun b => b < B) w v es
variable {C}
theorem ROn.keep {S T : Nat → Prop} {w w' : World} {v : Value} {es : List α} (h : ROn C S w v es) (hk : Kep S w w') (hT : ∀ b, b < w.heap.size → S b → T b) : ROn C T w' v es := by
  obtain ⟨p, cap, raw, hv, h1, h2, h3, hm, h⟩ := h
  refine ⟨p, cap, raw, hv, h1, h2, h3, hm.keep hk hT, ?_⟩
  rcases h with h | ⟨b, off, hp, hlt, hS, hc⟩
  · exact .inl h
  · exact .inr ⟨b, off, hp, Nat.lt_of_lt_of_le hlt hk.size, hT b hlt hS, fun j u hj => by rw [hk.cell hlt hS]; exact hc j u hj⟩
theorem ROn.weak {S T : Nat → Prop} {w : World} {v : Value} {es : List α} (h : ROn C S w v es) (hT : ∀ b, b < w.heap.size → S b → T b) : ROn C T w v es := h.keep (Kep.refl _ _) hT
theorem ROn.any {S : Nat → Prop} {w : World} {v : Value} {es : List α} (h : ROn C S w v es) : RAny C w v es := h.weak fun _ _ _ => trivial
theorem RAny.below {w w' : World} {v : Value} {es : List α} (h : RAny C w v es) (hb : Below w.heap.size w w') : RAny C w' v es := ROn.keep h (kep_below _ hb) fun _ _ h => h
theorem RAny.bel {w : World} {v : Value} {es : List α} (h : RAny C w v es) : RBel C w.heap.size w v es := ROn.weak h fun _ h _ => h
theorem kep_lt {B : Nat} {w w' : World} (hb : Below B w w') : Kep (fun b => b < B) w w' := ⟨hb.os, hb.tape, hb.output, hb.size, fun k _ hk => hb.block k hk⟩
theorem RBel.below {B : Nat} {w w' : World} {v : Value} {es : List α} (h : RBel C B w v es) (hb : Below B w w') : RBel C B w' v es := ROn.keep h (kep_lt hb) fun _ _ h => h
theorem RBel.mono {B B' : Nat} {w : World} {v : Value} {es : List α} (h : RBel C B w v es) (hB : B ≤ B') : RBel C B' w v es := ROn.weak h fun _ _ h => Nat.lt_of_lt_of_le h hB
theorem ROn.shape {S : Nat → Prop} {w : World} {v : Value} {es : List α} (h : ROn C S w v es) : ∃ p cap, v = .slice p es.length cap ∧ es.length ≤ cap ∧ cap ≤ maxLen ∧ (p = none → cap = 0) := by
  obtain ⟨p, cap, raw, hv, h1, h2, h3, _⟩ := h
  exact ⟨p, cap, hv, h1, h2, h3⟩
theorem ROn.oneCell {S : Nat → Prop} {w : World} {v : Value} {es : List α} (h : ROn C S w v es) : v.oneCell' = true := by
  obtain ⟨p, cap, raw, rfl, _⟩ := h; rfl
theorem ROn.nil_ (S : Nat → Prop) (w : World) : ROn C S w (.slice none 0 0) [] := ⟨none, 0, [], rfl, Nat.le_refl _, by unfold maxLen; omega, fun _ => rfl, Mean.nil_ _ _, .inl rfl⟩
/-- The k-th element: its cells, what they mean. -/
theorem ROn.at_ {S : Nat → Prop} {w : World} {p : Option Addr} {n cap : Nat} {es : List α} (h : ROn C S w (.slice p n cap) es) {k : Nat} (hk : k < es.length) :
    ∃ b off vs, p = some ⟨b, off, none⟩ ∧ b < w.heap.size ∧ S b ∧ C.on S w vs es[k] ∧ ∀ j u, vs[j]? = some u → w.cell? ⟨b, off + k * C.size + j, none⟩ = some u := by
  obtain ⟨p', cap', raw, hv, _, _, _, hm, h⟩ := h
  simp only [Value.slice.injEq] at hv
  obtain ⟨rfl, _, _⟩ := hv
  rcases h with h | ⟨b, off, hp, hlt, hS, hc⟩
  · subst h; simp at hk
  · have hk' : k < raw.length := by rw [hm.1]; exact hk
    exact ⟨b, off, raw[k], hp, hlt, hS, hm.2 k hk' hk, fun j u hj => by rw [Nat.add_assoc]; exact hc _ u (flat_get hm.lens k hk' j u hj)⟩
theorem ROn.take {S : Nat → Prop} {w : World} {p : Option Addr} {n cap : Nat} {es : List α} (h : ROn C S w (.slice p n cap) es) (k : Nat) (hk : k ≤ n) : ROn C S w (.slice p k cap) (es.take k) := by
  obtain ⟨p', cap', raw, hv, h1, h2, h3, hm, h⟩ := h
  simp only [Value.slice.injEq] at hv
  obtain ⟨rfl, rfl, rfl⟩ := hv
  have hl : (es.take k).length = k := by rw [List.length_take]; omega
  refine ⟨_, _, raw.take k, by rw [hl], by omega, by omega, h3, hm.take k, ?_⟩
  rcases h with h | ⟨b, off, rfl, hlt, hS, hc⟩
  · subst h; left; simp
  · refine .inr ⟨b, off, rfl, hlt, hS, fun j u hj => hc j u ?_⟩
    rw [flat_take hm.lens, List.getElem?_take] at hj
    split at hj
    · exact hj
    · cases hj
theorem ROn.drop {S : Nat → Prop} {w : World} {p : Option Addr} {n cap : Nat} {es : List α} (h : ROn C S w (.slice p n cap) es) (k : Nat) (hk : k ≤ n) :
    ROn C S w (.slice (if cap = k then p else p.map (·.add (k * C.size))) (n - k) (cap - k)) (es.drop k) := by
  obtain ⟨p', cap', raw, hv, h1, h2, h3, hm, h⟩ := h
  simp only [Value.slice.injEq] at hv
  obtain ⟨rfl, rfl, rfl⟩ := hv
  refine ⟨_, _, raw.drop k, by rw [List.length_drop], by rw [List.length_drop]; omega, by omega, fun hp => ?_, hm.drop k, ?_⟩
  · by_cases hc : cap = k
    · omega
    · rw [if_neg hc] at hp
      have : p = none := by cases p <;> simp_all
      have := h3 this
      omega
  by_cases hkn : k = es.length
  · left; rw [hkn, List.drop_length]
  · rcases h with h | ⟨b, off, rfl, hlt, hS, hc⟩
    · subst h; simp at hk; simp at hkn; omega
    · rw [if_neg (by omega)]
      refine .inr ⟨b, off + k * C.size, ?_, hlt, hS, fun j u hj => ?_⟩
      · simp only [Option.map_some, Option.some.injEq]
        rw [add_at]
      · rw [flat_drop hm.lens, List.getElem?_drop] at hj
        rw [Nat.add_assoc]
        exact hc _ u hj
end
/-- A slice, as a datum. -/
def cRow {α : Type} (C : Codec α) : Codec (List α) where
  size := 1
  on := fun S w vs es => ∃ v, vs = [v] ∧ ROn C S w v es
  pos := by decide
  len := fun ⟨v, h, _⟩ => by rw [h]; rfl
  keep := fun ⟨v, h, h1⟩ hk hT => ⟨v, h, h1.keep hk hT⟩
  one := fun ⟨v, h, h1⟩ u hu => by rw [h] at hu; simp at hu; rw [hu]; exact h1.oneCell

/-! ### rows of one-cell elements, in the elder words -/
theorem ron_row {α : Type} {f : α → Value} {hf : ∀ a, (f a).oneCell' = true} {S : Nat → Prop} {B : Nat} {w : World} {v : Value} {es : List α} (h : ROn (cOne f hf) S w v es) (hS : ∀ b, b < w.heap.size → S b → b < B) : RowIn B w v (es.map f) := by
  obtain ⟨p, cap, raw, hv, h1, h2, h3, hm, h⟩ := h
  refine ⟨p, cap, by rw [List.length_map]; exact hv, by rw [List.length_map]; exact h1, h2, h3, ?_⟩
  rcases h with h | ⟨b, off, hp, hlt, hSb, hc⟩
  · subst h; exact .inl rfl
  · refine .inr ⟨b, off, hp, hS b hlt hSb, fun i u hi => hc i u ?_⟩
    rw [List.getElem?_map] at hi
    obtain ⟨a, ha, rfl⟩ := Option.map_eq_some_iff.1 hi
    obtain ⟨hl, rfl⟩ := List.getElem?_eq_some_iff.1 ha
    have hl' : i < raw.length := by rw [hm.1]; exact hl
    have e := hm.2 i hl' hl
    have := flat_get hm.lens i hl' 0 (f es[i]) (by rw [show raw[i] = [f es[i]] from e]; rfl)
    rw [show (cOne f hf).size = 1 from rfl, Nat.mul_one, Nat.add_zero] at this
    exact this
theorem flat_singles {α : Type} (f : α → Value) : ∀ es : List α, (es.map fun a => [f a]).flatten = es.map f
  | [] => rfl
  | a :: es => by rw [List.map_cons, List.flatten_cons, flat_singles f es]; rfl
theorem row_ron {α : Type} {f : α → Value} {hf : ∀ a, (f a).oneCell' = true} {B : Nat} {w : World} {v : Value} {es : List α} (h : RowIn B w v (es.map f)) (hB : B ≤ w.heap.size) : ROn (cOne f hf) (fun b => b < B) w v es := by
  obtain ⟨p, cap, hv, h1, h2, h3, h⟩ := h
  rw [List.length_map] at hv h1
  refine ⟨p, cap, es.map fun a => [f a], hv, h1, h2, h3, ⟨by simp, fun i hi hi' => by simp [cOne]⟩, ?_⟩
  rcases h with h | ⟨b, off, hp, hlt, hc⟩
  · exact .inl (List.map_eq_nil_iff.1 h)
  · exact .inr ⟨b, off, hp, Nat.lt_of_lt_of_le hlt hB, hlt, fun i u hi => hc i u (by rw [flat_singles] at hi; exact hi)⟩

/-! ### rows of the call's own -/
/-- Apart from rows of elements of type e that lie from block B on. -/
def Apt (e : TypeId) (B : Nat) (w : World) (b : Nat) : Prop := b < B ∨ ∀ cur fr, w.heap[b]? ≠ some (.cells cur e fr)
theorem apt_keep {e : TypeId} {B : Nat} {w w' : World} {b : Nat} (h : Apt e B w b) (hb : w'.heap[b]? = w.heap[b]?) : Apt e B w' b := by
  rcases h with h | h
  · exact .inl h
  · exact .inr fun cur fr => by rw [hb]; exact h cur fr
theorem own_cells {e : TypeId} {B n size : Nat} {w : World} {v : Value} {xs : List Value} (h : w.ownsRow B e size v n xs) {g : Nat} (hg : v.ownBlock = some g) : B ≤ g ∧ ∃ cur fr, w.heap[g]? = some (.cells cur e fr) := by
  rcases h.2 with ⟨rfl, h0⟩ | ⟨g', cap, cur, rfl, hg', hh, _⟩
  · cases hg
  · have : g' = g := Option.some.inj hg
    subst this
    exact ⟨hg', cur, _, hh⟩
theorem apt_not_own {e : TypeId} {B n size : Nat} {w : World} {v : Value} {xs : List Value} (h : w.ownsRow B e size v n xs) {b : Nat} (ha : Apt e B w b) : v.ownBlock ≠ some b := by
  intro he
  obtain ⟨h1, cur, fr, h2⟩ := own_cells h he
  rcases ha with ha | ha
  · omega
  · exact ha cur fr h2
section
variable {α : Type} (C : Codec α)
/-- A row of the call's own, from block B on; what lies behind its cells lies apart from such rows. -/
def OwnC (e : TypeId) (B : Nat) (w : World) (v : Value) (es : List α) : Prop := ∃ raw, w.ownsRow B e C.size v es.length raw.flatten ∧ Mean C (Apt e B w) w raw es
variable {C}
theorem OwnC.nil_ (e : TypeId) (B : Nat) (w : World) : OwnC C e B w (.slice none 0 0) [] := ⟨[], World.ownsRow_nil _ _ _ _, Mean.nil_ _ _⟩
theorem OwnC.keep {e : TypeId} {B : Nat} {w w' : World} {v : Value} {es : List α} (h : OwnC C e B w v es) (hb : Below w.heap.size w w') : OwnC C e B w' v es := by
  obtain ⟨raw, h1, h2⟩ := h
  exact ⟨raw, own_keep (B := 0) h1 hb, h2.keep (kep_below _ hb) fun b hlt hA => apt_keep hA (hb.block b hlt)⟩
theorem OwnC.alloc {e : TypeId} {B : Nat} {w : World} {v : Value} {es : List α} (h : OwnC C e B w v es) (o : Obj) : OwnC C e B (w.alloc o) v es := h.keep ((Below.refl _ _).alloc (Nat.le_refl _) o)
/-- .. told as a row, whose blocks are those of S, if the own block and what lies apart are. -/
theorem OwnC.ron {e : TypeId} {B : Nat} {w : World} {v : Value} {es : List α} {S : Nat → Prop} (h : OwnC C e B w v es) (h1 : ∀ g, v.ownBlock = some g → S g) (h2 : ∀ b, b < w.heap.size → Apt e B w b → S b) : ROn C S w v es := by
  obtain ⟨raw, ho, hm⟩ := h
  rcases ho.2 with ⟨rfl, h0⟩ | ⟨g, cap, cur, rfl, hg, hh, hnc, hmx, hs, ht⟩
  · have : es = [] := List.eq_nil_of_length_eq_zero h0
    subst this
    exact ROn.nil_ _ _
  · refine ⟨some ⟨g, 0, none⟩, cap, raw, rfl, hnc, hmx, (fun h => by cases h), hm.keep (Kep.refl _ _) h2, .inr ⟨g, 0, rfl, (Array.getElem?_eq_some_iff.1 hh).1, h1 g rfl, fun j u hj => ?_⟩⟩
    have := Lib.cells_of_row hh (es.length * C.size) j u (by rw [ht]; exact hj)
    rw [add_at] at this
    exact this
theorem OwnC.any {e : TypeId} {B : Nat} {w : World} {v : Value} {es : List α} (h : OwnC C e B w v es) : RAny C w v es := h.ron (fun _ _ => trivial) (fun _ _ _ => trivial)
theorem OwnC.shape {e : TypeId} {B : Nat} {w : World} {v : Value} {es : List α} (h : OwnC C e B w v es) : ∃ p cap, v = .slice p es.length cap ∧ es.length ≤ cap ∧ cap ≤ maxLen ∧ (p = none → cap = 0) := ROn.shape h.any
theorem OwnC.lt {e : TypeId} {B : Nat} {w : World} {v : Value} {es : List α} (h : OwnC C e B w v es) : ∀ k, v.ownBlock = some k → B ≤ k ∧ k < w.heap.size := fun k hk => by obtain ⟨raw, h1, _⟩ := h; exact World.ownsRow.lt h1 k hk
theorem lit_cells (w : World) (vs : List Value) (e : TypeId) : ∀ j u, vs[j]? = some u → (w.alloc (.cells vs.toArray e)).cell? ((⟨w.heap.size, 0, none⟩ : Addr).add j) = some u := fun j u hj => by
  rw [add_at, Nat.zero_add, cell_of_row _ _ j _ _ _ (heap_alloc_new w (.cells vs.toArray e))]
  simpa using hj
variable (C)
/-- What a program says of a slice type and its elements' type: the facts that an append asks. -/
structure Elem (P : Program) (T e : TypeId) (bytes : Nat) : Prop where
  under : P.underlying T = some (.slice e)
  info : ∃ i z, P.info? e = some i ∧ i.zero = some z ∧ i.size = C.size ∧ i.bytes = bytes ∧ z.cells.size = C.size
variable {C}
/-- append(row, x), as a step. -/
theorem wp_append_c {P : Program} {T e : TypeId} {bytes : Nat} (E : Elem C P T e bytes) {w : World} {o : Oper} {a : Act} {K : Act → World → Prop} {Q : Exit → Act → World → Prop} (s x : Operand)
    (ho : o.op = .call { callee := .builtin .append, args := #[s, x], argTypes := #[T, T] }) (B : Nat) (v : Value) (es : List α) (w0 : World) (vs : List Value) (d : α) (hw : w = w0.alloc (.cells vs.toArray e)) (hs : a.eval s = v) (hown : OwnC C e B w0 v es)
    (hd : C.on (Apt e B w0) w0 vs d) (hx : a.eval x = .slice (some ⟨w0.heap.size, 0, none⟩) 1 1) (hlen : es.length + 1 ≤ maxLen) (hby : (es.length + 1) * bytes ≤ 140737488355328) (hbase : B ≤ w0.heap.size)
    (h : ∀ v' w', OwnC C e B w' v' (es ++ [d]) → Below B w0 w' → Kep (fun k => v.ownBlock ≠ some k) w w' → K (a.put o.dst v') w') : o.wp P a w K Q := by
  subst hw
  have hb0 : Below w0.heap.size w0 (w0.alloc (.cells vs.toArray e)) := (Below.refl _ _).alloc (Nat.le_refl _) _
  obtain ⟨i, z, hi, hz, hsz, hbt, hzs⟩ := E.info
  obtain ⟨raw, h1, h2⟩ := hown.alloc (.cells vs.toArray e)
  have hd2 : C.on (Apt e B (w0.alloc (.cells vs.toArray e))) (w0.alloc (.cells vs.toArray e)) vs d := C.keep hd (kep_below _ hb0) fun b hlt hA => apt_keep hA (hb0.block b hlt)
  have hlo : ∀ k, v.ownBlock = some k → B ≤ k := fun k hk => (World.ownsRow.lt h1 k hk).1
  have hl := C.len hd
  refine wp_append_own _ s x T ho B e i z C.size bytes E.under hi hz hsz hbt hzs C.pos v es.length _ hs h1 ⟨w0.heap.size, 0, none⟩ 1 1 vs hx (by rw [hl, Nat.one_mul]) (lit_cells w0 vs e) (C.one hd) hlen hby (by simp; omega) (fun v' w' h3 hg _ => ?_)
  have hb : Below B (w0.alloc (.cells vs.toArray e)) w' := (Below.refl B _).grown hg (by simp; omega) hlo
  have hk : Kep (Apt e B (w0.alloc (.cells vs.toArray e))) (w0.alloc (.cells vs.toArray e)) w' := kep_grown hg fun k hk hA => apt_not_own h1 hA hk
  refine h v' w' ⟨raw ++ [vs], ?_, ?_⟩ ((hb0.mono hbase).trans hb) (kep_grown hg fun k hk hne => hne hk)
  · rw [List.length_append, List.flatten_append, List.flatten_singleton]
    exact h3
  · exact (h2.append (Mean.single hd2)).keep hk fun b hlt hA => apt_keep hA (hk.block b hlt hA)
/-- append(row, x). -/
theorem wpList_append_c {P : Program} {T e : TypeId} {bytes : Nat} (E : Elem C P T e bytes) {w : World} {ops : Array Oper} {rest : List Oper} {o : Oper} {a : Act} {Q : Exit → Act → World → Prop} (hgd : o.guard = none) (s x : Operand)
    (ho : o.op = .call { callee := .builtin .append, args := #[s, x], argTypes := #[T, T] }) (B : Nat) (v : Value) (es : List α) (w0 : World) (vs : List Value) (d : α) (hw : w = w0.alloc (.cells vs.toArray e)) (hs : a.eval s = v) (hown : OwnC C e B w0 v es)
    (hd : C.on (Apt e B w0) w0 vs d) (hx : a.eval x = .slice (some ⟨w0.heap.size, 0, none⟩) 1 1) (hlen : es.length + 1 ≤ maxLen) (hby : (es.length + 1) * bytes ≤ 140737488355328) (hbase : B ≤ w0.heap.size)
    (h : ∀ v' w', OwnC C e B w' v' (es ++ [d]) → Below B w0 w' → Kep (fun k => v.ownBlock ≠ some k) w w' → wpList P ops Q rest (a.put o.dst v') w') : wpList P ops Q (o :: rest) a w :=
  wpList_plain hgd fun _ hK => wp_append_c E s x ho B v es w0 vs d hw hs hown hd hx hlen hby hbase fun v' w' h1 h2 h3 => hK _ _ (h v' w' h1 h2 h3)
/-- append(row, xs...), as a step: the source is any row that lies apart. -/
theorem wp_append_cs {P : Program} {T e : TypeId} {bytes : Nat} (E : Elem C P T e bytes) {w : World} {o : Oper} {a : Act} {K : Act → World → Prop} {Q : Exit → Act → World → Prop} (s x : Operand)
    (ho : o.op = .call { callee := .builtin .append, args := #[s, x], argTypes := #[T, T] }) (B : Nat) (v : Value) (es : List α) (hs : a.eval s = v) (hown : OwnC C e B w v es)
    (p : Option Addr) (m c : Nat) (raw2 : List (List Value)) (ds : List α) (hx : a.eval x = .slice p m c) (hmd : m = ds.length) (hp : ds = [] → p = none → c = 0) (hm : Mean C (Apt e B w) w raw2 ds)
    (hsrc : ds ≠ [] → ∃ b off, p = some ⟨b, off, none⟩ ∧ ∀ j u, raw2.flatten[j]? = some u → w.cell? ⟨b, off + j, none⟩ = some u) (hne : p ≠ none) (hlen : es.length + ds.length ≤ maxLen) (hby : (es.length + ds.length) * bytes ≤ 140737488355328) (hbase : B ≤ w.heap.size)
    (h : ∀ v' w', OwnC C e B w' v' (es ++ ds) → Below B w w' → Kep (fun k => v.ownBlock ≠ some k) w w' → K (a.put o.dst v') w') : o.wp P a w K Q := by
  obtain ⟨i, z, hi, hz, hsz, hbt, hzs⟩ := E.info
  obtain ⟨raw, h1, h2⟩ := hown
  have hlo : ∀ k, v.ownBlock = some k → B ≤ k := fun k hk => (World.ownsRow.lt h1 k hk).1
  obtain ⟨ad, rfl⟩ := Option.ne_none_iff_exists'.1 hne
  have hl : raw2.flatten.length = m * C.size := by rw [flat_len hm.lens, hm.1, hmd]
  refine wp_append_own _ s x T ho B e i z C.size bytes E.under hi hz hsz hbt hzs C.pos v es.length _ hs h1 ad m c raw2.flatten hx hl ?_ hm.ones (by omega) (by rw [hmd]; exact hby) hbase (fun v' w' h3 hg _ => ?_)
  · intro j u hj
    by_cases h0 : ds = []
    · subst h0
      have : raw2 = [] := List.eq_nil_of_length_eq_zero (by rw [hm.1]; rfl)
      subst this
      simp at hj
    · obtain ⟨b, off, he, hc⟩ := hsrc h0
      obtain rfl : ad = ⟨b, off, none⟩ := Option.some.inj he
      rw [add_at]
      exact hc j u hj
  · have hb : Below B w w' := (Below.refl B _).grown hg hbase hlo
    have hk : Kep (Apt e B w) w w' := kep_grown hg fun k hk hA => apt_not_own h1 hA hk
    refine h v' w' ⟨raw ++ raw2, ?_, ?_⟩ hb (kep_grown hg fun k hk hne => hne hk)
    · rw [List.length_append, List.flatten_append, ← hmd]
      exact h3
    · exact (h2.append hm).keep hk fun b hlt hA => apt_keep hA (hk.block b hlt hA)
end
end Go.Proofs.Ytgacfihidpijeaa.MM
set_option linter.unusedVariables false
namespace Go.Proofs.Ytgacfihidpijeaa.EM
open Go
open Go.Proofs.Ytgacfihidpijeaa.TK (wordsB)

/-! ### which text stands ahead -/
def lessL : List UInt8 → List UInt8 → Bool
  | [], [] => false
  | [], _ :: _ => true
  | _ :: _, [] => false
  | a :: x, b :: y => if a = b then lessL x y else decide (a.toNat < b.toNat)
theorem lessL_irr : ∀ x, lessL x x = false
  | [] => rfl
  | a :: x => by rw [lessL, if_pos rfl, lessL_irr x]
theorem lessL_trans : ∀ {x y z}, lessL x y = true → lessL y z = true → lessL x z = true
  | [], [], _, h, _ => by simp [lessL] at h
  | [], _ :: _, [], _, h => by simp [lessL] at h
  | [], _ :: _, _ :: _, _, _ => rfl
  | _ :: _, [], _, h, _ => by simp [lessL] at h
  | _ :: _, _ :: _, [], _, h => by simp [lessL] at h
  | a :: x, b :: y, c :: z, h1, h2 => by
    rw [lessL] at h1 h2 ⊢
    by_cases e1 : a = b
    · subst e1
      rw [if_pos rfl] at h1
      by_cases e2 : a = c
      · subst e2
        rw [if_pos rfl] at h2 ⊢
        exact lessL_trans h1 h2
      · rw [if_neg e2] at h2 ⊢
        exact h2
    · rw [if_neg e1] at h1
      have h1' := of_decide_eq_true h1
      by_cases e2 : b = c
      · subst e2
        rw [if_neg e1]
        exact h1
      · rw [if_neg e2] at h2
        have h2' := of_decide_eq_true h2
        have e3 : a ≠ c := by rintro rfl; omega
        rw [if_neg e3]
        exact decide_eq_true (by omega)
theorem lessL_total : ∀ {x y}, lessL x y = false → x ≠ y → lessL y x = true
  | [], [], _, h => absurd rfl h
  | [], _ :: _, h, _ => by simp [lessL] at h
  | _ :: _, [], _, _ => rfl
  | a :: x, b :: y, h, hn => by
    rw [lessL] at h ⊢
    by_cases e : a = b
    · subst e
      rw [if_pos rfl] at h ⊢
      exact lessL_total h (fun e2 => hn (by rw [e2]))
    · rw [if_neg e] at h
      rw [if_neg (fun e2 => e e2.symm)]
      have h' := of_decide_eq_false h
      have : a.toNat ≠ b.toNat := fun e2 => e (UInt8.toNat_inj.1 e2)
      exact decide_eq_true (by omega)
theorem lessL_ne {x y : List UInt8} (h : lessL x y = true) : x ≠ y := by rintro rfl; rw [lessL_irr] at h; cases h
theorem lessL_asym {x y : List UInt8} (h : lessL x y = true) : lessL y x = false := by
  cases hh : lessL y x with
  | false => rfl
  | true => have := lessL_trans h hh; rw [lessL_irr] at this; cases this
/-- .. as '<' of two texts tells it (the walk spells 'Op.bytesLess s.toList t.toList'). -/
theorem less_bytes : ∀ x y, Op.bytesLess x y = lessL x y
  | [], [] => by simp [Op.bytesLess, lessL]
  | [], _ :: _ => by simp [Op.bytesLess, lessL]
  | _ :: _, [] => by simp [Op.bytesLess, lessL]
  | a :: x, b :: y => by
    rw [Op.bytesLess, lessL, less_bytes x y]
    by_cases e : a = b
    · subst e
      simp
    · have : a.toNat ≠ b.toNat := fun e2 => e (UInt8.toNat_inj.1 e2)
      simp [e, UInt8.lt_iff_toNat_lt]
/-- .. as a loop over both texts tells it. -/
theorem lessL_drop {x y : List UInt8} {i : Nat} (hx : i < x.length) (hy : i < y.length) : lessL (x.drop i) (y.drop i) = if x[i] = y[i] then lessL (x.drop (i + 1)) (y.drop (i + 1)) else decide (x[i].toNat < y[i].toNat) := by
  rw [List.drop_eq_getElem_cons hx, List.drop_eq_getElem_cons hy, lessL]
theorem lessL_end {x y : List UInt8} {i : Nat} (h : x.length ≤ i ∨ y.length ≤ i) (hi : i ≤ x.length) (hj : i ≤ y.length) : lessL (x.drop i) (y.drop i) = decide (x.length < y.length) := by
  rcases h with h | h
  · rw [List.drop_of_length_le h]
    cases hd : y.drop i with
    | nil =>
      have := congrArg List.length hd
      rw [List.length_drop] at this
      simp at this
      rw [lessL]
      exact (decide_eq_false (by omega)).symm
    | cons c r =>
      have := congrArg List.length hd
      rw [List.length_drop] at this
      simp at this
      rw [lessL]
      exact (decide_eq_true (by omega)).symm
  · rw [List.drop_of_length_le (l := y) h]
    cases hd : x.drop i with
    | nil =>
      have := congrArg List.length hd
      rw [List.length_drop] at this
      simp at this
      rw [lessL]
      exact (decide_eq_false (by omega)).symm
    | cons c r =>
      rw [lessL]
      exact (decide_eq_false (by omega)).symm

/-! ### terms -/
/-- A text with what stands of it. -/
abbrev Tr (α : Type) := List UInt8 × List α
abbrev Trm := Tr Int
variable {α : Type}
/-- A place more of a term. -/
def addP : List (Tr α) → List UInt8 → α → List (Tr α)
  | [], s, p => [(s, [p])]
  | t :: r, s, p => if lessL t.1 s = true then t :: addP r s p else if t.1 = s then (s, t.2 ++ [p]) :: r else (s, [p]) :: t :: r
theorem addP_hit : ∀ {l : List (Tr α)} {s : List UInt8} {k : Nat} (p : α) (hk : k < l.length), (∀ j (hj : j < l.length), j < k → lessL l[j].1 s = true) → l[k].1 = s →
    addP l s p = l.take k ++ (s, l[k].2 ++ [p]) :: l.drop (k + 1)
  | [], s, k, p, hk, _, _ => by simp at hk
  | t :: r, s, 0, p, _, _, h => by
    simp only [List.getElem_cons_zero] at h
    rw [addP, if_neg (by rw [h, lessL_irr]; exact Bool.false_ne_true), if_pos h]
    simp
  | t :: r, s, k + 1, p, hk, h1, h2 => by
    have ht := h1 0 (by simp) (by omega)
    simp only [List.getElem_cons_zero] at ht
    rw [addP, if_pos ht, addP_hit (l := r) (s := s) (k := k) p (by simpa using hk) (fun j hj hjk => h1 (j + 1) (Nat.succ_lt_succ hj) (by omega)) (by simpa using h2)]
    simp
theorem addP_miss : ∀ {l : List (Tr α)} {s : List UInt8} {k : Nat} (p : α), k ≤ l.length → (∀ j (hj : j < l.length), j < k → lessL l[j].1 s = true) → (∀ hk : k < l.length, lessL l[k].1 s = false ∧ l[k].1 ≠ s) →
    addP l s p = l.take k ++ (s, [p]) :: l.drop k
  | [], s, k, p, hk, _, _ => by
    have : k = 0 := by simpa using hk
    subst this
    simp [addP]
  | t :: r, s, 0, p, _, _, h => by
    have h0 := h (by simp)
    simp only [List.getElem_cons_zero] at h0
    rw [addP, if_neg (by rw [h0.1]; exact Bool.false_ne_true), if_neg h0.2]
    simp
  | t :: r, s, k + 1, p, hk, h1, h2 => by
    have ht := h1 0 (by simp) (by omega)
    simp only [List.getElem_cons_zero] at ht
    rw [addP, if_pos ht, addP_miss (l := r) (s := s) (k := k) p (by simpa using hk) (fun j hj hjk => h1 (j + 1) (Nat.succ_lt_succ hj) (by omega)) (fun hk => h2 (Nat.succ_lt_succ hk))]
    simp
def foldP (l : List (Tr α)) (qs : List (List UInt8 × α)) : List (Tr α) := qs.foldl (fun l q => addP l q.1 q.2) l
theorem foldP_nil (l : List (Tr α)) : foldP l [] = l := rfl
theorem foldP_append (l : List (Tr α)) (a b : List (List UInt8 × α)) : foldP l (a ++ b) = foldP (foldP l a) b := by simp [foldP]
theorem foldP_one (l : List (Tr α)) (s : List UInt8) (p : α) : foldP l [(s, p)] = addP l s p := rfl
/-- A field's words with their places, from the base on. -/
def pairsW (n : List UInt8) (ws : List (List UInt8)) (base : Int) : List (List UInt8 × Int) := ws.zipIdx.map fun p => (n ++ 58 :: p.1, base + (p.2 : Int))
theorem pairsW_next (n : List UInt8) {ws : List (List UInt8)} {k : Nat} (hk : k < ws.length) (base : Int) : pairsW n (ws.take (k + 1)) base = pairsW n (ws.take k) base ++ [(n ++ 58 :: ws[k], base + (k : Int))] := by
  unfold pairsW
  rw [List.take_succ_eq_append_getElem hk, List.zipIdx_append, List.map_append]
  simp [Nat.min_eq_left (Nat.le_of_lt hk)]
def pairsF : Int → List Fld → List (List UInt8 × Int)
  | _, [] => []
  | base, f :: r => pairsW f.1 (wordsB f.2) base ++ pairsF (base + ((wordsB f.2).length : Int) + 64) r
/-- The base of the field behind the first k. -/
def baseF (fs : List Fld) : Int := (fs.map fun f => ((wordsB f.2).length : Int) + 64).sum
theorem baseF_next {fs : List Fld} {k : Nat} (hk : k < fs.length) : baseF (fs.take (k + 1)) = baseF (fs.take k) + ((wordsB fs[k].2).length : Int) + 64 := by
  unfold baseF
  rw [List.take_succ_eq_append_getElem hk, List.map_append, List.sum_append]
  simp
  omega
theorem pairsF_append : ∀ (a b : List Fld) (base : Int), pairsF base (a ++ b) = pairsF base a ++ pairsF (base + baseF a) b
  | [], b, base => by simp [pairsF, baseF]
  | f :: a, b, base => by
    rw [List.cons_append, pairsF, pairsF, pairsF_append a b, List.append_assoc]
    congr 3
    simp [baseF]
    omega
theorem pairsF_next {fs : List Fld} {k : Nat} (hk : k < fs.length) : pairsF 0 (fs.take (k + 1)) = pairsF 0 (fs.take k) ++ pairsW fs[k].1 (wordsB fs[k].2) (baseF (fs.take k)) := by
  rw [List.take_succ_eq_append_getElem hk, pairsF_append, pairsF, pairsF, List.append_nil, Int.zero_add]
def termsF (fs : List Fld) : List Trm := foldP [] (pairsF 0 fs)
def termsE (e : Ev) : List Trm := if checkE e ≠ 0 then [] else termsF e.2

/-! ### rising, once each -/
def Rising (l : List (Tr α)) : Prop := l.Pairwise fun a b => lessL a.1 b.1 = true
theorem addP_mem : ∀ {l : List (Tr α)} {s : List UInt8} {p : α} {t : Tr α}, t ∈ addP l s p → t.1 = s ∨ ∃ u ∈ l, u.1 = t.1
  | [], s, p, t, h => by simp [addP] at h; exact .inl (by rw [h])
  | u :: r, s, p, t, h => by
    rw [addP] at h
    split at h
    · rcases List.mem_cons.1 h with rfl | h
      · exact .inr ⟨t, by simp, rfl⟩
      · rcases addP_mem h with h | ⟨v, hv, he⟩
        · exact .inl h
        · exact .inr ⟨v, by simp [hv], he⟩
    · split at h
      · rcases List.mem_cons.1 h with rfl | h
        · exact .inl rfl
        · exact .inr ⟨t, by simp [h], rfl⟩
      · rcases List.mem_cons.1 h with rfl | h
        · exact .inl rfl
        · exact .inr ⟨t, by simpa using h, rfl⟩
theorem addP_rising : ∀ {l : List (Tr α)} (s : List UInt8) (p : α), Rising l → Rising (addP l s p)
  | [], s, p, _ => by simp [addP, Rising]
  | t :: r, s, p, h => by
    unfold Rising at h ⊢
    rw [addP]
    rw [List.pairwise_cons] at h
    split
    · rename_i ht
      rw [List.pairwise_cons]
      refine ⟨fun u hu => ?_, addP_rising s p h.2⟩
      rcases addP_mem hu with hu | ⟨v, hv, he⟩
      · rw [hu]; exact ht
      · rw [← he]; exact h.1 v hv
    · split
      · rename_i h1 h2
        rw [List.pairwise_cons]
        exact ⟨fun u hu => by rw [← h2]; exact h.1 u hu, h.2⟩
      · rename_i h1 h2
        have hs : lessL s t.1 = true := lessL_total (by simpa using h1) h2
        rw [List.pairwise_cons, List.pairwise_cons]
        refine ⟨fun u hu => ?_, h.1, h.2⟩
        rcases List.mem_cons.1 hu with rfl | hu
        · exact hs
        · exact lessL_trans hs (h.1 u hu)
theorem foldP_rising : ∀ (qs : List (List UInt8 × α)) {l : List (Tr α)}, Rising l → Rising (foldP l qs)
  | [], _, h => h
  | q :: qs, l, h => foldP_rising qs (addP_rising q.1 q.2 h)
/-- A term's places. -/
def posOf : List (Tr α) → List UInt8 → List α
  | [], _ => []
  | t :: r, s => if t.1 = s then t.2 else posOf r s
theorem posOf_none : ∀ {l : List (Tr α)} {s : List UInt8}, (∀ t ∈ l, t.1 ≠ s) → posOf l s = []
  | [], _, _ => rfl
  | t :: r, s, h => by
    rw [posOf, if_neg (h t (by simp))]
    exact posOf_none fun u hu => h u (by simp [hu])
theorem posOf_add : ∀ {l : List (Tr α)} (s : List UInt8) (p : α) (x : List UInt8), Rising l → posOf (addP l s p) x = if x = s then posOf l s ++ [p] else posOf l x
  | [], s, p, x, _ => by
    simp only [addP, posOf]
    by_cases h : s = x
    · subst h; simp
    · rw [if_neg h, if_neg (fun e => h e.symm)]
  | t :: r, s, p, x, h => by
    unfold Rising at h
    rw [List.pairwise_cons] at h
    rw [addP]
    split
    · rename_i ht
      have hne := lessL_ne ht
      rw [posOf, posOf_add s p x h.2]
      by_cases hx : x = s
      · subst hx
        rw [if_neg hne, if_pos rfl, if_pos rfl, posOf, if_neg hne]
      · rw [if_neg hx, if_neg hx, posOf]
    · split
      · rename_i h1 h2
        by_cases hx : x = s
        · subst hx
          simp only [posOf, h2, if_true]
        · simp only [posOf]
          rw [if_neg (fun e => hx e.symm), if_neg hx, if_neg (fun e => hx (by rw [← h2, e]))]
      · rename_i h1 h2
        by_cases hx : x = s
        · subst hx
          have hs : lessL x t.1 = true := lessL_total (by simpa using h1) h2
          have hn : posOf (t :: r) x = [] := posOf_none fun u hu e => by
            rcases List.mem_cons.1 hu with rfl | hu
            · exact h2 e
            · have := lessL_trans hs (h.1 u hu)
              rw [e] at this
              exact lessL_ne this rfl
          rw [posOf, if_pos rfl, if_pos rfl, hn]
          rfl
        · rw [posOf, if_neg (fun e => hx e.symm), if_neg hx]
theorem posOf_fold : ∀ (qs : List (List UInt8 × α)) {l : List (Tr α)} (x : List UInt8), Rising l → posOf (foldP l qs) x = posOf l x ++ (qs.filter (fun q => q.1 = x)).map (·.2)
  | [], l, x, _ => by simp [foldP]
  | q :: qs, l, x, h => by
    have e : foldP l (q :: qs) = foldP (addP l q.1 q.2) qs := rfl
    rw [e, posOf_fold qs x (addP_rising _ _ h), posOf_add _ _ _ h]
    by_cases hx : x = q.1
    · subst hx
      simp
    · rw [if_neg hx, List.filter_cons_of_neg (by simpa using fun e => hx e.symm)]
theorem termsF_pos (fs : List Fld) (x : List UInt8) : posOf (termsF fs) x = ((pairsF 0 fs).filter (fun q => q.1 = x)).map (·.2) := by
  unfold termsF
  rw [posOf_fold _ _ (by simp [Rising])]
  rfl
theorem termsF_rising (fs : List Fld) : Rising (termsF fs) := foldP_rising _ (by simp [Rising])
theorem addP_ne : ∀ {l : List (Tr α)} (s : List UInt8) (p : α), (∀ t ∈ l, t.2 ≠ []) → ∀ t ∈ addP l s p, t.2 ≠ []
  | [], s, p, _ => by simp [addP]
  | u :: r, s, p, h => by
    intro t ht
    rw [addP] at ht
    split at ht
    · rcases List.mem_cons.1 ht with rfl | ht
      · exact h t (by simp)
      · exact addP_ne s p (fun v hv => h v (by simp [hv])) t ht
    · split at ht
      · rcases List.mem_cons.1 ht with rfl | ht
        · simp
        · exact h t (by simp [ht])
      · rcases List.mem_cons.1 ht with rfl | ht
        · simp
        · exact h t (by simpa using ht)
theorem foldP_ne : ∀ (qs : List (List UInt8 × α)) {l : List (Tr α)}, (∀ t ∈ l, t.2 ≠ []) → ∀ t ∈ foldP l qs, t.2 ≠ []
  | [], _, h => h
  | q :: qs, l, h => foldP_ne qs (addP_ne q.1 q.2 h)
theorem termsF_ne (fs : List Fld) : ∀ t ∈ termsF fs, t.2 ≠ [] := foldP_ne _ (by simp)
/-- Rising rows of terms that have the same places are the same. -/
theorem rising_unique : ∀ {a b : List (Tr α)}, Rising a → Rising b → (∀ t ∈ a, t.2 ≠ []) → (∀ t ∈ b, t.2 ≠ []) → (∀ x, posOf a x = posOf b x) → a = b
  | [], [], _, _, _, _, _ => rfl
  | [], t :: r, _, _, _, h2, h => by
    have := h t.1
    rw [posOf, posOf, if_pos rfl] at this
    exact absurd this.symm (h2 t (by simp))
  | t :: r, [], _, _, h1, _, h => by
    have := h t.1
    rw [posOf, posOf, if_pos rfl] at this
    exact absurd this (h1 t (by simp))
  | t :: r, u :: q, ha, hb, h1, h2, h => by
    unfold Rising at ha hb
    rw [List.pairwise_cons] at ha hb
    have none_a : ∀ x, lessL x t.1 = true → posOf (t :: r) x = [] := fun x hx => posOf_none fun v hv e => by
      rcases List.mem_cons.1 hv with rfl | hv
      · rw [e] at hx; exact lessL_ne hx rfl
      · have := lessL_trans hx (ha.1 v hv); rw [e] at this; exact lessL_ne this rfl
    have none_b : ∀ x, lessL x u.1 = true → posOf (u :: q) x = [] := fun x hx => posOf_none fun v hv e => by
      rcases List.mem_cons.1 hv with rfl | hv
      · rw [e] at hx; exact lessL_ne hx rfl
      · have := lessL_trans hx (hb.1 v hv); rw [e] at this; exact lessL_ne this rfl
    have e1 : t.1 = u.1 := by
      apply Classical.byContradiction
      intro hn
      cases hl : lessL t.1 u.1 with
      | true =>
        have h3 := h t.1
        rw [none_b t.1 hl, posOf, if_pos rfl] at h3
        exact h1 t (by simp) h3
      | false =>
        have h3 := h u.1
        rw [none_a u.1 (lessL_total hl hn)] at h3
        rw [posOf, if_pos rfl] at h3
        exact h2 u (by simp) h3.symm
    have e2 : t.2 = u.2 := by
      have h3 := h t.1
      rw [posOf, if_pos rfl, posOf, if_pos e1.symm] at h3
      exact h3
    have e3 : t = u := Prod.ext e1 e2
    subst e3
    have hr : r = q := rising_unique ha.2 hb.2 (fun v hv => h1 v (by simp [hv])) (fun v hv => h2 v (by simp [hv])) (fun x => by
      have h3 := h x
      rw [posOf, posOf] at h3
      by_cases hx : t.1 = x
      · subst hx
        rw [posOf_none fun v hv e => by have := ha.1 v hv; rw [e] at this; exact lessL_ne this rfl, posOf_none fun v hv e => by have := hb.1 v hv; rw [e] at this; exact lessL_ne this rfl]
      · rw [if_neg hx, if_neg hx] at h3
        exact h3)
    rw [hr]

/-! ### apart -/
def placesT (l : List (Tr α)) : List α := l.flatMap (·.2)
theorem addP_perm : ∀ (l : List (Tr α)) (s : List UInt8) (p : α), (placesT (addP l s p)).Perm (placesT l ++ [p])
  | [], s, p => by simp [addP, placesT]
  | t :: r, s, p => by
    rw [addP]
    split
    · show (t.2 ++ placesT (addP r s p)).Perm ((t.2 ++ placesT r) ++ [p])
      rw [List.append_assoc]
      exact List.Perm.append_left _ (addP_perm r s p)
    · split
      · show ((t.2 ++ [p]) ++ placesT r).Perm ((t.2 ++ placesT r) ++ [p])
        rw [List.append_assoc, List.append_assoc]
        exact List.Perm.append_left _ List.perm_append_comm
      · show ([p] ++ (t.2 ++ placesT r)).Perm ((t.2 ++ placesT r) ++ [p])
        exact List.perm_append_comm
theorem foldP_perm : ∀ (qs : List (List UInt8 × α)) (l : List (Tr α)), (placesT (foldP l qs)).Perm (placesT l ++ qs.map (·.2))
  | [], l => by simp [foldP]
  | q :: qs, l => by
    have e : foldP l (q :: qs) = foldP (addP l q.1 q.2) qs := rfl
    rw [e]
    refine (foldP_perm qs _).trans ?_
    refine (List.Perm.append_right _ (addP_perm l q.1 q.2)).trans ?_
    rw [List.append_assoc]
    exact List.Perm.refl _
/-- All places of fields. -/
def allF (fs : List Fld) : List Int := (pairsF 0 fs).map (·.2)
theorem termsF_perm (fs : List Fld) : (placesT (termsF fs)).Perm (allF fs) := by
  exact foldP_perm (pairsF 0 fs) []
theorem pairsW_snd (n : List UInt8) (ws : List (List UInt8)) (base : Int) : (pairsW n ws base).map (·.2) = (List.range ws.length).map (fun k : Nat => base + (k : Int)) := by
  apply List.ext_getElem
  · simp [pairsW]
  · intro i h1 h2
    simp [pairsW]
theorem pairsF_bounds : ∀ (fs : List Fld) (base : Int), ∀ v ∈ (pairsF base fs).map (·.2), base ≤ v
  | [], base, v, h => by simp [pairsF] at h
  | f :: r, base, v, h => by
    rw [pairsF, List.map_append, List.mem_append, pairsW_snd] at h
    rcases h with h | h
    · obtain ⟨k, _, rfl⟩ := List.mem_map.1 h
      omega
    · have := pairsF_bounds r _ v h
      omega
theorem pairsF_rise : ∀ (fs : List Fld) (base : Int), ((pairsF base fs).map (·.2)).Pairwise (· < ·)
  | [], base => by simp [pairsF]
  | f :: r, base => by
    rw [pairsF, List.map_append, List.pairwise_append, pairsW_snd]
    refine ⟨?_, pairsF_rise r _, ?_⟩
    · rw [List.pairwise_map]
      exact List.pairwise_lt_range.imp fun h => by omega
    · intro a ha b hb
      obtain ⟨k, hk, rfl⟩ := List.mem_map.1 ha
      have := pairsF_bounds r _ b hb
      have := List.mem_range.1 hk
      omega
theorem allF_nodup (fs : List Fld) : (allF fs).Nodup := (pairsF_rise fs 0).imp fun h => by omega
theorem allF_mem {fs : List Fld} {i k : Nat} (hi : i < fs.length) (hk : k < (wordsB fs[i].2).length) : baseF (fs.take i) + (k : Int) ∈ allF fs := by
  unfold allF
  have e : pairsF 0 fs = pairsF 0 (fs.take (i + 1)) ++ pairsF (0 + baseF (fs.take (i + 1))) (fs.drop (i + 1)) := by rw [← pairsF_append, List.take_append_drop]
  have h := pairsF_next hi
  rw [e, h, List.map_append, List.map_append, pairsW_snd]
  simp only [List.mem_append]
  exact .inl (.inr (List.mem_map.2 ⟨k, by simpa using hk, rfl⟩))
theorem count_one : ∀ {l : List Int} {v : Int}, l.Nodup → v ∈ l → l.count v = 1
  | [], v, _, h => by simp at h
  | a :: r, v, hn, h => by
    rw [List.nodup_cons] at hn
    by_cases e : a = v
    · subst e
      rw [List.count_cons_self, List.count_eq_zero.2 hn.1]
    · rw [List.count_cons_of_ne e]
      rcases List.mem_cons.1 h with rfl | h
      · exact absurd rfl e
      · exact count_one hn.2 h
/-- Each place is found once. -/
theorem places_once {fs : List Fld} {i k : Nat} (hi : i < fs.length) (hk : k < (wordsB fs[i].2).length) : (placesT (termsF fs)).count (baseF (fs.take i) + (k : Int)) = 1 := by
  rw [(termsF_perm fs).count_eq]
  exact count_one (allF_nodup fs) (allF_mem hi hk)
def wordsN (fs : List Fld) : Nat := (fs.map fun f => (wordsB f.2).length).sum
theorem wordsN_next {fs : List Fld} {k : Nat} (hk : k < fs.length) : wordsN (fs.take (k + 1)) = wordsN (fs.take k) + (wordsB fs[k].2).length := by
  unfold wordsN
  rw [List.take_succ_eq_append_getElem hk, List.map_append, List.sum_append]
  simp
theorem pairsF_len : ∀ (fs : List Fld) (base : Int), (pairsF base fs).length = wordsN fs
  | [], base => rfl
  | f :: r, base => by
    rw [pairsF, List.length_append, pairsF_len r]
    simp [pairsW, wordsN]
theorem places_len (fs : List Fld) : (placesT (termsF fs)).length = wordsN fs := by
  rw [(termsF_perm fs).length_eq]
  unfold allF
  rw [List.length_map, pairsF_len]
end Go.Proofs.Ytgacfihidpijeaa.EM
