/-
  Maps keyed by texts, whatever their elements: as functions of the keys; ranges over them. No condition. A region that draws its order, whose operations either yield one value in every world in which the blocks of a set stay, or (calls that make or write memory) stand alone: one order serves all. No condition. A row of bytes that grows by append: which blocks turn. Condition: rows stay below 2^47 bytes. A region that draws its order, as in RegK, whose last operations (a store, say) come one by one behind all others: what the others need to stay need not stay there. No condition. A block of two cells that is written; named results of which the first is such a block. No program of its own; no condition.
-/
import Derived.Test.YtgacfihidpijeaaZE10
import Derived.Maps.Own
import Derived.Maps.OwnOps
import Derived.Maps.OwnSet
import Derived.Maps.Views
import Derived.Maps.RangeWalk
import Derived.Sort.MapsRangeIn
import Derived.StringKeys
import Derived.OrdersHeld
import Derived.RegionTactic
import Derived.Below
import Derived.Test.YtgacfihidpijeaaZE4
import Derived.Deep.AppendLies
import Derived.StillTail
set_option linter.unusedVariables false
namespace Go.Proofs.Ytgacfihidpijeaa.SM
open Go Go.RowKit Go.Proofs.Ytgacfihidpijeaa.MM Go.Maps

/-! ### the map as a function -/
/-- An element reads as itself. -/
abbrev R0 : Value → Option (DataW Value × List MemPlace) := fun v => some (.held v, [])
theorem strKeyed : Keyed Try.prog 9 := string_keyed Try.underlying9
/-- Block mb is a map of m names, whose elements are F's. -/
def MapV (w : World) (mb m : Nat) (F : List UInt8 → Option Value) : Prop :=
  ∃ D : DataW Value, w.ownsMap Try.prog 9 R0 mb m D ∧ Maps.size D = m ∧ ∀ n, Maps.has D (.string n) = (F n).isSome ∧ ∀ v, F n = some v → ∀ z, D.atKey (.string n) z = .held v
theorem keyS (n : List UInt8) (hn : n.length ≤ maxLen) : keyOf Try.prog 9 (.string ⟨n.toArray⟩) = some (.string n) := Go.WideMaps.keyOf_string_mk (s := ⟨n.toArray⟩) Try.underlying9 (by rw [Lib.size_eq]; exact hn)
theorem MapV.lt {w : World} {mb m : Nat} {F : List UInt8 → Option Value} (h : MapV w mb m F) : mb < w.heap.size := by
  obtain ⟨D, hD, _⟩ := h
  exact hD.lt
theorem owns_kep {S : Nat → Prop} {w w' : World} {R : Value → Option (DataW Value × List MemPlace)} {mb m : Nat} {D : DataW Value} (h : w.ownsMap Try.prog 9 R mb m D) (hk : Kep S w w') (hS : S mb) : w'.ownsMap Try.prog 9 R mb m D := by
  have hlt := h.lt
  obtain ⟨es, clock, hb, F, hs, hD⟩ := h
  exact ⟨es, clock, (hk.block mb hlt hS).trans hb, F, hs, hD⟩
theorem MapV.kep {S : Nat → Prop} {w w' : World} {mb m : Nat} {F : List UInt8 → Option Value} (h : MapV w mb m F) (hk : Kep S w w') (hS : S mb) : MapV w' mb m F := by
  obtain ⟨D, hD, h2⟩ := h
  exact ⟨D, owns_kep hD hk hS, h2⟩
theorem MapV.below {w w' : World} {mb m : Nat} {F : List UInt8 → Option Value} (h : MapV w mb m F) (hb : Below w.heap.size w w') : MapV w' mb m F := h.kep (kep_below (fun _ => True) hb) trivial
theorem MapV.made (w : World) : MapV (w.alloc (.map #[] 0)) w.heap.size 0 (fun _ => none) :=
  ⟨.map [], World.ownsMap_made _ _ _ _, rfl, fun n => ⟨rfl, fun v h => by cases h⟩⟩
/-- It has no cells. -/
theorem MapV.obj {w : World} {mb m : Nat} {F : List UInt8 → Option Value} (h : MapV w mb m F) : ∃ es c, w.heap[mb]? = some (.map es c) := by
  obtain ⟨D, ⟨es, c, hb, _⟩, _⟩ := h
  exact ⟨es, c, hb⟩
theorem MapV.look_ok {T E : TypeId} (hT : Try.prog.underlying T = some (.map 9 E)) {Z : Value} (hZ : ∀ w, (zeroValue E).run Try.prog w = .ok Z w) {w : World} {mb m : Nat} {F : List UInt8 → Option Value} (h : MapV w mb m F) (n : List UInt8) (hn : n.length ≤ maxLen) :
    (Instr.lookup T (.map (some mb)) (.string ⟨n.toArray⟩) true).run Try.prog w = .ok (.tuple #[(F n).getD Z, .bool (F n).isSome]) w := by
  obtain ⟨D, hD, _, hF⟩ := h
  obtain ⟨v, ps, hrun, hv⟩ := World.ownsMap.look_ok hD strKeyed hT (hZ w) (zd := .held Z) (zp := []) rfl (keyS n hn)
  obtain ⟨h1, h2⟩ := hF n
  have hv : DataW.held v = D.atKey (.string n) (.held Z) := by
    simp only [R0, Option.some.injEq, Prod.mk.injEq] at hv
    exact hv.1
  rw [hrun, h1]
  cases hf : F n with
  | none =>
    rw [hf] at h1
    rw [atKey_of_not_has h1] at hv
    have hv := DataW.held.inj hv
    rw [hv]
    rfl
  | some u =>
    rw [h2 u hf] at hv
    have hv := DataW.held.inj hv
    rw [hv]
    rfl
theorem MapV.look {T E : TypeId} (hT : Try.prog.underlying T = some (.map 9 E)) {Z : Value} (hZ : ∀ w, (zeroValue E).run Try.prog w = .ok Z w) {w : World} {mb m : Nat} {F : List UInt8 → Option Value} (h : MapV w mb m F) (n : List UInt8) (hn : n.length ≤ maxLen) :
    (Instr.lookup T (.map (some mb)) (.string ⟨n.toArray⟩) false).run Try.prog w = .ok ((F n).getD Z) w := by
  obtain ⟨D, hD, _, hF⟩ := h
  obtain ⟨v, ps, hrun, hv⟩ := World.ownsMap.lookup hD strKeyed hT (hZ w) (zd := .held Z) (zp := []) rfl (keyS n hn)
  obtain ⟨h1, h2⟩ := hF n
  have hv : DataW.held v = D.atKey (.string n) (.held Z) := by
    simp only [R0, Option.some.injEq, Prod.mk.injEq] at hv
    exact hv.1
  rw [hrun]
  cases hf : F n with
  | none =>
    rw [hf] at h1
    rw [atKey_of_not_has h1] at hv
    have hv := DataW.held.inj hv
    rw [hv]
    rfl
  | some u =>
    rw [h2 u hf] at hv
    have hv := DataW.held.inj hv
    rw [hv]
    rfl
theorem MapV.len {T E : TypeId} (hT : Try.prog.underlying T = some (.map 9 E)) {w : World} {mb m : Nat} {F : List UInt8 → Option Value} (h : MapV w mb m F) (ty : TypeId) : (Builtin.len_ #[T] ty #[.map (some mb)]).run Try.prog w = .ok (.int .i64 (m : Int)) w := by
  obtain ⟨D, hD, hm, _⟩ := h
  have := hD.len hT ty
  rw [hm] at this
  exact this
theorem own_tight {w : World} {mb m : Nat} {D : DataW Value} (h : w.ownsMap Try.prog 9 R0 mb m D) : w.ownsMap Try.prog 9 R0 mb (Maps.size D) D := by
  obtain ⟨es, c, hb, F, hs, rfl⟩ := h
  exact ⟨es, c, hb, F, by simp [Maps.size, length_sorted], rfl⟩
theorem key_ne {n k : List UInt8} (h : n ≠ k) : (Lit.string n) ≠ Lit.string k := fun e => h (by injection e)
theorem MapV.put_of {w' : World} {mb m j : Nat} {F : List UInt8 → Option Value} {D : DataW Value} {n : List UInt8} {v : Value} (hT : Tidy D) (hm : Maps.size D = m) (hF : ∀ n, Maps.has D (.string n) = (F n).isSome ∧ ∀ v, F n = some v → ∀ z, D.atKey (.string n) z = .held v)
    (h : w'.ownsMap Try.prog 9 R0 mb j (D.put (.string n) (.held v))) : MapV w' mb (if (F n).isSome then m else m + 1) (fun k => if k = n then some v else F k) := by
  have hk : WideAt.IsKeyLit (.string n) := trivial
  have hs : Maps.size (D.put (.string n) (.held v)) = if (F n).isSome then m else m + 1 := by rw [size_put hT, (hF n).1, hm]
  refine ⟨_, hs ▸ own_tight h, hs, fun k => ?_⟩
  show Maps.has (D.put (.string n) (.held v)) (.string k) = (if k = n then some v else F k).isSome ∧ ∀ u, (if k = n then some v else F k) = some u → ∀ z, (D.put (.string n) (.held v)).atKey (.string k) z = .held u
  by_cases e : k = n
  · subst e
    rw [has_put_same hT.isMap hk]
    refine ⟨by simp, fun u hu z => ?_⟩
    rw [if_pos rfl] at hu
    have hu := Option.some.inj hu
    rw [atKey_put_same hT.isMap hk, hu]
  · rw [has_put_other (key_ne e), if_neg e]
    refine ⟨(hF k).1, fun u hu z => ?_⟩
    rw [atKey_put_other (key_ne e)]
    exact (hF k).2 u hu z
theorem turned_kep {w w' : World} {mb : Nat} (h : w.mapTurned w' mb) : Kep (fun k => k ≠ mb) w w' := kep_grown h.grown (fun k e hk => hk (by injection e with e; exact e.symm))
/-- 'm[n] = v', as a run. -/
theorem MapV.store {T E : TypeId} (hT : Try.prog.underlying T = some (.map 9 E)) {w : World} {mb m : Nat} {F : List UInt8 → Option Value} (h : MapV w mb m F) (n : List UInt8) (v : Value) (hn : n.length ≤ maxLen) (hm : m < maxLen) :
    ∃ w', (Instr.mapUpdate T (.map (some mb)) (.string ⟨n.toArray⟩) v).run Try.prog w = .ok () w' ∧ MapV w' mb (if (F n).isSome then m else m + 1) (fun k => if k = n then some v else F k) ∧ Kep (fun k => k ≠ mb) w w' := by
  obtain ⟨D, hD, hs, hF⟩ := h
  obtain ⟨w', hrun, h1, h2⟩ := World.ownsMap.store hD strKeyed hT hm (keyS n hn) (val := v) (d := .held v) (ps := []) rfl
  exact ⟨w', hrun, MapV.put_of (hD.tidy strKeyed) hs hF h1, turned_kep h2⟩
/-- 'delete(m, n)', as a run. -/
theorem MapV.drop {T E : TypeId} (hT : Try.prog.underlying T = some (.map 9 E)) {w : World} {mb m : Nat} {F : List UInt8 → Option Value} (h : MapV w mb m F) (n : List UInt8) (hn : n.length ≤ maxLen) (ty : TypeId) :
    ∃ w', (Builtin.delete_ #[T, 9] ty #[.map (some mb), .string ⟨n.toArray⟩]).run Try.prog w = .ok (.tuple #[]) w' ∧ MapV w' mb (if (F n).isSome then m - 1 else m) (fun k => if k = n then none else F k) ∧ Kep (fun k => k ≠ mb) w w' := by
  obtain ⟨D, hD, hs, hF⟩ := h
  obtain ⟨w', hrun, h1, h2⟩ := World.ownsMap.drop hD strKeyed hT (keyS n hn) ty
  have hT := hD.tidy strKeyed
  have hz : Maps.size (D.del (.string n)) = if (F n).isSome then m - 1 else m := by
    have := size_del (k := .string n) hT
    rw [(hF n).1, hs] at this
    cases hf : (F n).isSome <;> rw [hf] at this <;> simp at this ⊢ <;> omega
  refine ⟨w', hrun, ⟨_, hz ▸ own_tight h1, hz, fun k => ?_⟩, turned_kep h2⟩
  show Maps.has (D.del (.string n)) (.string k) = (if k = n then none else F k).isSome ∧ ∀ u, (if k = n then none else F k) = some u → ∀ z, (D.del (.string n)).atKey (.string k) z = .held u
  by_cases e : k = n
  · subst e
    rw [has_del_same, if_pos rfl]
    exact ⟨rfl, fun u hu => by cases hu⟩
  · rw [has_del_other (key_ne e), if_neg e]
    refine ⟨(hF k).1, fun u hu z => ?_⟩
    rw [atKey_del_other (key_ne e)]
    exact (hF k).2 u hu z
/-- 'm[n] = v' at the operation. -/
theorem wp_mapV_store {T E : TypeId} (hT : Try.prog.underlying T = some (.map 9 E)) {w : World} {o : Oper} {a : Act} {K : Act → World → Prop} {Q : Exit → Act → World → Prop} (x y z : Operand) (hop : o.op = Op.mapUpdate T x y z) (mb m : Nat) (F : List UInt8 → Option Value) (hx : a.eval x = .map (some mb)) (h : MapV w mb m F) (hm : m < maxLen)
    (n : List UInt8) (v : Value) (hy : a.eval y = .string ⟨n.toArray⟩) (hz : a.eval z = v) (hn : n.length ≤ maxLen)
    (hK : ∀ w', MapV w' mb (if (F n).isSome then m else m + 1) (fun k => if k = n then some v else F k) → Kep (fun k => k ≠ mb) w w' → K (a.put o.dst undef) w') : o.wp Try.prog a w K Q := by
  obtain ⟨w', hrun, h1, h2⟩ := MapV.store hT h n v hn hm
  unfold Oper.wp
  simp [execOp, hop, hx, hy, hz, hrun, Result.andThen]
  exact hK w' h1 h2

/-- A range over the map mb under way, by the iterator r: left: the names that are still to come. -/
def RangeV (w : World) (mb r m : Nat) (F : List UInt8 → Option Value) (left : List UInt8 → Bool) (cnt : Nat) : Prop :=
  ∃ (D : DataW Value) (lf : Lit → Bool), w.ranges Try.prog 9 R0 mb r m D lf cnt ∧ (∀ n, Maps.has D (.string n) = (F n).isSome ∧ ∀ v, F n = some v → ∀ z, D.atKey (.string n) z = .held v) ∧ ∀ n, left n = lf (.string n)
theorem RangeV.kep {S : Nat → Prop} {w w' : World} {mb r m : Nat} {F : List UInt8 → Option Value} {left : List UInt8 → Bool} {cnt : Nat} (h : RangeV w mb r m F left cnt) (hk : Kep S w w') (h1 : S mb) (h2 : S r) : RangeV w' mb r m F left cnt := by
  obtain ⟨D, lf, hr, h3⟩ := h
  have hb := hr.owns.lt
  have hl := hr.lt
  obtain ⟨es, clock, since, seen, c0, g1, g2, g3, g4, g5, rest⟩ := hr
  exact ⟨D, lf, ⟨es, clock, since, seen, c0, (hk.block mb hb h1).trans g1, g2, g3, g4, (hk.block r hl h2).trans g5, rest⟩, h3⟩
theorem RangeV.left_eq {w : World} {mb r m : Nat} {F : List UInt8 → Option Value} {left : List UInt8 → Bool} {cnt : Nat} (h : RangeV w mb r m F left cnt) : w.rangeLeft mb r = cnt := by
  obtain ⟨D, lf, hr, _⟩ := h
  exact hr.left_eq
theorem RangeV.lt {w : World} {mb r m : Nat} {F : List UInt8 → Option Value} {left : List UInt8 → Bool} {cnt : Nat} (h : RangeV w mb r m F left cnt) : r < w.heap.size ∧ mb < w.heap.size ∧ r ≠ mb := by
  obtain ⟨D, lf, hr, _⟩ := h
  exact ⟨hr.lt, hr.owns.lt, hr.ne⟩
theorem grown_kep {w w' : World} {r : Nat} (h : w.grownBy w' (some r)) : Kep (fun k => k ≠ r) w w' := kep_grown h fun k e hk => hk (Option.some.inj e).symm
theorem wpList_range_map {T E : TypeId} (hT : Try.prog.underlying T = some (.map 9 E)) {w : World} {ops : Array Oper} {rest : List Oper} {o : Oper} {a : Act} {Q : Exit → Act → World → Prop} (hg : o.guard = none) (x : Operand) (hop : o.op = Op.range T x) (mb m : Nat) (F : List UInt8 → Option Value)
    (hx : a.eval x = .map (some mb)) (h : MapV w mb m F)
    (hK : ∀ w' cnt, RangeV w' mb w.heap.size m F (fun n => (F n).isSome) cnt → Below w.heap.size w w' → w'.heap.size = w.heap.size + 1 → wpList Try.prog ops Q rest (a.put o.dst (.pointer (some ⟨w.heap.size, 0, none⟩))) w') :
    wpList Try.prog ops Q (o :: rest) a w := by
  obtain ⟨D, hD, hs, hF⟩ := h
  refine wpList_range_own w hg x T hop 9 E strKeyed hT R0 mb m D hx hD fun w' h1 h2 h3 => ?_
  exact hK w' _ ⟨D, _, h1, hF, fun n => ((hF n).1).symm⟩ ((Below.refl _ _).grown h2 (Nat.le_refl _) (fun k h => by cases h)) h3
theorem wpList_next_map {w : World} {ops : Array Oper} {rest : List Oper} {o : Oper} {a : Act} {Q : Exit → Act → World → Prop} (hg : o.guard = none) (it : Operand) (hop : o.op = Op.next it false) (mb r m : Nat) (F : List UInt8 → Option Value) (left : List UInt8 → Bool) (cnt : Nat)
    (hit : a.eval it = .pointer (some ⟨r, 0, none⟩)) (h : RangeV w mb r m F left cnt)
    (hDone : (∀ n, left n = false) → wpList Try.prog ops Q rest (a.put o.dst (.tuple #[.bool false])) w)
    (hMore : ∀ (n : List UInt8) (v : Value) (w' : World) (cnt' : Nat), n.length ≤ maxLen → left n = true → F n = some v → RangeV w' mb r m F (fun k => left k && !decide (k = n)) cnt' → cnt' < cnt → Kep (fun k => k ≠ r) w w' → w'.heap.size = w.heap.size →
      (Instr.entry (.pointer (some ⟨r, 0, none⟩))).run Try.prog w' = .ok (.tuple #[.string ⟨n.toArray⟩, v]) w' → wpList Try.prog ops Q rest (a.put o.dst (.tuple #[.bool true, .string ⟨n.toArray⟩, v])) w') :
    wpList Try.prog ops Q (o :: rest) a w := by
  obtain ⟨D, lf, hr, hF, hlf⟩ := h
  refine wpList_next_ranges w hg it hop 9 strKeyed R0 Value.string (fun v : Value => v) (fun key kl hk => Maps.keyOf_string_inv Try.underlying9 hk) (fun v y _ => ⟨v, rfl⟩) mb r m D lf cnt hit hr ?_ ?_
  · intro _ hl
    exact hDone fun n => by rw [hlf, hl]
  · intro x v kl y w' cnt' hkey hl hv hat hrg hlt hgr hsz hen
    have hy : y.1 = .held v := by
      have := Option.some.inj hv
      rw [← this]
    have hlen : x.size ≤ maxLen := by
      simp only [keyOf, Try.underlying9, mapKey] at hkey
      by_cases q : x.size ≤ maxLen
      · exact q
      · simp [q] at hkey
    have hkl : kl = .string x.data.toList := by
      rw [Go.WideMaps.keyOf_string_mk Try.underlying9 hlen] at hkey
      exact (Option.some.inj hkey).symm
    subst hkl
    rw [hy] at hat
    have hhas := has_true_of_atKey hat
    rw [(hF x.data.toList).1] at hhas
    obtain ⟨u, hu⟩ := Option.isSome_iff_exists.1 hhas
    have huv : u = v := by
      have h1 := (hF x.data.toList).2 u hu (.held v)
      rw [hat] at h1
      exact (DataW.held.inj h1).symm
    subst huv
    refine hMore x.data.toList u w' cnt' (by rw [← Lib.size_eq]; exact hlen) (by rw [hlf]; exact hl) hu ⟨D, _, hrg, hF, fun k => ?_⟩ hlt (grown_kep hgr) hsz hen
    have e : (Lit.string k).sameKey (.string x.data.toList) = decide (k = x.data.toList) := by
      by_cases q : k = x.data.toList
      · subst q
        rw [decide_eq_true rfl]
        exact WideAt.sameKey_self trivial
      · rw [decide_eq_false q]
        exact sameKey_ne (key_ne q)
    show (left k && !decide (k = x.data.toList)) = (lf (.string k) && !(Lit.string k).sameKey (.string x.data.toList))
    rw [hlf k, e]
end Go.Proofs.Ytgacfihidpijeaa.SM
namespace Go.Proofs.Ytgacfihidpijeaa.RK
open Go Go.RowKit Go.Proofs.Ytgacfihidpijeaa.MM

section
variable {T : Nat → Prop} {P : Program} {ops : Array Oper} {Q : Exit → Act → World → Prop} {md : Region.Mode}

theorem held_weaken {S S' : World → Prop} (hS : ∀ w, S' w → S w) : ∀ (fuel : Nat) (listed : Array Bool) (a : Act) (w : World), wpAnyH P md ops Q S' fuel listed a w → wpAnyH P md ops Q S fuel listed a w
  | 0, _, _, _, h => h
  | fuel + 1, _, _, _, h => ⟨h.1, fun i hi => wpOp_mono (fun a' w' h' => ⟨hS _ h'.1, held_weaken hS fuel _ a' w' h'.2⟩) (h.2 i hi)⟩

/-- A way on, kept from the walk. -/
def Way (p : Prop) : Prop := p
theorem Way.out {p : Prop} (h : Way p) : p := h

/-- One order: the operations; true: it yields one value in whatever grown world; false: it stands alone, and the world grows. -/
def walk (T : Nat → Prop) (P : Program) (ops : Array Oper) (Q : Exit → Act → World → Prop) : List (Option Oper × Bool) → Act → World → Prop
  | [], a, w => Q .normal a w
  | (some o, true) :: rest, a, w => ∃ v, YieldsIf P ops (Kep T w) o v a ∧ walk T P ops Q rest (a.put o.dst v) w
  | (some o, false) :: rest, a, w => ∀ K : Act → World → Prop, (∀ a' w', Kep T w w' → walk T P ops Q rest a' w' → K a' w') → if Region.wanted o (yielded ops a.tmps) = true then o.wp P a w K Q else K (a.put o.dst undef) w
  | (none, _) :: _, _, _ => False
/-- The operations in the order of a plan. -/
def ordered (ops : Array Oper) (l : List (Nat × Bool)) : List (Option Oper × Bool) := l.map fun p => (ops[p.1]?, p.2)

/-- The order is one: each operation may come up, and is free or alone. -/
def planned (md : Region.Mode) (ops : Array Oper) : List (Nat × Bool) → Array Bool → Bool
  | [], listed => (Region.ready md ops listed).isEmpty
  | (i, true) :: rest, listed => Region.free md ops listed i && (Region.ready md ops listed).contains i && planned md ops rest (listed.setIfInBounds i true)
  | (i, false) :: rest, listed => (Region.ready md ops listed == [i]) && planned md ops rest (listed.setIfInBounds i true)

theorem held_of_walk (hs : Region.noSelect ops = true) (hQ : ∀ c a d v w, Q (.panic c) (Act.put a d v) w → Q (.panic c) a w) :
    ∀ (l : List (Nat × Bool)) (listed : Array Bool) (a : Act) (w : World), planned md ops l listed = true → walk T P ops Q (ordered ops l) a w → wpAnyH P md ops Q (Kep T w) l.length listed a w
  | [], listed, a, w, hp, h => ⟨by simpa [planned] using hp, h⟩
  | (i, b) :: rest, listed, a, w, hp, h => by
    have h' : walk T P ops Q ((ops[i]?, b) :: ordered ops rest) a w := h
    cases ho : ops[i]? with
    | none => rw [ho] at h'; cases b <;> exact h'.elim
    | some o =>
      rw [ho] at h'
      cases b with
      | true =>
        obtain ⟨v, hy, hr⟩ := h'
        simp only [planned, Bool.and_eq_true] at hp
        exact wpAnyH_take ho hs hp.1.1 hp.1.2 (fun c a w => hQ c a _ _ w) hy (Kep.refl _ w) (held_of_walk hs hQ rest _ _ _ hp.2 hr)
      | false =>
        simp only [planned, Bool.and_eq_true] at hp
        refine wpAnyH_all (rs := [i]) (by simpa using hp.1) (by simp) (fun j hj => ?_)
        obtain rfl : j = i := by simpa using hj
        exact wpOp_step ho (fun K hK => h' K (fun a' w' h1 h2 => hK a' w' ⟨h1, held_weaken (fun W hW => h1.trans hW) _ _ _ _ (held_of_walk hs hQ rest _ _ _ hp.2 h2)⟩))

/-- THE BEGINNING. -/
theorem begin_ (l : List (Nat × Bool)) {id : Nat} {a : Act} {w : World} (hm : P.follows .mixedOrders = true) (hs : Region.noSelect ops = true) (hl : l.length = ops.size)
    (hp : planned .any ops l (Array.replicate ops.size false) = true) (hQ : ∀ c a d v w, Q (.panic c) (Act.put a d v) w → Q (.panic c) a w)
    (h : walk T P ops Q (ordered ops l) a w.drew) : (Code.region id ops true).wp P Q a w := by
  refine wp_region_held (S := Kep T w.drew) hm ?_
  rw [← hl]
  have := held_of_walk (md := .any) hs hQ l (Array.replicate ops.size false) a w.drew hp h
  rw [← hl] at this
  exact this

/-- THE STEPS. -/
theorem take {rest : List (Option Oper × Bool)} {a : Act} {w : World} {o : Oper} {v : Value} (hw : Region.wanted o (yielded ops a.tmps) = true)
    (hy : ∀ W, Kep T w W → (execOp a.eval o).run P W = .ok (.value v) W) (h : walk T P ops Q rest (a.put o.dst v) w) : walk T P ops Q ((some o, true) :: rest) a w :=
  ⟨v, .inl ⟨hw, hy⟩, h⟩
theorem skip {rest : List (Option Oper × Bool)} {a : Act} {w : World} {o : Oper} (hw : Region.wanted o (yielded ops a.tmps) = false)
    (h : walk T P ops Q rest (a.put o.dst undef) w) : walk T P ops Q ((some o, true) :: rest) a w :=
  ⟨undef, .inr ⟨hw, rfl⟩, h⟩
theorem alone {rest : List (Option Oper × Bool)} {a : Act} {w : World} {o : Oper} (hw : Region.wanted o (yielded ops a.tmps) = true)
    (h : ∀ K : Act → World → Prop, Way (∀ a' w', Kep T w w' → walk T P ops Q rest a' w' → K a' w') → o.wp P a w K Q) : walk T P ops Q ((some o, false) :: rest) a w := by
  intro K hK
  rw [if_pos hw]
  exact h K hK
theorem alone_skip {rest : List (Option Oper × Bool)} {a : Act} {w : World} {o : Oper} (hw : Region.wanted o (yielded ops a.tmps) = false)
    (h : walk T P ops Q rest (a.put o.dst undef) w) : walk T P ops Q ((some o, false) :: rest) a w := by
  intro K hK
  rw [if_neg (by rw [hw]; exact Bool.false_ne_true)]
  exact hK _ _ (Kep.refl _ w) h
theorem done {a : Act} {w : World} (h : Q .normal a w) : walk T P ops Q [] a w := h
end
end Go.Proofs.Ytgacfihidpijeaa.RK
set_option linter.unusedVariables false
namespace Go.Proofs.Ytgacfihidpijeaa.GB
open Go Go.RowKit Go.Proofs.Ytgacfihidpijeaa.MM

/-- Only the row's own block has turned; the row lies there, or in a new one. -/
def Grown (w w' : World) (v v' : Value) : Prop := w.grownBy w' v.ownBlock ∧ ∀ k, v'.ownBlock = some k → v.ownBlock = some k ∨ w.heap.size ≤ k
theorem grownBy_refl (w : World) (r : Option Nat) : w.grownBy w r := ⟨rfl, rfl, rfl, Nat.le_refl _, fun _ _ _ => rfl⟩
theorem Grown.refl (w : World) (v : Value) : Grown w w v v := ⟨grownBy_refl _ _, fun k h => .inl h⟩
theorem Grown.trans {a b c : World} {u v x : Value} (h : Grown a b u v) (k : Grown b c v x) : Grown a c u x := by
  obtain ⟨h1, h2⟩ := h
  obtain ⟨k1, k2⟩ := k
  refine ⟨⟨k1.os.trans h1.os, k1.tape.trans h1.tape, k1.output.trans h1.output, Nat.le_trans h1.size k1.size, fun i hi hne => ?_⟩, fun i hi => ?_⟩
  · rw [k1.block i (Nat.lt_of_lt_of_le hi h1.size) (fun e => ?_), h1.block i hi hne]
    rcases h2 i e.symm with h | h
    · exact hne h.symm
    · omega
  · rcases k2 i hi with h | h
    · exact h2 i h
    · exact .inr (Nat.le_trans h1.size h)
theorem Grown.kep {w w' : World} {v v' : Value} (h : Grown w w' v v') : Kep (fun b => v.ownBlock ≠ some b) w w' := kep_grown h.1 fun k hk hne => hne hk
theorem Grown.of_below {a b c : World} {u v : Value} (h : Below a.heap.size a b) (k : Grown b c u v) (hu : ∀ i, u.ownBlock = some i → i < a.heap.size) : Grown a c u v :=
  ⟨⟨k.1.os.trans h.os, k.1.tape.trans h.tape, k.1.output.trans h.output, Nat.le_trans h.size k.1.size, fun i hi hne => by rw [k.1.block i (Nat.lt_of_lt_of_le hi h.size) hne, h.block i hi]⟩, fun i hi => by
    rcases k.2 i hi with e | e
    · exact .inl e
    · exact .inr (Nat.le_trans h.size e)⟩
theorem Grown.below {a b c : World} {u v : Value} (h : Grown a b u v) (k : Below b.heap.size b c) : Grown a c u v :=
  ⟨⟨k.os.trans h.1.os, k.tape.trans h.1.tape, k.output.trans h.1.output, Nat.le_trans h.1.size k.size, fun i hi hne => by rw [k.block i (Nat.lt_of_lt_of_le hi h.1.size), h.1.block i hi hne]⟩, h.2⟩
theorem own_lt {w : World} {v : Value} {l : List UInt8} {B : Nat} (h : OwnB B w v l) : ∀ i, v.ownBlock = some i → i < w.heap.size := fun i hi => (World.ownsRow.lt h i hi).2
theorem OwnB.zero {w : World} {v : Value} {l : List UInt8} {B : Nat} (h : OwnB B w v l) : OwnB 0 w v l := OwnB.weaken h (Nat.zero_le _)
theorem OwnB.from {w : World} {v : Value} {l : List UInt8} {B : Nat} (h : OwnB 0 w v l) (hB : ∀ k, v.ownBlock = some k → B ≤ k) : OwnB B w v l := by
  refine ⟨h.1, ?_⟩
  rcases h.2 with h0 | ⟨g, cap, cur, hv, hg, rest⟩
  · exact .inl h0
  · exact .inr ⟨g, cap, cur, hv, hB g (by rw [hv]; rfl), rest⟩
theorem OwnB.kepOwn {S : Nat → Prop} {w w' : World} {v : Value} {l : List UInt8} {B : Nat} (h : OwnB B w v l) (hk : Kep S w w') (hS : ∀ k, v.ownBlock = some k → S k) : OwnB B w' v l := by
  refine ⟨h.1, ?_⟩
  rcases h.2 with h0 | ⟨g, cap, cur, hv, hg, hh, rest⟩
  · exact .inl h0
  · exact .inr ⟨g, cap, cur, hv, hg, by rw [hk.block g (Array.getElem?_eq_some_iff.1 hh).1 (hS g (by rw [hv]; rfl))]; exact hh, rest⟩
/-- What an append leaves. -/
def AppL (l : List UInt8) (v : Value) (w : World) (e : Ending) (w' : World) : Prop := ∃ v', e = .returned v' ∧ OwnB 0 w' v' l ∧ Grown w w' v v'
/-- append(row, b...), b not empty. -/
theorem wpList_append_grown {w : World} {ops : Array Oper} {rest : List Oper} {o : Oper} {a : Act} {Q : Exit → Act → World → Prop} (hgd : o.guard = none) (s x : Operand)
    (ho : o.op = .call { callee := .builtin .append, args := #[s, x], argTypes := #[40, 40] }) (v : Value) (l : List UInt8) (hs : a.eval s = v) (hown : OwnB 0 w v l)
    (src : Value) (m : List UInt8) (hx : a.eval x = src) (hr : BRow w src m) (hm : m ≠ []) (hlen : l.length + m.length ≤ 140737488355328)
    (h : ∀ v' w', OwnB 0 w' v' (l ++ m) → Grown w w' v v' → wpList Try.prog ops Q rest (a.put o.dst v') w') : wpList Try.prog ops Q (o :: rest) a w := by
  obtain ⟨i0, hi, hz0, hz1, hz2⟩ := info_parts infoByte
  have h0 := List.length_pos_iff.2 hm
  obtain ⟨p, cap, rfl, _, _, h3, hc⟩ := hr
  rcases hc with hc | ⟨b, off, rfl, _, hc⟩
  · have := byteCells_len m; rw [hc] at this; simp at this; omega
  · refine wpList_append_lies w hgd s x 40 ho 0 5 i0 (.int .u8 0) 1 1 Try.underlying40 hi hz0 hz1 hz2 rfl (by decide) v l.length (Lib.byteCells l) hs hown ⟨b, off, none⟩ (Lib.byteCells m).length cap (Lib.byteCells m) hx (by simp)
      (fun j u hu => by rw [add_at]; exact hc j u hu) (byteCells_one m) (by rw [byteCells_len]; omega) (by rw [byteCells_len]; unfold maxLen; omega) (by rw [byteCells_len]; omega) (Nat.zero_le _) w.heap.size rfl ?_
    intro g cap' w' hown' hgrow hat _
    refine h _ w' ?_ ⟨hgrow, fun k hk => ?_⟩
    · unfold OwnB
      rw [List.length_append, byteCells_append]
      rw [byteCells_len] at hown' ⊢
      exact hown'
    · simp only [Value.ownBlock, Option.some.injEq] at hk
      subst hk
      rcases hat with h | h
      · exact .inl h
      · exact .inr (Nat.le_of_eq h.symm)
/-- .. as a step. -/
theorem wp_append_grown {w : World} {o : Oper} {a : Act} {K : Act → World → Prop} {Q : Exit → Act → World → Prop} (s x : Operand)
    (ho : o.op = .call { callee := .builtin .append, args := #[s, x], argTypes := #[40, 40] }) (v : Value) (l : List UInt8) (hs : a.eval s = v) (hown : OwnB 0 w v l)
    (src : Value) (m : List UInt8) (hx : a.eval x = src) (hr : BRow w src m) (hm : m ≠ []) (hlen : l.length + m.length ≤ 140737488355328)
    (h : ∀ v' w', OwnB 0 w' v' (l ++ m) → Grown w w' v v' → K (a.put o.dst v') w') : o.wp Try.prog a w K Q := by
  obtain ⟨i0, hi, hz0, hz1, hz2⟩ := info_parts infoByte
  have h0 := List.length_pos_iff.2 hm
  obtain ⟨p, cap, rfl, _, _, h3, hc⟩ := hr
  rcases hc with hc | ⟨b, off, rfl, _, hc⟩
  · have := byteCells_len m; rw [hc] at this; simp at this; omega
  · refine wp_append_lies w s x 40 ho 0 5 i0 (.int .u8 0) 1 1 Try.underlying40 hi hz0 hz1 hz2 rfl (by decide) v l.length (Lib.byteCells l) hs hown ⟨b, off, none⟩ (Lib.byteCells m).length cap (Lib.byteCells m) hx (by simp)
      (fun j u hu => by rw [add_at]; exact hc j u hu) (byteCells_one m) (by rw [byteCells_len]; omega) (by rw [byteCells_len]; unfold maxLen; omega) (by rw [byteCells_len]; omega) (Nat.zero_le _) w.heap.size rfl ?_
    intro g cap' w' hown' hgrow hat _
    refine h _ w' ?_ ⟨hgrow, fun k hk => ?_⟩
    · unfold OwnB
      rw [List.length_append, byteCells_append]
      rw [byteCells_len] at hown' ⊢
      exact hown'
    · simp only [Value.ownBlock, Option.some.injEq] at hk
      subst hk
      rcases hat with h | h
      · exact .inl h
      · exact .inr (Nat.le_of_eq h.symm)
end Go.Proofs.Ytgacfihidpijeaa.GB
namespace Go.Proofs.Ytgacfihidpijeaa.RS
open Go Go.RowKit Go.Proofs.Ytgacfihidpijeaa.MM

section
variable {P : Program} {ops : Array Oper} {Q : Exit → Act → World → Prop} {md : Region.Mode}

/-- Whatever order the first n come in, S holds behind each; then L. -/
def HL (P : Program) (md : Region.Mode) (ops : Array Oper) (Q : Exit → Act → World → Prop) (S : World → Prop) (n : Nat) (L : Array Bool → Act → World → Prop) : Nat → Array Bool → Act → World → Prop
  | 0, listed, a, w => L listed a w
  | f + 1, listed, a, w => Region.ready md ops listed ≠ [] ∧ ∀ i ∈ Region.ready md ops listed, i < n ∧ wpOp P ops Q i (fun a' w' => S w' ∧ HL P md ops Q S n L f (listed.setIfInBounds i true) a' w') a w

theorem any_of_head {S : World → Prop} {n g : Nat} {L : Array Bool → Act → World → Prop} (hL : ∀ listed a w, L listed a w → wpAny P md ops Q g listed a w) :
    ∀ (f : Nat) (listed : Array Bool) (a : Act) (w : World), HL P md ops Q S n L f listed a w → wpAny P md ops Q (f + g) listed a w
  | 0, listed, a, w, h => by rw [Nat.zero_add]; exact hL _ _ _ h
  | f + 1, listed, a, w, h => by
    rw [show f + 1 + g = (f + g) + 1 by omega]
    exact ⟨fun h0 => absurd h0 h.1, fun i hi => wpOp_mono (fun a' w' h' => any_of_head hL f _ a' w' h'.2) (h.2 i hi).2⟩

theorem first {S : World → Prop} {n i : Nat} {oi : Oper} {v : Value} {L : Array Bool → Act → World → Prop} (hi : ops[i]? = some oi) (hsel : ∀ (j : Nat) (o : Oper) cs b, ops[j]? = some o → o.op ≠ .select cs b)
    (hs : Region.sinkB md ops n = true) (hc : Region.chainB md ops n = true) (hn : n < ops.size) (hin : i < n) (hQ : ∀ c a w, Q (.panic c) (a.put oi.dst v) w → Q (.panic c) a w)
    (hdone : ∀ listed a w, L listed a w → ∀ j ∈ Region.ready md ops listed, n ≤ j) :
    ∀ (f : Nat) (listed : Array Bool) (a : Act) (w : World), HeadInv md ops n listed →
      (∀ j oj, ops[j]? = some oj → j ≠ i → listed.getD j true = false → (∀ e ∈ oj.after, Region.binds md e = true → e.on ≠ i) → oi.apart ops oj = true) →
      i ∈ Region.ready md ops listed → YieldsIf P ops S oi v a → S w →
      HL P md ops Q S n L f (listed.setIfInBounds i true) (a.put oi.dst v) w → HL P md ops Q S n L (f + 1) listed a w := by
  intro f
  induction f with
  | zero =>
    intro listed a w inv _ hr hy hS H
    have hun := (mem_ready.1 hr).1
    refine ⟨fun h => (by rw [h] at hr; cases hr), fun j hj => ?_⟩
    have hjn : j < n := by
      rcases Nat.lt_or_ge j n with h | h
      · exact h
      · exact absurd hj (tail_waits hs hc hn inv _ i rfl hin hun j h)
    refine ⟨hjn, ?_⟩
    by_cases hji : j = i
    · subst hji; exact hy.wpOp hi hS ⟨hS, H⟩
    · have := hdone _ _ _ H j (ready_mono hj hji)
      omega
  | succ f ih =>
    intro listed a w inv hfree hr hy hS H
    have hun := (mem_ready.1 hr).1
    refine ⟨fun h => (by rw [h] at hr; cases hr), fun j hj => ?_⟩
    have hjn : j < n := by
      rcases Nat.lt_or_ge j n with h | h
      · exact h
      · exact absurd hj (tail_waits hs hc hn inv _ i rfl hin hun j h)
    refine ⟨hjn, ?_⟩
    by_cases hji : j = i
    · subst hji; exact hy.wpOp hi hS ⟨hS, H⟩
    · have h1 := (H.2 j (ready_mono hj hji)).2
      obtain ⟨hjun, oj, hoj, hall⟩ := mem_ready.1 hj
      have hnot : ∀ e ∈ oj.after, Region.binds md e = true → e.on ≠ i := fun e he hb heq => by
        have h1 := hall e he hb
        rw [heq, getD_both hun] at h1
        cases h1
      have h2 := wpOp_putIf hoj (hfree j oj hoj hji hjun hnot) (fun cs b => hsel i oi cs b hi) (fun cs b => hsel j oj cs b hoj) hQ hy h1
      have hfree' : ∀ k ok, ops[k]? = some ok → k ≠ i → (listed.setIfInBounds j true).getD k true = false →
          (∀ e ∈ ok.after, Region.binds md e = true → e.on ≠ i) → oi.apart ops ok = true := fun k ok hk hki hun hno => by
        refine hfree k ok hk hki ?_ hno
        by_cases hjk : j = k
        · subst hjk; exact hjun
        · rw [getD_set_ne true hjk] at hun; exact hun
      refine wpOp_mono (fun a' w' h3 => ⟨h3.2.1, ih (listed.setIfInBounds j true) a' w' (inv.set hj hjn) hfree' (ready_mono hr (Ne.symm hji)) h3.1 h3.2.1 ?_⟩) h2
      rw [Array.setIfInBounds_comm _ _ hji]
      exact h3.2.2

/-- A way on, kept from the walk. -/
def Way (p : Prop) : Prop := p
theorem Way.out {p : Prop} (h : Way p) : p := h

/-- One order of the first; then the end. -/
def walk (T : Nat → Prop) (P : Program) (ops : Array Oper) (Q : Exit → Act → World → Prop) (E : Act → World → Prop) : List (Option Oper × Bool) → Act → World → Prop
  | [], a, w => E a w
  | (some o, true) :: rest, a, w => ∃ v, YieldsIf P ops (Kep T w) o v a ∧ walk T P ops Q E rest (a.put o.dst v) w
  | (some o, false) :: rest, a, w => ∀ K : Act → World → Prop, (∀ a' w', Kep T w w' → walk T P ops Q E rest a' w' → K a' w') → if Region.wanted o (yielded ops a.tmps) = true then o.wp P a w K Q else K (a.put o.dst undef) w
  | (none, _) :: _, _, _ => False
def ordered (ops : Array Oper) (l : List (Nat × Bool)) : List (Option Oper × Bool) := l.map fun p => (ops[p.1]?, p.2)
def planned (md : Region.Mode) (ops : Array Oper) (n g : Nat) : List (Nat × Bool) → Array Bool → Bool
  | [], listed => Region.seqB md ops g n listed
  | (i, true) :: rest, listed => Region.free md ops listed i && (Region.ready md ops listed).contains i && decide (i < n) && planned md ops n g rest (listed.setIfInBounds i true)
  | (i, false) :: rest, listed => (Region.ready md ops listed == [i]) && decide (i < n) && planned md ops n g rest (listed.setIfInBounds i true)

theorem HL_weaken {S S' : World → Prop} (hS : ∀ w, S' w → S w) {n : Nat} {L : Array Bool → Act → World → Prop} : ∀ (f : Nat) (listed : Array Bool) (a : Act) (w : World), HL P md ops Q S' n L f listed a w → HL P md ops Q S n L f listed a w
  | 0, _, _, _, h => h
  | f + 1, _, _, _, h => ⟨h.1, fun i hi => ⟨(h.2 i hi).1, wpOp_mono (fun a' w' h' => ⟨hS _ h'.1, HL_weaken hS f _ a' w' h'.2⟩) (h.2 i hi).2⟩⟩

theorem HL_of_walk {T : Nat → Prop} {E : Act → World → Prop} {n g : Nat} (hsel : Region.noSelect ops = true) (hs : Region.sinkB md ops n = true) (hc : Region.chainB md ops n = true) (hn : n < ops.size)
    (hQ : ∀ c a d v w, Q (.panic c) (Act.put a d v) w → Q (.panic c) a w) :
    ∀ (l : List (Nat × Bool)) (listed : Array Bool) (a : Act) (w : World), planned md ops n g l listed = true → HeadInv md ops n listed → walk T P ops Q E (ordered ops l) a w →
      HL P md ops Q (Kep T w) n (fun listed' a' w' => Region.seqB md ops g n listed' = true ∧ E a' w') l.length listed a w
  | [], listed, a, w, hp, inv, h => ⟨hp, h⟩
  | (i, b) :: rest, listed, a, w, hp, inv, h => by
    have h' : walk T P ops Q E ((ops[i]?, b) :: ordered ops rest) a w := h
    cases ho : ops[i]? with
    | none => rw [ho] at h'; cases b <;> exact h'.elim
    | some o =>
      rw [ho] at h'
      cases b with
      | true =>
        obtain ⟨v, hy, hr⟩ := h'
        simp only [planned, Bool.and_eq_true, decide_eq_true_eq] at hp
        obtain ⟨⟨⟨hf, hrd⟩, hin⟩, hrest⟩ := hp
        have hrd' : i ∈ Region.ready md ops listed := by simpa using hrd
        exact first ho (Region.noSelect_spec hsel) hs hc hn hin (fun c a w => hQ c a _ _ w) (fun listed' a' w' hL => seqB_ready hL.1) rest.length listed a w inv (Region.free_spec ho hf) hrd' hy (Kep.refl _ w)
          (HL_of_walk hsel hs hc hn hQ rest _ _ _ hrest (inv.set hrd' hin) hr)
      | false =>
        simp only [planned, Bool.and_eq_true, decide_eq_true_eq] at hp
        obtain ⟨⟨hrd, hin⟩, hrest⟩ := hp
        have hrd' : Region.ready md ops listed = [i] := by simpa using hrd
        refine ⟨by rw [hrd']; simp, fun j hj => ?_⟩
        obtain rfl : j = i := by rw [hrd'] at hj; simpa using hj
        refine ⟨hin, wpOp_step ho (fun K hK => h' K (fun a' w' h1 h2 => hK a' w' ⟨h1, HL_weaken (fun W hW => h1.trans hW) _ _ _ _ (HL_of_walk hsel hs hc hn hQ rest _ _ _ hrest (inv.set hj hin) h2)⟩))⟩

/-- All that is to be looked at of the plan. -/
def goodB (ops : Array Oper) (l : List (Nat × Bool)) : Bool :=
  Region.noSelect ops && decide (l.length < ops.size) && Region.sinkB .any ops l.length && Region.chainB .any ops l.length && planned .any ops l.length (ops.size - l.length) l (Array.replicate ops.size false)
/-- THE BEGINNING. -/
theorem begin_ {T : Nat → Prop} (l : List (Nat × Bool)) {id : Nat} {a : Act} {w : World} (hm : P.follows .mixedOrders = true) (hB : goodB ops l = true) (hQ : ∀ c a d v w, Q (.panic c) (Act.put a d v) w → Q (.panic c) a w)
    (h : walk T P ops Q (fun a' w' => wpList P ops Q (ops.toList.drop l.length) a' w') (ordered ops l) a w.drew) : (Code.region id ops true).wp P Q a w := by
  simp only [goodB, Bool.and_eq_true, decide_eq_true_eq] at hB
  obtain ⟨⟨⟨⟨hsel, hn⟩, hs⟩, hc⟩, hp⟩ := hB
  have inv0 : HeadInv .any ops l.length (Array.replicate ops.size false) :=
    ⟨by simp, fun j oj _ hl => (by rw [getD_replicate_false] at hl; cases hl), fun t _ ht => getD_in (by simpa using ht) (getD_replicate_false _ _)⟩
  have H := HL_of_walk (md := .any) hsel hs hc hn hQ l (Array.replicate ops.size false) a w.drew hp inv0 h
  refine wp_region_any hm ?_
  have hdl : (ops.toList.drop l.length).length = ops.size - l.length := by simp
  have := any_of_head (Q := Q) (g := ops.size - l.length) (fun listed a' w' hL => by
    have := wpAny_of_seq (md := .any) (Q' := Q) (ops := ops) (ops.toList.drop l.length) l.length listed a' w' (fun j => by simp [List.getElem?_drop]) (by rw [hdl]; exact hL.1) hL.2
    rwa [hdl] at this) _ _ _ _ H
  rw [show l.length + (ops.size - l.length) = ops.size by omega] at this
  exact this

variable {T : Nat → Prop} {E : Act → World → Prop}
/-- THE STEPS. -/
theorem take {rest : List (Option Oper × Bool)} {a : Act} {w : World} {o : Oper} {v : Value} (hw : Region.wanted o (yielded ops a.tmps) = true)
    (hy : ∀ W, Kep T w W → (execOp a.eval o).run P W = .ok (.value v) W) (h : walk T P ops Q E rest (a.put o.dst v) w) : walk T P ops Q E ((some o, true) :: rest) a w :=
  ⟨v, .inl ⟨hw, hy⟩, h⟩
theorem skip {rest : List (Option Oper × Bool)} {a : Act} {w : World} {o : Oper} (hw : Region.wanted o (yielded ops a.tmps) = false)
    (h : walk T P ops Q E rest (a.put o.dst undef) w) : walk T P ops Q E ((some o, true) :: rest) a w :=
  ⟨undef, .inr ⟨hw, rfl⟩, h⟩
theorem alone {rest : List (Option Oper × Bool)} {a : Act} {w : World} {o : Oper} (hw : Region.wanted o (yielded ops a.tmps) = true)
    (h : ∀ K : Act → World → Prop, Way (∀ a' w', Kep T w w' → walk T P ops Q E rest a' w' → K a' w') → o.wp P a w K Q) : walk T P ops Q E ((some o, false) :: rest) a w := by
  intro K hK
  rw [if_pos hw]
  exact h K hK
theorem done {a : Act} {w : World} (h : E a w) : walk T P ops Q E [] a w := h
end
end Go.Proofs.Ytgacfihidpijeaa.RS
set_option linter.unusedVariables false
namespace Go.Proofs.Ytgacfihidpijeaa.MM
open Go Go.RowKit

/-- Two cells. -/
def Two (w : World) (g : Nat) (t : TypeId) (a b : Value) : Prop := w.heap[g]? = some (.cells #[a, b] t (0, 0))
theorem Two.lt {w : World} {g : Nat} {t : TypeId} {a b : Value} (h : Two w g t a b) : g < w.heap.size := (Array.getElem?_eq_some_iff.1 h).1
theorem Two.c0 {w : World} {g : Nat} {t : TypeId} {a b : Value} (h : Two w g t a b) : w.cell? ⟨g, 0, none⟩ = some a := by rw [cell_of_row w g 0 _ _ _ h]; rfl
theorem Two.c1 {w : World} {g : Nat} {t : TypeId} {a b : Value} (h : Two w g t a b) : w.cell? ⟨g, 1, none⟩ = some b := by rw [cell_of_row w g 1 _ _ _ h]; rfl
theorem Two.f0 {w : World} {g : Nat} {t : TypeId} {a b : Value} (h : Two w g t a b) : w.frozen? ⟨g, 0, none⟩ = false := frozen_of_row w g 0 _ _ h
theorem Two.f1 {w : World} {g : Nat} {t : TypeId} {a b : Value} (h : Two w g t a b) : w.frozen? ⟨g, 1, none⟩ = false := frozen_of_row w g 1 _ _ h
theorem Two.s0 {w : World} {g : Nat} {t : TypeId} {a b : Value} (h : Two w g t a b) (x : Value) : Two (w.setCell ⟨g, 0, none⟩ x) g t x b := heap_setCell_same w g 0 _ _ x h
theorem Two.s1 {w : World} {g : Nat} {t : TypeId} {a b : Value} (h : Two w g t a b) (x : Value) : Two (w.setCell ⟨g, 1, none⟩ x) g t a x := heap_setCell_same w g 1 _ _ x h
theorem Two.s01 {w : World} {g : Nat} {t : TypeId} {a b : Value} (h : Two w g t a b) (x y : Value) : Two ((w.setCell ⟨g, 0, none⟩ x).setCell ⟨g, 1, none⟩ y) g t x y := (h.s0 x).s1 y
theorem Two.keep {S : Nat → Prop} {w w' : World} {g : Nat} {t : TypeId} {a b : Value} (h : Two w g t a b) (hk : Kep S w w') (hS : S g) : Two w' g t a b := (hk.block g h.lt hS).trans h
theorem Two.below {B : Nat} {w w' : World} {g : Nat} {t : TypeId} {a b : Value} (h : Two w g t a b) (hb : Below B w w') (hg : g < B) : Two w' g t a b := (hb.block g hg).trans h
theorem two_new (w : World) (t : TypeId) (a b : Value) : Two (w.alloc (.cells #[a, b] t)) w.heap.size t a b := heap_alloc_new _ _
/-- What the walk asks of a block of two cells that is written: first the first, then the second. -/
theorem Two.all {w : World} {g : Nat} {t : TypeId} {a b : Value} (h : Two w g t a b) (x : Value) :
    w.cell? ⟨g, 0, none⟩ = some a ∧ w.cell? ⟨g, 1, none⟩ = some b ∧ w.frozen? ⟨g, 0, none⟩ = false ∧ w.frozen? ⟨g, 1, none⟩ = false ∧ (w.setCell ⟨g, 0, none⟩ x).cell? ⟨g, 1, none⟩ = some b ∧ (w.setCell ⟨g, 0, none⟩ x).frozen? ⟨g, 1, none⟩ = false :=
  ⟨h.c0, h.c1, h.f0, h.f1, (h.s0 x).c1, (h.s0 x).f1⟩
theorem kep_set0 {w : World} {g i : Nat} (x : Value) : Kep (fun b => b ≠ g) w (w.setCell ⟨g, i, none⟩ x) := kep_set (fun h => h rfl) x
theorem kep_set01 {w : World} {g : Nat} (x y : Value) : Kep (fun b => b ≠ g) w ((w.setCell ⟨g, 0, none⟩ x).setCell ⟨g, 1, none⟩ y) := (kep_set0 x).trans (kep_set0 y)

section
variable {P : Program} {fn : Func} {t : TypeId} {d : TypeDesc}
theorem results_box1 {p : Tmp} (h : fn.results = #[.cell p t]) (hu : P.underlying t = some d) (hd : (match d with | .struct _ | .array _ _ => true | _ => false) = true) (hi : (P.info? t).map (·.size) = some 2) (tmps : Array Value) (w : World) (g : Nat) (a b : Value)
    (hp : tmps.getD p undef = .pointer (some ⟨g, 0, none⟩)) (hg : Two w g t a b) : (results fn tmps).run P w = .ok (.agg #[a, b]) w := by
  have hp' : tmps[p]?.getD undef = .pointer (some ⟨g, 0, none⟩) := by simpa using hp
  have hl := run_loadVar_row (P := P) w g t t _ (0, 0) d hg hu hd hi
  simp [results, h, hp', asAddr, hl]
theorem results_box2 {p u : Tmp} (h : fn.results = #[.cell p t, .tmp u]) (hu : P.underlying t = some d) (hd : (match d with | .struct _ | .array _ _ => true | _ => false) = true) (hi : (P.info? t).map (·.size) = some 2) (tmps : Array Value) (w : World) (g : Nat) (a b : Value)
    (hp : tmps.getD p undef = .pointer (some ⟨g, 0, none⟩)) (hg : Two w g t a b) : (results fn tmps).run P w = .ok (.tuple #[.agg #[a, b], tmps.getD u undef]) w := by
  have hp' : tmps[p]?.getD undef = .pointer (some ⟨g, 0, none⟩) := by simpa using hp
  have hl := run_loadVar_row (P := P) w g t t _ (0, 0) d hg hu hd hi
  simp [results, h, hp', asAddr, hl]
theorem results_box3 {p u v : Tmp} (h : fn.results = #[.cell p t, .tmp u, .tmp v]) (hu : P.underlying t = some d) (hd : (match d with | .struct _ | .array _ _ => true | _ => false) = true) (hi : (P.info? t).map (·.size) = some 2) (tmps : Array Value) (w : World) (g : Nat) (a b : Value)
    (hp : tmps.getD p undef = .pointer (some ⟨g, 0, none⟩)) (hg : Two w g t a b) : (results fn tmps).run P w = .ok (.tuple #[.agg #[a, b], tmps.getD u undef, tmps.getD v undef]) w := by
  have hp' : tmps[p]?.getD undef = .pointer (some ⟨g, 0, none⟩) := by simpa using hp
  have hl := run_loadVar_row (P := P) w g t t _ (0, 0) d hg hu hd hi
  simp [results, h, hp', asAddr, hl]
end
end Go.Proofs.Ytgacfihidpijeaa.MM
