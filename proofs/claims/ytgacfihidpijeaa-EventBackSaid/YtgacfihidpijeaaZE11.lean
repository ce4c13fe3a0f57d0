/-
  Maps keyed by texts, whatever their elements: as functions of the keys; ranges over them. No condition. A map from texts to rows of places, as a rising row of terms: how it is looked into, how a place is put. No condition. DERIVED: THE SHELF's CONTRACTS AT THIS DUMP, IN PLAIN WORDS (tools/lay-plain.mjs out of 'TrySortSoft.lean', which tools/lay-shelf.mjs wrote): THE SAME DECLARATIONS UNDER THE SAME NAMES: 'import', 'namespace', 'open', 'def', 'theorem' AND NOTHING ELSE: no command of the shelf's: FOR A HAND-IN. Each laying: the table of numbers ('.._ren') and one theorem, a field a fact of the dump's own or the kernel's comparison; each contract: ONE APPLICATION. Terms are sorted: cmp.Compare of texts, the function that is handed over, slices.SortFunc at terms. No condition but a length below 2^62.
-/
import Derived.Test.YtgacfihidpijeaaZE2
import Derived.Maps.Own
import Derived.Maps.OwnOps
import Derived.Maps.OwnSet
import Derived.Maps.Views
import Derived.Maps.RangeWalk
import Derived.Sort.MapsRangeIn
import Derived.StringKeys
import Derived.Test.YtgacfihidpijeaaZE3
import Derived.Test.YtgacfihidpijeaaZE5
import Derived.Shelf.SlSortCmp.WholeK
import Derived.Ground.SlsfProg
import Derived.Test.YtgacfihidpijeaaProg
import Derived.Laws.Cover1
set_option linter.unusedVariables false
namespace Go.Proofs.Ytgacfihidpijeaa.SM
open Go Go.RowKit Go.Proofs.Ytgacfihidpijeaa.MM Go.Maps

/-! ### the map as a function -/
/-- An element reads as itself. -/
abbrev R0 : Value → Option (DataW Value × List MemPlace) := fun v => some (.held v, [])
theorem strKeyed : Keyed Try.prog 9 := string_keyed Try.underlying9
/-- Block mb is a map of m names, whose elements are F's. -/
def MapV (w : World) (mb m : Nat) (F : List UInt8 → Option Value) : Prop :=
  ∃ D : DataW Value, w.ownsMap Try.prog 9 R0 mb m D ∧ Maps.size D = m ∧ ∀ n, Maps.has D (.string n) = (F n).isSome ∧ ∀ v, F n = some v → ∀ z, D.atKey (.string n) z = .held v
theorem keyS (n : List UInt8) (hn : n.length ≤ maxLen) : keyOf Try.prog 9 (.string ⟨n.toArray⟩) = some (.string n) := Go.WideMaps.keyOf_string_mk (s := ⟨n.toArray⟩) Try.underlying9 (by rw [Lib.size_eq]; exact hn)
theorem MapV.lt {w : World} {mb m : Nat} {F : List UInt8 → Option Value} (h : MapV w mb m F) : mb < w.heap.size := by
  obtain ⟨D, hD, _⟩ := h
  exact hD.lt
theorem owns_kep {S : Nat → Prop} {w w' : World} {R : Value → Option (DataW Value × List MemPlace)} {mb m : Nat} {D : DataW Value} (h : w.ownsMap Try.prog 9 R mb m D) (hk : Kep S w w') (hS : S mb) : w'.ownsMap Try.prog 9 R mb m D := by
  have hlt := h.lt
  obtain ⟨es, clock, hb, F, hs, hD⟩ := h
  exact ⟨es, clock, (hk.block mb hlt hS).trans hb, F, hs, hD⟩
theorem MapV.kep {S : Nat → Prop} {w w' : World} {mb m : Nat} {F : List UInt8 → Option Value} (h : MapV w mb m F) (hk : Kep S w w') (hS : S mb) : MapV w' mb m F := by
  obtain ⟨D, hD, h2⟩ := h
  exact ⟨D, owns_kep hD hk hS, h2⟩
theorem MapV.below {w w' : World} {mb m : Nat} {F : List UInt8 → Option Value} (h : MapV w mb m F) (hb : Below w.heap.size w w') : MapV w' mb m F := h.kep (kep_below (fun _ => True) hb) trivial
theorem MapV.made (w : World) : MapV (w.alloc (.map #[] 0)) w.heap.size 0 (fun _ => none) :=
  ⟨.map [], World.ownsMap_made _ _ _ _, rfl, fun n => ⟨rfl, fun v h => by cases h⟩⟩
/-- It has no cells. -/
theorem MapV.obj {w : World} {mb m : Nat} {F : List UInt8 → Option Value} (h : MapV w mb m F) : ∃ es c, w.heap[mb]? = some (.map es c) := by
  obtain ⟨D, ⟨es, c, hb, _⟩, _⟩ := h
  exact ⟨es, c, hb⟩
theorem MapV.look_ok {T E : TypeId} (hT : Try.prog.underlying T = some (.map 9 E)) {Z : Value} (hZ : ∀ w, (zeroValue E).run Try.prog w = .ok Z w) {w : World} {mb m : Nat} {F : List UInt8 → Option Value} (h : MapV w mb m F) (n : List UInt8) (hn : n.length ≤ maxLen) :
    (Instr.lookup T (.map (some mb)) (.string ⟨n.toArray⟩) true).run Try.prog w = .ok (.tuple #[(F n).getD Z, .bool (F n).isSome]) w := by
  obtain ⟨D, hD, _, hF⟩ := h
  obtain ⟨v, ps, hrun, hv⟩ := World.ownsMap.look_ok hD strKeyed hT (hZ w) (zd := .held Z) (zp := []) rfl (keyS n hn)
  obtain ⟨h1, h2⟩ := hF n
  have hv : DataW.held v = D.atKey (.string n) (.held Z) := by
    simp only [R0, Option.some.injEq, Prod.mk.injEq] at hv
    exact hv.1
  rw [hrun, h1]
  cases hf : F n with
  | none =>
    rw [hf] at h1
    rw [atKey_of_not_has h1] at hv
    have hv := DataW.held.inj hv
    rw [hv]
    rfl
  | some u =>
    rw [h2 u hf] at hv
    have hv := DataW.held.inj hv
    rw [hv]
    rfl
theorem MapV.look {T E : TypeId} (hT : Try.prog.underlying T = some (.map 9 E)) {Z : Value} (hZ : ∀ w, (zeroValue E).run Try.prog w = .ok Z w) {w : World} {mb m : Nat} {F : List UInt8 → Option Value} (h : MapV w mb m F) (n : List UInt8) (hn : n.length ≤ maxLen) :
    (Instr.lookup T (.map (some mb)) (.string ⟨n.toArray⟩) false).run Try.prog w = .ok ((F n).getD Z) w := by
  obtain ⟨D, hD, _, hF⟩ := h
  obtain ⟨v, ps, hrun, hv⟩ := World.ownsMap.lookup hD strKeyed hT (hZ w) (zd := .held Z) (zp := []) rfl (keyS n hn)
  obtain ⟨h1, h2⟩ := hF n
  have hv : DataW.held v = D.atKey (.string n) (.held Z) := by
    simp only [R0, Option.some.injEq, Prod.mk.injEq] at hv
    exact hv.1
  rw [hrun]
  cases hf : F n with
  | none =>
    rw [hf] at h1
    rw [atKey_of_not_has h1] at hv
    have hv := DataW.held.inj hv
    rw [hv]
    rfl
  | some u =>
    rw [h2 u hf] at hv
    have hv := DataW.held.inj hv
    rw [hv]
    rfl
theorem MapV.len {T E : TypeId} (hT : Try.prog.underlying T = some (.map 9 E)) {w : World} {mb m : Nat} {F : List UInt8 → Option Value} (h : MapV w mb m F) (ty : TypeId) : (Builtin.len_ #[T] ty #[.map (some mb)]).run Try.prog w = .ok (.int .i64 (m : Int)) w := by
  obtain ⟨D, hD, hm, _⟩ := h
  have := hD.len hT ty
  rw [hm] at this
  exact this
theorem own_tight {w : World} {mb m : Nat} {D : DataW Value} (h : w.ownsMap Try.prog 9 R0 mb m D) : w.ownsMap Try.prog 9 R0 mb (Maps.size D) D := by
  obtain ⟨es, c, hb, F, hs, rfl⟩ := h
  exact ⟨es, c, hb, F, by simp [Maps.size, length_sorted], rfl⟩
theorem key_ne {n k : List UInt8} (h : n ≠ k) : (Lit.string n) ≠ Lit.string k := fun e => h (by injection e)
theorem MapV.put_of {w' : World} {mb m j : Nat} {F : List UInt8 → Option Value} {D : DataW Value} {n : List UInt8} {v : Value} (hT : Tidy D) (hm : Maps.size D = m) (hF : ∀ n, Maps.has D (.string n) = (F n).isSome ∧ ∀ v, F n = some v → ∀ z, D.atKey (.string n) z = .held v)
    (h : w'.ownsMap Try.prog 9 R0 mb j (D.put (.string n) (.held v))) : MapV w' mb (if (F n).isSome then m else m + 1) (fun k => if k = n then some v else F k) := by
  have hk : WideAt.IsKeyLit (.string n) := trivial
  have hs : Maps.size (D.put (.string n) (.held v)) = if (F n).isSome then m else m + 1 := by rw [size_put hT, (hF n).1, hm]
  refine ⟨_, hs ▸ own_tight h, hs, fun k => ?_⟩
  show Maps.has (D.put (.string n) (.held v)) (.string k) = (if k = n then some v else F k).isSome ∧ ∀ u, (if k = n then some v else F k) = some u → ∀ z, (D.put (.string n) (.held v)).atKey (.string k) z = .held u
  by_cases e : k = n
  · subst e
    rw [has_put_same hT.isMap hk]
    refine ⟨by simp, fun u hu z => ?_⟩
    rw [if_pos rfl] at hu
    have hu := Option.some.inj hu
    rw [atKey_put_same hT.isMap hk, hu]
  · rw [has_put_other (key_ne e), if_neg e]
    refine ⟨(hF k).1, fun u hu z => ?_⟩
    rw [atKey_put_other (key_ne e)]
    exact (hF k).2 u hu z
theorem turned_kep {w w' : World} {mb : Nat} (h : w.mapTurned w' mb) : Kep (fun k => k ≠ mb) w w' := kep_grown h.grown (fun k e hk => hk (by injection e with e; exact e.symm))
/-- 'm[n] = v', as a run. -/
theorem MapV.store {T E : TypeId} (hT : Try.prog.underlying T = some (.map 9 E)) {w : World} {mb m : Nat} {F : List UInt8 → Option Value} (h : MapV w mb m F) (n : List UInt8) (v : Value) (hn : n.length ≤ maxLen) (hm : m < maxLen) :
    ∃ w', (Instr.mapUpdate T (.map (some mb)) (.string ⟨n.toArray⟩) v).run Try.prog w = .ok () w' ∧ MapV w' mb (if (F n).isSome then m else m + 1) (fun k => if k = n then some v else F k) ∧ Kep (fun k => k ≠ mb) w w' := by
  obtain ⟨D, hD, hs, hF⟩ := h
  obtain ⟨w', hrun, h1, h2⟩ := World.ownsMap.store hD strKeyed hT hm (keyS n hn) (val := v) (d := .held v) (ps := []) rfl
  exact ⟨w', hrun, MapV.put_of (hD.tidy strKeyed) hs hF h1, turned_kep h2⟩
/-- 'delete(m, n)', as a run. -/
theorem MapV.drop {T E : TypeId} (hT : Try.prog.underlying T = some (.map 9 E)) {w : World} {mb m : Nat} {F : List UInt8 → Option Value} (h : MapV w mb m F) (n : List UInt8) (hn : n.length ≤ maxLen) (ty : TypeId) :
    ∃ w', (Builtin.delete_ #[T, 9] ty #[.map (some mb), .string ⟨n.toArray⟩]).run Try.prog w = .ok (.tuple #[]) w' ∧ MapV w' mb (if (F n).isSome then m - 1 else m) (fun k => if k = n then none else F k) ∧ Kep (fun k => k ≠ mb) w w' := by
  obtain ⟨D, hD, hs, hF⟩ := h
  obtain ⟨w', hrun, h1, h2⟩ := World.ownsMap.drop hD strKeyed hT (keyS n hn) ty
  have hT := hD.tidy strKeyed
  have hz : Maps.size (D.del (.string n)) = if (F n).isSome then m - 1 else m := by
    have := size_del (k := .string n) hT
    rw [(hF n).1, hs] at this
    cases hf : (F n).isSome <;> rw [hf] at this <;> simp at this ⊢ <;> omega
  refine ⟨w', hrun, ⟨_, hz ▸ own_tight h1, hz, fun k => ?_⟩, turned_kep h2⟩
  show Maps.has (D.del (.string n)) (.string k) = (if k = n then none else F k).isSome ∧ ∀ u, (if k = n then none else F k) = some u → ∀ z, (D.del (.string n)).atKey (.string k) z = .held u
  by_cases e : k = n
  · subst e
    rw [has_del_same, if_pos rfl]
    exact ⟨rfl, fun u hu => by cases hu⟩
  · rw [has_del_other (key_ne e), if_neg e]
    refine ⟨(hF k).1, fun u hu z => ?_⟩
    rw [atKey_del_other (key_ne e)]
    exact (hF k).2 u hu z
/-- 'm[n] = v' at the operation. -/
theorem wp_mapV_store {T E : TypeId} (hT : Try.prog.underlying T = some (.map 9 E)) {w : World} {o : Oper} {a : Act} {K : Act → World → Prop} {Q : Exit → Act → World → Prop} (x y z : Operand) (hop : o.op = Op.mapUpdate T x y z) (mb m : Nat) (F : List UInt8 → Option Value) (hx : a.eval x = .map (some mb)) (h : MapV w mb m F) (hm : m < maxLen)
    (n : List UInt8) (v : Value) (hy : a.eval y = .string ⟨n.toArray⟩) (hz : a.eval z = v) (hn : n.length ≤ maxLen)
    (hK : ∀ w', MapV w' mb (if (F n).isSome then m else m + 1) (fun k => if k = n then some v else F k) → Kep (fun k => k ≠ mb) w w' → K (a.put o.dst undef) w') : o.wp Try.prog a w K Q := by
  obtain ⟨w', hrun, h1, h2⟩ := MapV.store hT h n v hn hm
  unfold Oper.wp
  simp [execOp, hop, hx, hy, hz, hrun, Result.andThen]
  exact hK w' h1 h2

/-- A range over the map mb under way, by the iterator r: left: the names that are still to come. -/
def RangeV (w : World) (mb r m : Nat) (F : List UInt8 → Option Value) (left : List UInt8 → Bool) (cnt : Nat) : Prop :=
  ∃ (D : DataW Value) (lf : Lit → Bool), w.ranges Try.prog 9 R0 mb r m D lf cnt ∧ (∀ n, Maps.has D (.string n) = (F n).isSome ∧ ∀ v, F n = some v → ∀ z, D.atKey (.string n) z = .held v) ∧ ∀ n, left n = lf (.string n)
theorem RangeV.kep {S : Nat → Prop} {w w' : World} {mb r m : Nat} {F : List UInt8 → Option Value} {left : List UInt8 → Bool} {cnt : Nat} (h : RangeV w mb r m F left cnt) (hk : Kep S w w') (h1 : S mb) (h2 : S r) : RangeV w' mb r m F left cnt := by
  obtain ⟨D, lf, hr, h3⟩ := h
  have hb := hr.owns.lt
  have hl := hr.lt
  obtain ⟨es, clock, since, seen, c0, g1, g2, g3, g4, g5, rest⟩ := hr
  exact ⟨D, lf, ⟨es, clock, since, seen, c0, (hk.block mb hb h1).trans g1, g2, g3, g4, (hk.block r hl h2).trans g5, rest⟩, h3⟩
theorem RangeV.left_eq {w : World} {mb r m : Nat} {F : List UInt8 → Option Value} {left : List UInt8 → Bool} {cnt : Nat} (h : RangeV w mb r m F left cnt) : w.rangeLeft mb r = cnt := by
  obtain ⟨D, lf, hr, _⟩ := h
  exact hr.left_eq
theorem RangeV.lt {w : World} {mb r m : Nat} {F : List UInt8 → Option Value} {left : List UInt8 → Bool} {cnt : Nat} (h : RangeV w mb r m F left cnt) : r < w.heap.size ∧ mb < w.heap.size ∧ r ≠ mb := by
  obtain ⟨D, lf, hr, _⟩ := h
  exact ⟨hr.lt, hr.owns.lt, hr.ne⟩
theorem grown_kep {w w' : World} {r : Nat} (h : w.grownBy w' (some r)) : Kep (fun k => k ≠ r) w w' := kep_grown h fun k e hk => hk (Option.some.inj e).symm
theorem wpList_range_map {T E : TypeId} (hT : Try.prog.underlying T = some (.map 9 E)) {w : World} {ops : Array Oper} {rest : List Oper} {o : Oper} {a : Act} {Q : Exit → Act → World → Prop} (hg : o.guard = none) (x : Operand) (hop : o.op = Op.range T x) (mb m : Nat) (F : List UInt8 → Option Value)
    (hx : a.eval x = .map (some mb)) (h : MapV w mb m F)
    (hK : ∀ w' cnt, RangeV w' mb w.heap.size m F (fun n => (F n).isSome) cnt → Below w.heap.size w w' → w'.heap.size = w.heap.size + 1 → wpList Try.prog ops Q rest (a.put o.dst (.pointer (some ⟨w.heap.size, 0, none⟩))) w') :
    wpList Try.prog ops Q (o :: rest) a w := by
  obtain ⟨D, hD, hs, hF⟩ := h
  refine wpList_range_own w hg x T hop 9 E strKeyed hT R0 mb m D hx hD fun w' h1 h2 h3 => ?_
  exact hK w' _ ⟨D, _, h1, hF, fun n => ((hF n).1).symm⟩ ((Below.refl _ _).grown h2 (Nat.le_refl _) (fun k h => by cases h)) h3
theorem wpList_next_map {w : World} {ops : Array Oper} {rest : List Oper} {o : Oper} {a : Act} {Q : Exit → Act → World → Prop} (hg : o.guard = none) (it : Operand) (hop : o.op = Op.next it false) (mb r m : Nat) (F : List UInt8 → Option Value) (left : List UInt8 → Bool) (cnt : Nat)
    (hit : a.eval it = .pointer (some ⟨r, 0, none⟩)) (h : RangeV w mb r m F left cnt)
    (hDone : (∀ n, left n = false) → wpList Try.prog ops Q rest (a.put o.dst (.tuple #[.bool false])) w)
    (hMore : ∀ (n : List UInt8) (v : Value) (w' : World) (cnt' : Nat), n.length ≤ maxLen → left n = true → F n = some v → RangeV w' mb r m F (fun k => left k && !decide (k = n)) cnt' → cnt' < cnt → Kep (fun k => k ≠ r) w w' → w'.heap.size = w.heap.size →
      (Instr.entry (.pointer (some ⟨r, 0, none⟩))).run Try.prog w' = .ok (.tuple #[.string ⟨n.toArray⟩, v]) w' → wpList Try.prog ops Q rest (a.put o.dst (.tuple #[.bool true, .string ⟨n.toArray⟩, v])) w') :
    wpList Try.prog ops Q (o :: rest) a w := by
  obtain ⟨D, lf, hr, hF, hlf⟩ := h
  refine wpList_next_ranges w hg it hop 9 strKeyed R0 Value.string (fun v : Value => v) (fun key kl hk => Maps.keyOf_string_inv Try.underlying9 hk) (fun v y _ => ⟨v, rfl⟩) mb r m D lf cnt hit hr ?_ ?_
  · intro _ hl
    exact hDone fun n => by rw [hlf, hl]
  · intro x v kl y w' cnt' hkey hl hv hat hrg hlt hgr hsz hen
    have hy : y.1 = .held v := by
      have := Option.some.inj hv
      rw [← this]
    have hlen : x.size ≤ maxLen := by
      simp only [keyOf, Try.underlying9, mapKey] at hkey
      by_cases q : x.size ≤ maxLen
      · exact q
      · simp [q] at hkey
    have hkl : kl = .string x.data.toList := by
      rw [Go.WideMaps.keyOf_string_mk Try.underlying9 hlen] at hkey
      exact (Option.some.inj hkey).symm
    subst hkl
    rw [hy] at hat
    have hhas := has_true_of_atKey hat
    rw [(hF x.data.toList).1] at hhas
    obtain ⟨u, hu⟩ := Option.isSome_iff_exists.1 hhas
    have huv : u = v := by
      have h1 := (hF x.data.toList).2 u hu (.held v)
      rw [hat] at h1
      exact (DataW.held.inj h1).symm
    subst huv
    refine hMore x.data.toList u w' cnt' (by rw [← Lib.size_eq]; exact hlen) (by rw [hlf]; exact hl) hu ⟨D, _, hrg, hF, fun k => ?_⟩ hlt (grown_kep hgr) hsz hen
    have e : (Lit.string k).sameKey (.string x.data.toList) = decide (k = x.data.toList) := by
      by_cases q : k = x.data.toList
      · subst q
        rw [decide_eq_true rfl]
        exact WideAt.sameKey_self trivial
      · rw [decide_eq_false q]
        exact sameKey_ne (key_ne q)
    show (left k && !decide (k = x.data.toList)) = (lf (.string k) && !(Lit.string k).sameKey (.string x.data.toList))
    rw [hlf k, e]
end Go.Proofs.Ytgacfihidpijeaa.SM
set_option linter.unusedVariables false
namespace Go.Proofs.Ytgacfihidpijeaa.EV
open Go Go.RowKit Go.Proofs.Ytgacfihidpijeaa.MM Go.Proofs.Ytgacfihidpijeaa.EM Go.Proofs.Ytgacfihidpijeaa.SM

theorem intE : Elem cInt Try.prog 60 3 8 := ⟨Try.underlying60, by
  have h : (Try.prog.info? 3).map (fun i => (i.zero, i.size, i.bytes)) = some (some (.int .i64 0), 1, 8) := by kernel_rfl
  obtain ⟨i, h1, h2, h3, h4⟩ := info_parts h
  exact ⟨i, _, h1, h2, h3, h4, rfl⟩⟩
def NoS : Nat → Prop := fun _ => False
/-- A row of numbers of the call's own. -/
abbrev OwnZ (w : World) (v : Value) (zs : List Int) : Prop := OwnS cInt 3 NoS w v zs
theorem OwnZ.of {S : Nat → Prop} {w : World} {v : Value} {zs : List Int} (h : OwnS cInt 3 (fun b => NoS b ∧ S b) w v zs) : OwnZ w v zs := h.weak (fun _ _ h => h.1) (fun _ _ h => h)
/-- A block of numbers. -/
def IntsOf (w : World) (b : Nat) : Prop := ∃ cur fr, w.heap[b]? = some (.cells cur 3 fr)
theorem OwnZ.ints {w : World} {v : Value} {zs : List Int} (h : OwnZ w v zs) {g : Nat} (hg : v.ownBlock = some g) : IntsOf w g := by
  obtain ⟨raw, h1, _⟩ := h
  exact (own_cells h1 hg).2
theorem OwnZ.keep {T : Nat → Prop} {w w' : World} {v : Value} {zs : List Int} (h : OwnZ w v zs) (hk : Kep T w w') (hg : ∀ g, v.ownBlock = some g → T g) : OwnZ w' v zs := OwnS.keep h hk (fun _ _ h => h.elim) hg
theorem OwnZ.nil_ (w : World) : OwnZ w (.slice none 0 0) [] := OwnS.nil_ _ _ _
theorem zeroInts (w : World) : (zeroValue 60).run Try.prog w = .ok (.slice none 0 0) w := by kernel_rfl

theorem addP_len {α : Type} : ∀ {l : List (EM.Tr α)} (s : List UInt8) (p : α), Rising l → (∀ t ∈ l, t.2 ≠ []) → (addP l s p).length = if posOf l s = [] then l.length + 1 else l.length
  | [], s, p, _, _ => by simp [addP, posOf]
  | t :: r, s, p, h, hn => by
    have hr : Rising r := (List.pairwise_cons.1 h).2
    have ih := addP_len (l := r) s p hr fun u hu => hn u (by simp [hu])
    rw [addP]
    by_cases h1 : lessL t.1 s = true
    · rw [if_pos h1, List.length_cons, ih, posOf, if_neg (lessL_ne h1), List.length_cons]
      split <;> rfl
    · rw [if_neg h1]
      by_cases h2 : t.1 = s
      · rw [if_pos h2, posOf, if_pos h2, if_neg (hn t (by simp))]; rfl
      · rw [if_neg h2, posOf, if_neg h2]
        have hs : lessL s t.1 = true := lessL_total (by simpa using h1) h2
        have : posOf r s = [] := posOf_none fun u hu e => by
          have h3 : lessL t.1 u.1 = true := (List.pairwise_cons.1 h).1 u hu
          rw [e] at h3
          exact h1 h3
        rw [if_pos this]; rfl

theorem addP_len_le {α : Type} : ∀ (l : List (EM.Tr α)) (s : List UInt8) (p : α), (addP l s p).length ≤ l.length + 1
  | [], s, p => by simp [addP]
  | t :: r, s, p => by
    have ih := addP_len_le r s p
    rw [addP]
    split
    · simp only [List.length_cons]; omega
    · split <;> simp
theorem foldP_len_le {α : Type} : ∀ (qs : List (List UInt8 × α)) (l : List (EM.Tr α)), (foldP l qs).length ≤ l.length + qs.length
  | [], l => by simp [foldP]
  | q :: qs, l => by
    have h1 := foldP_len_le qs (addP l q.1 q.2)
    have h2 := addP_len_le l q.1 q.2
    have e : foldP l (q :: qs) = foldP (addP l q.1 q.2) qs := rfl
    rw [e, List.length_cons]
    omega
theorem posOf_len_le {α : Type} (qs : List (List UInt8 × α)) (s : List UInt8) : (posOf (foldP ([] : List (EM.Tr α)) qs) s).length ≤ qs.length := by
  rw [posOf_fold qs s List.Pairwise.nil, posOf, List.nil_append, List.length_map]
  exact List.length_filter_le _ _
/-- The map mb tells these terms. -/
structure Plc (B mb : Nat) (T : List Trm) (F : List UInt8 → Option Value) (w : World) : Prop where
  map : MapV w mb T.length F
  lo : B ≤ mb
  none : ∀ s, F s = none → posOf T s = []
  own : ∀ s v, F s = some v → OwnZ w v (posOf T s) ∧ posOf T s ≠ [] ∧ ∀ g, v.ownBlock = some g → B ≤ g
  apart : ∀ s t u v g, F s = some u → F t = some v → u.ownBlock = some g → v.ownBlock = some g → s = t
  rise : Rising T
  ne : ∀ t ∈ T, t.2 ≠ []
theorem Plc.keep {S : Nat → Prop} {B mb : Nat} {T : List Trm} {F : List UInt8 → Option Value} {w w' : World} (h : Plc B mb T F w) (hk : Kep S w w') (hm : S mb) (hS : ∀ b, IntsOf w b → S b) : Plc B mb T F w' :=
  ⟨h.map.kep hk hm, h.lo, h.none, fun s v hv => ⟨(h.own s v hv).1.keep hk fun g hg => hS g ((h.own s v hv).1.ints hg), (h.own s v hv).2⟩, h.apart, h.rise, h.ne⟩
theorem Plc.below {B mb : Nat} {T : List Trm} {F : List UInt8 → Option Value} {w w' : World} (h : Plc B mb T F w) (hb : Below w.heap.size w w') : Plc B mb T F w' := h.keep (kep_below (fun _ => True) hb) trivial fun _ _ => trivial
theorem Plc.made (w : World) (B : Nat) (hB : B ≤ w.heap.size) : Plc B w.heap.size [] (fun _ => Option.none) (w.alloc (.map #[] 0)) :=
  ⟨MapV.made w, hB, fun _ _ => rfl, fun _ _ h => (by cases h), fun _ _ _ _ _ h => (by cases h), List.Pairwise.nil, fun _ h => (by cases h)⟩
theorem Plc.not_ints {B mb : Nat} {T : List Trm} {F : List UInt8 → Option Value} {w : World} (h : Plc B mb T F w) : ¬ IntsOf w mb := fun ⟨cur, fr, hc⟩ => by
  obtain ⟨es, c, hm⟩ := h.map.obj
  rw [hm] at hc
  cases hc
/-- What is found. -/
def found (F : List UInt8 → Option Value) (s : List UInt8) : Value := (F s).getD (.slice Option.none 0 0)
theorem Plc.look {B mb : Nat} {T : List Trm} {F : List UInt8 → Option Value} {w : World} (h : Plc B mb T F w) (s : List UInt8) (hs : s.length ≤ maxLen) : (Instr.lookup 90 (.map (some mb)) (.string ⟨s.toArray⟩) false).run Try.prog w = .ok (found F s) w :=
  MapV.look Try.underlying90 zeroInts h.map s hs
theorem Plc.found {B mb : Nat} {T : List Trm} {F : List UInt8 → Option Value} {w : World} (h : Plc B mb T F w) (s : List UInt8) : OwnZ w (found F s) (posOf T s) ∧ ∀ g, (EV.found F s).ownBlock = some g → B ≤ g ∧ g ≠ mb ∧ IntsOf w g ∧ g < w.heap.size := by
  unfold EV.found
  cases hf : F s with
  | none =>
    rw [h.none s hf]
    exact ⟨OwnZ.nil_ w, fun g hg => by cases hg⟩
  | some v =>
    obtain ⟨h1, _, h2⟩ := h.own s v hf
    exact ⟨h1, fun g hg => ⟨h2 g hg, fun e => h.not_ints (e ▸ h1.ints hg), h1.ints hg, (OwnS.lt h1 g hg).1⟩⟩
theorem Plc.some_iff {B mb : Nat} {T : List Trm} {F : List UInt8 → Option Value} {w : World} (h : Plc B mb T F w) (s : List UInt8) : (F s).isSome = true ↔ posOf T s ≠ [] := by
  cases hf : F s with
  | none => simp [h.none s hf]
  | some v => simp [(h.own s v hf).2.1]
/-- A place is put: the row has grown (w1), then the map (w2). -/
theorem Plc.put {B mb : Nat} {T : List Trm} {F : List UInt8 → Option Value} {w w1 w2 : World} {s : List UInt8} {p : Int} {v : Value} (h : Plc B mb T F w) (hBw : B ≤ w.heap.size)
    (hk1 : Kep (fun k => (EV.found F s).ownBlock ≠ some k) w w1) (ho : OwnZ w1 v (posOf T s ++ [p])) (hg : ∀ g, v.ownBlock = some g → (EV.found F s).ownBlock = some g ∨ w.heap.size ≤ g)
    (hm : MapV w2 mb (if (F s).isSome then T.length else T.length + 1) (fun k => if k = s then some v else F k)) (hk2 : Kep (fun k => k ≠ mb) w1 w2) : Plc B mb (addP T s p) (fun k => if k = s then some v else F k) w2 := by
  have hf := h.found s
  have hlen : (if (F s).isSome then T.length else T.length + 1) = (addP T s p).length := by
    rw [addP_len s p h.rise h.ne]
    by_cases hq : posOf T s = []
    · rw [if_pos hq, if_neg (fun e => (h.some_iff s).1 e hq)]
    · rw [if_neg hq, if_pos ((h.some_iff s).2 hq)]
  rw [hlen] at hm
  have hvB : ∀ g, v.ownBlock = some g → B ≤ g := fun g hv => by
    rcases hg g hv with h1 | h1
    · exact (hf.2 g h1).1
    · omega
  have hvm : ∀ g, v.ownBlock = some g → g ≠ mb := fun g hv => by
    rcases hg g hv with h1 | h1
    · exact (hf.2 g h1).2.1
    · have := h.map.lt; omega
  have hoth : ∀ t u, t ≠ s → F t = some u → ∀ g, u.ownBlock = some g → (EV.found F s).ownBlock ≠ some g := fun t u hne hu g hg e => by
    unfold EV.found at e
    cases hF : F s with
    | none => rw [hF] at e; cases e
    | some u2 =>
      rw [hF] at e
      exact hne (h.apart t s u u2 g hu hF hg e)
  refine ⟨hm, h.lo, fun t ht => ?_, fun t u hu => ?_, fun t t' u u' g hu hu' h1 h2 => ?_, addP_rising s p h.rise, addP_ne s p h.ne⟩
  · rw [posOf_add s p t h.rise]
    by_cases e : t = s
    · rw [if_pos e] at ht; cases ht
    · rw [if_neg e] at ht ⊢
      exact h.none t ht
  · rw [posOf_add s p t h.rise]
    by_cases e : t = s
    · rw [if_pos e] at hu ⊢
      obtain rfl := Option.some.inj hu
      exact ⟨ho.keep hk2 hvm, by simp, hvB⟩
    · rw [if_neg e] at hu ⊢
      obtain ⟨h1, h2, h3⟩ := h.own t u hu
      refine ⟨(h1.keep hk1 (hoth t u e hu)).keep hk2 fun g hg e2 => ?_, h2, h3⟩
      exact h.not_ints (e2 ▸ h1.ints hg)
  · by_cases e : t = s
    · by_cases e' : t' = s
      · rw [e, e']
      · rw [if_pos e] at hu
        rw [if_neg e'] at hu'
        obtain rfl := Option.some.inj hu
        rcases hg g h1 with h3 | h3
        · exact absurd h3 (hoth t' u' e' hu' g h2)
        · have := (OwnS.lt (h.own t' u' hu').1 g h2).1
          omega
    · by_cases e' : t' = s
      · rw [if_neg e] at hu
        rw [if_pos e'] at hu'
        obtain rfl := Option.some.inj hu'
        rcases hg g h2 with h3 | h3
        · exact absurd h3 (hoth t u e hu g h1)
        · have := (OwnS.lt (h.own t u hu).1 g h1).1
          omega
      · rw [if_neg e] at hu
        rw [if_neg e'] at hu'
        exact h.apart t t' u u' g hu hu' h1 h2
end Go.Proofs.Ytgacfihidpijeaa.EV
namespace Go.Proofs
open Go.Shelf
def Try.sortTerm_ren : Go.Shelf.Ren := ⟨fun | 6 => 56 | 15 => 80 | 14 => 79 | 28 => 100 | 29 => 90 | 20 => 92 | 21 => 93 | 22 => 94 | 23 => 95 | 24 => 96 | 25 => 97 | 26 => 98 | 27 => 99 | 46 => 108 | 47 => 109 | 48 => 110 | 49 => 111 | 50 => 112 | 57 => 116 | n => n, fun | 22 => 56 | 24 => 62 | 25 => 100 | 3 => 3 | 39 => 115 | 0 => 0 | 53 => 135 | 55 => 77 | 4 => 4 | 46 => 128 | 45 => 127 | 50 => 132 | 5 => 5 | 9 => 9 | 66 => 139 | 70 => 143 | 76 => 149 | 77 => 121 | n => n, fun | n => n⟩
theorem Try.sortTerm : Go.Proofs.SlLaysF0.n6 Try.prog Try.sortTerm_ren := {
  mixed := by kernel_rfl
  f6 := ⟨Try.f56.name, by decide, Try.func56.trans (congrArg some (by kernel_rfl))⟩
  f14 := ⟨Try.f79.name, by decide, Try.func79.trans (congrArg some (by kernel_rfl))⟩
  f15 := Try.func80.trans (congrArg some (by kernel_rfl))
  f20 := ⟨Try.f92.name, by decide, Try.func92.trans (congrArg some (by kernel_rfl))⟩
  f21 := ⟨Try.f93.name, by decide, Try.func93.trans (congrArg some (by kernel_rfl))⟩
  f22 := ⟨Try.f94.name, by decide, Try.func94.trans (congrArg some (by kernel_rfl))⟩
  f23 := ⟨Try.f95.name, by decide, Try.func95.trans (congrArg some (by kernel_rfl))⟩
  f24 := ⟨Try.f96.name, by decide, Try.func96.trans (congrArg some (by kernel_rfl))⟩
  f25 := ⟨Try.f97.name, by decide, Try.func97.trans (congrArg some (by kernel_rfl))⟩
  f26 := ⟨Try.f98.name, by decide, Try.func98.trans (congrArg some (by kernel_rfl))⟩
  f27 := ⟨Try.f99.name, by decide, Try.func99.trans (congrArg some (by kernel_rfl))⟩
  f28 := Try.func100.trans (congrArg some (by kernel_rfl))
  f29 := Try.func90.trans (congrArg some (by kernel_rfl))
  f46 := ⟨Try.f108.name, by decide, Try.func108.trans (congrArg some (by kernel_rfl))⟩
  f47 := Try.func109.trans (congrArg some (by kernel_rfl))
  f48 := Try.func110.trans (congrArg some (by kernel_rfl))
  f49 := ⟨Try.f111.name, by decide, Try.func111.trans (congrArg some (by kernel_rfl))⟩
  f50 := ⟨Try.f112.name, by decide, Try.func112.trans (congrArg some (by kernel_rfl))⟩
  f57 := ⟨Try.f116.name, by decide, Try.func116.trans (congrArg some (by kernel_rfl))⟩
  t0 := Try.underlying0
  a0 := Try.isAgg0
  z0 := Try.sizeOf0
  v0 := Try.zeroValue0
  t3 := Try.underlying3
  a3 := Try.isAgg3
  z3 := Try.sizeOf3
  v3 := Try.zeroValue3
  t4 := Try.underlying4
  a4 := Try.isAgg4
  z4 := Try.sizeOf4
  v4 := Try.zeroValue4
  t5 := Try.underlying5
  a5 := Try.isAgg5
  z5 := Try.sizeOf5
  v5 := Try.zeroValue5
  t9 := Try.underlying9
  a9 := Try.isAgg9
  z9 := Try.sizeOf9
  v9 := Try.zeroValue9
  t22 := Try.underlying56
  a22 := Try.isAgg56
  z22 := Try.sizeOf56
  v22 := Try.zeroValue56
  t25 := Try.underlying100
  a25 := Try.isAgg100
  z25 := Try.sizeOf100
  v25 := Try.zeroValue100
  t39 := Try.underlying115
  a39 := Try.isAgg115
  z39 := Try.sizeOf115
  v39 := Try.zeroValue115
  t45 := Try.underlying127
  a45 := Try.isAgg127
  z45 := Try.sizeOf127
  v45 := Try.zeroValue127
  t46 := Try.underlying128
  a46 := Try.isAgg128
  z46 := Try.sizeOf128
  v46 := Try.zeroValue128
  t50 := Try.underlying132
  a50 := Try.isAgg132
  z50 := Try.sizeOf132
  v50 := Try.zeroValue132
  t53 := Try.underlying135
  a53 := Try.isAgg135
  z53 := Try.sizeOf135
  v53 := Try.zeroValue135
  t55 := Try.underlying77
  a55 := Try.isAgg77
  z55 := Try.sizeOf77
  v55 := Try.zeroValue77
  t66 := Try.underlying139
  a66 := Try.isAgg139
  z66 := Try.sizeOf139
  v66 := Try.zeroValue139
  t70 := Try.underlying143
  a70 := Try.isAgg143
  z70 := Try.sizeOf143
  v70 := Try.zeroValue143
  t76 := Try.underlying149
  a76 := Try.isAgg149
  z76 := Try.sizeOf149
  v76 := Try.zeroValue149
  t77 := Try.underlying121
  a77 := Try.isAgg121
  z77 := Try.sizeOf121
  v77 := Try.zeroValue121 }
end Go.Proofs
set_option linter.unusedVariables false
namespace Go.Proofs.Ytgacfihidpijeaa.EV
open Go Go.Shelf Go.RowKit Go.Proofs.Ytgacfihidpijeaa.MM Go.Proofs.Ytgacfihidpijeaa.EM Go.Sort

set_option maxRecDepth 100000 in
theorem nan_any (s : ByteArray) (w : World) : Calls Try.prog 81 #[.string s] w fun e w' => e = .returned (.bool false) ∧ w = w' := by
  have h : (s.toList != s.toList) = false := by simp
  go_enter Try.func81, Try.ntmps81
  go_wp2_with fail
  go_ret
  exact ⟨rfl, rfl⟩
def cmpL (a b : List UInt8) : Int := if lessL a b = true then -1 else if lessL b a = true then 1 else 0
theorem cmpL_cases (a b : List UInt8) : (lessL a b = true ∧ cmpL a b = -1) ∨ (lessL a b = false ∧ a = b ∧ cmpL a b = 0) ∨ (lessL a b = false ∧ a ≠ b ∧ cmpL a b = 1) := by
  unfold cmpL
  by_cases h : lessL a b = true
  · exact .inl ⟨h, by rw [if_pos h]⟩
  · have h0 : lessL a b = false := by simpa using h
    by_cases e : a = b
    · subst e
      exact .inr (.inl ⟨h0, rfl, by rw [if_neg h, if_neg h]⟩)
    · exact .inr (.inr ⟨h0, e, by rw [if_neg h, if_pos (lessL_total h0 e)]⟩)
set_option maxRecDepth 100000 in
theorem cmp_any (a b : List UInt8) (w : World) : Calls Try.prog 58 #[.string ⟨a.toArray⟩, .string ⟨b.toArray⟩] w fun e w' => e = .returned (.int .i64 (cmpL a b)) ∧ w = w' := by
  have HN1 := Lib.hid (nan_any ⟨a.toArray⟩ w)
  have HN2 := Lib.hid (nan_any ⟨b.toArray⟩ w)
  have s1 := same_list a b
  rcases cmpL_cases a b with ⟨h1, h2⟩ | ⟨h1, h3, h2⟩ | ⟨h1, h3, h2⟩
  all_goals
    rw [h2]
    have hb := less_bytes a b
    rw [h1] at hb
  · clear s1 h2 h1
    go_enter Try.func58, Try.ntmps58
    go_wp2_with fail
    refine HN1.out.mono ?_
    rintro e w2 ⟨rfl, rfl⟩
    go_wp2_with fail
    refine HN2.out.mono ?_
    rintro e w2 ⟨rfl, rfl⟩
    go_wp2_with fail
    go_ret
    exact ⟨rfl, rfl⟩
  · rw [decide_eq_true h3] at s1
    have s3 : (a == b) = true := by rw [beq_iff_eq]; exact h3
    clear h3 h2 h1
    go_enter Try.func58, Try.ntmps58
    go_wp2_with fail
    refine HN1.out.mono ?_
    rintro e w2 ⟨rfl, rfl⟩
    go_wp2_with fail
    refine HN2.out.mono ?_
    rintro e w2 ⟨rfl, rfl⟩
    go_wp2_with fail
    go_ret
    exact ⟨rfl, rfl⟩
  · rw [decide_eq_false h3] at s1
    have s3 : (a == b) = false := by rw [beq_eq_false_iff_ne]; exact h3
    clear h3 h2 h1
    go_enter Try.func58, Try.ntmps58
    go_wp2_with fail
    refine HN1.out.mono ?_
    rintro e w2 ⟨rfl, rfl⟩
    go_wp2_with fail
    refine HN2.out.mono ?_
    rintro e w2 ⟨rfl, rfl⟩
    go_wp2_with fail
    go_ret
    exact ⟨rfl, rfl⟩

/-! ### the sort at terms -/
/-- A value of one cell. -/
abbrev Cell1 := {v : Value // v.oneCell' = true}
abbrev TCell := List UInt8 × Cell1
instance instTCell : Inhabited TCell := ⟨([], ⟨.slice none 0 0, rfl⟩)⟩
def encT (x : TCell) : List Value := [.string ⟨x.1.toArray⟩, x.2.1]
def cfT (x y : TCell) : Int := cmpL x.1 y.1
theorem ltT (x y : TCell) : ltOf cfT x y = lessL x.1 y.1 := by
  unfold ltOf cfT
  rcases cmpL_cases x.1 y.1 with ⟨h1, h2⟩ | ⟨h1, h3, h2⟩ | ⟨h1, h3, h2⟩ <;> rw [h1, h2] <;> rfl
theorem swoT : SWO (ltOf cfT) where
  irrefl x := by rw [ltT]; exact lessL_irr _
  trans x y z h1 h2 := by rw [ltT] at *; exact lessL_trans h1 h2
  ntrans x y z h1 h2 := by
    rw [ltT] at *
    cases h : lessL x.1 z.1 with
    | false => rfl
    | true =>
      by_cases e : x.1 = y.1
      · rw [e] at h; rw [h] at h2; cases h2
      · have h3 := lessL_trans (lessL_total h1 e) h
        rw [h3] at h2; cases h2
set_option maxRecDepth 100000 in
set_option maxHeartbeats 1000000 in
/-- The function that is handed over: both terms are boxed. -/
theorem clo_any (a b : List UInt8) (u v : Value) (hu : u.oneCell' = true) (hv : v.oneCell' = true) (W : World) : Calls Try.prog 57 #[.agg #[.string ⟨a.toArray⟩, u], .agg #[.string ⟨b.toArray⟩, v]] W fun e w' => e = .returned (.int .i64 (cmpL a b)) ∧ ∃ q os', w' = grow (W.drewN q) os' := by
  have HC := Lib.hid (fun W' => cmp_any a b W')
  generalize cmpL a b = r at *
  go_enter Try.func57, Try.ntmps57
  go_wp2_with fail
  refine (HC.out _).mono ?_
  rintro e w2 ⟨rfl, rfl⟩
  go_wp2_with fail
  go_ret
  exact ⟨rfl, 0, _, by rw [alloc_eq_grow, alloc_eq_grow, grow_grow]; rfl⟩

/-- Pairs of a text and a value, as a row of terms' cells. -/
def CellsT (w : World) (g : Nat) (d : List TCell) : Prop := ∀ i (h : i < d.length), w.cell? ⟨g, i * 2, none⟩ = some (.string ⟨d[i].1.toArray⟩) ∧ w.cell? ⟨g, i * 2 + 1, none⟩ = some d[i].2.1
theorem holds_of {w : World} {g : Nat} {d : List TCell} (h : CellsT w g d) (hf : ∀ j, w.frozen? ⟨g, j, none⟩ = false) : HoldsK encT 2 w g 0 d.toArray := by
  intro j hj
  rw [size_flatK] at hj
  have hj2 : j < d.length * 2 := by simpa using hj
  refine ⟨?_, hf _⟩
  rw [get_flatK _ _ _ _ hj, Nat.zero_add]
  have hi : j / 2 < d.length := by omega
  have e : d.toArray[j / 2]! = d[j / 2] := by rw [getElem!_pos d.toArray (j / 2) (by simpa using hi)]; simp
  rw [e]
  rcases (by omega : j % 2 = 0 ∨ j % 2 = 1) with h2 | h2
  · rw [h2]
    have hjj : j = j / 2 * 2 := by omega
    rw [show (⟨g, j, none⟩ : Addr) = ⟨g, j / 2 * 2, none⟩ by rw [← hjj]]
    exact (h _ hi).1
  · rw [h2]
    have hjj : j = j / 2 * 2 + 1 := by omega
    rw [show (⟨g, j, none⟩ : Addr) = ⟨g, j / 2 * 2 + 1, none⟩ by rw [← hjj]]
    exact (h _ hi).2
theorem cells_of_holds {w : World} {g : Nat} {d : Array TCell} (h : HoldsK encT 2 w g 0 d) : CellsT w g d.toList := fun i hi => by
  have hi2 : i < d.size := by simpa using hi
  have h0 := (h.cell hi2 (c := 0) (by omega)).1
  have h1 := (h.cell hi2 (c := 1) (by omega)).1
  rw [Nat.zero_add, Nat.add_zero] at h0
  rw [Nat.zero_add] at h1
  rw [getElem!_pos d i hi2] at h0 h1
  exact ⟨by simpa [encT] using h0, by simpa [encT] using h1⟩
/-- Sorting terms: the row's cells hold a permutation that rises; nothing else turns. -/
theorem sort_any (g cap : Nat) (d : List TCell) (w : World) (hc : CellsT w g d) (hf : ∀ j, w.frozen? ⟨g, j, none⟩ = false) (hg : g < w.heap.size) (hsz : d.length < 4611686018427387904) :
    Calls Try.prog 56 #[.slice (some ⟨g, 0, none⟩) d.length cap, .func (.func 57) #[] #[]] w fun e w' => e = .returned (.tuple #[]) ∧ ∃ d' : List TCell, d'.Perm d ∧ d'.Pairwise (fun x y => lessL y.1 x.1 = false) ∧ CellsT w' g d' ∧ Kep (fun k => k ≠ g) w w' := by
  have eg : ∀ args w, (callFunc 57 args).run Try.prog w = .ok (.enter 57 args) w := enters_of Try.func57 (by kernel_rfl) rfl
  have hcmp : CmpLays Try.prog 57 #[] encT 2 cfT g 0 d.toArray.size w := fun _ _ _ _ x y => clo_any x.1 y.1 x.2.1 y.2.1 x.2.2 y.2.2 _
  have hH := holds_of hc hf
  have := AnyQ.slices_SortFunc Try.sortTerm 2 Try.isAgg62 Try.sizeOf62 encT (fun _ => rfl) (fun x v hv => by
    simp only [encT, List.mem_cons, List.not_mem_nil, or_false] at hv
    rcases hv with rfl | rfl
    · rfl
    · exact x.2.2) cfT swoT 57 #[] g 0 cap d.toArray w eg hcmp hH hg (by simpa using hsz)
  rw [List.size_toArray] at this
  refine this.mono ?_
  rintro e w' ⟨rfl, d', n, os, ⟨hs, _, hp⟩, hsort, rfl⟩
  have hs2 : d'.size = d.length := by simpa using hs
  have hp2 : d'.toList.Perm d := by
    have e1 : d'.extract 0 d.length = d' := by rw [← hs2]; exact Array.extract_size
    have e2 : d.toArray.extract 0 d.length = d.toArray := by rw [show d.length = d.toArray.size by simp]; exact Array.extract_size
    rw [e1, e2] at hp
    simpa using hp
  refine ⟨rfl, d'.toList, hp2, ?_, ?_, ?_⟩
  · rw [List.pairwise_iff_getElem]
    intro i j hi hj hij
    have hi2 : i < d'.size := by simpa using hi
    have hj2 : j < d'.size := by simpa using hj
    have := hsort i j (Nat.zero_le _) hij (by omega)
    rw [ltT, getElem!_pos d' i hi2, getElem!_pos d' j hj2] at this
    simpa using this
  · have h1 := holdsK_putRowK encT 2 (Sort.ahead w n) g 0 d.toArray d' (holdsK_ahead encT 2 w n g 0 _ hH) (by rw [hs2]; simp)
    exact cells_of_holds (holdsK_grow encT 2 _ os g 0 d' (by show g < (putRow id _ g 0 _).heap.size; rw [size_putRow]; exact hg) h1)
  · refine ⟨rfl, rfl, rfl, ?_, fun k hk hne => ?_⟩
    · show w.heap.size ≤ (grow (putRow id _ g 0 _) os).heap.size
      rw [size_grow, size_putRow]
      exact Nat.le_add_right _ _
    · have e1 : (grow (putRowK encT 2 (Sort.ahead w n) g 0 d') os).heap[k]? = (putRowK encT 2 (Sort.ahead w n) g 0 d').heap[k]? := by
        show ((putRowK encT 2 (Sort.ahead w n) g 0 d').heap ++ os)[k]? = _
        rw [Array.getElem?_append_left (by show k < (putRow id _ g 0 _).heap.size; rw [size_putRow]; exact hk)]
      refine e1.trans ?_
      show ((Sort.ahead w n).heap.modify g _)[k]? = _
      rw [Array.getElem?_modify, if_neg (fun e => hne e.symm)]
      rfl
end Go.Proofs.Ytgacfihidpijeaa.EV
