/-
  Slices that read as lists of whole numbers. No condition.
-/
import Derived.Test.YtgacfihidpijeaaMem
set_option linter.unusedVariables false
namespace Go.Proofs.Ytgacfihidpijeaa.MM
open Go.RowKit

/-! ### whole numbers -/
theorem infoInt : (Try.prog.info? 3).map (fun i => (i.zero, i.size, i.bytes)) = some (some (.int .i64 0), 1, 8) := by kernel_rfl
/-- A slice value that reads as these numbers. -/
def IRow (w : World) (v : Value) (zs : List Int) : Prop := Row w v (zs.map (Value.int .i64))
def OwnI (B : Nat) (w : World) (v : Value) (zs : List Int) : Prop := w.ownsRow B 3 1 v zs.length (zs.map (Value.int .i64))
theorem OwnI.irow {B : Nat} {w : World} {v : Value} {zs : List Int} (h : OwnI B w v zs) : IRow w v zs := Row.of_own h
theorem OwnI.keep {w w' : World} {B : Nat} {v : Value} {zs : List Int} (h : OwnI B w v zs) (hb : Below w.heap.size w w') : OwnI B w' v zs := own_keep (B := 0) h hb
theorem OwnI.nil_ (B : Nat) (w : World) : OwnI B w (.slice none 0 0) [] := World.ownsRow_nil _ _ _ _
theorem IRow.below {w w' : World} {v : Value} {zs : List Int} (h : IRow w v zs) (hb : Below w.heap.size w w') : IRow w' v zs := Row.below (B := 0) h hb
theorem IRow.nil_ (w : World) : IRow w (.slice none 0 0) [] := Row.nil_ w
theorem IRow.shape {w : World} {v : Value} {zs : List Int} (h : IRow w v zs) : ∃ p cap, v = .slice p zs.length cap ∧ zs.length ≤ cap ∧ cap ≤ maxLen := by
  obtain ⟨p, cap, hv, h1, h2, _, _⟩ := h
  rw [List.length_map] at hv h1
  exact ⟨p, cap, hv, h1, h2⟩
theorem IRow.at_ {w : World} {p : Option Addr} {n cap : Nat} {zs : List Int} (h : IRow w (.slice p n cap) zs) {k : Nat} (hk : k < zs.length) :
    ∃ b off, p = some ⟨b, off, none⟩ ∧ b < w.heap.size ∧ w.cell? ⟨b, off + k, none⟩ = some (.int .i64 (zs.getD k 0)) := by
  obtain ⟨p', cap', hv, _, _, _, h⟩ := h
  simp only [Value.slice.injEq] at hv
  obtain ⟨rfl, _, _⟩ := hv
  rcases h with h | ⟨b, off, hp, hlt, hc⟩
  · have : zs = [] := List.map_eq_nil_iff.1 h
    subst this
    simp at hk
  · exact ⟨b, off, hp, hlt, hc k _ (by simp [List.getD, hk])⟩
theorem IRow.take {w : World} {p : Option Addr} {n cap : Nat} {zs : List Int} (h : IRow w (.slice p n cap) zs) (k : Nat) (hk : k ≤ n) : IRow w (.slice p k cap) (zs.take k) := by
  have := RowIn.take h k hk
  rw [← List.map_take] at this
  exact this
/-- append(row, n). -/
theorem wpList_append_int {w : World} {ops : Array Oper} {rest : List Oper} {o : Oper} {a : Act} {Q : Exit → Act → World → Prop} (hgd : o.guard = none) (s x : Operand)
    (ho : o.op = .call { callee := .builtin .append, args := #[s, x], argTypes := #[60, 60] }) (B : Nat) (v : Value) (zs : List Int) (w0 : World) (z : Int) (hw : w = w0.alloc (.cells #[.int .i64 z] 3)) (hs : a.eval s = v) (hown : OwnI B w0 v zs)
    (hx : a.eval x = .slice (some ⟨w0.heap.size, 0, none⟩) 1 1) (hlen : zs.length ≤ 4398046511104) (hbase : B ≤ w0.heap.size)
    (h : ∀ v' w', OwnI B w' v' (zs ++ [z]) → Below B w0 w' → wpList Try.prog ops Q rest (a.put o.dst v') w') : wpList Try.prog ops Q (o :: rest) a w := by
  subst hw
  obtain ⟨i0, hi, hz0, hz1, hz2⟩ := info_parts infoInt
  have hlo : ∀ k, v.ownBlock = some k → B ≤ k := fun k hk => (World.ownsRow.lt hown k hk).1
  refine wpList_append_own _ hgd s x 60 ho B 3 i0 (.int .i64 0) 1 8 Try.underlying60 hi hz0 hz1 hz2 rfl (by decide) v zs.length _ hs (World.ownsRow.alloc hown _) ⟨w0.heap.size, 0, none⟩ 1 1 [.int .i64 z] hx rfl (cell_new1 _ _ _) (int_one _ _)
    (by unfold maxLen; omega) (by omega) (by simp; omega) (fun v' w' h1 hg _ => h v' w' ?_ (below_app (Below.refl B w0) hbase hlo hg))
  unfold OwnI
  rw [List.length_append, List.map_append]
  exact h1
end Go.Proofs.Ytgacfihidpijeaa.MM
