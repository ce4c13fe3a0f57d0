/-
  Slices that read as lists of texts. No condition.
-/
import Derived.Test.YtgacfihidpijeaaMem
set_option linter.unusedVariables false
namespace Go.Proofs.Ytgacfihidpijeaa.MM
open Go.RowKit

theorem infoStr : (Try.prog.info? 9).map (fun i => (i.zero, i.size, i.bytes)) = some (some (.string ⟨#[]⟩), 1, 16) := by kernel_rfl
def strV (l : List UInt8) : Value := .string ⟨l.toArray⟩
/-- A slice value that reads as these texts, which lie below block B. -/
def TIn (B : Nat) (w : World) (v : Value) (ss : List (List UInt8)) : Prop := RowIn B w v (ss.map strV)
def TRow (w : World) (v : Value) (ss : List (List UInt8)) : Prop := TIn w.heap.size w v ss
/-- .. of the call's own, from block B on. -/
def OwnT (B : Nat) (w : World) (v : Value) (ss : List (List UInt8)) : Prop := w.ownsRow B 9 1 v ss.length (ss.map strV)
theorem OwnT.trow {B : Nat} {w : World} {v : Value} {ss : List (List UInt8)} (h : OwnT B w v ss) : TRow w v ss := Row.of_own h
theorem OwnT.keep {w w' : World} {B : Nat} {v : Value} {ss : List (List UInt8)} (h : OwnT B w v ss) (hb : Below w.heap.size w w') : OwnT B w' v ss := own_keep (B := 0) h hb
theorem OwnT.weaken {w : World} {B B' : Nat} {v : Value} {ss : List (List UInt8)} (h : OwnT B w v ss) (hB : B' ≤ B) : OwnT B' w v ss := by
  refine ⟨h.1, ?_⟩
  rcases h.2 with h0 | ⟨g, cap, cur, hv, hg, rest⟩
  · exact .inl h0
  · exact .inr ⟨g, cap, cur, hv, Nat.le_trans hB hg, rest⟩
theorem OwnT.nil_ (B : Nat) (w : World) : OwnT B w (.slice none 0 0) [] := World.ownsRow_nil _ _ _ _
theorem OwnT.shape {w : World} {B : Nat} {v : Value} {ss : List (List UInt8)} (h : OwnT B w v ss) : ∃ p cap, v = .slice p ss.length cap ∧ ss.length ≤ cap ∧ cap ≤ maxLen := by
  obtain ⟨p, cap, hv, h1, h2, _, _⟩ := h.trow
  rw [List.length_map] at hv h1
  exact ⟨p, cap, hv, h1, h2⟩
theorem TRow.below {w w' : World} {v : Value} {ss : List (List UInt8)} (h : TRow w v ss) (hb : Below w.heap.size w w') : TRow w' v ss := Row.below (B := 0) h hb
theorem TIn.below {B : Nat} {w w' : World} {v : Value} {ss : List (List UInt8)} (h : TIn B w v ss) (hb : Below B w w') : TIn B w' v ss := RowIn.below h hb
theorem TIn.mono {B B' : Nat} {w : World} {v : Value} {ss : List (List UInt8)} (h : TIn B w v ss) (hB : B ≤ B') : TIn B' w v ss := RowIn.mono h hB
theorem TRow.nil_ (w : World) : TRow w (.slice none 0 0) [] := Row.nil_ w
theorem TIn.shape {B : Nat} {w : World} {v : Value} {ss : List (List UInt8)} (h : TIn B w v ss) : ∃ p cap, v = .slice p ss.length cap ∧ ss.length ≤ cap ∧ cap ≤ maxLen := by
  obtain ⟨p, cap, hv, h1, h2, _, _⟩ := h
  rw [List.length_map] at hv h1
  exact ⟨p, cap, hv, h1, h2⟩
theorem TIn.at_ {B : Nat} {w : World} {p : Option Addr} {n cap : Nat} {ss : List (List UInt8)} (h : TIn B w (.slice p n cap) ss) {k : Nat} (hk : k < ss.length) :
    ∃ b off, p = some ⟨b, off, none⟩ ∧ b < B ∧ w.cell? ⟨b, off + k, none⟩ = some (.string ⟨(ss[k]).toArray⟩) := by
  obtain ⟨p', cap', hv, _, _, _, h⟩ := h
  simp only [Value.slice.injEq] at hv
  obtain ⟨rfl, _, _⟩ := hv
  rcases h with h | ⟨b, off, hp, hlt, hc⟩
  · have : ss = [] := List.map_eq_nil_iff.1 h
    subst this
    simp at hk
  · exact ⟨b, off, hp, hlt, hc k _ (by simp [hk, strV])⟩
/-- append(row, s). -/
theorem wpList_append_str {w : World} {ops : Array Oper} {rest : List Oper} {o : Oper} {a : Act} {Q : Exit → Act → World → Prop} (hgd : o.guard = none) (s x : Operand)
    (ho : o.op = .call { callee := .builtin .append, args := #[s, x], argTypes := #[124, 124] }) (B : Nat) (v : Value) (ss : List (List UInt8)) (w0 : World) (z : List UInt8) (hw : w = w0.alloc (.cells #[.string ⟨z.toArray⟩] 9)) (hs : a.eval s = v) (hown : OwnT B w0 v ss)
    (hx : a.eval x = .slice (some ⟨w0.heap.size, 0, none⟩) 1 1) (hlen : ss.length ≤ 1000000000000) (hbase : B ≤ w0.heap.size)
    (h : ∀ v' w', OwnT B w' v' (ss ++ [z]) → Below B w0 w' → wpList Try.prog ops Q rest (a.put o.dst v') w') : wpList Try.prog ops Q (o :: rest) a w := by
  subst hw
  obtain ⟨i0, hi, hz0, hz1, hz2⟩ := info_parts infoStr
  have hlo : ∀ k, v.ownBlock = some k → B ≤ k := fun k hk => (World.ownsRow.lt hown k hk).1
  refine wpList_append_own _ hgd s x 124 ho B 9 i0 (.string ⟨#[]⟩) 1 16 Try.underlying124 hi hz0 hz1 hz2 rfl (by decide) v ss.length _ hs (World.ownsRow.alloc hown _) ⟨w0.heap.size, 0, none⟩ 1 1 [.string ⟨z.toArray⟩] hx rfl (cell_new1 _ _ _) (by intro u hu; simp at hu; subst hu; rfl)
    (by unfold maxLen; omega) (by omega) (by simp; omega) (fun v' w' h1 hg _ => h v' w' ?_ (below_app (Below.refl B w0) hbase hlo hg))
  unfold OwnT
  rw [List.length_append, List.map_append]
  exact h1
/-- A literal of one text. -/
theorem trow_one (w : World) (z : List UInt8) : TRow (w.alloc (.cells #[.string ⟨z.toArray⟩] 9)) (.slice (some ⟨w.heap.size, 0, none⟩) 1 1) [z] :=
  Row.of_own (own_lit w [.string ⟨z.toArray⟩] 9 0 (Nat.zero_le _) (by unfold maxLen; simp))
/-- Two texts held against each other, as the walk spells it. -/
theorem same_list (l m : List UInt8) : ((⟨l.toArray⟩ : ByteArray).toList == (⟨m.toArray⟩ : ByteArray).toList) = decide (l = m) := by
  rw [Lib.toList_data, Lib.toList_data]
  by_cases h : l = m
  · subst h; simp
  · simp [h]
end Go.Proofs.Ytgacfihidpijeaa.MM
