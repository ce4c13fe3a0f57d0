/-
  Events in memory: a row of fields, an event's two cells, a row of events. No condition. Rows of numbered events, as data: where they lie, one of them, an element. No condition. Slices that read as lists of whole numbers. No condition. A block's bytes behind a number, by its docs one by one; blocks of sixteen. No program; no condition. Two texts held against each other, as the walk spells it. No condition. A row of bytes of the call's own beside a block of cells that stays. No program; no condition.
-/
import Derived.Test.YthgfaadlnffpcaaZA4
import Derived.Test.YthgfaadlnffpcaaZA7
import Derived.Test.YthgfaadlnffpcaaZA8
import Derived.Laws.MakeOwn
import Derived.Test.YthgfaadlnffpcaaZA1
import Derived.Test.YthgfaadlnffpcaaZA11
set_option linter.unusedVariables false
namespace Go.Proofs.Ythgfaadlnffpcaa.EV
open Go Go.RowKit Go.Proofs.Ythgfaadlnffpcaa.MM Go.Proofs.Ythgfaadlnffpcaa.EM

def fldC : Codec Fld := cPair cStr cStr
def evC : Codec Ev := cPair cInt (cRow fldC)
def batC : Codec Bat := cPair cInt (cRow evC)
theorem fld_size : fldC.size = 2 := rfl
theorem ev_size : evC.size = 2 := rfl
theorem fld_on {S : Nat → Prop} {w : World} {cs : List Value} {f : Fld} : fldC.on S w cs f ↔ cs = [.string ⟨f.1.toArray⟩, .string ⟨f.2.toArray⟩] := by
  constructor
  · rintro ⟨x, y, rfl, hx, hy⟩
    have hx : x = [.string ⟨f.1.toArray⟩] := hx
    have hy : y = [.string ⟨f.2.toArray⟩] := hy
    rw [hx, hy]; rfl
  · rintro rfl
    exact ⟨[_], [_], rfl, rfl, rfl⟩
theorem ev_on {S : Nat → Prop} {w : World} {cs : List Value} {e : Ev} : evC.on S w cs e ↔ ∃ v, cs = [.int .i64 e.1, v] ∧ ROn fldC S w v e.2 := by
  constructor
  · rintro ⟨x, y, rfl, hx, v, hy, hr⟩
    have hx : x = [.int .i64 e.1] := hx
    exact ⟨v, by rw [hx, hy]; rfl, hr⟩
  · rintro ⟨v, rfl, hr⟩
    exact ⟨[_], [v], rfl, rfl, v, rfl, hr⟩
theorem bat_on {S : Nat → Prop} {w : World} {cs : List Value} {b : Bat} : batC.on S w cs b ↔ ∃ v, cs = [.int .i64 b.1, v] ∧ ROn evC S w v b.2 := by
  constructor
  · rintro ⟨x, y, rfl, hx, v, hy, hr⟩
    have hx : x = [.int .i64 b.1] := hx
    exact ⟨v, by rw [hx, hy]; rfl, hr⟩
  · rintro ⟨v, rfl, hr⟩
    exact ⟨[_], [v], rfl, rfl, v, rfl, hr⟩
/-- The k-th field's two texts. -/
theorem fld_at {S : Nat → Prop} {w : World} {p : Option Addr} {n cap : Nat} {fs : List Fld} (h : ROn fldC S w (.slice p n cap) fs) {k : Nat} (hk : k < fs.length) :
    ∃ b off, p = some ⟨b, off, none⟩ ∧ b < w.heap.size ∧ S b ∧ w.cell? ⟨b, off + k * 2, none⟩ = some (.string ⟨fs[k].1.toArray⟩) ∧ w.cell? ⟨b, off + k * 2 + 1, none⟩ = some (.string ⟨fs[k].2.toArray⟩) := by
  obtain ⟨b, off, vs, hp, hlt, hS, hon, hc⟩ := h.at_ hk
  rw [fld_on] at hon
  subst hon
  exact ⟨b, off, hp, hlt, hS, hc 0 _ rfl, hc 1 _ rfl⟩
/-- The k-th event's time and fields. -/
theorem ev_at {S : Nat → Prop} {w : World} {p : Option Addr} {n cap : Nat} {es : List Ev} (h : ROn evC S w (.slice p n cap) es) {k : Nat} (hk : k < es.length) :
    ∃ b off v, p = some ⟨b, off, none⟩ ∧ b < w.heap.size ∧ S b ∧ w.cell? ⟨b, off + k * 2, none⟩ = some (.int .i64 es[k].1) ∧ w.cell? ⟨b, off + k * 2 + 1, none⟩ = some v ∧ ROn fldC S w v es[k].2 := by
  obtain ⟨b, off, vs, hp, hlt, hS, hon, hc⟩ := h.at_ hk
  rw [ev_on] at hon
  obtain ⟨v, rfl, hr⟩ := hon
  exact ⟨b, off, v, hp, hlt, hS, hc 0 _ rfl, hc 1 _ rfl, hr⟩
theorem str_list (l : List UInt8) : (⟨l.toArray⟩ : ByteArray).data.toList = l := by simp
theorem str_sz (l : List UInt8) : (⟨l.toArray⟩ : ByteArray).size = l.length := by rw [Lib.size_eq]
theorem new_two (w : World) (x y : Value) (t : TypeId) : (w.alloc (.cells #[x, y] t)).cell? ⟨w.heap.size, 0, none⟩ = some x ∧ (w.alloc (.cells #[x, y] t)).cell? ⟨w.heap.size, 1, none⟩ = some y := by
  have h0 := lit_cells w [x, y] t 0 x rfl
  have h1 := lit_cells w [x, y] t 1 y rfl
  rw [add_at] at h0 h1
  exact ⟨h0, h1⟩
end Go.Proofs.Ythgfaadlnffpcaa.EV
set_option linter.unusedVariables false
namespace Go.Proofs.Ythgfaadlnffpcaa.EV
open Go Go.RowKit Go.Proofs.Ythgfaadlnffpcaa.MM Go.Proofs.Ythgfaadlnffpcaa.EM

abbrev Doc := Int × Ev
def docC : Codec Doc := cPair cInt evC
theorem doc_on {S : Nat → Prop} {w : World} {cs : List Value} {d : Doc} : docC.on S w cs d ↔ ∃ v, cs = [.int .i64 d.1, .int .i64 d.2.1, v] ∧ ROn fldC S w v d.2.2 := by
  constructor
  · rintro ⟨x, y, rfl, hx, hy⟩
    have hx : x = [.int .i64 d.1] := hx
    obtain ⟨v, hv, hr⟩ := ev_on.1 hy
    exact ⟨v, by rw [hx, hv]; rfl, hr⟩
  · rintro ⟨v, rfl, hr⟩
    exact ⟨[_], [_, _], rfl, rfl, ev_on.2 ⟨v, rfl, hr⟩⟩
theorem fldE : Elem fldC Try.prog 41 83 32 := ⟨Try.underlying41, by
  have h : (Try.prog.info? 83).map (fun i => (i.zero, i.size, i.bytes)) = some (some (.agg #[.string ⟨#[]⟩, .string ⟨#[]⟩]), 2, 32) := by kernel_rfl
  obtain ⟨i, h1, h2, h3, h4⟩ := info_parts h
  exact ⟨i, _, h1, h2, h3, h4, rfl⟩⟩
/-- Fields hold nothing behind their cells. -/
theorem fld_src {S S' : Nat → Prop} {w : World} {v : Value} {fs : List Fld} (h : ROn fldC S w v fs) : SrcX fldC S' w v fs := by
  obtain ⟨p, cap, raw, hv, h1, h3, hm, hc⟩ := ROn.src h
  exact ⟨p, cap, raw, hv, h1, h3, ⟨hm.1, fun i hi hi' => fld_on.2 (fld_on.1 (hm.2 i hi hi'))⟩, hc⟩

theorem docE : Elem docC Try.prog 22 45 40 := ⟨Try.underlying22, by
  have h : (Try.prog.info? 45).map (fun i => (i.zero, i.size, i.bytes)) = some (some (.agg #[.int .i64 0, .int .i64 0, .slice none 0 0]), 3, 40) := by kernel_rfl
  obtain ⟨i, h1, h2, h3, h4⟩ := info_parts h
  exact ⟨i, _, h1, h2, h3, h4, rfl⟩⟩
/-- The k-th numbered event. -/
theorem doc_at {S : Nat → Prop} {w : World} {p : Option Addr} {n cap : Nat} {ds : List Doc} (h : ROn docC S w (.slice p n cap) ds) {k : Nat} (hk : k < ds.length) :
    ∃ b off v, p = some ⟨b, off, none⟩ ∧ b < w.heap.size ∧ S b ∧ w.cell? ⟨b, off + k * 3, none⟩ = some (.int .i64 ds[k].1) ∧ w.cell? ⟨b, off + k * 3 + 1, none⟩ = some (.int .i64 ds[k].2.1) ∧ w.cell? ⟨b, off + k * 3 + 2, none⟩ = some v ∧ ROn fldC S w v ds[k].2.2 := by
  obtain ⟨b, off, vs, hp, hlt, hS, hon, hc⟩ := h.at_ hk
  rw [doc_on] at hon
  obtain ⟨v, rfl, hr⟩ := hon
  exact ⟨b, off, v, hp, hlt, hS, hc 0 _ rfl, hc 1 _ rfl, hc 2 _ rfl, hr⟩

end Go.Proofs.Ythgfaadlnffpcaa.EV
set_option linter.unusedVariables false
namespace Go.Proofs.Ythgfaadlnffpcaa.MM
open Go.RowKit

/-! ### whole numbers -/
theorem infoInt : (Try.prog.info? 3).map (fun i => (i.zero, i.size, i.bytes)) = some (some (.int .i64 0), 1, 8) := by kernel_rfl
/-- A slice value that reads as these numbers. -/
def IRow (w : World) (v : Value) (zs : List Int) : Prop := Row w v (zs.map (Value.int .i64))
def OwnI (B : Nat) (w : World) (v : Value) (zs : List Int) : Prop := w.ownsRow B 3 1 v zs.length (zs.map (Value.int .i64))
theorem OwnI.irow {B : Nat} {w : World} {v : Value} {zs : List Int} (h : OwnI B w v zs) : IRow w v zs := Row.of_own h
theorem OwnI.keep {w w' : World} {B : Nat} {v : Value} {zs : List Int} (h : OwnI B w v zs) (hb : Below w.heap.size w w') : OwnI B w' v zs := own_keep (B := 0) h hb
theorem OwnI.nil_ (B : Nat) (w : World) : OwnI B w (.slice none 0 0) [] := World.ownsRow_nil _ _ _ _
theorem IRow.below {w w' : World} {v : Value} {zs : List Int} (h : IRow w v zs) (hb : Below w.heap.size w w') : IRow w' v zs := Row.below (B := 0) h hb
theorem IRow.nil_ (w : World) : IRow w (.slice none 0 0) [] := Row.nil_ w
theorem IRow.shape {w : World} {v : Value} {zs : List Int} (h : IRow w v zs) : ∃ p cap, v = .slice p zs.length cap ∧ zs.length ≤ cap ∧ cap ≤ maxLen := by
  obtain ⟨p, cap, hv, h1, h2, _, _⟩ := h
  rw [List.length_map] at hv h1
  exact ⟨p, cap, hv, h1, h2⟩
theorem IRow.at_ {w : World} {p : Option Addr} {n cap : Nat} {zs : List Int} (h : IRow w (.slice p n cap) zs) {k : Nat} (hk : k < zs.length) :
    ∃ b off, p = some ⟨b, off, none⟩ ∧ b < w.heap.size ∧ w.cell? ⟨b, off + k, none⟩ = some (.int .i64 (zs.getD k 0)) := by
  obtain ⟨p', cap', hv, _, _, _, h⟩ := h
  simp only [Value.slice.injEq] at hv
  obtain ⟨rfl, _, _⟩ := hv
  rcases h with h | ⟨b, off, hp, hlt, hc⟩
  · have : zs = [] := List.map_eq_nil_iff.1 h
    subst this
    simp at hk
  · exact ⟨b, off, hp, hlt, hc k _ (by simp [List.getD, hk])⟩
theorem IRow.take {w : World} {p : Option Addr} {n cap : Nat} {zs : List Int} (h : IRow w (.slice p n cap) zs) (k : Nat) (hk : k ≤ n) : IRow w (.slice p k cap) (zs.take k) := by
  have := RowIn.take h k hk
  rw [← List.map_take] at this
  exact this
/-- append(row, n). -/
theorem wpList_append_int {w : World} {ops : Array Oper} {rest : List Oper} {o : Oper} {a : Act} {Q : Exit → Act → World → Prop} (hgd : o.guard = none) (s x : Operand)
    (ho : o.op = .call { callee := .builtin .append, args := #[s, x], argTypes := #[40, 40] }) (B : Nat) (v : Value) (zs : List Int) (w0 : World) (z : Int) (hw : w = w0.alloc (.cells #[.int .i64 z] 3)) (hs : a.eval s = v) (hown : OwnI B w0 v zs)
    (hx : a.eval x = .slice (some ⟨w0.heap.size, 0, none⟩) 1 1) (hlen : zs.length ≤ 4398046511104) (hbase : B ≤ w0.heap.size)
    (h : ∀ v' w', OwnI B w' v' (zs ++ [z]) → Below B w0 w' → wpList Try.prog ops Q rest (a.put o.dst v') w') : wpList Try.prog ops Q (o :: rest) a w := by
  subst hw
  obtain ⟨i0, hi, hz0, hz1, hz2⟩ := info_parts infoInt
  have hlo : ∀ k, v.ownBlock = some k → B ≤ k := fun k hk => (World.ownsRow.lt hown k hk).1
  refine wpList_append_own _ hgd s x 40 ho B 3 i0 (.int .i64 0) 1 8 Try.underlying40 hi hz0 hz1 hz2 rfl (by decide) v zs.length _ hs (World.ownsRow.alloc hown _) ⟨w0.heap.size, 0, none⟩ 1 1 [.int .i64 z] hx rfl (cell_new1 _ _ _) (int_one _ _)
    (by unfold maxLen; omega) (by omega) (by simp; omega) (fun v' w' h1 hg _ => h v' w' ?_ (below_app (Below.refl B w0) hbase hlo hg))
  unfold OwnI
  rw [List.length_append, List.map_append]
  exact h1
end Go.Proofs.Ythgfaadlnffpcaa.MM
set_option linter.unusedVariables false
namespace Go.Proofs.Ythgfaadlnffpcaa.SM
open Go Go.Proofs.Ythgfaadlnffpcaa.VM
open Go.Proofs.Ythgfaadlnffpcaa.EM (Fld Ev checkE FitE bytesE bytesE_len getE getE_put getE_back ok_lens sizeF sizeF_of_ok checkE_ok)

/-- A block's bytes, behind a number. -/
def blkS : Int → List Doc → List UInt8
  | _, [] => []
  | a, d :: r => (bytesL (d.1 - a - 1).toNat ++ bytesE d.2) ++ blkS d.1 r
/-- The number behind a block. -/
def endA : Int → List Doc → Int
  | a, [] => a
  | _, d :: r => endA d.1 r
theorem endA_snoc : ∀ (a : Int) (c : List Doc) (d : Doc), endA a (c ++ [d]) = d.1
  | _, [], _ => rfl
  | _, x :: r, d => endA_snoc x.1 r d
theorem blkS_snoc : ∀ (a : Int) (c : List Doc) (d : Doc), blkS a (c ++ [d]) = blkS a c ++ (bytesL (d.1 - endA a c - 1).toNat ++ bytesE d.2)
  | a, [], d => by simp [blkS, endA]
  | a, x :: r, d => by
    rw [List.cons_append, blkS, blkS_snoc x.1 r d, blkS, endA, List.append_assoc (bytesL (x.1 - a - 1).toNat ++ bytesE x.2)]
theorem blkS_next (a : Int) {c : List Doc} {i : Nat} (h : i < c.length) : blkS a (c.take (i + 1)) = blkS a (c.take i) ++ (bytesL (c[i].1 - endA a (c.take i) - 1).toNat ++ bytesE c[i].2) := by
  rw [List.take_succ_eq_append_getElem h, blkS_snoc]
theorem endA_next (a : Int) {c : List Doc} {i : Nat} (h : i < c.length) : endA a (c.take (i + 1)) = c[i].1 := by
  rw [List.take_succ_eq_append_getElem h, endA_snoc]
theorem isR_app : ∀ (a : Int) (c d : List Doc), isR a (c ++ d) = (isR a c && isR (endA a c) d)
  | _, [], _ => by simp [isR, endA]
  | a, x :: r, d => by rw [List.cons_append, isR, isR_app x.1 r d, isR, endA, Bool.and_assoc]
theorem isR_take {a : Int} {c : List Doc} (h : isR a c = true) (i : Nat) : isR a (c.take i) = true := by
  have := isR_app a (c.take i) (c.drop i)
  rw [List.take_append_drop, h] at this
  exact (Bool.and_eq_true _ _ ▸ this.symm).1
theorem isR_drop {a : Int} {c : List Doc} (h : isR a c = true) (i : Nat) : isR (endA a (c.take i)) (c.drop i) = true := by
  have := isR_app a (c.take i) (c.drop i)
  rw [List.take_append_drop, h] at this
  exact (Bool.and_eq_true _ _ ▸ this.symm).2
theorem isR_ok {a : Int} {c : List Doc} (h : isR a c = true) {i : Nat} (hi : i < c.length) : endA a (c.take i) < c[i].1 ∧ c[i].1 ≤ 1099511627776 ∧ checkE c[i].2 = 0 := by
  have := isR_drop h i
  rw [isR_step hi, Bool.and_eq_true] at this
  exact okS_iff.1 this.1
theorem endA_ge : ∀ {a : Int} {c : List Doc}, isR a c = true → a ≤ endA a c
  | _, [], _ => Int.le_refl _
  | a, x :: r, h => by
    rw [isR, Bool.and_eq_true] at h
    have h1 := (okS_iff.1 h.1).1
    have h2 := endA_ge h.2
    rw [endA]
    omega
theorem endA_le : ∀ {a : Int} {c : List Doc}, isR a c = true → a ≤ 1099511627776 → endA a c ≤ 1099511627776
  | _, [], _, h => h
  | a, x :: r, h, _ => by
    rw [isR, Bool.and_eq_true] at h
    rw [endA]
    exact endA_le h.2 (okS_iff.1 h.1).2.1
theorem oneD_len {x : Doc} (n : Nat) (h : checkE x.2 = 0) : (bytesL n ++ bytesE x.2).length ≤ 67000 := by
  obtain ⟨h4, h5⟩ := checkE_ok.1 h
  have b1 := bytesL_length n
  have b2 := bytesE_len x.2
  have b3 := sizeF_of_ok h5
  rw [List.length_append]
  omega
theorem blkS_len : ∀ {a : Int} {c : List Doc}, isR a c = true → (blkS a c).length ≤ 67000 * c.length
  | _, [], _ => by simp [blkS]
  | a, x :: r, h => by
    rw [isR, Bool.and_eq_true] at h
    have h1 := oneD_len (x := x) (x.1 - a - 1).toNat (okS_iff.1 h.1).2.2
    have h2 := blkS_len h.2
    rw [blkS, List.length_append, List.length_cons]
    omega

/-! ### the row's blocks -/
def chunkS (l : List Doc) (k : Nat) : List Doc := (l.drop (16 * k)).take 16
theorem chunkS_size (l : List Doc) (k : Nat) : (chunkS l k).length ≤ 16 := by unfold chunkS; rw [List.length_take]; omega
theorem endA_last (l : List Doc) : ∀ {i : Nat}, i ≤ l.length → endA 0 (l.take i) = lastS l i
  | 0, _ => rfl
  | i + 1, h => by rw [endA_next 0 (by omega), lastS_next (by omega)]
theorem take_drop_end (l : List Doc) (i m : Nat) : endA (endA 0 (l.take i)) ((l.drop i).take m) = endA 0 (l.take (i + m)) := by
  have e : ∀ (a : Int) (c d : List Doc), endA a (c ++ d) = endA (endA a c) d := fun a c => by
    induction c generalizing a with
    | nil => intro d; rfl
    | cons x r ih => intro d; exact ih x.1 d
  rw [← e, List.take_add]
theorem blk_range {l : List Doc} (i : Nat) : ∀ {m : Nat}, i + m ≤ l.length → blkS (lastS l i) ((l.drop i).take m) = rangeB l i (i + m)
  | 0, _ => by rw [List.take_zero, blkS, Nat.add_zero, rangeB_self]
  | m + 1, h => by
    have hm : m < (l.drop i).length := by rw [List.length_drop]; omega
    rw [blkS_next _ hm, blk_range i (by omega), show i + (m + 1) = (i + m) + 1 by omega, rangeB_next (by omega), oneB_at (by omega), ← endA_last l (by omega), take_drop_end, endA_last l (by omega), List.getElem_drop]
theorem chunk_take {l : List Doc} {k : Nat} (h : 16 * k ≤ l.length) : chunkS l k = (l.drop (16 * k)).take (endS l k - 16 * k) := by
  unfold chunkS endS
  by_cases h2 : 16 * k + 16 ≤ l.length
  · rw [Nat.min_eq_left h2, show 16 * k + 16 - 16 * k = 16 by omega]
  · rw [Nat.min_eq_right (by omega), List.take_of_length_le (by rw [List.length_drop]; omega), List.take_of_length_le (by rw [List.length_drop]; exact Nat.le_refl _)]
theorem chunk_len {l : List Doc} {k : Nat} (h : 16 * k ≤ l.length) : (chunkS l k).length = endS l k - 16 * k := by
  rw [chunk_take h, List.length_take, List.length_drop]
  unfold endS
  omega
theorem chunk_bytes {l : List Doc} {k : Nat} (h : 16 * k ≤ l.length) : blkS (lastS l (16 * k)) (chunkS l k) = rangeB l (16 * k) (endS l k) := by
  have h1 : 16 * k ≤ endS l k := by unfold endS; omega
  have h2 : endS l k ≤ l.length := by unfold endS; omega
  rw [chunk_take h, blk_range _ (by omega), show 16 * k + (endS l k - 16 * k) = endS l k by omega]
theorem chunk_end {l : List Doc} {k : Nat} (h : 16 * k ≤ l.length) : endA (lastS l (16 * k)) (chunkS l k) = lastS l (endS l k) := by
  have h1 : 16 * k ≤ endS l k := by unfold endS; omega
  have h2 : endS l k ≤ l.length := by unfold endS; omega
  rw [chunk_take h, ← endA_last l h, take_drop_end, show 16 * k + (endS l k - 16 * k) = endS l k by omega, endA_last l h2]
theorem chunk_ok {l : List Doc} (h : isR 0 l = true) {k : Nat} (hk : 16 * k ≤ l.length) : isR (lastS l (16 * k)) (chunkS l k) = true := by
  have := isR_take (isR_drop h (16 * k)) 16
  rw [endA_last l hk] at this
  exact this
theorem chunk_fit {l : List Doc} (h : FitS l) (k : Nat) : FitS (chunkS l k) := fun d hd => h d (List.mem_of_mem_drop (List.mem_of_mem_take hd))
theorem endS_next {l : List Doc} {k : Nat} (h : k + 1 < blocksN l.length) : endS l k = 16 * (k + 1) := by unfold endS blocksN at *; omega
theorem endS_last {l : List Doc} {k : Nat} (h : k + 1 = blocksN l.length) : endS l k = l.length := by unfold endS blocksN at *; omega
end Go.Proofs.Ythgfaadlnffpcaa.SM
set_option linter.unusedVariables false
namespace Go.Proofs.Ythgfaadlnffpcaa.MM
open Go.RowKit

/-- Two texts held against each other, as the walk spells it. -/
theorem same_list (l m : List UInt8) : ((⟨l.toArray⟩ : ByteArray).toList == (⟨m.toArray⟩ : ByteArray).toList) = decide (l = m) := by
  rw [Lib.toList_data, Lib.toList_data]
  by_cases h : l = m
  · subst h; simp
  · simp [h]
end Go.Proofs.Ythgfaadlnffpcaa.MM
set_option linter.unusedVariables false
namespace Go.Proofs.Ythgfaadlnffpcaa.GB
open Go Go.RowKit Go.Proofs.Ythgfaadlnffpcaa.MM

/-- A row of bytes of the call's own (from B on) beside a block q of cells that is not its own. -/
def Beside (B q : Nat) (w W : World) (v : Value) (l : List UInt8) : Prop := OwnB B W v l ∧ Below B w W ∧ B ≤ W.heap.size ∧ q < W.heap.size ∧ ∀ g, v.ownBlock = some g → g ≠ q
theorem Beside.grown {B q : Nat} {w W W' : World} {v v' : Value} {l m : List UInt8} (h : Beside B q w W v l) (ho : OwnB 0 W' v' m) (hg : Grown W W' v v') : Beside B q w W' v' m ∧ W'.heap[q]? = W.heap[q]? := by
  obtain ⟨h1, h2, h3, h4, h5⟩ := h
  have hs := hg.1.size
  have hlo : ∀ k, v.ownBlock = some k → B ≤ k := fun k hk => (World.ownsRow.lt h1 k hk).1
  refine ⟨⟨OwnB.from ho fun k hk => ?_, h2.trans (hg.kep.below h3 fun k hk e => by have := hlo k e; omega), by omega, by omega, fun g hgv => ?_⟩, hg.1.block q h4 fun e => h5 q e.symm rfl⟩
  · rcases hg.2 k hk with e | e
    · exact hlo k e
    · omega
  · rcases hg.2 g hgv with e | e
    · exact h5 g e
    · omega
theorem Beside.below {B q : Nat} {w W W' : World} {v : Value} {l : List UInt8} (h : Beside B q w W v l) (hb : Below W.heap.size W W') : Beside B q w W' v l := by
  obtain ⟨h1, h2, h3, h4, h5⟩ := h
  have hs := hb.size
  exact ⟨h1.keep hb, h2.trans (hb.mono h3), by omega, by omega, h5⟩
end Go.Proofs.Ythgfaadlnffpcaa.GB
