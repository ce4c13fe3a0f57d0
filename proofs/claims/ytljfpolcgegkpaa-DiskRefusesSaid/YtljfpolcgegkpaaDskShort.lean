/-
  An op with not more than is looked at. Condition: what it holds is no longer than memory bears.
-/
import Derived.Test.YtljfpolcgegkpaaDskAwake
set_option linter.unusedVariables false
namespace Go.Proofs.Ytljfpolcgegkpaa.DK
open Go.RowKit Go.Proofs.Ytljfpolcgegkpaa.MM Go.Maps

/-- An op as data. -/
structure OpD where
  do_ : Nat
  name : List UInt8
  to_ : List UInt8
  b : List UInt8
  a : Int
  n : Int
  keep : List Int
def shortD (o : OpD) : OpD := ⟨o.do_, o.name.take 70, o.to_.take 70, o.b.take 100, o.a, o.n, o.keep.take 10⟩
/-- Its seven cells; what it leads to lies below block B. -/
def opCells (o : OpD) (vb vk : Value) : Array Value := #[.int .u8 (o.do_ : Int), .string ⟨o.name.toArray⟩, .string ⟨o.to_.toArray⟩, vb, .int .i64 o.a, .int .i64 o.n, vk]
structure OpIn (B : Nat) (w : World) (v : Value) (o : OpD) : Prop where
  val : ∃ vb vk, v = .agg (opCells o vb vk) ∧ BIn B w vb o.b ∧ RowIn B w vk (o.keep.map (Value.int .i64))
  d : o.do_ < 256
  a0 : -9223372036854775808 ≤ o.a
  a1 : o.a ≤ 9223372036854775807
  n0 : -9223372036854775808 ≤ o.n
  n1 : o.n ≤ 9223372036854775807
  k : ∀ x ∈ o.keep, -9223372036854775808 ≤ x ∧ x ≤ 9223372036854775807
  nl : o.name.length ≤ 9223372036854775807
  tl : o.to_.length ≤ 9223372036854775807
theorem infoOp : (Try.prog.info? 39).map (·.size) = some 7 := by kernel_rfl
theorem str_take (n : List UInt8) (k : Nat) : (⟨n.toArray⟩ : ByteArray).extract 0 k = ⟨(n.take k).toArray⟩ := by
  have h := Lib.extract_data (⟨n.toArray⟩ : ByteArray) 0 k
  generalize (⟨n.toArray⟩ : ByteArray).extract 0 k = x at *
  obtain ⟨a⟩ := x
  obtain ⟨l⟩ := a
  simp only [List.drop_zero, Nat.sub_zero] at h
  have h : l = n.take k := h
  rw [h]
set_option maxRecDepth 100000 in
set_option maxHeartbeats 4000000 in
theorem short_any (B : Nat) (v : Value) (o : OpD) (w : World) (h : OpIn B w v o) (hB : B ≤ w.heap.size) : Calls Try.prog 11 #[v] w fun e w' => ∃ v', e = .returned v' ∧ OpIn B w' v' (shortD o) ∧ Below w.heap.size w w' := by
  obtain ⟨vb, vk, rfl, hb, hk⟩ := h.val
  obtain ⟨pb, cb, rfl, hb1, hb2⟩ := hb.shape
  obtain ⟨pk, ck, hvk, hk1, hk2, _⟩ := id hk
  rw [List.length_map] at hvk hk1
  subst hvk
  unfold maxLen at hb2 hk2
  have hd := h.d
  have hnl := h.nl
  have htl := h.tl
  have hlo : (shortD o).name.length ≤ 9223372036854775807 ∧ (shortD o).to_.length ≤ 9223372036854775807 := by unfold shortD; simp only [List.length_take]; omega
  -- what comes of each
  have hB1 : ∃ m, BIn B w (.slice pb m cb) (shortD o).b ∧ m = if 100 < o.b.length then 100 else o.b.length := by
    by_cases q : 100 < o.b.length
    · exact ⟨100, hb.take 100 (by omega), by rw [if_pos q]⟩
    · refine ⟨o.b.length, ?_, by rw [if_neg q]⟩
      show BIn B w _ (o.b.take 100)
      rw [List.take_of_length_le (by omega)]
      exact hb
  have hK1 : ∃ m, RowIn B w (.slice pk m ck) ((shortD o).keep.map (Value.int .i64)) ∧ m = if 10 < o.keep.length then 10 else o.keep.length := by
    by_cases q : 10 < o.keep.length
    · refine ⟨10, ?_, by rw [if_pos q]⟩
      have := RowIn.take hk 10 (by omega)
      rw [← List.map_take] at this
      exact this
    · refine ⟨o.keep.length, ?_, by rw [if_neg q]⟩
      show RowIn B w _ ((o.keep.take 10).map (Value.int .i64))
      rw [List.take_of_length_le (by omega)]
      exact hk
  obtain ⟨mb, hBb, hmb⟩ := hB1
  obtain ⟨mk, hKk, hmk⟩ := hK1
  have hfin : ∀ W (N1 N2 : ByteArray) (m3 m6 : Nat), Below w.heap.size w W → N1 = ⟨(o.name.take 70).toArray⟩ → N2 = ⟨(o.to_.take 70).toArray⟩ → mb = m3 → mk = m6 → OpIn B W (.agg #[.int .u8 (o.do_ : Int), .string N1, .string N2, .slice pb m3 cb, .int .i64 o.a, .int .i64 o.n, .slice pk m6 ck]) (shortD o) := fun W N1 N2 m3 m6 hW e1 e2 e3 e4 => by
    subst e1 e2 e3 e4
    exact ⟨⟨_, _, rfl, hBb.below (hW.mono hB), hKk.below (hW.mono hB)⟩, hd, h.a0, h.a1, h.n0, h.n1, fun x hx => h.k x (List.mem_of_mem_take hx), hlo.1, hlo.2⟩
  have HFIN := Lib.hid hfin
  obtain ⟨s1, hs1⟩ : ∃ s : ByteArray, (⟨o.name.toArray⟩ : ByteArray) = s := ⟨_, rfl⟩
  obtain ⟨s2, hs2⟩ : ∃ s : ByteArray, (⟨o.to_.toArray⟩ : ByteArray) = s := ⟨_, rfl⟩
  have z1 : s1.size = o.name.length := by rw [← hs1, Lib.size_eq]
  have z2 : s2.size = o.to_.length := by rw [← hs2, Lib.size_eq]
  have HE1 := Lib.hid (show (if 70 < s1.size then s1.extract 0 70 else s1) = ⟨(o.name.take 70).toArray⟩ by
    rw [← hs1, str_take, hs1, z1]
    split
    · rfl
    · rw [← hs1, List.take_of_length_le (by omega)])
  have HE2 := Lib.hid (show (if 70 < s2.size then s2.extract 0 70 else s2) = ⟨(o.to_.take 70).toArray⟩ by
    rw [← hs2, str_take, hs2, z2]
    split
    · rfl
    · rw [← hs2, List.take_of_length_le (by omega)])
  have HMB := Lib.hid hmb
  have HMK := Lib.hid hmk
  unfold opCells
  rw [hs1, hs2]
  generalize o.b.length = lb at *
  generalize o.keep.length = lk at *
  have y1 : s1.size ≤ 9223372036854775807 := by omega
  have y2 : s2.size ≤ 9223372036854775807 := by omega
  have hbx : ∀ A Z, Below w.heap.size w ((w.alloc A).alloc Z) := fun A Z => ((Below.refl _ _).alloc (Nat.le_refl _) _).alloc (by simp) _
  have HBX := Lib.hid hbx
  have hz : ∀ A Z : Obj, ((w.alloc A).alloc Z).heap[w.heap.size + 1]? = some Z := fun A Z => by
    have := heap_alloc_new (w.alloc A) Z
    rw [show (w.alloc A).heap.size = w.heap.size + 1 by simp] at this
    exact this
  have HZ := Lib.hid hz
  clear hfin hB hb hk hBb hKk hmb hmk hs1 hs2 z1 z2 h hnl htl hlo hbx hz
  by_cases q1 : 70 < s1.size <;> by_cases q2 : 70 < s2.size <;> by_cases q3 : 100 < lb <;> by_cases q4 : 10 < lk
  all_goals (
    have e1 := HE1.out
    have e2 := HE2.out
    have e3 := HMB.out
    have e4 := HMK.out
    first | rw [if_pos q1] at e1 | rw [if_neg q1] at e1
    first | rw [if_pos q2] at e2 | rw [if_neg q2] at e2
    first | rw [if_pos q3] at e3 | rw [if_neg q3] at e3
    first | rw [if_pos q4] at e4 | rw [if_neg q4] at e4
    have E1 := Lib.hid e1
    have E2 := Lib.hid e2
    have E3 := Lib.hid e3
    have E4 := Lib.hid e4
    first | (have t1 : decide ((s1.size : Int) > 70) = true := by (rw [decide_eq_true_eq]; omega)) | (have t1 : decide ((s1.size : Int) > 70) = false := by (rw [decide_eq_false_iff_not]; omega))
    first | (have u1 : decide (70 < s1.size) = true := by (rw [decide_eq_true_eq]; omega)) | (have u1 : decide (70 < s1.size) = false := by (rw [decide_eq_false_iff_not]; omega))
    first | (have t2 : decide ((s2.size : Int) > 70) = true := by (rw [decide_eq_true_eq]; omega)) | (have t2 : decide ((s2.size : Int) > 70) = false := by (rw [decide_eq_false_iff_not]; omega))
    first | (have u2 : decide (70 < s2.size) = true := by (rw [decide_eq_true_eq]; omega)) | (have u2 : decide (70 < s2.size) = false := by (rw [decide_eq_false_iff_not]; omega))
    first | (have t3 : decide ((lb : Int) > 100) = true := by (rw [decide_eq_true_eq]; omega)) | (have t3 : decide ((lb : Int) > 100) = false := by (rw [decide_eq_false_iff_not]; omega))
    first | (have u3 : decide (100 < lb) = true := by (rw [decide_eq_true_eq]; omega)) | (have u3 : decide (100 < lb) = false := by (rw [decide_eq_false_iff_not]; omega))
    first | (have t4 : decide ((lk : Int) > 10) = true := by (rw [decide_eq_true_eq]; omega)) | (have t4 : decide ((lk : Int) > 10) = false := by (rw [decide_eq_false_iff_not]; omega))
    first | (have u4 : decide (10 < lk) = true := by (rw [decide_eq_true_eq]; omega)) | (have u4 : decide (10 < lk) = false := by (rw [decide_eq_false_iff_not]; omega))
    try (have i1 : (70 : Int) ≤ (s1.size : Int) := by omega)
    try (have i2 : (70 : Int) ≤ (s2.size : Int) := by omega)
    try (have i3 : (100 : Int) ≤ (cb : Int) := by omega)
    try (have i4 : (10 : Int) ≤ (ck : Int) := by omega)
    clear e1 e2 e3 e4 HE1 HE2 HMB HMK
    go_enter Try.func11, Try.ntmps11
    go_wp2_with fail
    refine bodyPost_ret (results_cell_row rfl _ _ (w.heap.size + 1) 39 _ (0, 0) _ rfl (HZ.out _ _) Try.underlying39 rfl infoOp) rfl ?_
    exact ⟨_, rfl, HFIN.out _ _ _ _ _ (HBX.out _ _) E1.out E2.out E3.out E4.out, HBX.out _ _⟩)

/-! ### a slice of ops -/
instance : Inhabited OpD := ⟨⟨0, [], [], [], 0, 0, []⟩⟩
/-- Seven cells from here on hold an op. -/
def OpAt (B : Nat) (w : World) (b off : Nat) (o : OpD) : Prop :=
  ∃ c0 c1 c2 c3 c4 c5 c6, OpIn B w (.agg #[c0, c1, c2, c3, c4, c5, c6]) o ∧ w.cell? ⟨b, off, none⟩ = some c0 ∧ w.cell? ⟨b, off + 1, none⟩ = some c1 ∧ w.cell? ⟨b, off + 2, none⟩ = some c2 ∧ w.cell? ⟨b, off + 3, none⟩ = some c3 ∧
    w.cell? ⟨b, off + 4, none⟩ = some c4 ∧ w.cell? ⟨b, off + 5, none⟩ = some c5 ∧ w.cell? ⟨b, off + 6, none⟩ = some c6
theorem OpAt.below {B b off : Nat} {w w' : World} {o : OpD} (h : OpAt B w b off o) (hb : Below B w w') (hl : b < B) : OpAt B w' b off o := by
  obtain ⟨c0, c1, c2, c3, c4, c5, c6, h, e0, e1, e2, e3, e4, e5, e6⟩ := h
  obtain ⟨vb, vk, hv, h1, h2⟩ := h.val
  exact ⟨c0, c1, c2, c3, c4, c5, c6, ⟨⟨vb, vk, hv, h1.below hb, RowIn.below h2 hb⟩, h.d, h.a0, h.a1, h.n0, h.n1, h.k, h.nl, h.tl⟩, (hb.cell (p := ⟨b, off, none⟩) hl).trans e0, (hb.cell (p := ⟨b, off + 1, none⟩) hl).trans e1, (hb.cell (p := ⟨b, off + 2, none⟩) hl).trans e2,
    (hb.cell (p := ⟨b, off + 3, none⟩) hl).trans e3, (hb.cell (p := ⟨b, off + 4, none⟩) hl).trans e4, (hb.cell (p := ⟨b, off + 5, none⟩) hl).trans e5, (hb.cell (p := ⟨b, off + 6, none⟩) hl).trans e6⟩
/-- A slice of ops. -/
def OpsIn (B : Nat) (w : World) (v : Value) (os : List OpD) : Prop :=
  ∃ a cap, v = .slice a os.length cap ∧ os.length ≤ cap ∧ cap ≤ maxLen ∧ (os.length = 0 ∨ ∃ b off, a = some ⟨b, off, none⟩ ∧ b < B ∧ ∀ i o, os[i]? = some o → OpAt B w b (off + i * 7) o)
theorem OpsIn.shape {B : Nat} {w : World} {v : Value} {os : List OpD} (h : OpsIn B w v os) : ∃ a cap, v = .slice a os.length cap ∧ os.length ≤ cap ∧ cap ≤ maxLen := by
  obtain ⟨a, cap, h1, h2, h3, _⟩ := h
  exact ⟨a, cap, h1, h2, h3⟩
theorem OpsIn.at_ {B : Nat} {w : World} {a : Option Addr} {n cap : Nat} {os : List OpD} (h : OpsIn B w (.slice a n cap) os) {i : Nat} {o : OpD} (hi : os[i]? = some o) : ∃ b off, a = some ⟨b, off, none⟩ ∧ b < B ∧ OpAt B w b (off + i * 7) o := by
  obtain ⟨a', cap', h1, h2, h3, h4⟩ := h
  injection h1 with e1 e2 e3
  subst e1
  rcases h4 with h4 | ⟨b, off, rfl, hb, h5⟩
  · rw [List.length_eq_zero_iff.1 h4] at hi
    simp at hi
  · exact ⟨b, off, rfl, hb, h5 i o hi⟩
theorem OpsIn.below {B : Nat} {w w' : World} {v : Value} {os : List OpD} (h : OpsIn B w v os) (hb : Below B w w') : OpsIn B w' v os := by
  obtain ⟨a, cap, h1, h2, h3, h4⟩ := h
  exact ⟨a, cap, h1, h2, h3, h4.imp id fun ⟨b, off, ha, hl, h5⟩ => ⟨b, off, ha, hl, fun i o hi => (h5 i o hi).below hb hl⟩⟩
end Go.Proofs.Ytljfpolcgegkpaa.DK
