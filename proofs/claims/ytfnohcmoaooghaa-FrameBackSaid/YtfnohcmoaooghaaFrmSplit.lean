/-
  Split: the payloads of the frames that stand first, how many bytes these have, why there is no further one. Condition: fewer than 2^30 bytes.
-/
import Derived.Maps.AppendAt
import Derived.Test.YtfnohcmoaooghaaFrmIter
set_option linter.unusedVariables false
namespace Go.Proofs.Ytfnohcmoaooghaa.FG
open Go.RowKit Go.Shelf Go.Proofs.Ytfnohcmoaooghaa.MM Go.Proofs.Ytfnohcmoaooghaa.VM Go.Proofs.Ytfnohcmoaooghaa.CM Go.Proofs.Ytfnohcmoaooghaa.FM Go.Proofs.Ytfnohcmoaooghaa.VP Go.Proofs.Ytfnohcmoaooghaa.CR Go.Proofs.Ytfnohcmoaooghaa.FP Go.Proofs.Ytfnohcmoaooghaa.VG
open Go.Proofs.Ytfnohcmoaooghaa.RF (Vows Grows Left range_)
attribute [local go_sem] Oper.semAt_some

/-! ### what has come, as lists -/
abbrev pay (xs : List Item) : List (List UInt8) := xs.map (·.2.1)
theorem splits_behind {ps : List (List UInt8)} {r : List UInt8} {qs : List (List UInt8)} {k : Nat} {e : Int} (hp : ∀ p ∈ ps, p.length ≤ 16777216) (h : Splits r qs k e) : Splits (framesL ps ++ r) (ps ++ qs) ((framesL ps).length + k) e := by
  induction ps with
  | nil => simpa [framesL] using h
  | cons p ps ih =>
    rw [framesL_cons, List.append_assoc, List.length_append, Nat.add_assoc]
    exact .more (hp p (by simp)) (ih (fun q hq => hp q (by simp [hq])))
theorem Tr.told {l : List UInt8} {xs : List Item} {r : List UInt8} (h : Tr l xs r) : (∀ x ∈ xs, x.2.2 = 0) → framesL (pay xs) ++ r = l ∧ ∀ p ∈ pay xs, p.length ≤ 16777216 := by
  induction h with
  | start => simp [framesL, pay]
  | next v h hne ih =>
    rename_i xs r
    intro h0
    obtain ⟨h1, h2⟩ := ih (fun x hx => h0 x (by simp [hx]))
    have he : (getR r).2.2 = 0 := h0 (v, (getR r).1, (getR r).2.2) (by simp)
    rcases getR_err r with ⟨p, k, hg⟩ | hg | hg
    · obtain ⟨hp, hk, hb⟩ := getR_back hg
      rw [restR_ok hg, hg]
      refine ⟨?_, ?_⟩
      · show framesL (pay (xs ++ [(v, p, 0)])) ++ r.drop k = l
        rw [show pay (xs ++ [(v, p, 0)]) = pay xs ++ [p] by simp [pay], framesL_append, framesL_cons, framesL_nil, List.append_nil, List.append_assoc, hb, h1]
      · intro q hq
        simp only [pay, List.map_append, List.map_cons, List.map_nil, List.mem_append, List.mem_singleton] at hq
        rcases hq with hq | rfl
        · exact h2 q hq
        · exact hp
    · rw [hg] at he; simp at he
    · rw [hg] at he; simp at he
theorem Tr.all {l : List UInt8} {xs : List Item} (h : Tr l xs []) (h0 : ∀ x ∈ xs, x.2.2 = 0) : Splits l (pay xs) (framesL (pay xs)).length 0 := by
  obtain ⟨h1, h2⟩ := h.told h0
  rw [List.append_nil] at h1
  have := splits_join (pay xs) h2
  rw [h1] at this
  rw [← h1] at this ⊢
  exact this
theorem Tr.err {l r : List UInt8} {xs : List Item} {x : Item} (h : Tr l (xs ++ [x]) r) (h0 : ∀ x ∈ xs, x.2.2 = 0) (hx : x.2.2 ≠ 0) : Splits l (pay xs) (framesL (pay xs)).length x.2.2 := by
  generalize hy : xs ++ [x] = ys at h
  cases h with
  | start => simp at hy
  | next v h hne =>
    rename_i xs' r'
    obtain ⟨rfl, hx'⟩ := List.append_inj' hy rfl
    simp only [List.cons.injEq, and_true] at hx'
    subst hx'
    obtain ⟨h1, h2⟩ := h.told h0
    have hg : getR r' = ([], 0, (getR r').2.2) := by
      rcases getR_err r' with ⟨p, k, hg⟩ | hg | hg
      · exact absurd (by show (getR r').2.2 = 0; rw [hg]) hx
      · rw [hg]
      · rw [hg]
    have := splits_behind h2 (.stop hne hg hx)
    rw [h1, List.append_nil, Nat.add_zero] at this
    exact this

/-! ### the caller's invariant -/
def Inv (w : World) (pre : List Item) (er : Int) (W : World) : Prop :=
  (∃ v, Boxed W w.heap.size 32 v ∧ W.ownsRow w.heap.size 22 1 v pre.length (pre.map (·.1)) ∧ True) ∧ Boxed W (w.heap.size + 1) 3 (.int .i64 ((framesL (pay pre)).length : Int)) ∧ Boxed W (w.heap.size + 1 + 1) 24 (.int .i64 er) ∧
    (∀ x ∈ pre, x.2.2 = 0 ∧ Vow x W) ∧ Below w.heap.size w W
theorem boxed_keeps {W W' : World} {row : Option Nat} {B : Nat} {t : TypeId} {v : Value} (h : Boxed W B t v) (hg : W.grownBy W' row) (hr : ∀ r, row = some r → ∃ o : Obj, W.heap[r]? = some o ∧ o.isCells = false) : Boxed W' B t v :=
  h.kept hg (fun e => by
    obtain ⟨o, ho, hc⟩ := hr B e.symm
    rw [show W.heap[B]? = _ from h] at ho
    cases ho
    cases hc)
theorem owned_keeps {W W' : World} {row : Option Nat} {base e size n : Nat} {v : Value} {xs : List Value} (h : W.ownsRow base e size v n xs) (hg : W.grownBy W' row) (hr : ∀ r, row = some r → ∃ o : Obj, W.heap[r]? = some o ∧ o.isCells = false) : W'.ownsRow base e size v n xs := by
  refine h.kept hg ?_
  rcases h.2 with ⟨rfl, _⟩ | ⟨g, cap, cur, rfl, _, hgb, _⟩
  · exact .inl rfl
  · refine .inr fun e' => ?_
    obtain ⟨o, ho, hc⟩ := hr g (by simpa [Value.ownBlock] using e'.symm)
    rw [hgb] at ho
    cases ho
    cases hc
/-- Rows of two types lie apart. -/
theorem own_apart {W : World} {b1 b2 e1 e2 s1 s2 n1 n2 : Nat} {v1 v2 : Value} {x1 x2 : List Value} (h1 : W.ownsRow b1 e1 s1 v1 n1 x1) (h2 : W.ownsRow b2 e2 s2 v2 n2 x2) (he : e1 ≠ e2) : v1.ownBlock = none ∨ v1.ownBlock ≠ v2.ownBlock := by
  rcases h1.2 with ⟨rfl, _⟩ | ⟨g, cap, cur, rfl, _, hgb, _⟩
  · exact .inl rfl
  · refine .inr fun e' => ?_
    rcases h2.2 with ⟨rfl, _⟩ | ⟨g2, cap2, cur2, rfl, _, hgb2, _⟩
    · simp [Value.ownBlock] at e'
    · obtain rfl : g = g2 := by simpa [Value.ownBlock] using e'
      rw [hgb] at hgb2
      simp only [Option.some.injEq, Obj.cells.injEq] at hgb2
      exact he hgb2.2.1
theorem vow_own (B : Nat) : OwnFrom B Vow := fun x W W' row h hg hr => ⟨owned_keeps h.1 hg (fun r e => (hr r e).2), h.2⟩
theorem inv_own (w : World) (D : Nat) (hD : w.heap.size ≤ D) (er : Int) : OwnFrom D (fun pre W => Inv w pre er W) := fun pre W W' row h hg hr => by
  obtain ⟨h1, h2, h3, h4, h5⟩ := h
  refine ⟨holdsRow_own w.heap.size w.heap.size 32 22 1 (fun pre : List Item => pre.length) (fun pre => pre.map (·.1)) (fun _ _ => True) pre W W' row h1 hg (fun r e => (hr r e).2),
    boxed_keeps h2 hg (fun r e => (hr r e).2), boxed_keeps h3 hg (fun r e => (hr r e).2), fun x hx => ⟨(h4 x hx).1, vow_own D x W W' row (h4 x hx).2 hg hr⟩, ?_⟩
  exact ownFrom_below (β := Unit) (n₀ := w.heap.size) (B := D) (w₀ := w) (Nat.le_refl _) hD () W W' row h5 hg hr
def InvX (w : World) (pre : List Item) (W : World) : Prop := ∃ init x, pre = init ++ [x] ∧ x.2.2 ≠ 0 ∧ Inv w init x.2.2 W
theorem invx_own (w : World) (D : Nat) (hD : w.heap.size ≤ D) : OwnFrom D (fun pre W => InvX w pre W) := fun pre W W' row h hg hr => by
  obtain ⟨init, x, h1, h2, h3⟩ := h
  exact ⟨init, x, h1, h2, inv_own w D hD x.2.2 init W W' row h3 hg hr⟩

theorem own_shape {W : World} {base e size n : Nat} {v : Value} {xs : List Value} (h : W.ownsRow base e size v n xs) : ∃ p c, v = .slice p n c := by
  rcases h.2 with ⟨rfl, rfl⟩ | ⟨g, cap, _, rfl, _⟩
  · exact ⟨_, _, rfl⟩
  · exact ⟨_, _, rfl⟩
theorem vow_set {W : World} {B : Nat} {t : TypeId} {v : Value} {x : Item} (hb : Boxed W B t v) (ht : t ≠ 5) (v' : Value) (h : Vow x W) : Vow x (W.setCell ⟨B, 0, none⟩ v') :=
  ⟨World.ownsRow.kept h.1 (grownBy_setCell' W B v') (.inr (hb.not_row ht h.1).symm), h.2⟩
/-- The results' boxes are stored into: the slice and the number anew, an error's number. -/
theorem inv_end {w W : World} {pre : List Item} {er : Int} (er' : Int) {vl : Value} (h : Inv w pre er W) (hvl : W.cell? ⟨w.heap.size, 0, none⟩ = some vl) (D : Nat) :
    Inv w pre er' (((W.setCell ⟨w.heap.size, 0, none⟩ vl).setCell ⟨w.heap.size + 1, 0, none⟩ (.int .i64 ((framesL (pay pre)).length : Int))).setCell ⟨w.heap.size + 1 + 1, 0, none⟩ (.int .i64 er')).drew ∧
    KeepsFrom D W (((W.setCell ⟨w.heap.size, 0, none⟩ vl).setCell ⟨w.heap.size + 1, 0, none⟩ (.int .i64 ((framesL (pay pre)).length : Int))).setCell ⟨w.heap.size + 1 + 1, 0, none⟩ (.int .i64 er')).drew := by
  obtain ⟨⟨vl', bL, hown, _⟩, bN, bE, hall, hB⟩ := h
  rw [bL.cell] at hvl
  obtain rfl : vl' = vl := by simpa using hvl
  generalize hW1 : W.setCell ⟨w.heap.size, 0, none⟩ vl' = W1
  have bL1 : Boxed W1 w.heap.size 32 vl' := hW1 ▸ bL.set vl'
  have bN1 : Boxed W1 (w.heap.size + 1) 3 _ := hW1 ▸ bN.kept (grownBy_setCell' W w.heap.size vl') (by simp; try omega)
  have bE1 : Boxed W1 (w.heap.size + 1 + 1) 24 _ := hW1 ▸ bE.kept (grownBy_setCell' W w.heap.size vl') (by simp; try omega)
  have ho1 : W1.ownsRow w.heap.size 22 1 vl' pre.length (pre.map (·.1)) := hW1 ▸ hown.kept (grownBy_setCell' W w.heap.size vl') (.inr (bL.not_row (by decide) hown).symm)
  have ha1 : ∀ x ∈ pre, x.2.2 = 0 ∧ Vow x W1 := fun x hx => ⟨(hall x hx).1, hW1 ▸ vow_set bL (by decide) vl' (hall x hx).2⟩
  have hB1 : Below w.heap.size w W1 := hW1 ▸ hB.setCell (p := ⟨w.heap.size, 0, none⟩) (Nat.le_refl _) vl'
  have hk1 : KeepsOthers W W1 := hW1 ▸ KeepsOthers.setCell _ _ _
  generalize hW2 : W1.setCell ⟨w.heap.size + 1, 0, none⟩ (.int .i64 ((framesL (pay pre)).length : Int)) = W2
  have bL2 : Boxed W2 w.heap.size 32 vl' := hW2 ▸ bL1.kept (grownBy_setCell' W1 (w.heap.size + 1) _) (by simp)
  have bN2 : Boxed W2 (w.heap.size + 1) 3 _ := hW2 ▸ bN1.set _
  have bE2 : Boxed W2 (w.heap.size + 1 + 1) 24 _ := hW2 ▸ bE1.kept (grownBy_setCell' W1 (w.heap.size + 1) _) (by simp)
  have ho2 : W2.ownsRow w.heap.size 22 1 vl' pre.length (pre.map (·.1)) := hW2 ▸ ho1.kept (grownBy_setCell' W1 (w.heap.size + 1) _) (.inr (bN1.not_row (by decide) ho1).symm)
  have ha2 : ∀ x ∈ pre, x.2.2 = 0 ∧ Vow x W2 := fun x hx => ⟨(ha1 x hx).1, hW2 ▸ vow_set bN1 (by decide) _ (ha1 x hx).2⟩
  have hB2 : Below w.heap.size w W2 := hW2 ▸ hB1.setCell (p := ⟨w.heap.size + 1, 0, none⟩) (by simp) _
  have hk2 : KeepsOthers W W2 := hk1.trans (hW2 ▸ KeepsOthers.setCell _ _ _)
  generalize hW3 : W2.setCell ⟨w.heap.size + 1 + 1, 0, none⟩ (.int .i64 er') = W3
  have bL3 : Boxed W3 w.heap.size 32 vl' := hW3 ▸ bL2.kept (grownBy_setCell' W2 (w.heap.size + 1 + 1) _) (by simp; try omega)
  have bN3 : Boxed W3 (w.heap.size + 1) 3 _ := hW3 ▸ bN2.kept (grownBy_setCell' W2 (w.heap.size + 1 + 1) _) (by simp; try omega)
  have bE3 : Boxed W3 (w.heap.size + 1 + 1) 24 _ := hW3 ▸ bE2.set _
  have ho3 : W3.ownsRow w.heap.size 22 1 vl' pre.length (pre.map (·.1)) := hW3 ▸ ho2.kept (grownBy_setCell' W2 (w.heap.size + 1 + 1) _) (.inr (bE2.not_row (by decide) ho2).symm)
  have ha3 : ∀ x ∈ pre, x.2.2 = 0 ∧ Vow x W3 := fun x hx => ⟨(ha2 x hx).1, hW3 ▸ vow_set bE2 (by decide) _ (ha2 x hx).2⟩
  have hB3 : Below w.heap.size w W3 := hW3 ▸ hB2.setCell (p := ⟨w.heap.size + 1 + 1, 0, none⟩) (by simp; omega) _
  have hk3 : KeepsOthers W W3 := hk2.trans (hW3 ▸ KeepsOthers.setCell _ _ _)
  exact ⟨⟨⟨vl', bL3, ho3, trivial⟩, bN3, bE3, ha3, hB3.drew⟩, (hk3.trans (KeepsOthers.drew W3)).from D⟩

/-- The payloads, how many bytes, the error's number. -/
def SplitLeft (ps : List (List UInt8)) (k : Nat) (er : Int) (w : World) (e : Ending) (w' : World) : Prop :=
  ∃ v', e = .returned (.tuple #[v', .int .i64 k, .int .i64 er]) ∧ PRow w' v' ps ∧ Below w.heap.size w w'
theorem prow_inv {w W : World} {xs : List Item} {er : Int} {v : Value} (h : Inv w xs er W) (hv : W.cell? ⟨w.heap.size, 0, none⟩ = some v) : PRow W v (pay xs) := by
  obtain ⟨⟨v', bL, hown, _⟩, _, _, hall, _⟩ := h
  rw [bL.cell] at hv
  obtain rfl : v' = v := by simpa using hv
  refine ⟨xs.map (·.1), Row.of_own hown, by simp, fun i hi => ?_⟩
  have hi' : i < xs.length := by simpa using hi
  refine ⟨xs[i].1, by simp [hi'], ?_⟩
  have := ((hall xs[i] (List.getElem_mem hi')).2.1).brow
  simpa using this
theorem infoRow : (Try.prog.info? 22).map (fun i => (i.zero, i.size, i.bytes)) = some (some (.slice none 0 0), 1, 24) := by kernel_rfl

set_option maxRecDepth 100000 in
set_option maxHeartbeats 4000000 in
theorem split_any (v : Value) (b : List UInt8) (w : World) (hr : BRow w v b) (ps : List (List UInt8)) (k : Nat) (er : Int) (hs : Splits b ps k er) (hlen : b.length ≤ 1073741824) :
    Calls Try.prog 18 #[v] w (SplitLeft ps k er w) := by
  obtain ⟨p, cap, rfl, hlc, hcm⟩ := hr.shape
  obtain ⟨i0, hi, hz0, hz1, hz2⟩ := info_parts infoRow
  have HR := Lib.hid hr
  have HS := Lib.hid hs
  clear hr hs
  refine (callsIn_wide (n := 5)).1 ?_
  refine callsIn_of_wp_marks Try.func18 rfl trivial ?_ rfl
  simp only [Try.ntmps18, List.size_toArray, List.length_cons, List.length_nil, Nat.reduceAdd, Nat.reduceSub, Array.replicate_succ, Array.replicate_zero, List.push_toArray, List.append_toArray, List.nil_append, List.cons_append]
  gi_wp2
  refine ⟨trivial, (frames_in 4 p b.length cap _).mono ?_⟩
  rintro e w0 ⟨rfl, rfl⟩
  have bL := Boxed.new w 32 (.slice none 0 0)
  have bN := Boxed.new (w.alloc (.cells #[.slice none 0 0] 32)) 3 (.int .i64 0)
  have bE := Boxed.new ((w.alloc (.cells #[.slice none 0 0] 32)).alloc (.cells #[.int .i64 0] 3)) 24 (.int .i64 0)
  have bB := Boxed.new (((w.alloc (.cells #[.slice none 0 0] 32)).alloc (.cells #[.int .i64 0] 3)).alloc (.cells #[.int .i64 0] 24)) 22 (.slice p b.length cap)
  simp only [World.size_alloc] at bN bE bB
  have hB0 : Below w.heap.size w ((((w.alloc (.cells #[.slice none 0 0] 32)).alloc (.cells #[.int .i64 0] 3)).alloc (.cells #[.int .i64 0] 24)).alloc (.cells #[.slice p b.length cap] 22)) :=
    ((((Below.refl _ w).alloc (Nat.le_refl _) _).alloc (by simp) _).alloc (by simp; omega) _).alloc (by simp; omega) _
  have hI0 : Inv w [] 0 ((((w.alloc (.cells #[.slice none 0 0] 32)).alloc (.cells #[.int .i64 0] 3)).alloc (.cells #[.int .i64 0] 24)).alloc (.cells #[.slice p b.length cap] 22)) :=
    ⟨⟨_, ((bL.alloc _).alloc _).alloc _, World.ownsRow_nil _ _ _ _, trivial⟩, (bN.alloc _).alloc _, bE.alloc _, by simp, hB0⟩
  have hsz0 : ((((w.alloc (.cells #[.slice none 0 0] 32)).alloc (.cells #[.int .i64 0] 3)).alloc (.cells #[.int .i64 0] 24)).alloc (.cells #[.slice p b.length cap] 22)).heap.size = w.heap.size + 1 + 1 + 1 + 1 := by simp
  generalize ((((w.alloc (.cells #[.slice none 0 0] 32)).alloc (.cells #[.int .i64 0] 3)).alloc (.cells #[.int .i64 0] 24)).alloc (.cells #[.slice p b.length cap] 22)) = w0 at *
  clear bL bN bE
  gi_wp2
  refine range_ rfl (by omega) (gf := 38) (lb := #[.pointer (some ⟨w.heap.size + 1 + 1 + 1, 0, none⟩)]) rfl trivial (enters_of Try.func38 (by kernel_rfl) rfl)
    (frames_vow 4 (by omega) (w.heap.size + 1 + 1 + 1) w.heap.size _ b w0 (by omega) (by omega) bB.cell (BIn.below HR.out hB0)) (Below.refl _ _) (by omega) (fun _ => rfl)
    (fun pre W => Inv w pre 0 W) (fun pre W => InvX w pre W) (inv_own w _ (by omega) 0) (invx_own w _ (by omega)) (vow_own _) hI0
    (fun x => { tmps := #[.slice p b.length cap, undef, .pointer (some ⟨w.heap.size, 0, none⟩), .pointer (some ⟨w.heap.size + 1, 0, none⟩), .pointer (some ⟨w.heap.size + 1 + 1, 0, none⟩), x.1, .int .i64 x.2.2, .slice p b.length cap,
      .func (.func 38) #[] #[.pointer (some ⟨w.heap.size + 1 + 1 + 1, 0, none⟩)], x.1, .int .i64 x.2.2, undef, undef, undef, undef, undef, undef, undef, undef, undef, undef, undef, undef, undef, undef, undef, undef], defers := [] }) ?assign ?body ?done ?stop
  case assign =>
    intro l x W K hK
    gi_wp2
    exact hK
  case body =>
    rintro l pre ⟨xv, xp, xe⟩ W hInv ⟨hrow, hxl⟩ hlt
    have HI := Lib.hid hInv
    obtain ⟨⟨vl, bL, hown, _⟩, bN, bE, hall, hB⟩ := hInv
    change OwnB 0 W xv xp at hrow
    change xp.length ≤ 16777216 at hxl
    obtain ⟨q, capq, rfl, _, _⟩ := hrow.brow.shape
    dsimp only
    obtain ⟨pl, cl, rfl⟩ := own_shape hown
    have cL := bL.cell
    have fL := bL.frozen
    have cN := bN.cell
    have fN := bN.frozen
    have cE := bE.cell
    have fE := bE.frozen
    have hmx : Try.prog.follows .mixedOrders = true := by kernel_rfl
    by_cases hxe : xe = 0
    · have t1 : (xe != 0) = false := by simp [hxe]
      have hsz := fun W => sizeL_frame hxl ▸ size_fr (xp.length : Int) W (by omega) (by omega)
      have hfm := frames_most (pay pre) (fun p hp => by
        obtain ⟨x, hx, rfl⟩ := List.mem_map.1 hp
        exact (hall x hx).2.2)
      have hpl : (pay pre).length = pre.length := by simp
      have hfb := frameL_bounds xp
      have hsnoc : (framesL (pay (pre ++ [(.slice q xp.length capq, xp, xe)]))).length = (framesL (pay pre)).length + (frameL xp).length := by
        rw [show pay (pre ++ [(.slice q xp.length capq, xp, xe)]) = pay pre ++ [xp] by simp [pay], framesL_append, framesL_cons, framesL_nil, List.append_nil, List.length_append]
      generalize (frameL xp).length = F1 at *
      have hF : (framesL (pay pre)).length ≤ 18446744073709551616 / 16 := by omega
      have HSZ := Lib.hid hsz
      have HSN := Lib.hid hsnoc
      have HAL := Lib.hid hall
      have hbs := hB.size
      clear hsz hsnoc hfm hpl hall
      generalize hG : (framesL (pay pre)).length = G at *
      gi_wp2_with (gi_at_builtin; refine wpListIn_append_own _ rfl _ _ 32 rfl w.heap.size 22 i0 (.slice none 0 0) 1 24 Try.underlying32 hi hz0 hz1 hz2 rfl (by decide) _ _ _ rfl (hown.alloc _) ⟨W.heap.size, 0, none⟩ 1 1 [.slice q xp.length capq] rfl rfl (cell_one_new _ _ _) (by simp [Value.oneCell']) (by omega) (by omega) (by simp; omega) ?_; intro v' w1 hown' hgrow _; obtain ⟨g', cap', rfl⟩ := ownsRow_succ hown'; obtain ⟨hv1, hv2, hr2, hk2, hb2⟩ := bL.appended (by decide) hown hB.size (Nat.le_refl _) hown' hgrow; have hc1 := hv1.cell; have hf1 := hv1.frozen)
      have hgr : (W.alloc (.cells #[.slice q xp.length capq] 22)).grownBy w1 (Value.slice pl pre.length cl).ownBlock := hgrow
      have hba : Below W.heap.size W (W.alloc (.cells #[.slice q xp.length capq] 22)) := (Below.refl W.heap.size W).alloc (Nat.le_refl _) _
      have hto : ∀ (u : Value) (l : List UInt8), OwnB 0 W u l → OwnB 0 w1 u l := fun u l h => World.ownsRow.kept (own_keep (B := 0) h hba) hgr (own_apart (own_keep (B := 0) h hba) (own_keep (B := 0) hown hba) (by decide))
      have hv1' : Vow (.slice q xp.length capq, xp, xe) w1 := ⟨hto _ _ hrow, hxl⟩
      have hall1 : ∀ x ∈ pre, x.2.2 = 0 ∧ Vow x w1 := fun x hx => ⟨(HAL.out x hx).1, hto _ _ (HAL.out x hx).2.1, (HAL.out x hx).2.2⟩
      have bN1 := (bN.alloc (.cells #[.slice q xp.length capq] 22)).kept hgr (bN.not_row (by decide) hown)
      have bE1 := (bE.alloc (.cells #[.slice q xp.length capq] 22)).kept hgr (bE.not_row (by decide) hown)
      have hown2 := hr2
      obtain ⟨W2, hW2⟩ : ∃ W2, w1.setCell ⟨w.heap.size, 0, none⟩ (.slice (some ⟨g', 0, none⟩) (pre.length + 1) cap') = W2 := ⟨_, rfl⟩
      have bN2 : Boxed W2 (w.heap.size + 1) 3 _ := hW2 ▸ bN1.kept (grownBy_setCell' w1 w.heap.size _) (by simp)
      have bE2 : Boxed W2 (w.heap.size + 1 + 1) 24 _ := hW2 ▸ bE1.kept (grownBy_setCell' w1 w.heap.size _) (by simp; try omega)
      have hv2' : Vow (.slice q xp.length capq, xp, xe) W2 := hW2 ▸ vow_set hv1 (by decide) _ hv1'
      have hall2 : ∀ x ∈ pre, x.2.2 = 0 ∧ Vow x W2 := fun x hx => ⟨(hall1 x hx).1, hW2 ▸ vow_set hv1 (by decide) _ (hall1 x hx).2⟩
      rw [hW2] at hv2 hr2 hk2 hb2 ⊢
      clear hall1 hv1' hown2 hto hW2 hc1 hf1 cL fL cN fN cE fE
      have cN := bN2.cell
      have fN := bN2.frozen
      have hend : Inv w (pre ++ [(.slice q xp.length capq, xp, xe)]) 0 (W2.setCell ⟨w.heap.size + 1, 0, none⟩ (.int .i64 ((G : Int) + (F1 : Int)))).drew ∧ KeepsFrom w0.heap.size W (W2.setCell ⟨w.heap.size + 1, 0, none⟩ (.int .i64 ((G : Int) + (F1 : Int)))).drew ∧
          Below w.heap.size W (W2.setCell ⟨w.heap.size + 1, 0, none⟩ (.int .i64 ((G : Int) + (F1 : Int)))).drew := by
        have hgs := grownBy_setCell' W2 (w.heap.size + 1) (.int .i64 ((G : Int) + (F1 : Int)))
        have hbl : Below w.heap.size W (W2.setCell ⟨w.heap.size + 1, 0, none⟩ (.int .i64 ((G : Int) + (F1 : Int)))) := hb2.setCell (p := ⟨w.heap.size + 1, 0, none⟩) (by simp) _
        have bL3 := hv2.kept hgs (by simp)
        have bE3 := bE2.kept hgs (by simp)
        refine ⟨⟨⟨_, bL3, ?_, trivial⟩, ?_, bE3, ?_, (hB.trans hbl).drew⟩, ((hk2.trans (KeepsOthers.setCell _ _ _)).trans (KeepsOthers.drew _)).from _, hbl.drew⟩
        · rw [List.length_append, List.length_singleton, List.map_append]
          have ho3 := World.ownsRow.kept hr2 hgs (.inr (bN2.not_row (by decide) hr2).symm)
          exact ho3
        · rw [HSN.out]
          exact bN2.set _
        · intro x hx
          rcases List.mem_append.1 hx with hx | hx
          · have hv3 := vow_set bN2 (by decide) (.int .i64 ((G : Int) + (F1 : Int))) (hall2 x hx).2
            exact ⟨(hall2 x hx).1, hv3⟩
          · simp only [List.mem_singleton] at hx
            subst hx
            have hv3 := vow_set bN2 (by decide) (.int .i64 ((G : Int) + (F1 : Int))) hv2'
            exact ⟨hxe, hv3⟩
      have HEND := Lib.hid hend
      clear hv2' hall2 hend
      gi_region_with_o (refine ⟨trivial, ?_⟩; gi_at_call 14; refine (CallsIn.inRound l (callsIn_wide.2 (HSZ.out _))).mono ?_; rintro e w' ⟨rfl, rfl⟩)
      all_goals gi_wp2
      all_goals (try go_bits)
      all_goals exact ⟨HEND.out.2.1, HEND.out.2.2, HEND.out.1⟩
    · have t1 : (xe != 0) = true := by simp [hxe]
      gi_wp2
      gi_region_with_o (fail)
      all_goals gi_wp2
      all_goals
        obtain ⟨e1, e2⟩ := inv_end xe HI.out cL w0.heap.size
        exact ⟨e2, pre, _, rfl, hxe, e1⟩
  case done =>
    rintro D xs W hD hT hInv hK
    have hmx : Try.prog.follows .mixedOrders = true := by kernel_rfl
    have HI := Lib.hid hInv
    obtain ⟨⟨vl, bL, hown, _⟩, bN, bE, hall, hB⟩ := hInv
    obtain ⟨pl, cl, rfl⟩ := own_shape hown
    have cL := bL.cell
    have fL := bL.frozen
    have cN := bN.cell
    have fN := bN.frozen
    have cE := bE.cell
    have fE := bE.frozen
    have hend := inv_end 0 HI.out cL w0.heap.size
    obtain ⟨rfl, rfl, rfl⟩ := HS.out.unique (hT.all (fun x hx => (hall x hx).1))
    generalize hG : (framesL (pay xs)).length = G at *
    have HE := Lib.hid hend
    clear hend hall hT
    gi_wp2
    gi_region_with_o (fail)
    all_goals gi_wp2
    all_goals
      obtain ⟨e1, e2⟩ := HE.out
      generalize (((W.setCell ⟨w.heap.size, 0, none⟩ (.slice pl xs.length cl)).setCell ⟨w.heap.size + 1, 0, none⟩ (.int .i64 (G : Int))).setCell ⟨w.heap.size + 1 + 1, 0, none⟩ (.int .i64 0)).drew = W3 at *
      have hK3 := e2.same D _ hD hK rfl
      have hI4 := (inv_own w w0.heap.size (by omega) 0).putObj (.deferred none) e1 hD hK3 rfl
      refine ⟨by simp, .inl ⟨_, _, rfl, run_takeDeferred hK3, ?_⟩⟩
      obtain ⟨⟨v4, bL4, hown4, _⟩, bN4, bE4, _, hB4⟩ := id hI4
      have cL4 := bL4.cell
      have cN4 := bN4.cell
      have cE4 := bE4.cell
      rw [hG] at cN4
      refine ⟨.tuple #[v4, .int .i64 (G : Int), .int .i64 0], ?_, v4, rfl, prow_inv hI4 cL4, hB4⟩
      simp [results, Try.f18, go_sem, cL4, cN4, cE4]
  case stop =>
    rintro D pre W hD ⟨r, hT⟩ ⟨init, x, rfl, hx, hInv⟩ hK
    have hI4 := (inv_own w w0.heap.size (by omega) x.2.2).putObj (.deferred none) hInv hD hK rfl
    have HI4 := Lib.hid hI4
    obtain ⟨⟨v4, bL4, hown4, _⟩, bN4, bE4, hall4, hB4⟩ := hI4
    obtain ⟨rfl, rfl, rfl⟩ := HS.out.unique (hT.err (fun y hy => (hall4 y hy).1) hx)
    have cL4 := bL4.cell
    have cN4 := bN4.cell
    have cE4 := bE4.cell
    have HC := Lib.hid cL4
    clear hall4 hT hown4
    gi_wp2
    refine ⟨by simp, .inl ⟨_, _, rfl, run_takeDeferred hK, ?_⟩⟩
    refine ⟨.tuple #[v4, .int .i64 ((framesL (pay init)).length : Int), .int .i64 x.2.2], ?_, v4, rfl, prow_inv HI4.out HC.out, hB4⟩
    simp [results, Try.f18, go_sem, cL4, cN4, cE4]
#print axioms split_any
end Go.Proofs.Ytfnohcmoaooghaa.FG
