/-
  A region that draws its order, whose operations either yield one value in every world in which the blocks of a set stay, or (calls that make or write memory) stand alone: one order serves all. No condition. A region that draws its order, whose operations either yield one value in every world that has only grown, or (calls that make memory) stand alone: one order serves all. No program; no condition. Are two rows of numbered events the same: the reference's. No condition.
-/
import Derived.Test.YthgfaadlnffpcaaZA2
import Derived.OrdersHeld
import Derived.RegionTactic
import Derived.Below
import Derived.Test.YthgfaadlnffpcaaZA12
import Derived.Test.YthgfaadlnffpcaaZA20
namespace Go.Proofs.Ythgfaadlnffpcaa.RK
open Go Go.RowKit Go.Proofs.Ythgfaadlnffpcaa.MM

section
variable {T : Nat → Prop} {P : Program} {ops : Array Oper} {Q : Exit → Act → World → Prop} {md : Region.Mode}

theorem held_weaken {S S' : World → Prop} (hS : ∀ w, S' w → S w) : ∀ (fuel : Nat) (listed : Array Bool) (a : Act) (w : World), wpAnyH P md ops Q S' fuel listed a w → wpAnyH P md ops Q S fuel listed a w
  | 0, _, _, _, h => h
  | fuel + 1, _, _, _, h => ⟨h.1, fun i hi => wpOp_mono (fun a' w' h' => ⟨hS _ h'.1, held_weaken hS fuel _ a' w' h'.2⟩) (h.2 i hi)⟩

/-- A way on, kept from the walk. -/
def Way (p : Prop) : Prop := p
theorem Way.out {p : Prop} (h : Way p) : p := h

/-- One order: the operations; true: it yields one value in whatever grown world; false: it stands alone, and the world grows. -/
def walk (T : Nat → Prop) (P : Program) (ops : Array Oper) (Q : Exit → Act → World → Prop) : List (Option Oper × Bool) → Act → World → Prop
  | [], a, w => Q .normal a w
  | (some o, true) :: rest, a, w => ∃ v, YieldsIf P ops (Kep T w) o v a ∧ walk T P ops Q rest (a.put o.dst v) w
  | (some o, false) :: rest, a, w => ∀ K : Act → World → Prop, (∀ a' w', Kep T w w' → walk T P ops Q rest a' w' → K a' w') → if Region.wanted o (yielded ops a.tmps) = true then o.wp P a w K Q else K (a.put o.dst undef) w
  | (none, _) :: _, _, _ => False
/-- The operations in the order of a plan. -/
def ordered (ops : Array Oper) (l : List (Nat × Bool)) : List (Option Oper × Bool) := l.map fun p => (ops[p.1]?, p.2)

/-- The order is one: each operation may come up, and is free or alone. -/
def planned (md : Region.Mode) (ops : Array Oper) : List (Nat × Bool) → Array Bool → Bool
  | [], listed => (Region.ready md ops listed).isEmpty
  | (i, true) :: rest, listed => Region.free md ops listed i && (Region.ready md ops listed).contains i && planned md ops rest (listed.setIfInBounds i true)
  | (i, false) :: rest, listed => (Region.ready md ops listed == [i]) && planned md ops rest (listed.setIfInBounds i true)

theorem held_of_walk (hs : Region.noSelect ops = true) (hQ : ∀ c a d v w, Q (.panic c) (Act.put a d v) w → Q (.panic c) a w) :
    ∀ (l : List (Nat × Bool)) (listed : Array Bool) (a : Act) (w : World), planned md ops l listed = true → walk T P ops Q (ordered ops l) a w → wpAnyH P md ops Q (Kep T w) l.length listed a w
  | [], listed, a, w, hp, h => ⟨by simpa [planned] using hp, h⟩
  | (i, b) :: rest, listed, a, w, hp, h => by
    have h' : walk T P ops Q ((ops[i]?, b) :: ordered ops rest) a w := h
    cases ho : ops[i]? with
    | none => rw [ho] at h'; cases b <;> exact h'.elim
    | some o =>
      rw [ho] at h'
      cases b with
      | true =>
        obtain ⟨v, hy, hr⟩ := h'
        simp only [planned, Bool.and_eq_true] at hp
        exact wpAnyH_take ho hs hp.1.1 hp.1.2 (fun c a w => hQ c a _ _ w) hy (Kep.refl _ w) (held_of_walk hs hQ rest _ _ _ hp.2 hr)
      | false =>
        simp only [planned, Bool.and_eq_true] at hp
        refine wpAnyH_all (rs := [i]) (by simpa using hp.1) (by simp) (fun j hj => ?_)
        obtain rfl : j = i := by simpa using hj
        exact wpOp_step ho (fun K hK => h' K (fun a' w' h1 h2 => hK a' w' ⟨h1, held_weaken (fun W hW => h1.trans hW) _ _ _ _ (held_of_walk hs hQ rest _ _ _ hp.2 h2)⟩))

/-- THE BEGINNING. -/
theorem begin_ (l : List (Nat × Bool)) {id : Nat} {a : Act} {w : World} (hm : P.follows .mixedOrders = true) (hs : Region.noSelect ops = true) (hl : l.length = ops.size)
    (hp : planned .any ops l (Array.replicate ops.size false) = true) (hQ : ∀ c a d v w, Q (.panic c) (Act.put a d v) w → Q (.panic c) a w)
    (h : walk T P ops Q (ordered ops l) a w.drew) : (Code.region id ops true).wp P Q a w := by
  refine wp_region_held (S := Kep T w.drew) hm ?_
  rw [← hl]
  have := held_of_walk (md := .any) hs hQ l (Array.replicate ops.size false) a w.drew hp h
  rw [← hl] at this
  exact this

/-- THE STEPS. -/
theorem take {rest : List (Option Oper × Bool)} {a : Act} {w : World} {o : Oper} {v : Value} (hw : Region.wanted o (yielded ops a.tmps) = true)
    (hy : ∀ W, Kep T w W → (execOp a.eval o).run P W = .ok (.value v) W) (h : walk T P ops Q rest (a.put o.dst v) w) : walk T P ops Q ((some o, true) :: rest) a w :=
  ⟨v, .inl ⟨hw, hy⟩, h⟩
theorem skip {rest : List (Option Oper × Bool)} {a : Act} {w : World} {o : Oper} (hw : Region.wanted o (yielded ops a.tmps) = false)
    (h : walk T P ops Q rest (a.put o.dst undef) w) : walk T P ops Q ((some o, true) :: rest) a w :=
  ⟨undef, .inr ⟨hw, rfl⟩, h⟩
theorem alone {rest : List (Option Oper × Bool)} {a : Act} {w : World} {o : Oper} (hw : Region.wanted o (yielded ops a.tmps) = true)
    (h : ∀ K : Act → World → Prop, Way (∀ a' w', Kep T w w' → walk T P ops Q rest a' w' → K a' w') → o.wp P a w K Q) : walk T P ops Q ((some o, false) :: rest) a w := by
  intro K hK
  rw [if_pos hw]
  exact h K hK
theorem alone_skip {rest : List (Option Oper × Bool)} {a : Act} {w : World} {o : Oper} (hw : Region.wanted o (yielded ops a.tmps) = false)
    (h : walk T P ops Q rest (a.put o.dst undef) w) : walk T P ops Q ((some o, false) :: rest) a w := by
  intro K hK
  rw [if_neg (by rw [hw]; exact Bool.false_ne_true)]
  exact hK _ _ (Kep.refl _ w) h
theorem done {a : Act} {w : World} (h : Q .normal a w) : walk T P ops Q [] a w := h
end
end Go.Proofs.Ythgfaadlnffpcaa.RK
namespace Go.Proofs.Ythgfaadlnffpcaa.RG
open Go Go.RowKit

section
variable {P : Program} {ops : Array Oper} {Q : Exit → Act → World → Prop} {md : Region.Mode}

/-- Nothing that was there has turned. -/
def Grew (w w' : World) : Prop := Below w.heap.size w w'
theorem Grew.refl (w : World) : Grew w w := Below.refl _ w
theorem Grew.trans {a b c : World} (h : Grew a b) (k : Grew b c) : Grew a c := Below.trans h (Below.mono k h.size)

theorem held_weaken {S S' : World → Prop} (hS : ∀ w, S' w → S w) : ∀ (fuel : Nat) (listed : Array Bool) (a : Act) (w : World), wpAnyH P md ops Q S' fuel listed a w → wpAnyH P md ops Q S fuel listed a w
  | 0, _, _, _, h => h
  | fuel + 1, _, _, _, h => ⟨h.1, fun i hi => wpOp_mono (fun a' w' h' => ⟨hS _ h'.1, held_weaken hS fuel _ a' w' h'.2⟩) (h.2 i hi)⟩

/-- A way on, kept from the walk. -/
def Way (p : Prop) : Prop := p
theorem Way.out {p : Prop} (h : Way p) : p := h

/-- One order: the operations; true: it yields one value in whatever grown world; false: it stands alone, and the world grows. -/
def walk (P : Program) (ops : Array Oper) (Q : Exit → Act → World → Prop) : List (Option Oper × Bool) → Act → World → Prop
  | [], a, w => Q .normal a w
  | (some o, true) :: rest, a, w => ∃ v, YieldsIf P ops (Grew w) o v a ∧ walk P ops Q rest (a.put o.dst v) w
  | (some o, false) :: rest, a, w => ∀ K : Act → World → Prop, (∀ a' w', Grew w w' → walk P ops Q rest a' w' → K a' w') → if Region.wanted o (yielded ops a.tmps) = true then o.wp P a w K Q else K (a.put o.dst undef) w
  | (none, _) :: _, _, _ => False
/-- The operations in the order of a plan. -/
def ordered (ops : Array Oper) (l : List (Nat × Bool)) : List (Option Oper × Bool) := l.map fun p => (ops[p.1]?, p.2)

/-- The order is one: each operation may come up, and is free or alone. -/
def planned (md : Region.Mode) (ops : Array Oper) : List (Nat × Bool) → Array Bool → Bool
  | [], listed => (Region.ready md ops listed).isEmpty
  | (i, true) :: rest, listed => Region.free md ops listed i && (Region.ready md ops listed).contains i && planned md ops rest (listed.setIfInBounds i true)
  | (i, false) :: rest, listed => (Region.ready md ops listed == [i]) && planned md ops rest (listed.setIfInBounds i true)

theorem held_of_walk (hs : Region.noSelect ops = true) (hQ : ∀ c a d v w, Q (.panic c) (Act.put a d v) w → Q (.panic c) a w) :
    ∀ (l : List (Nat × Bool)) (listed : Array Bool) (a : Act) (w : World), planned md ops l listed = true → walk P ops Q (ordered ops l) a w → wpAnyH P md ops Q (Grew w) l.length listed a w
  | [], listed, a, w, hp, h => ⟨by simpa [planned] using hp, h⟩
  | (i, b) :: rest, listed, a, w, hp, h => by
    have h' : walk P ops Q ((ops[i]?, b) :: ordered ops rest) a w := h
    cases ho : ops[i]? with
    | none => rw [ho] at h'; cases b <;> exact h'.elim
    | some o =>
      rw [ho] at h'
      cases b with
      | true =>
        obtain ⟨v, hy, hr⟩ := h'
        simp only [planned, Bool.and_eq_true] at hp
        exact wpAnyH_take ho hs hp.1.1 hp.1.2 (fun c a w => hQ c a _ _ w) hy (Grew.refl w) (held_of_walk hs hQ rest _ _ _ hp.2 hr)
      | false =>
        simp only [planned, Bool.and_eq_true] at hp
        refine wpAnyH_all (rs := [i]) (by simpa using hp.1) (by simp) (fun j hj => ?_)
        obtain rfl : j = i := by simpa using hj
        exact wpOp_step ho (fun K hK => h' K (fun a' w' h1 h2 => hK a' w' ⟨h1, held_weaken (fun W hW => Grew.trans h1 hW) _ _ _ _ (held_of_walk hs hQ rest _ _ _ hp.2 h2)⟩))

/-- THE BEGINNING. -/
theorem begin_ (l : List (Nat × Bool)) {id : Nat} {a : Act} {w : World} (hm : P.follows .mixedOrders = true) (hs : Region.noSelect ops = true) (hl : l.length = ops.size)
    (hp : planned .any ops l (Array.replicate ops.size false) = true) (hQ : ∀ c a d v w, Q (.panic c) (Act.put a d v) w → Q (.panic c) a w)
    (h : walk P ops Q (ordered ops l) a w.drew) : (Code.region id ops true).wp P Q a w := by
  refine wp_region_held (S := Grew w.drew) hm ?_
  rw [← hl]
  have := held_of_walk (md := .any) hs hQ l (Array.replicate ops.size false) a w.drew hp h
  rw [← hl] at this
  exact this

/-- THE STEPS. -/
theorem take {rest : List (Option Oper × Bool)} {a : Act} {w : World} {o : Oper} {v : Value} (hw : Region.wanted o (yielded ops a.tmps) = true)
    (hy : ∀ W, Grew w W → (execOp a.eval o).run P W = .ok (.value v) W) (h : walk P ops Q rest (a.put o.dst v) w) : walk P ops Q ((some o, true) :: rest) a w :=
  ⟨v, .inl ⟨hw, hy⟩, h⟩
theorem skip {rest : List (Option Oper × Bool)} {a : Act} {w : World} {o : Oper} (hw : Region.wanted o (yielded ops a.tmps) = false)
    (h : walk P ops Q rest (a.put o.dst undef) w) : walk P ops Q ((some o, true) :: rest) a w :=
  ⟨undef, .inr ⟨hw, rfl⟩, h⟩
theorem alone {rest : List (Option Oper × Bool)} {a : Act} {w : World} {o : Oper} (hw : Region.wanted o (yielded ops a.tmps) = true)
    (h : ∀ K : Act → World → Prop, Way (∀ a' w', Grew w w' → walk P ops Q rest a' w' → K a' w') → o.wp P a w K Q) : walk P ops Q ((some o, false) :: rest) a w := by
  intro K hK
  rw [if_pos hw]
  exact h K hK
theorem alone_skip {rest : List (Option Oper × Bool)} {a : Act} {w : World} {o : Oper} (hw : Region.wanted o (yielded ops a.tmps) = false)
    (h : walk P ops Q rest (a.put o.dst undef) w) : walk P ops Q ((some o, false) :: rest) a w := by
  intro K hK
  rw [if_neg (by rw [hw]; exact Bool.false_ne_true)]
  exact hK _ _ (Grew.refl w) h
theorem done {a : Act} {w : World} (h : Q .normal a w) : walk P ops Q [] a w := h
end
end Go.Proofs.Ythgfaadlnffpcaa.RG
set_option linter.unusedVariables false
namespace Go.Proofs.Ythgfaadlnffpcaa.EV
open Go Go.RowKit Go.Proofs.Ythgfaadlnffpcaa.MM Go.Proofs.Ythgfaadlnffpcaa.EM

set_option maxRecDepth 100000 in
set_option maxHeartbeats 4000000 in
theorem samedocs_any (u v : Value) (xs ys : List Doc) (w : World) (hu : RAny docC w u xs) (hv : RAny docC w v ys) : Calls Try.prog 13 #[u, v] w (BoolLeft (decide (xs = ys)) w) := by
  obtain ⟨p1, cap1, rfl, hl1, hm1, _⟩ := hu.shape
  obtain ⟨p2, cap2, rfl, hl2, hm2, _⟩ := hv.shape
  unfold maxLen at hm1 hm2
  by_cases hn : xs.length = ys.length
  · have t0 : (((xs.length : Int)) != ((ys.length : Int))) = false := by simp [hn]
    obtain ⟨n, hnn⟩ : ∃ n, xs.length = n := ⟨_, rfl⟩
    have hnb : ys.length = n := by omega
    obtain ⟨RES, hRES⟩ : ∃ RES, decide (xs = ys) = RES := ⟨_, rfl⟩
    have h0 : decide (xs.drop 0 = ys.drop 0) = RES := hRES
    rw [hRES]
    have H0 := Lib.hid h0
    have HU := Lib.hid hu
    have HV := Lib.hid hv
    have HNA := Lib.hid hnn
    have HNB := Lib.hid hnb
    rw [hnn, hnb] at t0
    rw [hnn] at hl1 ⊢
    rw [hnb] at hl2 ⊢
    clear h0 hu hv hRES hn hnn hnb
    go_enter Try.func13, Try.ntmps13
    go_wp2_with fail
    go_loopw [5] (fun iv wr => ∃ i : Nat, i ≤ n ∧ iv = .int .i64 i ∧ Hid (decide (xs.drop i = ys.drop i) = RES) ∧ Hid (Below w.heap.size w wr)) (fun iv _ => n - (intOf iv).toNat)
    case atStart => exact ⟨0, by omega, rfl, H0, Lib.hid (Below.refl _ _)⟩
    case round =>
      obtain ⟨i, hi, rfl, HI, HB⟩ := hrel
      clear H0
      by_cases hlt : i < n
      · have q1 : decide ((i : Int) < (n : Int)) = true := by rw [decide_eq_true_eq]; omega
        have q2 : decide (i < n) = true := by rw [decide_eq_true_eq]; omega
        have q3 : (i : Int) < n := by omega
        have ha : i < xs.length := by rw [HNA.out]; exact hlt
        have hb : i < ys.length := by rw [HNB.out]; exact hlt
        have hu1 := HU.out.below HB.out
        have hv1 := HV.out.below HB.out
        rw [HNA.out] at hu1
        rw [HNB.out] at hv1
        obtain ⟨b1, o1, v1, rfl, hb1, _, c1, c2, c3, hf1⟩ := doc_at hu1 ha
        obtain ⟨b2, o2, v2, rfl, hb2, _, c4, c5, c6, hf2⟩ := doc_at hv1 hb
        have hnx := HI.out
        rw [drop_same ha hb] at hnx
        generalize xs[i] = X at *
        generalize ys[i] = Y at *
        obtain ⟨s1, z1, fs1⟩ := X
        obtain ⟨s2, z2, fs2⟩ := Y
        dsimp only at c1 c2 c3 hf1 c4 c5 c6 hf2
        have hd : decide ((s1, (z1, fs1)) = ((s2, (z2, fs2)) : Doc)) = (decide (s1 = s2) && decide ((z1, fs1) = ((z2, fs2) : Ev))) := by
          rw [Bool.eq_iff_iff, decide_eq_true_eq, Bool.and_eq_true, decide_eq_true_eq, decide_eq_true_eq]
          exact Prod.ext_iff
        rw [hd] at hnx
        have HN := Lib.hid hnx
        have HLT := Lib.hid hlt
        clear HI hu1 hv1 ha hb hnx hlt hd
        by_cases e : s1 = s2
        · have hn := HN.out
          rw [decide_eq_true e, Bool.true_and] at hn
          have t1 : (s1 != s2) = false := by simp [e]
          have HN2 := Lib.hid hn
          clear HN hn e
          go_wp2_with fail
          refine RG.begin_ [(0, true), (1, true), (2, true), (3, true), (4, true), (5, true), (6, true), (7, true), (8, true), (9, true), (10, true), (11, true), (12, true), (13, true), (14, true), (15, true), (16, true), (17, true), (18, true), (19, true), (20, true), (21, true), (22, false), (23, true), (24, true)] (by kernel_rfl) (by kernel_rfl) rfl (by kernel_rfl) (fun _ _ d _ _ h => by cases d <;> exact h) ?_
          simp only [RG.ordered, List.map_cons, List.map_nil, List.getElem?_toArray, List.getElem?_cons_succ, List.getElem?_cons_zero]
          obtain ⟨wd, hwd⟩ : ∃ wd, wr.drew = wd := ⟨_, rfl⟩
          have hbd : Below wr.heap.size wr wd := by rw [← hwd]; exact (Below.refl _ _).drew
          have G := Lib.hid (fun W (hW : Below wd.heap.size wd W) => (show W.cell? ⟨b1, o1 + i * 3, none⟩ = some (.int .i64 s1) ∧ W.cell? ⟨b1, o1 + i * 3 + 1, none⟩ = some (.int .i64 z1) ∧ W.cell? ⟨b1, o1 + i * 3 + 2, none⟩ = some v1 ∧ W.cell? ⟨b2, o2 + i * 3, none⟩ = some (.int .i64 s2) ∧ W.cell? ⟨b2, o2 + i * 3 + 1, none⟩ = some (.int .i64 z2) ∧ W.cell? ⟨b2, o2 + i * 3 + 2, none⟩ = some v2 from
            ⟨((RG.Grew.trans hbd hW).cell (by simpa using hb1)).trans c1, ((RG.Grew.trans hbd hW).cell (by simpa using hb1)).trans c2, ((RG.Grew.trans hbd hW).cell (by simpa using hb1)).trans c3, ((RG.Grew.trans hbd hW).cell (by simpa using hb2)).trans c4, ((RG.Grew.trans hbd hW).cell (by simpa using hb2)).trans c5, ((RG.Grew.trans hbd hW).cell (by simpa using hb2)).trans c6⟩))
          have HF1 := Lib.hid (RAny.below hf1.any hbd)
          have HF2 := Lib.hid (RAny.below hf2.any hbd)
          have HBD := Lib.hid (HB.out.trans (hbd.mono HB.out.size))
          change RG.walk _ _ _ _ _ wr.drew
          rw [hwd]
          clear hwd hbd hf1 hf2 c1 c2 c3 c4 c5 c6 hb1 hb2
          repeat (refine RG.take (by rfl) (by intro W hW; obtain ⟨f1, f2, f3, f4, f5, f6⟩ := G.out W hW; go_simp; with_reducible rfl) ?_; simp only [Act.put, List.setIfInBounds_toArray, List.set_cons_zero, List.set_cons_succ])
          try simp only [t1]
          repeat (refine RG.take (by rfl) (by intro W hW; obtain ⟨f1, f2, f3, f4, f5, f6⟩ := G.out W hW; go_simp; with_reducible rfl) ?_; simp only [Act.put, List.setIfInBounds_toArray, List.set_cons_zero, List.set_cons_succ])
          obtain ⟨d, hd⟩ : ∃ d, decide ((z1, fs1) = ((z2, fs2) : Ev)) = d := ⟨_, rfl⟩
          have hcall := rsame_any z1 z2 _ _ fs1 fs2 _ HF1.out HF2.out
          rw [hd] at hcall
          have HCALL := Lib.hid hcall
          have hn := HN2.out
          rw [hd] at hn
          clear hd HN2 hcall
          have HN3 := Lib.hid hn
          clear hn
          refine RG.alone (by rfl) (fun K hK => ?_)
          go_simp
          refine HCALL.out.mono ?_
          rintro e w1 ⟨rfl, b1'⟩
          go_simp
          refine hK.out _ _ b1' ?_
          clear hK K
          have HB1 := Lib.hid (HBD.out.trans (b1'.mono HBD.out.size))
          clear b1'
          clear HCALL
          repeat (refine RG.take (by rfl) (by intro W hW; go_simp; with_reducible rfl) ?_; simp only [Act.put, List.setIfInBounds_toArray, List.set_cons_zero, List.set_cons_succ])
          refine RG.done ?_
          clear G HF1 HF2
          cases d with
          | true =>
            have hn := HN3.out
            rw [Bool.true_and] at hn
            have HN4 := Lib.hid hn
            clear HN3 hn
            go_wp2_with fail
            have hlt := HLT.out
            go_roundw
            case rel => exact ⟨i + 1, by omega, by go_num, HN4, HB1⟩
            case measure => simp [intOf]; omega
          | false =>
            have hn := HN3.out
            rw [Bool.false_and] at hn
            subst hn
            clear HN3
            go_wp2_with fail
            go_ret
            exact ⟨rfl, HB1.out⟩
        · have hn := HN.out
          rw [decide_eq_false e, Bool.false_and] at hn
          have t1 : (s1 != s2) = true := by simp [e]
          subst hn
          clear HN e
          go_wp2_with fail
          refine RG.begin_ [(0, true), (1, true), (2, true), (3, true), (4, true), (5, true), (6, true), (7, true), (8, true), (9, true), (10, true), (11, true), (12, true), (13, true), (14, true), (15, true), (16, true), (17, true), (18, true), (19, true), (20, true), (21, true), (22, false), (23, true), (24, true)] (by kernel_rfl) (by kernel_rfl) rfl (by kernel_rfl) (fun _ _ d _ _ h => by cases d <;> exact h) ?_
          simp only [RG.ordered, List.map_cons, List.map_nil, List.getElem?_toArray, List.getElem?_cons_succ, List.getElem?_cons_zero]
          obtain ⟨wd, hwd⟩ : ∃ wd, wr.drew = wd := ⟨_, rfl⟩
          have hbd : Below wr.heap.size wr wd := by rw [← hwd]; exact (Below.refl _ _).drew
          have G := Lib.hid (fun W (hW : Below wd.heap.size wd W) => (show W.cell? ⟨b1, o1 + i * 3, none⟩ = some (.int .i64 s1) ∧ W.cell? ⟨b1, o1 + i * 3 + 1, none⟩ = some (.int .i64 z1) ∧ W.cell? ⟨b1, o1 + i * 3 + 2, none⟩ = some v1 ∧ W.cell? ⟨b2, o2 + i * 3, none⟩ = some (.int .i64 s2) ∧ W.cell? ⟨b2, o2 + i * 3 + 1, none⟩ = some (.int .i64 z2) ∧ W.cell? ⟨b2, o2 + i * 3 + 2, none⟩ = some v2 from
            ⟨((RG.Grew.trans hbd hW).cell (by simpa using hb1)).trans c1, ((RG.Grew.trans hbd hW).cell (by simpa using hb1)).trans c2, ((RG.Grew.trans hbd hW).cell (by simpa using hb1)).trans c3, ((RG.Grew.trans hbd hW).cell (by simpa using hb2)).trans c4, ((RG.Grew.trans hbd hW).cell (by simpa using hb2)).trans c5, ((RG.Grew.trans hbd hW).cell (by simpa using hb2)).trans c6⟩))
          have HF1 := Lib.hid (RAny.below hf1.any hbd)
          have HF2 := Lib.hid (RAny.below hf2.any hbd)
          have HBD := Lib.hid (HB.out.trans (hbd.mono HB.out.size))
          change RG.walk _ _ _ _ _ wr.drew
          rw [hwd]
          clear hwd hbd hf1 hf2 c1 c2 c3 c4 c5 c6 hb1 hb2
          repeat (refine RG.take (by rfl) (by intro W hW; obtain ⟨f1, f2, f3, f4, f5, f6⟩ := G.out W hW; go_simp; with_reducible rfl) ?_; simp only [Act.put, List.setIfInBounds_toArray, List.set_cons_zero, List.set_cons_succ])
          try simp only [t1]
          repeat (refine RG.skip (by rfl) ?_; simp only [Act.put, List.setIfInBounds_toArray, List.set_cons_zero, List.set_cons_succ])
          refine RG.alone_skip (by rfl) ?_
          simp only [Act.put, List.setIfInBounds_toArray, List.set_cons_zero, List.set_cons_succ]
          repeat (refine RG.skip (by rfl) ?_; simp only [Act.put, List.setIfInBounds_toArray, List.set_cons_zero, List.set_cons_succ])
          repeat (refine RG.take (by rfl) (by intro W hW; obtain ⟨f1, f2, f3, f4, f5, f6⟩ := G.out W hW; go_simp; with_reducible rfl) ?_; simp only [Act.put, List.setIfInBounds_toArray, List.set_cons_zero, List.set_cons_succ])
          refine RG.done ?_
          clear G HF1 HF2
          go_wp2_with fail
          go_ret
          exact ⟨rfl, HBD.out⟩
      · obtain rfl : i = n := by omega
        have q1 : decide ((i : Int) < (i : Int)) = false := by simp
        have q2 : decide (i < i) = false := by simp
        have hf : RES = true := by
          rw [← HI.out, List.drop_of_length_le (by rw [HNA.out]; exact Nat.le_refl _), List.drop_of_length_le (by rw [HNB.out]; exact Nat.le_refl _)]
          simp
        subst hf
        clear HI
        go_wp2_with fail
        go_ret
        exact ⟨rfl, HB.out⟩
  · have t0 : (((xs.length : Int)) != ((ys.length : Int))) = true := by simp; omega
    have e : decide (xs = ys) = false := decide_eq_false fun h => hn (by rw [h])
    rw [e]
    clear hu hv e hn
    go_enter Try.func13, Try.ntmps13
    go_wp2_with fail
    go_ret
    exact ⟨rfl, Below.refl _ _⟩
end Go.Proofs.Ythgfaadlnffpcaa.EV
