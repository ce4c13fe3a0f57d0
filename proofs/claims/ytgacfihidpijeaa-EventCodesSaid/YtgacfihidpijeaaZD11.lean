/-
  Events in memory: a row of fields, an event's two cells, a row of events. No condition. Which events may be, how great they are: the code's Name, Check, Size, and the reference's. No condition. A row of bytes that grows by append: which blocks turn. Condition: rows stay below 2^47 bytes.
-/
import Derived.Test.YtgacfihidpijeaaZD4
import Derived.Test.YtgacfihidpijeaaZD8
import Derived.Test.YtgacfihidpijeaaZD10
import Derived.Test.YtgacfihidpijeaaZD2
import Derived.Deep.AppendLies
set_option linter.unusedVariables false
namespace Go.Proofs.Ytgacfihidpijeaa.EV
open Go Go.RowKit Go.Proofs.Ytgacfihidpijeaa.MM Go.Proofs.Ytgacfihidpijeaa.EM

def fldC : Codec Fld := cPair cStr cStr
def evC : Codec Ev := cPair cInt (cRow fldC)
def batC : Codec Bat := cPair cInt (cRow evC)
theorem fld_size : fldC.size = 2 := rfl
theorem ev_size : evC.size = 2 := rfl
theorem fld_on {S : Nat → Prop} {w : World} {cs : List Value} {f : Fld} : fldC.on S w cs f ↔ cs = [.string ⟨f.1.toArray⟩, .string ⟨f.2.toArray⟩] := by
  constructor
  · rintro ⟨x, y, rfl, hx, hy⟩
    have hx : x = [.string ⟨f.1.toArray⟩] := hx
    have hy : y = [.string ⟨f.2.toArray⟩] := hy
    rw [hx, hy]; rfl
  · rintro rfl
    exact ⟨[_], [_], rfl, rfl, rfl⟩
theorem ev_on {S : Nat → Prop} {w : World} {cs : List Value} {e : Ev} : evC.on S w cs e ↔ ∃ v, cs = [.int .i64 e.1, v] ∧ ROn fldC S w v e.2 := by
  constructor
  · rintro ⟨x, y, rfl, hx, v, hy, hr⟩
    have hx : x = [.int .i64 e.1] := hx
    exact ⟨v, by rw [hx, hy]; rfl, hr⟩
  · rintro ⟨v, rfl, hr⟩
    exact ⟨[_], [v], rfl, rfl, v, rfl, hr⟩
theorem bat_on {S : Nat → Prop} {w : World} {cs : List Value} {b : Bat} : batC.on S w cs b ↔ ∃ v, cs = [.int .i64 b.1, v] ∧ ROn evC S w v b.2 := by
  constructor
  · rintro ⟨x, y, rfl, hx, v, hy, hr⟩
    have hx : x = [.int .i64 b.1] := hx
    exact ⟨v, by rw [hx, hy]; rfl, hr⟩
  · rintro ⟨v, rfl, hr⟩
    exact ⟨[_], [v], rfl, rfl, v, rfl, hr⟩
/-- The k-th field's two texts. -/
theorem fld_at {S : Nat → Prop} {w : World} {p : Option Addr} {n cap : Nat} {fs : List Fld} (h : ROn fldC S w (.slice p n cap) fs) {k : Nat} (hk : k < fs.length) :
    ∃ b off, p = some ⟨b, off, none⟩ ∧ b < w.heap.size ∧ S b ∧ w.cell? ⟨b, off + k * 2, none⟩ = some (.string ⟨fs[k].1.toArray⟩) ∧ w.cell? ⟨b, off + k * 2 + 1, none⟩ = some (.string ⟨fs[k].2.toArray⟩) := by
  obtain ⟨b, off, vs, hp, hlt, hS, hon, hc⟩ := h.at_ hk
  rw [fld_on] at hon
  subst hon
  exact ⟨b, off, hp, hlt, hS, hc 0 _ rfl, hc 1 _ rfl⟩
/-- The k-th event's time and fields. -/
theorem ev_at {S : Nat → Prop} {w : World} {p : Option Addr} {n cap : Nat} {es : List Ev} (h : ROn evC S w (.slice p n cap) es) {k : Nat} (hk : k < es.length) :
    ∃ b off v, p = some ⟨b, off, none⟩ ∧ b < w.heap.size ∧ S b ∧ w.cell? ⟨b, off + k * 2, none⟩ = some (.int .i64 es[k].1) ∧ w.cell? ⟨b, off + k * 2 + 1, none⟩ = some v ∧ ROn fldC S w v es[k].2 := by
  obtain ⟨b, off, vs, hp, hlt, hS, hon, hc⟩ := h.at_ hk
  rw [ev_on] at hon
  obtain ⟨v, rfl, hr⟩ := hon
  exact ⟨b, off, v, hp, hlt, hS, hc 0 _ rfl, hc 1 _ rfl, hr⟩
theorem str_list (l : List UInt8) : (⟨l.toArray⟩ : ByteArray).data.toList = l := by simp
theorem str_sz (l : List UInt8) : (⟨l.toArray⟩ : ByteArray).size = l.length := by rw [Lib.size_eq]
theorem new_two (w : World) (x y : Value) (t : TypeId) : (w.alloc (.cells #[x, y] t)).cell? ⟨w.heap.size, 0, none⟩ = some x ∧ (w.alloc (.cells #[x, y] t)).cell? ⟨w.heap.size, 1, none⟩ = some y := by
  have h0 := lit_cells w [x, y] t 0 x rfl
  have h1 := lit_cells w [x, y] t 1 y rfl
  rw [add_at] at h0 h1
  exact ⟨h0, h1⟩
end Go.Proofs.Ytgacfihidpijeaa.EV
set_option linter.unusedVariables false
namespace Go.Proofs.Ytgacfihidpijeaa.EV
open Go Go.RowKit Go.Proofs.Ytgacfihidpijeaa.MM Go.Proofs.Ytgacfihidpijeaa.EM
open Go.Proofs.Ytgacfihidpijeaa.TK (nameL isname_any risname_any TruthLeft str_size)

set_option maxRecDepth 100000 in
theorem name_any (l : List UInt8) (w : World) : Calls Try.prog 16 #[.string ⟨l.toArray⟩] w (TruthLeft (nameL l) w) := by
  have h := Lib.hid (isname_any ⟨l.toArray⟩ w)
  rw [str_list] at h
  go_enter Try.func16, Try.ntmps16
  go_wp2_with fail
  refine h.out.mono ?_
  rintro e w2 ⟨rfl, hb⟩
  have HB := Lib.hid hb
  clear h hb
  go_wp2_with fail
  go_ret
  exact ⟨rfl, HB.out⟩
set_option maxRecDepth 100000 in
theorem rname_any (l : List UInt8) (w : World) : Calls Try.prog 17 #[.string ⟨l.toArray⟩] w (TruthLeft (nameL l) w) := by
  by_cases h : l.length ≤ 1000000000000
  · have := risname_any ⟨l.toArray⟩ w (by rw [str_sz]; exact h)
    rw [str_list] at this
    exact this
  · have e : nameL l = false := by unfold TK.nameL; rw [decide_eq_false (show ¬ (1 ≤ l.length ∧ l.length ≤ 32) by omega)]; simp
    rw [e]
    have t1 : decide ((l.length : Int) < 1) = false := by rw [decide_eq_false_iff_not]; omega
    have t2 : decide (l.length < 1) = false := by rw [decide_eq_false_iff_not]; omega
    have t3 : decide ((l.length : Int) > 32) = true := by rw [decide_eq_true_eq]; omega
    have t4 : decide (32 < l.length) = true := by rw [decide_eq_true_eq]; omega
    have hs := str_sz l
    clear e h
    go_enter Try.func17, Try.ntmps17
    go_wp2_with fail
    go_ret
    exact ⟨rfl, Below.refl _ _⟩
def IntLeft (z : Int) (w : World) (e : Ending) (w' : World) : Prop := e = .returned (.int .i64 z) ∧ Below w.heap.size w w'

set_option maxRecDepth 100000 in
set_option maxHeartbeats 2000000 in
theorem check_any (z : Int) (v : Value) (fs : List Fld) (w : World) (hr : RAny fldC w v fs) : Calls Try.prog 10 #[.agg #[.int .i64 z, v]] w (IntLeft (checkE (z, fs)) w) := by
  obtain ⟨p, cap, rfl, hlc, hcm, _⟩ := hr.shape
  unfold maxLen at hcm
  by_cases h16 : 16 < fs.length
  · have t1 : decide ((fs.length : Int) > 16) = true := by rw [decide_eq_true_eq]; omega
    have e : checkE (z, fs) = 3 := by unfold checkE; rw [if_pos h16]
    rw [e]
    clear e hr h16
    have hb : Below w.heap.size w (w.alloc (.cells #[.int .i64 z, .slice p fs.length cap] 24)) := (Below.refl _ _).alloc (Nat.le_refl _) _
    have HB := Lib.hid hb
    clear hb
    go_enter Try.func10, Try.ntmps10
    go_wp2_with fail
    go_ret
    exact ⟨rfl, HB.out⟩
  · have t1 : decide ((fs.length : Int) > 16) = false := by rw [decide_eq_false_iff_not]; omega
    obtain ⟨RES, hRES⟩ : ∃ RES, checkE (z, fs) = RES := ⟨_, rfl⟩
    have h0 : checkF (fs.drop 0) = RES := by rw [← hRES]; unfold checkE; rw [if_neg h16]; rfl
    rw [hRES]
    have hb : Below w.heap.size w (w.alloc (.cells #[.int .i64 z, .slice p fs.length cap] 24)) := (Below.refl _ _).alloc (Nat.le_refl _) _
    have HB := Lib.hid hb
    have H0 := Lib.hid h0
    have HR := Lib.hid hr
    clear hb h0 hr hRES h16
    go_enter Try.func10, Try.ntmps10
    go_wp2_with fail
    go_loopw [12] (fun iv wr => ∃ i : Nat, i ≤ fs.length ∧ iv = .int .i64 i ∧ Hid (checkF (fs.drop i) = RES) ∧ Hid (Below w.heap.size w wr)) (fun iv _ => fs.length - (intOf iv).toNat)
    case atStart => exact ⟨0, by omega, rfl, H0, HB⟩
    case round =>
      obtain ⟨i, hi, rfl, HI, HB1⟩ := hrel
      clear H0 HB
      by_cases hlt : i < fs.length
      · have q1 : decide ((i : Int) < (fs.length : Int)) = true := by rw [decide_eq_true_eq]; omega
        have q2 : decide (i < fs.length) = true := by rw [decide_eq_true_eq]; omega
        obtain ⟨b, off, rfl, hbl, _, c1, c2⟩ := fld_at (HR.out.below HB1.out) hlt
        have hnext := HI.out
        rw [checkF_next hlt] at hnext
        generalize fs[i].1 = n at *
        generalize fs[i].2 = x at *
        have HN := Lib.hid hnext
        have HLT := Lib.hid hlt
        have hk := fun W => name_any n W
        generalize nameL n = nb at *
        have HK := Lib.hid hk
        have hwr := HB1.out.size
        clear hnext HI hk hlt
        go_wp2_with fail
        refine (HK.out _).mono ?_
        rintro e w2 ⟨rfl, hb2⟩
        have hb3 : Below wr.heap.size wr w2 := ((Below.refl _ wr).alloc (Nat.le_refl _) _).trans (hb2.mono (by simp))
        have cx : w2.cell? ⟨wr.heap.size, 1, none⟩ = some (.string ⟨x.toArray⟩) := (hb2.cell (p := ⟨wr.heap.size, 1, none⟩) (by simp)).trans (new_two wr _ _ _).2
        have HB2 := Lib.hid (HB1.out.trans (hb3.mono hwr))
        clear hb2 hb3 HK c1 c2 hwr
        cases nb with
        | false =>
          have hn := HN.out
          rw [if_pos rfl] at hn
          subst hn
          clear HN
          go_wp2_with fail
          go_ret
          exact ⟨rfl, HB2.out⟩
        | true =>
          by_cases h4 : 4096 < x.length
          · have q3 : decide ((x.length : Int) > 4096) = true := by rw [decide_eq_true_eq]; omega
            have hn := HN.out
            rw [if_neg (by simp), if_pos h4] at hn
            subst hn
            clear HN h4
            go_wp2_with fail
            go_ret
            exact ⟨rfl, HB2.out⟩
          · have q3 : decide ((x.length : Int) > 4096) = false := by rw [decide_eq_false_iff_not]; omega
            have hn := HN.out
            rw [if_neg (by simp), if_neg h4] at hn
            have HN2 := Lib.hid hn
            clear HN h4 hn
            go_wp2_with fail
            have hlt := HLT.out
            go_roundw
            case rel => exact ⟨i + 1, by omega, by go_num, HN2, HB2⟩
            case measure => simp [intOf]; omega
      · obtain rfl : i = fs.length := by omega
        have q1 : decide ((fs.length : Int) < (fs.length : Int)) = false := by simp
        have q2 : decide (fs.length < fs.length) = false := by simp
        have hn := HI.out
        rw [List.drop_length] at hn
        have hn : 0 = RES := hn
        subst hn
        clear HI
        go_wp2_with fail
        go_ret
        exact ⟨rfl, HB1.out⟩

/-- The box of an event that was handed over. -/
def evBox (w : World) (z : Int) (v : Value) : World := w.alloc (.cells #[.int .i64 z, v] 24)
theorem box_below (w : World) (z : Int) (v : Value) : Below w.heap.size w (evBox w z v) := (Below.refl _ _).alloc (Nat.le_refl _) _
theorem box_size (w : World) (z : Int) (v : Value) : (evBox w z v).heap.size = w.heap.size + 1 := by unfold evBox; simp
theorem box_at (w : World) (z : Int) (v : Value) : (evBox w z v).cell? ⟨w.heap.size, 0, none⟩ = some (.int .i64 z) ∧ (evBox w z v).cell? ⟨w.heap.size, 1, none⟩ = some v := new_two w _ _ _
theorem box_in {w wr : World} {z : Int} {v : Value} (h : Below (evBox w z v).heap.size (evBox w z v) wr) : wr.cell? ⟨w.heap.size, 0, none⟩ = some (.int .i64 z) ∧ wr.cell? ⟨w.heap.size, 1, none⟩ = some v ∧ Below w.heap.size w wr :=
  ⟨(h.cell (p := ⟨w.heap.size, 0, none⟩) (by rw [box_size]; simp)).trans (box_at w z v).1, (h.cell (p := ⟨w.heap.size, 1, none⟩) (by rw [box_size]; simp)).trans (box_at w z v).2, (box_below w z v).trans (h.mono (by rw [box_size]; omega))⟩

set_option maxRecDepth 100000 in
set_option maxHeartbeats 2000000 in
theorem rcheck_any (z : Int) (v : Value) (fs : List Fld) (w : World) (hr : RAny fldC w v fs) : Calls Try.prog 11 #[.agg #[.int .i64 z, v]] w (IntLeft (checkE (z, fs)) w) := by
  obtain ⟨p, cap, rfl, hlc, hcm, _⟩ := hr.shape
  unfold maxLen at hcm
  by_cases h16 : 16 < fs.length
  · have t1 : decide ((fs.length : Int) > 16) = true := by rw [decide_eq_true_eq]; omega
    have e : checkE (z, fs) = 3 := by unfold checkE; rw [if_pos h16]
    rw [e]
    clear e hr h16
    have HB := Lib.hid (box_below w z (.slice p fs.length cap))
    go_enter Try.func11, Try.ntmps11
    go_wp2_with fail
    go_ret
    exact ⟨rfl, HB.out⟩
  · have t1 : decide ((fs.length : Int) > 16) = false := by rw [decide_eq_false_iff_not]; omega
    obtain ⟨RES, hRES⟩ : ∃ RES, checkE (z, fs) = RES := ⟨_, rfl⟩
    have h0 : checkF (fs.drop 0) = RES := by rw [← hRES]; unfold checkE; rw [if_neg h16]; rfl
    rw [hRES]
    have HB := Lib.hid (Below.refl (evBox w z (.slice p fs.length cap)).heap.size (evBox w z (.slice p fs.length cap)))
    have H0 := Lib.hid h0
    have HR := Lib.hid hr
    clear h0 hr hRES h16
    go_enter Try.func11, Try.ntmps11
    go_wp2_with fail
    go_loopw [3] (fun iv wr => ∃ i : Nat, i ≤ fs.length ∧ iv = .int .i64 i ∧ Hid (checkF (fs.drop i) = RES) ∧ Hid (Below (evBox w z (.slice p fs.length cap)).heap.size (evBox w z (.slice p fs.length cap)) wr)) (fun iv _ => fs.length - (intOf iv).toNat)
    case atStart => exact ⟨0, by omega, rfl, H0, HB⟩
    case round =>
      obtain ⟨i, hi, rfl, HI, HB1⟩ := hrel
      clear H0 HB
      obtain ⟨_, cb, hbw⟩ := box_in HB1.out
      by_cases hlt : i < fs.length
      · have q1 : decide ((i : Int) < (fs.length : Int)) = true := by rw [decide_eq_true_eq]; omega
        have q2 : decide (i < fs.length) = true := by rw [decide_eq_true_eq]; omega
        obtain ⟨b, off, rfl, hbl, _, c1, c2⟩ := fld_at (HR.out.below hbw) hlt
        have hnext := HI.out
        rw [checkF_next hlt] at hnext
        generalize fs[i].1 = n at *
        generalize fs[i].2 = x at *
        have HN := Lib.hid hnext
        have HLT := Lib.hid hlt
        have hk := rname_any n wr
        generalize nameL n = nb at *
        have HK := Lib.hid hk
        have hwr := HB1.out.size
        have hbw0 := hbw.size
        rw [box_size] at hwr
        clear hnext HI hk hlt hbw
        go_wp2_with fail
        refine HK.out.mono ?_
        rintro e w2 ⟨rfl, hb2⟩
        have cx : w2.cell? ⟨b, off + i * 2 + 1, none⟩ = some (.string ⟨x.toArray⟩) := (hb2.cell (p := ⟨b, off + i * 2 + 1, none⟩) hbl).trans c2
        have cb2 : w2.cell? ⟨w.heap.size, 1, none⟩ = some (.slice (some ⟨b, off, none⟩) fs.length cap) := (hb2.cell (p := ⟨w.heap.size, 1, none⟩) (show w.heap.size < wr.heap.size by omega)).trans cb
        have HB2 := Lib.hid (HB1.out.trans (hb2.mono HB1.out.size))
        clear hb2 HK c1 c2 cb hwr hbw0
        cases nb with
        | false =>
          have hn := HN.out
          rw [if_pos rfl] at hn
          subst hn
          clear HN
          go_wp2_with fail
          go_ret
          exact ⟨rfl, (box_in HB2.out).2.2⟩
        | true =>
          by_cases h4 : 4096 < x.length
          · have q3 : decide ((x.length : Int) > 4096) = true := by rw [decide_eq_true_eq]; omega
            have hn := HN.out
            rw [if_neg (by simp), if_pos h4] at hn
            subst hn
            clear HN h4
            go_wp2_with fail
            go_ret
            exact ⟨rfl, (box_in HB2.out).2.2⟩
          · have q3 : decide ((x.length : Int) > 4096) = false := by rw [decide_eq_false_iff_not]; omega
            have hn := HN.out
            rw [if_neg (by simp), if_neg h4] at hn
            have HN2 := Lib.hid hn
            clear HN h4 hn
            go_wp2_with fail
            have hlt := HLT.out
            go_roundw
            case rel => exact ⟨i + 1, by omega, by go_num, HN2, HB2⟩
            case measure => simp [intOf]; omega
      · obtain rfl : i = fs.length := by omega
        have q1 : decide ((fs.length : Int) < (fs.length : Int)) = false := by simp
        have q2 : decide (fs.length < fs.length) = false := by simp
        have hn := HI.out
        rw [List.drop_length] at hn
        have hn : 0 = RES := hn
        subst hn
        have HBW := Lib.hid hbw
        clear HI hbw
        go_wp2_with fail
        go_ret
        exact ⟨rfl, HBW.out⟩

/-! ### how great -/
theorem wrap_add (a b : Int) : wrap64 (wrap64 a + b) = wrap64 (a + b) := by unfold wrap64; omega
theorem wrap_add2 (a b : Int) : wrap64 (a + wrap64 b) = wrap64 (a + b) := by unfold wrap64; omega
def sizeW (fs : List Fld) : Int := wrap64 (16 + (sizeF fs : Int))
theorem sizeW_next {fs : List Fld} {k : Nat} (hk : k < fs.length) : wrap64 (sizeW (fs.take k) + ((fs[k].1.length : Int) + (fs[k].2.length : Int))) = sizeW (fs.take (k + 1)) := by
  unfold sizeW
  rw [wrap_add, sizeF_next hk]
  congr 1
  omega
theorem sizeW_small {fs : List Fld} (h : sizeF fs ≤ 1000000000000) : sizeW fs = (16 + sizeF fs : Nat) := by unfold sizeW wrap64; omega
end Go.Proofs.Ytgacfihidpijeaa.EV
set_option linter.unusedVariables false
namespace Go.Proofs.Ytgacfihidpijeaa.GB
open Go Go.RowKit Go.Proofs.Ytgacfihidpijeaa.MM

/-- Only the row's own block has turned; the row lies there, or in a new one. -/
def Grown (w w' : World) (v v' : Value) : Prop := w.grownBy w' v.ownBlock ∧ ∀ k, v'.ownBlock = some k → v.ownBlock = some k ∨ w.heap.size ≤ k
theorem grownBy_refl (w : World) (r : Option Nat) : w.grownBy w r := ⟨rfl, rfl, rfl, Nat.le_refl _, fun _ _ _ => rfl⟩
theorem Grown.refl (w : World) (v : Value) : Grown w w v v := ⟨grownBy_refl _ _, fun k h => .inl h⟩
theorem Grown.trans {a b c : World} {u v x : Value} (h : Grown a b u v) (k : Grown b c v x) : Grown a c u x := by
  obtain ⟨h1, h2⟩ := h
  obtain ⟨k1, k2⟩ := k
  refine ⟨⟨k1.os.trans h1.os, k1.tape.trans h1.tape, k1.output.trans h1.output, Nat.le_trans h1.size k1.size, fun i hi hne => ?_⟩, fun i hi => ?_⟩
  · rw [k1.block i (Nat.lt_of_lt_of_le hi h1.size) (fun e => ?_), h1.block i hi hne]
    rcases h2 i e.symm with h | h
    · exact hne h.symm
    · omega
  · rcases k2 i hi with h | h
    · exact h2 i h
    · exact .inr (Nat.le_trans h1.size h)
theorem Grown.kep {w w' : World} {v v' : Value} (h : Grown w w' v v') : Kep (fun b => v.ownBlock ≠ some b) w w' := kep_grown h.1 fun k hk hne => hne hk
theorem Grown.of_below {a b c : World} {u v : Value} (h : Below a.heap.size a b) (k : Grown b c u v) (hu : ∀ i, u.ownBlock = some i → i < a.heap.size) : Grown a c u v :=
  ⟨⟨k.1.os.trans h.os, k.1.tape.trans h.tape, k.1.output.trans h.output, Nat.le_trans h.size k.1.size, fun i hi hne => by rw [k.1.block i (Nat.lt_of_lt_of_le hi h.size) hne, h.block i hi]⟩, fun i hi => by
    rcases k.2 i hi with e | e
    · exact .inl e
    · exact .inr (Nat.le_trans h.size e)⟩
theorem Grown.below {a b c : World} {u v : Value} (h : Grown a b u v) (k : Below b.heap.size b c) : Grown a c u v :=
  ⟨⟨k.os.trans h.1.os, k.tape.trans h.1.tape, k.output.trans h.1.output, Nat.le_trans h.1.size k.size, fun i hi hne => by rw [k.block i (Nat.lt_of_lt_of_le hi h.1.size), h.1.block i hi hne]⟩, h.2⟩
theorem own_lt {w : World} {v : Value} {l : List UInt8} {B : Nat} (h : OwnB B w v l) : ∀ i, v.ownBlock = some i → i < w.heap.size := fun i hi => (World.ownsRow.lt h i hi).2
theorem OwnB.zero {w : World} {v : Value} {l : List UInt8} {B : Nat} (h : OwnB B w v l) : OwnB 0 w v l := OwnB.weaken h (Nat.zero_le _)
theorem OwnB.from {w : World} {v : Value} {l : List UInt8} {B : Nat} (h : OwnB 0 w v l) (hB : ∀ k, v.ownBlock = some k → B ≤ k) : OwnB B w v l := by
  refine ⟨h.1, ?_⟩
  rcases h.2 with h0 | ⟨g, cap, cur, hv, hg, rest⟩
  · exact .inl h0
  · exact .inr ⟨g, cap, cur, hv, hB g (by rw [hv]; rfl), rest⟩
theorem OwnB.kepOwn {S : Nat → Prop} {w w' : World} {v : Value} {l : List UInt8} {B : Nat} (h : OwnB B w v l) (hk : Kep S w w') (hS : ∀ k, v.ownBlock = some k → S k) : OwnB B w' v l := by
  refine ⟨h.1, ?_⟩
  rcases h.2 with h0 | ⟨g, cap, cur, hv, hg, hh, rest⟩
  · exact .inl h0
  · exact .inr ⟨g, cap, cur, hv, hg, by rw [hk.block g (Array.getElem?_eq_some_iff.1 hh).1 (hS g (by rw [hv]; rfl))]; exact hh, rest⟩
/-- What an append leaves. -/
def AppL (l : List UInt8) (v : Value) (w : World) (e : Ending) (w' : World) : Prop := ∃ v', e = .returned v' ∧ OwnB 0 w' v' l ∧ Grown w w' v v'
/-- append(row, b...), b not empty. -/
theorem wpList_append_grown {w : World} {ops : Array Oper} {rest : List Oper} {o : Oper} {a : Act} {Q : Exit → Act → World → Prop} (hgd : o.guard = none) (s x : Operand)
    (ho : o.op = .call { callee := .builtin .append, args := #[s, x], argTypes := #[40, 40] }) (v : Value) (l : List UInt8) (hs : a.eval s = v) (hown : OwnB 0 w v l)
    (src : Value) (m : List UInt8) (hx : a.eval x = src) (hr : BRow w src m) (hm : m ≠ []) (hlen : l.length + m.length ≤ 140737488355328)
    (h : ∀ v' w', OwnB 0 w' v' (l ++ m) → Grown w w' v v' → wpList Try.prog ops Q rest (a.put o.dst v') w') : wpList Try.prog ops Q (o :: rest) a w := by
  obtain ⟨i0, hi, hz0, hz1, hz2⟩ := info_parts infoByte
  have h0 := List.length_pos_iff.2 hm
  obtain ⟨p, cap, rfl, _, _, h3, hc⟩ := hr
  rcases hc with hc | ⟨b, off, rfl, _, hc⟩
  · have := byteCells_len m; rw [hc] at this; simp at this; omega
  · refine wpList_append_lies w hgd s x 40 ho 0 5 i0 (.int .u8 0) 1 1 Try.underlying40 hi hz0 hz1 hz2 rfl (by decide) v l.length (Lib.byteCells l) hs hown ⟨b, off, none⟩ (Lib.byteCells m).length cap (Lib.byteCells m) hx (by simp)
      (fun j u hu => by rw [add_at]; exact hc j u hu) (byteCells_one m) (by rw [byteCells_len]; omega) (by rw [byteCells_len]; unfold maxLen; omega) (by rw [byteCells_len]; omega) (Nat.zero_le _) w.heap.size rfl ?_
    intro g cap' w' hown' hgrow hat _
    refine h _ w' ?_ ⟨hgrow, fun k hk => ?_⟩
    · unfold OwnB
      rw [List.length_append, byteCells_append]
      rw [byteCells_len] at hown' ⊢
      exact hown'
    · simp only [Value.ownBlock, Option.some.injEq] at hk
      subst hk
      rcases hat with h | h
      · exact .inl h
      · exact .inr (Nat.le_of_eq h.symm)
/-- .. as a step. -/
theorem wp_append_grown {w : World} {o : Oper} {a : Act} {K : Act → World → Prop} {Q : Exit → Act → World → Prop} (s x : Operand)
    (ho : o.op = .call { callee := .builtin .append, args := #[s, x], argTypes := #[40, 40] }) (v : Value) (l : List UInt8) (hs : a.eval s = v) (hown : OwnB 0 w v l)
    (src : Value) (m : List UInt8) (hx : a.eval x = src) (hr : BRow w src m) (hm : m ≠ []) (hlen : l.length + m.length ≤ 140737488355328)
    (h : ∀ v' w', OwnB 0 w' v' (l ++ m) → Grown w w' v v' → K (a.put o.dst v') w') : o.wp Try.prog a w K Q := by
  obtain ⟨i0, hi, hz0, hz1, hz2⟩ := info_parts infoByte
  have h0 := List.length_pos_iff.2 hm
  obtain ⟨p, cap, rfl, _, _, h3, hc⟩ := hr
  rcases hc with hc | ⟨b, off, rfl, _, hc⟩
  · have := byteCells_len m; rw [hc] at this; simp at this; omega
  · refine wp_append_lies w s x 40 ho 0 5 i0 (.int .u8 0) 1 1 Try.underlying40 hi hz0 hz1 hz2 rfl (by decide) v l.length (Lib.byteCells l) hs hown ⟨b, off, none⟩ (Lib.byteCells m).length cap (Lib.byteCells m) hx (by simp)
      (fun j u hu => by rw [add_at]; exact hc j u hu) (byteCells_one m) (by rw [byteCells_len]; omega) (by rw [byteCells_len]; unfold maxLen; omega) (by rw [byteCells_len]; omega) (Nat.zero_le _) w.heap.size rfl ?_
    intro g cap' w' hown' hgrow hat _
    refine h _ w' ?_ ⟨hgrow, fun k hk => ?_⟩
    · unfold OwnB
      rw [List.length_append, byteCells_append]
      rw [byteCells_len] at hown' ⊢
      exact hown'
    · simp only [Value.ownBlock, Option.some.injEq] at hk
      subst hk
      rcases hat with h | h
      · exact .inl h
      · exact .inr (Nat.le_of_eq h.symm)
end Go.Proofs.Ytgacfihidpijeaa.GB
