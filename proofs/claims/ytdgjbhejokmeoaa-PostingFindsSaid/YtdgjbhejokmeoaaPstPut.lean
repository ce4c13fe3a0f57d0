/-
  A number behind bytes, a post behind bytes: the code's appendNumber, appendPost, the reference's put. Condition: rows stay below 2^40 bytes.
-/
import Derived.Test.YtdgjbhejokmeoaaPstForm
import Derived.Test.YtdgjbhejokmeoaaVarPut2
import Derived.Deep.AppendLies
set_option linter.unusedVariables false
namespace Go.Proofs.Ytdgjbhejokmeoaa.PW
open Go.RowKit Go.Proofs.Ytdgjbhejokmeoaa.MM Go.Proofs.Ytdgjbhejokmeoaa.PM Go.Proofs.Ytdgjbhejokmeoaa.VM

/-- Only the row's own block has turned; the row lies there, or in a new one. -/
def Grown (w w' : World) (v v' : Value) : Prop := w.grownBy w' v.ownBlock ∧ ∀ k, v'.ownBlock = some k → v.ownBlock = some k ∨ w.heap.size ≤ k
theorem grownBy_refl (w : World) (r : Option Nat) : w.grownBy w r := ⟨rfl, rfl, rfl, Nat.le_refl _, fun _ _ _ => rfl⟩
theorem Grown.refl (w : World) (v : Value) : Grown w w v v := ⟨grownBy_refl _ _, fun k h => .inl h⟩
theorem Grown.trans {a b c : World} {u v x : Value} (h : Grown a b u v) (k : Grown b c v x) : Grown a c u x := by
  obtain ⟨h1, h2⟩ := h
  obtain ⟨k1, k2⟩ := k
  refine ⟨⟨k1.os.trans h1.os, k1.tape.trans h1.tape, k1.output.trans h1.output, Nat.le_trans h1.size k1.size, fun i hi hne => ?_⟩, fun i hi => ?_⟩
  · rw [k1.block i (Nat.lt_of_lt_of_le hi h1.size) (fun e => ?_), h1.block i hi hne]
    rcases h2 i e.symm with h | h
    · exact hne h.symm
    · omega
  · rcases k2 i hi with h | h
    · exact h2 i h
    · exact .inr (Nat.le_trans h1.size h)
theorem Grown.kep {w w' : World} {v v' : Value} (h : Grown w w' v v') : Kep (fun b => v.ownBlock ≠ some b) w w' := kep_grown h.1 fun k hk hne => hne hk
theorem Grown.of_below {a b c : World} {u v : Value} (h : Below a.heap.size a b) (k : Grown b c u v) (hu : ∀ i, u.ownBlock = some i → i < a.heap.size) : Grown a c u v :=
  ⟨⟨k.1.os.trans h.os, k.1.tape.trans h.tape, k.1.output.trans h.output, Nat.le_trans h.size k.1.size, fun i hi hne => by rw [k.1.block i (Nat.lt_of_lt_of_le hi h.size) hne, h.block i hi]⟩, fun i hi => by
    rcases k.2 i hi with e | e
    · exact .inl e
    · exact .inr (Nat.le_trans h.size e)⟩
theorem Grown.below {a b c : World} {u v : Value} (h : Grown a b u v) (k : Below b.heap.size b c) : Grown a c u v :=
  ⟨⟨k.os.trans h.1.os, k.tape.trans h.1.tape, k.output.trans h.1.output, Nat.le_trans h.1.size k.size, fun i hi hne => by rw [k.block i (Nat.lt_of_lt_of_le hi h.1.size), h.1.block i hi hne]⟩, h.2⟩
theorem own_lt {w : World} {v : Value} {l : List UInt8} {B : Nat} (h : OwnB B w v l) : ∀ i, v.ownBlock = some i → i < w.heap.size := fun i hi => (World.ownsRow.lt h i hi).2
theorem OwnB.zero {w : World} {v : Value} {l : List UInt8} {B : Nat} (h : OwnB B w v l) : OwnB 0 w v l := OwnB.weaken h (Nat.zero_le _)
theorem OwnB.from {w : World} {v : Value} {l : List UInt8} {B : Nat} (h : OwnB 0 w v l) (hB : ∀ k, v.ownBlock = some k → B ≤ k) : OwnB B w v l := by
  refine ⟨h.1, ?_⟩
  rcases h.2 with h0 | ⟨g, cap, cur, hv, hg, rest⟩
  · exact .inl h0
  · exact .inr ⟨g, cap, cur, hv, hB g (by rw [hv]; rfl), rest⟩
theorem OwnB.kepOwn {S : Nat → Prop} {w w' : World} {v : Value} {l : List UInt8} {B : Nat} (h : OwnB B w v l) (hk : Kep S w w') (hS : ∀ k, v.ownBlock = some k → S k) : OwnB B w' v l := by
  refine ⟨h.1, ?_⟩
  rcases h.2 with h0 | ⟨g, cap, cur, hv, hg, hh, rest⟩
  · exact .inl h0
  · exact .inr ⟨g, cap, cur, hv, hg, by rw [hk.block g (Array.getElem?_eq_some_iff.1 hh).1 (hS g (by rw [hv]; rfl))]; exact hh, rest⟩
/-- What an append leaves. -/
def AppL (l : List UInt8) (v : Value) (w : World) (e : Ending) (w' : World) : Prop := ∃ v', e = .returned v' ∧ OwnB 0 w' v' l ∧ Grown w w' v v'
/-- append(row, b...), b not empty. -/
theorem wpList_append_grown {w : World} {ops : Array Oper} {rest : List Oper} {o : Oper} {a : Act} {Q : Exit → Act → World → Prop} (hgd : o.guard = none) (s x : Operand)
    (ho : o.op = .call { callee := .builtin .append, args := #[s, x], argTypes := #[31, 31] }) (v : Value) (l : List UInt8) (hs : a.eval s = v) (hown : OwnB 0 w v l)
    (src : Value) (m : List UInt8) (hx : a.eval x = src) (hr : BRow w src m) (hm : m ≠ []) (hlen : l.length + m.length ≤ 140737488355328)
    (h : ∀ v' w', OwnB 0 w' v' (l ++ m) → Grown w w' v v' → wpList Try.prog ops Q rest (a.put o.dst v') w') : wpList Try.prog ops Q (o :: rest) a w := by
  obtain ⟨i0, hi, hz0, hz1, hz2⟩ := info_parts infoByte
  have h0 := List.length_pos_iff.2 hm
  obtain ⟨p, cap, rfl, _, _, h3, hc⟩ := hr
  rcases hc with hc | ⟨b, off, rfl, _, hc⟩
  · have := byteCells_len m; rw [hc] at this; simp at this; omega
  · refine wpList_append_lies w hgd s x 31 ho 0 5 i0 (.int .u8 0) 1 1 Try.underlying31 hi hz0 hz1 hz2 rfl (by decide) v l.length (Lib.byteCells l) hs hown ⟨b, off, none⟩ (Lib.byteCells m).length cap (Lib.byteCells m) hx (by simp)
      (fun j u hu => by rw [add_at]; exact hc j u hu) (byteCells_one m) (by rw [byteCells_len]; omega) (by rw [byteCells_len]; unfold maxLen; omega) (by rw [byteCells_len]; omega) (Nat.zero_le _) w.heap.size rfl ?_
    intro g cap' w' hown' hgrow hat _
    refine h _ w' ?_ ⟨hgrow, fun k hk => ?_⟩
    · unfold OwnB
      rw [List.length_append, byteCells_append]
      rw [byteCells_len] at hown' ⊢
      exact hown'
    · simp only [Value.ownBlock, Option.some.injEq] at hk
      subst hk
      rcases hat with h | h
      · exact .inl h
      · exact .inr (Nat.le_of_eq h.symm)
theorem bytesL_ne (n : Nat) : bytesL n ≠ [] := by
  intro h
  have := (bytesL_length n).1
  rw [h] at this
  simp at this

set_option maxRecDepth 100000 in
set_option maxHeartbeats 1000000 in
theorem appnum_any (v : Value) (l : List UInt8) (n : Int) (w : World) (h0 : 0 ≤ n) (h1 : n ≤ 9223372036854775807) (hown : OwnB 0 w v l) (hlen : l.length ≤ 1000000000000) :
    Calls Try.prog 36 #[v, .int .i64 n] w (AppL (l ++ bytesL n.toNat) v w) := by
  obtain ⟨m, rfl⟩ := Int.eq_ofNat_of_zero_le h0
  rw [Int.toNat_natCast]
  have hput := VP.put_any (.slice none 0 0) [] m w (by omega) (BRow.nil_ w) (by simp)
  rw [List.nil_append] at hput
  have hbl := bytesL_length m
  have hne := bytesL_ne m
  obtain ⟨M, hM⟩ : ∃ M, bytesL m = M := ⟨_, rfl⟩
  rw [hM] at hput hbl hne ⊢
  have HP := Lib.hid hput
  have HO := Lib.hid hown
  have HNE := Lib.hid hne
  have hw : IntKind.u64.wrap (m : Int) = (m : Int) := by rw [IntKind.wrap_u64]; omega
  obtain ⟨p, cap, rfl, _⟩ := (OwnB.brow hown).shape
  clear hput hown hM hne
  go_enter Try.func36, Try.ntmps36
  go_wp2_with fail
  refine HP.out.mono ?_
  rintro e w1 ⟨v1, rfl, ho1, hb1⟩
  have HO1 := Lib.hid (HO.out.keep hb1)
  have HR1 := Lib.hid (OwnB.brow ho1)
  have HB1 := Lib.hid hb1
  have HLT := Lib.hid (own_lt HO.out)
  obtain ⟨p1, c1, rfl, _⟩ := (OwnB.brow ho1).shape
  clear ho1 hb1 HP
  go_wp2_with (at_builtin; refine wpList_append_grown rfl _ _ rfl _ l rfl HO1.out _ M rfl HR1.out HNE.out (by omega) ?_)
  intro v2 w2 ho2 hg2
  have HO2 := Lib.hid ho2
  have HG2 := Lib.hid (hg2.of_below HB1.out HLT.out)
  clear ho2 hg2
  go_wp2_with fail
  go_ret
  exact ⟨_, rfl, HO2.out, HG2.out⟩
set_option maxRecDepth 100000 in
set_option maxHeartbeats 1000000 in
theorem rput_any (v : Value) (l : List UInt8) (n : Int) (w : World) (h0 : 0 ≤ n) (h1 : n ≤ 9223372036854775807) (hown : OwnB 0 w v l) (hlen : l.length ≤ 1000000000000) :
    Calls Try.prog 37 #[v, .int .i64 n] w (AppL (l ++ bytesL n.toNat) v w) := by
  obtain ⟨m, rfl⟩ := Int.eq_ofNat_of_zero_le h0
  rw [Int.toNat_natCast]
  have hput := VP.rbytes_any m w (by omega)
  have hbl := bytesL_length m
  have hne := bytesL_ne m
  obtain ⟨M, hM⟩ : ∃ M, bytesL m = M := ⟨_, rfl⟩
  rw [hM] at hput hbl hne ⊢
  have HP := Lib.hid hput
  have HO := Lib.hid hown
  have HNE := Lib.hid hne
  have hw : IntKind.u64.wrap (m : Int) = (m : Int) := by rw [IntKind.wrap_u64]; omega
  obtain ⟨p, cap, rfl, _⟩ := (OwnB.brow hown).shape
  clear hput hown hM hne
  go_enter Try.func37, Try.ntmps37
  go_wp2_with fail
  refine HP.out.mono ?_
  rintro e w1 ⟨v1, rfl, ho1, hb1⟩
  have HO1 := Lib.hid (HO.out.keep hb1)
  have HR1 := Lib.hid (OwnB.brow ho1)
  have HB1 := Lib.hid hb1
  have HLT := Lib.hid (own_lt HO.out)
  obtain ⟨p1, c1, rfl, _⟩ := (OwnB.brow ho1).shape
  clear ho1 hb1 HP
  go_wp2_with (at_builtin; refine wpList_append_grown rfl _ _ rfl _ l rfl HO1.out _ M rfl HR1.out HNE.out (by omega) ?_)
  intro v2 w2 ho2 hg2
  have HO2 := Lib.hid ho2
  have HG2 := Lib.hid (hg2.of_below HB1.out HLT.out)
  clear ho2 hg2
  go_wp2_with fail
  go_ret
  exact ⟨_, rfl, HO2.out, HG2.out⟩

theorem gaps_take {qs : List Int} {k : Nat} (hk : k < qs.length) : gapsL 0 (qs.take (k + 1)) = gapsL 0 (qs.take k) ++ bytesL (qs[k] - lastP 0 (qs.take k)).toNat ∧ lastP 0 (qs.take (k + 1)) = qs[k] + 1 := by
  rw [List.take_succ_eq_append_getElem hk, gapsL_snoc, lastP_snoc]
  exact ⟨rfl, rfl⟩
theorem rise_take {qs : List Int} (h : riseL 1048576 qs = true) {k : Nat} (hk : k < qs.length) : 0 ≤ lastP 0 (qs.take k) ∧ lastP 0 (qs.take k) ≤ qs[k] ∧ qs[k] < 1048576 := by
  have e : qs.take (k + 1) = qs.take k ++ [qs[k]] := List.take_succ_eq_append_getElem hk
  have h1 : riseF 1048576 (0 - 1) (qs.take (k + 1)) = true := by
    have : ∀ (n : Nat) (zs : List Int) (a : Int), riseF 1048576 a zs = true → riseF 1048576 a (zs.take n) = true := by
      intro n
      induction n with
      | zero => intro zs a _; rfl
      | succ n ih =>
        intro zs a hz
        cases zs with
        | nil => rfl
        | cons z zs =>
          rw [riseF, Bool.and_eq_true] at hz
          rw [List.take_succ_cons, riseF, Bool.and_eq_true]
          exact ⟨hz.1, ih zs z hz.2⟩
    exact this _ _ _ h
  rw [e, riseF_snoc, Bool.and_eq_true, Bool.and_eq_true, decide_eq_true_eq, decide_eq_true_eq] at h1
  have h2 := (lastP_bound 1048576 (qs.take k) 0 (by omega) h1.1).1
  exact ⟨h2, h1.2.1, h1.2.2⟩

set_option maxRecDepth 100000 in
set_option maxHeartbeats 2000000 in
theorem apppost_any (v : Value) (l : List UInt8) (z : Int) (x : Value) (qs : List Int) (n : Int) (w : World) (hn : 0 ≤ n) (hok : okP n (z, qs)) (hown : OwnB 0 w v l) (hx : IOn (fun b => v.ownBlock ≠ some b) w x qs) (hlen : l.length + 10 * qs.length ≤ 900000000000) :
    Calls Try.prog 35 #[v, .agg #[.int .i64 z, x], .int .i64 n] w (AppL (l ++ postL n (z, qs)) v w) := by
  obtain ⟨hz0, hz1, _, hrise⟩ := hok
  dsimp only at hz0 hz1 hrise
  have hql := riseL_len hrise
  have hpl : postL n (z, qs) = bytesL (z - n).toNat ++ (bytesL qs.length ++ gapsL 0 (qs.take qs.length)) := by rw [List.take_length]; rfl
  rw [hpl]
  obtain ⟨px, cx, rfl, hxl, hxm, _⟩ := hx.shape
  unfold maxLen at hxm
  have hal : Below w.heap.size w (w.alloc (.cells #[.int .i64 z, .slice px qs.length cx] 47)) := (Below.refl _ _).alloc (Nat.le_refl _) _
  have hcc : (w.alloc (.cells #[.int .i64 z, .slice px qs.length cx] 47)).heap[w.heap.size]? = some (.cells #[.int .i64 z, .slice px qs.length cx] 47) := heap_alloc_new _ _
  have hne : v.ownBlock ≠ some w.heap.size := fun e => by have := own_lt hown _ e; omega
  have HX := Lib.hid (hx.keep (kep_below (fun b => v.ownBlock ≠ some b) hal) fun _ _ h => h)
  have HO := Lib.hid (OwnB.keep hown hal)
  have HLT := Lib.hid (own_lt hown)
  have HAL := Lib.hid hal
  have hsz : w.heap.size < (w.alloc (.cells #[.int .i64 z, .slice px qs.length cx] 47)).heap.size := by simp
  have hb1 := bytesL_length (z - n).toNat
  have hb2 := bytesL_length qs.length
  have HGB := Lib.hid (fun k => (gapsL_len (qs.take k) 0).2)
  have HGT := Lib.hid (fun k (hk : k < qs.length) => gaps_take hk)
  have HRT := Lib.hid (fun k (hk : k < qs.length) => rise_take hrise hk)
  obtain ⟨nq, hnq⟩ : ∃ nq, qs.length = nq := ⟨_, rfl⟩
  obtain ⟨W1, hW1⟩ : ∃ W1, w.alloc (.cells #[.int .i64 z, .slice px qs.length cx] 47) = W1 := ⟨_, rfl⟩
  have HF : Hid (∀ W u, Grown W1 W v u → W.cell? ⟨w.heap.size, 0, none⟩ = some (.int .i64 z) ∧ W.cell? ⟨w.heap.size, 1, none⟩ = some (.slice px nq cx)) := Lib.hid (fun W u hg => by
    rw [hW1] at hcc hsz
    have := (hg.kep.block w.heap.size hsz hne).trans hcc
    rw [← hnq]
    exact ⟨by rw [cell_of_row W _ 0 _ _ _ this]; rfl, by rw [cell_of_row W _ 1 _ _ _ this]; rfl⟩)
  have f0 := (HF.out W1 v (Grown.refl _ _)).1
  have f1 := (HF.out W1 v (Grown.refl _ _)).2
  have K1 := Lib.hid (appnum_any v l (z - n) W1 (by omega) (by omega) (by rw [← hW1]; exact HO.out) (by omega))
  have K2 : Hid (∀ W u L, OwnB 0 W u L → L.length ≤ 1000000000000 → Calls Try.prog 36 #[u, .int .i64 nq] W (AppL (L ++ bytesL qs.length) u W)) := Lib.hid (fun W u L h hl => by
    have := appnum_any u L (nq : Int) W (by omega) (by omega) h hl
    rw [Int.toNat_natCast, ← hnq] at this
    rw [← hnq]; exact this)
  have HNQ := Lib.hid hnq
  have HW1 := Lib.hid hW1
  rw [hnq] at hW1
  rw [hnq] at HX
  obtain ⟨P1, hP1⟩ : ∃ P, bytesL (z - n).toNat = P := ⟨_, rfl⟩
  obtain ⟨P2, hP2⟩ : ∃ P, bytesL qs.length = P := ⟨_, rfl⟩
  rw [hP1] at K1 hb1 ⊢
  rw [hP2] at hb2 ⊢
  simp only [hP2] at K2
  have HW1b := Lib.hid hW1
  clear hown hx hal hcc hrise hpl hP1 hP2 hne HW1
  go_enter Try.func35, Try.ntmps35
  go_wp2_with fail
  refine K1.out.mono ?_
  rintro e W2 ⟨v2, rfl, ho2, hg2⟩
  obtain ⟨f2, f3⟩ := HF.out W2 v2 hg2
  have HK2 := Lib.hid (K2.out W2 v2 _ ho2 (by rw [List.length_append]; omega))
  have HG2 := Lib.hid hg2
  clear ho2 hg2 K1 K2
  go_wp2_with fail
  refine HK2.out.mono ?_
  rintro e W3 ⟨v3, rfl, ho3, hg3⟩
  have hg3' := HG2.out.trans hg3
  obtain ⟨f4, f5⟩ := HF.out W3 v3 hg3'
  have HO0 : Hid (OwnB 0 W3 v3 (l ++ (P1 ++ (P2 ++ gapsL 0 (qs.take 0))))) := Lib.hid (by simp only [List.take_zero, gapsL, List.append_nil, ← List.append_assoc]; exact ho3)
  have HG3 := Lib.hid hg3'
  have HP0 : Hid (lastP 0 (qs.take 0) = 0) := Lib.hid rfl
  clear ho3 hg3 hg3' HG2 HK2
  go_wp2_with fail
  go_loopw [0, 7, 24] (fun u a i wr => ∃ (k : Nat) (A : Int), k ≤ nq ∧ i = .int .i64 k ∧ a = .int .i64 A ∧ Hid (lastP 0 (qs.take k) = A) ∧ Hid (OwnB 0 wr u (l ++ (P1 ++ (P2 ++ gapsL 0 (qs.take k))))) ∧ Hid (Grown W1 wr v u)) (fun _ _ i _ => nq - (intOf i).toNat)
  case atStart => exact ⟨0, 0, by omega, rfl, rfl, HP0, HO0, HG3⟩
  case round =>
    obtain ⟨k, A, hk, rfl, rfl, HPk, HOk, HGk⟩ := hrel
    clear HO0 HG3 HP0 f0 f1 f2 f3 f4 f5
    obtain ⟨f0, f1⟩ := HF.out wr _ HGk.out
    by_cases hlt : k < nq
    · have t1 : decide ((k : Int) < (nq : Int)) = true := by simp; omega
      have hltq : k < qs.length := by rw [HNQ.out]; exact hlt
      obtain ⟨b, off, rfl, hbl, _, hcell⟩ := (HX.out.keep (by rw [HW1b.out]; exact HGk.out.kep) fun _ _ h => h : IOn (fun b => v.ownBlock ≠ some b) wr _ qs).at_ hltq
      obtain ⟨hgt, hgt2⟩ := HGT.out k hltq
      obtain ⟨hr0, hr1, hr2⟩ := HRT.out k hltq
      have hgb := HGB.out k
      have hll : (l ++ (P1 ++ (P2 ++ gapsL 0 (qs.take k)))).length ≤ 1000000000000 := by
        have : (qs.take k).length ≤ qs.length := List.length_take_le' _ _
        simp only [List.length_append]; omega
      rw [HPk.out] at hgt hr0 hr1
      obtain ⟨y, hy⟩ : ∃ y, qs[k] = y := ⟨_, rfl⟩
      rw [hy] at hcell hgt hgt2 hr1 hr2
      have HK := Lib.hid (appnum_any _ _ (y - A) wr (by omega) (by omega) HOk.out hll)
      have e1 : l ++ (P1 ++ (P2 ++ gapsL 0 (qs.take k))) ++ bytesL (y - A).toNat = l ++ (P1 ++ (P2 ++ gapsL 0 (qs.take (k + 1)))) := by rw [hgt]; simp only [List.append_assoc]
      rw [e1] at HK
      have HP2 := Lib.hid hgt2
      clear hgt hgt2 hgb hll e1 hy HPk
      go_wp2_with fail
      refine HK.out.mono ?_
      rintro e W4 ⟨v4, rfl, ho4, hg4⟩
      have HO4 := Lib.hid ho4
      have HG4 := Lib.hid (HGk.out.trans hg4)
      clear ho4 hg4 HK
      go_wp2_with fail
      go_roundw
      case rel => exact ⟨k + 1, y + 1, by omega, by go_num, rfl, HP2, HO4, HG4⟩
      case measure => simp [intOf]; omega
    · obtain rfl : k = nq := by omega
      have t1 : decide ((k : Int) < (k : Int)) = false := by simp
      have ho := HOk.out
      rw [← HNQ.out] at ho
      have HOe := Lib.hid ho
      clear HPk ho HOk
      go_wp2_with fail
      go_ret
      exact ⟨_, rfl, HOe.out, HGk.out.of_below (by rw [← HW1b.out]; exact (Below.refl _ _).alloc (Nat.le_refl _) _) HLT.out⟩
end Go.Proofs.Ytdgjbhejokmeoaa.PW
