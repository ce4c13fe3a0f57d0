/-
  The code's appendMatch, appendRuns beside blocks that stay: what the plain lists say. Condition: rows stay below 2^40 bytes.
-/
import Derived.Test.YtoohkhcmakcggaaLzPut
import Derived.Test.YtoohkhcmakcggaaLzKep
set_option linter.unusedVariables false
namespace Go.Proofs.Ytoohkhcmakcggaa.LZ
open Go.RowKit Go.Proofs.Ytoohkhcmakcggaa.MM

def KeepLeft (S : Nat → Prop) (l : List UInt8) (w : World) (e : Ending) (w' : World) : Prop := ∃ v', e = .returned v' ∧ OwnS S w' v' l ∧ Kep S w w'
theorem own_keeps {S : Nat → Prop} {w w' : World} {v : Value} {l : List UInt8} {g n cap : Nat} {xs : List Value} (ho : OwnS S w v l) (hB : ∀ k, S k → k < w.heap.size)
    (hat : v.ownBlock = some g ∨ g = w.heap.size) : ∀ k, (Value.slice (some ⟨g, 0, none⟩) n cap).ownBlock = some k → ¬ S k := by
  intro k hk
  simp only [Value.ownBlock, Option.some.injEq] at hk
  subst hk
  rcases hat with h | h
  · exact ho.2 _ h
  · intro hs
    have := hB _ hs
    omega
theorem step_append_keep (S : Nat → Prop) {w : World} {ops : Array Oper} {o : Oper} {a : Act} {K : Act → World → Prop} {Q : Exit → Act → World → Prop} {E : Prop} (hgd : o.guard = none) (s x : Operand)
    (ho : o.op = .call { callee := .builtin .append, args := #[s, x], argTypes := #[22, 22] }) (v : Value) (l : List UInt8) (hs : a.eval s = v) (hown : OwnS S w v l)
    (src : Value) (m : List UInt8) (hx : a.eval x = src) (hr : BRow w src m) (hm : m ≠ []) (hlen : l.length + m.length ≤ 140737488355328) (hB : ∀ k, S k → k < w.heap.size)
    (h : ∀ v' w', OwnS S w' v' (l ++ m) → Kep S w w' → K (a.put o.dst v') w') : if Region.wanted o (yielded ops a.tmps) = true then Oper.wp Try.prog o a w K Q else E := by
  obtain ⟨i0, hi, hz0, hz1, hz2⟩ := info_parts infoByte
  have h0 := List.length_pos_iff.2 hm
  obtain ⟨p, cap, rfl, _, _, h3, hc⟩ := hr
  rcases hc with hc | ⟨b, off, rfl, _, hc⟩
  · have := byteCells_len m; rw [hc] at this; simp at this; omega
  · refine step_append_lies w hgd s x 22 ho 0 5 i0 (.int .u8 0) 1 1 Try.underlying22 hi hz0 hz1 hz2 rfl (by decide) v l.length (Lib.byteCells l) hs hown.own ⟨b, off, none⟩ (Lib.byteCells m).length cap (Lib.byteCells m) hx (by simp)
      (fun j u hu => by rw [add_at]; exact hc j u hu) (byteCells_one m) (by rw [byteCells_len]; omega) (by rw [byteCells_len]; unfold maxLen; omega) (by rw [byteCells_len]; omega) (Nat.zero_le _) w.heap.size rfl ?_
    intro g cap' w' hown' hgrow hat _
    refine h _ w' ⟨?_, own_keeps (xs := []) (w' := w') hown hB hat⟩ (kep_grown hgrow (fun k hk => hown.2 k hk))
    unfold OwnB
    rw [List.length_append, byteCells_append]
    rw [byteCells_len] at hown' ⊢
    exact hown'
theorem wpList_append_keep (S : Nat → Prop) {w : World} {ops : Array Oper} {rest : List Oper} {o : Oper} {a : Act} {Q : Exit → Act → World → Prop} (hgd : o.guard = none) (s x : Operand)
    (ho : o.op = .call { callee := .builtin .append, args := #[s, x], argTypes := #[22, 22] }) (v : Value) (l : List UInt8) (hs : a.eval s = v) (hown : OwnS S w v l)
    (src : Value) (m : List UInt8) (hx : a.eval x = src) (hr : BRow w src m) (hm : m ≠ []) (hlen : l.length + m.length ≤ 140737488355328) (hB : ∀ k, S k → k < w.heap.size)
    (h : ∀ v' w', OwnS S w' v' (l ++ m) → Kep S w w' → wpList Try.prog ops Q rest (a.put o.dst v') w') : wpList Try.prog ops Q (o :: rest) a w := by
  obtain ⟨i0, hi, hz0, hz1, hz2⟩ := info_parts infoByte
  have h0 := List.length_pos_iff.2 hm
  obtain ⟨p, cap, rfl, _, _, h3, hc⟩ := hr
  rcases hc with hc | ⟨b, off, rfl, _, hc⟩
  · have := byteCells_len m; rw [hc] at this; simp at this; omega
  · refine wpList_append_lies w hgd s x 22 ho 0 5 i0 (.int .u8 0) 1 1 Try.underlying22 hi hz0 hz1 hz2 rfl (by decide) v l.length (Lib.byteCells l) hs hown.own ⟨b, off, none⟩ (Lib.byteCells m).length cap (Lib.byteCells m) hx (by simp)
      (fun j u hu => by rw [add_at]; exact hc j u hu) (byteCells_one m) (by rw [byteCells_len]; omega) (by rw [byteCells_len]; unfold maxLen; omega) (by rw [byteCells_len]; omega) (Nat.zero_le _) w.heap.size rfl ?_
    intro g cap' w' hown' hgrow hat _
    refine h _ w' ⟨?_, own_keeps (xs := []) (w' := w') hown hB hat⟩ (kep_grown hgrow (fun k hk => hown.2 k hk))
    unfold OwnB
    rw [List.length_append, byteCells_append]
    rw [byteCells_len] at hown' ⊢
    exact hown'
set_option maxRecDepth 100000 in
theorem amat_keep (S : Nat → Prop) (x y : Nat) (v : Value) (l : List UInt8) (w : World) (ho : OwnS S w v l) (hx : x ≤ 65535) (hy : y ≤ 131) (h4 : 4 ≤ y) (hl : l.length ≤ 1000000000000) (hB : ∀ k, S k → k < w.heap.size) :
    Calls Try.prog 20 #[v, .int .i64 y, .int .i64 x] w (KeepLeft S (l ++ matB x y) w) := by
  obtain ⟨X, hX⟩ : ∃ X, l ++ matB x y = X := ⟨_, rfl⟩
  rw [hX]
  have HX := Lib.hid hX
  have hba : ∀ o, Below w.heap.size w (w.alloc o) := fun o => (Below.refl _ _).alloc (Nat.le_refl _) _
  have HBA := Lib.hid hba
  have HO := Lib.hid (fun o => ho.below (hba o))
  have hlit := lit_mat w x y hx hy
  rw [show (y : Int) + 124 = 128 + (y : Int) - 4 by omega] at hlit
  have HL := Lib.hid hlit
  have hl3 : (matB x y).length = 3 := rfl
  have hne : matB x y ≠ [] := by simp [matB]
  have hl1 : l.length + (matB x y).length ≤ 140737488355328 := by omega
  have hsz : ∀ o, ∀ k, S k → k < (w.alloc o).heap.size := fun o k hk => by have := (hba o).size; have := hB k hk; omega
  generalize matB x y = Z at *
  clear ho hX hba hlit
  go_enter Try.func20, Try.ntmps20
  go_wp2_with (at_builtin; go_loud (refine wpList_append_keep S rfl _ _ rfl _ l rfl (HO.out _) _ Z rfl HL.out hne hl1 (hsz _) ?_))
  intro v3 w3 hown3 hb3
  rw [HX.out] at hown3
  have HO3 := Lib.hid hown3
  have HB3 := Lib.hid ((kep_below S (HBA.out _)).trans hb3)
  clear hown3 hb3
  go_wp2_with fail
  go_ret
  exact ⟨_, rfl, HO3.out, HB3.out⟩

set_option maxRecDepth 100000 in
set_option maxHeartbeats 2000000 in
theorem aruns_keep (S : Nat → Prop) (B0 : Nat) (o u : Value) (out l : List UInt8) (w : World) (ho : OwnS S w o out) (hu : BIn B0 w u l) (hlen : out.length + 2 * l.length ≤ 1000000000000) (h0 : ∀ k, k < B0 → S k) (hB0 : B0 ≤ w.heap.size) (hB : ∀ k, S k → k < w.heap.size) :
    Calls Try.prog 21 #[o, u] w (KeepLeft S (out ++ runsL l) w) := by
  obtain ⟨RES, hRES⟩ : ∃ RES, out ++ runsL l = RES := ⟨_, rfl⟩
  rw [hRES]
  have H0 := Lib.hid hRES
  have HO0 := Lib.hid ho
  have HU0 := Lib.hid hu
  have HB0 := Lib.hid (Kep.refl S w)
  clear ho hu hRES
  go_enter Try.func21, Try.ntmps21
  go_wp2_with fail
  go_loopw [0, 1] (fun o u wr => ∃ (X m : List UInt8), X.length + 2 * m.length ≤ 1000000000000 ∧ Hid (X ++ runsL m = RES) ∧ Hid (OwnS S wr o X) ∧ Hid (BIn B0 wr u m) ∧ Hid (Kep S w wr)) (fun _ u _ => match u with | .slice _ n _ => n | _ => 0)
  case atStart => exact ⟨out, l, hlen, H0, HO0, HU0, HB0⟩
  case round =>
    obtain ⟨X, m, hXm, HX, HO, HU, HB⟩ := hrel
    clear H0 HO0 HU0 HB0
    obtain ⟨p, cap, rfl, hmc, hcm⟩ := HU.out.shape
    obtain ⟨px, capx, rfl, _, _⟩ := HO.out.own.brow.shape
    unfold maxLen at hcm
    by_cases hm0 : m = []
    · subst hm0
      have hx := HX.out
      rw [runsL_nil, List.append_nil] at hx
      subst hx
      go_wp2_with fail
      go_ret
      exact ⟨_, rfl, HO.out, HB.out⟩
    · have hpos := List.length_pos_iff.2 hm0
      have hx := HX.out
      obtain ⟨c, hc⟩ : ∃ c : Nat, min m.length 128 = c := ⟨_, rfl⟩
      rw [runs_step hm0 hc] at hx
      have hc1 : 1 ≤ c := by omega
      have hc2 : c ≤ 128 := by omega
      have hc3 : c ≤ m.length := by omega
      have hmin : min (m.length : Int) 128 = (c : Int) := by omega
      have hmin2 : (if (128 : Int) < (m.length : Int) then (128 : Int) else (m.length : Int)) = (c : Int) := by split <;> omega
      obtain ⟨d, hd⟩ : ∃ d, c - 1 = d := ⟨_, rfl⟩
      have hdi : (c : Int) - 1 = (d : Int) := by omega
      rw [hd] at hx
      have hd9 : d < 256 := by omega
      obtain ⟨P, hP⟩ : ∃ P, m.take c = P := ⟨_, rfl⟩
      have hPl : P.length = c := by rw [← hP, List.length_take]; omega
      obtain ⟨Y, hY⟩ : ∃ Y, X ++ [UInt8.ofNat d] = Y := ⟨_, rfl⟩
      have hYl : Y.length = X.length + 1 := by rw [← hY]; simp
      obtain ⟨Z, hZ⟩ : ∃ Z, Y ++ P = Z := ⟨_, rfl⟩
      have hZl : Z.length = X.length + 1 + c := by rw [← hZ, List.length_append]; omega
      rw [hP] at hx
      rw [show X ++ UInt8.ofNat d :: (P ++ runsL (m.drop c)) = Z ++ runsL (m.drop c) by rw [← hZ, ← hY]; simp] at hx
      have hdl : (m.drop c).length = m.length - c := List.length_drop
      have hD := BIn.drop3 (show BIn B0 wr (.slice p m.length cap) m from HU.out) c hc3
      have hDg := BIn.drop (show BIn B0 wr (.slice p m.length cap) m from HU.out) c hc3
      have hT := BIn.take (show BIn B0 wr (.slice p m.length cap) m from HU.out) c hc3
      rw [hP] at hT
      generalize m.drop c = m2 at *
      have HX2 := Lib.hid hx
      have HD := Lib.hid hD
      have HDG := Lib.hid hDg
      have HT := Lib.hid hT
      have HDL := Lib.hid hdl
      have HZL := Lib.hid hZl
      have hszw := HB.out.size
      have hba : Below wr.heap.size wr (wr.alloc (.cells #[.int .u8 (d : Int)] 5)).drew := ((Below.refl _ _).alloc (Nat.le_refl _) _).drew
      have HOa := Lib.hid (HO.out.below hba)
      have HBA := Lib.hid hba
      have HL := Lib.hid (show BRow (wr.alloc (.cells #[.int .u8 (d : Int)] 5)).drew (.slice (some ⟨wr.heap.size, 0, none⟩) 1 1) [UInt8.ofNat d] from lit_byte hd9)
      have hne : [UInt8.ofNat d] ≠ [] := by simp
      have hneP : P ≠ [] := fun e => by rw [e] at hPl; simp at hPl; omega
      have hl1 : X.length + [UInt8.ofNat d].length ≤ 140737488355328 := by simp; omega
      have hl2 : Y.length + P.length ≤ 140737488355328 := by omega
      have hszB : ∀ k, S k → k < ((wr.alloc (.cells #[.int .u8 (d : Int)] 5)).drew).heap.size := fun k hk => by have := hba.size; have := hB k hk; omega
      have HC := Lib.hid hc
      have i1 : (c : Int) ≤ (cap : Int) := by omega
      have i2 : (0 : Int) ≤ (c : Int) := by omega
      have hw1 : IntKind.i64.wrap (d : Int) = (d : Int) := by rw [IntKind.wrap_i64]; omega
      have hw2 : IntKind.u8.wrap (d : Int) = (d : Int) := by rw [IntKind.wrap_u8]; omega
      clear hDg hx hc hd hP hPl hYl hZl hdl hD hT hba hm0
      go_wp2_with fail
      go_region_law (first | (refine step_append_keep S rfl (.tmp 12) (.tmp 16) rfl _ X rfl HOa.out _ [UInt8.ofNat d] rfl HL.out hne hl1 hszB ?_; intro v3 w3 hown3 hb3; rw [hY] at hown3; obtain ⟨p3, cap3, rfl, _, _⟩ := hown3.own.brow.shape; have HO3 := Lib.hid hown3; have HBr := Lib.hid ((kep_below S HBA.out).trans hb3); have HB3 := Lib.hid (HB.out.trans HBr.out); have hT3 := HT.out.below (HBr.out.below (Nat.le_trans hB0 hszw) h0); have hB3 : ∀ k, S k → k < w3.heap.size := fun k hk => Nat.lt_of_lt_of_le (hB k hk) HB3.out.size; have HT3 := Lib.hid (hT3.row (Nat.le_trans hB0 HB3.out.size)); clear hown3 hb3 hT3) | (refine step_append_keep S rfl (.tmp 17) (.tmp 20) rfl _ Y rfl HO3.out _ P rfl HT3.out hneP hl2 hB3 ?_; intro v4 w4 hown4 hb4; rw [hZ] at hown4; obtain ⟨p4, cap4, rfl, _, _⟩ := hown4.own.brow.shape; have HO4 := Lib.hid hown4; have HB4 := Lib.hid (HB3.out.trans hb4); have HU4 := Lib.hid ((HBr.out.trans hb4).below (Nat.le_trans hB0 hszw) h0); clear hown4 hb4))
      all_goals (
        have HR4 := Lib.hid (fun u (h : BIn B0 wr u m2) => h.below HU4.out)
        clear HO3 HB3 HT3 HBr HU4 HOa HL hmin hmin2 hw1 hw2
        go_wp2_with fail)
      all_goals (
        go_roundw
        case rel =>
          have hdl := HDL.out
          have hzl := HZL.out
          refine ⟨Z, m2, by omega, HX2, HO4, Lib.hid (HR4.out _ ?_), HB4⟩
          exact (by first | exact HDG.out | exact HD.out.1 (by assumption) | exact HD.out.2 (by assumption))
        case measure => simp; omega)
end Go.Proofs.Ytoohkhcmakcggaa.LZ
