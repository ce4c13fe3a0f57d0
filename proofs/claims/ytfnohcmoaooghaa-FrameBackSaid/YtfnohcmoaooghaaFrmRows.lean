/-
  few, Same and the reference's Split: what the plain lists say. Condition (the reference's Split): fewer than 2^30 bytes.
-/
import Derived.Test.YtfnohcmoaooghaaFrmRGet
set_option linter.unusedVariables false
namespace Go.Proofs.Ytfnohcmoaooghaa.FG
open Go.RowKit Go.Proofs.Ytfnohcmoaooghaa.MM Go.Proofs.Ytfnohcmoaooghaa.VM Go.Proofs.Ytfnohcmoaooghaa.CM Go.Proofs.Ytfnohcmoaooghaa.FM Go.Proofs.Ytfnohcmoaooghaa.VP Go.Proofs.Ytfnohcmoaooghaa.CR Go.Proofs.Ytfnohcmoaooghaa.FP Go.Proofs.Ytfnohcmoaooghaa.VG

theorem infoSl : (Try.prog.info? 22).map (fun i => (i.zero, i.size, i.bytes)) = some (some (.slice none 0 0), 1, 24) := by kernel_rfl
/-- A row of slices of the call's own, from block B on; what they hold lies below B. -/
def OwnP (B : Nat) (w : World) (v : Value) (ls : List (List UInt8)) : Prop := ∃ xs, w.ownsRow B 22 1 v ls.length xs ∧ xs.length = ls.length ∧ ∀ i (h : i < ls.length), ∃ x, xs[i]? = some x ∧ BIn B w x ls[i]
theorem OwnP.nil_ (B : Nat) (w : World) : OwnP B w (.slice none 0 0) [] := ⟨[], World.ownsRow_nil _ _ _ _, rfl, fun i h => by simp at h⟩
theorem OwnP.prow {B : Nat} {w : World} {v : Value} {ls : List (List UInt8)} (h : OwnP B w v ls) (hB : B ≤ w.heap.size) : PRow w v ls := by
  obtain ⟨xs, h1, h2, h3⟩ := h
  exact ⟨xs, Row.of_own h1, h2, fun i hi => by obtain ⟨x, hx, hb⟩ := h3 i hi; exact ⟨x, hx, hb.row hB⟩⟩
theorem OwnP.keep {B : Nat} {w w' : World} {v : Value} {ls : List (List UInt8)} (h : OwnP B w v ls) (hb : Below w.heap.size w w') (hB : B ≤ w.heap.size) : OwnP B w' v ls := by
  obtain ⟨xs, h1, h2, h3⟩ := h
  exact ⟨xs, own_keep (B := 0) h1 hb, h2, fun i hi => by obtain ⟨x, hx, hr⟩ := h3 i hi; exact ⟨x, hx, hr.below (hb.mono hB)⟩⟩
/-- append(row, p). -/
theorem wpList_append_part {w : World} {ops : Array Oper} {rest : List Oper} {o : Oper} {a : Act} {Q : Exit → Act → World → Prop} (hgd : o.guard = none) (s x : Operand)
    (ho : o.op = .call { callee := .builtin .append, args := #[s, x], argTypes := #[32, 32] }) (B : Nat) (v : Value) (ls : List (List UInt8)) (hs : a.eval s = v) (hown : OwnP B w v ls)
    (u : Value) (l : List UInt8) (hu : u.oneCell' = true) (src : Value) (hx : a.eval x = src) (hr : Row w src [u]) (hl : BIn B w u l) (hlen : ls.length ≤ 1000000000000) (hbase : B ≤ w.heap.size)
    (h : ∀ v' w', OwnP B w' v' (ls ++ [l]) → Below B w w' → wpList Try.prog ops Q rest (a.put o.dst v') w') : wpList Try.prog ops Q (o :: rest) a w := by
  obtain ⟨i0, hi, hz0, hz1, hz2⟩ := info_parts infoSl
  obtain ⟨xs, h1, h2, h3⟩ := hown
  refine wpList_append_row hgd s x 32 ho B 22 i0 (.slice none 0 0) 24 Try.underlying32 hi hz0 hz1 hz2 rfl v ls.length xs hs h1 src [u] hx hr (fun y hy => by simp at hy; subst hy; exact hu)
    (by unfold maxLen; simp; omega) (by simp; omega) hbase (fun v' w' h4 h5 => h v' w' ⟨xs ++ [u], by rw [List.length_append]; exact h4, by simp [h2], fun i hi' => ?_⟩ h5)
  rw [List.length_append, List.length_singleton] at hi'
  by_cases hlt : i < ls.length
  · obtain ⟨y, hy, hb⟩ := h3 i hlt
    exact ⟨y, by rw [List.getElem?_append_left (by omega)]; exact hy, by rw [List.getElem_append_left hlt]; exact hb.below h5⟩
  · obtain rfl : i = ls.length := by omega
    exact ⟨u, by rw [List.getElem?_append_right (by omega), h2]; simp, by simpa using hl.below h5⟩
theorem row_one (w : World) (u : Value) : Row (w.alloc (.cells #[u] 22)) (.slice (some ⟨w.heap.size, 0, none⟩) 1 1) [u] :=
  Row.of_own (own_lit w [u] 22 0 (Nat.zero_le _) (by unfold maxLen; simp))

/-! ### few -/
def fewL (ls : List (List UInt8)) : List (List UInt8) := (ls.take 8).map (fun l => l.take 200)
/-- A slice of slices; memory that was there is as it was. -/
def RowsLeft (ls : List (List UInt8)) (w : World) (e : Ending) (w' : World) : Prop := ∃ v', e = .returned v' ∧ PRow w' v' ls ∧ Below w.heap.size w w'
theorem fewL_next {ls : List (List UInt8)} {k : Nat} (h1 : k < ls.length) (h2 : k < 8) : (fewL ls).take (k + 1) = (fewL ls).take k ++ [ls[k].take 200] := by
  have hl : k < (fewL ls).length := by simp [fewL]; omega
  rw [List.take_succ_eq_append_getElem hl]
  simp [fewL]
theorem fewL_end {ls : List (List UInt8)} {k : Nat} (h : ls.length ≤ k ∨ 8 ≤ k) : (fewL ls).take k = fewL ls := by
  apply List.take_of_length_le
  simp [fewL]
  omega
theorem fewL_len (ls : List (List UInt8)) : (fewL ls).length ≤ 8 := by simp [fewL]; omega
theorem fewL_each {ls : List (List UInt8)} {p : List UInt8} (h : p ∈ fewL ls) : p.length ≤ 200 := by
  obtain ⟨l, _, rfl⟩ := List.mem_map.1 h
  rw [List.length_take]
  omega

set_option maxRecDepth 100000 in
set_option maxHeartbeats 1000000 in
theorem few_any (v : Value) (ls : List (List UInt8)) (w : World) (hr : PRow w v ls) : Calls Try.prog 17 #[v] w (RowsLeft (fewL ls) w) := by
  obtain ⟨q, capq, rfl, hqc, hqm⟩ := hr.shape
  unfold maxLen at hqm
  have HS := Lib.hid hr
  have HO0 : Hid (OwnP w.heap.size w (.slice none 0 0) ((fewL ls).take 0)) := Lib.hid (OwnP.nil_ _ _)
  clear hr
  go_enter Try.func17, Try.ntmps17
  go_wp2_with fail
  go_loopw [3, 4] (fun u i wr => ∃ k : Nat, k ≤ ls.length ∧ k ≤ 8 ∧ i = .int .i64 k ∧ Hid (OwnP w.heap.size wr u ((fewL ls).take k)) ∧ Hid (Below w.heap.size w wr)) (fun _ i _ => 8 - (intOf i).toNat)
  case atStart => exact ⟨0, by omega, by omega, rfl, HO0, Lib.hid (Below.refl _ _)⟩
  case round =>
    obtain ⟨k, hk, hk8, rfl, HO, HB⟩ := hrel
    clear HO0
    by_cases hgo : k < ls.length ∧ k < 8
    · obtain ⟨hlt, h8⟩ := hgo
      have t1 : decide ((k : Int) < (ls.length : Int)) = true := by simp; omega
      have t2 : decide ((k : Int) < 8) = true := by simp; omega
      obtain ⟨b, off, x, rfl, hcell, hx⟩ := HS.out.at_ hlt
      have hcell2 := (HB.out.cell (p := ⟨b, off + k, none⟩) (cell_lt hcell)).trans hcell
      have hn := fewL_next hlt h8
      have hxi : BIn w.heap.size wr x ls[k] := BIn.below hx HB.out
      generalize ls[k] = y at *
      obtain ⟨p2, cap2, rfl, hlc2, hcm2⟩ := hx.shape
      unfold maxLen at hcm2
      have hll : ((fewL ls).take k).length ≤ 8 := by rw [List.length_take]; have := fewL_len ls; omega
      have hb0 : ∀ u : Value, Below wr.heap.size wr (wr.alloc (.cells #[u] 22)) := fun u => (Below.refl _ _).alloc (Nat.le_refl _) _
      have hszw := HB.out.size
      have HN := Lib.hid hn
      by_cases hbig : 200 < y.length
      · have hxt := hxi.take 200 (by omega)
        have HX := Lib.hid (hxt.below ((hb0 (.slice p2 200 cap2)).mono hszw))
        have HOa := Lib.hid (HO.out.keep (hb0 (.slice p2 200 cap2)) hszw)
        have HBa := Lib.hid (HB.out.trans ((hb0 (.slice p2 200 cap2)).mono hszw))
        have i1 : (200 : Int) ≤ (cap2 : Int) := by omega
        clear hx hxi hxt hn hcell
        go_wp2_with (at_builtin; refine wpList_append_part rfl _ _ rfl w.heap.size _ ((fewL ls).take k) rfl HOa.out (.slice p2 200 cap2) (y.take 200) rfl _ rfl (row_one wr _) HX.out (by omega) (by simp; omega) ?_)
        intro v6 w6 hown6 hb6
        rw [← HN.out] at hown6
        have HO6 := Lib.hid hown6
        have HB6 := Lib.hid (HBa.out.trans hb6)
        clear hown6 hb6
        go_wp2_with fail
        go_roundw
        case rel => exact ⟨k + 1, by omega, by omega, by go_num, HO6, HB6⟩
        case measure => simp [intOf]; omega
      · have e200 : y.take 200 = y := List.take_of_length_le (by omega)
        rw [e200] at HN
        have HX := Lib.hid (hxi.below ((hb0 (.slice p2 y.length cap2)).mono hszw))
        have HOa := Lib.hid (HO.out.keep (hb0 (.slice p2 y.length cap2)) hszw)
        have HBa := Lib.hid (HB.out.trans ((hb0 (.slice p2 y.length cap2)).mono hszw))
        clear hx hxi hn hcell e200
        go_wp2_with (at_builtin; refine wpList_append_part rfl _ _ rfl w.heap.size _ ((fewL ls).take k) rfl HOa.out (.slice p2 y.length cap2) y rfl _ rfl (row_one wr _) HX.out (by omega) (by simp; omega) ?_)
        intro v6 w6 hown6 hb6
        rw [← HN.out] at hown6
        have HO6 := Lib.hid hown6
        have HB6 := Lib.hid (HBa.out.trans hb6)
        clear hown6 hb6
        go_wp2_with fail
        go_roundw
        case rel => exact ⟨k + 1, by omega, by omega, by go_num, HO6, HB6⟩
        case measure => simp [intOf]; omega
    · have hown := HO.out
      rw [fewL_end (by omega)] at hown
      have HF := Lib.hid (hown.prow HB.out.size)
      clear hown HO
      by_cases hlt : k < ls.length
      · have t1 : decide ((k : Int) < (ls.length : Int)) = true := by simp; omega
        have t2 : decide ((k : Int) < 8) = false := by simp; omega
        go_wp2_with fail
        go_ret
        exact ⟨_, rfl, HF.out, HB.out⟩
      · have t1 : decide ((k : Int) < (ls.length : Int)) = false := by simp; omega
        go_wp2_with fail
        go_ret
        exact ⟨_, rfl, HF.out, HB.out⟩

/-! ### Same -/
set_option maxRecDepth 100000 in
set_option maxHeartbeats 1000000 in
theorem same_any (v u : Value) (ls : List (List UInt8)) (w : World) (hv : PRow w v ls) (hu : PRow w u ls) : Calls Try.prog 22 #[v, u] w fun e w' => e = .returned (.bool true) ∧ Below w.heap.size w w' := by
  obtain ⟨p, capp, rfl, hpc, hpm⟩ := hv.shape
  obtain ⟨q, capq, rfl, hqc, hqm⟩ := hu.shape
  unfold maxLen at hqm hpm
  have HV := Lib.hid hv
  have HU := Lib.hid hu
  have hne : ((ls.length : Int) != (ls.length : Int)) = false := by simp
  clear hv hu
  go_enter Try.func22, Try.ntmps22
  go_wp2_with fail
  go_loopw [5] (fun i wr => ∃ k : Nat, k ≤ ls.length ∧ i = .int .i64 k ∧ Hid (Below w.heap.size w wr)) (fun i _ => ls.length - (intOf i).toNat)
  case atStart => exact ⟨0, by omega, rfl, Lib.hid (Below.refl _ _)⟩
  case round =>
    obtain ⟨k, hk, rfl, HB⟩ := hrel
    clear hne
    by_cases hlt : k < ls.length
    · obtain ⟨b, off, x, rfl, hc1, hx⟩ := (HV.out.below HB.out).at_ hlt
      obtain ⟨b2, off2, y, rfl, hc2, hy⟩ := (HU.out.below HB.out).at_ hlt
      generalize ls[k] = z at *
      obtain ⟨p1, cap1, rfl, _, _⟩ := hx.shape
      obtain ⟨p2, cap2, rfl, _, _⟩ := hy.shape
      have e1 := fun nq => (hx.drewN nq).conv
      have e2 := fun nq => (hy.drewN nq).conv
      clear hx hy
      go_wp2_with fail
      go_quiet (fail)
      clear e1 e2
      go_wp2_with fail
      go_roundw
      case rel => exact ⟨k + 1, by omega, by go_num, Lib.hid (below_drewN HB.out _)⟩
      case measure => simp [intOf]; omega
    · obtain rfl : k = ls.length := by omega
      go_wp2_with fail
      go_ret
      exact ⟨rfl, HB.out⟩
end Go.Proofs.Ytfnohcmoaooghaa.FG
