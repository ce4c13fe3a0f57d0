/-
  few: at most sixty texts, each of at most a hundred bytes. No condition.
-/
import Derived.Test.YtjogjmkfkmbjdaaBlmMath
import Derived.Test.YtjogjmkfkmbjdaaMemStrs
import Derived.Test.YtjogjmkfkmbjdaaRegK
set_option linter.unusedVariables false
namespace Go.Proofs.Ytjogjmkfkmbjdaa.BL
open Go.RowKit Go.Proofs.Ytjogjmkfkmbjdaa.MM Go.Proofs.Ytjogjmkfkmbjdaa.BM

def fewL (ss : List (List UInt8)) : List (List UInt8) := (ss.take 60).map (·.take 100)
theorem fewL_len (ss : List (List UInt8)) : (fewL ss).length ≤ 60 := by simp [fewL]; omega
theorem fewL_next {ss : List (List UInt8)} {k : Nat} (h1 : k < ss.length) (h2 : k < 60) : (fewL ss).take (k + 1) = (fewL ss).take k ++ [(ss[k]).take 100] := by
  have hl : k < (fewL ss).length := by simp [fewL]; omega
  rw [List.take_succ_eq_append_getElem hl]
  simp [fewL]
theorem fewL_end {ss : List (List UInt8)} {k : Nat} (h : ss.length ≤ k ∨ 60 ≤ k) : (fewL ss).take k = fewL ss := by
  apply List.take_of_length_le
  simp [fewL]
  omega
theorem fewL_each {ss : List (List UInt8)} {s : List UInt8} (h : s ∈ fewL ss) : s.length ≤ 100 := by
  obtain ⟨q, _, rfl⟩ := List.mem_map.1 h
  rw [List.length_take]
  omega
theorem extract_take (l : List UInt8) (m : Nat) : (⟨l.toArray⟩ : ByteArray).extract 0 m = ⟨(l.take m).toArray⟩ := by
  apply ByteArray.ext
  simp [List.extract_eq_take_drop]
/-- append(row, s), as a step. -/
theorem wp_append_str {w : World} {o : Oper} {a : Act} {K : Act → World → Prop} {Q : Exit → Act → World → Prop} (s x : Operand)
    (ho : o.op = .call { callee := .builtin .append, args := #[s, x], argTypes := #[22, 22] }) (B : Nat) (v : Value) (ss : List (List UInt8)) (w0 : World) (z : List UInt8) (hw : w = w0.alloc (.cells #[.string ⟨z.toArray⟩] 9)) (hs : a.eval s = v) (hown : OwnT B w0 v ss)
    (hx : a.eval x = .slice (some ⟨w0.heap.size, 0, none⟩) 1 1) (hlen : ss.length ≤ 1000000000000) (hbase : B ≤ w0.heap.size)
    (h : ∀ v' w', OwnT B w' v' (ss ++ [z]) → Below B w0 w' → Kep (fun k => k < B) w w' → K (a.put o.dst v') w') : o.wp Try.prog a w K Q := by
  subst hw
  obtain ⟨i0, hi, hz0, hz1, hz2⟩ := info_parts infoStr
  have hlo : ∀ k, v.ownBlock = some k → B ≤ k := fun k hk => (World.ownsRow.lt hown k hk).1
  refine wp_append_own _ s x 22 ho B 9 i0 (.string ⟨#[]⟩) 1 16 Try.underlying22 hi hz0 hz1 hz2 rfl (by decide) v ss.length _ hs (World.ownsRow.alloc hown _) ⟨w0.heap.size, 0, none⟩ 1 1 [.string ⟨z.toArray⟩] hx rfl (cell_new1 _ _ _) (by intro u hu; simp at hu; subst hu; rfl)
    (by unfold maxLen; omega) (by omega) (by simp; omega) (fun v' w' h1 hg _ => h v' w' ?_ (below_app (Below.refl B w0) hbase hlo hg) (kep_grown hg fun k hk hA => by have := hlo k hk; omega))
  unfold OwnT
  rw [List.length_append, List.map_append]
  exact h1
def FewLeft (ss : List (List UInt8)) (w : World) (e : Ending) (w' : World) : Prop := ∃ v', e = .returned v' ∧ OwnT w.heap.size w' v' ss ∧ Below w.heap.size w w'
set_option maxRecDepth 100000 in
set_option maxHeartbeats 2000000 in
theorem few_any (v : Value) (ss : List (List UInt8)) (w : World) (hr : TRow w v ss) : Calls Try.prog 7 #[v] w (FewLeft (fewL ss) w) := by
  obtain ⟨p, cap, rfl, hlc, hcm⟩ := TIn.shape hr
  unfold maxLen at hcm
  have HR := Lib.hid hr
  have HO0 : Hid (OwnT w.heap.size w (.slice none 0 0) ((fewL ss).take 0)) := Lib.hid (OwnT.nil_ _ _)
  clear hr
  go_enter Try.func7, Try.ntmps7
  go_wp2_with fail
  go_loopw [3, 4] (fun u i wr => ∃ k : Nat, k ≤ ss.length ∧ k ≤ 60 ∧ i = .int .i64 k ∧ Hid (OwnT w.heap.size wr u ((fewL ss).take k)) ∧ Hid (Below w.heap.size w wr)) (fun _ i _ => 60 - (intOf i).toNat)
  case atStart => exact ⟨0, by omega, by omega, rfl, HO0, Lib.hid (Below.refl _ _)⟩
  case round =>
    obtain ⟨k, hk, hk8, rfl, HO, HB⟩ := hrel
    clear HO0
    have hsz := HB.out.size
    by_cases hgo : k < ss.length ∧ k < 60
    · obtain ⟨hlt, h8⟩ := hgo
      have t1 : decide ((k : Int) < (ss.length : Int)) = true := by simp; omega
      have t2 : decide ((k : Int) < 60) = true := by simp; omega
      obtain ⟨b, off, rfl, hbl, hcell⟩ := TIn.at_ HR.out hlt
      have hn := fewL_next hlt h8
      obtain ⟨s, hs⟩ : ∃ s, ss[k] = s := ⟨_, rfl⟩
      rw [hs] at hcell hn
      have HN := Lib.hid hn
      obtain ⟨m, hm⟩ : ∃ m, min s.length 100 = m := ⟨_, rfl⟩
      have e1 : (if (100 : Int) < (s.length : Int) then (100 : Int) else (s.length : Int)) = (m : Int) := by split <;> omega
      have e2 : s.take m = s.take 100 := by
        rw [← hm]
        by_cases h : s.length ≤ 100
        · rw [Nat.min_eq_left h, List.take_length, List.take_of_length_le h]
        · rw [Nat.min_eq_right (by omega)]
      have i1 : m ≤ s.length := by omega
      have i2 : (m : Int) ≤ (s.length : Int) := by omega
      obtain ⟨pu, cu, rfl, hu1, hu2⟩ := HO.out.shape
      have hll : ((fewL ss).take k).length ≤ 60 := by rw [List.length_take]; have := fewL_len ss; omega
      have HE : Hid ((⟨s.toArray⟩ : ByteArray).extract 0 m = ⟨(s.take 100).toArray⟩) := Lib.hid (by rw [extract_take, e2])
      obtain ⟨wd, hwd⟩ : ∃ wd, wr.drew = wd := ⟨_, rfl⟩
      have hbd : Below w.heap.size w wd := by rw [← hwd]; exact HB.out.drew
      have hod : OwnT w.heap.size wd (.slice pu ((fewL ss).take k).length cu) ((fewL ss).take k) := by rw [← hwd]; exact HO.out
      have HBD := Lib.hid hbd
      have HOD := Lib.hid hod
      have HLL := Lib.hid hll
      have HSD := Lib.hid hbd.size
      obtain ⟨nu, hnu⟩ : ∃ nu, ((fewL ss).take k).length = nu := ⟨_, rfl⟩
      have hbs := hbd.size
      rw [hnu] at HOD HLL hu1 ⊢
      have HNU := Lib.hid hnu
      clear hs hn e2 hm hll hod hnu
      go_wp2_with fail
      refine RK.begin_ (T := fun c => c < w.heap.size) [(0, true), (1, true), (2, true), (3, true), (4, true), (5, true), (6, true), (7, true), (8, true), (9, true), (10, true), (11, true), (12, false), (13, false), (14, true)] (by kernel_rfl) (by kernel_rfl) rfl (by kernel_rfl) (fun _ _ d _ _ h => by cases d <;> exact h) ?_
      simp only [RK.ordered, List.map_cons, List.map_nil, List.getElem?_toArray, List.getElem?_cons_succ, List.getElem?_cons_zero]
      rw [hwd]
      have f1 := fun W (hW : Kep (fun c => c < w.heap.size) wd W) => (hW.cell (b := b) (Nat.lt_of_lt_of_le hbl hbd.size) hbl (off + k)).trans ((hbd.cell (p := ⟨b, off + k, none⟩) hbl).trans hcell)
      repeat ((first | (refine RK.take (by rfl) (by intro W hW; go_simp; with_reducible rfl) ?_) | (refine RK.skip (by rfl) ?_) | (refine RK.alone_skip (by rfl) ?_)); simp only [Act.put, List.setIfInBounds_toArray, List.set_cons_zero, List.set_cons_succ])
      refine RK.alone (by rfl) (fun K hK => ?_)
      go_simp
      rw [HE.out]
      refine hK.out _ _ (kep_alloc _ _ _) ?_
      clear hK K
      repeat ((first | (refine RK.take (by rfl) (by intro W hW; go_simp; with_reducible rfl) ?_) | (refine RK.skip (by rfl) ?_) | (refine RK.alone_skip (by rfl) ?_)); simp only [Act.put, List.setIfInBounds_toArray, List.set_cons_zero, List.set_cons_succ])
      refine RK.alone (by rfl) (fun K hK => ?_)
      refine wp_append_str _ _ rfl w.heap.size _ ((fewL ss).take k) wd (s.take 100) rfl rfl HOD.out rfl (by rw [HNU.out]; have := HLL.out; omega) HSD.out (fun v7 w7 ho7 hb7 hk7 => ?_)
      go_simp
      refine hK.out _ _ hk7 ?_
      rw [← HN.out] at ho7
      have HO7 := Lib.hid ho7
      have HB7 := Lib.hid (HBD.out.trans hb7)
      clear hK K ho7 hb7 hk7
      repeat ((first | (refine RK.take (by rfl) (by intro W hW; go_simp; with_reducible rfl) ?_) | (refine RK.skip (by rfl) ?_) | (refine RK.alone_skip (by rfl) ?_)); simp only [Act.put, List.setIfInBounds_toArray, List.set_cons_zero, List.set_cons_succ])
      refine RK.done ?_
      go_wp2_with fail
      go_roundw
      case rel => exact ⟨k + 1, by omega, by omega, by go_num, HO7, HB7⟩
      case measure => simp [intOf]; omega
    · have he := fewL_end (ss := ss) (k := k) (by omega)
      rw [he] at HO
      by_cases hlt : k < ss.length
      · have t1 : decide ((k : Int) < (ss.length : Int)) = true := by simp; omega
        have t2 : decide ((k : Int) < 60) = false := by simp; omega
        clear he
        go_wp2_with fail
        go_ret
        exact ⟨_, rfl, HO.out, HB.out⟩
      · have t1 : decide ((k : Int) < (ss.length : Int)) = false := by simp; omega
        clear he
        go_wp2_with fail
        go_ret
        exact ⟨_, rfl, HO.out, HB.out⟩
end Go.Proofs.Ytjogjmkfkmbjdaa.BL
