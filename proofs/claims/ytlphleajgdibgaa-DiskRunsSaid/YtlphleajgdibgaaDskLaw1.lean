/-
  The law DiskRuns: any calls, on both disks. Condition: the ops are data.
-/
import Derived.Test.YtlphleajgdibgaaDskSame
import Derived.Test.YtlphleajgdibgaaDskShort
import Derived.Test.YtlphleajgdibgaaDskAwake
set_option linter.unusedVariables false
namespace Go.Proofs.Ytlphleajgdibgaa.DK
open Go.RowKit Go.Proofs.Ytlphleajgdibgaa.MM Go.Maps

theorem zeroOp (w : World) : (zeroValue 39).run Try.prog w = .ok (.agg #[.int .u8 0, .string ByteArray.empty, .string ByteArray.empty, .slice none 0 0, .int .i64 0, .int .i64 0, .slice none 0 0]) w := by kernel_rfl
theorem zeroRDisk (w : World) : (zeroValue 29).run Try.prog w = .ok (.agg #[.slice none 0 0, .int .i64 0, .int .i64 0, .bool false]) w := by kernel_rfl
/-- Both disks, made. -/
theorem sim_new {A g : Nat} {w1 w3 : World} {S : Nat → Prop} {mb : Nat} {V : List UInt8 → Value} {q : Int} (hco : CObj S w1 g mb V 0 (newD q)) (hS : ∀ k, S k → A ≤ k) (hb : Below w1.heap.size w1 w3) (hA : A ≤ w3.heap.size) (h0 : 0 ≤ q) (h1 : q ≤ 9223372036854775807) :
    Sim A S (w3.alloc (.cells #[.pointer (some ⟨g, 0, none⟩), .slice none 0 0, .int .i64 q, .int .i64 0, .bool false] 35)) w3.heap.size g (.slice none 0 0) (newD q) := by
  have hc3 := hco.below hb
  have hba : Below w3.heap.size w3 (w3.alloc (.cells #[.pointer (some ⟨g, 0, none⟩), .slice none 0 0, .int .i64 q, .int .i64 0, .bool false] 35)) := (Below.refl _ _).alloc (Nat.le_refl _) _
  exact ⟨⟨mb, V, 0, hc3.below hba⟩, heap_alloc_new _ _, FilesIn.nil_ _ _, fun h => by have := hc3.lt _ h; omega, hS, hA, new_fits q h0 h1⟩
theorem new_nam (q : Int) : Nam (newD q) := fun f hf => (List.not_mem_nil hf).elim
theorem short_len (o : OpD) : (shortD o).name.length ≤ 70 ∧ (shortD o).to_.length ≤ 70 ∧ (shortD o).b.length ≤ 100 ∧ (shortD o).keep.length ≤ 10 := by
  unfold shortD
  simp only [List.length_take]
  omega
set_option maxRecDepth 100000 in
set_option maxHeartbeats 4000000 in
theorem runs_walk (q : Int) (v : Value) (os : List OpD) (w : World) (h : OpsIn w.heap.size w v os) (q0 : -9223372036854775808 ≤ q) (q1 : q ≤ 9223372036854775807) : Calls Try.prog 3 #[.int .i64 q, v] w fun e w' => e = .returned (.bool true) ∧ Below w.heap.size w w' := by
  obtain ⟨a, cap, rfl, hlc, hcm⟩ := h.shape
  unfold maxLen at hcm
  have HO := Lib.hid h
  clear h
  have hzr := zeroRDisk
  have hzo := zeroOp
  by_cases h0 : q < 0
  · have HR := Lib.hid (fun W => rnew_any q W)
    rw [if_pos h0, if_pos h0] at HR
    unfold diskV at HR
    have HC := Lib.hid (cnew_neg q w h0)
    have hba : ∀ o, Below w.heap.size w (w.alloc o) := fun o => (Below.refl _ _).alloc (Nat.le_refl _) _
    clear h0 hzo
    go_enter Try.func3, Try.ntmps3
    go_wp2_with fail
    refine HC.out.mono ?_
    rintro e w1 ⟨rfl, rfl⟩
    clear HC
    go_wp2_with fail
    refine (HR.out _).mono ?_
    rintro e w2 ⟨rfl, hb2⟩
    have HB2 := Lib.hid hb2
    clear hb2 HR hba
    go_wp2_with fail
    refine (awake_any _).mono ?_
    rintro e w3 ⟨rfl, hb3⟩
    have HB3 := Lib.hid ((HB2.out.alloc HB2.out.size _).trans (hb3.mono (by have := HB2.out.size; simp; omega)))
    clear hb3
    go_wp2_with fail
    go_ret
    exact ⟨rfl, HB3.out⟩
  · have HR := Lib.hid (fun W => rnew_any q W)
    rw [if_neg h0, if_neg h0] at HR
    unfold diskV at HR
    have HC := Lib.hid (cnew_any q w (by omega))
    go_enter Try.func3, Try.ntmps3
    go_wp2_with fail
    refine HC.out.mono ?_
    rintro e w1 ⟨S, g, mb, V, rfl, hco, hS, hb1⟩
    have HB1 := Lib.hid hb1
    have HCO := Lib.hid hco
    have HS := Lib.hid hS
    clear HC hb1 hco hS
    go_wp2_with fail
    refine (HR.out _).mono ?_
    rintro e w2 ⟨rfl, hb2⟩
    have HB2 := Lib.hid hb2
    have hbx : ∀ o, Below w2.heap.size w2 (w2.alloc o) := fun o => (Below.refl _ _).alloc (Nat.le_refl _) _
    have HBX := Lib.hid hbx
    clear hb2 HR hbx
    go_wp2_with fail
    have hn2 := box_new w2 (.slice none 0 0) (newD q)
    have hl2 := hn2.lt
    unfold newD at hn2 hl2
    refine (awake_any _).mono ?_
    rintro e w3 ⟨rfl, hb3⟩
    have hn3 : BoxAt w3 w2.heap.size (.slice none 0 0) (newD q) := hn2.below hb3 hl2
    have y0 := hn3.files
    have y1 := hn3.quota
    have y2 := hn3.armed
    have y3 := hn3.stopped
    unfold newD at y1 y2 y3
    have hb13 : Below w1.heap.size w1 w3 := HB2.out.trans (((HBX.out _).mono HB2.out.size).trans (hb3.mono (Nat.le_trans HB2.out.size (HBX.out _).size)))
    have HB3 := Lib.hid (HB1.out.trans (hb13.mono HB1.out.size))
    have hs3 := HB3.out.size
    have hsim := sim_new (A := w.heap.size) HCO.out HS.out hb13 hs3 (by omega) q1
    have HSIM := Lib.hid hsim
    have HBB := Lib.hid (HB3.out.alloc hs3 (.cells #[.pointer (some ⟨g, 0, none⟩), .slice none 0 0, .int .i64 q, .int .i64 0, .bool false] 35))
    have HNM := Lib.hid (new_nam q)
    clear hn2 hl2 hb3 hn3 hb13 hsim HB1 HB2 HBX HCO HS h0 hzr
    go_wp2_with fail
    go_loopw [10] (fun iv wr => ∃ (k : Nat) (T : Nat → Prop) (g' : Nat) (L : Value) (d : DiskD), k ≤ os.length ∧ iv = .int .i64 k ∧ Hid (Sim w.heap.size T wr w3.heap.size g' L d) ∧ Hid (Nam d) ∧ Hid (Below w.heap.size w wr)) (fun iv _ => os.length - (intOf iv).toNat)
    case atStart => exact ⟨0, S, g, _, _, Nat.zero_le _, rfl, HSIM, HNM, HBB⟩
    case round =>
      obtain ⟨k, T, g', L, d, hk, rfl, HT, HN, HB⟩ := hrel
      clear y0 y1 y2 y3 HSIM HNM HBB
      have hsz := HB.out.size
      by_cases hgo : k < os.length ∧ k < 60
      · obtain ⟨hlt, h60⟩ := hgo
        have t1 : decide ((k : Int) < (os.length : Int)) = true := by simp; omega
        have t2 : decide ((k : Int) < 60) = true := by rw [decide_eq_true_eq]; omega
        obtain ⟨o0, ho0⟩ : ∃ o, os[k]? = some o := ⟨os[k], List.getElem?_eq_getElem hlt⟩
        obtain ⟨b, off, rfl, hbl, hat⟩ := HO.out.at_ ho0
        obtain ⟨c0, c1, c2, c3, c4, c5, c6, hop, e0, e1, e2, e3, e4, e5, e6⟩ := hat.below HB.out hbl
        have HSH := Lib.hid (short_any w.heap.size _ o0 wr hop hsz)
        clear hat hop ho0
        go_wp2_with fail
        refine HSH.out.mono ?_
        rintro e w4 ⟨v4, rfl, ho4, hb4⟩
        obtain ⟨O, hOO⟩ : ∃ O, shortD o0 = O := ⟨_, rfl⟩
        obtain ⟨z1, z2, z3, z4⟩ := short_len o0
        rw [hOO] at ho4 z1 z2 z3 z4
        obtain ⟨vb, vk, rfl, hvb, hvk⟩ := id ho4.val
        obtain ⟨pb, cb, rfl, _, _⟩ := hvb.shape
        obtain ⟨pk, ck, rfl, _, _, _⟩ := id hvk
        unfold opCells
        obtain ⟨SN, hSN⟩ : ∃ s : ByteArray, (⟨O.name.toArray⟩ : ByteArray) = s := ⟨_, rfl⟩
        obtain ⟨ST, hST⟩ : ∃ s : ByteArray, (⟨O.to_.toArray⟩ : ByteArray) = s := ⟨_, rfl⟩
        have hST4 := HT.out.below hb4
        have hbx : ∀ X, Below w4.heap.size w4 (w4.alloc X) := fun X => (Below.refl _ _).alloc (Nat.le_refl _) _
        have hs4 := hb4.size
        have HP := Lib.hid (fun X => step_any w.heap.size w3.heap.size g' T L d _ O (w4.alloc X) (hST4.below (hbx X)) (ho4.below ((hbx X).mono (by omega))) (by have := (hbx X).size; omega) z1 z2 z3 z4)
        have HB4 := Lib.hid (fun X => (HB.out.trans (hb4.mono hsz)).trans ((hbx X).mono (by omega)))
        have hnT : ¬ T w4.heap.size := fun q => by
          obtain ⟨_, _, _, hq⟩ := HT.out.co
          have := hq.lt _ q
          omega
        have hnb : w4.heap.size ≠ w3.heap.size := by have := HT.out.bo.lt; omega
        have hcell : ∀ t fr, (w4.alloc (.cells #[.int .u8 (O.do_ : Int), .string SN, .string ST, .slice pb O.b.length cb, .int .i64 O.a, .int .i64 O.n, .slice pk (O.keep.map (Value.int .i64)).length ck] t fr)).cell? ⟨w4.heap.size, 1, none⟩ = some (.string SN) := fun t fr => by rw [cell_of_row _ _ 1 _ _ _ (heap_alloc_new _ _)]; rfl
        have HCELL := Lib.hid hcell
        have HNT := Lib.hid hnT
        have HNB := Lib.hid hnb
        have HSTR := Lib.hid hSN
        obtain ⟨lb, hlb⟩ : ∃ m, O.b.length = m := ⟨_, rfl⟩
        obtain ⟨lk, hlk⟩ : ∃ m, (O.keep.map (Value.int .i64)).length = m := ⟨_, rfl⟩
        unfold opCells at HP
        rw [hSN, hST, hlb, hlk] at HP
        rw [hlb, hlk] at HCELL
        rw [hSN, hST, hlb, hlk]
        clear hlb hlk ho4 hvb hvk hST4 hbx hcell hnT hnb hSN hST hb4 hs4 HSH e0 e1 e2 e3 e4 e5 e6 hOO
        go_wp2_with fail
        refine (HP.out _).mono ?_
        rintro e w6 ⟨rfl, T', g2, L2, hs6, hb6, hk6⟩
        have hc6 := (hk6.cell (b := w4.heap.size) (by simp) ⟨HNT.out, HNB.out⟩ 1).trans (HCELL.out _ _)
        have HS6 := Lib.hid hs6
        have HN6 := Lib.hid (step_nam O HN.out)
        have HB6 := Lib.hid ((HB4.out _).trans hb6)
        clear hs6 hb6 hk6 HP HB4 HCELL
        go_wp2_with fail
        have hcall := same_any w.heap.size w3.heap.size g2 T' L2 (stepD d O) O.name w6 HS6.out HN6.out z1
        rw [HSTR.out] at hcall
        refine hcall.mono ?_
        rintro e w7 ⟨rfl, hb7⟩
        have HS7 := Lib.hid (HS6.out.below hb7)
        have HB7 := Lib.hid (HB6.out.trans (hb7.mono HB6.out.size))
        clear hcall hb7 hc6 z1 z2 z3 z4
        go_wp2_with fail
        go_roundw
        case rel => exact ⟨k + 1, T', g2, L2, _, by omega, by go_num, HS7, HN6, HB7⟩
        case measure => simp [intOf]; omega
      · by_cases hlt : k < os.length
        · have t1 : decide ((k : Int) < (os.length : Int)) = true := by simp; omega
          have t2 : decide ((k : Int) < 60) = false := by rw [decide_eq_false_iff_not]; omega
          go_wp2_with fail
          go_ret
          exact ⟨rfl, HB.out⟩
        · have t1 : decide ((k : Int) < (os.length : Int)) = false := by simp; omega
          go_wp2_with fail
          go_ret
          exact ⟨rfl, HB.out⟩
end Go.Proofs.Ytlphleajgdibgaa.DK
