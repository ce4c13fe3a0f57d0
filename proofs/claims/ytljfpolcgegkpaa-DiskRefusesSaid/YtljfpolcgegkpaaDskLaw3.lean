/-
  The law DiskRefuses: a call that is refused changes nothing; no more than the quota is used. Condition: the ops are data.
-/
import Derived.Test.YtljfpolcgegkpaaDskLaw3M
import Derived.Test.YtljfpolcgegkpaaDskShort
import Derived.Test.YtljfpolcgegkpaaDskAwake
import Derived.Test.YtljfpolcgegkpaaReg
import Derived.Deep.DeepCutAuto
import Derived.Deep.CutBlock
set_option linter.unusedVariables false
set_option linter.unusedSimpArgs false
namespace Go.Proofs.Ytljfpolcgegkpaa.DK
open Go.RowKit Go.Proofs.Ytljfpolcgegkpaa.MM Go.Maps

theorem zeroOp (w : World) : (zeroValue 39).run Try.prog w = .ok (.agg #[.int .u8 0, .string ByteArray.empty, .string ByteArray.empty, .slice none 0 0, .int .i64 0, .int .i64 0, .slice none 0 0]) w := by kernel_rfl
theorem zeroRDisk (w : World) : (zeroValue 29).run Try.prog w = .ok (.agg #[.slice none 0 0, .int .i64 0, .int .i64 0, .bool false]) w := by kernel_rfl
/-- Both disks, made. -/
theorem sim_new {A g : Nat} {w1 w3 : World} {S : Nat → Prop} {mb : Nat} {V : List UInt8 → Value} {q : Int} (hco : CObj S w1 g mb V 0 (newD q)) (hS : ∀ k, S k → A ≤ k) (hb : Below w1.heap.size w1 w3) (hA : A ≤ w3.heap.size) (h0 : 0 ≤ q) (h1 : q ≤ 9223372036854775807) :
    Sim (fun _ => False) A S (w3.alloc (.cells #[.pointer (some ⟨g, 0, none⟩), .slice none 0 0, .int .i64 q, .int .i64 0, .bool false] 35)) w3.heap.size g (.slice none 0 0) (newD q) := by
  have hc3 := hco.below hb
  have hba : Below w3.heap.size w3 (w3.alloc (.cells #[.pointer (some ⟨g, 0, none⟩), .slice none 0 0, .int .i64 q, .int .i64 0, .bool false] 35)) := (Below.refl _ _).alloc (Nat.le_refl _) _
  exact ⟨⟨mb, V, 0, hc3.below hba⟩, heap_alloc_new _ _, FilesIn.nil_ _ _, fun h => by have := hc3.lt _ h; omega, hS, hA, new_fits q h0 h1⟩
theorem short_len (o : OpD) : (shortD o).name.length ≤ 70 ∧ (shortD o).to_.length ≤ 70 ∧ (shortD o).b.length ≤ 100 ∧ (shortD o).keep.length ≤ 10 := by
  unfold shortD
  simp only [List.length_take]
  omega
/-- Blocks of another's, made since: both disks lie beside them. -/
theorem Sim.beside {X T : Nat → Prop} {A gb g : Nat} {w w' : World} {L : Value} {d : DiskD} (h : Sim (fun _ => False) A T w gb g L d) (hb : Below w.heap.size w w') (hX : ∀ k, X k → w.heap.size ≤ k) : Sim X A T w' gb g L d := by
  have h2 := h.below hb
  refine ⟨h2.co, h2.bo, ?_, h2.gbS, h2.low, h2.gbA, h2.fits⟩
  exact ((h.fi.below hb).weak fun b hlt hx => by
    rcases hx with hx | hx | hx | hx
    · exact .inl hx
    · exact .inr (.inl hx)
    · exact .inr (.inr (.inl hx))
    · exact absurd (hX b hx) (by omega)).mono hb.size
/-- A call on another disk. -/
theorem Sim.other {X T : Nat → Prop} {A gb g : Nat} {w w' : World} {L : Value} {d : DiskD} (h : Sim X A T w gb g L d) (hk : Kep (fun k => ¬ X k) w w') (hT : ∀ k, T k → ¬ X k) (hg : ¬ X gb) : Sim X A T w' gb g L d := by
  obtain ⟨mb, V, c, hc⟩ := h.co
  exact ⟨⟨mb, V, c, hc.keepS hk hT⟩, h.bo.kep hk hg, (h.fi.kep hk (Nat.le_refl _) (fun b _ hn e => hn (.inr (.inr (.inr e))))).mono hk.size, h.gbS, h.low, h.gbA, h.fits⟩
theorem Sim.free_ {X T : Nat → Prop} {A gb g : Nat} {w : World} {L : Value} {d : DiskD} (h : Sim X A T w gb g L d) : Sim (fun _ => False) A T w gb g L d :=
  ⟨h.co, h.bo, h.fi.weak fun b _ hx => by
    rcases hx with hx | hx | hx | hx
    · exact .inl hx
    · exact .inr (.inl hx)
    · exact .inr (.inr (.inl hx))
    · exact hx.elim, h.gbS, h.low, h.gbA, h.fits⟩
/-- Behind a call on another disk. -/
theorem other_end {A gb g : Nat} {X T X' : Nat → Prop} {w wc W : World} {L : Value} {d : DiskD} (h : Sim X A T wc gb g L d) (hT : ∀ k, T k → ¬ X k) (hg : ¬ X gb) (hx : Ext X X' wc W) (hb : Below A w wc) (hX : ∀ k, X k → A ≤ k) (hA : A ≤ wc.heap.size) :
    Sim (fun _ => False) A T W gb g L d ∧ Below A w W :=
  ⟨(h.other hx.kep hT hg).free_, hb.trans (hx.kep.below hA (fun k hk q => by have := hX k q; omega))⟩

/-! ### the law -/
set_option maxRecDepth 100000 in
set_option maxHeartbeats 8000000 in
theorem refuses_walk (q : Nat) (v : Value) (os : List OpD) (w : World) (hq : q < 256) (h : OpsIn w.heap.size w v os) : Calls Try.prog 5 #[.int .u8 (q : Int), v] w fun e w' => e = .returned (.bool true) ∧ Below w.heap.size w w' := by
  obtain ⟨a, cap, rfl, hlc, hcm⟩ := h.shape
  unfold maxLen at hcm
  have HO := Lib.hid h
  clear h
  have hzr := zeroRDisk
  have hzo := zeroOp
  have hwq : IntKind.i64.wrap (q : Int) = (q : Int) := by rw [IntKind.wrap_i64]; omega
  have HC := Lib.hid (cnew_any (q : Int) w (by omega))
  go_enter Try.func5, Try.ntmps5
  go_wp2_with fail
  refine HC.out.mono ?_
  rintro e w1 ⟨S, g, mb, V, rfl, hco, hS, hb1⟩
  have HB1 := Lib.hid hb1
  have HCO := Lib.hid hco
  have HS := Lib.hid hS
  clear HC hb1 hco hS
  go_wp2_with fail
  refine (awake_any _).mono ?_
  rintro e w3 ⟨rfl, hb3⟩
  have HB3 := Lib.hid (HB1.out.trans (hb3.mono HB1.out.size))
  have hs3 := HB3.out.size
  have hsim := sim_new (A := w.heap.size) HCO.out HS.out hb3 hs3 (by omega) (by omega)
  have HSIM := Lib.hid hsim
  have HBB := Lib.hid (HB3.out.alloc hs3 (.cells #[.pointer (some ⟨g, 0, none⟩), .slice none 0 0, .int .i64 (q : Int), .int .i64 0, .bool false] 35))
  have HWN := Lib.hid (new_within (q : Int) (by omega))
  clear hb3 hsim HB1 HCO HS
  go_wp2_with fail
  clear hzr
  go_loopw [8] (fun iv wr => ∃ (k : Nat) (T : Nat → Prop) (g' : Nat) (L : Value) (d : DiskD), k ≤ os.length ∧ iv = .int .i64 k ∧ Hid (Sim (fun _ => False) w.heap.size T wr w3.heap.size g' L d) ∧ Hid (Within d) ∧ Hid (d.quota = (q : Int)) ∧ Hid (Below w.heap.size w wr)) (fun iv _ => os.length - (intOf iv).toNat)
  case atStart => exact ⟨0, S, g, _, _, Nat.zero_le _, rfl, HSIM, HWN, Lib.hid rfl, HBB⟩
  case round =>
    obtain ⟨k, T, g', L, d, hk, rfl, HT, HW, HQ, HB⟩ := hrel
    clear HSIM HWN HBB
    have hsz := HB.out.size
    by_cases hgo : k < os.length ∧ k < 50
    · obtain ⟨hlt, h60⟩ := hgo
      have t1 : decide ((k : Int) < (os.length : Int)) = true := by simp; omega
      have t2 : decide ((k : Int) < 50) = true := by rw [decide_eq_true_eq]; omega
      obtain ⟨o0, ho0⟩ : ∃ o, os[k]? = some o := ⟨os[k], List.getElem?_eq_getElem hlt⟩
      obtain ⟨b, off, rfl, hbl, hat⟩ := HO.out.at_ ho0
      obtain ⟨c0, c1, c2, c3, c4, c5, c6, hop, e0, e1, e2, e3, e4, e5, e6⟩ := hat.below HB.out hbl
      have HSH := Lib.hid (short_any w.heap.size _ o0 wr hop hsz)
      clear hat hop ho0
      go_wp2_with fail
      refine HSH.out.mono ?_
      rintro e w4 ⟨v4, rfl, ho4, hb4⟩
      obtain ⟨O, hOO⟩ : ∃ O, shortD o0 = O := ⟨_, rfl⟩
      obtain ⟨z1, z2, z3, z4⟩ := short_len o0
      rw [hOO] at ho4 z1 z2 z3 z4
      have hod := ho4.d
      have hoa := ho4.a1
      have HOV := Lib.hid ho4
      obtain ⟨vb, vk, rfl, hvb, hvk⟩ := id ho4.val
      obtain ⟨pb, cb, rfl, _, _⟩ := hvb.shape
      obtain ⟨pk, ck, rfl, _, _, _⟩ := id hvk
      obtain ⟨SN, hSN⟩ : ∃ s : ByteArray, (⟨O.name.toArray⟩ : ByteArray) = s := ⟨_, rfl⟩
      obtain ⟨ST, hST⟩ : ∃ s : ByteArray, (⟨O.to_.toArray⟩ : ByteArray) = s := ⟨_, rfl⟩
      have hs4 := hb4.size
      have hs5 := (HT.out.below hb4).bo.lt
      obtain ⟨lb, hlb⟩ : ∃ m, O.b.length = m := ⟨_, rfl⟩
      obtain ⟨lk, hlk⟩ : ∃ m, (O.keep.map (Value.int .i64)).length = m := ⟨_, rfl⟩
      unfold opCells at HOV ⊢
      rw [hSN, hST, hlb, hlk] at HOV ⊢
      obtain ⟨w5, hw5⟩ : ∃ W, w4.alloc (.cells #[.int .u8 (O.do_ : Int), .string SN, .string ST, .slice pb lb cb, .int .i64 O.a, .int .i64 O.n, .slice pk lk ck] 39) = W := ⟨_, rfl⟩
      have hbx : Below w4.heap.size w4 w5 := by rw [← hw5]; exact (Below.refl _ _).alloc (Nat.le_refl _) _
      have hkb : w5.heap[w4.heap.size]? = some (.cells #[.int .u8 (O.do_ : Int), .string SN, .string ST, .slice pb lb cb, .int .i64 O.a, .int .i64 O.n, .slice pk lk ck] 39 (0, 0)) := by rw [← hw5]; exact heap_alloc_new _ _
      have hbr5 : Below wr.heap.size wr w5 := hb4.trans (hbx.mono hs4)
      have HT5 := Lib.hid (HT.out.below hbr5)
      have HB5 := Lib.hid (HB.out.trans (hbr5.mono hsz))
      have HO5 := Lib.hid (OpIn.below HOV.out (hbx.mono (by omega)))
      have hnT : ¬ T w4.heap.size := fun q => by
        obtain ⟨_, _, _, hq⟩ := (HT.out.below hb4).co
        have := hq.lt _ q
        omega
      have hnb : w4.heap.size ≠ w3.heap.size := by omega
      have hsz5 : w4.heap.size < w5.heap.size := (Array.getElem?_eq_some_iff.1 hkb).1
      have HKB := Lib.hid hkb
      have HW5 := Lib.hid hw5
      have HNT := Lib.hid hnT
      have HSN := Lib.hid hSN
      have HST := Lib.hid hST
      have HVB := Lib.hid (hvb.below (hbx.mono (by omega)))
      have HLB := Lib.hid hlb
      have q50 := HT5.out.bo.b0
      have q4 : ∀ X, (w4.alloc X).cell? ⟨w3.heap.size, 0, none⟩ = some (.pointer (some ⟨g', 0, none⟩)) := fun X => (((Below.refl w4.heap.size w4).alloc (Nat.le_refl _) X).cell (p := ⟨w3.heap.size, 0, none⟩) hs5).trans (HT.out.below hb4).bo.b0
      obtain ⟨mm, hmm⟩ : ∃ m, O.do_ % 12 = m := ⟨_, rfl⟩
      have hml : mm < 12 := by omega
      have m1 : ((O.do_ : Int)).tmod 12 = (mm : Int) := by rw [Int.tmod_eq_emod_of_nonneg (by omega)]; omega
      have HMM := Lib.hid hmm
      clear ho4 hvb hvk hSN hST hlb hlk hw5 hbx hkb hbr5 HOV HSH hb4 e0 e1 e2 e3 e4 e5 e6 hOO hnT hmm
      by_cases h10 : mm = 10
      · subst h10
        have t10 : (((10 : Nat) : Int) == 10) = true := rfl
        go_wp2_with fail
        rw [HW5.out]
        go_roundw
        case rel => exact ⟨k + 1, T, g', L, d, by omega, by go_num, HT5, HW, HQ, HB5⟩
        case measure => simp [intOf]; omega
      · have t10 : ((mm : Int) == 10) = false := by rw [beq_eq_false_iff_ne]; omega
        go_wp2_with fail
        rw [HW5.out]
        obtain ⟨mb4, V4, c4, hco4⟩ := HT5.out.co
        have HCO5 := Lib.hid hco4
        clear hco4 q4
        refine (cfork_any T g' mb4 V4 c4 d w5 HCO5.out HT5.out.fits).mono ?_
        rintro e w6 ⟨S2, g2, mb2, V2, rfl, hco2, hS2, hb6⟩
        have HC2 := Lib.hid hco2
        have HS2 := Lib.hid hS2
        have HB6 := Lib.hid hb6
        have q60 := (hb6.cell (p := ⟨w3.heap.size, 0, none⟩) HT5.out.bo.lt).trans q50
        have HS6 := Lib.hid (HT5.out.beside hb6 hS2)
        have HC6 := Lib.hid (HCO5.out.below hb6)
        have k6 := (hb6.block w4.heap.size hsz5).trans HKB.out
        clear hco2 hS2 hb6 q50
        go_wp2_with fail
        refine (cstopped_any T g' mb4 V4 c4 d w6 HC6.out).mono ?_
        rintro e w6' ⟨rfl, hw6⟩
        subst hw6
        have HP := Lib.hid (step_any (X := S2) w.heap.size w3.heap.size g' T L d _ O w6 HS6.out (OpIn.below HO5.out (HB6.out.mono HB5.out.size)) (Nat.le_trans HB5.out.size HB6.out.size) z1 z2 z3 z4 HC2.out.lt)
        have HWD := Lib.hid (step_within O HT5.out.fits.good HW.out (by rw [HMM.out]; exact h10))
        have HK6 := Lib.hid k6
        clear k6
        go_upto_region 12 with fail
        go_cut [85] (fun tv wx => tv = .bool false ∧ ∃ (T7 : Nat → Prop) (g7 : Nat) (L7 : Value), Hid (Sim S2 w.heap.size T7 wx w3.heap.size g7 L7 (stepD d O)) ∧ Hid (Below w.heap.size w6 wx) ∧ Hid (Kep (fun k => ¬ T k ∧ k ≠ w3.heap.size) w6 wx) ∧ Hid (∀ k, T7 k → T k ∨ w6.heap.size ≤ k))
        case first =>
          have e0 : w6.cell? ⟨w4.heap.size, 0, none⟩ = some (.int .u8 (O.do_ : Int)) := by rw [cell_of_row _ _ 0 _ _ _ HK6.out]; rfl
          have e1 : w6.cell? ⟨w4.heap.size, 1, none⟩ = some (.string SN) := by rw [cell_of_row _ _ 1 _ _ _ HK6.out]; rfl
          have e2 : w6.cell? ⟨w4.heap.size, 2, none⟩ = some (.string ST) := by rw [cell_of_row _ _ 2 _ _ _ HK6.out]; rfl
          have e3 : w6.cell? ⟨w4.heap.size, 3, none⟩ = some (.slice pb lb cb) := by rw [cell_of_row _ _ 3 _ _ _ HK6.out]; rfl
          have e4 : w6.cell? ⟨w4.heap.size, 4, none⟩ = some (.int .i64 O.a) := by rw [cell_of_row _ _ 4 _ _ _ HK6.out]; rfl
          have e5 : w6.cell? ⟨w4.heap.size, 5, none⟩ = some (.int .i64 O.n) := by rw [cell_of_row _ _ 5 _ _ _ HK6.out]; rfl
          have e6 : w6.cell? ⟨w4.heap.size, 6, none⟩ = some (.slice pk lk ck) := by rw [cell_of_row _ _ 6 _ _ _ HK6.out]; rfl
          go_wp2_with fail
          refine HP.out.mono ?_
          rintro e w7 ⟨rfl, T7, g7, L7, hs7, hb7, hk7, hn7⟩
          have HS7 := Lib.hid hs7
          have HB7 := Lib.hid hb7
          have HK7 := Lib.hid hk7
          have HN7 := Lib.hid hn7
          clear hs7 hb7 hk7 hn7 HP e0 e1 e2 e3 e4 e5 e6
          have hex : (decide (0 < q) = false ∧ Hid (q = 0)) ∨ (decide (0 < q) = true ∧ Hid (0 < q)) := by
            by_cases q0 : q = 0
            · exact .inl ⟨by rw [decide_eq_false_iff_not]; omega, Lib.hid q0⟩
            · exact .inr ⟨by rw [decide_eq_true_eq]; omega, Lib.hid (by omega)⟩
          rcases hex with ⟨tq, HQ0⟩ | ⟨tq, HQ0⟩
          · go_wp2_with fail
            go_meet
            exact ⟨rfl, T7, g7, L7, HS7, HB7, HK7, HN7⟩
          · have q70 := HS7.out.bo.b0
            obtain ⟨mb7, V7, c7, hco7⟩ := HS7.out.co
            have HC7 := Lib.hid hco7
            obtain ⟨U, hU⟩ : ∃ U, usedL (stepD d O).L = U := ⟨_, rfl⟩
            have hle : U ≤ q := by
              have h1 := HWD.out.1
              have h2 := HWD.out.2
              have h3 := HQ0.out
              unfold Within at h1
              rw [h2, HQ.out, hU] at h1
              have := h1 (by omega)
              omega
            have tu : decide (q < U) = false := by rw [decide_eq_false_iff_not]; omega
            have tu2 : decide ((U : Int) > (q : Int)) = false := by rw [decide_eq_false_iff_not]; omega
            clear hle
            have HUS := Lib.hid (show Calls Try.prog _ #[.pointer (some ⟨g7, 0, none⟩)] w7 fun e w' => e = .returned (.int .i64 (U : Int)) ∧ Below w7.heap.size w7 w' from by
              have := cused_any T7 g7 mb7 V7 c7 (stepD d O) w7 hco7 HS7.out.fits HS7.out.fits.used
              rw [hU] at this
              exact this)
            clear hco7 hU
            go_wp2_with fail
            refine HUS.out.mono ?_
            rintro e w8 ⟨rfl, hb8⟩
            have HS8 := Lib.hid (HS7.out.below hb8)
            have HB8 := Lib.hid (HB7.out.trans (hb8.mono (Nat.le_trans (Nat.le_trans HB5.out.size HB6.out.size) HK7.out.size)))
            have HK8 := Lib.hid (HK7.out.trans (kep_below _ hb8))
            clear hb8
            go_wp2_with fail
            go_meet
            exact ⟨rfl, T7, g7, L7, HS8, HB8, HK8, HN7⟩
        case rest =>
          obtain ⟨rfl, T7, g7, L7, HS7, HB7, HK7, HN7⟩ := hcut
          have hT5 : ∀ k, T k → k < w5.heap.size := HCO5.out.lt
          have hgb5 := HT5.out.bo.lt
          have hST : ∀ k, S2 k → ¬ T k ∧ k ≠ w3.heap.size := fun k hk => ⟨fun q => by have := hT5 k q; have := HS2.out k hk; omega, fun q => by have := HS2.out k hk; omega⟩
          have HCC := Lib.hid (HC2.out.keepS HK7.out hST)
          have hkc := (HK7.out.block w4.heap.size (Nat.lt_of_lt_of_le hsz5 HB6.out.size) ⟨HNT.out, hnb⟩).trans HK6.out
          have HTS := Lib.hid (show ∀ k, T7 k → ¬ S2 k from fun k hk q => by
            rcases HN7.out k hk with h | h
            · exact (hST k q).1 h
            · have := HC2.out.lt k q; omega)
          have HGS := Lib.hid (show ¬ S2 w3.heap.size from fun q => (hST _ q).2 rfl)
          have HAS := Lib.hid (show ∀ k, S2 k → w.heap.size ≤ k from fun k hk => Nat.le_trans HB5.out.size (HS2.out k hk))
          have HAW := Lib.hid (show w.heap.size ≤ wc.heap.size from Nat.le_trans (Nat.le_trans HB5.out.size HB6.out.size) HK7.out.size)
          have HBC := Lib.hid (show Below w.heap.size w wc from (HB5.out.trans (HB6.out.mono HB5.out.size)).trans HB7.out)
          have HSC := Lib.hid (show Sim (fun _ => False) w.heap.size T7 wc w3.heap.size g7 L7 (stepD d O) from HS7.out.free_)
          have e0 : wc.cell? ⟨w4.heap.size, 0, none⟩ = some (.int .u8 (O.do_ : Int)) := by rw [cell_of_row _ _ 0 _ _ _ hkc]; rfl
          have e1 : wc.cell? ⟨w4.heap.size, 1, none⟩ = some (.string SN) := by rw [cell_of_row _ _ 1 _ _ _ hkc]; rfl
          have e2 : wc.cell? ⟨w4.heap.size, 2, none⟩ = some (.string ST) := by rw [cell_of_row _ _ 2 _ _ _ hkc]; rfl
          have e3 : wc.cell? ⟨w4.heap.size, 3, none⟩ = some (.slice pb lb cb) := by rw [cell_of_row _ _ 3 _ _ _ hkc]; rfl
          have HBR := Lib.hid (show BIn w.heap.size wc (.slice pb lb cb) O.b from by
            have := HVB.out
            rw [HLB.out] at this
            exact (this.below (HB6.out.mono HB5.out.size)).below HB7.out)
          have hF := HT5.out.fits
          have HF := Lib.hid hF
          clear hT5 hgb5 hST hkc hF HP
          go_upto_block 2 with fail
          go_cut [12] (fun fv wx => ∃ (f : Int) (S5 : Nat → Prop) (mb5 : Nat) (V5 : List UInt8 → Value) (c5 : Int), fv = .int .i64 f ∧ Hid (f ≠ 0 → CObj S5 wx g2 mb5 V5 c5 (stepD d O)) ∧ Hid (f ≠ 0 → f ≠ 63 → stepD d O = d) ∧ Hid (Sim (fun _ => False) w.heap.size T7 wx w3.heap.size g7 L7 (stepD d O)) ∧ Hid (Below w.heap.size w wx))
          case first =>
            have hul := HF.out.used
            by_cases h4 : mm = 4
            · have HR : Hid (stepR d O = syncD d O.name) := Lib.hid (by unfold stepR; rw [if_pos (HMM.out.trans h4)])
              have HCALL := Lib.hid (csync_any S2 g2 mb2 V2 c4 d O.name wc HCC.out HF.out (by omega))
              rw [HSN.out] at HCALL
              subst h4
              go_wp2_with fail
              refine HCALL.out.mono ?_
              rintro e W ⟨rfl, S5, V5, c5, hco5, hx5⟩
              obtain ⟨x1, x2⟩ := other_end HS7.out HTS.out HGS.out hx5 HBC.out HAS.out HAW.out
              have HX1 := Lib.hid x1
              have HX2 := Lib.hid x2
              have HX3 : Hid (CObj S5 W g2 mb2 V5 c5 (stepD d O)) := Lib.hid (by unfold stepD; rw [HR.out]; exact hco5)
              have HX4 : Hid ((syncD d O.name).2 ≠ 0 → (syncD d O.name).2 ≠ 63 → stepD d O = d) := Lib.hid (by unfold stepD; rw [HR.out]; exact on_err _ _ _)
              clear x1 x2 hco5 hx5
              go_wp2_with fail
              go_meet
              exact ⟨_, S5, mb2, V5, c5, rfl, Lib.hid (fun _ => HX3.out), HX4, HX1, HX2⟩
            by_cases h5 : mm = 5
            · have HR : Hid (stepR d O = renameD d O.name O.to_) := Lib.hid (by unfold stepR; rw [if_neg (by rw [HMM.out]; omega)]; rw [if_pos (HMM.out.trans h5)])
              have HCALL := Lib.hid (crename_any S2 g2 mb2 V2 c4 d O.name O.to_ wc HCC.out HF.out (by omega) (by omega))
              rw [HSN.out, HST.out] at HCALL
              subst h5
              go_wp2_with fail
              refine HCALL.out.mono ?_
              rintro e W ⟨rfl, S5, V5, c5, hco5, hx5⟩
              obtain ⟨x1, x2⟩ := other_end HS7.out HTS.out HGS.out hx5 HBC.out HAS.out HAW.out
              have HX1 := Lib.hid x1
              have HX2 := Lib.hid x2
              have HX3 : Hid (CObj S5 W g2 mb2 V5 c5 (stepD d O)) := Lib.hid (by unfold stepD; rw [HR.out]; exact hco5)
              have HX4 : Hid ((renameD d O.name O.to_).2 ≠ 0 → (renameD d O.name O.to_).2 ≠ 63 → stepD d O = d) := Lib.hid (by unfold stepD; rw [HR.out]; exact on_err _ _ _)
              clear x1 x2 hco5 hx5
              go_wp2_with fail
              go_meet
              exact ⟨_, S5, mb2, V5, c5, rfl, Lib.hid (fun _ => HX3.out), HX4, HX1, HX2⟩
            by_cases h6 : mm = 6
            · have HR : Hid (stepR d O = removeD d O.name) := Lib.hid (by unfold stepR; rw [if_neg (by rw [HMM.out]; omega)]; rw [if_neg (by rw [HMM.out]; omega)]; rw [if_pos (HMM.out.trans h6)])
              have HCALL := Lib.hid (cremove_any S2 g2 mb2 V2 c4 d O.name wc HCC.out HF.out (by omega))
              rw [HSN.out] at HCALL
              subst h6
              go_wp2_with fail
              refine HCALL.out.mono ?_
              rintro e W ⟨rfl, S5, V5, c5, hco5, hx5⟩
              obtain ⟨x1, x2⟩ := other_end HS7.out HTS.out HGS.out hx5 HBC.out HAS.out HAW.out
              have HX1 := Lib.hid x1
              have HX2 := Lib.hid x2
              have HX3 : Hid (CObj S5 W g2 mb2 V5 c5 (stepD d O)) := Lib.hid (by unfold stepD; rw [HR.out]; exact hco5)
              have HX4 : Hid ((removeD d O.name).2 ≠ 0 → (removeD d O.name).2 ≠ 63 → stepD d O = d) := Lib.hid (by unfold stepD; rw [HR.out]; exact on_err _ _ _)
              clear x1 x2 hco5 hx5
              go_wp2_with fail
              go_meet
              exact ⟨_, S5, mb2, V5, c5, rfl, Lib.hid (fun _ => HX3.out), HX4, HX1, HX2⟩
            by_cases h3 : mm < 4
            · have HR : Hid (stepR d O = appendD d O.name O.b) := Lib.hid (by unfold stepR; rw [if_neg (by rw [HMM.out]; omega)]; rw [if_neg (by rw [HMM.out]; omega)]; rw [if_neg (by rw [HMM.out]; omega)]; rw [if_neg (by rw [HMM.out]; omega)]; rw [if_neg (by rw [HMM.out]; omega)]; rw [if_neg (by rw [HMM.out]; omega)]; rw [if_neg (by rw [HMM.out]; omega)]; rw [if_neg (by rw [HMM.out]; omega)])
              have HCALL := Lib.hid (cappend_any S2 g2 mb2 V2 c4 d O.name (.slice pb lb cb) O.b wc HCC.out HF.out hul (by omega) (HBR.out.row HAW.out) (by omega))
              rw [HSN.out] at HCALL
              have h03 : mm = 0 ∨ mm = 1 ∨ mm = 2 ∨ mm = 3 := by omega
              clear h3 h4 h5 h6
              rcases h03 with h | h | h | h
              all_goals (
                subst h
                go_wp2_with fail
                refine HCALL.out.mono ?_
                rintro e W ⟨rfl, S5, V5, c5, hco5, hx5⟩
                obtain ⟨x1, x2⟩ := other_end HS7.out HTS.out HGS.out hx5 HBC.out HAS.out HAW.out
                have HX1 := Lib.hid x1
                have HX2 := Lib.hid x2
                have HX3 : Hid (CObj S5 W g2 mb2 V5 c5 (stepD d O)) := Lib.hid (by unfold stepD; rw [HR.out]; exact hco5)
                have HX4 : Hid ((appendD d O.name O.b).2 ≠ 0 → (appendD d O.name O.b).2 ≠ 63 → stepD d O = d) := Lib.hid (by unfold stepD; rw [HR.out]; exact append_err _ _)
                clear x1 x2 hco5 hx5
                go_wp2_with fail
                go_meet
                exact ⟨_, S5, mb2, V5, c5, rfl, Lib.hid (fun _ => HX3.out), HX4, HX1, HX2⟩)
            · have h7 : mm = 7 ∨ mm = 8 ∨ mm = 9 ∨ mm = 11 := by omega
              clear h3 h4 h5 h6
              rcases h7 with h | h | h | h
              all_goals (
                subst h
                go_wp2_with fail
                go_meet
                exact ⟨0, S2, mb2, V2, c4, rfl, Lib.hid (fun h => absurd rfl h), Lib.hid (fun h => absurd rfl h), HSC, HBC⟩)
          case rest =>
            obtain ⟨f, S5, mb5, V5, c5, rfl, HX3, HX4, HX1, HX2⟩ := hcut
            have hsx := HX2.out.size
            have HSB := Lib.hid (fun W (hW : Below wc.heap.size wc W) => HX1.out.below hW)
            have HWN := Lib.hid HWD.out.1
            have HQN : Hid ((stepD d O).quota = (q : Int)) := Lib.hid (HWD.out.2.trans HQ.out)
            have g00 := HX1.out.bo.b0
            clear e0 e1 e2 e3
            by_cases hf0 : f = 0
            · subst hf0
              go_wp2_with fail
              refine RG.begin_ [(0, true), (1, true), (2, true), (3, true), (5, true), (6, true), (7, true), (8, true), (4, false), (9, false), (10, true), (11, true), (12, true), (13, true), (14, true), (15, true), (16, true), (17, true), (18, true), (20, true), (19, false), (21, true), (22, true), (23, true), (24, true)] (by kernel_rfl) (by kernel_rfl) rfl (by kernel_rfl) (fun _ _ d _ _ h => by cases d <;> exact h) ?_
              simp only [RG.ordered, List.map_cons, List.map_nil, List.getElem?_toArray, List.getElem?_cons_succ, List.getElem?_cons_zero]
              obtain ⟨wd, hwd⟩ : ∃ wd, wc.drew = wd := ⟨_, rfl⟩
              have HBD : Hid (Below wc.heap.size wc wd) := Lib.hid (by rw [← hwd]; exact (Below.refl _ _).drew)
              rw [hwd]
              clear hwd g00
              repeat ((first | (refine RG.take (by rfl) (by intro W hW; go_simp; with_reducible rfl) ?_) | (refine RG.skip (by rfl) ?_) | (refine RG.alone_skip (by rfl) ?_)); simp only [Act.put, List.setIfInBounds_toArray, List.set_cons_zero, List.set_cons_succ])
              refine RG.done ?_
              have HSE := Lib.hid (HSB.out _ HBD.out)
              have HBE := Lib.hid (HX2.out.trans (HBD.out.mono hsx))
              go_wp2_with fail
              go_roundw
              case rel =>
                exact ⟨k + 1, T7, g7, L7, stepD d O, by omega, by go_num, HSE, HWN, HQN, HBE⟩
              case measure => simp [intOf]; omega
            · have HC5 := Lib.hid (HX3.out hf0)
              have nf0 : (f != 0) = true := by simp [hf0]
              obtain ⟨mb7, V7, c7, hco7⟩ := HX1.out.co
              have HC7 := Lib.hid hco7
              have hfit := HX1.out.fits
              obtain ⟨U, hU⟩ : ∃ U, usedL (stepD d O).L = U := ⟨_, rfl⟩
              have HU1 := Lib.hid (show ∀ W, Below wc.heap.size wc W → Calls Try.prog 21 #[.pointer (some ⟨g2, 0, none⟩)] W fun e w' => e = .returned (.int .i64 (U : Int)) ∧ Below W.heap.size W w' from fun W hW => by
                have := cused_any S5 g2 mb5 V5 c5 (stepD d O) W (HC5.out.below hW) hfit hfit.used
                rw [hU] at this
                exact this)
              have HU2 := Lib.hid (show ∀ W, Below wc.heap.size wc W → Calls Try.prog 21 #[.pointer (some ⟨g7, 0, none⟩)] W fun e w' => e = .returned (.int .i64 (U : Int)) ∧ Below W.heap.size W w' from fun W hW => by
                have := cused_any T7 g7 mb7 V7 c7 (stepD d O) W (HC7.out.below hW) hfit hfit.used
                rw [hU] at this
                exact this)
              clear hU hco7 hfit
              obtain ⟨stp, hstp⟩ : ∃ x, d.stopped = x := ⟨_, rfl⟩
              rw [hstp]
              have HSTP := Lib.hid hstp
              clear hstp
              by_cases hf1 : f = 63
              · subst hf1
                go_wp2_with fail
                refine RG.begin_ [(0, true), (1, true), (2, true), (3, true), (5, true), (6, true), (7, true), (8, true), (4, false), (9, false), (10, true), (11, true), (12, true), (13, true), (14, true), (15, true), (16, true), (17, true), (18, true), (20, true), (19, false), (21, true), (22, true), (23, true), (24, true)] (by kernel_rfl) (by kernel_rfl) rfl (by kernel_rfl) (fun _ _ d _ _ h => by cases d <;> exact h) ?_
                simp only [RG.ordered, List.map_cons, List.map_nil, List.getElem?_toArray, List.getElem?_cons_succ, List.getElem?_cons_zero]
                obtain ⟨wd, hwd⟩ : ∃ wd, wc.drew = wd := ⟨_, rfl⟩
                have HBD : Hid (Below wc.heap.size wc wd) := Lib.hid (by rw [← hwd]; exact (Below.refl _ _).drew)
                rw [hwd]
                clear hwd g00
                have g0 := fun W (hW : RG.Grew wd W) => (HSB.out W (HBD.out.trans (hW.mono HBD.out.size))).bo.b0
                repeat ((first | (refine RG.take (by rfl) (by intro W hW; go_simp; with_reducible rfl) ?_) | (refine RG.skip (by rfl) ?_) | (refine RG.alone_skip (by rfl) ?_)); simp only [Act.put, List.setIfInBounds_toArray, List.set_cons_zero, List.set_cons_succ])
                refine RG.alone (by rfl) (fun K hK => ?_)
                go_simp
                refine (HU1.out wd HBD.out).mono ?_
                rintro e w8 ⟨rfl, hb8⟩
                go_simp
                refine hK.out _ _ hb8 ?_
                clear hK K g0
                have HB8 := Lib.hid (HBD.out.trans (hb8.mono HBD.out.size))
                repeat ((first | (refine RG.take (by rfl) (by intro W hW; go_simp; with_reducible rfl) ?_) | (refine RG.skip (by rfl) ?_) | (refine RG.alone_skip (by rfl) ?_)); simp only [Act.put, List.setIfInBounds_toArray, List.set_cons_zero, List.set_cons_succ])
                refine RG.alone (by rfl) (fun K hK => ?_)
                go_simp
                refine (HU2.out w8 HB8.out).mono ?_
                rintro e w9 ⟨rfl, hb9⟩
                go_simp
                refine hK.out _ _ hb9 ?_
                clear hK K
                have HB9 := Lib.hid (HB8.out.trans (hb9.mono HB8.out.size))
                have g1 := fun W (hW : RG.Grew w9 W) => (HSB.out W (HB9.out.trans (hW.mono HB9.out.size))).bo.b0
                repeat ((first | (refine RG.take (by rfl) (by intro W hW; go_simp; with_reducible rfl) ?_) | (refine RG.skip (by rfl) ?_) | (refine RG.alone_skip (by rfl) ?_)); simp only [Act.put, List.setIfInBounds_toArray, List.set_cons_zero, List.set_cons_succ])
                clear g1
                refine RG.done ?_
                have HSE := Lib.hid (HSB.out _ HB9.out)
                have HBE := Lib.hid (HX2.out.trans (HB9.out.mono hsx))
                go_wp2_with fail
                go_roundw
                case rel =>
                  exact ⟨k + 1, T7, g7, L7, stepD d O, by omega, by go_num, HSE, HWN, HQN, HBE⟩
                case measure => simp [intOf]; omega
              · have nf1 : (f != 63) = true := by simp [hf1]
                have HST := Lib.hid (show ∀ W, Below wc.heap.size wc W → Calls Try.prog 20 #[.pointer (some ⟨g7, 0, none⟩)] W fun e w' => e = .returned (.bool stp) ∧ W = w' from fun W hW => by
                  have := cstopped_any T7 g7 mb7 V7 c7 (stepD d O) W (HC7.out.below hW)
                  rw [HX4.out hf0 hf1, HSTP.out] at this
                  exact this)
                clear hf0 hf1
                go_wp2_with fail
                refine RG.begin_ [(0, true), (1, true), (2, true), (3, true), (5, true), (6, true), (7, true), (8, true), (4, false), (9, false), (10, true), (11, true), (12, true), (13, true), (14, true), (15, true), (16, true), (17, true), (18, true), (20, true), (19, false), (21, true), (22, true), (23, true), (24, true)] (by kernel_rfl) (by kernel_rfl) rfl (by kernel_rfl) (fun _ _ d _ _ h => by cases d <;> exact h) ?_
                simp only [RG.ordered, List.map_cons, List.map_nil, List.getElem?_toArray, List.getElem?_cons_succ, List.getElem?_cons_zero]
                obtain ⟨wd, hwd⟩ : ∃ wd, wc.drew = wd := ⟨_, rfl⟩
                have HBD : Hid (Below wc.heap.size wc wd) := Lib.hid (by rw [← hwd]; exact (Below.refl _ _).drew)
                rw [hwd]
                clear hwd g00
                have g0 := fun W (hW : RG.Grew wd W) => (HSB.out W (HBD.out.trans (hW.mono HBD.out.size))).bo.b0
                repeat ((first | (refine RG.take (by rfl) (by intro W hW; go_simp; with_reducible rfl) ?_) | (refine RG.skip (by rfl) ?_) | (refine RG.alone_skip (by rfl) ?_)); simp only [Act.put, List.setIfInBounds_toArray, List.set_cons_zero, List.set_cons_succ])
                refine RG.alone (by rfl) (fun K hK => ?_)
                go_simp
                refine (HU1.out wd HBD.out).mono ?_
                rintro e w8 ⟨rfl, hb8⟩
                go_simp
                refine hK.out _ _ hb8 ?_
                clear hK K g0
                have HB8 := Lib.hid (HBD.out.trans (hb8.mono HBD.out.size))
                repeat ((first | (refine RG.take (by rfl) (by intro W hW; go_simp; with_reducible rfl) ?_) | (refine RG.skip (by rfl) ?_) | (refine RG.alone_skip (by rfl) ?_)); simp only [Act.put, List.setIfInBounds_toArray, List.set_cons_zero, List.set_cons_succ])
                refine RG.alone (by rfl) (fun K hK => ?_)
                go_simp
                refine (HU2.out w8 HB8.out).mono ?_
                rintro e w9 ⟨rfl, hb9⟩
                go_simp
                refine hK.out _ _ hb9 ?_
                clear hK K
                have HB9 := Lib.hid (HB8.out.trans (hb9.mono HB8.out.size))
                have g1 := fun W (hW : RG.Grew w9 W) => (HSB.out W (HB9.out.trans (hW.mono HB9.out.size))).bo.b0
                repeat ((first | (refine RG.take (by rfl) (by intro W hW; go_simp; with_reducible rfl) ?_) | (refine RG.skip (by rfl) ?_) | (refine RG.alone_skip (by rfl) ?_)); simp only [Act.put, List.setIfInBounds_toArray, List.set_cons_zero, List.set_cons_succ])
                refine RG.alone (by rfl) (fun K hK => ?_)
                go_simp
                refine (HST.out w9 HB9.out).mono ?_
                rintro e w10 ⟨rfl, hw10⟩
                subst hw10
                go_simp
                refine hK.out _ _ (Below.refl _ _) ?_
                clear hK K
                repeat ((first | (refine RG.take (by rfl) (by intro W hW; go_simp; with_reducible rfl) ?_) | (refine RG.skip (by rfl) ?_) | (refine RG.alone_skip (by rfl) ?_)); simp only [Act.put, List.setIfInBounds_toArray, List.set_cons_zero, List.set_cons_succ])
                clear g1
                refine RG.done ?_
                have HSE := Lib.hid (HSB.out _ HB9.out)
                have HBE := Lib.hid (HX2.out.trans (HB9.out.mono hsx))
                go_wp2_with fail
                go_roundw
                case rel =>
                  exact ⟨k + 1, T7, g7, L7, stepD d O, by omega, by go_num, HSE, HWN, HQN, HBE⟩
                case measure => simp [intOf]; omega
    · by_cases hlt : k < os.length
      · have t1 : decide ((k : Int) < (os.length : Int)) = true := by simp; omega
        have t2 : decide ((k : Int) < 50) = false := by rw [decide_eq_false_iff_not]; omega
        go_wp2_with fail
        go_ret
        exact ⟨rfl, HB.out⟩
      · have t1 : decide ((k : Int) < (os.length : Int)) = false := by simp; omega
        go_wp2_with fail
        go_ret
        exact ⟨rfl, HB.out⟩
end Go.Proofs.Ytljfpolcgegkpaa.DK
