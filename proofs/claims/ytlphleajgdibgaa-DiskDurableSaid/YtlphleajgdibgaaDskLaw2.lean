/-
  The law DiskDurable: what a restart leaves. Condition: what comes in is data.
-/
import Derived.Test.YtlphleajgdibgaaDskSteps
import Derived.Test.YtlphleajgdibgaaDskShort
import Derived.Test.YtlphleajgdibgaaDskAwake
import Derived.Test.YtlphleajgdibgaaReg
import Derived.Test.YtlphleajgdibgaaDskReadO
set_option linter.unusedVariables false
set_option linter.unusedSimpArgs false
namespace Go.Proofs.Ytlphleajgdibgaa.DK
open Go.RowKit Go.Proofs.Ytlphleajgdibgaa.MM Go.Maps


/-! ### both disks, made -/
theorem zeroRDisk (w : World) : (zeroValue 29).run Try.prog w = .ok (.agg #[.slice none 0 0, .int .i64 0, .int .i64 0, .bool false]) w := by kernel_rfl
/-- Both disks, made. -/
theorem sim_new {A g : Nat} {w1 w3 : World} {S : Nat → Prop} {mb : Nat} {V : List UInt8 → Value} {q : Int} (hco : CObj S w1 g mb V 0 (newD q)) (hS : ∀ k, S k → A ≤ k) (hb : Below w1.heap.size w1 w3) (hA : A ≤ w3.heap.size) (h0 : 0 ≤ q) (h1 : q ≤ 9223372036854775807) :
    Sim A S (w3.alloc (.cells #[.pointer (some ⟨g, 0, none⟩), .slice none 0 0, .int .i64 q, .int .i64 0, .bool false] 35)) w3.heap.size g (.slice none 0 0) (newD q) := by
  have hc3 := hco.below hb
  have hba : Below w3.heap.size w3 (w3.alloc (.cells #[.pointer (some ⟨g, 0, none⟩), .slice none 0 0, .int .i64 q, .int .i64 0, .bool false] 35)) := (Below.refl _ _).alloc (Nat.le_refl _) _
  exact ⟨⟨mb, V, 0, hc3.below hba⟩, heap_alloc_new _ _, FilesIn.nil_ _ _, fun h => by have := hc3.lt _ h; omega, hS, hA, new_fits q h0 h1⟩
theorem new_nam (q : Int) : Nam (newD q) := fun f hf => (List.not_mem_nil hf).elim
theorem short_len (o : OpD) : (shortD o).name.length ≤ 70 ∧ (shortD o).to_.length ≤ 70 ∧ (shortD o).b.length ≤ 100 ∧ (shortD o).keep.length ≤ 10 := by
  unfold shortD
  simp only [List.length_take]
  omega

/-! ### the law -/
theorem BothAt.up {w w' : World} {gb g : Nat} {L : Value} {d : DiskD} (h : BothAt w gb g L d) (hb : Below w.heap.size w w') : BothAt w' gb g L d := (hb.block gb h.lt).trans h
theorem ints_all {zs : List Int} (h : ∀ k, k < zs.length → -9223372036854775808 ≤ zs.getD k 0 ∧ zs.getD k 0 ≤ 9223372036854775807) : ∀ x ∈ zs, -9223372036854775808 ≤ x ∧ x ≤ 9223372036854775807 := by
  intro x hx
  obtain ⟨i, hi, rfl⟩ := List.mem_iff_getElem.1 hx
  have := h i hi
  simpa [List.getD, hi] using this
theorem begins_any (X Y : ByteArray) (w : World) (h1 : Y.size ≤ X.size) (h2 : X.extract 0 Y.size = Y) (hm : X.size ≤ 1000000000000) : Calls Try.prog 16 #[.string X, .string Y] w fun e w' => e = .returned (.bool true) ∧ w = w' := by
  obtain ⟨a, ha⟩ : ∃ a, X.size = a := ⟨_, rfl⟩
  obtain ⟨b, hb⟩ : ∃ b, Y.size = b := ⟨_, rfl⟩
  rw [hb] at h2
  have t1 : decide ((a : Int) ≥ (b : Int)) = true := by rw [decide_eq_true_eq]; omega
  have t2 : (b : Int) ≤ (a : Int) := by omega
  have t3 : b ≤ a := by omega
  go_enter Try.func16, Try.ntmps16
  go_wp2_with fail
  go_ret
  simp
/-- Each file behind a restart. -/
theorem restart_file {d : DiskD} (h : Good d) (ks : List Int) {i : Nat} {f : FileD} (hf : d.L[i]? = some f) : ∃ m, f.sure ≤ m ∧ m ≤ f.b.length ∧ (⟨f.name, f.b.take m, m⟩ : FileD) ∈ (restartD d ks).L := by
  obtain ⟨m, h1, h2, h3⟩ := restartF_is f ks[i]? (h.sure f (List.mem_of_getElem? hf))
  refine ⟨m, h1, h2, ?_⟩
  have := restartL_at d.L ks i
  rw [hf] at this
  rw [← h3]
  exact List.mem_of_getElem? this
theorem OwnB.high {B : Nat} {w : World} {v : Value} {l : List UInt8} (h : OwnB B w v l) {k : Nat} (hk : v.ownBlock = some k) : B ≤ k := by
  rcases h.2 with ⟨rfl, _⟩ | ⟨b, cap, cur, rfl, hg, _⟩
  · cases hk
  · obtain rfl : b = k := Option.some.inj hk
    exact hg

/-- A row of numbers that a restart may be given. -/
def KOK (w : World) (v : Value) (ks : List Int) : Prop := IRow w v ks ∧ (∀ k ∈ ks, -9223372036854775808 ≤ k ∧ k ≤ 9223372036854775807) ∧ ks.length ≤ 20
theorem kok_cut1 {w : World} {p : Option Addr} {c : Nat} {ks : List Int} (h : IRow w (.slice p ks.length c) ks) (hr : ∀ k ∈ ks, -9223372036854775808 ≤ k ∧ k ≤ 9223372036854775807) (q : 20 < ks.length) :
    ∃ (js : List Int), KOK w (.slice p 20 c) js ∧ (decide ((ks.length : Int) > 20) = true ∧ (20 : Int) ≤ (ks.length : Int) ∧ 20 ≤ ks.length) :=
  ⟨ks.take 20, ⟨h.take 20 (by omega), fun k hk => hr k (List.mem_of_mem_take hk), by rw [List.length_take]; omega⟩, by rw [decide_eq_true_eq]; omega, by omega, by omega⟩
theorem kok_cut2 {w : World} {p : Option Addr} {c : Nat} {ks : List Int} (h : IRow w (.slice p ks.length c) ks) (hr : ∀ k ∈ ks, -9223372036854775808 ≤ k ∧ k ≤ 9223372036854775807) (q : ¬ 20 < ks.length) :
    ∃ (js : List Int), KOK w (.slice p ks.length c) js ∧ (decide ((ks.length : Int) > 20) = false ∧ (0 : Int) ≤ (ks.length : Int) ∧ 0 ≤ ks.length) :=
  ⟨ks, ⟨h, hr, by omega⟩, by rw [decide_eq_false_iff_not]; omega, by omega, by omega⟩
set_option maxRecDepth 100000 in
set_option maxHeartbeats 8000000 in
theorem durable_walk_11 (v vk va : Value) (os : List OpD) (ks js : List Int) (w : World) (h : OpsIn w.heap.size w v os) (hk : IRow w vk ks) (hkr : ∀ k ∈ ks, -9223372036854775808 ≤ k ∧ k ≤ 9223372036854775807) (ha : IRow w va js) (har : ∀ k ∈ js, -9223372036854775808 ≤ k ∧ k ≤ 9223372036854775807) (hc1 : 20 < ks.length) (hc2 : 20 < js.length) :
    Calls Try.prog 4 #[v, vk, va] w fun e w' => e = .returned (.bool true) ∧ Below w.heap.size w w' := by
  obtain ⟨a, cap, rfl, hlc, hcm⟩ := h.shape
  obtain ⟨pk, ck, rfl, hkc, hkm⟩ := hk.shape
  obtain ⟨pa, ca, rfl, hac, ham⟩ := ha.shape
  unfold maxLen at hcm hkm ham
  obtain ⟨ks1, hk1, hkw⟩ := kok_cut1 hk hkr hc1
  obtain ⟨js1, ha1, haw⟩ := kok_cut1 ha har hc2
  have HK1 := Lib.hid hk1
  have HA1 := Lib.hid ha1
  have HKW := Lib.hid hkw
  have HAW := Lib.hid haw
  have HO := Lib.hid h
  obtain ⟨lk, hlk⟩ : ∃ m, ks.length = m := ⟨_, rfl⟩
  obtain ⟨la, hla⟩ : ∃ m, js.length = m := ⟨_, rfl⟩
  rw [hlk] at HKW hkc ⊢
  rw [hla] at HAW hac ⊢
  clear h hk ha hkr har hk1 ha1 hkw haw hlk hla hc1 hc2
  have hzr := zeroRDisk
  have HC := Lib.hid (cnew_any 0 w (by omega))
  go_enter Try.func4, Try.ntmps4
  go_wp2_with fail
  refine HC.out.mono ?_
  rintro e w1 ⟨S, g, mb, V, rfl, hco, hS, hb1⟩
  have HB1 := Lib.hid hb1
  have HCO := Lib.hid hco
  have HS := Lib.hid hS
  clear HC hb1 hco hS
  go_wp2_with fail
  refine (awake_any _).mono ?_
  rintro e w3 ⟨rfl, hb3⟩
  have HB3 := Lib.hid (HB1.out.trans (hb3.mono HB1.out.size))
  have hs3 := HB3.out.size
  have hsim := sim_new (A := w.heap.size) HCO.out HS.out hb3 hs3 (by omega) (by omega)
  have HSIM := Lib.hid hsim
  have HBB := Lib.hid (HB3.out.alloc hs3 (.cells #[.pointer (some ⟨g, 0, none⟩), .slice none 0 0, .int .i64 0, .int .i64 0, .bool false] 35))
  have HNM := Lib.hid (new_nam 0)
  clear hb3 hsim HB1 HCO HS
  go_wp2_with fail
  clear hzr
  go_loopw [10] (fun iv wr => ∃ (k : Nat) (T : Nat → Prop) (g' : Nat) (L : Value) (d : DiskD), k ≤ os.length ∧ iv = .int .i64 k ∧ Hid (Sim w.heap.size T wr w3.heap.size g' L d) ∧ Hid (Nam d) ∧ Hid (Below w.heap.size w wr)) (fun iv _ => os.length - (intOf iv).toNat)
  case atStart => exact ⟨0, S, g, _, _, Nat.zero_le _, rfl, HSIM, HNM, HBB⟩
  case round =>
    obtain ⟨k, T, g', L, d, hk, rfl, HT, HN, HB⟩ := hrel
    clear HSIM HNM HBB
    have hsz := HB.out.size
    by_cases hgo : k < os.length ∧ k < 40
    · obtain ⟨hlt, h60⟩ := hgo
      have t1 : decide ((k : Int) < (os.length : Int)) = true := by simp; omega
      have t2 : decide ((k : Int) < 40) = true := by rw [decide_eq_true_eq]; omega
      obtain ⟨o0, ho0⟩ : ∃ o, os[k]? = some o := ⟨os[k], List.getElem?_eq_getElem hlt⟩
      obtain ⟨b, off, rfl, hbl, hat⟩ := HO.out.at_ ho0
      obtain ⟨c0, c1, c2, c3, c4, c5, c6, hop, e0, e1, e2, e3, e4, e5, e6⟩ := hat.below HB.out hbl
      have HSH := Lib.hid (short_any w.heap.size _ o0 wr hop hsz)
      clear hat hop ho0
      go_wp2_with fail
      refine HSH.out.mono ?_
      rintro e w4 ⟨v4, rfl, ho4, hb4⟩
      obtain ⟨O, hOO⟩ : ∃ O, shortD o0 = O := ⟨_, rfl⟩
      obtain ⟨z1, z2, z3, z4⟩ := short_len o0
      rw [hOO] at ho4 z1 z2 z3 z4
      have hs4 := hb4.size
      have HP := Lib.hid (step_any w.heap.size w3.heap.size g' T L d v4 O w4 (HT.out.below hb4) ho4 (by omega) z1 z2 z3 z4)
      have HB4 := Lib.hid (HB.out.trans (hb4.mono hsz))
      clear ho4 hb4 hs4 HSH e0 e1 e2 e3 e4 e5 e6 hOO z1 z2 z3 z4
      go_wp2_with fail
      refine HP.out.mono ?_
      rintro e w6 ⟨rfl, T', g2, L2, hs6, hb6, hk6⟩
      have HS6 := Lib.hid hs6
      have HN6 := Lib.hid (step_nam O HN.out)
      have HB6 := Lib.hid (HB4.out.trans hb6)
      clear hs6 hb6 hk6 HP HB4
      go_wp2_with fail
      go_roundw
      case rel => exact ⟨k + 1, T', g2, L2, _, by omega, by go_num, HS6, HN6, HB6⟩
      case measure => simp [intOf]; omega
    · have hex : (decide ((k : Int) < (os.length : Int)) = true ∧ decide ((k : Int) < 40) = false ∧ k < os.length) ∨ (decide ((k : Int) < (os.length : Int)) = false ∧ True ∧ ¬ k < os.length) := by
        by_cases q : k < os.length
        · exact .inl ⟨by rw [decide_eq_true_eq]; omega, by rw [decide_eq_false_iff_not]; omega, q⟩
        · exact .inr ⟨by rw [decide_eq_false_iff_not]; omega, trivial, q⟩
      clear hgo hk hlc
      obtain ⟨mb2, V2, c2, hco2⟩ := HT.out.co
      have HCO2 := Lib.hid hco2
      obtain ⟨pl, cl, rfl, hll, hlm⟩ := HT.out.fi.shape
      have hfl := HT.out.fits.len
      have b0 := HT.out.bo.b0
      have b1 := HT.out.bo.b1
      clear hco2
      have hkw := HKW.out
      have haw := HAW.out
      clear HKW HAW
      obtain ⟨t3, t5, t7⟩ := hkw
      obtain ⟨t4, t6, t8⟩ := haw
      rcases hex with ⟨t1, t2, t9⟩ | ⟨t1, t2, t9⟩
      all_goals (
        obtain ⟨wz, rfl⟩ : ∃ wz, wz = wr := ⟨_, rfl⟩
        go_wp2_with fail
        refine (crestart_any T g' mb2 V2 c2 d _ ks1 wz HCO2.out HT.out.fits (IRow.below HK1.out.1 HB.out) HK1.out.2.1 (by have := HK1.out.2.2; omega)).mono ?_
        rintro e w5 ⟨rfl, ⟨V5, hco5⟩, hk5⟩
        obtain ⟨d1, hd1⟩ : ∃ d1, restartD d ks1 = d1 := ⟨_, rfl⟩
        rw [hd1] at hco5
        have HF1 := Lib.hid (show Fits d1 from hd1 ▸ restart_fits ks1 HT.out.fits)
        have HN1 := Lib.hid (show Nam d1 from hd1 ▸ restart_nam ks1 HN.out)
        have HS1 : Hid (d1.stopped = false) := Lib.hid (by rw [← hd1]; rfl)
        have HL1 : Hid (d1.L.length = d.L.length) := Lib.hid (by rw [← hd1]; exact restartL_len _ _)
        have HFILE := Lib.hid (show ∀ (i : Nat) (f : FileD), d.L[i]? = some f → ∃ m, f.sure ≤ m ∧ m ≤ f.b.length ∧ (⟨f.name, f.b.take m, m⟩ : FileD) ∈ d1.L from fun i f hf => hd1 ▸ restart_file HT.out.fits.good ks1 hf)
        have HAG := Lib.hid (show ∀ ms, restartD d1 ms = d1 from fun ms => by rw [← hd1]; exact restart_again ks1 ms HT.out.fits.good)
        have HBY := Lib.hid HT.out.fits.bytes
        have HNMF := Lib.hid HT.out.fits.name
        have HCO5 := Lib.hid hco5
        have HK5 := Lib.hid hk5
        have b05 := (HT.out.bo.kep hk5 HT.out.gbS).b0
        have HHI := Lib.hid (show ∀ k, T k → w.heap.size ≤ k from HT.out.low)
        clear hco5 hk5 hd1 b0 b1 HCO2 HK1
        obtain ⟨n, hn⟩ : ∃ n, d.L.length = n := ⟨_, rfl⟩
        rw [hn] at hll hfl HL1
        rw [hn]
        have HNN := Lib.hid hn
        clear hn
        go_wp2_with fail
        go_loopw [12] (fun iv w6 => ∃ (i : Nat) (V6 : List UInt8 → Value), i ≤ n ∧ iv = .int .i64 i ∧ Hid (CObj T w6 g' mb2 V6 0 d1) ∧ Hid (Kep (fun k => ¬ T k) wz w6)) (fun iv _ => n - (intOf iv).toNat)
        case atStart => exact ⟨0, V5, Nat.zero_le _, rfl, HCO5, HK5⟩
        case round =>
          obtain ⟨i, V6, hi, rfl, HC6, HK6⟩ := hrel
          clear HCO5 HK5 b05 t1 t2 t3 t4 t5 t6 t7 t8 t9
          have hbw6 : Below w.heap.size w wr := HB.out.trans (HK6.out.below hsz (fun k hk h => by have := HHI.out k h; omega))
          have HBW6 := Lib.hid hbw6
          have hbo6 := HT.out.bo.kep HK6.out HT.out.gbS
          have HBO6 := Lib.hid hbo6
          have q0 := hbo6.b0
          have hsw := hbw6.size
          have hsr := HK6.out.size
          clear hbw6
          by_cases hlt : i < n
          · have t1 : decide ((i : Int) < (n : Int)) = true := by simp; omega
            obtain ⟨f, hf⟩ : ∃ f, d.L[i]? = some f := ⟨d.L[i]'(by rw [HNN.out]; exact hlt), List.getElem?_eq_getElem _⟩
            have hfi6 : FilesIn (XS T w3.heap.size w3.heap.size) wz.heap.size wr (.slice pl d.L.length cl) d.L := HT.out.fi.kep HK6.out (Nat.le_refl _) (fun b _ hn e => hn (.inl e))
            obtain ⟨m, m1, m2, hmem⟩ := HFILE.out i f hf
            obtain ⟨b, off, vb, rfl, hbl, hvb, x0, x1, x2⟩ := hfi6.at_ hf
            have hnT : ¬ T b := fun e => hfi6.2 b off none d.L.length cl rfl (by rw [HNN.out]; omega) (.inl e)
            obtain ⟨pb, capb, rfl, hpc, hpm⟩ := hvb.shape
            unfold maxLen at hpm
            unfold strV at x0
            have hfm := List.mem_of_getElem? hf
            have hfb := HBY.out f hfm
            have hnl := HNMF.out f hfm
            obtain ⟨SF, hSF⟩ : ∃ s : ByteArray, (⟨f.name.toArray⟩ : ByteArray) = s := ⟨_, rfl⟩
            rw [hSF] at x0
            obtain ⟨c, hc⟩ : ∃ c, f.b.take m = c := ⟨_, rfl⟩
            have hcl : c.length = m := by rw [← hc, List.length_take]; omega
            have hre : creadD d1 f.name 0 67108864 = (c, 0) := by rw [← hc]; exact read_file HN1.out HF1.out.good hmem HS1.out _ (by show ((f.b.take m).length : Int) ≤ _; rw [hc, hcl]; omega)
            have hde : curS d1 f.name = m := dur_file HF1.out.good hmem
            have HR := Lib.hid (show ∀ (W : World) (V : List UInt8 → Value), CObj T W g' mb2 V 0 d1 → Calls Try.prog 15 #[.pointer (some ⟨g', 0, none⟩), .string SF, .int .i64 0, .int .i64 67108864] W fun e w' => ∃ v, e = .returned (.tuple #[v, .int .i64 0]) ∧ OwnB W.heap.size w' v c ∧ Below W.heap.size W w' from fun W V h => by
              have := cread_own T g' mb2 V 0 d1 f.name 0 67108864 W h HF1.out (by omega) (by omega) (by omega) (by omega) (by omega)
              rw [hre, hSF] at this
              exact this)
            have HD := Lib.hid (show ∀ (W : World) (V : List UInt8 → Value), CObj T W g' mb2 V 0 d1 → Calls Try.prog 17 #[.pointer (some ⟨g', 0, none⟩), .string SF] W fun e w' => e = .returned (.int .i64 (m : Int)) ∧ Below W.heap.size W w' from fun W V h => by
              have := cdurable_any T g' mb2 V 0 d1 f.name W h (by omega)
              rw [hde, hSF] at this
              exact this.mono fun e w' q => ⟨q.1, q.2 ▸ Below.refl _ _⟩)
            obtain ⟨X, hX⟩ : ∃ s : ByteArray, (⟨f.b.toArray⟩ : ByteArray) = s := ⟨_, rfl⟩
            obtain ⟨Y, hY⟩ : ∃ s : ByteArray, (⟨c.toArray⟩ : ByteArray) = s := ⟨_, rfl⟩
            have hys : Y.size = m := by rw [← hY, Lib.size_eq]; exact hcl
            have hxs : X.size = f.b.length := by rw [← hX, Lib.size_eq]
            have HBG := Lib.hid (fun W => begins_any X Y W (by rw [hys, hxs]; exact m2) (by rw [hys, ← hX, str_take, hc, hY]) (by rw [hxs]; omega))
            have HBO := Lib.hid (fun W (hW : Below wr.heap.size wr W) => HBO6.out.up hW)
            have HX0 := Lib.hid (fun W (hW : Below wr.heap.size wr W) => (hW.cell (p := ⟨b, off + i * 3, none⟩) (by show b < _; omega)).trans x0)
            have HX1 := Lib.hid (fun W (hW : Below wr.heap.size wr W) => (hW.cell (p := ⟨b, off + i * 3 + 1, none⟩) (by show b < _; omega)).trans x1)
            have HX2 := Lib.hid (fun W (hW : Below wr.heap.size wr W) => (hW.cell (p := ⟨b, off + i * 3 + 2, none⟩) (by show b < _; omega)).trans x2)
            have HVB := Lib.hid (show ∀ W, Below wr.heap.size wr W → (convert 36 9 (.slice pb f.b.length capb)).run Try.prog W = .ok (.string X) W from fun W hW => by rw [← hX]; exact (BRow.below (hvb.row hsr) hW).conv)
            have HCO := Lib.hid (fun W (hW : Below wr.heap.size wr W) => HC6.out.below hW)
            have HTL := Lib.hid (show ∀ k, T k → k < wr.heap.size from HC6.out.lt)
            have HNT := Lib.hid hnT
            have hbr : b < wr.heap.size := by omega
            have t2 : decide ((m : Int) < (f.sure : Int)) = false := by rw [decide_eq_false_iff_not]; omega
            have t3 : decide (m < f.sure) = false := by rw [decide_eq_false_iff_not]; omega
            have t4 : ¬ m < f.sure := by omega
            obtain ⟨fb, hfb2⟩ : ∃ q, f.b.length = q := ⟨_, rfl⟩
            rw [hfb2] at x1 HX1 HVB hpc
            clear hf hfm hfi6 hmem hre hde hSF hX hys hxs hvb x0 x1 x2 hnT hfb2
            have HYY := Lib.hid hY
            have HCL := Lib.hid hcl
            clear hY hcl hc
            go_wp2_with fail
            refine RG.begin_ [(0, true), (1, true), (2, true), (3, true), (4, true), (5, true), (6, true), (7, true), (8, true), (9, false), (10, true), (11, true), (13, true), (12, true), (14, true)] (by kernel_rfl) (by kernel_rfl) rfl (by kernel_rfl) (fun _ _ d _ _ h => by cases d <;> exact h) ?_
            simp only [RG.ordered, List.map_cons, List.map_nil, List.getElem?_toArray, List.getElem?_cons_succ, List.getElem?_cons_zero]
            obtain ⟨wd, hwd⟩ : ∃ wd, wr.drew = wd := ⟨_, rfl⟩
            have HBD : Hid (Below wr.heap.size wr wd) := Lib.hid (by rw [← hwd]; exact (Below.refl _ _).drew)
            rw [hwd]
            clear hwd q0
            have g0 := fun W (hW : RG.Grew wd W) => (HBO.out W (HBD.out.trans (hW.mono HBD.out.size))).b0
            have g1 := fun W (hW : RG.Grew wd W) => HX0.out W (HBD.out.trans (hW.mono HBD.out.size))
            repeat ((first | (refine RG.take (by rfl) (by intro W hW; go_simp; with_reducible rfl) ?_) | (refine RG.skip (by rfl) ?_) | (refine RG.alone_skip (by rfl) ?_)); simp only [Act.put, List.setIfInBounds_toArray, List.set_cons_zero, List.set_cons_succ])
            refine RG.alone (by rfl) (fun K hK => ?_)
            go_simp
            refine (HR.out wd V6 (HCO.out wd HBD.out)).mono ?_
            rintro e w7 ⟨v7, rfl, hown7, hb7⟩
            go_simp
            refine hK.out _ _ hb7 ?_
            clear hK K g0 g1
            obtain ⟨p7, c7, rfl, hp7, hm7⟩ := hown7.brow.shape
            rw [HCL.out] at hown7 hp7 ⊢
            unfold maxLen at hm7
            repeat ((first | (refine RG.take (by rfl) (by intro W hW; go_simp; with_reducible rfl) ?_) | (refine RG.skip (by rfl) ?_) | (refine RG.alone_skip (by rfl) ?_)); simp only [Act.put, List.setIfInBounds_toArray, List.set_cons_zero, List.set_cons_succ])
            refine RG.done ?_
            have HB7 := Lib.hid (HBD.out.trans (hb7.mono HBD.out.size))
            have HOW7 := Lib.hid hown7
            clear hown7 hb7
            go_wp2_with fail
            refine RG.begin_ [(0, true), (1, true), (2, true), (3, true), (4, true), (5, true), (6, true), (7, true), (8, true), (9, true), (10, true), (11, false), (12, true), (13, true), (14, true), (15, true), (16, true), (17, true), (18, true), (19, true), (20, true), (21, true), (22, true), (23, true), (24, true), (25, true), (26, true), (27, true), (28, true), (29, true), (30, true), (31, true), (32, true), (33, true), (35, true), (36, true), (34, false), (37, true), (38, true)] (by kernel_rfl) (by kernel_rfl) rfl (by kernel_rfl) (fun _ _ d _ _ h => by cases d <;> exact h) ?_
            simp only [RG.ordered, List.map_cons, List.map_nil, List.getElem?_toArray, List.getElem?_cons_succ, List.getElem?_cons_zero]
            obtain ⟨we, hwe⟩ : ∃ wd, w7.drew = wd := ⟨_, rfl⟩
            have hbe : Below w7.heap.size w7 we := by rw [← hwe]; exact (Below.refl _ _).drew
            have HBE : Hid (Below wr.heap.size wr we) := Lib.hid (HB7.out.trans (hbe.mono HB7.out.size))
            have HOWE := Lib.hid (HOW7.out.keep hbe)
            rw [hwe]
            clear hwe hbe
            have g0 := fun W (hW : RG.Grew we W) => (HBO.out W (HBE.out.trans (hW.mono HBE.out.size))).b0
            have g1 := fun W (hW : RG.Grew we W) => HX0.out W (HBE.out.trans (hW.mono HBE.out.size))
            have g2 := fun W (hW : RG.Grew we W) => HX1.out W (HBE.out.trans (hW.mono HBE.out.size))
            have g3 := fun W (hW : RG.Grew we W) => HX2.out W (HBE.out.trans (hW.mono HBE.out.size))
            have e1 := fun W (hW : RG.Grew we W) => HVB.out W (HBE.out.trans (hW.mono HBE.out.size))
            have e2 : ∀ W, RG.Grew we W → (convert 36 9 (.slice p7 m c7)).run Try.prog W = .ok (.string Y) W := fun W hW => by rw [← HYY.out]; exact (BRow.below HOWE.out.brow hW).conv
            repeat ((first | (refine RG.take (by rfl) (by intro W hW; go_simp; with_reducible rfl) ?_) | (refine RG.skip (by rfl) ?_) | (refine RG.alone_skip (by rfl) ?_)); simp only [Act.put, List.setIfInBounds_toArray, List.set_cons_zero, List.set_cons_succ])
            refine RG.alone (by rfl) (fun K hK => ?_)
            go_simp
            refine (HBG.out we).mono ?_
            rintro e w8 ⟨rfl, hw8⟩
            subst hw8
            go_simp
            refine hK.out _ _ (Below.refl _ _) ?_
            clear hK K
            repeat ((first | (refine RG.take (by rfl) (by intro W hW; go_simp; with_reducible rfl) ?_) | (refine RG.skip (by rfl) ?_) | (refine RG.alone_skip (by rfl) ?_)); simp only [Act.put, List.setIfInBounds_toArray, List.set_cons_zero, List.set_cons_succ])
            refine RG.alone (by rfl) (fun K hK => ?_)
            go_simp
            refine (HD.out we V6 (HCO.out we HBE.out)).mono ?_
            rintro e w9 ⟨rfl, hb9⟩
            go_simp
            refine hK.out _ _ hb9 ?_
            clear hK K g0 g1 g2 g3 e1 e2
            repeat ((first | (refine RG.take (by rfl) (by intro W hW; go_simp; with_reducible rfl) ?_) | (refine RG.skip (by rfl) ?_) | (refine RG.alone_skip (by rfl) ?_)); simp only [Act.put, List.setIfInBounds_toArray, List.set_cons_zero, List.set_cons_succ])
            refine RG.done ?_
            have HB9 := Lib.hid (HBE.out.trans (hb9.mono HBE.out.size))
            have HOW9 := Lib.hid (HOWE.out.keep hb9)
            have hz9 := HB9.out.size
            have q0 := (HBO.out w9 HB9.out).b0
            clear hb9 t2 t3 t4
            go_wp2_with fail
            refine (crestart_any T g' mb2 V6 0 d1 _ js1 w9 (HCO.out w9 HB9.out) HF1.out (IRow.below HA1.out.1 (HBW6.out.trans (HB9.out.mono hsw))) HA1.out.2.1 (by have := HA1.out.2.2; omega)).mono ?_
            rintro e w10 ⟨rfl, ⟨V10, hco10⟩, hk10⟩
            rw [HAG.out] at hco10
            have hbo10 := (HBO.out w9 HB9.out).kep hk10 HT.out.gbS
            have y0 := (hk10.cell (b := b) (by omega) HNT.out (off + i * 3)).trans (HX0.out w9 HB9.out)
            have HBO10 := Lib.hid hbo10
            have HOW10 := Lib.hid (show OwnB wd.heap.size w10 (.slice p7 m c7) c from OwnB.kepB HOW9.out hk10 (fun k hk e => by have := OwnB.high HOW9.out hk; have := HTL.out k e; have := HBD.out.size; omega))
            have HCO10 := Lib.hid hco10
            have HK10 := Lib.hid (HK6.out.trans ((kep_below _ HB9.out).trans hk10))
            have HY0 := Lib.hid y0
            have hbr10 : b < w10.heap.size := Nat.lt_of_lt_of_le (by omega) hk10.size
            have r0 := hbo10.b0
            clear hco10 hk10 hbo10 y0 q0 HX0 HX1 HX2 HBO HCO HVB
            go_wp2_with fail
            refine RG.begin_ [(0, true), (1, true), (2, true), (3, true), (4, true), (5, true), (6, true), (7, true), (8, true), (9, false), (10, true), (11, true), (13, true), (12, true), (14, true)] (by kernel_rfl) (by kernel_rfl) rfl (by kernel_rfl) (fun _ _ d _ _ h => by cases d <;> exact h) ?_
            simp only [RG.ordered, List.map_cons, List.map_nil, List.getElem?_toArray, List.getElem?_cons_succ, List.getElem?_cons_zero]
            obtain ⟨wf, hwf⟩ : ∃ wd, w10.drew = wd := ⟨_, rfl⟩
            have HBF : Hid (Below w10.heap.size w10 wf) := Lib.hid (by rw [← hwf]; exact (Below.refl _ _).drew)
            rw [hwf]
            clear hwf r0
            have g0 := fun W (hW : RG.Grew wf W) => (HBO10.out.up (HBF.out.trans (hW.mono HBF.out.size))).b0
            have g1 := fun W (hW : RG.Grew wf W) => ((HBF.out.trans (hW.mono HBF.out.size)).cell (p := ⟨b, off + i * 3, none⟩) hbr10).trans HY0.out
            repeat ((first | (refine RG.take (by rfl) (by intro W hW; go_simp; with_reducible rfl) ?_) | (refine RG.skip (by rfl) ?_) | (refine RG.alone_skip (by rfl) ?_)); simp only [Act.put, List.setIfInBounds_toArray, List.set_cons_zero, List.set_cons_succ])
            refine RG.alone (by rfl) (fun K hK => ?_)
            go_simp
            refine (HR.out wf V10 (HCO10.out.below HBF.out)).mono ?_
            rintro e w11 ⟨v11, rfl, hown11, hb11⟩
            go_simp
            refine hK.out _ _ hb11 ?_
            clear hK K g0 g1
            obtain ⟨p11, c11, rfl, hp11, hm11⟩ := hown11.brow.shape
            rw [HCL.out] at hown11 ⊢
            repeat ((first | (refine RG.take (by rfl) (by intro W hW; go_simp; with_reducible rfl) ?_) | (refine RG.skip (by rfl) ?_) | (refine RG.alone_skip (by rfl) ?_)); simp only [Act.put, List.setIfInBounds_toArray, List.set_cons_zero, List.set_cons_succ])
            refine RG.done ?_
            have hb12 := HBF.out.trans (hb11.mono HBF.out.size)
            have e1 := (OwnB.brow (OwnB.keep HOW10.out hb12)).conv
            have e2 := (OwnB.brow hown11).conv
            rw [HYY.out] at e1 e2
            have HC11 := Lib.hid (HCO10.out.below hb12)
            have HK11 := Lib.hid (HK10.out.trans (kep_below _ hb12))
            clear hown11 hb11 hb12
            go_wp2_with fail
            go_roundw
            case rel => exact ⟨i + 1, V10, by omega, by go_num, HC11, HK11⟩
            case measure => simp [intOf]; omega
          · have t1 : decide ((i : Int) < (n : Int)) = false := by simp; omega
            have HLI := Lib.hid (dlist (B := 0) ⟨T, mb2, V6, 0, HC6.out, fun _ _ => Nat.zero_le _⟩ HF1.out)
            have hnn : (if d1.stopped = true then ([] : List (List UInt8)) else d1.L.map (·.name)).length = n := by rw [HS1.out, if_neg (by simp), List.length_map, HL1.out]
            have HNL := Lib.hid hnn
            clear hnn
            go_wp2_with fail
            refine HLI.out.mono ?_
            rintro e w7 ⟨v7, rfl, hs7, hb7⟩
            obtain ⟨p7, c7, rfl, _, _⟩ := hs7.shape
            rw [HNL.out]
            have HB7 := Lib.hid (HBW6.out.trans (hb7.mono hsw))
            clear hs7 hb7
            go_wp2_with fail
            go_ret
            exact ⟨rfl, HB7.out⟩)
set_option maxRecDepth 100000 in
set_option maxHeartbeats 8000000 in
theorem durable_walk_12 (v vk va : Value) (os : List OpD) (ks js : List Int) (w : World) (h : OpsIn w.heap.size w v os) (hk : IRow w vk ks) (hkr : ∀ k ∈ ks, -9223372036854775808 ≤ k ∧ k ≤ 9223372036854775807) (ha : IRow w va js) (har : ∀ k ∈ js, -9223372036854775808 ≤ k ∧ k ≤ 9223372036854775807) (hc1 : 20 < ks.length) (hc2 : ¬ 20 < js.length) :
    Calls Try.prog 4 #[v, vk, va] w fun e w' => e = .returned (.bool true) ∧ Below w.heap.size w w' := by
  obtain ⟨a, cap, rfl, hlc, hcm⟩ := h.shape
  obtain ⟨pk, ck, rfl, hkc, hkm⟩ := hk.shape
  obtain ⟨pa, ca, rfl, hac, ham⟩ := ha.shape
  unfold maxLen at hcm hkm ham
  obtain ⟨ks1, hk1, hkw⟩ := kok_cut1 hk hkr hc1
  obtain ⟨js1, ha1, haw⟩ := kok_cut2 ha har hc2
  have HK1 := Lib.hid hk1
  have HA1 := Lib.hid ha1
  have HKW := Lib.hid hkw
  have HAW := Lib.hid haw
  have HO := Lib.hid h
  obtain ⟨lk, hlk⟩ : ∃ m, ks.length = m := ⟨_, rfl⟩
  obtain ⟨la, hla⟩ : ∃ m, js.length = m := ⟨_, rfl⟩
  rw [hlk] at HKW hkc ⊢
  rw [hla] at HAW hac ⊢
  rw [hla] at HA1
  clear h hk ha hkr har hk1 ha1 hkw haw hlk hla hc1 hc2
  have hzr := zeroRDisk
  have HC := Lib.hid (cnew_any 0 w (by omega))
  go_enter Try.func4, Try.ntmps4
  go_wp2_with fail
  refine HC.out.mono ?_
  rintro e w1 ⟨S, g, mb, V, rfl, hco, hS, hb1⟩
  have HB1 := Lib.hid hb1
  have HCO := Lib.hid hco
  have HS := Lib.hid hS
  clear HC hb1 hco hS
  go_wp2_with fail
  refine (awake_any _).mono ?_
  rintro e w3 ⟨rfl, hb3⟩
  have HB3 := Lib.hid (HB1.out.trans (hb3.mono HB1.out.size))
  have hs3 := HB3.out.size
  have hsim := sim_new (A := w.heap.size) HCO.out HS.out hb3 hs3 (by omega) (by omega)
  have HSIM := Lib.hid hsim
  have HBB := Lib.hid (HB3.out.alloc hs3 (.cells #[.pointer (some ⟨g, 0, none⟩), .slice none 0 0, .int .i64 0, .int .i64 0, .bool false] 35))
  have HNM := Lib.hid (new_nam 0)
  clear hb3 hsim HB1 HCO HS
  go_wp2_with fail
  clear hzr
  go_loopw [10] (fun iv wr => ∃ (k : Nat) (T : Nat → Prop) (g' : Nat) (L : Value) (d : DiskD), k ≤ os.length ∧ iv = .int .i64 k ∧ Hid (Sim w.heap.size T wr w3.heap.size g' L d) ∧ Hid (Nam d) ∧ Hid (Below w.heap.size w wr)) (fun iv _ => os.length - (intOf iv).toNat)
  case atStart => exact ⟨0, S, g, _, _, Nat.zero_le _, rfl, HSIM, HNM, HBB⟩
  case round =>
    obtain ⟨k, T, g', L, d, hk, rfl, HT, HN, HB⟩ := hrel
    clear HSIM HNM HBB
    have hsz := HB.out.size
    by_cases hgo : k < os.length ∧ k < 40
    · obtain ⟨hlt, h60⟩ := hgo
      have t1 : decide ((k : Int) < (os.length : Int)) = true := by simp; omega
      have t2 : decide ((k : Int) < 40) = true := by rw [decide_eq_true_eq]; omega
      obtain ⟨o0, ho0⟩ : ∃ o, os[k]? = some o := ⟨os[k], List.getElem?_eq_getElem hlt⟩
      obtain ⟨b, off, rfl, hbl, hat⟩ := HO.out.at_ ho0
      obtain ⟨c0, c1, c2, c3, c4, c5, c6, hop, e0, e1, e2, e3, e4, e5, e6⟩ := hat.below HB.out hbl
      have HSH := Lib.hid (short_any w.heap.size _ o0 wr hop hsz)
      clear hat hop ho0
      go_wp2_with fail
      refine HSH.out.mono ?_
      rintro e w4 ⟨v4, rfl, ho4, hb4⟩
      obtain ⟨O, hOO⟩ : ∃ O, shortD o0 = O := ⟨_, rfl⟩
      obtain ⟨z1, z2, z3, z4⟩ := short_len o0
      rw [hOO] at ho4 z1 z2 z3 z4
      have hs4 := hb4.size
      have HP := Lib.hid (step_any w.heap.size w3.heap.size g' T L d v4 O w4 (HT.out.below hb4) ho4 (by omega) z1 z2 z3 z4)
      have HB4 := Lib.hid (HB.out.trans (hb4.mono hsz))
      clear ho4 hb4 hs4 HSH e0 e1 e2 e3 e4 e5 e6 hOO z1 z2 z3 z4
      go_wp2_with fail
      refine HP.out.mono ?_
      rintro e w6 ⟨rfl, T', g2, L2, hs6, hb6, hk6⟩
      have HS6 := Lib.hid hs6
      have HN6 := Lib.hid (step_nam O HN.out)
      have HB6 := Lib.hid (HB4.out.trans hb6)
      clear hs6 hb6 hk6 HP HB4
      go_wp2_with fail
      go_roundw
      case rel => exact ⟨k + 1, T', g2, L2, _, by omega, by go_num, HS6, HN6, HB6⟩
      case measure => simp [intOf]; omega
    · have hex : (decide ((k : Int) < (os.length : Int)) = true ∧ decide ((k : Int) < 40) = false ∧ k < os.length) ∨ (decide ((k : Int) < (os.length : Int)) = false ∧ True ∧ ¬ k < os.length) := by
        by_cases q : k < os.length
        · exact .inl ⟨by rw [decide_eq_true_eq]; omega, by rw [decide_eq_false_iff_not]; omega, q⟩
        · exact .inr ⟨by rw [decide_eq_false_iff_not]; omega, trivial, q⟩
      clear hgo hk hlc
      obtain ⟨mb2, V2, c2, hco2⟩ := HT.out.co
      have HCO2 := Lib.hid hco2
      obtain ⟨pl, cl, rfl, hll, hlm⟩ := HT.out.fi.shape
      have hfl := HT.out.fits.len
      have b0 := HT.out.bo.b0
      have b1 := HT.out.bo.b1
      clear hco2
      have hkw := HKW.out
      have haw := HAW.out
      clear HKW HAW
      obtain ⟨t3, t5, t7⟩ := hkw
      obtain ⟨t4, t6, t8⟩ := haw
      rcases hex with ⟨t1, t2, t9⟩ | ⟨t1, t2, t9⟩
      all_goals (
        obtain ⟨wz, rfl⟩ : ∃ wz, wz = wr := ⟨_, rfl⟩
        go_wp2_with fail
        refine (crestart_any T g' mb2 V2 c2 d _ ks1 wz HCO2.out HT.out.fits (IRow.below HK1.out.1 HB.out) HK1.out.2.1 (by have := HK1.out.2.2; omega)).mono ?_
        rintro e w5 ⟨rfl, ⟨V5, hco5⟩, hk5⟩
        obtain ⟨d1, hd1⟩ : ∃ d1, restartD d ks1 = d1 := ⟨_, rfl⟩
        rw [hd1] at hco5
        have HF1 := Lib.hid (show Fits d1 from hd1 ▸ restart_fits ks1 HT.out.fits)
        have HN1 := Lib.hid (show Nam d1 from hd1 ▸ restart_nam ks1 HN.out)
        have HS1 : Hid (d1.stopped = false) := Lib.hid (by rw [← hd1]; rfl)
        have HL1 : Hid (d1.L.length = d.L.length) := Lib.hid (by rw [← hd1]; exact restartL_len _ _)
        have HFILE := Lib.hid (show ∀ (i : Nat) (f : FileD), d.L[i]? = some f → ∃ m, f.sure ≤ m ∧ m ≤ f.b.length ∧ (⟨f.name, f.b.take m, m⟩ : FileD) ∈ d1.L from fun i f hf => hd1 ▸ restart_file HT.out.fits.good ks1 hf)
        have HAG := Lib.hid (show ∀ ms, restartD d1 ms = d1 from fun ms => by rw [← hd1]; exact restart_again ks1 ms HT.out.fits.good)
        have HBY := Lib.hid HT.out.fits.bytes
        have HNMF := Lib.hid HT.out.fits.name
        have HCO5 := Lib.hid hco5
        have HK5 := Lib.hid hk5
        have b05 := (HT.out.bo.kep hk5 HT.out.gbS).b0
        have HHI := Lib.hid (show ∀ k, T k → w.heap.size ≤ k from HT.out.low)
        clear hco5 hk5 hd1 b0 b1 HCO2 HK1
        obtain ⟨n, hn⟩ : ∃ n, d.L.length = n := ⟨_, rfl⟩
        rw [hn] at hll hfl HL1
        rw [hn]
        have HNN := Lib.hid hn
        clear hn
        go_wp2_with fail
        go_loopw [12] (fun iv w6 => ∃ (i : Nat) (V6 : List UInt8 → Value), i ≤ n ∧ iv = .int .i64 i ∧ Hid (CObj T w6 g' mb2 V6 0 d1) ∧ Hid (Kep (fun k => ¬ T k) wz w6)) (fun iv _ => n - (intOf iv).toNat)
        case atStart => exact ⟨0, V5, Nat.zero_le _, rfl, HCO5, HK5⟩
        case round =>
          obtain ⟨i, V6, hi, rfl, HC6, HK6⟩ := hrel
          clear HCO5 HK5 b05 t1 t2 t3 t4 t5 t6 t7 t8 t9
          have hbw6 : Below w.heap.size w wr := HB.out.trans (HK6.out.below hsz (fun k hk h => by have := HHI.out k h; omega))
          have HBW6 := Lib.hid hbw6
          have hbo6 := HT.out.bo.kep HK6.out HT.out.gbS
          have HBO6 := Lib.hid hbo6
          have q0 := hbo6.b0
          have hsw := hbw6.size
          have hsr := HK6.out.size
          clear hbw6
          by_cases hlt : i < n
          · have t1 : decide ((i : Int) < (n : Int)) = true := by simp; omega
            obtain ⟨f, hf⟩ : ∃ f, d.L[i]? = some f := ⟨d.L[i]'(by rw [HNN.out]; exact hlt), List.getElem?_eq_getElem _⟩
            have hfi6 : FilesIn (XS T w3.heap.size w3.heap.size) wz.heap.size wr (.slice pl d.L.length cl) d.L := HT.out.fi.kep HK6.out (Nat.le_refl _) (fun b _ hn e => hn (.inl e))
            obtain ⟨m, m1, m2, hmem⟩ := HFILE.out i f hf
            obtain ⟨b, off, vb, rfl, hbl, hvb, x0, x1, x2⟩ := hfi6.at_ hf
            have hnT : ¬ T b := fun e => hfi6.2 b off none d.L.length cl rfl (by rw [HNN.out]; omega) (.inl e)
            obtain ⟨pb, capb, rfl, hpc, hpm⟩ := hvb.shape
            unfold maxLen at hpm
            unfold strV at x0
            have hfm := List.mem_of_getElem? hf
            have hfb := HBY.out f hfm
            have hnl := HNMF.out f hfm
            obtain ⟨SF, hSF⟩ : ∃ s : ByteArray, (⟨f.name.toArray⟩ : ByteArray) = s := ⟨_, rfl⟩
            rw [hSF] at x0
            obtain ⟨c, hc⟩ : ∃ c, f.b.take m = c := ⟨_, rfl⟩
            have hcl : c.length = m := by rw [← hc, List.length_take]; omega
            have hre : creadD d1 f.name 0 67108864 = (c, 0) := by rw [← hc]; exact read_file HN1.out HF1.out.good hmem HS1.out _ (by show ((f.b.take m).length : Int) ≤ _; rw [hc, hcl]; omega)
            have hde : curS d1 f.name = m := dur_file HF1.out.good hmem
            have HR := Lib.hid (show ∀ (W : World) (V : List UInt8 → Value), CObj T W g' mb2 V 0 d1 → Calls Try.prog 15 #[.pointer (some ⟨g', 0, none⟩), .string SF, .int .i64 0, .int .i64 67108864] W fun e w' => ∃ v, e = .returned (.tuple #[v, .int .i64 0]) ∧ OwnB W.heap.size w' v c ∧ Below W.heap.size W w' from fun W V h => by
              have := cread_own T g' mb2 V 0 d1 f.name 0 67108864 W h HF1.out (by omega) (by omega) (by omega) (by omega) (by omega)
              rw [hre, hSF] at this
              exact this)
            have HD := Lib.hid (show ∀ (W : World) (V : List UInt8 → Value), CObj T W g' mb2 V 0 d1 → Calls Try.prog 17 #[.pointer (some ⟨g', 0, none⟩), .string SF] W fun e w' => e = .returned (.int .i64 (m : Int)) ∧ Below W.heap.size W w' from fun W V h => by
              have := cdurable_any T g' mb2 V 0 d1 f.name W h (by omega)
              rw [hde, hSF] at this
              exact this.mono fun e w' q => ⟨q.1, q.2 ▸ Below.refl _ _⟩)
            obtain ⟨X, hX⟩ : ∃ s : ByteArray, (⟨f.b.toArray⟩ : ByteArray) = s := ⟨_, rfl⟩
            obtain ⟨Y, hY⟩ : ∃ s : ByteArray, (⟨c.toArray⟩ : ByteArray) = s := ⟨_, rfl⟩
            have hys : Y.size = m := by rw [← hY, Lib.size_eq]; exact hcl
            have hxs : X.size = f.b.length := by rw [← hX, Lib.size_eq]
            have HBG := Lib.hid (fun W => begins_any X Y W (by rw [hys, hxs]; exact m2) (by rw [hys, ← hX, str_take, hc, hY]) (by rw [hxs]; omega))
            have HBO := Lib.hid (fun W (hW : Below wr.heap.size wr W) => HBO6.out.up hW)
            have HX0 := Lib.hid (fun W (hW : Below wr.heap.size wr W) => (hW.cell (p := ⟨b, off + i * 3, none⟩) (by show b < _; omega)).trans x0)
            have HX1 := Lib.hid (fun W (hW : Below wr.heap.size wr W) => (hW.cell (p := ⟨b, off + i * 3 + 1, none⟩) (by show b < _; omega)).trans x1)
            have HX2 := Lib.hid (fun W (hW : Below wr.heap.size wr W) => (hW.cell (p := ⟨b, off + i * 3 + 2, none⟩) (by show b < _; omega)).trans x2)
            have HVB := Lib.hid (show ∀ W, Below wr.heap.size wr W → (convert 36 9 (.slice pb f.b.length capb)).run Try.prog W = .ok (.string X) W from fun W hW => by rw [← hX]; exact (BRow.below (hvb.row hsr) hW).conv)
            have HCO := Lib.hid (fun W (hW : Below wr.heap.size wr W) => HC6.out.below hW)
            have HTL := Lib.hid (show ∀ k, T k → k < wr.heap.size from HC6.out.lt)
            have HNT := Lib.hid hnT
            have hbr : b < wr.heap.size := by omega
            have t2 : decide ((m : Int) < (f.sure : Int)) = false := by rw [decide_eq_false_iff_not]; omega
            have t3 : decide (m < f.sure) = false := by rw [decide_eq_false_iff_not]; omega
            have t4 : ¬ m < f.sure := by omega
            obtain ⟨fb, hfb2⟩ : ∃ q, f.b.length = q := ⟨_, rfl⟩
            rw [hfb2] at x1 HX1 HVB hpc
            clear hf hfm hfi6 hmem hre hde hSF hX hys hxs hvb x0 x1 x2 hnT hfb2
            have HYY := Lib.hid hY
            have HCL := Lib.hid hcl
            clear hY hcl hc
            go_wp2_with fail
            refine RG.begin_ [(0, true), (1, true), (2, true), (3, true), (4, true), (5, true), (6, true), (7, true), (8, true), (9, false), (10, true), (11, true), (13, true), (12, true), (14, true)] (by kernel_rfl) (by kernel_rfl) rfl (by kernel_rfl) (fun _ _ d _ _ h => by cases d <;> exact h) ?_
            simp only [RG.ordered, List.map_cons, List.map_nil, List.getElem?_toArray, List.getElem?_cons_succ, List.getElem?_cons_zero]
            obtain ⟨wd, hwd⟩ : ∃ wd, wr.drew = wd := ⟨_, rfl⟩
            have HBD : Hid (Below wr.heap.size wr wd) := Lib.hid (by rw [← hwd]; exact (Below.refl _ _).drew)
            rw [hwd]
            clear hwd q0
            have g0 := fun W (hW : RG.Grew wd W) => (HBO.out W (HBD.out.trans (hW.mono HBD.out.size))).b0
            have g1 := fun W (hW : RG.Grew wd W) => HX0.out W (HBD.out.trans (hW.mono HBD.out.size))
            repeat ((first | (refine RG.take (by rfl) (by intro W hW; go_simp; with_reducible rfl) ?_) | (refine RG.skip (by rfl) ?_) | (refine RG.alone_skip (by rfl) ?_)); simp only [Act.put, List.setIfInBounds_toArray, List.set_cons_zero, List.set_cons_succ])
            refine RG.alone (by rfl) (fun K hK => ?_)
            go_simp
            refine (HR.out wd V6 (HCO.out wd HBD.out)).mono ?_
            rintro e w7 ⟨v7, rfl, hown7, hb7⟩
            go_simp
            refine hK.out _ _ hb7 ?_
            clear hK K g0 g1
            obtain ⟨p7, c7, rfl, hp7, hm7⟩ := hown7.brow.shape
            rw [HCL.out] at hown7 hp7 ⊢
            unfold maxLen at hm7
            repeat ((first | (refine RG.take (by rfl) (by intro W hW; go_simp; with_reducible rfl) ?_) | (refine RG.skip (by rfl) ?_) | (refine RG.alone_skip (by rfl) ?_)); simp only [Act.put, List.setIfInBounds_toArray, List.set_cons_zero, List.set_cons_succ])
            refine RG.done ?_
            have HB7 := Lib.hid (HBD.out.trans (hb7.mono HBD.out.size))
            have HOW7 := Lib.hid hown7
            clear hown7 hb7
            go_wp2_with fail
            refine RG.begin_ [(0, true), (1, true), (2, true), (3, true), (4, true), (5, true), (6, true), (7, true), (8, true), (9, true), (10, true), (11, false), (12, true), (13, true), (14, true), (15, true), (16, true), (17, true), (18, true), (19, true), (20, true), (21, true), (22, true), (23, true), (24, true), (25, true), (26, true), (27, true), (28, true), (29, true), (30, true), (31, true), (32, true), (33, true), (35, true), (36, true), (34, false), (37, true), (38, true)] (by kernel_rfl) (by kernel_rfl) rfl (by kernel_rfl) (fun _ _ d _ _ h => by cases d <;> exact h) ?_
            simp only [RG.ordered, List.map_cons, List.map_nil, List.getElem?_toArray, List.getElem?_cons_succ, List.getElem?_cons_zero]
            obtain ⟨we, hwe⟩ : ∃ wd, w7.drew = wd := ⟨_, rfl⟩
            have hbe : Below w7.heap.size w7 we := by rw [← hwe]; exact (Below.refl _ _).drew
            have HBE : Hid (Below wr.heap.size wr we) := Lib.hid (HB7.out.trans (hbe.mono HB7.out.size))
            have HOWE := Lib.hid (HOW7.out.keep hbe)
            rw [hwe]
            clear hwe hbe
            have g0 := fun W (hW : RG.Grew we W) => (HBO.out W (HBE.out.trans (hW.mono HBE.out.size))).b0
            have g1 := fun W (hW : RG.Grew we W) => HX0.out W (HBE.out.trans (hW.mono HBE.out.size))
            have g2 := fun W (hW : RG.Grew we W) => HX1.out W (HBE.out.trans (hW.mono HBE.out.size))
            have g3 := fun W (hW : RG.Grew we W) => HX2.out W (HBE.out.trans (hW.mono HBE.out.size))
            have e1 := fun W (hW : RG.Grew we W) => HVB.out W (HBE.out.trans (hW.mono HBE.out.size))
            have e2 : ∀ W, RG.Grew we W → (convert 36 9 (.slice p7 m c7)).run Try.prog W = .ok (.string Y) W := fun W hW => by rw [← HYY.out]; exact (BRow.below HOWE.out.brow hW).conv
            repeat ((first | (refine RG.take (by rfl) (by intro W hW; go_simp; with_reducible rfl) ?_) | (refine RG.skip (by rfl) ?_) | (refine RG.alone_skip (by rfl) ?_)); simp only [Act.put, List.setIfInBounds_toArray, List.set_cons_zero, List.set_cons_succ])
            refine RG.alone (by rfl) (fun K hK => ?_)
            go_simp
            refine (HBG.out we).mono ?_
            rintro e w8 ⟨rfl, hw8⟩
            subst hw8
            go_simp
            refine hK.out _ _ (Below.refl _ _) ?_
            clear hK K
            repeat ((first | (refine RG.take (by rfl) (by intro W hW; go_simp; with_reducible rfl) ?_) | (refine RG.skip (by rfl) ?_) | (refine RG.alone_skip (by rfl) ?_)); simp only [Act.put, List.setIfInBounds_toArray, List.set_cons_zero, List.set_cons_succ])
            refine RG.alone (by rfl) (fun K hK => ?_)
            go_simp
            refine (HD.out we V6 (HCO.out we HBE.out)).mono ?_
            rintro e w9 ⟨rfl, hb9⟩
            go_simp
            refine hK.out _ _ hb9 ?_
            clear hK K g0 g1 g2 g3 e1 e2
            repeat ((first | (refine RG.take (by rfl) (by intro W hW; go_simp; with_reducible rfl) ?_) | (refine RG.skip (by rfl) ?_) | (refine RG.alone_skip (by rfl) ?_)); simp only [Act.put, List.setIfInBounds_toArray, List.set_cons_zero, List.set_cons_succ])
            refine RG.done ?_
            have HB9 := Lib.hid (HBE.out.trans (hb9.mono HBE.out.size))
            have HOW9 := Lib.hid (HOWE.out.keep hb9)
            have hz9 := HB9.out.size
            have q0 := (HBO.out w9 HB9.out).b0
            clear hb9 t2 t3 t4
            go_wp2_with fail
            refine (crestart_any T g' mb2 V6 0 d1 _ js1 w9 (HCO.out w9 HB9.out) HF1.out (IRow.below HA1.out.1 (HBW6.out.trans (HB9.out.mono hsw))) HA1.out.2.1 (by have := HA1.out.2.2; omega)).mono ?_
            rintro e w10 ⟨rfl, ⟨V10, hco10⟩, hk10⟩
            rw [HAG.out] at hco10
            have hbo10 := (HBO.out w9 HB9.out).kep hk10 HT.out.gbS
            have y0 := (hk10.cell (b := b) (by omega) HNT.out (off + i * 3)).trans (HX0.out w9 HB9.out)
            have HBO10 := Lib.hid hbo10
            have HOW10 := Lib.hid (show OwnB wd.heap.size w10 (.slice p7 m c7) c from OwnB.kepB HOW9.out hk10 (fun k hk e => by have := OwnB.high HOW9.out hk; have := HTL.out k e; have := HBD.out.size; omega))
            have HCO10 := Lib.hid hco10
            have HK10 := Lib.hid (HK6.out.trans ((kep_below _ HB9.out).trans hk10))
            have HY0 := Lib.hid y0
            have hbr10 : b < w10.heap.size := Nat.lt_of_lt_of_le (by omega) hk10.size
            have r0 := hbo10.b0
            clear hco10 hk10 hbo10 y0 q0 HX0 HX1 HX2 HBO HCO HVB
            go_wp2_with fail
            refine RG.begin_ [(0, true), (1, true), (2, true), (3, true), (4, true), (5, true), (6, true), (7, true), (8, true), (9, false), (10, true), (11, true), (13, true), (12, true), (14, true)] (by kernel_rfl) (by kernel_rfl) rfl (by kernel_rfl) (fun _ _ d _ _ h => by cases d <;> exact h) ?_
            simp only [RG.ordered, List.map_cons, List.map_nil, List.getElem?_toArray, List.getElem?_cons_succ, List.getElem?_cons_zero]
            obtain ⟨wf, hwf⟩ : ∃ wd, w10.drew = wd := ⟨_, rfl⟩
            have HBF : Hid (Below w10.heap.size w10 wf) := Lib.hid (by rw [← hwf]; exact (Below.refl _ _).drew)
            rw [hwf]
            clear hwf r0
            have g0 := fun W (hW : RG.Grew wf W) => (HBO10.out.up (HBF.out.trans (hW.mono HBF.out.size))).b0
            have g1 := fun W (hW : RG.Grew wf W) => ((HBF.out.trans (hW.mono HBF.out.size)).cell (p := ⟨b, off + i * 3, none⟩) hbr10).trans HY0.out
            repeat ((first | (refine RG.take (by rfl) (by intro W hW; go_simp; with_reducible rfl) ?_) | (refine RG.skip (by rfl) ?_) | (refine RG.alone_skip (by rfl) ?_)); simp only [Act.put, List.setIfInBounds_toArray, List.set_cons_zero, List.set_cons_succ])
            refine RG.alone (by rfl) (fun K hK => ?_)
            go_simp
            refine (HR.out wf V10 (HCO10.out.below HBF.out)).mono ?_
            rintro e w11 ⟨v11, rfl, hown11, hb11⟩
            go_simp
            refine hK.out _ _ hb11 ?_
            clear hK K g0 g1
            obtain ⟨p11, c11, rfl, hp11, hm11⟩ := hown11.brow.shape
            rw [HCL.out] at hown11 ⊢
            repeat ((first | (refine RG.take (by rfl) (by intro W hW; go_simp; with_reducible rfl) ?_) | (refine RG.skip (by rfl) ?_) | (refine RG.alone_skip (by rfl) ?_)); simp only [Act.put, List.setIfInBounds_toArray, List.set_cons_zero, List.set_cons_succ])
            refine RG.done ?_
            have hb12 := HBF.out.trans (hb11.mono HBF.out.size)
            have e1 := (OwnB.brow (OwnB.keep HOW10.out hb12)).conv
            have e2 := (OwnB.brow hown11).conv
            rw [HYY.out] at e1 e2
            have HC11 := Lib.hid (HCO10.out.below hb12)
            have HK11 := Lib.hid (HK10.out.trans (kep_below _ hb12))
            clear hown11 hb11 hb12
            go_wp2_with fail
            go_roundw
            case rel => exact ⟨i + 1, V10, by omega, by go_num, HC11, HK11⟩
            case measure => simp [intOf]; omega
          · have t1 : decide ((i : Int) < (n : Int)) = false := by simp; omega
            have HLI := Lib.hid (dlist (B := 0) ⟨T, mb2, V6, 0, HC6.out, fun _ _ => Nat.zero_le _⟩ HF1.out)
            have hnn : (if d1.stopped = true then ([] : List (List UInt8)) else d1.L.map (·.name)).length = n := by rw [HS1.out, if_neg (by simp), List.length_map, HL1.out]
            have HNL := Lib.hid hnn
            clear hnn
            go_wp2_with fail
            refine HLI.out.mono ?_
            rintro e w7 ⟨v7, rfl, hs7, hb7⟩
            obtain ⟨p7, c7, rfl, _, _⟩ := hs7.shape
            rw [HNL.out]
            have HB7 := Lib.hid (HBW6.out.trans (hb7.mono hsw))
            clear hs7 hb7
            go_wp2_with fail
            go_ret
            exact ⟨rfl, HB7.out⟩)
end Go.Proofs.Ytlphleajgdibgaa.DK
