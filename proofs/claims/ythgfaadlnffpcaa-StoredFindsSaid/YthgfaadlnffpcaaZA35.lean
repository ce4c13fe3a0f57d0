/-
  Are two rows of docs the same: the code's Same (slices.EqualFunc). No condition. few, cut, same of layer 12's statements. No condition.
-/
import Derived.Test.YthgfaadlnffpcaaZA28
import Derived.Test.YthgfaadlnffpcaaZA19
import Derived.Test.YthgfaadlnffpcaaZA20
set_option linter.unusedVariables false
namespace Go.Proofs.Ythgfaadlnffpcaa.ST
open Go Go.RowKit Go.Proofs.Ythgfaadlnffpcaa.MM Go.Proofs.Ythgfaadlnffpcaa.EM Go.Proofs.Ythgfaadlnffpcaa.SM
open Go.Proofs.Ythgfaadlnffpcaa.EV (docC evC fldC doc_at BoolLeft IntLeft drop_same)

def docBy (w : World) (n z : Int) (v : Value) : World := w.alloc (.cells #[.int .i64 n, .int .i64 z, v] 45)
theorem dby_below (w : World) (n z : Int) (v : Value) : Below w.heap.size w (docBy w n z v) := (Below.refl _ _).alloc (Nat.le_refl _) _
theorem dby_size (w : World) (n z : Int) (v : Value) : (docBy w n z v).heap.size = w.heap.size + 1 := by unfold docBy; simp
theorem dbys (w : World) (n1 z1 n2 z2 : Int) (u v : Value) : Below w.heap.size w (docBy (docBy w n1 z1 u) n2 z2 v) := (dby_below w n1 z1 u).trans ((dby_below _ n2 z2 v).mono (by rw [dby_size]; omega))
theorem doc_same (n1 n2 : Int) (e1 e2 : Ev) : decide ((n1, e1) = (n2, e2)) = ((n1 == n2) && decide (e1 = e2)) := by
  rw [Bool.eq_iff_iff]
  simp

set_option maxRecDepth 100000 in
set_option maxHeartbeats 2000000 in
theorem same1_any (n1 z1 n2 z2 : Int) (u v : Value) (xs ys : List Fld) (w : World) (hu : RAny fldC w u xs) (hv : RAny fldC w v ys) :
    Calls Try.prog 31 #[.agg #[.int .i64 n1, .int .i64 z1, u], .agg #[.int .i64 n2, .int .i64 z2, v]] w (BoolLeft (decide (((n1, (z1, xs)) : Doc) = (n2, (z2, ys)))) w) := by
  have HB := Lib.hid (dbys w n1 z1 n2 z2 u v)
  have HE := Lib.hid (EV.same_any z1 z2 u v xs ys _ (hu.below HB.out) (hv.below HB.out))
  rw [doc_same]
  obtain ⟨p1, cap1, rfl, hl1, hm1, _⟩ := hu.shape
  obtain ⟨p2, cap2, rfl, hl2, hm2, _⟩ := hv.shape
  obtain ⟨d, hd⟩ : ∃ d, decide (((z1, xs) : Ev) = (z2, ys)) = d := ⟨_, rfl⟩
  rw [hd] at HE ⊢
  clear hu hv hl1 hl2 hm1 hm2 hd
  by_cases h : n1 = n2
  · have t1 : (n1 == n2) = true := by simp [h]
    rw [t1, Bool.true_and]
    clear h
    go_enter Try.func31, Try.ntmps31
    go_wp2_with fail
    refine HE.out.mono ?_
    rintro e w2 ⟨rfl, hb2⟩
    have HB2 := Lib.hid (grow HB.out hb2)
    clear hb2 HE
    go_wp2_with fail
    go_ret
    exact ⟨rfl, HB2.out⟩
  · have t1 : (n1 == n2) = false := by simp [h]
    rw [t1, Bool.false_and]
    clear h HE
    go_enter Try.func31, Try.ntmps31
    go_wp2_with fail
    go_ret
    exact ⟨rfl, HB.out⟩

set_option maxRecDepth 100000 in
set_option maxHeartbeats 2000000 in
theorem eqf_any (u v : Value) (xs ys : List Doc) (w : World) (hu : RAny docC w u xs) (hv : RAny docC w v ys) : Calls Try.prog 30 #[u, v, .func (.func 31) #[] #[]] w (BoolLeft (decide (xs = ys)) w) := by
  obtain ⟨p1, cap1, rfl, hl1, hm1, _⟩ := hu.shape
  obtain ⟨p2, cap2, rfl, hl2, hm2, _⟩ := hv.shape
  unfold maxLen at hm1 hm2
  by_cases hn : xs.length = ys.length
  · have t0 : (((xs.length : Int)) != ((ys.length : Int))) = false := by simp [hn]
    obtain ⟨n, hnn⟩ : ∃ n, xs.length = n := ⟨_, rfl⟩
    have hnb : ys.length = n := by omega
    obtain ⟨RES, hRES⟩ : ∃ RES, decide (xs = ys) = RES := ⟨_, rfl⟩
    have h0 : decide (xs.drop 0 = ys.drop 0) = RES := hRES
    rw [hRES]
    have H0 := Lib.hid h0
    have HU := Lib.hid hu
    have HV := Lib.hid hv
    have HNA := Lib.hid hnn
    have HNB := Lib.hid hnb
    have HS := Lib.hid (fun n1 z1 n2 z2 u v xs ys w hu hv => same1_any n1 z1 n2 z2 u v xs ys w hu hv)
    rw [hnn, hnb] at t0
    rw [hnn] at hl1 ⊢
    rw [hnb] at hl2 ⊢
    clear h0 hu hv hRES hn hnn hnb
    go_enter Try.func30, Try.ntmps30
    go_wp2_with fail
    go_loopw [17] (fun iv wr => ∃ i : Nat, i ≤ n ∧ iv = .int .i64 i ∧ Hid (decide (xs.drop i = ys.drop i) = RES) ∧ Hid (Below w.heap.size w wr)) (fun iv _ => n - (intOf iv).toNat)
    case atStart => exact ⟨0, by omega, rfl, H0, Lib.hid (Below.refl _ _)⟩
    case round =>
      obtain ⟨i, hi, rfl, HI, HB⟩ := hrel
      clear H0
      by_cases hlt : i < n
      · have q1 : decide ((i : Int) < (n : Int)) = true := by rw [decide_eq_true_eq]; omega
        have q2 : decide (i < n) = true := by rw [decide_eq_true_eq]; omega
        have q3 : (i : Int) < n := by omega
        have ha : i < xs.length := by rw [HNA.out]; exact hlt
        have hb : i < ys.length := by rw [HNB.out]; exact hlt
        have hu1 := HU.out.below HB.out
        have hv1 := HV.out.below HB.out
        rw [HNA.out] at hu1
        rw [HNB.out] at hv1
        obtain ⟨b1, o1, v1, rfl, hb1, _, c1, c2, c3, hf1⟩ := doc_at hu1 ha
        obtain ⟨b2, o2, v2, rfl, hb2, _, d1, d2, d3, hf2⟩ := doc_at hv1 hb
        have hnx := HI.out
        rw [drop_same ha hb] at hnx
        generalize xs[i] = X at *
        generalize ys[i] = Y at *
        clear HI hu1 hv1 ha hb
        obtain ⟨X1, X2, X3⟩ := X
        obtain ⟨Y1, Y2, Y3⟩ := Y
        dsimp only at *
        obtain ⟨pf1, cf1, rfl, _⟩ := hf1.shape
        obtain ⟨pf2, cf2, rfl, _⟩ := hf2.shape
        have HBX := Lib.hid (dbys wr X1 X2 Y1 Y2 (.slice pf1 X3.length cf1) (.slice pf2 Y3.length cf2))
        have HC := Lib.hid (HS.out X1 X2 Y1 Y2 _ _ X3 Y3 _ (hf1.any.below HBX.out) (hf2.any.below HBX.out))
        have g1 := ((dby_below wr X1 X2 (.slice pf1 X3.length cf1)).cell (p := ⟨b2, o2 + i * 3, none⟩) hb2).trans d1
        have g2 := ((dby_below wr X1 X2 (.slice pf1 X3.length cf1)).cell (p := ⟨b2, o2 + i * 3 + 1, none⟩) hb2).trans d2
        have g3 := ((dby_below wr X1 X2 (.slice pf1 X3.length cf1)).cell (p := ⟨b2, o2 + i * 3 + 2, none⟩) hb2).trans d3
        unfold docBy at g1 g2 g3
        generalize decide (((X1, (X2, X3)) : Doc) = (Y1, (Y2, Y3))) = d at *
        have HN := Lib.hid hnx
        have HLT := Lib.hid hlt
        clear hnx hlt d1 d2 d3 hf1 hf2
        go_wp2_with fail
        refine HC.out.mono ?_
        rintro e w2 ⟨rfl, hb2⟩
        have HB2 := Lib.hid (HB.out.trans ((grow HBX.out hb2).mono HB.out.size))
        clear hb2 HC HBX HB
        cases d with
        | true =>
          have hn := HN.out
          rw [Bool.true_and] at hn
          have HN2 := Lib.hid hn
          clear HN hn
          go_wp2_with fail
          have hlt := HLT.out
          go_roundw
          case rel => exact ⟨i + 1, by omega, by go_num, HN2, HB2⟩
          case measure => simp [intOf]; omega
        | false =>
          have hn := HN.out
          rw [Bool.false_and] at hn
          subst hn
          clear HN
          go_wp2_with fail
          go_ret
          exact ⟨rfl, HB2.out⟩
      · obtain rfl : i = n := by omega
        have q1 : decide ((i : Int) < (i : Int)) = false := by simp
        have q2 : decide (i < i) = false := by simp
        have hf : RES = true := by
          rw [← HI.out, List.drop_of_length_le (by rw [HNA.out]; exact Nat.le_refl _), List.drop_of_length_le (by rw [HNB.out]; exact Nat.le_refl _)]
          simp
        subst hf
        clear HI
        go_wp2_with fail
        go_ret
        exact ⟨rfl, HB.out⟩
  · have t0 : (((xs.length : Int)) != ((ys.length : Int))) = true := by simp; omega
    have e : decide (xs = ys) = false := decide_eq_false fun h => hn (by rw [h])
    rw [e]
    clear hu hv e hn
    go_enter Try.func30, Try.ntmps30
    go_wp2_with fail
    go_ret
    exact ⟨rfl, Below.refl _ _⟩

set_option maxRecDepth 100000 in
theorem csame_any (u v : Value) (xs ys : List Doc) (w : World) (hu : RAny docC w u xs) (hv : RAny docC w v ys) : Calls Try.prog 12 #[u, v] w (BoolLeft (decide (xs = ys)) w) := by
  have HE := Lib.hid (eqf_any u v xs ys w hu hv)
  obtain ⟨p1, cap1, rfl, hl1, hm1, _⟩ := hu.shape
  obtain ⟨p2, cap2, rfl, hl2, hm2, _⟩ := hv.shape
  clear hu hv
  go_enter Try.func12, Try.ntmps12
  go_wp2_with fail
  refine HE.out.mono ?_
  rintro e w2 ⟨rfl, hb2⟩
  have HB2 := Lib.hid hb2
  clear hb2 HE
  go_wp2_with fail
  go_ret
  exact ⟨rfl, HB2.out⟩
end Go.Proofs.Ythgfaadlnffpcaa.ST
set_option linter.unusedVariables false
namespace Go.Proofs.Ythgfaadlnffpcaa.ST
open Go Go.RowKit Go.Proofs.Ythgfaadlnffpcaa.MM Go.Proofs.Ythgfaadlnffpcaa.EM Go.Proofs.Ythgfaadlnffpcaa.SM
open Go.Proofs.Ythgfaadlnffpcaa.EV (docC evC fldC doc_at doc_on docE BoolLeft IntLeft SomeBool)

set_option maxRecDepth 100000 in
theorem lcut_any (B : Nat) (v : Value) (l : List UInt8) (w : World) (h : BIn B w v l) : Calls Try.prog 14 #[v] w fun e w' => ∃ u, e = .returned u ∧ BIn B w u (l.take 900) ∧ w = w' := by
  obtain ⟨p, cap, rfl, hlc, hcm⟩ := h.shape
  unfold maxLen at hcm
  have H1 : Hid (l.length ≤ 900 → BIn B w (.slice p l.length cap) (l.take 900)) := Lib.hid (fun hl => by rw [List.take_of_length_le hl]; exact h)
  have H2 : Hid (900 ≤ l.length → BIn B w (.slice p 900 cap) (l.take 900)) := Lib.hid (fun hl => h.take 900 hl)
  have q1 : 900 ≤ l.length → 900 ≤ cap := fun _ => by omega
  clear h
  go_enter Try.func14, Try.ntmps14
  go_wp2_with fail
  all_goals go_ret
  all_goals first
    | exact ⟨_, rfl, H1.out (by omega), rfl⟩
    | exact ⟨_, rfl, H2.out (by omega), rfl⟩

def docBox (w : World) (s z : Int) (u : Value) : World := w.alloc (.cells #[.int .i64 s, .int .i64 z, u] 45)
theorem dbox_below (w : World) (s z : Int) (u : Value) : Below w.heap.size w (docBox w s z u) := (Below.refl _ _).alloc (Nat.le_refl _) _
theorem dbox_size (w : World) (s z : Int) (u : Value) : (docBox w s z u).heap.size = w.heap.size + 1 := by unfold docBox; simp
theorem dtwo_boxes (w : World) (s1 z1 s2 z2 : Int) (u v : Value) : Below w.heap.size w (docBox (docBox w s1 z1 u) s2 z2 v) := (dbox_below w s1 z1 u).trans ((dbox_below _ s2 z2 v).mono (by rw [dbox_size]; omega))
set_option maxRecDepth 100000 in
set_option maxHeartbeats 2000000 in
theorem lsame_any (s1 s2 z1 z2 : Int) (u v : Value) (xs ys : List Fld) (w : World) (hu : RAny fldC w u xs) (hv : RAny fldC w v ys) :
    Calls Try.prog 23 #[.agg #[.int .i64 s1, .int .i64 z1, u], .agg #[.int .i64 s2, .int .i64 z2, v]] w (BoolLeft (decide ((s1, (z1, xs)) = ((s2, (z2, ys)) : Doc))) w) := by
  have hb := dtwo_boxes w s1 z1 s2 z2 u v
  have HB := Lib.hid hb
  have HE := Lib.hid (EV.rsame_any z1 z2 u v xs ys _ (hu.below hb) (hv.below hb))
  have hd : decide ((s1, (z1, xs)) = ((s2, (z2, ys)) : Doc)) = ((s1 == s2) && decide ((z1, xs) = (z2, ys))) := by
    rw [Bool.eq_iff_iff]
    simp
  rw [hd]
  obtain ⟨p1, cap1, rfl, hl1, hm1, _⟩ := hu.shape
  obtain ⟨p2, cap2, rfl, hl2, hm2, _⟩ := hv.shape
  generalize decide ((z1, xs) = (z2, ys)) = d at *
  clear hu hv hl1 hl2 hm1 hm2 hb hd
  by_cases h : s1 = s2
  · have t1 : (s1 == s2) = true := by simp [h]
    rw [t1, Bool.true_and]
    clear h
    go_enter Try.func23, Try.ntmps23
    go_wp2_with fail
    refine HE.out.mono ?_
    rintro e w2 ⟨rfl, hb2⟩
    have HB2 := Lib.hid (HB.out.trans (hb2.mono HB.out.size))
    clear hb2 HE
    go_wp2_with fail
    go_ret
    exact ⟨rfl, HB2.out⟩
  · have t1 : (s1 == s2) = false := by simp [h]
    rw [t1, Bool.false_and]
    clear h HE
    go_enter Try.func23, Try.ntmps23
    go_wp2_with fail
    go_ret
    exact ⟨rfl, HB.out⟩

/-- What few leaves: not more than 40 docs; or none, and false. -/
def FewLeft (B : Nat) (l : List Doc) (w : World) (e : Ending) (w' : World) : Prop :=
  ∃ u b, e = .returned (.tuple #[u, .bool b]) ∧ OwnX docC 45 w.heap.size (fun b => b < B) w' u (if b then l.take 40 else []) ∧ Below w.heap.size w w'

set_option maxRecDepth 100000 in
set_option maxHeartbeats 4000000 in
theorem few_any (B : Nat) (v : Value) (l : List Doc) (w : World) (hv : RBel docC B w v l) (hB : B ≤ w.heap.size) : Calls Try.prog 8 #[v] w (FewLeft B l w) := by
  obtain ⟨p, cap, rfl, hlc, hcm, _⟩ := hv.shape
  unfold maxLen at hcm
  have HV := Lib.hid hv
  have HL := Lib.hid (fun z u fs W (h : RAny fldC W u fs) => EV.light_any z u fs W h)
  have HO0 : Hid (OwnX docC 45 w.heap.size (fun b => b < B) w (.slice none 0 0) (l.take 0)) := Lib.hid (OwnX.nil_ _ _ _ _)
  have HB0 := Lib.hid (Below.refl w.heap.size w)
  clear hv
  go_enter Try.func8, Try.ntmps8
  go_wp2_with fail
  go_loopw [4, 5] (fun lv iv wr => ∃ i : Nat, i ≤ l.length ∧ i ≤ 40 ∧ iv = .int .i64 i ∧ Hid (OwnX docC 45 w.heap.size (fun b => b < B) wr lv (l.take i)) ∧ Hid (Below w.heap.size w wr)) (fun _ iv _ => l.length - (intOf iv).toNat)
  case atStart => exact ⟨0, by omega, by omega, rfl, HO0, HB0⟩
  case round =>
    obtain ⟨i, hi, h40, rfl, HO, HB⟩ := hrel
    clear HO0 HB0
    have hsw : w.heap.size ≤ wr.heap.size := HB.out.size
    by_cases hlt : i < l.length ∧ i < 40
    · obtain ⟨hlt, hl40⟩ := hlt
      have q1 : decide ((i : Int) < (l.length : Int)) = true := by rw [decide_eq_true_eq]; omega
      have q2 : decide (i < l.length) = true := decide_eq_true hlt
      have q3 : decide ((i : Int) < 40) = true := by rw [decide_eq_true_eq]; omega
      have q4 : decide (i < 40) = true := decide_eq_true hl40
      have q5 : (i : Int) < (l.length : Int) := by omega
      obtain ⟨b, off, vf, hbo, hbl, _, c1, c2, c3, hf⟩ := doc_at (HV.out.below (HB.out.mono hB)) hlt
      subst hbo
      have htk := List.take_succ_eq_append_getElem hlt
      have hlen : (l.take i).length = i := by rw [List.length_take]; omega
      obtain ⟨⟨sq, ⟨z, fs⟩⟩, hd⟩ : ∃ d, l[i] = d := ⟨_, rfl⟩
      rw [hd] at c1 c2 hf htk
      dsimp only at c1 c2 hf
      obtain ⟨pf, cf, rfl, _⟩ := hf.shape
      have HK := Lib.hid (HL.out z _ fs wr hf.any)
      have HF := Lib.hid hf
      have HTK := Lib.hid htk
      have HC := Lib.hid (fun W (hW : Below wr.heap.size wr W) => (show W.cell? ⟨b, off + i * 3, none⟩ = some (.int .i64 sq) ∧ W.cell? ⟨b, off + i * 3 + 1, none⟩ = some (.int .i64 z) ∧ W.cell? ⟨b, off + i * 3 + 2, none⟩ = some (.slice pf fs.length cf) from
        ⟨(hW.cell (p := ⟨b, _, none⟩) hbl).trans c1, (hW.cell (p := ⟨b, _, none⟩) hbl).trans c2, (hW.cell (p := ⟨b, _, none⟩) hbl).trans c3⟩))
      clear hf htk hd
      go_wp2_with fail
      refine HK.out.mono ?_
      rintro e w2 ⟨bb, rfl, hb2⟩
      have hsb := hb2.size
      obtain ⟨m0, m1, m2⟩ := HC.out w2 hb2
      have HB2 := Lib.hid (HB.out.trans (hb2.mono hsw))
      cases bb with
      | true =>
        have ho2 := HO.out.keep (kep_below (fun _ => True) hb2) (fun _ _ _ => trivial) (fun _ _ => trivial)
        have hon : docC.on (fun b => b < B) w2 [.int .i64 sq, .int .i64 z, .slice pf fs.length cf] (sq, (z, fs)) := doc_on.2 ⟨_, rfl, ROn.keep HF.out ((kep_below (fun _ => True) hb2).mono fun _ _ => trivial) (fun _ _ h => h)⟩
        have HS7 := Lib.hid (src_lit (C := docC) (S := fun b => b < B) (w := w2) (vs := [.int .i64 sq, .int .i64 z, .slice pf fs.length cf]) (d := (sq, (z, fs))) 45 hon)
        have HO7 := Lib.hid (ho2.alloc (.cells #[.int .i64 sq, .int .i64 z, .slice pf fs.length cf] 45))
        have hka : Kep (fun _ => True) w2 (w2.alloc (.cells #[.int .i64 sq, .int .i64 z, .slice pf fs.length cf] 45)) := kep_alloc _ _ _
        have HB7 := Lib.hid (HB2.out.trans (hka.below (B := w.heap.size) HB2.out.size (fun _ _ => trivial)))
        have hl9 : (l.take i ++ [(sq, ((z, fs) : Ev))]).length = i + 1 := by rw [List.length_append, hlen]; rfl
        clear hb2 ho2 hon hka HK HF HB2 HO HB c1 c2 c3
        go_wp2_with (at_builtin; go_loud (refine wpList_append_x docE rfl _ _ rfl w.heap.size u4 (l.take i) rfl HO7.out (fun b _ hb => .inl (Nat.lt_of_lt_of_le hb hB)) _ [(sq, (z, fs))] rfl HS7.out (by unfold maxLen; simp; omega) (by simp; omega) (by simp; omega) ?_; intro v8 w8 ho8 hb8 hk8; obtain ⟨p8, c8, rfl, _⟩ := ho8.any.shape; have HO8 := Lib.hid ho8; have HB8 := Lib.hid (HB7.out.trans hb8); clear ho8 hb8 hk8 HO7 HS7 HB7))
        rw [hl9, ← HTK.out] at HO8
        go_roundw
        case rel => exact ⟨i + 1, by omega, by omega, by go_num, HO8, HB8⟩
        case measure => simp [intOf]; omega
      | false =>
        clear hb2 HK HF HO HB c1 c2 c3
        go_wp2_with fail
        go_ret2
        exact ⟨_, false, rfl, OwnX.nil_ _ _ _ _, HB2.out⟩
    · have q0 : (decide ((i : Int) < (l.length : Int)) = true ∧ decide (i < l.length) = true ∧ decide ((i : Int) < 40) = false ∧ decide (i < 40) = false) ∨ (decide ((i : Int) < (l.length : Int)) = false ∧ decide (i < l.length) = false) := by
        by_cases h : i < l.length
        · exact .inl ⟨by rw [decide_eq_true_eq]; omega, decide_eq_true h, by rw [decide_eq_false_iff_not]; omega, decide_eq_false (by omega)⟩
        · exact .inr ⟨by rw [decide_eq_false_iff_not]; omega, decide_eq_false h⟩
      have ht : l.take i = l.take 40 := by
        by_cases h : i < l.length
        · rw [show i = 40 by omega]
        · rw [List.take_of_length_le (by omega), List.take_of_length_le (by omega)]
      rw [ht] at HO
      clear ht hlt
      rcases q0 with ⟨q1, q2, q3, q4⟩ | ⟨q1, q2⟩
      · go_wp2_with fail
        go_ret2
        exact ⟨_, true, rfl, HO.out, HB.out⟩
      · go_wp2_with fail
        go_ret2
        exact ⟨_, true, rfl, HO.out, HB.out⟩
end Go.Proofs.Ythgfaadlnffpcaa.ST
