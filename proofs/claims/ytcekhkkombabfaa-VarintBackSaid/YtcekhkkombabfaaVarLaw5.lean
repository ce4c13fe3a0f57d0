/-
  The law VarintBack returns true. Condition: the arguments read as data.
-/
import Derived.Test.YtcekhkkombabfaaVarAwake
import Derived.Test.YtcekhkkombabfaaReg
set_option linter.unusedVariables false
namespace Go.Proofs.Ytcekhkkombabfaa.VG
open Go.RowKit Go.Proofs.Ytcekhkkombabfaa.MM Go.Proofs.Ytcekhkkombabfaa.VM Go.Proofs.Ytcekhkkombabfaa.VP

theorem text_again (s : ByteArray) : (⟨s.data.toList.toArray⟩ : ByteArray) = s := by
  apply ByteArray.ext
  simp
theorem restT_put (s : ByteArray) (hs : s.size ≤ 300) (c : List UInt8) : getT (textL s.data.toList ++ c) 300 = (s.data.toList, (textL s.data.toList).length, 0) := by
  have hz : s.data.toList.length = s.size := (Lib.size_eq s).symm
  exact getT_put _ (by omega) 300 (by omega) c

/-- What the law's calls answer, in lists. -/
structure Core (v : Value) (n : Nat) (m : Int) (s : ByteArray) (l c X Y Z : List UInt8) : Prop where
  cl : c.length ≤ 60
  xl : X.length ≤ 10
  cut : ∀ W, BRow W v l → Calls Try.prog 8 #[v] W (fun e w' => ∃ v', e = .returned v' ∧ BRow W v' c ∧ W = w')
  put : ∀ W, Calls Try.prog 11 #[.slice none 0 0, .int .u64 n] W (PutLeft W.heap.size X W)
  putint : ∀ W, Calls Try.prog 17 #[.slice none 0 0, .int .i64 m] W (PutLeft W.heap.size Y W)
  puttext : ∀ W, Calls Try.prog 21 #[.slice none 0 0, .string s] W (PutLeft W.heap.size Z W)
  joinx : ∀ x y W, BRow W x X → BRow W y c → Calls Try.prog 28 #[x, y] W (PutLeft W.heap.size (X ++ c) W)
  joiny : ∀ x y W, BRow W x Y → BRow W y c → Calls Try.prog 28 #[x, y] W (PutLeft W.heap.size (Y ++ c) W)
  joinz : ∀ x y W, BRow W x Z → BRow W y c → Calls Try.prog 28 #[x, y] W (PutLeft W.heap.size (Z ++ c) W)
  get : ∀ x W, BRow W x (X ++ c) → Calls Try.prog 9 #[x] W (Got (.int .u64 n) 0 c W)
  getint : ∀ x W, BRow W x (Y ++ c) → Calls Try.prog 15 #[x] W (Got (.int .i64 m) 0 c W)
  gettext : ∀ x W, BRow W x (Z ++ c) → Calls Try.prog 19 #[x, .int .i64 300] W (Got (.string s) 0 c W)
  short : ∀ x (i : Nat) W, i < X.length → BRow W x (X.take i) → Calls Try.prog 9 #[x] W (Got (.int .u64 0) 6 [] W)
  last : (∃ er : Int, (er = 6 ∨ er = 20) ∧ ∀ x W, BRow W x c → Calls Try.prog 9 #[x] W (Got (.int .u64 0) er [] W)) ∨
    (∃ (k : Nat) (A R : List UInt8), A.length ≤ 10 ∧ R.length ≤ 60 ∧ A ++ R = c ∧ (∀ x W, BRow W x c → Calls Try.prog 9 #[x] W (Got (.int .u64 k) 0 R W)) ∧ (∀ W, Calls Try.prog 11 #[.slice none 0 0, .int .u64 k] W (PutLeft W.heap.size A W)) ∧
      (∀ x y W, BRow W x A → BRow W y R → Calls Try.prog 28 #[x, y] W (PutLeft W.heap.size c W)))

theorem core (v : Value) (n : Nat) (m : Int) (s : ByteArray) (l : List UInt8) (hn : n < 18446744073709551616) (h0 : -9223372036854775808 ≤ m) (h1 : m ≤ 9223372036854775807) (hs : s.size ≤ 300) :
    ∃ c X Y Z, Core v n m s l c X Y Z := by
  have hcl : (l.take 60).length ≤ 60 := by rw [List.length_take]; omega
  obtain ⟨c, hc⟩ : ∃ c, l.take 60 = c := ⟨_, rfl⟩
  have hz : s.data.toList.length = s.size := (Lib.size_eq s).symm
  have hx := (bytesL_length n).2
  have hy : (intL m).length ≤ 10 := (bytesL_length (zig m)).2
  have hzl : (textL s.data.toList).length ≤ 310 := by unfold textL; rw [List.length_append]; have := (bytesL_length s.data.toList.length).2; omega
  have hcut : ∀ W, BRow W v l → Calls Try.prog 8 #[v] W (fun e w' => ∃ v', e = .returned v' ∧ BRow W v' c ∧ W = w') := fun W h => by rw [← hc]; exact cut_any v l W h
  rw [hc] at hcl
  have rest1 : restL (bytesL n ++ c) = c := by rw [restL_ok (getL_put n hn c), List.drop_left]
  have rest2 : restL (intL m ++ c) = c := by
    have h := getL_put (zig m) (zig_lt h0 h1) c
    rw [show intL m = bytesL (zig m) from rfl, restL_ok h, List.drop_left]
  have rest3 : restT (textL s.data.toList ++ c) 300 = c := by
    unfold restT
    rw [restT_put s hs c]
    simp
  refine ⟨c, bytesL n, intL m, textL s.data.toList, hcl, hx, hcut, fun W => put_any _ [] n W hn (BRow.nil_ W) (by simp), fun W => putint_any _ [] m W h0 h1 (BRow.nil_ W) (by simp),
    fun W => puttext_any _ [] s W (BRow.nil_ W) (by rw [List.length_nil]; omega), fun x y W hx' hy' => join_any x y _ _ W hx' hy' (by omega), fun x y W hx' hy' => join_any x y _ _ W hx' hy' (by omega), fun x y W hx' hy' => join_any x y _ _ W hx' hy' (by omega),
    fun x W h => ?_, fun x W h => ?_, fun x W h => ?_, fun x i W hi h => ?_, ?_⟩
  · have k := get_any x _ W h
    rw [getL_put n hn c, rest1] at k
    exact k
  · have k := getint_any x _ W h
    rw [getI_put m h0 h1 c, rest2] at k
    exact k
  · have k := gettext_any x _ 300 W (by omega) (by omega) h
    rw [restT_put s hs c, rest3] at k
    simp only [text_again] at k
    exact k
  · have k := get_any x _ W h
    have g := getL_part n i hn hi
    rw [g, restL_short g] at k
    exact k
  · rcases getL_cases c with ⟨k, q, hg, hb, hq1, hq2⟩ | hg | hg
    · refine .inr ⟨k, bytesL k, c.drop q, (bytesL_length k).2, by rw [List.length_drop]; omega, getL_back hg, fun x W h => ?_, fun W => put_any _ [] k W hb (BRow.nil_ W) (by simp), fun x y W hx' hy' => ?_⟩
      · have k' := get_any x _ W h
        rw [hg, restL_ok hg] at k'
        exact k'
      · have j := join_any x y _ _ W hx' hy' (by rw [List.length_drop]; have := (bytesL_length k).2; omega)
        rw [getL_back hg] at j
        exact j
    · refine .inl ⟨6, .inl rfl, fun x W h => ?_⟩
      have k' := get_any x _ W h
      rw [hg, restL_short hg] at k'
      exact k'
    · refine .inl ⟨20, .inr rfl, fun x W h => ?_⟩
      have k' := get_any x _ W h
      rw [hg, restL_bad hg] at k'
      exact k'

set_option maxRecDepth 100000 in
set_option maxHeartbeats 4000000 in
theorem back_walk (v : Value) (l : List UInt8) (n : Nat) (m : Int) (s s0 : ByteArray) (w : World) (hr : BRow w v l) (hn : n < 18446744073709551616) (h0 : -9223372036854775808 ≤ m) (h1 : m ≤ 9223372036854775807) (hs0 : s0.size ≤ maxLen)
    (hs : (300 < s0.size ∧ s = s0.extract 0 300) ∨ (¬ 300 < s0.size ∧ s0 = s)) :
    Calls Try.prog 7 #[v, .int .u64 n, .int .i64 m, .string s0] w fun e w' => e = .returned (.bool true) ∧ Below w.heap.size w w' := by
  have hsl : s.size ≤ 300 := by
    rcases hs with ⟨h, rfl⟩ | ⟨h, rfl⟩
    · simp; omega
    · omega
  obtain ⟨c, X, Y, Z, C⟩ := core v n m s l hn h0 h1 hsl
  have hxl := C.xl
  have k1 := C.cut w hr
  have K1 := Lib.hid k1
  have HC := Lib.hid C
  unfold maxLen at hs0
  clear k1 C hr hsl
  rcases hs with ⟨hlong, rfl⟩ | ⟨hshort, rfl⟩
  all_goals
    go_enter Try.func7, Try.ntmps7
    go_wp2_with fail
    refine K1.out.mono ?_
    rintro e w0 ⟨u, rfl, hu, rfl⟩
    have HU := Lib.hid hu
    clear hu
    go_wp2_with fail
    refine (HC.out.put _).mono ?_
    rintro e w1 ⟨vx, rfl, hx, b1⟩
    have HX := Lib.hid hx.brow
    have HU1 := Lib.hid (HU.out.below b1)
    clear hx
    go_wp2_with fail
    refine (HC.out.joinx _ _ _ HX.out HU1.out).mono ?_
    rintro e w2 ⟨v2, rfl, h2, b2⟩
    have H2 := Lib.hid h2.brow
    clear h2
    go_wp2_with fail
    refine (HC.out.get _ _ H2.out).mono ?_
    rintro e w3 ⟨r1, rfl, h3, b3⟩
    have HR1 := Lib.hid h3
    have c3 := grow (grow b1 b2) b3
    have HU3 := Lib.hid (HU.out.below c3)
    have HX3 := Lib.hid (HX.out.below (grow b2 b3))
    clear h3 b1 b2 b3
    go_wp2_with fail
    refine (HC.out.putint _).mono ?_
    rintro e w4 ⟨v4, rfl, h4, b4⟩
    have H4 := Lib.hid h4.brow
    clear h4
    go_wp2_with fail
    refine (HC.out.joiny _ _ _ H4.out (HU3.out.below b4)).mono ?_
    rintro e w5 ⟨v5, rfl, h5, b5⟩
    have H5 := Lib.hid h5.brow
    clear h5
    go_wp2_with fail
    refine (HC.out.getint _ _ H5.out).mono ?_
    rintro e w6 ⟨r2, rfl, h6, b6⟩
    have HR2 := Lib.hid h6
    have c6 := grow (grow b4 b5) b6
    have c36 := grow c3 c6
    have HU6 := Lib.hid (HU.out.below c36)
    have HX6 := Lib.hid (HX3.out.below c6)
    have HR16 := Lib.hid (HR1.out.below c6)
    clear h6 b4 b5 b6 c3 c6
    go_wp2_with fail
    refine (HC.out.puttext _).mono ?_
    rintro e w7 ⟨v7, rfl, h7, b7⟩
    have H7 := Lib.hid h7.brow
    clear h7
    go_wp2_with fail
    refine (HC.out.joinz _ _ _ H7.out (HU6.out.below b7)).mono ?_
    rintro e w8 ⟨v8, rfl, h8, b8⟩
    have H8 := Lib.hid h8.brow
    clear h8
    go_wp2_with fail
    refine (HC.out.gettext _ _ H8.out).mono ?_
    rintro e w9 ⟨r3, rfl, h9, b9⟩
    have c9 := grow (grow b7 b8) b9
    have cc := grow c36 c9
    have HU9 := Lib.hid (HU.out.below cc)
    have HX9 := Lib.hid (HX6.out.below c9)
    have e1 := (HU.out.below cc).conv
    have e2 := (HR16.out.below c9).conv
    have e3 := (HR2.out.below c9).conv
    have e4 := h9.conv
    obtain ⟨px, capx, rfl, hcx1, hcx2⟩ := HX9.out.shape
    unfold maxLen at hcx2
    clear h9 b7 b8 b9 c36 c9
    go_wp2_with fail
    clear e1 e2 e3 e4
    go_loopw [19] (fun i wr => ∃ k : Nat, k ≤ X.length ∧ i = .int .i64 k ∧ Below w.heap.size w wr ∧ Hid (BRow wr u c) ∧ Hid (BRow wr (.slice px X.length capx) X)) (fun i _ => X.length - (intOf i).toNat)
    case atStart => exact ⟨0, Nat.zero_le _, rfl, cc, HU9, HX9⟩
    case round =>
      obtain ⟨k, hk, rfl, hb, HUr, HXr⟩ := hrel
      by_cases hlt : k < X.length
      · have htk := HXr.out.take k (by omega)
        have hs := HC.out.short _ k wr hlt htk
        have HS := Lib.hid hs
        have hk1 : (k : Int) ≤ (capx : Int) := by omega
        clear htk hs
        go_wp2_with fail
        refine HS.out.mono ?_
        rintro e w10 ⟨r4, rfl, h10, b10⟩
        have hb' := grow hb b10
        have HU10 := Lib.hid (HUr.out.below b10)
        have HX10 := Lib.hid (HXr.out.below b10)
        clear h10
        go_wp2_with fail
        go_roundw
        case rel => exact ⟨k + 1, by omega, by go_num, hb', HU10, HX10⟩
        case measure => simp [intOf]; omega
      · obtain rfl : k = X.length := by omega
        clear HXr
        rcases HC.out.last with ⟨er, her, hg⟩ | ⟨q, A, R, hal, hrl, hAR, hg, hp, hj⟩
        · have HG := Lib.hid (hg u wr HUr.out)
          have her2 : ((er : Int) != 0) = true := by rcases her with rfl | rfl <;> rfl
          clear hg her
          go_wp2_with fail
          refine HG.out.mono ?_
          rintro e w10 ⟨r4, rfl, h10, b10⟩
          have hb' := grow hb b10
          clear h10
          go_wp2_with fail
          refine RG.begin_ [(0, true), (1, true), (2, true), (3, true), (5, true), (8, true), (9, true), (4, false), (6, false), (7, true), (10, true), (11, true), (12, true), (13, false), (14, true), (15, true)] (by kernel_rfl) (by kernel_rfl) rfl (by kernel_rfl) (fun _ _ d _ _ h => by cases d <;> exact h) ?_
          simp only [RG.ordered, List.map_cons, List.map_nil, List.getElem?_toArray, List.getElem?_cons_succ, List.getElem?_cons_zero]
          obtain ⟨wd, hwd⟩ : ∃ wd, w10.drew = wd := ⟨_, rfl⟩
          have cd : Below w.heap.size w wd := by rw [← hwd]; exact hb'.drew
          rw [hwd]
          clear hwd
          repeat (first | (refine RG.take (by rfl) (by intro W hW; go_simp; with_reducible rfl) ?_; simp only [Act.put, List.setIfInBounds_toArray, List.set_cons_zero, List.set_cons_succ]) | (refine RG.skip (by rfl) ?_; simp only [Act.put, List.setIfInBounds_toArray, List.set_cons_zero, List.set_cons_succ]) | (refine RG.alone_skip (by rfl) ?_; simp only [Act.put, List.setIfInBounds_toArray, List.set_cons_zero, List.set_cons_succ]))
          refine RG.alone (by rfl) (fun K hK => ?_)
          go_simp
          refine (awake_any _).mono ?_
          rintro e w11 ⟨rfl, b11⟩
          go_simp
          refine hK.out _ _ b11 ?_
          clear hK K
          repeat (refine RG.take (by rfl) (by intro W hW; go_simp; with_reducible rfl) ?_; simp only [Act.put, List.setIfInBounds_toArray, List.set_cons_zero, List.set_cons_succ])
          refine RG.done ?_
          go_wp2_with fail
          go_ret
          exact ⟨rfl, grow cd b11⟩
        · have HG := Lib.hid (hg u wr HUr.out)
          have HP := Lib.hid hp
          have HJ := Lib.hid hj
          clear hg hp hj hAR hal hrl
          go_wp2_with fail
          refine HG.out.mono ?_
          rintro e w10 ⟨r4, rfl, h10, b10⟩
          have hb' := grow hb b10
          have HU10 := Lib.hid (HUr.out.below b10)
          have HR10 := Lib.hid h10
          clear h10
          go_wp2_with fail
          refine RG.begin_ [(0, true), (1, true), (2, true), (3, true), (5, true), (8, true), (9, true), (4, false), (6, false), (7, true), (10, true), (11, true), (12, true), (13, false), (14, true), (15, true)] (by kernel_rfl) (by kernel_rfl) rfl (by kernel_rfl) (fun _ _ d _ _ h => by cases d <;> exact h) ?_
          simp only [RG.ordered, List.map_cons, List.map_nil, List.getElem?_toArray, List.getElem?_cons_succ, List.getElem?_cons_zero]
          obtain ⟨wd, hwd⟩ : ∃ wd, w10.drew = wd := ⟨_, rfl⟩
          have cd : Below w.heap.size w wd := by rw [← hwd]; exact hb'.drew
          have hud : BRow wd u c := by rw [← hwd]; exact HU10.out
          have hrd : BRow wd r4 R := by rw [← hwd]; exact HR10.out
          rw [hwd]
          clear hwd
          have HUd := Lib.hid hud
          have HRd := Lib.hid hrd
          clear hud hrd
          have hconv := fun W (hW : RG.Grew wd W) => (BRow.below HUd.out hW).conv
          repeat (refine RG.take (by rfl) (by intro W hW; go_simp; with_reducible rfl) ?_; simp only [Act.put, List.setIfInBounds_toArray, List.set_cons_zero, List.set_cons_succ])
          clear hconv
          refine RG.alone (by rfl) (fun K hK => ?_)
          go_simp
          refine (HP.out _).mono ?_
          rintro e w11 ⟨v11, rfl, h11, b11⟩
          go_simp
          refine hK.out _ _ b11 ?_
          clear hK K
          have HA := Lib.hid h11.brow
          have HRe := Lib.hid (HRd.out.below b11)
          clear h11
          repeat (refine RG.take (by rfl) (by intro W hW; go_simp; with_reducible rfl) ?_; simp only [Act.put, List.setIfInBounds_toArray, List.set_cons_zero, List.set_cons_succ])
          refine RG.alone (by rfl) (fun K hK => ?_)
          go_simp
          refine (HJ.out _ _ _ HA.out HRe.out).mono ?_
          rintro e w12 ⟨v12, rfl, h12, b12⟩
          go_simp
          refine hK.out _ _ b12 ?_
          clear hK K
          have hconv := fun W (hW : RG.Grew w12 W) => (BRow.below h12.brow hW).conv
          repeat (refine RG.take (by rfl) (by intro W hW; go_simp; with_reducible rfl) ?_; simp only [Act.put, List.setIfInBounds_toArray, List.set_cons_zero, List.set_cons_succ])
          clear hconv h12
          refine RG.alone (by rfl) (fun K hK => ?_)
          go_simp
          refine (awake_any _).mono ?_
          rintro e w13 ⟨rfl, b13⟩
          go_simp
          refine hK.out _ _ b13 ?_
          clear hK K
          repeat (refine RG.take (by rfl) (by intro W hW; go_simp; with_reducible rfl) ?_; simp only [Act.put, List.setIfInBounds_toArray, List.set_cons_zero, List.set_cons_succ])
          refine RG.done ?_
          go_wp2_with fail
          go_ret
          exact ⟨rfl, grow (grow (grow cd b11) b12) b13⟩
end Go.Proofs.Ytcekhkkombabfaa.VG
