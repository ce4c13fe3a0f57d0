/-
  The code's Find: by halves. Condition: fewer than 10^9 bytes.
-/
import Derived.Test.YtdgjbhejokmeoaaPstRef3
import Derived.Test.YtdgjbhejokmeoaaPstDec
set_option linter.unusedVariables false
namespace Go.Proofs.Ytdgjbhejokmeoaa.PW
open Go.RowKit Go.Proofs.Ytdgjbhejokmeoaa.MM Go.Proofs.Ytdgjbhejokmeoaa.PM Go.Proofs.Ytdgjbhejokmeoaa.VM

def cmpZ (a b : Int) : Int := if a < b then -1 else if a > b then 1 else 0
set_option maxRecDepth 100000 in
theorem nan_any (a : Int) (w : World) : Calls Try.prog 60 #[.int .i64 a] w fun e w' => e = .returned (.bool false) ∧ w = w' := by
  go_enter Try.func60, Try.ntmps60
  go_wp2_with fail
  go_ret
  exact ⟨by simp, rfl⟩
set_option maxRecDepth 100000 in
set_option maxHeartbeats 1000000 in
theorem cmp_any (a b : Int) (w : World) : Calls Try.prog 47 #[.int .i64 a, .int .i64 b] w fun e w' => e = .returned (.int .i64 (cmpZ a b)) ∧ w = w' := by
  unfold cmpZ
  by_cases h1 : a < b
  · rw [if_pos h1]
    have t1 : decide (a < b) = true := decide_eq_true h1
    go_enter Try.func47, Try.ntmps47
    go_wp2_with fail
    refine (nan_any _ _).mono ?_
    rintro e w1 ⟨rfl, rfl⟩
    go_wp2_with fail
    refine (nan_any _ _).mono ?_
    rintro e w1 ⟨rfl, rfl⟩
    go_wp2_with fail
    go_ret
    exact ⟨rfl, rfl⟩
  · rw [if_neg h1]
    have t1 : decide (a < b) = false := decide_eq_false h1
    by_cases h2 : a > b
    · rw [if_pos h2]
      have t2 : decide (a > b) = true := decide_eq_true h2
      go_enter Try.func47, Try.ntmps47
      go_wp2_with fail
      refine (nan_any _ _).mono ?_
      rintro e w1 ⟨rfl, rfl⟩
      go_wp2_with fail
      refine (nan_any _ _).mono ?_
      rintro e w1 ⟨rfl, rfl⟩
      go_wp2_with fail
      go_ret
      exact ⟨rfl, rfl⟩
    · rw [if_neg h2]
      have t2 : decide (a > b) = false := decide_eq_false h2
      go_enter Try.func47, Try.ntmps47
      go_wp2_with fail
      refine (nan_any _ _).mono ?_
      rintro e w1 ⟨rfl, rfl⟩
      go_wp2_with fail
      refine (nan_any _ _).mono ?_
      rintro e w1 ⟨rfl, rfl⟩
      go_wp2_with fail
      go_ret
      exact ⟨rfl, rfl⟩
set_option maxRecDepth 100000 in
set_option maxHeartbeats 1000000 in
theorem fcmp_any (z : Int) (p : Option Addr) (n c : Nat) (d : Int) (w : World) : Calls Try.prog 46 #[.agg #[.int .i64 z, .slice p n c], .int .i64 d] w fun e w' => e = .returned (.int .i64 (cmpZ z d)) ∧ Below w.heap.size w w' := by
  have HB := Lib.hid (show Below w.heap.size w (w.alloc (.cells #[.int .i64 z, .slice p n c] 47)) from (Below.refl _ _).alloc (Nat.le_refl _) _)
  go_enter Try.func46, Try.ntmps46
  go_wp2_with fail
  refine (cmp_any _ _ _).mono ?_
  rintro e w1 ⟨rfl, rfl⟩
  go_wp2_with fail
  go_ret
  exact ⟨rfl, HB.out⟩

/-! ### by halves -/
theorem rise_lt' {ps : List Post} (h : isL ps = true) (i : Nat) : ∀ (d : Nat) (hj : i + 1 + d < ps.length), (ps[i]'(by omega)).1 < ps[i + 1 + d].1 := by
  have hr := ((isL_iff ps).1 h).1
  rw [riseL_iff2, docs_len] at hr
  intro d
  induction d with
  | zero =>
    intro hj
    have := (hr (i + 1) hj).2.2 (by omega)
    rw [docs_at ps (i + 1) hj, Nat.add_sub_cancel, docs_at ps i (by omega)] at this
    exact this
  | succ d ih =>
    intro hj
    have h1 := ih (by omega)
    have h2 := (hr (i + 1 + (d + 1)) hj).2.2 (by omega)
    rw [docs_at ps _ hj] at h2
    have e : i + 1 + (d + 1) - 1 = i + 1 + d := by omega
    rw [e, docs_at ps (i + 1 + d) (by omega)] at h2
    exact Int.lt_trans h1 h2
theorem rise_lt {ps : List Post} (h : isL ps = true) {i j : Nat} (hij : i < j) (hj : j < ps.length) : (ps[i]'(by omega)).1 < ps[j].1 := by
  obtain ⟨d, rfl⟩ : ∃ d, j = i + 1 + d := ⟨j - i - 1, by omega⟩
  exact rise_lt' h i d hj
/-- Docs below i are less, from j on they are not. -/
def Half (ps : List Post) (d : Int) (i j : Nat) : Prop := (∀ k (h : k < ps.length), k < i → ps[k].1 < d) ∧ (∀ k (h : k < ps.length), j ≤ k → d ≤ ps[k].1)
theorem half_up {ps : List Post} {d : Int} {i j m : Nat} (hl : isL ps = true) (h : Half ps d i j) (hm : m < ps.length) (hd : ps[m].1 < d) : Half ps d (m + 1) j := by
  refine ⟨fun k hk hkm => ?_, h.2⟩
  by_cases e : k = m
  · subst e; exact hd
  · exact Int.lt_trans (rise_lt hl (by omega) hm) hd
theorem half_down {ps : List Post} {d : Int} {i j m : Nat} (hl : isL ps = true) (h : Half ps d i j) (hm : m < ps.length) (hd : ¬ ps[m].1 < d) : Half ps d i m := by
  refine ⟨h.1, fun k hk hkm => ?_⟩
  by_cases e : k = m
  · subst e; omega
  · have := rise_lt hl (show m < k by omega) hk
    omega
theorem half_find : ∀ {ps : List Post} {d : Int} {i : Nat}, isL ps = true → Half ps d i i → (∀ (h : i < ps.length), ps[i].1 = d → findL ps d = some ps[i].2) ∧ ((∀ (h : i < ps.length), ps[i].1 ≠ d) → findL ps d = none) := by
  intro ps d i hl h
  have hskip : findL ps d = findL (ps.drop i) d := by
    conv => lhs; rw [← List.take_append_drop i ps]
    refine findL_skip _ _ _ (fun p hp => ?_)
    obtain ⟨k, hk, rfl⟩ := List.getElem_of_mem hp
    rw [List.getElem_take]
    rw [List.length_take] at hk
    have := h.1 k (by omega) (by omega)
    omega
  constructor
  · intro hi he
    rw [hskip, List.drop_eq_getElem_cons hi, findL, if_pos he]
  · intro hne
    rw [hskip]
    have : findL (ps.drop i ++ []) d = findL [] d := findL_skip _ _ _ (fun p hp => by
      obtain ⟨k, hk, rfl⟩ := List.getElem_of_mem hp
      rw [List.length_drop] at hk
      rw [List.getElem_drop]
      have h2 := h.2 (i + k) (by omega) (by omega)
      by_cases hk0 : k = 0
      · subst hk0; exact hne (by omega)
      · have h3 := h.2 i (by omega) (by omega)
        have h4 := hne (by omega)
        have h5 := rise_lt hl (show i < i + k by omega) (by omega)
        omega)
    rw [List.append_nil] at this
    exact this

/-- What the search leaves. -/
def SearchLeft (ps : List Post) (d : Int) (w : World) (e : Ending) (w' : World) : Prop := ∃ (i : Nat) (ok : Bool), e = .returned (.tuple #[.int .i64 i, .bool ok]) ∧ Below w.heap.size w w' ∧ (ok = true → ∃ h : i < ps.length, findL ps d = some ps[i].2) ∧ (ok = false → findL ps d = none)
set_option maxRecDepth 100000 in
set_option maxHeartbeats 4000000 in
theorem search_any (v : Value) (ps : List Post) (d : Int) (w : World) (hr : PRow w v ps) (hl : isL ps = true) (hn : ps.length ≤ 1000000) : Calls Try.prog 45 #[v, .int .i64 d, .func (.func 46) #[] #[]] w (SearchLeft ps d w) := by
  obtain ⟨p, cap, rfl, hlc, hcm, _⟩ := hr.shape
  unfold maxLen at hcm
  have HR := Lib.hid hr
  have HUP := Lib.hid (fun i j m (h : Half ps d i j) (hm : m < ps.length) (hd : ps[m].1 < d) => half_up hl h hm hd)
  have HDN := Lib.hid (fun i j m (h : Half ps d i j) (hm : m < ps.length) (hd : ¬ ps[m].1 < d) => half_down hl h hm hd)
  have HFD := Lib.hid (fun i (h : Half ps d i i) => half_find hl h)
  obtain ⟨n, hnn⟩ : ∃ n, ps.length = n := ⟨_, rfl⟩
  have HNN := Lib.hid hnn
  have H0 : Hid (Half ps d 0 n) := Lib.hid ⟨fun k h hk => by omega, fun k h hk => by omega⟩
  rw [hnn] at HR hn hlc ⊢
  clear hr hl hnn
  go_enter Try.func45, Try.ntmps45
  go_wp2_with fail
  go_loopw [9, 10] (fun iv jv wr => ∃ i j : Nat, i ≤ j ∧ j ≤ n ∧ iv = .int .i64 i ∧ jv = .int .i64 j ∧ Hid (Half ps d i j) ∧ Hid (Below w.heap.size w wr)) (fun iv jv _ => (intOf jv).toNat - (intOf iv).toNat)
  case atStart => exact ⟨0, n, by omega, by omega, rfl, rfl, H0, Lib.hid (Below.refl _ _)⟩
  case round =>
    obtain ⟨i, j, hij, hjn, rfl, rfl, HH, HB⟩ := hrel
    clear H0
    by_cases hlt : i < j
    · have t1 : decide ((i : Int) < (j : Int)) = true := by simp; omega
      have hm : (i + j) / 2 < ps.length := by rw [HNN.out]; omega
      obtain ⟨b, off, x, rfl, hbl, _, hc1, hc2, hx⟩ := (HR.out.below HB.out).at_ hm
      have hup := HUP.out i j ((i + j) / 2) HH.out hm
      have hdn := HDN.out i j ((i + j) / 2) HH.out hm
      obtain ⟨z, hz⟩ : ∃ z, (ps[(i + j) / 2]'hm).1 = z := ⟨_, rfl⟩
      rw [hz] at hc1 hup hdn
      obtain ⟨m, hmm⟩ : ∃ m, (i + j) / 2 = m := ⟨_, rfl⟩
      rw [hmm] at hc1 hc2 hup hdn
      have hmi : i ≤ m := by omega
      have hmj : m < j := by omega
      have e0 : IntKind.u64.wrap ((i : Int) + (j : Int)) = ((i + j : Nat) : Int) := by rw [IntKind.wrap_u64]; omega
      have e1 : ((i : Int) + (j : Int)) / 2 = (m : Int) := by omega
      have e2 : ((i : Int) + (j : Int)) >>> 1 = (m : Int) := by rw [Int.shiftRight_eq_div_pow]; exact e1
      have e3 : IntKind.i64.wrap (m : Int) = (m : Int) := by rw [IntKind.wrap_i64]; omega
      obtain ⟨px, cx, rfl, hx5, hx6, hx7⟩ := hx.shape
      generalize (ps[(i + j) / 2]'hm).2.length = nx at hc2
      have HUP2 := Lib.hid hup
      have HDN2 := Lib.hid hdn
      have HC1 := Lib.hid hc1
      clear hx hz hmm hup hdn hx5 hx7 hm
      by_cases hzd : z < d
      · have hc : cmpZ z d = -1 := by unfold cmpZ; rw [if_pos hzd]
        have HS := Lib.hid (HUP2.out hzd)
        have K := Lib.hid (fcmp_any z px nx cx d wr)
        rw [hc] at K
        clear hc hzd
        go_wp2_with fail
        refine K.out.mono ?_
        rintro e w3 ⟨rfl, hb3⟩
        have HB3 := Lib.hid (grow HB.out hb3)
        clear hb3 K
        go_wp2_with fail
        go_roundw
        case rel => exact ⟨m + 1, j, by omega, hjn, by go_num, rfl, HS, HB3⟩
        case measure => simp [intOf]; omega
      · have hc : decide (cmpZ z d < 0) = false := by unfold cmpZ; rw [if_neg hzd]; split <;> simp
        have HS := Lib.hid (HDN2.out (by omega))
        have K := Lib.hid (fcmp_any z px nx cx d wr)
        obtain ⟨c, hcc⟩ : ∃ c, cmpZ z d = c := ⟨_, rfl⟩
        rw [hcc] at K hc
        clear hcc hzd
        go_wp2_with fail
        refine K.out.mono ?_
        rintro e w3 ⟨rfl, hb3⟩
        have HB3 := Lib.hid (grow HB.out hb3)
        clear hb3 K
        go_wp2_with fail
        go_roundw
        case rel => exact ⟨i, m, hmi, by omega, rfl, rfl, HS, HB3⟩
        case measure => simp [intOf]; omega
    · obtain rfl : i = j := by omega
      have t1 : decide ((i : Int) < (i : Int)) = false := by simp
      obtain ⟨hF1, hF2⟩ := HFD.out i HH.out
      by_cases hin : i < n
      · have t2 : decide ((i : Int) < (n : Int)) = true := by simp; omega
        have him : i < ps.length := by rw [HNN.out]; exact hin
        obtain ⟨b, off, x, rfl, hbl, _, hc1, hc2, hx⟩ := (HR.out.below HB.out).at_ him
        have hf1 := hF1 him
        have hf2 : ps[i].1 ≠ d → findL ps d = none := fun h => hF2 (fun _ => h)
        have HF1 := Lib.hid hf1
        have HF2 := Lib.hid hf2
        obtain ⟨z, hz⟩ : ∃ z, ps[i].1 = z := ⟨_, rfl⟩
        rw [hz] at hc1 HF1 HF2
        obtain ⟨px, cx, rfl, hx5, hx6, hx7⟩ := hx.shape
        have K := Lib.hid (fcmp_any z px ps[i].2.length cx d wr)
        generalize ps[i].2.length = nx at hc2 K
        have HIM := Lib.hid him
        by_cases hzd : z = d
        · have hc : cmpZ z d = 0 := by unfold cmpZ; rw [if_neg (by omega), if_neg (by omega)]
          rw [hc] at K
          have HS := Lib.hid (HF1.out hzd)
          clear hx hx5 hx7 hz hc hf1 hf2 hF1 hF2 hzd HF1 HF2
          go_wp2_with fail
          refine K.out.mono ?_
          rintro e w3 ⟨rfl, hb3⟩
          have HB3 := Lib.hid (grow HB.out hb3)
          clear hb3 K
          go_wp2_with fail
          go_ret2
          exact ⟨i, true, rfl, HB3.out, fun _ => ⟨HIM.out, HS.out⟩, (fun h => by cases h)⟩
        · have hc : (cmpZ z d == 0) = false := by
            rw [beq_eq_false_iff_ne]
            unfold cmpZ
            by_cases h1 : z < d
            · rw [if_pos h1]; omega
            · rw [if_neg h1, if_pos (by omega)]; omega
          obtain ⟨c, hcc⟩ : ∃ c, cmpZ z d = c := ⟨_, rfl⟩
          rw [hcc] at K hc
          have HS := Lib.hid (HF2.out hzd)
          clear hx hx5 hx7 hz hcc hf1 hf2 hF1 hF2 hzd HF1 HF2
          go_wp2_with fail
          refine K.out.mono ?_
          rintro e w3 ⟨rfl, hb3⟩
          have HB3 := Lib.hid (grow HB.out hb3)
          clear hb3 K
          go_wp2_with fail
          go_ret2
          exact ⟨i, false, rfl, HB3.out, (fun h => by cases h), fun _ => HS.out⟩
      · have t2 : decide ((i : Int) < (n : Int)) = false := by simp; omega
        have HS := Lib.hid (hF2 (fun h => by rw [HNN.out] at h; omega))
        clear hF1 hF2
        go_wp2_with fail
        go_ret2
        exact ⟨i, false, rfl, HB.out, (fun h => by cases h), fun _ => HS.out⟩
/-- The places of the post of a Doc, in the row that has these bytes. -/
noncomputable def findR (b : List UInt8) (d : Int) : Option (List Int) × Int := match decO b with
  | some ps => (findL ps d, 0)
  | none => (none, 80)
def FindLeft (r : Option (List Int) × Int) (w : World) (e : Ending) (w' : World) : Prop := ∃ v, e = .returned (.tuple #[v, .bool r.1.isSome, .int .i64 r.2]) ∧ IOn (fun _ => True) w' v (r.1.getD []) ∧ Below w.heap.size w w'
set_option maxRecDepth 100000 in
set_option maxHeartbeats 2000000 in
theorem find_any (v : Value) (b : List UInt8) (d : Int) (w : World) (hr : BRow w v b) (hb : b.length ≤ 1000000000) : Calls Try.prog 23 #[v, .int .i64 d] w (FindLeft (findR b d) w) := by
  have hD := decode_any v b w hr hb
  unfold findR
  cases hO : decO b with
  | none =>
    rw [hO] at hD
    unfold decR DecLeft at hD
    dsimp only at hD ⊢
    have HD := Lib.hid hD
    clear hD hO hr
    go_enter Try.func23, Try.ntmps23
    go_wp2_with fail
    refine HD.out.mono ?_
    rintro e w1 ⟨v1, rfl, hp1, hb1⟩
    have HB1 := Lib.hid hb1
    clear hp1 hb1 HD
    go_wp2_with fail
    go_ret3
    exact ⟨_, rfl, IOn.nil_ _ _, HB1.out⟩
  | some ps =>
    have hd := decO_dec hO
    have hlen := dec_len hd
    rw [hO] at hD
    unfold decR DecLeft at hD
    dsimp only at hD ⊢
    have HD := Lib.hid hD
    have HIS := Lib.hid hd.1
    clear hD hO hr hd
    go_enter Try.func23, Try.ntmps23
    go_wp2_with fail
    refine HD.out.mono ?_
    rintro e w1 ⟨v1, rfl, hp1, hb1⟩
    have HB1 := Lib.hid hb1
    have HP1 := Lib.hid hp1
    have K := Lib.hid (search_any v1 ps d w1 hp1 HIS.out (by omega))
    clear hp1 hb1 HD
    go_wp2_with fail
    refine K.out.mono ?_
    rintro e w2 ⟨i, ok, rfl, hb2, hyes, hno⟩
    have HB2 := Lib.hid (grow HB1.out hb2)
    cases ok with
    | true =>
      obtain ⟨hi, hf⟩ := hyes rfl
      obtain ⟨p1, c1, rfl, _⟩ := HP1.out.shape
      obtain ⟨b1, off, x, rfl, hbl, _, hc1, hc2, hx⟩ := (HP1.out.below hb2).at_ hi
      have HX := Lib.hid hx
      have HF := Lib.hid hf
      have hone : x.oneCell' = true := hx.one
      clear hx hyes hno hb2 K hf
      go_wp2_with fail
      go_ret3
      rw [HF.out]
      exact ⟨_, rfl, HX.out, HB2.out⟩
    | false =>
      have HF := Lib.hid (hno rfl)
      clear hyes hno hb2 K
      go_wp2_with fail
      go_ret3
      rw [HF.out]
      exact ⟨_, rfl, IOn.nil_ _ _, HB2.out⟩
end Go.Proofs.Ytdgjbhejokmeoaa.PW
