/-
  The law of P8.4, P8.6 walked: it returns true at any two rows, any number. Condition: Docs are whole numbers of 64 bits.
-/
import Derived.Test.YtdgjbhejokmeoaaPstAwake
import Derived.Test.YtdgjbhejokmeoaaPstFind
import Derived.Test.YtdgjbhejokmeoaaPstJoin2
set_option linter.unusedVariables false
namespace Go.Proofs.Ytdgjbhejokmeoaa.PW
open Go.RowKit Go.Proofs.Ytdgjbhejokmeoaa.MM Go.Proofs.Ytdgjbhejokmeoaa.PM Go.Proofs.Ytdgjbhejokmeoaa.VM

theorem findL_there {ps : List Post} (h : isL ps = true) {i : Nat} (hi : i < ps.length) : findL ps ps[i].1 = some ps[i].2 := by
  refine (half_find h (i := i) ⟨fun k hk hki => rise_lt h hki hi, fun k hk hki => ?_⟩).1 hi rfl
  by_cases e : k = i
  · subst e; exact Int.le_refl _
  · have := rise_lt h (show i < k by omega) hk
    omega
theorem find_left {a b : List Post} {by_ : Int} (h : isL (a ++ movedL b by_) = true) {i : Nat} (hi : i < a.length) : findL (a ++ movedL b by_) a[i].1 = some a[i].2 := by
  have h2 : i < (a ++ movedL b by_).length := by rw [List.length_append]; omega
  have := findL_there h h2
  rw [List.getElem_append_left hi] at this
  exact this
theorem find_right {a b : List Post} {by_ : Int} (h : isL (a ++ movedL b by_) = true) {i : Nat} (hi : i < b.length) : findL (a ++ movedL b by_) (b[i].1 + by_) = some b[i].2 := by
  have h2 : a.length + i < (a ++ movedL b by_).length := by rw [List.length_append, moved_len]; omega
  have := findL_there h h2
  rw [List.getElem_append_right (by omega)] at this
  simp only [movedL, List.getElem_map, Nat.add_sub_cancel_left] at this
  exact this
theorem joinR_ok {a b : List Post} {by_ : Int} : (joinR a b by_ = ([], 80)) ∨ (joinR a b by_ = (a ++ movedL b by_, 0) ∧ isL (a ++ movedL b by_) = true ∧ isL b = true ∧ 0 ≤ by_ ∧ by_ ≤ 65536) := by
  unfold joinR
  split
  · rename_i h
    exact .inr ⟨rfl, h.2.2.2, h.2.2.1, h.1.1, h.1.2⟩
  · exact .inl rfl
theorem few_fit {ps : List Post} (h : ∀ p ∈ ps, -9223372036854775808 ≤ p.1 ∧ p.1 ≤ 9223372036854775807) : ∀ p ∈ fewL ps, -9223372036854775808 ≤ p.1 ∧ p.1 ≤ 9223372036854775807 := by
  intro p hp
  obtain ⟨q, hq, rfl⟩ := List.mem_map.1 hp
  exact h q (List.mem_of_mem_take hq)

set_option maxRecDepth 100000 in
set_option maxHeartbeats 8000000 in
theorem joins_walk (u v : Value) (by_ : Int) (A0 B0 : List Post) (w : World) (hu : PRow w u A0) (hv : PRow w v B0) (hf : ∀ p ∈ A0, -9223372036854775808 ≤ p.1 ∧ p.1 ≤ 9223372036854775807) : Calls Try.prog 7 #[u, v, .int .i64 by_] w fun e w' => e = .returned (.bool true) ∧ Below w.heap.size w w' := by
  have HF1 := Lib.hid (few_any u A0 w hu)
  have HF2 := Lib.hid (fun W (h : Below w.heap.size w W) => few_any v B0 W (hv.below h))
  have hl1 := fewL_len A0
  have hl2 := fewL_len B0
  have hff := few_fit hf
  have hq1 : ∀ p ∈ fewL A0, p.2.length ≤ 1000 := fun p hp => by have := fewL_each hp; omega
  have hq2 : ∀ p ∈ fewL B0, p.2.length ≤ 1000 := fun p hp => by have := fewL_each hp; omega
  obtain ⟨a, ha⟩ : ∃ a, fewL A0 = a := ⟨_, rfl⟩
  obtain ⟨b, hb⟩ : ∃ b, fewL B0 = b := ⟨_, rfl⟩
  rw [ha] at HF1 hl1 hff hq1
  rw [hb] at hl2 hq2
  simp only [hb] at HF2
  obtain ⟨pu, cu, rfl, _⟩ := hu.shape
  obtain ⟨pv, cv, rfl, _⟩ := hv.shape
  have KJ := Lib.hid (fun W x y (hx : PRow W x a) (hy : PRow W y b) => join_any x y a b by_ W hx hy (by omega) (by omega) hff hq1 hq2)
  have KR := Lib.hid (fun W x y (hx : PRow W x a) (hy : PRow W y b) => rjoin_any x y a b by_ W hx hy (by omega) (by omega))
  clear ha hb hu hv hf hff hq1 hq2
  go_enter Try.func7, Try.ntmps7
  go_wp2_with fail
  refine HF1.out.mono ?_
  rintro e w1 ⟨x, rfl, hx, b1⟩
  have HF2' := Lib.hid (HF2.out w1 b1)
  clear HF1 HF2
  go_wp2_with fail
  refine HF2'.out.mono ?_
  rintro e w2 ⟨y, rfl, hy, b2⟩
  have HX2 := Lib.hid (hx.below b2)
  have HY2 := Lib.hid hy
  have HB2 := Lib.hid (grow b1 b2)
  have K1 := Lib.hid (KJ.out w2 x y HX2.out HY2.out)
  have K2 := Lib.hid (fun W (h : Below w2.heap.size w2 W) => KR.out W x y (HX2.out.below h) (HY2.out.below h))
  unfold JoinLeft at K1 K2
  clear hx hy b1 b2 HF2' KJ KR
  rcases joinR_ok (a := a) (b := b) (by_ := by_) with hR | ⟨hR, hT, hIb, hb0, hb1⟩
  · rw [hR] at K1
    simp only [hR] at K2
    dsimp only at K1
    clear hR
    go_wp2_with fail
    refine K1.out.mono ?_
    rintro e w3 ⟨v3, rfl, hp3, b3⟩
    have HB3 := Lib.hid (grow HB2.out b3)
    have HP3 := Lib.hid hp3
    have K2' := Lib.hid (K2.out w3 b3)
    clear hp3 b3 K1 K2
    go_wp2_with fail
    refine K2'.out.mono ?_
    rintro e w4 ⟨v4, rfl, hp4, b4⟩
    have HB4 := Lib.hid (grow HB3.out b4)
    have HP4 := Lib.hid (HP3.out.below b4)
    have hs := rsame_any v3 v4 [] [] w4 HP4.out hp4
    rw [decide_eq_true rfl] at hs
    have K3 := Lib.hid hs
    obtain ⟨p3, c3, rfl, _⟩ := HP4.out.shape
    clear hp4 b4 hs K2' HP3
    go_wp2_with fail
    refine K3.out.mono ?_
    rintro e w5 ⟨rfl, b5⟩
    have HB5 := Lib.hid (grow HB4.out b5)
    clear b5 K3
    go_wp2_with fail
    refine (awake_any w5).mono ?_
    rintro e w6 ⟨rfl, b6⟩
    have HB6 := Lib.hid (grow HB5.out b6)
    clear b6
    go_wp2_with fail
    go_ret
    exact ⟨rfl, HB6.out⟩
  · rw [hR] at K1
    simp only [hR] at K2
    dsimp only at K1
    have KL := Lib.hid (fun i (hi : i < a.length) => find_left (b := b) (by_ := by_) hT hi)
    have KRR := Lib.hid (fun i (hi : i < b.length) => find_right (a := a) (by_ := by_) hT hi)
    have HDB := Lib.hid (fun p (hp : p ∈ b) => doc_bound hIb hp)
    obtain ⟨T, hTT⟩ : ∃ T, a ++ movedL b by_ = T := ⟨_, rfl⟩
    rw [hTT] at K1
    simp only [hTT] at K2 KL KRR
    clear hR hT hIb hTT
    go_wp2_with fail
    refine K1.out.mono ?_
    rintro e w3 ⟨v3, rfl, hp3, b3⟩
    have HB3 := Lib.hid (grow HB2.out b3)
    have HP3 := Lib.hid hp3
    have HX3 := Lib.hid (HX2.out.below b3)
    have HY3 := Lib.hid (HY2.out.below b3)
    have K2' := Lib.hid (K2.out w3 b3)
    clear hp3 b3 K1 K2
    go_wp2_with fail
    refine K2'.out.mono ?_
    rintro e w4 ⟨v4, rfl, hp4, b4⟩
    have HB4 := Lib.hid (grow HB3.out b4)
    have HP4 := Lib.hid (HP3.out.below b4)
    have HX4 := Lib.hid (HX3.out.below b4)
    have HY4 := Lib.hid (HY3.out.below b4)
    have hs := rsame_any v3 v4 T T w4 HP4.out hp4
    rw [decide_eq_true rfl] at hs
    have K3 := Lib.hid hs
    clear hp4 b4 hs K2' HP3 HX3 HY3
    go_wp2_with fail
    refine K3.out.mono ?_
    rintro e w5 ⟨rfl, b5⟩
    have HB5 := Lib.hid (grow HB4.out b5)
    have HP5 := Lib.hid (HP4.out.below b5)
    have HX5 := Lib.hid (HX4.out.below b5)
    have HY5 := Lib.hid (HY4.out.below b5)
    obtain ⟨px, cx, rfl, hxl, _⟩ := HX5.out.shape
    obtain ⟨py, cy, rfl, hyl, _⟩ := HY5.out.shape
    obtain ⟨na, hna⟩ : ∃ n, a.length = n := ⟨_, rfl⟩
    obtain ⟨nb, hnb⟩ : ∃ n, b.length = n := ⟨_, rfl⟩
    have HNA := Lib.hid hna
    have HNB := Lib.hid hnb
    rw [hna] at HX5 hxl hl1 ⊢
    rw [hnb] at HY5 hyl hl2 ⊢
    have HZ0 : Hid (Below w5.heap.size w5 w5) := Lib.hid (Below.refl _ _)
    clear b5 K3 HP4 HX4 HY4 hna hnb HX2 HY2
    go_wp2_with fail
    go_loopw [11] (fun iv wr => ∃ i : Nat, i ≤ na ∧ iv = .int .i64 i ∧ Hid (Below w5.heap.size w5 wr)) (fun iv _ => na - (intOf iv).toNat)
    case atStart => exact ⟨0, by omega, rfl, HZ0⟩
    case round =>
      obtain ⟨i, hi, rfl, HB⟩ := hrel
      clear HZ0
      by_cases hlt : i < na
      · have t1 : decide ((i : Int) < (na : Int)) = true := by simp; omega
        have hia : i < a.length := by rw [HNA.out]; exact hlt
        obtain ⟨b', off, q, rfl, hbl, _, hc1, hc2, hq⟩ := (PRow.pon HX5.out).at_ hia
        have hc1b := (HB.out.cell (p := ⟨b', off + i * 2, none⟩) hbl).trans hc1
        have hkf := rfind_any v3 T a[i].1 wr (HP5.out.below HB.out)
        rw [KL.out i hia] at hkf
        obtain ⟨⟨z, qs⟩, hz⟩ : ∃ z, a[i] = z := ⟨_, rfl⟩
        rw [hz] at hc1b hkf hq
        unfold FoundIn at hkf
        dsimp only [Option.isSome, Option.getD] at hc1b hkf hq
        have HQ := Lib.hid hq
        have HC2 := Lib.hid (fun W (hW : Below w5.heap.size w5 W) => (hW.cell (p := ⟨b', off + i * 2 + 1, none⟩) hbl).trans hc2)
        have K := Lib.hid hkf
        clear hq hkf hz hc1 hc2
        go_wp2_with fail
        refine K.out.mono ?_
        rintro e w8 ⟨v8, rfl, hi8, b8⟩
        have HB8 := Lib.hid (HB.out.trans (b8.mono HB.out.size))
        have c2 := HC2.out w8 HB8.out
        have hsi := sameints_any v8 q qs qs w8 hi8 (HQ.out.keep (T := fun _ => True) ⟨HB8.out.os, HB8.out.tape, HB8.out.output, HB8.out.size, fun k hk _ => HB8.out.block k hk⟩ (fun _ _ _ => trivial))
        rw [decide_eq_true rfl] at hsi
        have KS := Lib.hid hsi
        obtain ⟨pq, cq, rfl, _⟩ := HQ.out.shape
        clear hi8 b8 K hsi
        go_wp2_with fail
        refine KS.out.mono ?_
        rintro e w9 ⟨rfl, b9⟩
        have HB9 := Lib.hid (HB8.out.trans (b9.mono HB8.out.size))
        clear b9 KS c2
        go_wp2_with fail
        go_roundw
        case rel => exact ⟨i + 1, by omega, by go_num, HB9⟩
        case measure => simp [intOf]; omega
      · obtain rfl : i = na := by omega
        have t1 : decide ((i : Int) < (i : Int)) = false := by simp
        go_wp2_with fail
        go_loopw [14] (fun iv wr => ∃ i : Nat, i ≤ nb ∧ iv = .int .i64 i ∧ Hid (Below w5.heap.size w5 wr)) (fun iv _ => nb - (intOf iv).toNat)
        case atStart => exact ⟨0, by omega, rfl, HB⟩
        case round =>
          obtain ⟨j, hj, rfl, HB⟩ := hrel
          by_cases hjl : j < nb
          · have t2 : decide ((j : Int) < (nb : Int)) = true := by simp; omega
            have hib : j < b.length := by rw [HNB.out]; exact hjl
            obtain ⟨b', off, q, rfl, hbl, _, hc1, hc2, hq⟩ := (PRow.pon HY5.out).at_ hib
            have hc1b := (HB.out.cell (p := ⟨b', off + j * 2, none⟩) hbl).trans hc1
            have hkf := rfind_any v3 T (b[j].1 + by_) wr (HP5.out.below HB.out)
            rw [KRR.out j hib] at hkf
            have hdb := HDB.out b[j] (List.getElem_mem hib)
            obtain ⟨⟨z, qs⟩, hz⟩ : ∃ z, b[j] = z := ⟨_, rfl⟩
            rw [hz] at hc1b hkf hq hdb
            unfold FoundIn at hkf
            dsimp only [Option.isSome, Option.getD] at hc1b hkf hq hdb
            have HQ := Lib.hid hq
            have HC2 := Lib.hid (fun W (hW : Below w5.heap.size w5 W) => (hW.cell (p := ⟨b', off + j * 2 + 1, none⟩) hbl).trans hc2)
            have K := Lib.hid hkf
            clear hq hkf hz hc1 hc2
            go_wp2_with fail
            refine K.out.mono ?_
            rintro e w8 ⟨v8, rfl, hi8, b8⟩
            have HB8 := Lib.hid (HB.out.trans (b8.mono HB.out.size))
            have c2 := HC2.out w8 HB8.out
            have hsi := sameints_any v8 q qs qs w8 hi8 (HQ.out.keep (T := fun _ => True) ⟨HB8.out.os, HB8.out.tape, HB8.out.output, HB8.out.size, fun k hk _ => HB8.out.block k hk⟩ (fun _ _ _ => trivial))
            rw [decide_eq_true rfl] at hsi
            have KS := Lib.hid hsi
            obtain ⟨pq, cq, rfl, _⟩ := HQ.out.shape
            clear hi8 b8 K hsi
            go_wp2_with fail
            refine KS.out.mono ?_
            rintro e w9 ⟨rfl, b9⟩
            have HB9 := Lib.hid (HB8.out.trans (b9.mono HB8.out.size))
            clear b9 KS c2
            go_wp2_with fail
            go_roundw
            case rel => exact ⟨j + 1, by omega, by go_num, HB9⟩
            case measure => simp [intOf]; omega
          · obtain rfl : j = nb := by omega
            have t2 : decide ((j : Int) < (j : Int)) = false := by simp
            go_wp2_with fail
            refine (awake_any wr).mono ?_
            rintro e w10 ⟨rfl, b10⟩
            have HB10 := Lib.hid (grow HB5.out (HB.out.trans (b10.mono HB.out.size)))
            clear b10
            go_wp2_with fail
            go_ret
            exact ⟨rfl, HB10.out⟩
end Go.Proofs.Ytdgjbhejokmeoaa.PW
