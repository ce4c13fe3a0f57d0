/-
  The code's Join, the reference's. Condition: few posts, few places.
-/
import Derived.Test.YtdgjbhejokmeoaaPstJoin
import Derived.Test.YtdgjbhejokmeoaaPstRef2
set_option linter.unusedVariables false
namespace Go.Proofs.Ytdgjbhejokmeoaa.PW
open Go.RowKit Go.Proofs.Ytdgjbhejokmeoaa.MM Go.Proofs.Ytdgjbhejokmeoaa.PM

def joinR (a b : List Post) (by_ : Int) : List Post × Int := if (0 ≤ by_ ∧ by_ ≤ 65536) ∧ isL a = true ∧ isL b = true ∧ isL (a ++ movedL b by_) = true then (a ++ movedL b by_, 0) else ([], 80)
def JoinLeft (r : List Post × Int) (w : World) (e : Ending) (w' : World) : Prop := ∃ v, e = .returned (.tuple #[v, .int .i64 r.2]) ∧ PRow w' v r.1 ∧ Below w.heap.size w w'
theorem moved_zero (ps : List Post) : movedL ps 0 = ps := by simp [movedL]
theorem isL_left {a b : List Post} (h : isL (a ++ b) = true) : isL a = true := by
  rw [isL_ok, okL_append] at h
  exact (isL_ok a).2 h.1
theorem doc_bound {b : List Post} (h : isL b = true) {p : Post} (hp : p ∈ b) : 0 ≤ p.1 ∧ p.1 < 65536 := by
  obtain ⟨k, hk, rfl⟩ := List.getElem_of_mem hp
  have hr := ((isL_iff b).1 h).1
  rw [riseL_iff2, docs_len] at hr
  have := hr k hk
  rw [docs_at b k hk] at this
  exact ⟨this.1, this.2.1⟩

set_option maxRecDepth 100000 in
set_option maxHeartbeats 4000000 in
theorem join_any (u v : Value) (a b : List Post) (by_ : Int) (w : World) (hu : PRow w u a) (hv : PRow w v b) (hl1 : a.length ≤ 1000) (hl2 : b.length ≤ 1000) (hf : ∀ p ∈ a, -9223372036854775808 ≤ p.1 ∧ p.1 ≤ 9223372036854775807) (hqa : ∀ p ∈ a, p.2.length ≤ 1000) (hqb : ∀ p ∈ b, p.2.length ≤ 1000) :
    Calls Try.prog 25 #[u, v, .int .i64 by_] w (JoinLeft (joinR a b by_) w) := by
  have HU := Lib.hid hu
  have HV := Lib.hid hv
  obtain ⟨pu, cu, rfl, _⟩ := hu.shape
  obtain ⟨pv, cv, rfl, _⟩ := hv.shape
  have bad : ∀ h : ¬ ((0 ≤ by_ ∧ by_ ≤ 65536) ∧ isL a = true ∧ isL b = true ∧ isL (a ++ movedL b by_) = true), joinR a b by_ = ([], 80) := fun h => if_neg h
  by_cases h0 : by_ < 0
  · rw [bad (fun h => by omega)]
    have t1 : decide (by_ < 0) = true := decide_eq_true h0
    clear hu hv hf hqa hqb bad h0
    go_enter Try.func25, Try.ntmps25
    go_wp2_with fail
    go_ret2
    exact ⟨_, rfl, POn.nil_ _ _, Below.refl _ _⟩
  have t1 : decide (by_ < 0) = false := decide_eq_false h0
  by_cases h1 : by_ > 65536
  · rw [bad (fun h => by omega)]
    have t2 : decide (by_ > 65536) = true := decide_eq_true h1
    clear hu hv hf hqa hqb bad h0
    go_enter Try.func25, Try.ntmps25
    go_wp2_with fail
    go_ret2
    exact ⟨_, rfl, POn.nil_ _ _, Below.refl _ _⟩
  have t2 : decide (by_ > 65536) = false := decide_eq_false h1
  have KC := Lib.hid (check_any _ b w hv (by omega))
  cases hB : isL b with
  | false =>
    rw [hB, if_neg (by simp)] at KC
    rw [bad (fun h => by rw [hB] at h; exact absurd h.2.2.1 (by simp))]
    clear hu hv hf hqa hqb bad h0 hB
    go_enter Try.func25, Try.ntmps25
    go_wp2_with fail
    refine KC.out.mono ?_
    rintro e w1 ⟨rfl, b1⟩
    have HB1 := Lib.hid b1
    clear b1 KC
    go_wp2_with fail
    go_ret2
    exact ⟨_, rfl, POn.nil_ _ _, HB1.out⟩
  | true =>
    rw [hB, if_pos rfl] at KC
    have M1 := Lib.hid (fun W (h : Below w.heap.size w W) => moved_any w.heap.size (.slice none 0 0) _ [] a 0 W (OwnP.nil_ _ _) (PIn.below (PRow.pon HU.out) h) h.size (by simp; omega) (fun p hp => by have := hf p hp; omega) (fun p hp => by have := hqa p hp; omega))
    have M2 := Lib.hid (fun W x (h : Below w.heap.size w W) (ho : OwnP w.heap.size W x a) => moved_any w.heap.size x _ a b by_ W ho (PIn.below (PRow.pon HV.out) h) h.size (by omega) (fun p hp => by have := doc_bound hB hp; omega) (fun p hp => by have := hqb p hp; omega))
    simp only [List.nil_append, moved_zero] at M1
    have KC2 := Lib.hid (fun W x (h : PRow W x (a ++ movedL b by_)) => check_any x _ W h (by rw [List.length_append, moved_len]; omega))
    have HRES : Hid (joinR a b by_ = if isL (a ++ movedL b by_) = true then (a ++ movedL b by_, 0) else ([], 80)) := Lib.hid (by
      unfold joinR
      by_cases h3 : isL (a ++ movedL b by_) = true
      · rw [if_pos h3, if_pos ⟨⟨by omega, by omega⟩, isL_left h3, hB, h3⟩]
      · rw [if_neg h3, if_neg (fun h => h3 h.2.2.2)])
    obtain ⟨T, hT⟩ : ∃ T, a ++ movedL b by_ = T := ⟨_, rfl⟩
    rw [hT] at HRES
    simp only [hT] at M2 KC2
    obtain ⟨R, hR⟩ : ∃ R, joinR a b by_ = R := ⟨_, rfl⟩
    have HY : Hid (isL T = true → R = (T, 0)) := Lib.hid (fun h => by rw [← hR, HRES.out, if_pos h])
    have HNN : Hid (isL T = false → R = ([], 80)) := Lib.hid (fun h => by rw [← hR, HRES.out, if_neg (by rw [h]; simp)])
    rw [hR]
    clear hu hv hf hqa hqb bad h0 hB hT HU HV hR HRES
    go_enter Try.func25, Try.ntmps25
    go_wp2_with fail
    refine KC.out.mono ?_
    rintro e w1 ⟨rfl, b1⟩
    have HB1 := Lib.hid b1
    have M1' := Lib.hid (M1.out w1 b1)
    clear b1 KC M1
    go_wp2_with fail
    refine M1'.out.mono ?_
    rintro e w2 ⟨x2, rfl, ho2, b2⟩
    have HB2 := Lib.hid (HB1.out.trans b2)
    have M2' := Lib.hid (M2.out w2 x2 HB2.out ho2)
    clear b2 ho2 M1' M2
    go_wp2_with fail
    refine M2'.out.mono ?_
    rintro e w3 ⟨x3, rfl, ho3, b3⟩
    have HB3 := Lib.hid (HB2.out.trans b3)
    have HP3 := Lib.hid ho3.prow
    have KC2' := Lib.hid (KC2.out w3 x3 ho3.prow)
    clear b3 ho3 M2' KC2
    cases hTT : isL T with
    | true =>
      rw [hTT, if_pos rfl] at KC2'
      have HR := Lib.hid (HY.out hTT)
      clear hTT
      go_wp2_with fail
      refine KC2'.out.mono ?_
      rintro e w4 ⟨rfl, b4⟩
      have HB4 := Lib.hid (HB3.out.trans (b4.mono HB3.out.size))
      have HP4 := Lib.hid (HP3.out.below b4)
      clear b4 KC2'
      go_wp2_with fail
      go_ret2
      rw [HR.out]
      exact ⟨_, rfl, HP4.out, HB4.out⟩
    | false =>
      rw [hTT, if_neg (by simp)] at KC2'
      have HR := Lib.hid (HNN.out hTT)
      clear hTT
      go_wp2_with fail
      refine KC2'.out.mono ?_
      rintro e w4 ⟨rfl, b4⟩
      have HB4 := Lib.hid (HB3.out.trans (b4.mono HB3.out.size))
      clear b4 KC2'
      go_wp2_with fail
      go_ret2
      rw [HR.out]
      exact ⟨_, rfl, POn.nil_ _ _, HB4.out⟩

theorem pon_src {S : Nat → Prop} {w : World} {v : Value} {ps : List Post} (h : POn S w v ps) : ∃ ys, MeanOn S w ys ps ∧ ((∃ ad c, v = .slice (some ad) ys.length c ∧ ∀ j u, (rawC ys)[j]? = some u → w.cell? (ad.add j) = some u) ∨ (v = .slice none 0 0 ∧ ys = [])) := by
  obtain ⟨p, cap, xs, rfl, h1, h2, h3, hm, h⟩ := h
  have e := hm.1
  cases p with
  | none =>
    have h0 := h3 rfl
    have hx : xs = [] := List.eq_nil_of_length_eq_zero (by omega)
    subst hx
    have hp : ps = [] := List.eq_nil_of_length_eq_zero (by simpa using e.symm)
    subst hp
    exact ⟨[], hm, .inr ⟨by rw [h0]; rfl, rfl⟩⟩
  | some ad =>
    refine ⟨xs, hm, .inl ⟨ad, cap, by rw [e], fun j u hj => ?_⟩⟩
    rcases h with h | ⟨b, off, hp, hlt, hS, hc⟩
    · subst h
      have : xs = [] := List.eq_nil_of_length_eq_zero (by simpa using e)
      subst this
      simp [rawC] at hj
    · obtain rfl : ad = ⟨b, off, none⟩ := Option.some.inj hp
      rw [add_at]
      have hjl : j < xs.length * 2 := by rw [← rawC_len]; exact (List.getElem?_eq_some_iff.1 hj).1
      have hi : j / 2 < xs.length := by omega
      have hg := rawC_get xs (j / 2) hi
      have hcc := hc (j / 2) hi
      by_cases hev : j % 2 = 0
      · have ej : j = j / 2 * 2 := by omega
        rw [ej, hg.1] at hj
        rw [ej, hcc.1]; exact hj
      · have ej : j = j / 2 * 2 + 1 := by omega
        rw [ej, hg.2] at hj
        rw [ej, ← Nat.add_assoc, hcc.2]; exact hj
theorem own_empty (w : World) (B : Nat) (hB : B ≤ w.heap.size) : OwnP B (w.alloc (.cells #[] 47)) (.slice (some ⟨w.heap.size, 0, none⟩) 0 0) [] :=
  ⟨[], ⟨rfl, .inr ⟨w.heap.size, 0, #[], rfl, hB, heap_alloc_new _ _, Nat.le_refl _, by unfold maxLen; omega, rfl, rfl⟩⟩, rfl, fun i h => by simp at h⟩

set_option maxRecDepth 100000 in
set_option maxHeartbeats 4000000 in
theorem rjoin_any (u v : Value) (a b : List Post) (by_ : Int) (w : World) (hu : PRow w u a) (hv : PRow w v b) (hl1 : a.length ≤ 1000) (hl2 : b.length ≤ 1000) :
    Calls Try.prog 26 #[u, v, .int .i64 by_] w (JoinLeft (joinR a b by_) w) := by
  have HU := Lib.hid hu
  have HV := Lib.hid hv
  obtain ⟨pu, cu, rfl, hu1, hu2, _⟩ := hu.shape
  obtain ⟨pv, cv, rfl, hv1, hv2, _⟩ := hv.shape
  unfold maxLen at hu2 hv2
  have bad : ∀ h : ¬ ((0 ≤ by_ ∧ by_ ≤ 65536) ∧ isL a = true ∧ isL b = true ∧ isL (a ++ movedL b by_) = true), joinR a b by_ = ([], 80) := fun h => if_neg h
  by_cases h0 : by_ < 0
  · rw [bad (fun h => by omega)]
    have t1 : decide (by_ < 0) = true := decide_eq_true h0
    clear hu hv bad h0
    go_enter Try.func26, Try.ntmps26
    go_wp2_with fail
    go_ret2
    exact ⟨_, rfl, POn.nil_ _ _, Below.refl _ _⟩
  have t1 : decide (by_ < 0) = false := decide_eq_false h0
  by_cases h1 : by_ > 65536
  · rw [bad (fun h => by omega)]
    have t2 : decide (by_ > 65536) = true := decide_eq_true h1
    clear hu hv bad h0
    go_enter Try.func26, Try.ntmps26
    go_wp2_with fail
    go_ret2
    exact ⟨_, rfl, POn.nil_ _ _, Below.refl _ _⟩
  have t2 : decide (by_ > 65536) = false := decide_eq_false h1
  have KA := Lib.hid (is_any _ a w hu)
  have KB := Lib.hid (fun W (h : Below w.heap.size w W) => is_any _ b W (HV.out.below h))
  cases hA : isL a with
  | false =>
    rw [hA] at KA
    rw [bad (fun h => by rw [hA] at h; exact absurd h.2.1 (by simp))]
    clear hu hv bad h0 hA KB
    go_enter Try.func26, Try.ntmps26
    go_wp2_with fail
    refine KA.out.mono ?_
    rintro e w1 ⟨rfl, b1⟩
    have HB1 := Lib.hid b1
    clear b1 KA
    go_wp2_with fail
    go_ret2
    exact ⟨_, rfl, POn.nil_ _ _, HB1.out⟩
  | true =>
    rw [hA] at KA
    cases hB : isL b with
    | false =>
      simp only [hB] at KB
      rw [bad (fun h => by rw [hB] at h; exact absurd h.2.2.1 (by simp))]
      clear hu hv bad h0 hA hB
      go_enter Try.func26, Try.ntmps26
      go_wp2_with fail
      refine KA.out.mono ?_
      rintro e w1 ⟨rfl, b1⟩
      have HB1 := Lib.hid b1
      have KB' := Lib.hid (KB.out w1 b1)
      clear b1 KA KB
      go_wp2_with fail
      refine KB'.out.mono ?_
      rintro e w2 ⟨rfl, b2⟩
      have HB2 := Lib.hid (grow HB1.out b2)
      clear b2 KB'
      go_wp2_with fail
      go_ret2
      exact ⟨_, rfl, POn.nil_ _ _, HB2.out⟩
    | true =>
      simp only [hB] at KB
      have HDB := Lib.hid (fun p (hp : p ∈ b) => doc_bound hB hp)
      have HT := Lib.hid (fun k (hk : k < b.length) => moved_take (by_ := by_) hk)
      have HE : Hid ((movedL b by_).take b.length = movedL b by_) := Lib.hid (by rw [← moved_len b by_, List.take_length])
      have HML := Lib.hid (moved_len b by_)
      have HRES : Hid (joinR a b by_ = if isL (a ++ movedL b by_) = true then (a ++ movedL b by_, 0) else ([], 80)) := Lib.hid (by
        unfold joinR
        by_cases h3 : isL (a ++ movedL b by_) = true
        · rw [if_pos h3, if_pos ⟨⟨by omega, by omega⟩, hA, hB, h3⟩]
        · rw [if_neg h3, if_neg (fun h => h3 h.2.2.2)])
      obtain ⟨R, hR⟩ : ∃ R, joinR a b by_ = R := ⟨_, rfl⟩
      have HY : Hid (isL (a ++ movedL b by_) = true → R = (a ++ movedL b by_, 0)) := Lib.hid (fun h => by rw [← hR, HRES.out, if_pos h])
      have HNN : Hid (isL (a ++ movedL b by_) = false → R = ([], 80)) := Lib.hid (fun h => by rw [← hR, HRES.out, if_neg (by rw [h]; simp)])
      rw [hR]
      clear hu hv bad hA hB hR HRES
      go_enter Try.func26, Try.ntmps26
      go_wp2_with fail
      refine KA.out.mono ?_
      rintro e w1 ⟨rfl, b1⟩
      have HB1 := Lib.hid b1
      have KB' := Lib.hid (KB.out w1 b1)
      clear b1 KA KB
      go_wp2_with fail
      refine KB'.out.mono ?_
      rintro e w2 ⟨rfl, b2⟩
      have hb2 := grow HB1.out b2
      have hal : Below w2.heap.size w2 (w2.alloc (.cells #[] 47)) := (Below.refl _ _).alloc (Nat.le_refl _) _
      have hin : PIn w.heap.size (w2.alloc (.cells #[] 47)) (.slice pu a.length cu) a := PIn.below (PRow.pon HU.out) (hb2.trans (hal.mono hb2.size))
      obtain ⟨ys, hm, hsrc⟩ := pon_src hin
      have HO3 := Lib.hid (own_empty w2 w.heap.size hb2.size)
      have HM3 := Lib.hid (hm.keep (T := Apt w.heap.size (w2.alloc (.cells #[] 47))) (Kep.refl _ _) (fun c _ hc => .inl hc))
      have HS3 := Lib.hid hsrc
      have HB3 := Lib.hid (hb2.trans (hal.mono hb2.size))
      have hs3 : w.heap.size ≤ (w2.alloc (.cells #[] 47)).heap.size := HB3.out.size
      clear hal hin hm hsrc b2 hb2 KB' HB1
      go_wp2_with (at_builtin; go_loud (refine wpList_append_posts rfl _ _ rfl w.heap.size _ [] rfl HO3.out _ ys a rfl HS3.out HM3.out (by simp; omega) hs3 ?_))
      intro v4 w4 ho4 _ hb4
      have HO4 : Hid (OwnP w.heap.size w4 v4 (a ++ (movedL b by_).take 0)) := Lib.hid (by rw [List.take_zero, List.append_nil]; exact ho4)
      have HB4 := Lib.hid (HB3.out.trans hb4)
      clear ho4 hb4 HO3 HM3 HS3
      go_wp2_with fail
      go_loopw [8, 9] (fun r iv wr => ∃ k : Nat, k ≤ b.length ∧ iv = .int .i64 k ∧ Hid (OwnP w.heap.size wr r (a ++ (movedL b by_).take k)) ∧ Hid (Below w.heap.size w wr)) (fun _ iv _ => b.length - (intOf iv).toNat)
      case atStart => exact ⟨0, by omega, rfl, HO4, HB4⟩
      case round =>
        obtain ⟨k, hk, rfl, HO, HB⟩ := hrel
        clear HO4 HB4
        have hsz := HB.out.size
        by_cases hlt : k < b.length
        · have t3 : decide ((k : Int) < (b.length : Int)) = true := by simp; omega
          obtain ⟨b', off, x, rfl, hbl, hbB, hc1, hc2, hx⟩ := (PRow.pon HV.out).at_ hlt
          have htk := HT.out k hlt
          have hdb := HDB.out b[k] (List.getElem_mem hlt)
          obtain ⟨⟨z, qs⟩, hz⟩ : ∃ z, b[k] = z := ⟨_, rfl⟩
          rw [hz] at hc1 hx htk hdb
          dsimp only at hc1 hx htk hdb
          obtain ⟨W1, hW1⟩ : ∃ W, wr.drew = W := ⟨_, rfl⟩
          have hb1 : Below wr.heap.size wr W1 := by rw [← hW1]; exact (Below.refl _ _).drew
          have HBW := Lib.hid (HB.out.trans (hb1.mono hsz))
          have hxw : IOn (fun c => c < w.heap.size) W1 x qs := hx.keep ⟨HBW.out.os, HBW.out.tape, HBW.out.output, HBW.out.size, fun c _ hc => HBW.out.block c hc⟩ (fun _ _ h => h)
          have HX1 := Lib.hid (hxw.weak (T := Apt w.heap.size W1) (fun c _ hc => .inl hc))
          have HO1 := Lib.hid (HO.out.keep hb1)
          have HC1 := Lib.hid (fun W (hW : Below w.heap.size w W) => (hW.cell (p := ⟨b', off + k * 2, none⟩) hbl).trans hc1)
          have HC2 := Lib.hid (fun W (hW : Below w.heap.size w W) => (hW.cell (p := ⟨b', off + k * 2 + 1, none⟩) hbl).trans hc2)
          have hw1 : IntKind.i64.wrap (z + by_) = z + by_ := by rw [IntKind.wrap_i64]; omega
          have hlen : (a ++ (movedL b by_).take k).length ≤ 100000000000 := by
            rw [List.length_append, List.length_take, HML.out]; omega
          have hs1 : w.heap.size ≤ W1.heap.size := HBW.out.size
          have HTK := Lib.hid htk
          have HLEN := Lib.hid hlen
          have HOW := Lib.hid (fun c (e : u8.ownBlock = some c) => (show w.heap.size ≤ c from by obtain ⟨xs, h1, _⟩ := HO1.out; exact (World.ownsRow.lt h1 c e).1))
          obtain ⟨px, cx, rfl, hx5, hx6, hx7⟩ := hx.shape
          clear hx hxw hb1 hz htk hlen hdb hx5 hx7 HO hc1 hc2
          go_wp2_with fail
          refine RK.begin_ (T := fun c => c < w.heap.size) [(0, true), (1, true), (2, true), (3, true), (4, true), (5, true), (6, true), (7, true), (8, true), (9, true), (10, true), (11, true), (12, true), (13, true), (14, false), (15, false), (16, true)] (by kernel_rfl) (by kernel_rfl) rfl (by kernel_rfl) (fun _ _ d _ _ h => by cases d <;> exact h) ?_
          simp only [RK.ordered, List.map_cons, List.map_nil, List.getElem?_toArray, List.getElem?_cons_succ, List.getElem?_cons_zero]
          rw [hW1]
          have f1 := fun W (hW : Kep (fun c => c < w.heap.size) W1 W) => HC1.out W (HBW.out.trans (hW.below hs1 (fun _ h => h)))
          have f2 := fun W (hW : Kep (fun c => c < w.heap.size) W1 W) => HC2.out W (HBW.out.trans (hW.below hs1 (fun _ h => h)))
          repeat ((first | (refine RK.take (by rfl) (by intro W hW; go_simp; with_reducible rfl) ?_) | (refine RK.skip (by rfl) ?_) | (refine RK.alone_skip (by rfl) ?_)); simp only [Act.put, List.setIfInBounds_toArray, List.set_cons_zero, List.set_cons_succ])
          refine RK.alone (by rfl) (fun K hK => ?_)
          go_simp
          refine hK.out _ _ (kep_alloc _ _ _) ?_
          clear hK K f1 f2
          repeat ((first | (refine RK.take (by rfl) (by intro W hW; go_simp; with_reducible rfl) ?_) | (refine RK.skip (by rfl) ?_) | (refine RK.alone_skip (by rfl) ?_)); simp only [Act.put, List.setIfInBounds_toArray, List.set_cons_zero, List.set_cons_succ])
          refine RK.alone (by rfl) (fun K hK => ?_)
          refine wp_append_post _ _ rfl w.heap.size _ (a ++ (movedL b by_).take k) W1 (z + by_) _ qs rfl rfl HO1.out HX1.out rfl HLEN.out hs1 (fun v7 w7 ho7 hb7 hk7 => ?_)
          go_simp
          refine hK.out _ _ (hk7.mono' fun c hc hT e => by have := HOW.out c e; omega) ?_
          have HO7 := Lib.hid (show OwnP w.heap.size w7 v7 (a ++ (movedL b by_).take (k + 1)) by rw [HTK.out, ← List.append_assoc]; exact ho7)
          have HB7 := Lib.hid (HBW.out.trans hb7)
          clear hK K ho7 hb7 hk7 HO1 HX1
          repeat ((first | (refine RK.take (by rfl) (by intro W hW; go_simp; with_reducible rfl) ?_) | (refine RK.skip (by rfl) ?_) | (refine RK.alone_skip (by rfl) ?_)); simp only [Act.put, List.setIfInBounds_toArray, List.set_cons_zero, List.set_cons_succ])
          refine RK.done ?_
          go_wp2_with fail
          go_roundw
          case rel => exact ⟨k + 1, by omega, by go_num, HO7, HB7⟩
          case measure => simp [intOf]; omega
        · obtain rfl : k = b.length := by omega
          have t3 : decide ((b.length : Int) < (b.length : Int)) = false := by simp
          have ho := HO.out
          rw [HE.out] at ho
          have HP := Lib.hid ho.prow
          obtain ⟨T, hT⟩ : ∃ T, a ++ movedL b by_ = T := ⟨_, rfl⟩
          rw [hT] at HP HY HNN
          have KT := Lib.hid (is_any _ T wr HP.out)
          clear ho HO hT
          cases hTT : isL T with
          | true =>
            rw [hTT] at KT
            have HR := Lib.hid (HY.out hTT)
            clear hTT
            go_wp2_with fail
            refine KT.out.mono ?_
            rintro e w5 ⟨rfl, b5⟩
            have HB5 := Lib.hid (grow HB.out b5)
            have HP5 := Lib.hid (HP.out.below b5)
            clear b5 KT
            go_wp2_with fail
            go_ret2
            rw [HR.out]
            exact ⟨_, rfl, HP5.out, HB5.out⟩
          | false =>
            rw [hTT] at KT
            have HR := Lib.hid (HNN.out hTT)
            clear hTT
            go_wp2_with fail
            refine KT.out.mono ?_
            rintro e w5 ⟨rfl, b5⟩
            have HB5 := Lib.hid (grow HB.out b5)
            clear b5 KT
            go_wp2_with fail
            go_ret2
            rw [HR.out]
            exact ⟨_, rfl, POn.nil_ _ _, HB5.out⟩
end Go.Proofs.Ytdgjbhejokmeoaa.PW
