/-
  The law CrcDigests returns true. Condition: the argument reads as data.
-/
import Derived.Test.YtddhodmkcphggaaCrcAwake
set_option linter.unusedVariables false
namespace Go.Proofs.Ytddhodmkcphggaa.CR
open Go.RowKit Go.Proofs.Ytddhodmkcphggaa.MM Go.Proofs.Ytddhodmkcphggaa.CM

/-- A slice of structs of a byte and a slice of bytes, all below block B. -/
def ORow (B : Nat) (w : World) (v : Value) (os : List (UInt8 × List UInt8)) : Prop :=
  ∃ (p : Option Addr) (cap : Nat), v = .slice p os.length cap ∧ os.length ≤ cap ∧ cap ≤ maxLen ∧
    (os = [] ∨ ∃ b off, p = some ⟨b, off, none⟩ ∧ b < B ∧ ∀ i (h : i < os.length), w.cell? ⟨b, off + i * 2, none⟩ = some (.int .u8 (os[i].1.toNat : Int)) ∧
      ∃ x, w.cell? ⟨b, off + i * 2 + 1, none⟩ = some x ∧ BIn B w x os[i].2)
theorem ORow.shape {B : Nat} {w : World} {v : Value} {os : List (UInt8 × List UInt8)} (h : ORow B w v os) : ∃ p cap, v = .slice p os.length cap ∧ os.length ≤ cap ∧ cap ≤ maxLen := by
  obtain ⟨p, cap, hv, h1, h2, _⟩ := h
  exact ⟨p, cap, hv, h1, h2⟩
theorem ORow.below {B : Nat} {w w' : World} {v : Value} {os : List (UInt8 × List UInt8)} (h : ORow B w v os) (hb : Below B w w') : ORow B w' v os := by
  obtain ⟨p, cap, hv, h1, h2, h⟩ := h
  refine ⟨p, cap, hv, h1, h2, ?_⟩
  rcases h with h | ⟨b, off, hp, hlt, hc⟩
  · exact .inl h
  · refine .inr ⟨b, off, hp, hlt, fun i hi => ?_⟩
    obtain ⟨h3, x, h4, h5⟩ := hc i hi
    exact ⟨by rw [hb.cell (p := ⟨b, off + i * 2, none⟩) hlt]; exact h3, x, by rw [hb.cell (p := ⟨b, off + i * 2 + 1, none⟩) hlt]; exact h4, h5.below hb⟩
theorem ORow.at_ {B : Nat} {w : World} {p : Option Addr} {n cap : Nat} {os : List (UInt8 × List UInt8)} (h : ORow B w (.slice p n cap) os) {i : Nat} (hi : i < os.length) :
    ∃ b off x, p = some ⟨b, off, none⟩ ∧ w.cell? ⟨b, off + i * 2, none⟩ = some (.int .u8 (os[i].1.toNat : Int)) ∧ w.cell? ⟨b, off + i * 2 + 1, none⟩ = some x ∧ BIn B w x os[i].2 := by
  obtain ⟨p', cap', hv, _, _, h⟩ := h
  simp only [Value.slice.injEq] at hv
  obtain ⟨rfl, _, _⟩ := hv
  rcases h with h | ⟨b, off, hp, hlt, hc⟩
  · subst h; simp at hi
  · obtain ⟨h3, x, h4, h5⟩ := hc i hi
    exact ⟨b, off, x, hp, h3, h4, h5⟩

/-! ### what stays -/
theorem keep_dig {w w' : World} {g g' s n : Nat} (h : DigAt w g' s n) (hg : w.grownBy w' (some g)) (hne : g' ≠ g) : DigAt w' g' s n :=
  (hg.block g' h.lt (by intro e; injection e with e; exact hne e)).trans h
theorem keep_own {w w' : World} {B g : Nat} {v : Value} {l : List UInt8} (h : OwnB B w v l) (hg : w.grownBy w' (some g)) (hB : g < B) : OwnB B w' v l :=
  World.ownsRow.kept h hg (by
    rcases hv : v.ownBlock with _ | k
    · exact .inl rfl
    · right
      intro e
      injection e with e
      have := (World.ownsRow.lt h k hv).1
      omega)
theorem keep_below {w0 w w' : World} {g : Nat} (h : Below w0.heap.size w0 w) (hg : w.grownBy w' (some g)) (hB : w0.heap.size ≤ g) : Below w0.heap.size w0 w' :=
  Below.grown h hg h.size (fun k hk => by injection hk with hk; omega)
theorem below_of_grown {w w' : World} {g B : Nat} (hg : w.grownBy w' (some g)) (hB : B ≤ g) (hw : B ≤ w.heap.size) : Below B w w' :=
  Below.grown (Below.refl _ _) hg hw (fun k hk => by injection hk with hk; omega)
/-- Two digests and a row of the same bytes. -/
structure St (w0 : World) (B g1 g2 : Nat) (L : List UInt8) (av : Value) (w : World) : Prop where
  d1 : DigAt w g1 (sumL L) L.length
  d2 : DigAt w g2 (sumL L) L.length
  own : OwnB B w av L
  bel : Below w0.heap.size w0 w
  room : B ≤ w.heap.size
theorem St.drewN {w0 : World} {B g1 g2 : Nat} {L : List UInt8} {av : Value} {w : World} (h : St w0 B g1 g2 L av w) (n : Nat) : St w0 B g1 g2 L av (w.drewN n) :=
  ⟨h.d1, h.d2, h.own, below_drewN h.bel n, h.room⟩
theorem sum_more (L l : List UInt8) : nextL (sumL L) l = sumL (L ++ l) := by unfold sumL; rw [nextL_append]
theorem own_nil (B : Nat) (w : World) : OwnB B w (.slice none 0 0) [] := World.ownsRow_nil _ _ _ _
theorem sum_none_bytes : sumL [] = 0 := nextL_nil (by omega)

set_option maxRecDepth 100000 in
set_option maxHeartbeats 4000000 in
theorem digests_walk (v0 : Value) (os : List (UInt8 × List UInt8)) (w : World) (h0 : ORow w.heap.size w v0 os) :
    Calls Try.prog 4 #[v0] w fun e w' => e = .returned (.bool true) ∧ Below w.heap.size w w' := by
  obtain ⟨p, cap, rfl, hlc, hcm⟩ := h0.shape
  unfold maxLen at hcm
  have HP := Lib.hid h0
  clear h0
  go_enter Try.func4, Try.ntmps4
  go_wp2_with fail
  refine (new_any _).mono ?_
  rintro e w1 ⟨rfl, hw1⟩
  have hd1 := dig_new w
  have hb1 : Below w.heap.size w (w.alloc (.cells #[.int .u32 0, .int .i64 0] 35)) := (Below.refl _ _).alloc (Nat.le_refl _) _
  rw [← hw1] at hd1 hb1
  clear hw1
  obtain ⟨w2, hw2⟩ : ∃ w2, w1.alloc (.cells #[.int .u32 0, .int .i64 0] 35) = w2 := ⟨_, rfl⟩
  have hd2 := dig_new w1
  have hb2 : Below w1.heap.size w1 (w1.alloc (.cells #[.int .u32 0, .int .i64 0] 35)) := (Below.refl _ _).alloc (Nat.le_refl _) _
  rw [hw2] at hd2 hb2
  have hd12 := hd1.below hb2 hd1.lt
  have hlt1 := hd1.lt
  have hbb := grow hb1 hb2
  have HW2 := Lib.hid hw2
  clear hw2
  go_wp2_with fail
  rw [HW2.out]
  refine (awake_any _).mono ?_
  rintro e w3 ⟨rfl, b3⟩
  have hst : St w w3.heap.size w.heap.size w1.heap.size [] (.slice none 0 0) w3 :=
    ⟨by rw [sum_none_bytes]; exact hd12.below b3 hd12.lt, by rw [sum_none_bytes]; exact hd2.below b3 hd2.lt, own_nil _ _, grow hbb b3, Nat.le_refl _⟩
  have hg1 : w.heap.size < w3.heap.size := by have := hd12.lt; have := b3.size; omega
  have hg2 : w1.heap.size < w3.heap.size := by have := hd2.lt; have := b3.size; omega
  have hg12 : w.heap.size < w1.heap.size := hlt1
  have HST := Lib.hid hst
  obtain ⟨B, hB⟩ : ∃ B, w3.heap.size = B := ⟨_, rfl⟩
  obtain ⟨g1, hg1e⟩ : ∃ g, w.heap.size = g := ⟨_, rfl⟩
  obtain ⟨g2, hg2e⟩ : ∃ g, w1.heap.size = g := ⟨_, rfl⟩
  have HG1 := Lib.hid hg1e
  have HG2 := Lib.hid hg2e
  have HBe := Lib.hid hB
  rw [hB, hg1e, hg2e] at HST
  rw [hB] at hg1 hg2
  rw [hg1e] at hg1 hg12
  rw [hg2e] at hg2 hg12
  clear hd1 hd2 hd12 hb1 hb2 hbb b3 hst hB hg1e hg2e HW2 hlt1
  go_wp2_with fail
  rw [HG1.out, HG2.out]
  go_loopw [6, 7] (fun av i wr => ∃ (I : Nat) (L : List UInt8), I ≤ os.length ∧ I ≤ 40 ∧ i = .int .i64 I ∧ L.length ≤ 200 * I ∧ Hid (St w B g1 g2 L av wr)) (fun _ i _ => os.length - (intOf i).toNat)
  case atStart => exact ⟨0, [], by omega, by omega, rfl, by simp, HST⟩
  case round =>
    obtain ⟨I, L, hI, hI40, rfl, hL, HS⟩ := hrel
    clear HST
    by_cases hgo : I < os.length ∧ I < 40
    · obtain ⟨hlt, hlt40⟩ := hgo
      obtain ⟨b, off, x, rfl, hkind, hcellx, hx⟩ := (HP.out.below HS.out.bel).at_ hlt
      generalize os[I].1 = K at *
      generalize os[I].2 = l at *
      obtain ⟨p2, cap2, rfl, hc2, hm2⟩ := hx.shape
      unfold maxLen at hm2
      obtain ⟨m, hm⟩ : ∃ m : Nat, min l.length 200 = m := ⟨_, rfl⟩
      have hmin : min (l.length : Int) 200 = (m : Int) := by omega
      have hmc : (m : Int) ≤ cap2 := by omega
      have hI1 : (I : Int) < os.length := by omega
      have hI2 : (I : Int) < 40 := by omega
      go_wp2_with fail
      go_quiet (fail)
      have hif : (if (200 : Int) < (l.length : Int) then (200 : Int) else (l.length : Int)) = (m : Int) := by split <;> omega
      simp only [hif, Int.toNat_natCast]
      have hSd := HS.out.drewN nq
      have hkd : (wr.drewN nq).cell? ⟨b, off + I * 2, none⟩ = some (.int .u8 (K.toNat : Int)) := hkind
      have hxd : BIn w.heap.size (wr.drewN nq) (.slice p2 m cap2) (l.take m) := (hx.take m (by omega)).drewN nq
      have hll : (l.take m).length = m := by rw [List.length_take]; omega
      have hm200 : m ≤ 200 := by omega
      generalize wr.drewN nq = wd at *
      generalize l.take m = c at *
      clear hif hmin hmc hm hx hkind hcellx HS hc2
      have HSd := Lib.hid hSd
      have HX := Lib.hid hxd
      clear hSd hxd
      subst hll
      have hw1 : w.heap.size ≤ g1 := by rw [HG1.out]; omega
      by_cases hK : K.toNat % 3 = 2
      · have hk3 : ((K.toNat : Int) % 3 == 2) = true := by rw [beq_iff_eq]; omega
        go_wp2_with fail
        refine (reset_any _ _ _ _ HSd.out.d1).mono ?_
        rintro e wa ⟨rfl, da, ga⟩
        have db := keep_dig HSd.out.d2 ga (by omega)
        have bla := keep_below HSd.out.bel ga hw1
        have sza := ga.size
        go_wp2_with fail
        refine (reset_any _ _ _ _ db).mono ?_
        rintro e wc ⟨rfl, dc, gc⟩
        have da2 := keep_dig da gc (by omega)
        have blc := keep_below bla gc (by omega)
        have szc := gc.size
        have HSn : Hid (St w B g1 g2 [] (.slice none 0 0) wc) := Lib.hid ⟨by rw [sum_none_bytes]; exact da2, by rw [sum_none_bytes]; exact dc, own_nil _ _, blc, by have := HSd.out.room; omega⟩
        clear da db dc da2 ga gc bla blc
        go_wp2_with fail
        refine (reset_none _).mono ?_
        rintro e w9 ⟨rfl, rfl⟩
        have c1 := Lib.hid (dsum_any _ _ _ _ HSn.out.d1)
        have c2 := Lib.hid (rof_any _ _ _ HSn.out.own.brow)
        have c3 := Lib.hid (dsum_any _ _ _ _ HSn.out.d2)
        have c4 := Lib.hid (dlen_any _ _ _ _ HSn.out.d1)
        have c5 := Lib.hid (dlen_any _ _ _ _ HSn.out.d2)
        go_wp2_with fail
        refine c1.out.mono ?_
        rintro e w9 ⟨rfl, rfl⟩
        go_wp2_with fail
        refine c2.out.mono ?_
        rintro e w9 ⟨rfl, rfl⟩
        go_wp2_with fail
        refine c3.out.mono ?_
        rintro e w9 ⟨rfl, rfl⟩
        go_wp2_with fail
        refine c2.out.mono ?_
        rintro e w9 ⟨rfl, rfl⟩
        go_wp2_with fail
        refine c4.out.mono ?_
        rintro e w9 ⟨rfl, rfl⟩
        go_wp2_with fail
        refine c5.out.mono ?_
        rintro e w9 ⟨rfl, rfl⟩
        go_wp2_with fail
        refine (len_none _).mono ?_
        rintro e w9 ⟨rfl, rfl⟩
        go_wp2_with fail
        refine (sum_none _).mono ?_
        rintro e w9 ⟨rfl, rfl⟩
        go_wp2_with fail
        go_roundw
        case rel => exact ⟨I + 1, [], by omega, by omega, by go_num, by simp, HSn⟩
        case measure => simp [intOf]; omega
      · have hk3 : ((K.toNat : Int) % 3 == 2) = false := by rw [beq_eq_false_iff_ne]; omega
        have hsl := nextL_lt 0 L
        have hsl' : sumL L < 4294967296 := hsl
        have hroom := HSd.out.room
        have hbs := HSd.out.bel.size
        go_wp2_with fail
        refine (write_any _ _ _ _ _ _ HSd.out.d1 (HX.out.row hbs) hsl' (by omega)).mono ?_
        rintro e wa ⟨rfl, da, ga⟩
        rw [sum_more] at da
        have db := keep_dig HSd.out.d2 ga (by omega)
        have oa := keep_own HSd.out.own ga hg1
        have xa := HX.out.below (below_of_grown ga hw1 hbs)
        have bla := keep_below HSd.out.bel ga hw1
        have sza := ga.size
        have DA := Lib.hid da
        have OA := Lib.hid oa
        have DB := Lib.hid db
        have XA := Lib.hid xa
        have BLA := Lib.hid bla
        clear da db oa xa bla ga
        go_wp2_with fail
        refine (write_any _ _ _ _ _ _ DB.out (XA.out.row (by omega)) hsl' (by omega)).mono ?_
        rintro e wc ⟨rfl, dc, gc⟩
        rw [sum_more] at dc
        have da2 := keep_dig DA.out gc (by omega)
        have oc := keep_own OA.out gc hg2
        have xc := XA.out.below (below_of_grown gc (by omega) (by omega))
        have blc := keep_below BLA.out gc (by omega)
        have szc := gc.size
        have DA2 := Lib.hid da2
        have DC := Lib.hid dc
        have OC := Lib.hid oc
        have XC := Lib.hid xc
        have BLC := Lib.hid blc
        clear da2 dc oc xc blc gc DA OA DB XA BLA
        go_wp2_with fail
        refine (write_none _ _).mono ?_
        rintro e w9 ⟨rfl, rfl⟩
        obtain ⟨pu, capu, rfl, _, _⟩ := OC.out.brow.shape
        go_wp2_with (at_builtin; refine wpList_append_bytes rfl _ _ rfl B _ L rfl OC.out _ c rfl (XC.out.row (by omega)) (by omega) (by omega) ?_)
        intro v2 wn hown2 hbn
        have HSn : Hid (St w B g1 g2 (L ++ c) v2 wn) := Lib.hid ⟨by rw [List.length_append]; exact DA2.out.below hbn hg1, by rw [List.length_append]; exact DC.out.below hbn hg2, hown2, BLC.out.trans (hbn.mono (by omega)), by have := hbn.size; omega⟩
        obtain ⟨L2, hL2⟩ : ∃ L2, L ++ c = L2 := ⟨_, rfl⟩
        have hL2l : L2.length ≤ 200 * (I + 1) := by rw [← hL2, List.length_append]; omega
        rw [hL2] at HSn
        clear hown2 hbn DA2 DC OC XC BLC hL2
        obtain ⟨pa, capa, rfl, _, _⟩ := HSn.out.own.brow.shape
        have c1 := Lib.hid (dsum_any _ _ _ _ HSn.out.d1)
        have c2 := Lib.hid (rof_any _ _ _ HSn.out.own.brow)
        have c3 := Lib.hid (dsum_any _ _ _ _ HSn.out.d2)
        have c4 := Lib.hid (dlen_any _ _ _ _ HSn.out.d1)
        have c5 := Lib.hid (dlen_any _ _ _ _ HSn.out.d2)
        go_wp2_with fail
        refine c1.out.mono ?_
        rintro e w9 ⟨rfl, rfl⟩
        go_wp2_with fail
        refine c2.out.mono ?_
        rintro e w9 ⟨rfl, rfl⟩
        go_wp2_with fail
        refine c3.out.mono ?_
        rintro e w9 ⟨rfl, rfl⟩
        go_wp2_with fail
        refine c2.out.mono ?_
        rintro e w9 ⟨rfl, rfl⟩
        go_wp2_with fail
        refine c4.out.mono ?_
        rintro e w9 ⟨rfl, rfl⟩
        go_wp2_with fail
        refine c5.out.mono ?_
        rintro e w9 ⟨rfl, rfl⟩
        go_wp2_with fail
        refine (len_none _).mono ?_
        rintro e w9 ⟨rfl, rfl⟩
        go_wp2_with fail
        refine (sum_none _).mono ?_
        rintro e w9 ⟨rfl, rfl⟩
        go_wp2_with fail
        go_roundw
        case rel => exact ⟨I + 1, L2, by omega, by omega, by go_num, hL2l, HSn⟩
        case measure => simp [intOf]; omega
    · have hend : os.length ≤ I ∨ 40 ≤ I := by omega
      have HB := Lib.hid HS.out.bel
      clear HS hgo
      by_cases hlt : I < os.length
      · have h40 : (40 : Int) ≤ I := by omega
        have hlt' : (I : Int) < os.length := by omega
        go_wp2_with fail
        go_ret
        exact ⟨rfl, HB.out⟩
      · have hge : (os.length : Int) ≤ I := by omega
        go_wp2_with fail
        go_ret
        exact ⟨rfl, HB.out⟩
end Go.Proofs.Ytddhodmkcphggaa.CR
