/-
  The batch of any bytes: the code's Decode. No condition. bytes.Clone. Condition: fewer than 10^12 bytes. The event that stands first in any bytes: the code's Get. Condition: fewer than 10^12 bytes. The event that stands first in any bytes: the reference's Get. No condition.
-/
import Derived.Test.YtgacfihidpijeaaZD20
import Derived.Test.YtgacfihidpijeaaZD14
import Derived.Test.YtgacfihidpijeaaZD16
import Derived.Lib.SliceRun
set_option linter.unusedVariables false
namespace Go.Proofs.Ytgacfihidpijeaa.EV
open Go Go.RowKit Go.Proofs.Ytgacfihidpijeaa.MM Go.Proofs.Ytgacfihidpijeaa.EM Go.Proofs.Ytgacfihidpijeaa.VM

theorem evE : Elem evC Try.prog 32 24 32 := ⟨Try.underlying32, by
  have h : (Try.prog.info? 24).map (fun i => (i.zero, i.size, i.bytes)) = some (some (.agg #[.int .i64 0, .slice none 0 0]), 2, 32) := by kernel_rfl
  obtain ⟨i, h1, h2, h3, h4⟩ := info_parts h
  exact ⟨i, _, h1, h2, h3, h4, rfl⟩⟩
theorem infoBat2 : (Try.prog.info? 34).map (·.size) = some 2 := by kernel_rfl
/-- What Decode tells: a batch, an error's number. -/
def decR (l : List UInt8) : Bat × Int := match decB l with
  | some b => (b, 0)
  | none => ((0, []), 100)
theorem decR_some {l : List UInt8} {b : Bat} (h : decB l = some b) : decR l = (b, 0) := by unfold decR; rw [h]
theorem decR_none {l : List UInt8} (h : decB l = none) : decR l = ((0, []), 100) := by unfold decR; rw [h]
theorem dec_bad {l : List UInt8} (h : (decSt l).2.2 = true ∨ 0 < (decSt l).2.1.length ∨ checkB (decSt l).1 ≠ 0) : decB l = none := by
  unfold decB
  cases hr : rdB l with
  | none => rfl
  | some p =>
    obtain ⟨b, r⟩ := p
    have e := decSt_some hr
    rw [e] at h
    dsimp only at h ⊢
    rw [if_pos (h.elim (fun h => by cases h) id)]
theorem checkB_all {b : Bat} (h : checkB b = 0) : ∀ e ∈ b.2, checkE e = 0 := (checkB_ok h).2.2.1
theorem dec_good {l : List UInt8} (h1 : (decSt l).2.2 = false) (h2 : (decSt l).2.1.length = 0) (h3 : checkB (decSt l).1 = 0) : decB l = some (decSt l).1 := by
  unfold decB
  cases hr : rdB l with
  | none =>
    rcases decSt_none hr with h | ⟨e, he, hne⟩
    · rw [h] at h1; cases h1
    · exact absurd (checkB_all h3 e he) hne
  | some p =>
    obtain ⟨b, r⟩ := p
    have e := decSt_some hr
    rw [e] at h2 h3 ⊢
    dsimp only at h2 h3 ⊢
    rw [if_neg (fun h => h.elim (fun h => by omega) (fun h => h h3))]
/-- Blocks of fields are no blocks of events. -/
theorem isF_apt {B : Nat} {w : World} {b : Nat} (h : IsF w b) : Apt 24 B w b := .inr fun cur fr hc => by
  obtain ⟨c2, f2, h2⟩ := h
  rw [h2] at hc
  simp only [Option.some.injEq, Obj.cells.injEq] at hc
  exact absurd hc.2.1 (by decide)
theorem isF_own {B : Nat} {S : Nat → Prop} {w : World} {v : Value} {es : List Ev} (h : OwnX evC 24 B S w v es) {b : Nat} (hb : IsF w b) : v.ownBlock ≠ some b := fun e => by
  obtain ⟨_, _, c1, f1, h1⟩ := h.cells e
  obtain ⟨c2, f2, h2⟩ := hb
  rw [h2] at h1
  simp only [Option.some.injEq, Obj.cells.injEq] at h1
  exact absurd h1.2.1 (by decide)
/-- What Decode leaves. -/
def DecLeft (s : Bat × Int) (w : World) (e : Ending) (w' : World) : Prop :=
  ∃ u, e = .returned (.tuple #[.agg #[.int .i64 s.1.1, u], .int .i64 s.2]) ∧ RAny evC w' u s.1.2 ∧ Below w.heap.size w w'

set_option maxRecDepth 100000 in
set_option maxHeartbeats 4000000 in
theorem cdec_any (v : Value) (l : List UInt8) (w : World) (hv : BRow w v l) : Calls Try.prog 33 #[v] w (DecLeft (decR l) w) := by
  have hmx : Try.prog.follows .mixedOrders = true := by kernel_rfl
  obtain ⟨pv, cv, rfl, _⟩ := hv.shape
  obtain ⟨n, l1, o1, hn⟩ : ∃ n l1 o1, numSt 1099511627776 l false = (n, l1, o1) := ⟨_, _, _, rfl⟩
  obtain ⟨N, l2, o2, hm⟩ : ∃ N l2 o2, numSt 64 l1 o1 = (N, l2, o2) := ⟨_, _, _, rfl⟩
  have hN : N ≤ 64 := by have := num_le 64 l1 o1; rw [hm] at this; exact this
  have hst : decSt l = (((n : Int), (evsN N ([], l2, o2)).1), (evsN N ([], l2, o2)).2.1, (evsN N ([], l2, o2)).2.2) := by
    unfold decSt
    rw [hn]
    dsimp only
    rw [hm]
  have hbad := dec_bad (l := l)
  have hgood := dec_good (l := l)
  rw [hst] at hbad hgood
  have HBAD := Lib.hid hbad
  have HGOOD := Lib.hid hgood
  obtain ⟨R, hR⟩ : ∃ R, w.heap.size = R := ⟨_, rfl⟩
  -- the result's block, the reader's
  obtain ⟨wa, hwa⟩ : ∃ wa, (w.alloc (.cells #[.int .i64 0, .slice none 0 0] 34)).alloc (.cells #[.slice pv l.length cv, .bool false] 80) = wa := ⟨_, rfl⟩
  have hba : Below w.heap.size w wa := by rw [← hwa]; exact ((Below.refl _ _).alloc (Nat.le_refl _) _).alloc (by simp) _
  have hsa : wa.heap.size = R + 2 := by rw [← hwa, ← hR]; simp
  have t0 : Two wa R 34 (.int .i64 0) (.slice none 0 0) := by
    rw [← hwa, ← hR]; exact (two_new w 34 _ _).keep (kep_alloc (fun _ => True) _ _) trivial
  have hrd : Rd R wa (R + 1) l false := by
    refine ⟨.slice pv l.length cv, ?_, by rw [← hR]; exact BIn.below hv hba⟩
    rw [← hwa, ← hR]
    have := heap_alloc_new (w.alloc (.cells #[.int .i64 0, .slice none 0 0] 34)) (.cells #[.slice pv l.length cv, .bool false] 80)
    simp only [World.size_alloc] at this
    exact this
  have HN := Lib.hid (show Calls Try.prog 54 #[.pointer (some ⟨R + 1, 0, none⟩), .int .i64 1099511627776] wa (Took R (R + 1) (.int .i64 n) l1 o1 wa) from by have := number_any R (R + 1) 1099511627776 l false wa (by omega) hrd (by omega); rw [hn] at this; exact this)
  have HM := Lib.hid (fun W (h : Rd R W (R + 1) l1 o1) => (show Calls Try.prog 54 #[.pointer (some ⟨R + 1, 0, none⟩), .int .i64 64] W (Took R (R + 1) (.int .i64 N) l2 o2 W) from by have := number_any R (R + 1) 64 l1 o1 W (by omega) h (by omega); rw [hm] at this; exact this))
  have HFAIL : Hid (∀ W a b, Two W R 34 a b → Below w.heap.size w W → decB l = none →
      DecLeft (decR l) w (.returned (.tuple #[.agg #[.int .i64 0, .slice none 0 0], .int .i64 100])) ((W.setCell ⟨R, 0, none⟩ (.int .i64 0)).setCell ⟨R, 1, none⟩ (.slice none 0 0))) := Lib.hid (fun W a b ht hb hn => by
    rw [decR_none hn]
    exact ⟨_, rfl, ROn.nil_ _ _, hb.trans ((kep_set01 (.int .i64 0) (.slice none 0 0)).below (B := w.heap.size) (by have := ht.lt; omega) (fun k hk => by omega))⟩)
  have T0 := Lib.hid t0
  have HBA := Lib.hid hba
  have HWA := Lib.hid hwa
  clear hbad hgood hst hrd t0 hba hv hwa hn hm
  go_enter Try.func33, Try.ntmps33
  go_wp2_with fail
  rw [HWA.out]
  refine HN.out.mono ?_
  rintro e w1 ⟨rfl, hr1, hk1⟩
  have hs1 := hk1.size
  obtain ⟨q, hq⟩ : ∃ q, w1.heap.size = q := ⟨_, rfl⟩
  have t1 := T0.out.keep hk1 (by omega)
  have hka : Kep (fun _ => True) w1 (w1.alloc (.cells #[.int .i64 (n : Int), .slice none 0 0] 34)) := kep_alloc _ _ _
  have n1 := two_new w1 34 (.int .i64 (n : Int)) (.slice none 0 0)
  rw [hq] at n1
  have hsq : (w1.alloc (.cells #[.int .i64 (n : Int), .slice none 0 0] 34)).heap.size = q + 1 := by simp [hq]
  have HM1 := Lib.hid (HM.out (w1.alloc (.cells #[.int .i64 (n : Int), .slice none 0 0] 34)) (hr1.keep hka trivial (fun _ _ => trivial) (by omega)))
  have HT1 := Lib.hid (t1.keep hka trivial)
  have HX1 := Lib.hid n1
  have HK1 : Hid (Kep (fun b => b ≠ R + 1) wa (w1.alloc (.cells #[.int .i64 (n : Int), .slice none 0 0] 34))) := Lib.hid (hk1.trans (hka.mono fun _ _ => trivial))
  clear hr1 hk1 t1 n1 hka HN HM T0
  go_wp2_with fail
  refine HM1.out.mono ?_
  rintro e w3 ⟨rfl, hr3, hk3⟩
  have hs3 := hk3.size
  rw [hsq] at hs3
  have hqa : R + 2 ≤ q := by omega
  have HR3 := Lib.hid hr3
  have HT3 := Lib.hid (HT1.out.keep hk3 (by omega))
  have HX3 := Lib.hid (HX1.out.keep hk3 (by omega))
  have HK3 := Lib.hid (HK1.out.trans hk3)
  have HO3 := Lib.hid (OwnX.nil_ (C := evC) 24 (q + 1) (fun _ => False) w3)
  have HS3 : Hid (∀ b, (fun _ => False) b → q < b ∧ IsF w3 b) := Lib.hid (fun _ h => h.elim)
  clear hr3 hk3 HM1 HT1 HX1 HK1
  go_wp2_with fail
  go_loopw [11] (fun iv wr => ∃ (i : Nat) (u : Value) (S : Nat → Prop), i ≤ N ∧ iv = .int .i64 i ∧ Hid (OwnX evC 24 (q + 1) S wr u (evsN i ([], l2, o2)).1) ∧ Hid (∀ b, S b → q < b ∧ IsF wr b) ∧ Hid (Two wr q 34 (.int .i64 (n : Int)) u) ∧ Hid (Two wr R 34 (.int .i64 0) (.slice none 0 0)) ∧ Hid (Rd R wr (R + 1) (evsN i ([], l2, o2)).2.1 (evsN i ([], l2, o2)).2.2) ∧ Hid (Kep (fun b => b ≠ R + 1) wa wr)) (fun iv _ => N - (intOf iv).toNat)
  case atStart => exact ⟨0, _, _, by omega, rfl, HO3, HS3, HX3, HT3, HR3, HK3⟩
  case round =>
    obtain ⟨i, u, S, hi, rfl, HO, HS, HX, HT, HR, HK⟩ := hrel
    clear HO3 HS3 HX3 HT3 HR3 HK3
    have hqw := HX.out.lt
    have hlen := evsN_len i ([], l2, o2)
    by_cases hlt : i < N
    · have q1 : decide ((i : Int) < (N : Int)) = true := by rw [decide_eq_true_eq]; omega
      obtain ⟨es, li, oi, hsi⟩ : ∃ es li oi, evsN i ([], l2, o2) = (es, li, oi) := ⟨_, _, _, rfl⟩
      obtain ⟨z, fs, l4, o4, hev⟩ : ∃ z fs l4 o4, evSt li oi = ((z, fs), l4, o4) := ⟨_, _, _, _, rfl⟩
      have hnx : evsN (i + 1) ([], l2, o2) = (es ++ [(z, fs)], l4, o4) := by
        rw [evsN, hsi]
        unfold stepE
        dsimp only
        rw [hev]
      rw [hsi] at HO HR hlen
      have hel : es.length ≤ 64 := by simp at hlen; omega
      have HNX := Lib.hid hnx
      have HE := Lib.hid (fun W (h : Rd R W (R + 1) li oi) => (show Calls Try.prog 48 #[.pointer (some ⟨R + 1, 0, none⟩)] W (EvTook R (R + 1) ((z, fs), l4, o4) W) from by have := event_any R (R + 1) li oi W h (by omega); rw [hev] at this; exact this))
      have HLT := Lib.hid hlt
      clear hsi hev hnx hlt hlen
      go_wp2_with fail
      refine RS.begin_ (T := fun b => b ≠ R + 1 ∧ u.ownBlock ≠ some b) [(0, true), (1, true), (2, false), (3, false), (4, false), (5, true)] hmx (by kernel_rfl) (fun _ _ d _ _ h => by cases d <;> exact h) ?_
      simp only [RS.ordered, List.map_cons, List.map_nil, List.getElem?_toArray, List.getElem?_cons_succ, List.getElem?_cons_zero]
      have hub : u.ownBlock ≠ some q := fun e => by have := (HO.out.cells e).1; omega
      have hug : u.ownBlock ≠ some (R + 1) := fun e => by have := (HO.out.cells e).1; omega
      have huR : u.ownBlock ≠ some R := fun e => by have := (HO.out.cells e).1; omega
      obtain ⟨wd, hwd⟩ : ∃ wd, wr.drew = wd := ⟨_, rfl⟩
      have hkd : Kep (fun _ => True) wr wd := by rw [← hwd]; exact kep_draw _ _
      have hsd : wr.heap.size = wd.heap.size := by rw [← hwd]; rfl
      have hxd := HX.out.keep hkd trivial
      have G := Lib.hid (fun W (hW : Kep (fun b => b ≠ R + 1 ∧ u.ownBlock ≠ some b) wd W) => (show W.cell? ⟨q, 1, none⟩ = some u from (hxd.keep hW ⟨by omega, hub⟩).c1))
      have HOd := Lib.hid (HO.out.keep hkd (fun _ _ _ => trivial) (fun _ _ => trivial))
      have HSd : Hid (∀ b, S b → q < b ∧ IsF wd b) := Lib.hid (fun b hb => ⟨(HS.out b hb).1, (HS.out b hb).2.keep hkd trivial⟩)
      have HXd := Lib.hid hxd
      have HTd := Lib.hid (HT.out.keep hkd trivial)
      have HRd := Lib.hid (HR.out.keep hkd trivial (fun _ _ => trivial) (by omega))
      have HKd := Lib.hid (HK.out.trans (hkd.mono fun _ _ => trivial))
      rw [hwd]
      clear hwd hkd hxd HO HS HX HT HR HK
      repeat (refine RS.take (by rfl) (by intro W hW; have f1 := G.out W hW; go_simp; with_reducible rfl) ?_; simp only [Act.put, List.setIfInBounds_toArray, List.set_cons_zero, List.set_cons_succ])
      refine RS.alone (by rfl) (fun K hK => ?_)
      go_simp
      refine (HE.out wd HRd.out).mono ?_
      rintro e w5 ⟨ue, rfl, hue, hr5, hk5⟩
      dsimp only at hue hr5 ⊢
      obtain ⟨pe, ce, rfl, _⟩ := hue.shape
      go_simp
      refine hK.out _ _ (hk5.mono fun _ h => h.1) ?_
      clear hK K
      have hs5 := hk5.size
      have hS5 : ∀ b, S b → q < b ∧ IsF w5 b := fun b hb => ⟨(HSd.out b hb).1, (HSd.out b hb).2.keep hk5 (by have := (HSd.out b hb).1; omega)⟩
      have ho5 := (HOd.out.keep hk5 (fun b _ hb => by have := (HSd.out b hb).1; omega) (fun k hk => by have := (HOd.out.cells hk).1; omega)).weak (T := fun b => S b ∨ NewF wd w5 b) (fun b _ hb => .inl hb)
      have HO5 := Lib.hid ho5
      have HS5 : Hid (∀ b, (S b ∨ NewF wd w5 b) → q < b ∧ IsF w5 b) := Lib.hid (fun b hb => hb.elim (hS5 b) (fun h => ⟨by have := h.1; omega, h.2⟩))
      have HEV := Lib.hid (show evC.on (fun b => S b ∨ NewF wd w5 b) w5 [.int .i64 z, .slice pe fs.length ce] (z, fs) from ev_on.2 ⟨_, rfl, hue.weak fun b _ hb => .inr hb⟩)
      have HX5 := Lib.hid (HXd.out.keep hk5 (by omega))
      have HT5 := Lib.hid (HTd.out.keep hk5 (by omega))
      have HR5 := Lib.hid hr5
      have HK5 := Lib.hid (HKd.out.trans hk5)
      clear hr5 hk5 hue hS5 ho5 G HOd HSd HXd HTd HRd HKd HE
      refine RS.alone (by rfl) (fun K hK => ?_)
      go_simp
      refine hK.out _ _ (kep_alloc _ _ _) ?_
      clear hK K
      refine RS.alone (by rfl) (fun K hK => ?_)
      refine wp_append_x1 evE _ _ rfl (q + 1) u es w5 [.int .i64 z, .slice pe fs.length ce] (z, fs) rfl rfl HO5.out (fun b _ hb => isF_apt (HS5.out b hb).2) HEV.out rfl (by unfold maxLen; omega) (by omega) (by omega) ?_
      intro v6 w6 ho6 hb6 hk6 hv6
      obtain ⟨g6, c6, rfl⟩ := hv6
      refine hK.out _ _ (hk6.mono fun _ h => h.2) ?_
      clear hK K
      have hka : Kep (fun b => u.ownBlock ≠ some b) w5 w6 := (kep_alloc _ _ _).trans hk6
      have HO6 := Lib.hid ho6
      have x6 := HX5.out.keep hka hub
      have HX6 := Lib.hid x6
      have HT6 := Lib.hid (HT5.out.keep hka huR)
      have HR6 := Lib.hid (HR5.out.keep hka hug (fun k hk e => by have := (HO5.out.cells e).1; omega) (by omega))
      have HK6 := Lib.hid (HK5.out.andThen hka (fun k hk _ e => by have := (HO5.out.cells e).1; have h3 : k < wa.heap.size := hk; omega))
      have HS6 : Hid (∀ b, (S b ∨ NewF wd w5 b) → q < b ∧ IsF w6 b) := Lib.hid (fun b hb => ⟨(HS5.out b hb).1, (HS5.out b hb).2.keep hka (isF_own HO5.out (HS5.out b hb).2)⟩)
      have hs6 := hka.size
      clear hka ho6 hb6 hk6 HO5 HX5 HT5 HR5 HK5 HS5 HEV
      repeat (refine RS.take (by rfl) (by intro W hW; go_simp; with_reducible rfl) ?_; simp only [Act.put, List.setIfInBounds_toArray, List.set_cons_zero, List.set_cons_succ])
      refine RS.done ?_
      simp only [List.length_cons, List.length_nil, List.drop_succ_cons, List.drop_zero, Nat.zero_add, Nat.reduceAdd]
      obtain ⟨k0, k1, k2, k3, _, _⟩ := x6.all (.int .i64 (n : Int))
      have hkb : Kep (fun b => b ≠ q) w6 (w6.setCell ⟨q, 1, none⟩ (.slice (some ⟨g6, 0, none⟩) (es.length + 1) c6)) := kep_set0 _
      have HO7 := Lib.hid (HO6.out.keep hkb (fun b _ hb => by have := (HS6.out b hb).1; omega) (fun k hk => by have := (HO6.out.cells hk).1; omega))
      have HX7 := Lib.hid (x6.s1 (.slice (some ⟨g6, 0, none⟩) (es.length + 1) c6))
      have HT7 := Lib.hid (HT6.out.keep hkb (by omega))
      have HR7 := Lib.hid (HR6.out.keep hkb (by omega) (fun k hk => by omega) (by omega))
      have HK7 := Lib.hid (HK6.out.andThen hkb (fun k hk _ => by omega))
      have HS7 : Hid (∀ b, (S b ∨ NewF wd w5 b) → q < b ∧ IsF (w6.setCell ⟨q, 1, none⟩ (.slice (some ⟨g6, 0, none⟩) (es.length + 1) c6)) b) := Lib.hid (fun b hb => ⟨(HS6.out b hb).1, (HS6.out b hb).2.keep hkb (by have := (HS6.out b hb).1; omega)⟩)
      have HOr : Hid (OwnX evC 24 (q + 1) (fun b => S b ∨ NewF wd w5 b) (w6.setCell ⟨q, 1, none⟩ (.slice (some ⟨g6, 0, none⟩) (es.length + 1) c6)) (.slice (some ⟨g6, 0, none⟩) (es.length + 1) c6) (evsN (i + 1) ([], l2, o2)).1) := Lib.hid (by rw [HNX.out]; exact HO7.out)
      have HRr : Hid (Rd R (w6.setCell ⟨q, 1, none⟩ (.slice (some ⟨g6, 0, none⟩) (es.length + 1) c6)) (R + 1) (evsN (i + 1) ([], l2, o2)).2.1 (evsN (i + 1) ([], l2, o2)).2.2) := Lib.hid (by rw [HNX.out]; exact HR7.out)
      clear hkb x6 HO6 HX6 HT6 HR6 HK6 HO7 HR7 HNX HS6
      go_wp2_with fail
      have hlt := HLT.out
      go_roundw
      case rel => exact ⟨i + 1, _, _, by omega, by go_num, HOr, HS7, HX7, HT7, HRr, HK7⟩
      case measure => simp [intOf]; omega
    · obtain rfl : i = N := by omega
      have q1 : decide ((i : Int) < (i : Int)) = false := by simp
      obtain ⟨es, li, oi, hsi⟩ : ∃ es li oi, evsN i ([], l2, o2) = (es, li, oi) := ⟨_, _, _, rfl⟩
      rw [hsi] at HO HR HBAD HGOOD
      have HB9 := Lib.hid (HBA.out.trans (HK.out.below (B := w.heap.size) (by omega) (fun k hk => by omega)))
      obtain ⟨vl, hc2, hl2⟩ := HR.out
      obtain ⟨pl, cl, rfl, _⟩ := hl2.shape
      have g0 := cell_of_row wr (R + 1) 0 _ _ _ hc2
      have g1 := cell_of_row wr (R + 1) 1 _ _ _ hc2
      have e0 := HX.out.c0
      have e1 := HX.out.c1
      obtain ⟨pu, cu, hpu, _⟩ := (OwnX.any HO.out).shape
      subst hpu
      have HU := Lib.hid (HO.out.ron (T := fun b => b ≠ R) (fun k hk => by have := (HO.out.cells hk).1; omega) (fun b _ hb => by have := (HS.out b hb).1; omega))
      have HCK := Lib.hid (cbatch_any (n : Int) _ es wr HU.out.any)
      obtain ⟨c, hc⟩ : ∃ c, checkB ((n : Int), es) = c := ⟨_, rfl⟩
      rw [hc] at HBAD HGOOD HCK
      have HQ0 := Lib.hid (fun h => HFAIL.out wr _ _ HT.out HB9.out (HBAD.out h))
      have HXR := Lib.hid (HT.out.s01 (.int .i64 0) (.slice none 0 0))
      obtain ⟨_, _, b2, b3, b4, b5⟩ := HT.out.all (.int .i64 0)
      clear hsi hlt hlen hc2 hl2 HO HS HK HR hc
      cases oi with
      | true =>
        have HQ := Lib.hid (HQ0.out (.inl rfl))
        clear HFAIL HBAD HGOOD HQ0 HCK HU HX HT
        go_wp2_with fail
        refine bodyPost_ret (results_box2 (p := 2) (u := 3) rfl Try.underlying34 rfl infoBat2 _ _ R _ _ rfl HXR.out) rfl HQ.out
      | false =>
        by_cases hl0 : 0 < li.length
        · have t1 : decide ((li.length : Int) > 0) = true := decide_eq_true (by omega)
          have HQ := Lib.hid (HQ0.out (.inr (.inl hl0)))
          clear HFAIL HBAD HGOOD HQ0 HCK HU HX HT
          go_wp2_with fail
          refine bodyPost_ret (results_box2 (p := 2) (u := 3) rfl Try.underlying34 rfl infoBat2 _ _ R _ _ rfl HXR.out) rfl HQ.out
        · have t1 : decide ((li.length : Int) > 0) = false := decide_eq_false (by omega)
          have HFB := HFAIL
          clear HQ0 HXR b2 b3 b4 b5
          go_wp2_with fail
          refine HCK.out.mono ?_
          rintro e w10 ⟨rfl, hb10⟩
          have HT10 := Lib.hid (HT.out.below hb10 HT.out.lt)
          have HX10 := Lib.hid (HX.out.below hb10 HX.out.lt)
          have HB10 := Lib.hid (HB9.out.trans (hb10.mono HB9.out.size))
          have HU10 := Lib.hid (ROn.keep HU.out (kep_below _ hb10) fun _ _ h => h)
          obtain ⟨_, _, b2, b3, b4, b5⟩ := HT10.out.all (.int .i64 0)
          obtain ⟨_, _, _, _, c4, c5⟩ := HT10.out.all (.int .i64 (n : Int))
          clear hb10 HCK HU HX HT HB9 g0 g1 e0 e1
          by_cases h0 : c = 0
          · subst h0
            have hdr := decR_some (HGOOD.out (by trivial) (by omega) rfl)
            have k0 := HX10.out.c0
            have k1 := HX10.out.c1
            have HX := Lib.hid (HT10.out.s01 (.int .i64 (n : Int)) (.slice pu es.length cu))
            have hk5 : Kep (fun b => b ≠ R) w10 ((w10.setCell ⟨R, 0, none⟩ (.int .i64 (n : Int))).setCell ⟨R, 1, none⟩ (.slice pu es.length cu)) := kep_set01 _ _
            have HQ : Hid (DecLeft (decR l) w (.returned (.tuple #[.agg #[.int .i64 (n : Int), .slice pu es.length cu], .int .i64 0])) ((w10.setCell ⟨R, 0, none⟩ (.int .i64 (n : Int))).setCell ⟨R, 1, none⟩ (.slice pu es.length cu))) := Lib.hid (by
              rw [hdr]
              refine ⟨_, rfl, ROn.any (HU10.out.keep hk5 fun _ _ h => h), ?_⟩
              exact HB10.out.trans (hk5.below (B := w.heap.size) (by have := HT10.out.lt; omega) (fun k hk => by omega)))
            clear hdr hk5 HFB HBAD HGOOD HU10 HX10 HT10 HB10
            go_wp2_with fail
            refine bodyPost_ret (results_box2 (p := 2) (u := 3) rfl Try.underlying34 rfl infoBat2 _ _ R _ _ rfl HX.out) rfl HQ.out
          · have t2 : (c != 0) = true := by rw [bne_iff_ne]; exact h0
            have HQ := Lib.hid (HFB.out w10 _ _ HT10.out HB10.out (HBAD.out (.inr (.inr h0))))
            have HX := Lib.hid (HT10.out.s01 (.int .i64 0) (.slice none 0 0))
            clear HFB HBAD HGOOD HU10 HX10 HT10 HB10
            go_wp2_with fail
            refine bodyPost_ret (results_box2 (p := 2) (u := 3) rfl Try.underlying34 rfl infoBat2 _ _ R _ _ rfl HX.out) rfl HQ.out
end Go.Proofs.Ytgacfihidpijeaa.EV
set_option linter.unusedVariables false
namespace Go.Proofs.Ytgacfihidpijeaa.MM
open Go.RowKit Go.Proofs.Ytgacfihidpijeaa.VP

theorem own_empty1 (w : World) (B : Nat) (hB : B ≤ w.heap.size) : OwnB B (w.alloc (.cells #[] 5)) (.slice (some ⟨w.heap.size, 0, none⟩) 0 0) [] := own_lit w [] 5 B hB (by unfold maxLen; simp)
set_option maxRecDepth 100000 in
theorem bclone_any (v : Value) (l : List UInt8) (w : World) (h : BRow w v l) (hl : l.length ≤ 1000000000000) : Calls Try.prog 49 #[v] w (PutLeft w.heap.size l w) := by
  obtain ⟨p, cap, rfl, hlc, _⟩ := h.shape
  have hq := fun (w : World) (a : Option Addr) (n c : Nat) => Lib.run_eql_slice_nil (P := Try.prog) w 40 5 a n c 0 0 Try.underlying40
  cases p with
  | none =>
    have hl0 : l = [] := by
      obtain ⟨p', cap', hv, h1, h2, h3, h4⟩ := h
      simp only [Value.slice.injEq] at hv
      obtain ⟨rfl, hv2, hv3⟩ := hv
      have := h3 rfl
      exact List.eq_nil_of_length_eq_zero (by omega)
    subst hl0
    have HF := Lib.hid (show PutLeft w.heap.size [] w (.returned (.slice none 0 0)) w from ⟨_, rfl, World.ownsRow_nil _ _ _ _, Below.refl _ _⟩)
    clear h
    go_enter Try.func49, Try.ntmps49
    go_wp2_with fail
    go_ret
    exact HF.out
  | some a =>
    have HO := Lib.hid (own_empty1 w w.heap.size (Nat.le_refl _))
    have HR := Lib.hid (fun o => BRow.below h ((Below.refl w.heap.size w).alloc (Nat.le_refl _) o))
    have HB := Lib.hid (fun o => (Below.refl w.heap.size w).alloc (Nat.le_refl _) o)
    clear h
    go_enter Try.func49, Try.ntmps49
    go_wp2_with (at_builtin; go_loud (refine wpList_append_bytes rfl _ _ rfl w.heap.size _ [] rfl HO.out _ l rfl (HR.out _) (by simp; omega) (by simp) ?_))
    intro v1 w1 hown hb
    have HF := Lib.hid (show PutLeft w.heap.size l w (.returned v1) w1 from ⟨_, rfl, hown, (HB.out _).trans hb⟩)
    clear hown hb
    go_wp2_with fail
    go_ret
    exact HF.out

end Go.Proofs.Ytgacfihidpijeaa.MM
set_option linter.unusedVariables false
namespace Go.Proofs.Ytgacfihidpijeaa.EV
open Go Go.RowKit Go.Proofs.Ytgacfihidpijeaa.MM Go.Proofs.Ytgacfihidpijeaa.EM Go.Proofs.Ytgacfihidpijeaa.VM
open Go.Proofs.Ytgacfihidpijeaa.VP

/-- What Get tells: an event, a rest, an error's number. -/
def getR (l : List UInt8) : Ev × List UInt8 × Int := match getE l with
  | some (e, r) => (e, r, 0)
  | none => ((0, []), [], 100)
theorem getR_some {l r : List UInt8} {e : Ev} (h : getE l = some (e, r)) : getR l = (e, r, 0) := by unfold getR; rw [h]
theorem getR_none {l : List UInt8} (h : getE l = none) : getR l = ((0, []), [], 100) := by unfold getR; rw [h]
theorem get_odd {l : List UInt8} (h : (evSt l false).2.2 = true) : getE l = none := by
  unfold getE
  cases hr : rdE l with
  | none => rfl
  | some p =>
    obtain ⟨e, r⟩ := p
    rw [ev_some false hr] at h
    cases h
theorem get_read {l : List UInt8} (h : (evSt l false).2.2 = false) : rdE l = some ((evSt l false).1, (evSt l false).2.1) := by
  cases hr : rdE l with
  | none => rw [ev_none false hr] at h; cases h
  | some p =>
    obtain ⟨e, r⟩ := p
    rw [ev_some false hr]
theorem get_bad {l : List UInt8} (h : (evSt l false).2.2 = false) (hc : checkE (evSt l false).1 ≠ 0) : getE l = none := by
  unfold getE
  rw [get_read h]
  dsimp only
  rw [if_neg hc]
theorem get_good {l : List UInt8} (h : (evSt l false).2.2 = false) (hc : checkE (evSt l false).1 = 0) : getE l = some ((evSt l false).1, (evSt l false).2.1) := by
  unfold getE
  rw [get_read h]
  dsimp only
  rw [if_pos hc]
/-- What Get leaves. -/
def CGot (s : Ev × List UInt8 × Int) (w : World) (e : Ending) (w' : World) : Prop :=
  ∃ u v, e = .returned (.tuple #[.agg #[.int .i64 s.1.1, u], v, .int .i64 s.2.2]) ∧ ROn fldC (fun b => w.heap.size ≤ b) w' u s.1.2 ∧ OwnB w.heap.size w' v s.2.1 ∧ Below w.heap.size w w'

set_option maxRecDepth 100000 in
set_option maxHeartbeats 2000000 in
theorem cget_any (v : Value) (l : List UInt8) (w : World) (hv : BRow w v l) (hl : l.length ≤ 1000000000000) : Calls Try.prog 28 #[v] w (CGot (getR l) w) := by
  have hmx : Try.prog.follows .mixedOrders = true := by kernel_rfl
  obtain ⟨pv, cv, rfl, _⟩ := hv.shape
  obtain ⟨z, fs, l1, o1, hst⟩ : ∃ z fs l1 o1, evSt l false = ((z, fs), l1, o1) := ⟨_, _, _, _, rfl⟩
  have hodd := get_odd (l := l)
  have hbad := get_bad (l := l)
  have hgood := get_good (l := l)
  rw [hst] at hodd hbad hgood
  have HODD := Lib.hid hodd
  have HBAD := Lib.hid hbad
  have HGOOD := Lib.hid hgood
  -- the result's block, the reader's
  obtain ⟨wa, hwa⟩ : ∃ wa, (w.alloc (.cells #[.int .i64 0, .slice none 0 0] 24)).alloc (.cells #[.slice pv l.length cv, .bool false] 80) = wa := ⟨_, rfl⟩
  have hba : Below w.heap.size w wa := by rw [← hwa]; exact ((Below.refl _ _).alloc (Nat.le_refl _) _).alloc (by simp) _
  have hsa : wa.heap.size = w.heap.size + 2 := by rw [← hwa]; simp
  have t0 : Two wa w.heap.size 24 (.int .i64 0) (.slice none 0 0) := by
    rw [← hwa]; exact (two_new w 24 _ _).keep (kep_alloc (fun _ => True) _ _) trivial
  have hrd : Rd w.heap.size wa (w.heap.size + 1) l false := by
    refine ⟨.slice pv l.length cv, ?_, BIn.below hv hba⟩
    rw [← hwa]
    have := heap_alloc_new (w.alloc (.cells #[.int .i64 0, .slice none 0 0] 24)) (.cells #[.slice pv l.length cv, .bool false] 80)
    simp only [World.size_alloc] at this
    exact this
  have HE := Lib.hid (event_any w.heap.size (w.heap.size + 1) l false wa hrd (by omega))
  rw [hst] at HE
  have HFAIL : Hid (∀ W a b, Two W w.heap.size 24 a b → Below w.heap.size w W → getE l = none →
      CGot (getR l) w (.returned (.tuple #[.agg #[.int .i64 0, .slice none 0 0], .slice none 0 0, .int .i64 100])) ((W.setCell ⟨w.heap.size, 0, none⟩ (.int .i64 0)).setCell ⟨w.heap.size, 1, none⟩ (.slice none 0 0))) := Lib.hid (fun W a b ht hb hn => by
    rw [getR_none hn]
    exact ⟨_, _, rfl, ROn.nil_ _ _, World.ownsRow_nil _ _ _ _, hb.trans ((kep_set01 (.int .i64 0) (.slice none 0 0)).below (B := w.heap.size) (Nat.le_of_lt ht.lt) (fun k hk => by omega))⟩)
  have T0 := Lib.hid t0
  have HBA := Lib.hid hba
  have HWA := Lib.hid hwa
  clear hodd hbad hgood hst hrd t0 hba hv hwa
  go_enter Try.func28, Try.ntmps28
  go_wp2_with fail
  rw [HWA.out]
  refine HE.out.mono ?_
  rintro e w1 ⟨u, rfl, hu, hr1, hk1⟩
  have hu : ROn fldC (fun b => wa.heap.size ≤ b) w1 u fs := ROn.weak hu fun b _ h => h.1
  have hr1 : Rd w.heap.size w1 (w.heap.size + 1) l1 o1 := hr1
  have hs1 := hk1.size
  have t1 : Two w1 w.heap.size 24 (.int .i64 0) (.slice none 0 0) := T0.out.keep hk1 (by omega)
  have HT2 := Lib.hid (t1.s01 (.int .i64 z) u)
  have hk2 : Kep (fun b => b ≠ w.heap.size) w1 ((w1.setCell ⟨w.heap.size, 0, none⟩ (.int .i64 z)).setCell ⟨w.heap.size, 1, none⟩ u) := kep_set01 _ _
  obtain ⟨a0, a1, a2, a3, a4, a5⟩ := t1.all (.int .i64 z)
  obtain ⟨w2, hw2⟩ : ∃ w2, (w1.setCell ⟨w.heap.size, 0, none⟩ (.int .i64 z)).setCell ⟨w.heap.size, 1, none⟩ u = w2 := ⟨_, rfl⟩
  rw [hw2] at HT2 hk2
  have hs2 := hk2.size
  have HW2 := Lib.hid hw2
  have hb2 : Below w.heap.size w w2 := HBA.out.trans ((hk1.below (B := w.heap.size) (by omega) (fun k hk => by omega)).trans (hk2.below (by omega) (fun k hk => by omega)))
  have hu2 : ROn fldC (fun b => wa.heap.size ≤ b) w2 u fs := (hu.weak (T := fun b => wa.heap.size ≤ b ∧ b ≠ w.heap.size) (fun b _ hb => ⟨hb, by have : wa.heap.size ≤ b := hb; omega⟩)).keep (hk2.mono fun _ h => h.2) (fun _ _ h => h.1)
  have hr2 : Rd w.heap.size w2 (w.heap.size + 1) l1 o1 := hr1.keep hk2 (by omega) (fun k hk => by omega) (by omega)
  have HB2 := Lib.hid hb2
  have HU2 := Lib.hid hu2
  obtain ⟨vl, hc2, hl2⟩ := hr2
  have HVL := Lib.hid hl2
  have g0 := cell_of_row w2 (w.heap.size + 1) 0 _ _ _ hc2
  have g1 := cell_of_row w2 (w.heap.size + 1) 1 _ _ _ hc2
  obtain ⟨pu, cu, hpu, _⟩ := hu2.shape
  subst hpu
  have e0 := HT2.out.c0
  have e1 := HT2.out.c1
  have HC2 := Lib.hid hc2
  rw [← HW2.out] at g0 g1 e0 e1
  clear hu hr1 hk1 t1 hk2 hw2 hb2 hu2 hl2 hc2 HE
  cases o1 with
  | true =>
    have HQ := Lib.hid (HFAIL.out w2 _ _ HT2.out HB2.out (HODD.out rfl))
    have HX := Lib.hid (HT2.out.s01 (.int .i64 0) (.slice none 0 0))
    obtain ⟨_, _, b2, b3, b4, b5⟩ := HT2.out.all (.int .i64 0)
    rw [← HW2.out] at HQ HX b2 b3 b4 b5
    clear HU2 HVL HC2 HFAIL HODD HBAD HGOOD HW2 HT2
    go_wp2_with fail
    refine bodyPost_ret (results_box3 (p := 2) (u := 3) (v := 4) rfl Try.underlying24 rfl infoEv2 _ _ w.heap.size _ _ rfl HX.out) rfl HQ.out
  | false =>
    go_wp2_with fail
    rw [HW2.out]
    rw [HW2.out] at g0 g1 e0 e1
    refine (check_any z _ fs w2 HU2.out.any).mono ?_
    rintro e w3 ⟨rfl, hb3⟩
    have ht3 := HT2.out.keep (kep_below (fun _ => True) hb3) trivial
    have HB3 := Lib.hid (HB2.out.trans (hb3.mono HB2.out.size))
    have HT3 := Lib.hid ht3
    have hs3 := hb3.size
    have hc3 := (hb3.block (w.heap.size + 1) (by omega)).trans HC2.out
    have HV3 := Lib.hid (HVL.out.below (hb3.mono (by omega)))
    have HU3 := Lib.hid (ROn.keep HU2.out (kep_below _ hb3) fun _ _ h => h)
    obtain ⟨c, hc⟩ : ∃ c, checkE (z, fs) = c := ⟨_, rfl⟩
    rw [hc] at HBAD HGOOD ⊢
    by_cases hz : c = 0
    · subst hz
      have hgd := HGOOD.out (by trivial) rfl
      have HGR := Lib.hid (getR_some hgd)
      have k0 := cell_of_row w3 (w.heap.size + 1) 0 _ _ _ hc3
      have hl1 : l1.length ≤ 1000000000000 := by
        have := congrArg List.length (getE_back hgd).1
        rw [List.length_append] at this
        omega
      clear hb3 ht3 hc3 hgd hc HODD HBAD HGOOD HU2 HVL HC2 HT2 HFAIL g0 g1 e0 e1 a0 a1 a2 a3 a4 a5
      go_wp2_with fail
      refine RS.begin_ (T := fun b => b < w3.heap.size) [(0, true), (1, true), (2, true), (3, false)] hmx (by kernel_rfl) (fun _ _ d _ _ h => by cases d <;> exact h) ?_
      simp only [RS.ordered, List.map_cons, List.map_nil, List.getElem?_toArray, List.getElem?_cons_succ, List.getElem?_cons_zero]
      obtain ⟨wd, hwd⟩ : ∃ wd, w3.drew = wd := ⟨_, rfl⟩
      have hbd : Below w3.heap.size w3 wd := by rw [← hwd]; exact (Below.refl _ _).drew
      have htd := HT3.out.below hbd HT3.out.lt
      have G := Lib.hid (fun W (hW : Kep (fun b => b < w3.heap.size) wd W) => (show W.cell? ⟨w.heap.size, 0, none⟩ = some (.int .i64 z) ∧ W.cell? ⟨w.heap.size, 1, none⟩ = some (.slice pu fs.length cu) ∧ W.cell? ⟨w.heap.size + 1, 0, none⟩ = some vl from
        ⟨(htd.keep hW (by omega)).c0, (htd.keep hW (by omega)).c1, (hW.cell (by have := hbd.size; omega) (by omega) 0).trans ((hbd.cell (p := ⟨w.heap.size + 1, 0, none⟩) (show w.heap.size + 1 < w3.heap.size by omega)).trans k0)⟩))
      have HCL := Lib.hid (bclone_any vl l1 wd (BRow.below (BIn.row HV3.out (by omega)) hbd) hl1)
      have HTD := Lib.hid htd
      have HBD := Lib.hid hbd
      have HUD := Lib.hid (ROn.keep HU3.out (kep_below _ hbd) fun _ _ h => h)
      rw [hwd]
      have hsd := hbd.size
      clear hwd hbd htd HT3 HU3 HV3 k0
      repeat (refine RS.take (by rfl) (by intro W hW; obtain ⟨f1, f2, f3⟩ := G.out W hW; go_simp; with_reducible rfl) ?_; simp only [Act.put, List.setIfInBounds_toArray, List.set_cons_zero, List.set_cons_succ])
      refine RS.alone (by rfl) (fun K hK => ?_)
      go_simp
      refine HCL.out.mono ?_
      rintro e w4 ⟨v4, rfl, ho4, hb4⟩
      go_simp
      refine hK.out _ _ (kep_below _ hb4) ?_
      clear hK K
      have ht4 := HTD.out.below hb4 HTD.out.lt
      obtain ⟨_, _, b2, b3, b4, b5⟩ := ht4.all (.int .i64 z)
      have HX := Lib.hid (ht4.s01 (.int .i64 z) (.slice pu fs.length cu))
      have hs4 := hb4.size
      have hk5 : Kep (fun b => b ≠ w.heap.size) w4 ((w4.setCell ⟨w.heap.size, 0, none⟩ (.int .i64 z)).setCell ⟨w.heap.size, 1, none⟩ (.slice pu fs.length cu)) := kep_set01 _ _
      have HQ : Hid (CGot (getR l) w (.returned (.tuple #[.agg #[.int .i64 z, .slice pu fs.length cu], v4, .int .i64 0])) ((w4.setCell ⟨w.heap.size, 0, none⟩ (.int .i64 z)).setCell ⟨w.heap.size, 1, none⟩ (.slice pu fs.length cu))) := Lib.hid (by
        rw [HGR.out]
        refine ⟨_, _, rfl, ?_, ?_, ?_⟩
        · have h1 := ROn.keep HUD.out (kep_below _ hb4) fun _ _ h => h
          exact (h1.weak (T := fun b => w.heap.size ≤ b ∧ b ≠ w.heap.size) (fun b _ hb => by have : wa.heap.size ≤ b := hb; exact ⟨by omega, by omega⟩)).keep (hk5.mono fun _ h => h.2) (fun _ _ h => h.1)
        · exact OwnB.weaken (GB.OwnB.kepOwn ho4 hk5 (fun k hk => by have := (World.ownsRow.lt ho4 k hk).1; omega)) (by omega)
        · exact (HB3.out.trans ((HBD.out.trans (hb4.mono hsd)).mono HB3.out.size)).trans (hk5.below (by omega) (fun k hk => by omega)))
      clear ht4 ho4 hb4 hk5 HTD HBD HUD G HCL HGR HB3
      refine RS.done ?_
      simp only [List.length_cons, List.length_nil, List.drop_succ_cons, List.drop_zero, Nat.zero_add, Nat.reduceAdd]
      go_wp2_with fail
      refine bodyPost_ret (results_box3 (p := 2) (u := 3) (v := 4) rfl Try.underlying24 rfl infoEv2 _ _ w.heap.size _ _ rfl HX.out) rfl HQ.out
    · have q1 : (c != 0) = true := by rw [bne_iff_ne]; exact hz
      have HQ := Lib.hid (HFAIL.out w3 _ _ HT3.out HB3.out (HBAD.out (by trivial) hz))
      have HX := Lib.hid (HT3.out.s01 (.int .i64 0) (.slice none 0 0))
      obtain ⟨_, _, b2, b3, b4, b5⟩ := HT3.out.all (.int .i64 0)
      clear HU2 HVL HC2 HFAIL HODD HBAD HGOOD HW2 HT2 hb3 ht3 hc3 HU3 HV3
      go_wp2_with fail
      refine bodyPost_ret (results_box3 (p := 2) (u := 3) (v := 4) rfl Try.underlying24 rfl infoEv2 _ _ w.heap.size _ _ rfl HX.out) rfl HQ.out
end Go.Proofs.Ytgacfihidpijeaa.EV
set_option linter.unusedVariables false
namespace Go.Proofs.Ytgacfihidpijeaa.EV
open Go Go.RowKit Go.Proofs.Ytgacfihidpijeaa.MM Go.Proofs.Ytgacfihidpijeaa.EM Go.Proofs.Ytgacfihidpijeaa.VM
open Go.Proofs.Ytgacfihidpijeaa.VP

theorem get_e1 {l : List UInt8} (h : (getI l).2.2 ≠ 0) : getE l = none := by
  unfold getE rdE
  rw [if_pos h]
theorem get_e2 {l : List UInt8} (h1 : (getI l).2.2 = 0) (h : (getL (l.drop (getI l).2.1)).2.2 ≠ 0 ∨ 16 < (getL (l.drop (getI l).2.1)).1) : getE l = none := by
  unfold getE rdE
  rw [if_neg (by simpa using h1), if_pos h]
/-- What is told once the fields are got, or are not. -/
def endE (z : Int) : Option (List Fld × List UInt8) → Option (Ev × List UInt8)
  | none => none
  | some (fs, r) => if checkE (z, fs) = 0 then some ((z, fs), r) else none
theorem get_e3 {l : List UInt8} (h1 : (getI l).2.2 = 0) (h : ¬ ((getL (l.drop (getI l).2.1)).2.2 ≠ 0 ∨ 16 < (getL (l.drop (getI l).2.1)).1)) :
    getE l = endE (getI l).1 (getFa (getL (l.drop (getI l).2.1)).1 [] ((l.drop (getI l).2.1).drop (getL (l.drop (getI l).2.1)).2.1)) := by
  unfold getE rdE
  rw [if_neg (by simpa using h1), if_neg h]
  cases getFa (getL (l.drop (getI l).2.1)).1 [] ((l.drop (getI l).2.1).drop (getL (l.drop (getI l).2.1)).2.1) with
  | none => rfl
  | some p => obtain ⟨fs, r⟩ := p; rfl
theorem getFa_stop {k : Nat} {acc : List Fld} {l : List UInt8} (h : (getT l 32).2.2 ≠ 0 ∨ (getT (VG.restT l 32) 4096).2.2 ≠ 0) : getFa (k + 1) acc l = none := by
  rw [getFa]
  by_cases h1 : (getT l 32).2.2 = 0
  · unfold VG.restT at h
    rw [if_pos h1] at h
    rw [if_pos h]
  · rw [if_pos (.inl h1)]
theorem getFa_on {k : Nat} {acc : List Fld} {l : List UInt8} (h1 : (getT l 32).2.2 = 0) (h2 : (getT (VG.restT l 32) 4096).2.2 = 0) : getFa (k + 1) acc l = getFa k (acc ++ [((getT l 32).1, (getT (VG.restT l 32) 4096).1)]) (VG.restT (VG.restT l 32) 4096) := by
  have e : VG.restT l 32 = l.drop (getT l 32).2.1 := by unfold VG.restT; rw [if_pos h1]
  rw [getFa]
  rw [e] at h2 ⊢
  rw [if_neg (fun h => h.elim (fun h => h h1) (fun h => h h2))]
  unfold VG.restT
  rw [if_pos h2]
/-- What the reference's Get leaves. -/
def RGot (B : Nat) (s : Ev × List UInt8 × Int) (w : World) (e : Ending) (w' : World) : Prop :=
  ∃ u v, e = .returned (.tuple #[.agg #[.int .i64 s.1.1, u], v, .int .i64 s.2.2]) ∧ ROn fldC (NewF w w') w' u s.1.2 ∧ BIn B w' v s.2.1 ∧ Below w.heap.size w w'

set_option maxRecDepth 100000 in
set_option maxHeartbeats 2000000 in
theorem rget_in (B : Nat) (v : Value) (l : List UInt8) (w : World) (hv : BIn B w v l) (hB : B ≤ w.heap.size) : Calls Try.prog 29 #[v] w (RGot B (getR l) w) := by
  obtain ⟨R, hR⟩ : ∃ R, w.heap.size = R := ⟨_, rfl⟩
  -- the result's block
  obtain ⟨wa, hwa⟩ : ∃ wa, w.alloc (.cells #[.int .i64 0, .slice none 0 0] 24) = wa := ⟨_, rfl⟩
  have hba : Below w.heap.size w wa := by rw [← hwa]; exact (Below.refl _ _).alloc (Nat.le_refl _) _
  have hsa : wa.heap.size = R + 1 := by rw [← hwa, ← hR]; simp
  have t0 : Two wa R 24 (.int .i64 0) (.slice none 0 0) := by rw [← hwa, ← hR]; exact two_new w 24 _ _
  have hva : BIn B wa v l := hv.below (hba.mono hB)
  have HG := Lib.hid (VG.rgetint_in B v l wa hva (by omega))
  have HNUM := Lib.hid (fun v l W (h : BIn B W v l) (hb : B ≤ W.heap.size) => VG.rget_in B v l W h hb)
  have HFAIL : Hid (∀ W a b, Two W R 24 a b → Below w.heap.size w W → getE l = none →
      RGot B (getR l) w (.returned (.tuple #[.agg #[.int .i64 0, .slice none 0 0], .slice none 0 0, .int .i64 100])) ((W.setCell ⟨R, 0, none⟩ (.int .i64 0)).setCell ⟨R, 1, none⟩ (.slice none 0 0))) := Lib.hid (fun W a b ht hb hn => by
    rw [getR_none hn]
    exact ⟨_, _, rfl, ROn.nil_ _ _, BIn.nil_ _ _, hb.trans ((kep_set01 (.int .i64 0) (.slice none 0 0)).below (B := w.heap.size) (by have := ht.lt; omega) (fun k hk => by omega))⟩)
  have HE1 := Lib.hid (@get_e1 l)
  have HE2 := Lib.hid (@get_e2 l)
  have HE3 := Lib.hid (@get_e3 l)
  have T0 := Lib.hid t0
  have HBA := Lib.hid hba
  have HWA := Lib.hid hwa
  have HRZ := Lib.hid hR
  have hrl : (getI l).2.2 = 0 → VG.restL l = l.drop (getI l).2.1 := fun h => by unfold VG.restL; exact if_pos h
  have HRL := Lib.hid hrl
  generalize (getI l).1 = z at *
  generalize (getI l).2.2 = er1 at *
  generalize l.drop (getI l).2.1 = d1 at *
  generalize VG.restL l = l1 at *
  clear hv hba hwa t0 hva hrl
  go_enter Try.func29, Try.ntmps29
  go_wp2_with fail
  rw [HWA.out]
  refine HG.out.mono ?_
  rintro e w1 ⟨v1, rfl, hv1, hb1⟩
  have hs1 := hb1.size
  have ht1 := T0.out.below hb1 (by omega)
  have HT1 := Lib.hid ht1
  have HB1 := Lib.hid (HBA.out.trans (hb1.mono HBA.out.size))
  have HV1 := Lib.hid hv1
  clear hb1 hv1 HG T0 HBA HWA
  by_cases hz1 : er1 = 0
  · subst hz1
    have hl1 := HRL.out rfl
    subst hl1
    have HK2 := Lib.hid (HNUM.out v1 l1 w1 HV1.out (by omega))
    have he2 := HE2.out rfl
    have he3 := HE3.out rfl
    have hrl2 : (getL l1).2.2 = 0 → VG.restL l1 = l1.drop (getL l1).2.1 := fun h => by unfold VG.restL; exact if_pos h
    have hnb := (getL_bounds l1).1
    generalize (getL l1).1 = n at *
    generalize (getL l1).2.2 = er2 at *
    generalize l1.drop (getL l1).2.1 = d2 at *
    generalize VG.restL l1 = l2 at *
    have HE2' := Lib.hid he2
    have HE3' := Lib.hid he3
    have HRL2 := Lib.hid hrl2
    clear he2 he3 hrl2 HE1 HE2 HE3 HRL HNUM
    have t1 : (er2 != 0) = !(decide (er2 = 0)) := rfl
    go_wp2_with fail
    refine HK2.out.mono ?_
    rintro e w2 ⟨v2, rfl, hv2, hb2⟩
    have hs2 := hb2.size
    have HT2 := Lib.hid (HT1.out.below hb2 HT1.out.lt)
    have HB2 := Lib.hid (HB1.out.trans (hb2.mono (by have := HB1.out.size; omega)))
    have HV2 := Lib.hid hv2
    clear hb2 hv2 HK2 HT1 HB1 HV1
    by_cases hz2 : er2 ≠ 0 ∨ 16 < n
    · have HQ := Lib.hid (HFAIL.out w2 _ _ HT2.out HB2.out (HE2'.out hz2))
      have HX := Lib.hid (HT2.out.s01 (.int .i64 0) (.slice none 0 0))
      obtain ⟨_, _, b2, b3, b4, b5⟩ := HT2.out.all (.int .i64 0)
      by_cases hz3 : er2 = 0
      · have t2 : (er2 != 0) = false := by rw [bne_eq_false_iff_eq]; exact hz3
        have t3 : decide ((n : Int) > 16) = true := decide_eq_true (by omega)
        clear HFAIL HE2' HE3' HRL2 hz2 t1
        go_wp2_with fail
        refine bodyPost_ret (results_box3 (p := 2) (u := 3) (v := 4) rfl Try.underlying24 rfl infoEv2 _ _ R _ _ rfl HX.out) rfl HQ.out
      · have t2 : (er2 != 0) = true := by rw [bne_iff_ne]; exact hz3
        clear HFAIL HE2' HE3' HRL2 hz2 t1
        go_wp2_with fail
        refine bodyPost_ret (results_box3 (p := 2) (u := 3) (v := 4) rfl Try.underlying24 rfl infoEv2 _ _ R _ _ rfl HX.out) rfl HQ.out
    · have he3 := HE3'.out hz2
      have hz3 : er2 = 0 := Classical.byContradiction fun h => hz2 (.inl h)
      have hn16 : n ≤ 16 := Nat.not_lt.1 fun h => hz2 (.inr h)
      subst hz3
      have hl2 := HRL2.out rfl
      subst hl2
      have t3 : decide ((n : Int) > 16) = false := decide_eq_false (by omega)
      have t4 : IntKind.i64.wrap (n : Int) = (n : Int) := by rw [IntKind.wrap_i64]; omega
      have HGE := Lib.hid he3
      clear he3 HE2' HE3' HRL2 hz2 t1
      obtain ⟨q, hq⟩ : ∃ q, w2.heap.size = q := ⟨_, rfl⟩
      have hqR : R < q := by have := HT2.out.lt; omega
      have hbq : Below w2.heap.size w2 (w2.alloc (.cells #[.int .i64 z, .slice none 0 0] 24)) := (Below.refl _ _).alloc (Nat.le_refl _) _
      have hsq : (w2.alloc (.cells #[.int .i64 z, .slice none 0 0] 24)).heap.size = q + 1 := by simp [hq]
      have HX3 : Hid (Two (w2.alloc (.cells #[.int .i64 z, .slice none 0 0] 24)) q 24 (.int .i64 z) (.slice none 0 0)) := Lib.hid (by rw [← hq]; exact two_new w2 24 _ _)
      have HT3 := Lib.hid (HT2.out.below hbq HT2.out.lt)
      have HB3 := Lib.hid (HB2.out.trans (hbq.mono HB2.out.size))
      have HV3 := Lib.hid (HV2.out.below (hbq.mono (by omega)))
      have HO3 := Lib.hid (OwnX.nil_ (C := fldC) 68 (q + 1) (fun _ => False) (w2.alloc (.cells #[.int .i64 z, .slice none 0 0] 24)))
      obtain ⟨A, hA⟩ : ∃ A, getFa n [] l2 = A := ⟨_, rfl⟩
      have HA3 := Lib.hid hA
      have HGA : Hid (getE l = endE z A) := Lib.hid (by rw [HGE.out, hA])
      clear hbq hA HGE HT2 HB2 HV2
      go_wp2_with fail
      go_loopw [0, 9] (fun bv iv wr => ∃ (i : Nat) (fs : List Fld) (li : List UInt8) (u : Value), i ≤ n ∧ iv = .int .i64 i ∧ fs.length = i ∧ Hid (getFa (n - i) fs li = A) ∧ Hid (BIn B wr bv li) ∧ Hid (OwnX fldC 68 (q + 1) (fun _ => False) wr u fs) ∧ Hid (Two wr q 24 (.int .i64 z) u) ∧ Hid (Two wr R 24 (.int .i64 0) (.slice none 0 0)) ∧ Hid (Below w.heap.size w wr)) (fun _ iv _ => n - (intOf iv).toNat)
      case atStart => exact ⟨0, [], l2, _, by omega, rfl, rfl, HA3, HV3, HO3, HX3, HT3, HB3⟩
      case round =>
        obtain ⟨i, fs, li, u, hi, rfl, hfl, HA, HV, HO, HXq, HT, HBk⟩ := hrel
        clear HA3 HV3 HO3 HX3 HT3 HB3
        have hqw := HXq.out.lt
        by_cases hlt : i < n
        · have q1 : decide ((i : Int) < (n : Int)) = true := by rw [decide_eq_true_eq]; omega
          have HTX := Lib.hid (VG.rgettext_in B u0 li 32 wr (by omega) (by omega) HV.out (by omega))
          have HTY := Lib.hid (fun v W (h : BIn B W v (VG.restT li 32)) (hb : B ≤ W.heap.size) => VG.rgettext_in B v (VG.restT li 32) 4096 W (by omega) (by omega) h hb)
          have hstop := getFa_stop (k := n - (i + 1)) (acc := fs) (l := li)
          have hon := getFa_on (k := n - (i + 1)) (acc := fs) (l := li)
          have hAi := HA.out
          rw [show n - i = n - (i + 1) + 1 by omega] at hAi
          rw [hAi] at hstop hon
          generalize (getT li 32).1 = s1 at *
          generalize (getT li 32).2.2 = e1 at *
          generalize VG.restT li 32 = l3 at *
          generalize (getT l3 4096).1 = s2 at *
          generalize (getT l3 4096).2.2 = e2 at *
          generalize VG.restT l3 4096 = l4 at *
          have HSTOP := Lib.hid hstop
          have HON := Lib.hid hon
          have HLT := Lib.hid hlt
          clear hstop hon hAi HA hlt HV
          go_wp2_with fail
          refine HTX.out.mono ?_
          rintro e w4 ⟨v4, rfl, hv4, hb4⟩
          have HY := Lib.hid (HTY.out v4 w4 hv4 (by have := hb4.size; omega))
          have HB4 := Lib.hid hb4
          clear hv4 hb4 HTX HTY
          go_wp2_with fail
          refine HY.out.mono ?_
          rintro e w5 ⟨v5, rfl, hv5, hb5⟩
          have hb45 : Below wr.heap.size wr w5 := HB4.out.trans (hb5.mono HB4.out.size)
          have hs5 := hb45.size
          have HV5 := Lib.hid hv5
          have HX5 := Lib.hid (HXq.out.below hb45 hqw)
          have HT5 := Lib.hid (HT.out.below hb45 HT.out.lt)
          have HB5 := Lib.hid (HBk.out.trans (hb45.mono HBk.out.size))
          have HO5 := Lib.hid (HO.out.keep (kep_below (fun _ => True) hb45) (fun _ _ _ => trivial) (fun _ _ => trivial))
          clear hv5 hb5 hb45 HB4 HXq HT HBk HO HY
          by_cases hbad : e1 ≠ 0 ∨ e2 ≠ 0
          · have hAn := HSTOP.out hbad
            have HQ := Lib.hid (HFAIL.out w5 _ _ HT5.out HB5.out (by rw [HGA.out, hAn]; rfl))
            have HXr := Lib.hid (HT5.out.s01 (.int .i64 0) (.slice none 0 0))
            obtain ⟨_, _, b2, b3, b4, b5⟩ := HT5.out.all (.int .i64 0)
            by_cases h1 : e1 = 0
            · have t1 : (e1 != 0) = false := by rw [bne_eq_false_iff_eq]; exact h1
              have t2 : (e2 != 0) = true := by rw [bne_iff_ne]; exact hbad.elim (fun h => absurd h1 h) id
              clear HFAIL HSTOP HON hbad hAn h1
              go_wp2_with fail
              refine bodyPost_ret (results_box3 (p := 2) (u := 3) (v := 4) rfl Try.underlying24 rfl infoEv2 _ _ R _ _ rfl HXr.out) rfl HQ.out
            · have t1 : (e1 != 0) = true := by rw [bne_iff_ne]; exact h1
              clear HFAIL HSTOP HON hbad hAn h1
              go_wp2_with fail
              refine bodyPost_ret (results_box3 (p := 2) (u := 3) (v := 4) rfl Try.underlying24 rfl infoEv2 _ _ R _ _ rfl HXr.out) rfl HQ.out
          · have h1 : e1 = 0 := Classical.byContradiction fun h => hbad (.inl h)
            have h2 : e2 = 0 := Classical.byContradiction fun h => hbad (.inr h)
            have HAn := Lib.hid (HON.out h1 h2)
            have t1 : (e1 != 0) = false := by rw [bne_eq_false_iff_eq]; exact h1
            have t2 : (e2 != 0) = false := by rw [bne_eq_false_iff_eq]; exact h2
            have HO6 := Lib.hid (HO5.out.alloc (.cells #[.string ⟨s1.toArray⟩, .string ⟨s2.toArray⟩] 68))
            have HS6 := Lib.hid (src_lit (C := fldC) (S := fun _ => False) (w := w5) (vs := [.string ⟨s1.toArray⟩, .string ⟨s2.toArray⟩]) (d := (s1, s2)) 68 (fld_on.2 rfl))
            have k1 := HX5.out.c1
            have hba : Kep (fun _ => True) w5 (w5.alloc (.cells #[.string ⟨s1.toArray⟩, .string ⟨s2.toArray⟩] 68)) := kep_alloc _ _ _
            have HX6 := Lib.hid (HX5.out.keep hba trivial)
            have HT6 := Lib.hid (HT5.out.keep hba trivial)
            have hub : u.ownBlock ≠ some q := fun e => by have := (HO5.out.cells e).1; omega
            have huR : u.ownBlock ≠ some R := fun e => by have := (HO5.out.cells e).1; omega
            have HLO := Lib.hid (fun k (h : u.ownBlock = some k) => (HO5.out.cells h).1)
            have HB6 := Lib.hid (HB5.out.trans ((kep_alloc (fun _ => True) w5 (.cells #[.string ⟨s1.toArray⟩, .string ⟨s2.toArray⟩] 68)).below (B := w.heap.size) (by have := HB5.out.size; omega) (fun _ _ => trivial)))
            have HV6 := Lib.hid (HV5.out.below (hba.below (B := B) (by omega) (fun _ _ => trivial)))
            clear HSTOP HON hbad h1 h2 hba HX5 HT5 HB5 HV5 HO5
            go_wp2_with (at_builtin; go_loud (refine wpList_append_x fldE rfl _ _ rfl (q + 1) u fs rfl HO6.out (fun _ _ h => h.elim) _ [(s1, s2)] rfl HS6.out (by unfold maxLen; simp; omega) (by simp; omega) (by simp; omega) ?_; intro v7 w7 ho7 hb7 hk7; obtain ⟨p7, c7, rfl, _⟩ := ho7.any.shape; have x7 := HX6.out.keep hk7 hub; obtain ⟨k0, k2, k3, k4, _, _⟩ := x7.all (.int .i64 z); have HO7 := Lib.hid ho7; have HX7 := Lib.hid x7; have HT7 := Lib.hid (HT6.out.keep hk7 huR); have HV7 := Lib.hid (HV6.out.below (hk7.below (B := B) (by simp; omega) (fun k hk e => by have := HLO.out k e; omega))); have HB7 := Lib.hid (HB6.out.trans (hk7.below (B := w.heap.size) (by simp; omega) (fun k hk e => by have := HLO.out k e; omega))); have hs7 := hk7.size; clear ho7 hb7 hk7 x7 HO6 HS6 HX6 HT6 HB6 HV6))
            have hkb : Kep (fun b => b ≠ q) w7 (w7.setCell ⟨q, 1, none⟩ (.slice p7 (fs ++ [(s1, s2)]).length c7)) := kep_set0 _
            have HO8 := Lib.hid (HO7.out.keep hkb (fun _ _ h => h.elim) (fun k hk => by have := (HO7.out.cells hk).1; omega))
            have HX8 := Lib.hid (HX7.out.s1 (.slice p7 (fs ++ [(s1, s2)]).length c7))
            have HT8 := Lib.hid (HT7.out.keep hkb (by omega))
            have HV8 := Lib.hid (HV7.out.below (hkb.below (B := B) (by have := hkb.size; have := HX7.out.lt; omega) (fun k hk => by omega)))
            have HB8 := Lib.hid (HB7.out.trans (hkb.below (B := w.heap.size) (by have := HX7.out.lt; omega) (fun k hk => by omega)))
            have hlt := HLT.out
            have hl9 : (fs ++ [(s1, s2)]).length = i + 1 := by rw [List.length_append, hfl]; rfl
            rw [hl9] at HO8 HX8 HT8 HV8 HB8
            clear hkb HO7 HX7 HT7 HV7 HB7
            go_roundw
            case rel => exact ⟨i + 1, fs ++ [(s1, s2)], _, _, by omega, by go_num, hl9, Lib.hid HAn.out.symm, HV8, HO8, HX8, HT8, HB8⟩
            case measure => simp [intOf]; omega
        · obtain rfl : i = n := by omega
          have q1 : decide ((i : Int) < (i : Int)) = false := by simp
          have hAi := HA.out
          rw [Nat.sub_self, getFa] at hAi
          have k0 := HXq.out.c0
          have k1 := HXq.out.c1
          obtain ⟨pu, cu, hpu, _⟩ := (OwnX.any HO.out).shape
          have HCK := Lib.hid (rcheck_any z u fs wr HO.out.any)
          obtain ⟨c, hc⟩ : ∃ c, checkE (z, fs) = c := ⟨_, rfl⟩
          rw [hc] at HCK
          have HGE : Hid (getE l = if c = 0 then some ((z, fs), li) else none) := Lib.hid (by rw [HGA.out, ← hAi]; unfold endE; dsimp only; rw [hc])
          subst hpu
          rw [hfl] at HCK
          clear hAi HA hlt hc HGA
          go_wp2_with fail
          refine HCK.out.mono ?_
          rintro e w9 ⟨rfl, hb9⟩
          have hs9 := hb9.size
          have HT9 := Lib.hid (HT.out.below hb9 HT.out.lt)
          have HX9 := Lib.hid (HXq.out.below hb9 hqw)
          have HV9 := Lib.hid (HV.out.below (hb9.mono (by omega)))
          have HB9 := Lib.hid (HBk.out.trans (hb9.mono HBk.out.size))
          have HU9 := Lib.hid (HO.out.keep (kep_below (fun _ => True) hb9) (fun _ _ _ => trivial) (fun _ _ => trivial))
          clear hb9 HT HXq HV HBk HO HCK k0 k1
          obtain ⟨_, _, b2, b3, b4, b5⟩ := HT9.out.all (.int .i64 0)
          obtain ⟨_, _, _, _, c4, c5⟩ := HT9.out.all (.int .i64 z)
          by_cases h0 : c = 0
          · subst h0
            have k0 := HX9.out.c0
            have k1 := HX9.out.c1
            have hgr := getR_some HGE.out
            have HX := Lib.hid (HT9.out.s01 (.int .i64 z) (.slice pu fs.length cu))
            have hk5 : Kep (fun b => b ≠ R) w9 ((w9.setCell ⟨R, 0, none⟩ (.int .i64 z)).setCell ⟨R, 1, none⟩ (.slice pu fs.length cu)) := kep_set01 _ _
            have HQ : Hid (RGot B (getR l) w (.returned (.tuple #[.agg #[.int .i64 z, .slice pu fs.length cu], u0, .int .i64 0])) ((w9.setCell ⟨R, 0, none⟩ (.int .i64 z)).setCell ⟨R, 1, none⟩ (.slice pu fs.length cu))) := Lib.hid (by
              rw [hgr]
              refine ⟨_, _, rfl, ?_, ?_, ?_⟩
              · have hok := HU9.out.keep hk5 (fun _ _ h => h.elim) (fun k hk => by have := (HU9.out.cells hk).1; omega)
                exact hok.ron (fun k hk => ⟨by have := (hok.cells hk).1; omega, (hok.cells hk).2.2⟩) (fun _ _ h => h.elim)
              · exact HV9.out.below (hk5.below (B := B) (by omega) (fun k hk => by omega))
              · exact HB9.out.trans (hk5.below (B := w.heap.size) (by omega) (fun k hk => by omega)))
            rw [hfl] at HX HQ
            clear hgr hk5 HGE HFAIL HU9 HV9 HB9 HX9 HT9
            go_wp2_with fail
            refine bodyPost_ret (results_box3 (p := 2) (u := 3) (v := 4) rfl Try.underlying24 rfl infoEv2 _ _ R _ _ rfl HX.out) rfl HQ.out
          · have t1 : (c != 0) = true := by rw [bne_iff_ne]; exact h0
            have HQ := Lib.hid (HFAIL.out w9 _ _ HT9.out HB9.out (by rw [HGE.out, if_neg h0]))
            have HX := Lib.hid (HT9.out.s01 (.int .i64 0) (.slice none 0 0))
            clear HGE HFAIL HU9 HV9 HB9 HX9 HT9
            go_wp2_with fail
            refine bodyPost_ret (results_box3 (p := 2) (u := 3) (v := 4) rfl Try.underlying24 rfl infoEv2 _ _ R _ _ rfl HX.out) rfl HQ.out
  · have HQ := Lib.hid (HFAIL.out w1 _ _ HT1.out HB1.out (HE1.out hz1))
    have HX := Lib.hid (HT1.out.s01 (.int .i64 0) (.slice none 0 0))
    obtain ⟨_, _, b2, b3, b4, b5⟩ := HT1.out.all (.int .i64 0)
    have q1 : (er1 != 0) = true := by rw [bne_iff_ne]; exact hz1
    clear HFAIL HE1 HE2 HE3 HRL HNUM
    go_wp2_with fail
    refine bodyPost_ret (results_box3 (p := 2) (u := 3) (v := 4) rfl Try.underlying24 rfl infoEv2 _ _ R _ _ rfl HX.out) rfl HQ.out
end Go.Proofs.Ytgacfihidpijeaa.EV
