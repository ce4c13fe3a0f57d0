/-
  The batch of any bytes: the code's Decode. No condition. bytes.Clone. Condition: fewer than 10^12 bytes. The event that stands first in any bytes: the code's Get. Condition: fewer than 10^12 bytes. From the rows' readings to what the walks ask: slices of bytes and of whole numbers that came in. No condition. From the rows' readings to codecs: what is read as data of a type lies as the type's codec says. No program; no condition. Arguments that are events, batches: read as data, they lie as the codecs say. No condition. A batch as an argument: read as data, it lies as its codec says. No condition.
-/
import Derived.Test.YtgacfihidpijeaaZE20
import Derived.Test.YtgacfihidpijeaaZE14
import Derived.Test.YtgacfihidpijeaaZE16
import Derived.Lib.SliceRun
import Derived.Test.YtgacfihidpijeaaRows
import Derived.Test.YtgacfihidpijeaaZE1
import Derived.ProofKit
import Derived.OpenShut
import Derived.ShutString
import Derived.ChangeOld
import Derived.Test.YtgacfihidpijeaaZE2
import Derived.ChangeArms
import Derived.ChangeSame
import Derived.Deep.Slices
import Derived.Test.YtgacfihidpijeaaZE4
set_option linter.unusedVariables false
namespace Go.Proofs.Ytgacfihidpijeaa.EV
open Go Go.RowKit Go.Proofs.Ytgacfihidpijeaa.MM Go.Proofs.Ytgacfihidpijeaa.EM Go.Proofs.Ytgacfihidpijeaa.VM

theorem evE : Elem evC Try.prog 32 24 32 := ⟨Try.underlying32, by
  have h : (Try.prog.info? 24).map (fun i => (i.zero, i.size, i.bytes)) = some (some (.agg #[.int .i64 0, .slice none 0 0]), 2, 32) := by kernel_rfl
  obtain ⟨i, h1, h2, h3, h4⟩ := info_parts h
  exact ⟨i, _, h1, h2, h3, h4, rfl⟩⟩
theorem infoBat2 : (Try.prog.info? 34).map (·.size) = some 2 := by kernel_rfl
/-- What Decode tells: a batch, an error's number. -/
def decR (l : List UInt8) : Bat × Int := match decB l with
  | some b => (b, 0)
  | none => ((0, []), 100)
theorem decR_some {l : List UInt8} {b : Bat} (h : decB l = some b) : decR l = (b, 0) := by unfold decR; rw [h]
theorem decR_none {l : List UInt8} (h : decB l = none) : decR l = ((0, []), 100) := by unfold decR; rw [h]
theorem dec_bad {l : List UInt8} (h : (decSt l).2.2 = true ∨ 0 < (decSt l).2.1.length ∨ checkB (decSt l).1 ≠ 0) : decB l = none := by
  unfold decB
  cases hr : rdB l with
  | none => rfl
  | some p =>
    obtain ⟨b, r⟩ := p
    have e := decSt_some hr
    rw [e] at h
    dsimp only at h ⊢
    rw [if_pos (h.elim (fun h => by cases h) id)]
theorem checkB_all {b : Bat} (h : checkB b = 0) : ∀ e ∈ b.2, checkE e = 0 := (checkB_ok h).2.2.1
theorem dec_good {l : List UInt8} (h1 : (decSt l).2.2 = false) (h2 : (decSt l).2.1.length = 0) (h3 : checkB (decSt l).1 = 0) : decB l = some (decSt l).1 := by
  unfold decB
  cases hr : rdB l with
  | none =>
    rcases decSt_none hr with h | ⟨e, he, hne⟩
    · rw [h] at h1; cases h1
    · exact absurd (checkB_all h3 e he) hne
  | some p =>
    obtain ⟨b, r⟩ := p
    have e := decSt_some hr
    rw [e] at h2 h3 ⊢
    dsimp only at h2 h3 ⊢
    rw [if_neg (fun h => h.elim (fun h => by omega) (fun h => h h3))]
/-- Blocks of fields are no blocks of events. -/
theorem isF_apt {B : Nat} {w : World} {b : Nat} (h : IsF w b) : Apt 24 B w b := .inr fun cur fr hc => by
  obtain ⟨c2, f2, h2⟩ := h
  rw [h2] at hc
  simp only [Option.some.injEq, Obj.cells.injEq] at hc
  exact absurd hc.2.1 (by decide)
theorem isF_own {B : Nat} {S : Nat → Prop} {w : World} {v : Value} {es : List Ev} (h : OwnX evC 24 B S w v es) {b : Nat} (hb : IsF w b) : v.ownBlock ≠ some b := fun e => by
  obtain ⟨_, _, c1, f1, h1⟩ := h.cells e
  obtain ⟨c2, f2, h2⟩ := hb
  rw [h2] at h1
  simp only [Option.some.injEq, Obj.cells.injEq] at h1
  exact absurd h1.2.1 (by decide)
/-- What Decode leaves. -/
def DecLeft (s : Bat × Int) (w : World) (e : Ending) (w' : World) : Prop :=
  ∃ u, e = .returned (.tuple #[.agg #[.int .i64 s.1.1, u], .int .i64 s.2]) ∧ RAny evC w' u s.1.2 ∧ Below w.heap.size w w'

set_option maxRecDepth 100000 in
set_option maxHeartbeats 4000000 in
theorem cdec_any (v : Value) (l : List UInt8) (w : World) (hv : BRow w v l) : Calls Try.prog 33 #[v] w (DecLeft (decR l) w) := by
  have hmx : Try.prog.follows .mixedOrders = true := by kernel_rfl
  obtain ⟨pv, cv, rfl, _⟩ := hv.shape
  obtain ⟨n, l1, o1, hn⟩ : ∃ n l1 o1, numSt 1099511627776 l false = (n, l1, o1) := ⟨_, _, _, rfl⟩
  obtain ⟨N, l2, o2, hm⟩ : ∃ N l2 o2, numSt 64 l1 o1 = (N, l2, o2) := ⟨_, _, _, rfl⟩
  have hN : N ≤ 64 := by have := num_le 64 l1 o1; rw [hm] at this; exact this
  have hst : decSt l = (((n : Int), (evsN N ([], l2, o2)).1), (evsN N ([], l2, o2)).2.1, (evsN N ([], l2, o2)).2.2) := by
    unfold decSt
    rw [hn]
    dsimp only
    rw [hm]
  have hbad := dec_bad (l := l)
  have hgood := dec_good (l := l)
  rw [hst] at hbad hgood
  have HBAD := Lib.hid hbad
  have HGOOD := Lib.hid hgood
  obtain ⟨R, hR⟩ : ∃ R, w.heap.size = R := ⟨_, rfl⟩
  -- the result's block, the reader's
  obtain ⟨wa, hwa⟩ : ∃ wa, (w.alloc (.cells #[.int .i64 0, .slice none 0 0] 34)).alloc (.cells #[.slice pv l.length cv, .bool false] 80) = wa := ⟨_, rfl⟩
  have hba : Below w.heap.size w wa := by rw [← hwa]; exact ((Below.refl _ _).alloc (Nat.le_refl _) _).alloc (by simp) _
  have hsa : wa.heap.size = R + 2 := by rw [← hwa, ← hR]; simp
  have t0 : Two wa R 34 (.int .i64 0) (.slice none 0 0) := by
    rw [← hwa, ← hR]; exact (two_new w 34 _ _).keep (kep_alloc (fun _ => True) _ _) trivial
  have hrd : Rd R wa (R + 1) l false := by
    refine ⟨.slice pv l.length cv, ?_, by rw [← hR]; exact BIn.below hv hba⟩
    rw [← hwa, ← hR]
    have := heap_alloc_new (w.alloc (.cells #[.int .i64 0, .slice none 0 0] 34)) (.cells #[.slice pv l.length cv, .bool false] 80)
    simp only [World.size_alloc] at this
    exact this
  have HN := Lib.hid (show Calls Try.prog 54 #[.pointer (some ⟨R + 1, 0, none⟩), .int .i64 1099511627776] wa (Took R (R + 1) (.int .i64 n) l1 o1 wa) from by have := number_any R (R + 1) 1099511627776 l false wa (by omega) hrd (by omega); rw [hn] at this; exact this)
  have HM := Lib.hid (fun W (h : Rd R W (R + 1) l1 o1) => (show Calls Try.prog 54 #[.pointer (some ⟨R + 1, 0, none⟩), .int .i64 64] W (Took R (R + 1) (.int .i64 N) l2 o2 W) from by have := number_any R (R + 1) 64 l1 o1 W (by omega) h (by omega); rw [hm] at this; exact this))
  have HFAIL : Hid (∀ W a b, Two W R 34 a b → Below w.heap.size w W → decB l = none →
      DecLeft (decR l) w (.returned (.tuple #[.agg #[.int .i64 0, .slice none 0 0], .int .i64 100])) ((W.setCell ⟨R, 0, none⟩ (.int .i64 0)).setCell ⟨R, 1, none⟩ (.slice none 0 0))) := Lib.hid (fun W a b ht hb hn => by
    rw [decR_none hn]
    exact ⟨_, rfl, ROn.nil_ _ _, hb.trans ((kep_set01 (.int .i64 0) (.slice none 0 0)).below (B := w.heap.size) (by have := ht.lt; omega) (fun k hk => by omega))⟩)
  have T0 := Lib.hid t0
  have HBA := Lib.hid hba
  have HWA := Lib.hid hwa
  clear hbad hgood hst hrd t0 hba hv hwa hn hm
  go_enter Try.func33, Try.ntmps33
  go_wp2_with fail
  rw [HWA.out]
  refine HN.out.mono ?_
  rintro e w1 ⟨rfl, hr1, hk1⟩
  have hs1 := hk1.size
  obtain ⟨q, hq⟩ : ∃ q, w1.heap.size = q := ⟨_, rfl⟩
  have t1 := T0.out.keep hk1 (by omega)
  have hka : Kep (fun _ => True) w1 (w1.alloc (.cells #[.int .i64 (n : Int), .slice none 0 0] 34)) := kep_alloc _ _ _
  have n1 := two_new w1 34 (.int .i64 (n : Int)) (.slice none 0 0)
  rw [hq] at n1
  have hsq : (w1.alloc (.cells #[.int .i64 (n : Int), .slice none 0 0] 34)).heap.size = q + 1 := by simp [hq]
  have HM1 := Lib.hid (HM.out (w1.alloc (.cells #[.int .i64 (n : Int), .slice none 0 0] 34)) (hr1.keep hka trivial (fun _ _ => trivial) (by omega)))
  have HT1 := Lib.hid (t1.keep hka trivial)
  have HX1 := Lib.hid n1
  have HK1 : Hid (Kep (fun b => b ≠ R + 1) wa (w1.alloc (.cells #[.int .i64 (n : Int), .slice none 0 0] 34))) := Lib.hid (hk1.trans (hka.mono fun _ _ => trivial))
  clear hr1 hk1 t1 n1 hka HN HM T0
  go_wp2_with fail
  refine HM1.out.mono ?_
  rintro e w3 ⟨rfl, hr3, hk3⟩
  have hs3 := hk3.size
  rw [hsq] at hs3
  have hqa : R + 2 ≤ q := by omega
  have HR3 := Lib.hid hr3
  have HT3 := Lib.hid (HT1.out.keep hk3 (by omega))
  have HX3 := Lib.hid (HX1.out.keep hk3 (by omega))
  have HK3 := Lib.hid (HK1.out.trans hk3)
  have HO3 := Lib.hid (OwnX.nil_ (C := evC) 24 (q + 1) (fun _ => False) w3)
  have HS3 : Hid (∀ b, (fun _ => False) b → q < b ∧ IsF w3 b) := Lib.hid (fun _ h => h.elim)
  clear hr3 hk3 HM1 HT1 HX1 HK1
  go_wp2_with fail
  go_loopw [11] (fun iv wr => ∃ (i : Nat) (u : Value) (S : Nat → Prop), i ≤ N ∧ iv = .int .i64 i ∧ Hid (OwnX evC 24 (q + 1) S wr u (evsN i ([], l2, o2)).1) ∧ Hid (∀ b, S b → q < b ∧ IsF wr b) ∧ Hid (Two wr q 34 (.int .i64 (n : Int)) u) ∧ Hid (Two wr R 34 (.int .i64 0) (.slice none 0 0)) ∧ Hid (Rd R wr (R + 1) (evsN i ([], l2, o2)).2.1 (evsN i ([], l2, o2)).2.2) ∧ Hid (Kep (fun b => b ≠ R + 1) wa wr)) (fun iv _ => N - (intOf iv).toNat)
  case atStart => exact ⟨0, _, _, by omega, rfl, HO3, HS3, HX3, HT3, HR3, HK3⟩
  case round =>
    obtain ⟨i, u, S, hi, rfl, HO, HS, HX, HT, HR, HK⟩ := hrel
    clear HO3 HS3 HX3 HT3 HR3 HK3
    have hqw := HX.out.lt
    have hlen := evsN_len i ([], l2, o2)
    by_cases hlt : i < N
    · have q1 : decide ((i : Int) < (N : Int)) = true := by rw [decide_eq_true_eq]; omega
      obtain ⟨es, li, oi, hsi⟩ : ∃ es li oi, evsN i ([], l2, o2) = (es, li, oi) := ⟨_, _, _, rfl⟩
      obtain ⟨z, fs, l4, o4, hev⟩ : ∃ z fs l4 o4, evSt li oi = ((z, fs), l4, o4) := ⟨_, _, _, _, rfl⟩
      have hnx : evsN (i + 1) ([], l2, o2) = (es ++ [(z, fs)], l4, o4) := by
        rw [evsN, hsi]
        unfold stepE
        dsimp only
        rw [hev]
      rw [hsi] at HO HR hlen
      have hel : es.length ≤ 64 := by simp at hlen; omega
      have HNX := Lib.hid hnx
      have HE := Lib.hid (fun W (h : Rd R W (R + 1) li oi) => (show Calls Try.prog 48 #[.pointer (some ⟨R + 1, 0, none⟩)] W (EvTook R (R + 1) ((z, fs), l4, o4) W) from by have := event_any R (R + 1) li oi W h (by omega); rw [hev] at this; exact this))
      have HLT := Lib.hid hlt
      clear hsi hev hnx hlt hlen
      go_wp2_with fail
      refine RS.begin_ (T := fun b => b ≠ R + 1 ∧ u.ownBlock ≠ some b) [(0, true), (1, true), (2, false), (3, false), (4, false), (5, true)] hmx (by kernel_rfl) (fun _ _ d _ _ h => by cases d <;> exact h) ?_
      simp only [RS.ordered, List.map_cons, List.map_nil, List.getElem?_toArray, List.getElem?_cons_succ, List.getElem?_cons_zero]
      have hub : u.ownBlock ≠ some q := fun e => by have := (HO.out.cells e).1; omega
      have hug : u.ownBlock ≠ some (R + 1) := fun e => by have := (HO.out.cells e).1; omega
      have huR : u.ownBlock ≠ some R := fun e => by have := (HO.out.cells e).1; omega
      obtain ⟨wd, hwd⟩ : ∃ wd, wr.drew = wd := ⟨_, rfl⟩
      have hkd : Kep (fun _ => True) wr wd := by rw [← hwd]; exact kep_draw _ _
      have hsd : wr.heap.size = wd.heap.size := by rw [← hwd]; rfl
      have hxd := HX.out.keep hkd trivial
      have G := Lib.hid (fun W (hW : Kep (fun b => b ≠ R + 1 ∧ u.ownBlock ≠ some b) wd W) => (show W.cell? ⟨q, 1, none⟩ = some u from (hxd.keep hW ⟨by omega, hub⟩).c1))
      have HOd := Lib.hid (HO.out.keep hkd (fun _ _ _ => trivial) (fun _ _ => trivial))
      have HSd : Hid (∀ b, S b → q < b ∧ IsF wd b) := Lib.hid (fun b hb => ⟨(HS.out b hb).1, (HS.out b hb).2.keep hkd trivial⟩)
      have HXd := Lib.hid hxd
      have HTd := Lib.hid (HT.out.keep hkd trivial)
      have HRd := Lib.hid (HR.out.keep hkd trivial (fun _ _ => trivial) (by omega))
      have HKd := Lib.hid (HK.out.trans (hkd.mono fun _ _ => trivial))
      rw [hwd]
      clear hwd hkd hxd HO HS HX HT HR HK
      repeat (refine RS.take (by rfl) (by intro W hW; have f1 := G.out W hW; go_simp; with_reducible rfl) ?_; simp only [Act.put, List.setIfInBounds_toArray, List.set_cons_zero, List.set_cons_succ])
      refine RS.alone (by rfl) (fun K hK => ?_)
      go_simp
      refine (HE.out wd HRd.out).mono ?_
      rintro e w5 ⟨ue, rfl, hue, hr5, hk5⟩
      dsimp only at hue hr5 ⊢
      obtain ⟨pe, ce, rfl, _⟩ := hue.shape
      go_simp
      refine hK.out _ _ (hk5.mono fun _ h => h.1) ?_
      clear hK K
      have hs5 := hk5.size
      have hS5 : ∀ b, S b → q < b ∧ IsF w5 b := fun b hb => ⟨(HSd.out b hb).1, (HSd.out b hb).2.keep hk5 (by have := (HSd.out b hb).1; omega)⟩
      have ho5 := (HOd.out.keep hk5 (fun b _ hb => by have := (HSd.out b hb).1; omega) (fun k hk => by have := (HOd.out.cells hk).1; omega)).weak (T := fun b => S b ∨ NewF wd w5 b) (fun b _ hb => .inl hb)
      have HO5 := Lib.hid ho5
      have HS5 : Hid (∀ b, (S b ∨ NewF wd w5 b) → q < b ∧ IsF w5 b) := Lib.hid (fun b hb => hb.elim (hS5 b) (fun h => ⟨by have := h.1; omega, h.2⟩))
      have HEV := Lib.hid (show evC.on (fun b => S b ∨ NewF wd w5 b) w5 [.int .i64 z, .slice pe fs.length ce] (z, fs) from ev_on.2 ⟨_, rfl, hue.weak fun b _ hb => .inr hb⟩)
      have HX5 := Lib.hid (HXd.out.keep hk5 (by omega))
      have HT5 := Lib.hid (HTd.out.keep hk5 (by omega))
      have HR5 := Lib.hid hr5
      have HK5 := Lib.hid (HKd.out.trans hk5)
      clear hr5 hk5 hue hS5 ho5 G HOd HSd HXd HTd HRd HKd HE
      refine RS.alone (by rfl) (fun K hK => ?_)
      go_simp
      refine hK.out _ _ (kep_alloc _ _ _) ?_
      clear hK K
      refine RS.alone (by rfl) (fun K hK => ?_)
      refine wp_append_x1 evE _ _ rfl (q + 1) u es w5 [.int .i64 z, .slice pe fs.length ce] (z, fs) rfl rfl HO5.out (fun b _ hb => isF_apt (HS5.out b hb).2) HEV.out rfl (by unfold maxLen; omega) (by omega) (by omega) ?_
      intro v6 w6 ho6 hb6 hk6 hv6
      obtain ⟨g6, c6, rfl⟩ := hv6
      refine hK.out _ _ (hk6.mono fun _ h => h.2) ?_
      clear hK K
      have hka : Kep (fun b => u.ownBlock ≠ some b) w5 w6 := (kep_alloc _ _ _).trans hk6
      have HO6 := Lib.hid ho6
      have x6 := HX5.out.keep hka hub
      have HX6 := Lib.hid x6
      have HT6 := Lib.hid (HT5.out.keep hka huR)
      have HR6 := Lib.hid (HR5.out.keep hka hug (fun k hk e => by have := (HO5.out.cells e).1; omega) (by omega))
      have HK6 := Lib.hid (HK5.out.andThen hka (fun k hk _ e => by have := (HO5.out.cells e).1; have h3 : k < wa.heap.size := hk; omega))
      have HS6 : Hid (∀ b, (S b ∨ NewF wd w5 b) → q < b ∧ IsF w6 b) := Lib.hid (fun b hb => ⟨(HS5.out b hb).1, (HS5.out b hb).2.keep hka (isF_own HO5.out (HS5.out b hb).2)⟩)
      have hs6 := hka.size
      clear hka ho6 hb6 hk6 HO5 HX5 HT5 HR5 HK5 HS5 HEV
      repeat (refine RS.take (by rfl) (by intro W hW; go_simp; with_reducible rfl) ?_; simp only [Act.put, List.setIfInBounds_toArray, List.set_cons_zero, List.set_cons_succ])
      refine RS.done ?_
      simp only [List.length_cons, List.length_nil, List.drop_succ_cons, List.drop_zero, Nat.zero_add, Nat.reduceAdd]
      obtain ⟨k0, k1, k2, k3, _, _⟩ := x6.all (.int .i64 (n : Int))
      have hkb : Kep (fun b => b ≠ q) w6 (w6.setCell ⟨q, 1, none⟩ (.slice (some ⟨g6, 0, none⟩) (es.length + 1) c6)) := kep_set0 _
      have HO7 := Lib.hid (HO6.out.keep hkb (fun b _ hb => by have := (HS6.out b hb).1; omega) (fun k hk => by have := (HO6.out.cells hk).1; omega))
      have HX7 := Lib.hid (x6.s1 (.slice (some ⟨g6, 0, none⟩) (es.length + 1) c6))
      have HT7 := Lib.hid (HT6.out.keep hkb (by omega))
      have HR7 := Lib.hid (HR6.out.keep hkb (by omega) (fun k hk => by omega) (by omega))
      have HK7 := Lib.hid (HK6.out.andThen hkb (fun k hk _ => by omega))
      have HS7 : Hid (∀ b, (S b ∨ NewF wd w5 b) → q < b ∧ IsF (w6.setCell ⟨q, 1, none⟩ (.slice (some ⟨g6, 0, none⟩) (es.length + 1) c6)) b) := Lib.hid (fun b hb => ⟨(HS6.out b hb).1, (HS6.out b hb).2.keep hkb (by have := (HS6.out b hb).1; omega)⟩)
      have HOr : Hid (OwnX evC 24 (q + 1) (fun b => S b ∨ NewF wd w5 b) (w6.setCell ⟨q, 1, none⟩ (.slice (some ⟨g6, 0, none⟩) (es.length + 1) c6)) (.slice (some ⟨g6, 0, none⟩) (es.length + 1) c6) (evsN (i + 1) ([], l2, o2)).1) := Lib.hid (by rw [HNX.out]; exact HO7.out)
      have HRr : Hid (Rd R (w6.setCell ⟨q, 1, none⟩ (.slice (some ⟨g6, 0, none⟩) (es.length + 1) c6)) (R + 1) (evsN (i + 1) ([], l2, o2)).2.1 (evsN (i + 1) ([], l2, o2)).2.2) := Lib.hid (by rw [HNX.out]; exact HR7.out)
      clear hkb x6 HO6 HX6 HT6 HR6 HK6 HO7 HR7 HNX HS6
      go_wp2_with fail
      have hlt := HLT.out
      go_roundw
      case rel => exact ⟨i + 1, _, _, by omega, by go_num, HOr, HS7, HX7, HT7, HRr, HK7⟩
      case measure => simp [intOf]; omega
    · obtain rfl : i = N := by omega
      have q1 : decide ((i : Int) < (i : Int)) = false := by simp
      obtain ⟨es, li, oi, hsi⟩ : ∃ es li oi, evsN i ([], l2, o2) = (es, li, oi) := ⟨_, _, _, rfl⟩
      rw [hsi] at HO HR HBAD HGOOD
      have HB9 := Lib.hid (HBA.out.trans (HK.out.below (B := w.heap.size) (by omega) (fun k hk => by omega)))
      obtain ⟨vl, hc2, hl2⟩ := HR.out
      obtain ⟨pl, cl, rfl, _⟩ := hl2.shape
      have g0 := cell_of_row wr (R + 1) 0 _ _ _ hc2
      have g1 := cell_of_row wr (R + 1) 1 _ _ _ hc2
      have e0 := HX.out.c0
      have e1 := HX.out.c1
      obtain ⟨pu, cu, hpu, _⟩ := (OwnX.any HO.out).shape
      subst hpu
      have HU := Lib.hid (HO.out.ron (T := fun b => b ≠ R) (fun k hk => by have := (HO.out.cells hk).1; omega) (fun b _ hb => by have := (HS.out b hb).1; omega))
      have HCK := Lib.hid (cbatch_any (n : Int) _ es wr HU.out.any)
      obtain ⟨c, hc⟩ : ∃ c, checkB ((n : Int), es) = c := ⟨_, rfl⟩
      rw [hc] at HBAD HGOOD HCK
      have HQ0 := Lib.hid (fun h => HFAIL.out wr _ _ HT.out HB9.out (HBAD.out h))
      have HXR := Lib.hid (HT.out.s01 (.int .i64 0) (.slice none 0 0))
      obtain ⟨_, _, b2, b3, b4, b5⟩ := HT.out.all (.int .i64 0)
      clear hsi hlt hlen hc2 hl2 HO HS HK HR hc
      cases oi with
      | true =>
        have HQ := Lib.hid (HQ0.out (.inl rfl))
        clear HFAIL HBAD HGOOD HQ0 HCK HU HX HT
        go_wp2_with fail
        refine bodyPost_ret (results_box2 (p := 2) (u := 3) rfl Try.underlying34 rfl infoBat2 _ _ R _ _ rfl HXR.out) rfl HQ.out
      | false =>
        by_cases hl0 : 0 < li.length
        · have t1 : decide ((li.length : Int) > 0) = true := decide_eq_true (by omega)
          have HQ := Lib.hid (HQ0.out (.inr (.inl hl0)))
          clear HFAIL HBAD HGOOD HQ0 HCK HU HX HT
          go_wp2_with fail
          refine bodyPost_ret (results_box2 (p := 2) (u := 3) rfl Try.underlying34 rfl infoBat2 _ _ R _ _ rfl HXR.out) rfl HQ.out
        · have t1 : decide ((li.length : Int) > 0) = false := decide_eq_false (by omega)
          have HFB := HFAIL
          clear HQ0 HXR b2 b3 b4 b5
          go_wp2_with fail
          refine HCK.out.mono ?_
          rintro e w10 ⟨rfl, hb10⟩
          have HT10 := Lib.hid (HT.out.below hb10 HT.out.lt)
          have HX10 := Lib.hid (HX.out.below hb10 HX.out.lt)
          have HB10 := Lib.hid (HB9.out.trans (hb10.mono HB9.out.size))
          have HU10 := Lib.hid (ROn.keep HU.out (kep_below _ hb10) fun _ _ h => h)
          obtain ⟨_, _, b2, b3, b4, b5⟩ := HT10.out.all (.int .i64 0)
          obtain ⟨_, _, _, _, c4, c5⟩ := HT10.out.all (.int .i64 (n : Int))
          clear hb10 HCK HU HX HT HB9 g0 g1 e0 e1
          by_cases h0 : c = 0
          · subst h0
            have hdr := decR_some (HGOOD.out (by trivial) (by omega) rfl)
            have k0 := HX10.out.c0
            have k1 := HX10.out.c1
            have HX := Lib.hid (HT10.out.s01 (.int .i64 (n : Int)) (.slice pu es.length cu))
            have hk5 : Kep (fun b => b ≠ R) w10 ((w10.setCell ⟨R, 0, none⟩ (.int .i64 (n : Int))).setCell ⟨R, 1, none⟩ (.slice pu es.length cu)) := kep_set01 _ _
            have HQ : Hid (DecLeft (decR l) w (.returned (.tuple #[.agg #[.int .i64 (n : Int), .slice pu es.length cu], .int .i64 0])) ((w10.setCell ⟨R, 0, none⟩ (.int .i64 (n : Int))).setCell ⟨R, 1, none⟩ (.slice pu es.length cu))) := Lib.hid (by
              rw [hdr]
              refine ⟨_, rfl, ROn.any (HU10.out.keep hk5 fun _ _ h => h), ?_⟩
              exact HB10.out.trans (hk5.below (B := w.heap.size) (by have := HT10.out.lt; omega) (fun k hk => by omega)))
            clear hdr hk5 HFB HBAD HGOOD HU10 HX10 HT10 HB10
            go_wp2_with fail
            refine bodyPost_ret (results_box2 (p := 2) (u := 3) rfl Try.underlying34 rfl infoBat2 _ _ R _ _ rfl HX.out) rfl HQ.out
          · have t2 : (c != 0) = true := by rw [bne_iff_ne]; exact h0
            have HQ := Lib.hid (HFB.out w10 _ _ HT10.out HB10.out (HBAD.out (.inr (.inr h0))))
            have HX := Lib.hid (HT10.out.s01 (.int .i64 0) (.slice none 0 0))
            clear HFB HBAD HGOOD HU10 HX10 HT10 HB10
            go_wp2_with fail
            refine bodyPost_ret (results_box2 (p := 2) (u := 3) rfl Try.underlying34 rfl infoBat2 _ _ R _ _ rfl HX.out) rfl HQ.out
end Go.Proofs.Ytgacfihidpijeaa.EV
set_option linter.unusedVariables false
namespace Go.Proofs.Ytgacfihidpijeaa.MM
open Go.RowKit Go.Proofs.Ytgacfihidpijeaa.VP

theorem own_empty1 (w : World) (B : Nat) (hB : B ≤ w.heap.size) : OwnB B (w.alloc (.cells #[] 5)) (.slice (some ⟨w.heap.size, 0, none⟩) 0 0) [] := own_lit w [] 5 B hB (by unfold maxLen; simp)
set_option maxRecDepth 100000 in
theorem bclone_any (v : Value) (l : List UInt8) (w : World) (h : BRow w v l) (hl : l.length ≤ 1000000000000) : Calls Try.prog 49 #[v] w (PutLeft w.heap.size l w) := by
  obtain ⟨p, cap, rfl, hlc, _⟩ := h.shape
  have hq := fun (w : World) (a : Option Addr) (n c : Nat) => Lib.run_eql_slice_nil (P := Try.prog) w 40 5 a n c 0 0 Try.underlying40
  cases p with
  | none =>
    have hl0 : l = [] := by
      obtain ⟨p', cap', hv, h1, h2, h3, h4⟩ := h
      simp only [Value.slice.injEq] at hv
      obtain ⟨rfl, hv2, hv3⟩ := hv
      have := h3 rfl
      exact List.eq_nil_of_length_eq_zero (by omega)
    subst hl0
    have HF := Lib.hid (show PutLeft w.heap.size [] w (.returned (.slice none 0 0)) w from ⟨_, rfl, World.ownsRow_nil _ _ _ _, Below.refl _ _⟩)
    clear h
    go_enter Try.func49, Try.ntmps49
    go_wp2_with fail
    go_ret
    exact HF.out
  | some a =>
    have HO := Lib.hid (own_empty1 w w.heap.size (Nat.le_refl _))
    have HR := Lib.hid (fun o => BRow.below h ((Below.refl w.heap.size w).alloc (Nat.le_refl _) o))
    have HB := Lib.hid (fun o => (Below.refl w.heap.size w).alloc (Nat.le_refl _) o)
    clear h
    go_enter Try.func49, Try.ntmps49
    go_wp2_with (at_builtin; go_loud (refine wpList_append_bytes rfl _ _ rfl w.heap.size _ [] rfl HO.out _ l rfl (HR.out _) (by simp; omega) (by simp) ?_))
    intro v1 w1 hown hb
    have HF := Lib.hid (show PutLeft w.heap.size l w (.returned v1) w1 from ⟨_, rfl, hown, (HB.out _).trans hb⟩)
    clear hown hb
    go_wp2_with fail
    go_ret
    exact HF.out

end Go.Proofs.Ytgacfihidpijeaa.MM
set_option linter.unusedVariables false
namespace Go.Proofs.Ytgacfihidpijeaa.EV
open Go Go.RowKit Go.Proofs.Ytgacfihidpijeaa.MM Go.Proofs.Ytgacfihidpijeaa.EM Go.Proofs.Ytgacfihidpijeaa.VM
open Go.Proofs.Ytgacfihidpijeaa.VP

/-- What Get tells: an event, a rest, an error's number. -/
def getR (l : List UInt8) : Ev × List UInt8 × Int := match getE l with
  | some (e, r) => (e, r, 0)
  | none => ((0, []), [], 100)
theorem getR_some {l r : List UInt8} {e : Ev} (h : getE l = some (e, r)) : getR l = (e, r, 0) := by unfold getR; rw [h]
theorem getR_none {l : List UInt8} (h : getE l = none) : getR l = ((0, []), [], 100) := by unfold getR; rw [h]
theorem get_odd {l : List UInt8} (h : (evSt l false).2.2 = true) : getE l = none := by
  unfold getE
  cases hr : rdE l with
  | none => rfl
  | some p =>
    obtain ⟨e, r⟩ := p
    rw [ev_some false hr] at h
    cases h
theorem get_read {l : List UInt8} (h : (evSt l false).2.2 = false) : rdE l = some ((evSt l false).1, (evSt l false).2.1) := by
  cases hr : rdE l with
  | none => rw [ev_none false hr] at h; cases h
  | some p =>
    obtain ⟨e, r⟩ := p
    rw [ev_some false hr]
theorem get_bad {l : List UInt8} (h : (evSt l false).2.2 = false) (hc : checkE (evSt l false).1 ≠ 0) : getE l = none := by
  unfold getE
  rw [get_read h]
  dsimp only
  rw [if_neg hc]
theorem get_good {l : List UInt8} (h : (evSt l false).2.2 = false) (hc : checkE (evSt l false).1 = 0) : getE l = some ((evSt l false).1, (evSt l false).2.1) := by
  unfold getE
  rw [get_read h]
  dsimp only
  rw [if_pos hc]
/-- What Get leaves. -/
def CGot (s : Ev × List UInt8 × Int) (w : World) (e : Ending) (w' : World) : Prop :=
  ∃ u v, e = .returned (.tuple #[.agg #[.int .i64 s.1.1, u], v, .int .i64 s.2.2]) ∧ ROn fldC (fun b => w.heap.size ≤ b) w' u s.1.2 ∧ OwnB w.heap.size w' v s.2.1 ∧ Below w.heap.size w w'

set_option maxRecDepth 100000 in
set_option maxHeartbeats 2000000 in
theorem cget_any (v : Value) (l : List UInt8) (w : World) (hv : BRow w v l) (hl : l.length ≤ 1000000000000) : Calls Try.prog 28 #[v] w (CGot (getR l) w) := by
  have hmx : Try.prog.follows .mixedOrders = true := by kernel_rfl
  obtain ⟨pv, cv, rfl, _⟩ := hv.shape
  obtain ⟨z, fs, l1, o1, hst⟩ : ∃ z fs l1 o1, evSt l false = ((z, fs), l1, o1) := ⟨_, _, _, _, rfl⟩
  have hodd := get_odd (l := l)
  have hbad := get_bad (l := l)
  have hgood := get_good (l := l)
  rw [hst] at hodd hbad hgood
  have HODD := Lib.hid hodd
  have HBAD := Lib.hid hbad
  have HGOOD := Lib.hid hgood
  -- the result's block, the reader's
  obtain ⟨wa, hwa⟩ : ∃ wa, (w.alloc (.cells #[.int .i64 0, .slice none 0 0] 24)).alloc (.cells #[.slice pv l.length cv, .bool false] 80) = wa := ⟨_, rfl⟩
  have hba : Below w.heap.size w wa := by rw [← hwa]; exact ((Below.refl _ _).alloc (Nat.le_refl _) _).alloc (by simp) _
  have hsa : wa.heap.size = w.heap.size + 2 := by rw [← hwa]; simp
  have t0 : Two wa w.heap.size 24 (.int .i64 0) (.slice none 0 0) := by
    rw [← hwa]; exact (two_new w 24 _ _).keep (kep_alloc (fun _ => True) _ _) trivial
  have hrd : Rd w.heap.size wa (w.heap.size + 1) l false := by
    refine ⟨.slice pv l.length cv, ?_, BIn.below hv hba⟩
    rw [← hwa]
    have := heap_alloc_new (w.alloc (.cells #[.int .i64 0, .slice none 0 0] 24)) (.cells #[.slice pv l.length cv, .bool false] 80)
    simp only [World.size_alloc] at this
    exact this
  have HE := Lib.hid (event_any w.heap.size (w.heap.size + 1) l false wa hrd (by omega))
  rw [hst] at HE
  have HFAIL : Hid (∀ W a b, Two W w.heap.size 24 a b → Below w.heap.size w W → getE l = none →
      CGot (getR l) w (.returned (.tuple #[.agg #[.int .i64 0, .slice none 0 0], .slice none 0 0, .int .i64 100])) ((W.setCell ⟨w.heap.size, 0, none⟩ (.int .i64 0)).setCell ⟨w.heap.size, 1, none⟩ (.slice none 0 0))) := Lib.hid (fun W a b ht hb hn => by
    rw [getR_none hn]
    exact ⟨_, _, rfl, ROn.nil_ _ _, World.ownsRow_nil _ _ _ _, hb.trans ((kep_set01 (.int .i64 0) (.slice none 0 0)).below (B := w.heap.size) (Nat.le_of_lt ht.lt) (fun k hk => by omega))⟩)
  have T0 := Lib.hid t0
  have HBA := Lib.hid hba
  have HWA := Lib.hid hwa
  clear hodd hbad hgood hst hrd t0 hba hv hwa
  go_enter Try.func28, Try.ntmps28
  go_wp2_with fail
  rw [HWA.out]
  refine HE.out.mono ?_
  rintro e w1 ⟨u, rfl, hu, hr1, hk1⟩
  have hu : ROn fldC (fun b => wa.heap.size ≤ b) w1 u fs := ROn.weak hu fun b _ h => h.1
  have hr1 : Rd w.heap.size w1 (w.heap.size + 1) l1 o1 := hr1
  have hs1 := hk1.size
  have t1 : Two w1 w.heap.size 24 (.int .i64 0) (.slice none 0 0) := T0.out.keep hk1 (by omega)
  have HT2 := Lib.hid (t1.s01 (.int .i64 z) u)
  have hk2 : Kep (fun b => b ≠ w.heap.size) w1 ((w1.setCell ⟨w.heap.size, 0, none⟩ (.int .i64 z)).setCell ⟨w.heap.size, 1, none⟩ u) := kep_set01 _ _
  obtain ⟨a0, a1, a2, a3, a4, a5⟩ := t1.all (.int .i64 z)
  obtain ⟨w2, hw2⟩ : ∃ w2, (w1.setCell ⟨w.heap.size, 0, none⟩ (.int .i64 z)).setCell ⟨w.heap.size, 1, none⟩ u = w2 := ⟨_, rfl⟩
  rw [hw2] at HT2 hk2
  have hs2 := hk2.size
  have HW2 := Lib.hid hw2
  have hb2 : Below w.heap.size w w2 := HBA.out.trans ((hk1.below (B := w.heap.size) (by omega) (fun k hk => by omega)).trans (hk2.below (by omega) (fun k hk => by omega)))
  have hu2 : ROn fldC (fun b => wa.heap.size ≤ b) w2 u fs := (hu.weak (T := fun b => wa.heap.size ≤ b ∧ b ≠ w.heap.size) (fun b _ hb => ⟨hb, by have : wa.heap.size ≤ b := hb; omega⟩)).keep (hk2.mono fun _ h => h.2) (fun _ _ h => h.1)
  have hr2 : Rd w.heap.size w2 (w.heap.size + 1) l1 o1 := hr1.keep hk2 (by omega) (fun k hk => by omega) (by omega)
  have HB2 := Lib.hid hb2
  have HU2 := Lib.hid hu2
  obtain ⟨vl, hc2, hl2⟩ := hr2
  have HVL := Lib.hid hl2
  have g0 := cell_of_row w2 (w.heap.size + 1) 0 _ _ _ hc2
  have g1 := cell_of_row w2 (w.heap.size + 1) 1 _ _ _ hc2
  obtain ⟨pu, cu, hpu, _⟩ := hu2.shape
  subst hpu
  have e0 := HT2.out.c0
  have e1 := HT2.out.c1
  have HC2 := Lib.hid hc2
  rw [← HW2.out] at g0 g1 e0 e1
  clear hu hr1 hk1 t1 hk2 hw2 hb2 hu2 hl2 hc2 HE
  cases o1 with
  | true =>
    have HQ := Lib.hid (HFAIL.out w2 _ _ HT2.out HB2.out (HODD.out rfl))
    have HX := Lib.hid (HT2.out.s01 (.int .i64 0) (.slice none 0 0))
    obtain ⟨_, _, b2, b3, b4, b5⟩ := HT2.out.all (.int .i64 0)
    rw [← HW2.out] at HQ HX b2 b3 b4 b5
    clear HU2 HVL HC2 HFAIL HODD HBAD HGOOD HW2 HT2
    go_wp2_with fail
    refine bodyPost_ret (results_box3 (p := 2) (u := 3) (v := 4) rfl Try.underlying24 rfl infoEv2 _ _ w.heap.size _ _ rfl HX.out) rfl HQ.out
  | false =>
    go_wp2_with fail
    rw [HW2.out]
    rw [HW2.out] at g0 g1 e0 e1
    refine (check_any z _ fs w2 HU2.out.any).mono ?_
    rintro e w3 ⟨rfl, hb3⟩
    have ht3 := HT2.out.keep (kep_below (fun _ => True) hb3) trivial
    have HB3 := Lib.hid (HB2.out.trans (hb3.mono HB2.out.size))
    have HT3 := Lib.hid ht3
    have hs3 := hb3.size
    have hc3 := (hb3.block (w.heap.size + 1) (by omega)).trans HC2.out
    have HV3 := Lib.hid (HVL.out.below (hb3.mono (by omega)))
    have HU3 := Lib.hid (ROn.keep HU2.out (kep_below _ hb3) fun _ _ h => h)
    obtain ⟨c, hc⟩ : ∃ c, checkE (z, fs) = c := ⟨_, rfl⟩
    rw [hc] at HBAD HGOOD ⊢
    by_cases hz : c = 0
    · subst hz
      have hgd := HGOOD.out (by trivial) rfl
      have HGR := Lib.hid (getR_some hgd)
      have k0 := cell_of_row w3 (w.heap.size + 1) 0 _ _ _ hc3
      have hl1 : l1.length ≤ 1000000000000 := by
        have := congrArg List.length (getE_back hgd).1
        rw [List.length_append] at this
        omega
      clear hb3 ht3 hc3 hgd hc HODD HBAD HGOOD HU2 HVL HC2 HT2 HFAIL g0 g1 e0 e1 a0 a1 a2 a3 a4 a5
      go_wp2_with fail
      refine RS.begin_ (T := fun b => b < w3.heap.size) [(0, true), (1, true), (2, true), (3, false)] hmx (by kernel_rfl) (fun _ _ d _ _ h => by cases d <;> exact h) ?_
      simp only [RS.ordered, List.map_cons, List.map_nil, List.getElem?_toArray, List.getElem?_cons_succ, List.getElem?_cons_zero]
      obtain ⟨wd, hwd⟩ : ∃ wd, w3.drew = wd := ⟨_, rfl⟩
      have hbd : Below w3.heap.size w3 wd := by rw [← hwd]; exact (Below.refl _ _).drew
      have htd := HT3.out.below hbd HT3.out.lt
      have G := Lib.hid (fun W (hW : Kep (fun b => b < w3.heap.size) wd W) => (show W.cell? ⟨w.heap.size, 0, none⟩ = some (.int .i64 z) ∧ W.cell? ⟨w.heap.size, 1, none⟩ = some (.slice pu fs.length cu) ∧ W.cell? ⟨w.heap.size + 1, 0, none⟩ = some vl from
        ⟨(htd.keep hW (by omega)).c0, (htd.keep hW (by omega)).c1, (hW.cell (by have := hbd.size; omega) (by omega) 0).trans ((hbd.cell (p := ⟨w.heap.size + 1, 0, none⟩) (show w.heap.size + 1 < w3.heap.size by omega)).trans k0)⟩))
      have HCL := Lib.hid (bclone_any vl l1 wd (BRow.below (BIn.row HV3.out (by omega)) hbd) hl1)
      have HTD := Lib.hid htd
      have HBD := Lib.hid hbd
      have HUD := Lib.hid (ROn.keep HU3.out (kep_below _ hbd) fun _ _ h => h)
      rw [hwd]
      have hsd := hbd.size
      clear hwd hbd htd HT3 HU3 HV3 k0
      repeat (refine RS.take (by rfl) (by intro W hW; obtain ⟨f1, f2, f3⟩ := G.out W hW; go_simp; with_reducible rfl) ?_; simp only [Act.put, List.setIfInBounds_toArray, List.set_cons_zero, List.set_cons_succ])
      refine RS.alone (by rfl) (fun K hK => ?_)
      go_simp
      refine HCL.out.mono ?_
      rintro e w4 ⟨v4, rfl, ho4, hb4⟩
      go_simp
      refine hK.out _ _ (kep_below _ hb4) ?_
      clear hK K
      have ht4 := HTD.out.below hb4 HTD.out.lt
      obtain ⟨_, _, b2, b3, b4, b5⟩ := ht4.all (.int .i64 z)
      have HX := Lib.hid (ht4.s01 (.int .i64 z) (.slice pu fs.length cu))
      have hs4 := hb4.size
      have hk5 : Kep (fun b => b ≠ w.heap.size) w4 ((w4.setCell ⟨w.heap.size, 0, none⟩ (.int .i64 z)).setCell ⟨w.heap.size, 1, none⟩ (.slice pu fs.length cu)) := kep_set01 _ _
      have HQ : Hid (CGot (getR l) w (.returned (.tuple #[.agg #[.int .i64 z, .slice pu fs.length cu], v4, .int .i64 0])) ((w4.setCell ⟨w.heap.size, 0, none⟩ (.int .i64 z)).setCell ⟨w.heap.size, 1, none⟩ (.slice pu fs.length cu))) := Lib.hid (by
        rw [HGR.out]
        refine ⟨_, _, rfl, ?_, ?_, ?_⟩
        · have h1 := ROn.keep HUD.out (kep_below _ hb4) fun _ _ h => h
          exact (h1.weak (T := fun b => w.heap.size ≤ b ∧ b ≠ w.heap.size) (fun b _ hb => by have : wa.heap.size ≤ b := hb; exact ⟨by omega, by omega⟩)).keep (hk5.mono fun _ h => h.2) (fun _ _ h => h.1)
        · exact OwnB.weaken (GB.OwnB.kepOwn ho4 hk5 (fun k hk => by have := (World.ownsRow.lt ho4 k hk).1; omega)) (by omega)
        · exact (HB3.out.trans ((HBD.out.trans (hb4.mono hsd)).mono HB3.out.size)).trans (hk5.below (by omega) (fun k hk => by omega)))
      clear ht4 ho4 hb4 hk5 HTD HBD HUD G HCL HGR HB3
      refine RS.done ?_
      simp only [List.length_cons, List.length_nil, List.drop_succ_cons, List.drop_zero, Nat.zero_add, Nat.reduceAdd]
      go_wp2_with fail
      refine bodyPost_ret (results_box3 (p := 2) (u := 3) (v := 4) rfl Try.underlying24 rfl infoEv2 _ _ w.heap.size _ _ rfl HX.out) rfl HQ.out
    · have q1 : (c != 0) = true := by rw [bne_iff_ne]; exact hz
      have HQ := Lib.hid (HFAIL.out w3 _ _ HT3.out HB3.out (HBAD.out (by trivial) hz))
      have HX := Lib.hid (HT3.out.s01 (.int .i64 0) (.slice none 0 0))
      obtain ⟨_, _, b2, b3, b4, b5⟩ := HT3.out.all (.int .i64 0)
      clear HU2 HVL HC2 HFAIL HODD HBAD HGOOD HW2 HT2 hb3 ht3 hc3 HU3 HV3
      go_wp2_with fail
      refine bodyPost_ret (results_box3 (p := 2) (u := 3) (v := 4) rfl Try.underlying24 rfl infoEv2 _ _ w.heap.size _ _ rfl HX.out) rfl HQ.out
end Go.Proofs.Ytgacfihidpijeaa.EV
set_option linter.unusedVariables false
namespace Go.Proofs.Ytgacfihidpijeaa.MM
open Go.ChangeShapes Go.WideShapes Go.ChangeAt Go.RowKit Go.Proofs

theorem own : ownKnob Try.prog.godebug = none := by kernel_rfl
theorem laidOut : laidOutB Try.prog = true := by kernel_rfl

theorem cell_lt {w : World} {b o : Nat} {v : Value} (h : w.cell? ⟨b, o, none⟩ = some v) : b < w.heap.size := by
  by_cases hb : b < w.heap.size
  · exact hb
  · simp [World.cell?, Array.getElem?_eq_none (Nat.le_of_not_lt hb)] at h

/-- Cells behind an address read as a row. -/
theorem row_of_cells {W : World} {a : Addr} {len cap : Nat} {xs : List Value} (hl : xs.length = len) (hlc : len ≤ cap) (hcm : cap ≤ maxLen) (hc : ∀ i u, xs[i]? = some u → W.cell? (a.add i) = some u) : Row W (.slice (some a) len cap) xs := by
  subst hl
  refine ⟨some a, cap, rfl, hlc, hcm, (fun h => by cases h), ?_⟩
  cases xs with
  | nil => exact .inl rfl
  | cons x xs =>
    right
    obtain ⟨b, off, spot⟩ := a
    have hc0 := hc 0 x rfl
    have hspot : spot = none := by simpa [Addr.add] using World.cell?_spot hc0
    subst hspot
    refine ⟨b, off, rfl, cell_lt (o := off) (v := x) (by simpa [Addr.add] using hc0), fun i u hi => ?_⟩
    rw [← add_at]
    exact hc i u hi

theorem u64_of_wf {x : Int} (h : (Lit.int .u64 x).wf = true) : ∃ n : Nat, x = (n : Int) ∧ n < 18446744073709551616 := by
  simp only [Lit.wf, Bool.and_eq_true, decide_eq_true_eq] at h
  have h1 : IntKind.u64.min = 0 := by decide
  have h2 : IntKind.u64.max = 18446744073709551615 := by decide
  rw [h1, h2] at h
  exact ⟨x.toNat, by omega, by omega⟩
theorem u32_of_wf {x : Int} (h : (Lit.int .u32 x).wf = true) : ∃ n : Nat, x = (n : Int) ∧ n < 4294967296 := by
  simp only [Lit.wf, Bool.and_eq_true, decide_eq_true_eq] at h
  have h1 : IntKind.u32.min = 0 := by decide
  have h2 : IntKind.u32.max = 4294967295 := by decide
  rw [h1, h2] at h
  exact ⟨x.toNat, by omega, by omega⟩
theorem u16_of_wf {x : Int} (h : (Lit.int .u16 x).wf = true) : ∃ n : Nat, x = (n : Int) ∧ n < 65536 := by
  simp only [Lit.wf, Bool.and_eq_true, decide_eq_true_eq] at h
  have h1 : IntKind.u16.min = 0 := by decide
  have h2 : IntKind.u16.max = 65535 := by decide
  rw [h1, h2] at h
  exact ⟨x.toNat, by omega, by omega⟩
theorem u8nat_of_wf {x : Int} (h : (Lit.int .u8 x).wf = true) : ∃ n : Nat, x = (n : Int) ∧ n < 256 := by
  simp only [Lit.wf, Bool.and_eq_true, decide_eq_true_eq] at h
  have h1 : IntKind.u8.min = 0 := by decide
  have h2 : IntKind.u8.max = 255 := by decide
  rw [h1, h2] at h
  exact ⟨x.toNat, by omega, by omega⟩
theorem u8_of_wf {x : Int} (h : (Lit.int .u8 x).wf = true) : 0 ≤ x ∧ x < 256 := by
  simp only [Lit.wf, Bool.and_eq_true, decide_eq_true_eq] at h
  have h1 : IntKind.u8.min = 0 := by decide
  have h2 : IntKind.u8.max = 255 := by decide
  rw [h1, h2] at h
  omega
theorem i64_of_wf {x : Int} (h : (Lit.int .i64 x).wf = true) : -9223372036854775808 ≤ x ∧ x ≤ 9223372036854775807 := by
  simp only [Lit.wf, Bool.and_eq_true, decide_eq_true_eq] at h
  have h1 : IntKind.i64.min = -9223372036854775808 := by decide
  have h2 : IntKind.i64.max = 9223372036854775807 := by decide
  rw [h1, h2] at h
  exact h

/-- A slice of bytes that came in. -/
theorem argBytes {H : Type} {enc : TypeId × Value → H} {W : World} {base : Nat} {T e : TypeId} {a : Option Addr} {len cap : Nat} {d : DataW H} {p : List MemPlace}
    (ht : Try.prog.underlying T = some (.slice e)) (he : Try.prog.underlying e = some (.int .u8)) (hc : Try.prog.cellsOf e = 1)
    (h : ∃ fuel, DataW.trod enc Try.prog W base (fun _ => true) true fuel T (Value.slice a len cap).cells.toList = some (d, p)) : ∃ l, BRow W (.slice a len cap) l := by
  obtain ⟨fuel, hf⟩ := h
  rcases open_ints ht he hc hf with ⟨hcs, _⟩ | ⟨x, n, c, zs, hcs, _, hl, hm, hz, _, hcell, hwz⟩
  · simp [Value.cells] at hcs
    obtain ⟨rfl, rfl, rfl⟩ := hcs
    exact ⟨[], BRow.nil_ W⟩
  · simp [Value.cells] at hcs
    obtain ⟨rfl, rfl, rfl⟩ := hcs
    have hzl : zs.length = cap := by simpa using hz
    refine ⟨(zs.take len).map (fun z => UInt8.ofNat z.toNat), row_of_cells (by rw [byteCells_len, List.length_map, List.length_take]; omega) hl hm (fun i u hi => ?_)⟩
    have hi2 : i < len := by
      have := (List.getElem?_eq_some_iff.1 hi).1
      rw [byteCells_len, List.length_map, List.length_take] at this
      omega
    have hlt : i < zs.length := by omega
    have hb := u8_of_wf (hwz zs[i] (List.getElem_mem hlt))
    have hu : u = .int .u8 (zs[i]) := by
      have hg := hi
      simp only [Lib.byteCells, List.getElem?_map, List.getElem?_take, if_pos hi2, List.getElem?_eq_getElem hlt, Option.map_some, Option.some.injEq] at hg
      rw [← hg]
      refine congrArg (Value.int .u8) ?_
      rw [UInt8.toNat_ofNat']
      omega
    rw [hu, hcell i hlt]
    simp [List.getD, hlt]
end Go.Proofs.Ytgacfihidpijeaa.MM
set_option linter.unusedVariables false
namespace Go.Proofs.Ytgacfihidpijeaa.MM
open Go Go.RowKit Go.ChangeShapes Go.WideShapes

/-- What is read as data of type t lies as C says, and G holds of it. -/
def Reads (P : Program) {α : Type} (C : Codec α) (G : α → Prop) (t : TypeId) : Prop :=
  ∀ {H : Type} {enc : TypeId × Value → H} {W : World} {base n : Nat} {cs : List Value} {x : DataW H × List MemPlace}, DataW.trod enc P W base (fun _ => true) true n t cs = some x → ∃ a, C.on (fun _ => True) W cs a ∧ G a
def FitI (z : Int) : Prop := -9223372036854775808 ≤ z ∧ z ≤ 9223372036854775807
theorem reads_int {P : Program} {t : TypeId} (ht : P.underlying t = some (.int .i64)) : Reads P cInt FitI t := fun h => by
  obtain ⟨z, rfl, _, hw⟩ := DataW.trod_int ht h
  refine ⟨z, rfl, ?_⟩
  simp only [Lit.wf, Bool.and_eq_true, decide_eq_true_eq] at hw
  have h1 : IntKind.i64.min = -9223372036854775808 := by decide
  have h2 : IntKind.i64.max = 9223372036854775807 := by decide
  rw [h1, h2] at hw
  exact hw
theorem reads_bool {P : Program} {t : TypeId} (ht : P.underlying t = some .bool) : Reads P cBool (fun _ => True) t := fun h => by
  obtain ⟨b, rfl, _⟩ := DataW.trod_bool ht h
  exact ⟨b, rfl, trivial⟩
theorem reads_u8 {P : Program} {t : TypeId} (ht : P.underlying t = some (.int .u8)) : Reads P cU8 (fun _ => True) t := fun h => by
  obtain ⟨z, rfl, _, hw⟩ := DataW.trod_int ht h
  simp only [Lit.wf, Bool.and_eq_true, decide_eq_true_eq] at hw
  have h1 : IntKind.u8.min = 0 := by decide
  have h2 : IntKind.u8.max = 255 := by decide
  rw [h1, h2] at hw
  refine ⟨UInt8.ofNat z.toNat, ?_, trivial⟩
  show [Value.int .u8 z] = [.int .u8 ((UInt8.ofNat z.toNat).toNat : Int)]
  rw [UInt8.toNat_ofNat']
  congr 2
  omega
theorem reads_str {P : Program} {t : TypeId} (ht : P.underlying t = some .string) : Reads P cStr (fun l => l.length ≤ maxLen) t := fun h => by
  obtain ⟨s, rfl, _, hs⟩ := DataW.trod_string ht h
  exact ⟨s.data.toList, rfl, by simpa using hs⟩
/-- A slice. -/
theorem reads_row {P : Program} {α : Type} [Inhabited α] {C : Codec α} {G : α → Prop} {T e : TypeId} (ht : P.underlying T = some (.slice e)) (hc : P.cellsOf e = C.size) (he : Reads P C G e) : Reads P (cRow C) (fun l => (∀ a ∈ l, G a) ∧ l.length ≤ maxLen) T := fun {H enc W base n cs x} h => by
  rcases Deep.open_slice ht h with ⟨rfl, _⟩ | ⟨a, len, cap, m, k, D, Pl, rfl, _, hl, hm, hmm, _, hx⟩
  · exact ⟨[], ⟨_, rfl, ROn.nil_ _ _⟩, by simp, by simp [maxLen]⟩
  · simp only [if_true] at hmm
    subst hmm
    have each : ∀ i, i < len → ∃ q : α × List Value, W.cells? base (a.add (i * C.size)) C.size = some q.2 ∧ C.on (fun _ => True) W q.2 q.1 ∧ G q.1 := fun i hi => by
      obtain ⟨cs', h1, h2⟩ := hx i (by omega)
      obtain ⟨d, h3, h4⟩ := he h2
      rw [hc] at h1
      exact ⟨(d, cs'), h1, h3, h4⟩
    obtain ⟨q, hq⟩ := Deep.choose_lt each
    refine ⟨(List.range len).map fun i => (q i).1, ⟨_, rfl, some a, m, (List.range len).map fun i => (q i).2, by simp, by simpa using hl, hm, (fun h => by cases h), ⟨by simp, fun i hi hi' => ?_⟩, ?_⟩, fun d hd => ?_, by simp; omega⟩
    · have hi2 : i < len := by simpa using hi
      simp only [List.getElem_map, List.getElem_range]
      exact (hq i hi2).2.1
    · by_cases h0 : len = 0
      · left; simp [h0]
      · right
        have hlens : ∀ r ∈ (List.range len).map (fun i => (q i).2), r.length = C.size := fun r hr => by
          obtain ⟨i, hi, rfl⟩ := List.mem_map.1 hr
          exact C.len (hq i (List.mem_range.1 hi)).2.1
        have cell : ∀ i, i < len → ∀ j u, (q i).2[j]? = some u → W.cell? ((a.add (i * C.size)).add j) = some u := fun i hi j u hj => by
          obtain ⟨_, hlen, hcell⟩ := World.cells?_some (hq i hi).1
          have hjl := (List.getElem?_eq_some_iff.1 hj).1
          have := hcell j (by omega)
          rw [this]
          simpa using hj
        have hp := C.pos
        have hl0 := C.len (hq 0 (by omega)).2.1
        obtain ⟨u0, hu0⟩ : ∃ u, (q 0).2[0]? = some u := ⟨_, List.getElem?_eq_getElem (by omega)⟩
        have c0 := cell 0 (by omega) 0 u0 hu0
        obtain ⟨b, off, spot⟩ := a
        have hspot : spot = none := by
          have := World.cell?_spot c0
          simpa [Addr.add] using this
        subst hspot
        refine ⟨b, off, rfl, ?_, trivial, fun j u hj => ?_⟩
        · rw [add_at, add_at] at c0
          by_cases hb : b < W.heap.size
          · exact hb
          · simp [World.cell?, Array.getElem?_eq_none (Nat.le_of_not_lt hb)] at c0
        · have hjl := (List.getElem?_eq_some_iff.1 hj).1
          rw [flat_len hlens, List.length_map, List.length_range] at hjl
          have hi : j / C.size < len := (Nat.div_lt_iff_lt_mul hp).2 hjl
          have hmod := Nat.mod_lt j hp
          have hdm := Nat.div_add_mod j C.size
          have hli := C.len (hq _ hi).2.1
          obtain ⟨u', hu'⟩ : ∃ u, (q (j / C.size)).2[j % C.size]? = some u := ⟨_, List.getElem?_eq_getElem (by omega)⟩
          have hf := flat_get hlens (j / C.size) (by simpa using hi) (j % C.size) u' (by simpa using hu')
          have e : j / C.size * C.size + j % C.size = j := by rw [Nat.mul_comm]; exact hdm
          rw [e, hj] at hf
          obtain rfl := Option.some.inj hf
          have := cell _ hi _ _ hu'
          rw [add_at, add_at, Nat.add_assoc, e] at this
          exact this
    · obtain ⟨i, hi, rfl⟩ := List.mem_map.1 hd
      exact (hq i (List.mem_range.1 hi)).2.2
/-- A struct of two fields. -/
theorem reads_pair {P : Program} {α β : Type} {C : Codec α} {D : Codec β} {G : α → Prop} {F : β → Prop} {t : TypeId} {f0 f1 : Field} (ht : P.underlying t = some (.struct #[f0, f1]))
    (ho0 : f0.offset = 0) (ho1 : f1.offset = C.size) (hc0 : P.cellsOf f0.type = C.size) (hc1 : P.cellsOf f1.type = D.size) (hc : P.cellsOf t = C.size + D.size) (h0 : Reads P C G f0.type) (h1 : Reads P D F f1.type) :
    Reads P (cPair C D) (fun p => G p.1 ∧ F p.2) t := fun {H enc W base n cs x} h => by
  obtain ⟨y0, y1, k, _, hl, g0, g1⟩ := trod_struct2 ht h
  obtain ⟨a, a1, a2⟩ := h0 g0
  obtain ⟨b, b1, b2⟩ := h1 g1
  rw [ho0, hc0, List.drop_zero] at a1
  rw [ho1, hc1] at b1
  rw [hc] at hl
  have e : (cs.drop C.size).take D.size = cs.drop C.size := List.take_of_length_le (by rw [List.length_drop]; omega)
  rw [e] at b1
  exact ⟨(a, b), ⟨cs.take C.size, cs.drop C.size, (List.take_append_drop _ _).symm, a1, b1⟩, a2, b2⟩
/-- The fields of a struct from an offset on. -/
def ReadsFs (P : Program) {α : Type} (C : Codec α) (G : α → Prop) (fs : List Field) (off : Nat) : Prop :=
  ∀ {H : Type} {enc : TypeId × Value → H} {W : World} {base n : Nat} {cs : List Value}, cs.length = off + C.size →
    (∀ (i : Nat) f, fs[i]? = some f → ∃ y : DataW H × List MemPlace, DataW.trod enc P W base (fun _ => true) true n f.type ((cs.drop f.offset).take (P.cellsOf f.type)) = some y) →
    ∃ a, C.on (fun _ => True) W (cs.drop off) a ∧ G a
theorem readsFs_one {P : Program} {α : Type} {C : Codec α} {G : α → Prop} {f : Field} {off : Nat} (ho : f.offset = off) (hc : P.cellsOf f.type = C.size) (h : Reads P C G f.type) : ReadsFs P C G [f] off := fun {H enc W base n cs} hl hf => by
  obtain ⟨y, hy⟩ := hf 0 f rfl
  rw [ho, hc] at hy
  have e : (cs.drop off).take C.size = cs.drop off := List.take_of_length_le (by rw [List.length_drop]; omega)
  rw [e] at hy
  exact h hy
theorem readsFs_cons {P : Program} {α β : Type} {C : Codec α} {D : Codec β} {G : α → Prop} {F : β → Prop} {f : Field} {fs : List Field} {off : Nat} (ho : f.offset = off) (hc : P.cellsOf f.type = C.size) (h : Reads P C G f.type)
    (k : ReadsFs P D F fs (off + C.size)) : ReadsFs P (cPair C D) (fun p => G p.1 ∧ F p.2) (f :: fs) off := fun {H enc W base n cs} hl hf => by
  have hl2 : cs.length = off + (C.size + D.size) := hl
  obtain ⟨y, hy⟩ := hf 0 f rfl
  rw [ho, hc] at hy
  obtain ⟨a, a1, a2⟩ := h hy
  obtain ⟨b, b1, b2⟩ := k (enc := enc) (W := W) (base := base) (n := n) (cs := cs) (by omega) (fun i g hg => hf (i + 1) g (by simpa using hg))
  refine ⟨(a, b), ⟨(cs.drop off).take C.size, cs.drop (off + C.size), ?_, a1, b1⟩, a2, b2⟩
  rw [← List.drop_drop, List.take_append_drop]
/-- A struct. -/
theorem reads_struct {P : Program} {α : Type} {C : Codec α} {G : α → Prop} {t : TypeId} {fs : List Field} (ht : P.underlying t = some (.struct fs.toArray)) (hc : P.cellsOf t = C.size) (h : ReadsFs P C G fs 0) : Reads P C G t := fun {H enc W base n cs x} hx => by
  obtain ⟨xs, k, _, _, hl, hlen, hf⟩ := DataW.trod_struct ht hx
  have := h (enc := enc) (W := W) (base := base) (n := k) (cs := cs) (by rw [hl, hc, Nat.zero_add]) (fun i f hi => by
    have hi2 : fs.toArray[i]? = some f := by simpa using hi
    have hlt : i < xs.length := by
      rw [hlen]
      have := (List.getElem?_eq_some_iff.1 hi).1
      simpa using this
    exact ⟨xs[i], by rw [hf i f hi2, List.getElem?_eq_getElem hlt]⟩)
  rwa [List.drop_zero] at this
/-- An argument that is a struct. -/
theorem argC_struct {P : Program} {α : Type} {C : Codec α} {G : α → Prop} {t : TypeId} {fs : Array Field} {H : Type} {enc : TypeId × Value → H} {W : World} {base base2 : Nat} {v : Value} {d : DataW H} {p : List MemPlace} (R : Reads P C G t) (ht : P.underlying t = some (.struct fs))
    (hv : Value.okWide P W .any base2 t v) (h : ∃ fuel, DataW.trod enc P W base (fun _ => true) true fuel t v.cells.toList = some (d, p)) : ∃ cs a, v = .agg cs ∧ C.on (fun _ => True) W cs.toList a ∧ G a := by
  obtain ⟨cs, rfl, hsz⟩ := okWide_struct ht hv
  obtain ⟨fuel, hf⟩ := h
  obtain ⟨a, a1, a2⟩ := R hf
  exact ⟨cs, a, rfl, a1, a2⟩
/-- An argument that is a slice. -/
theorem argC_slice {P : Program} {α : Type} {C : Codec α} {G : List α → Prop} {t : TypeId} {H : Type} {enc : TypeId × Value → H} {W : World} {base : Nat} {a : Option Addr} {len cap : Nat} {d : DataW H} {p : List MemPlace} (R : Reads P (cRow C) G t)
    (h : ∃ fuel, DataW.trod enc P W base (fun _ => true) true fuel t (Value.slice a len cap).cells.toList = some (d, p)) : ∃ l, RAny C W (.slice a len cap) l ∧ G l := by
  obtain ⟨fuel, hf⟩ := h
  obtain ⟨l, ⟨v, hv, hr⟩, hG⟩ := R hf
  have e : (Value.slice a len cap).cells.toList = [.slice a len cap] := rfl
  rw [e] at hv
  obtain rfl : Value.slice a len cap = v := by simpa using hv
  exact ⟨l, hr, hG⟩
end Go.Proofs.Ytgacfihidpijeaa.MM
set_option linter.unusedVariables false
namespace Go.Proofs.Ytgacfihidpijeaa.EV
open Go Go.RowKit Go.Proofs.Ytgacfihidpijeaa.MM Go.Proofs.Ytgacfihidpijeaa.EM

def FitS (p : Fld) : Prop := p.1.length ≤ maxLen ∧ p.2.length ≤ maxLen
theorem reads_fld : Reads Try.prog fldC FitS 68 := reads_pair Try.underlying68 rfl rfl (by kernel_rfl) (by kernel_rfl) (by kernel_rfl) (reads_str Try.underlying9) (reads_str Try.underlying9)
def FitEv (e : Ev) : Prop := FitI e.1 ∧ (∀ f ∈ e.2, FitS f) ∧ e.2.length ≤ maxLen
theorem reads_ev : Reads Try.prog evC FitEv 24 := reads_pair Try.underlying24 rfl rfl (by kernel_rfl) (by kernel_rfl) (by kernel_rfl) (reads_int Try.underlying3) (reads_row Try.underlying22 (by kernel_rfl) reads_fld)
/-- An event's cells. -/
theorem ev_cells {S : Nat → Prop} {w : World} {cs : Array Value} {e : Ev} (h : evC.on S w cs.toList e) : ∃ v, cs = #[.int .i64 e.1, v] ∧ ROn fldC S w v e.2 := by
  obtain ⟨v, hv, hr⟩ := ev_on.1 h
  exact ⟨v, by apply Array.toList_inj.1; rw [hv], hr⟩
theorem str_back (s : ByteArray) : s = ⟨s.data.toList.toArray⟩ := by simp
end Go.Proofs.Ytgacfihidpijeaa.EV
set_option linter.unusedVariables false
namespace Go.Proofs.Ytgacfihidpijeaa.EV
open Go Go.RowKit Go.Proofs.Ytgacfihidpijeaa.MM Go.Proofs.Ytgacfihidpijeaa.EM

def FitBat (b : Bat) : Prop := FitI b.1 ∧ (∀ e ∈ b.2, FitEv e) ∧ b.2.length ≤ maxLen
theorem reads_bat : Reads Try.prog batC FitBat 34 := reads_pair Try.underlying34 rfl rfl (by kernel_rfl) (by kernel_rfl) (by kernel_rfl) (reads_int Try.underlying3) (reads_row Try.underlying32 (by kernel_rfl) reads_ev)
end Go.Proofs.Ytgacfihidpijeaa.EV
