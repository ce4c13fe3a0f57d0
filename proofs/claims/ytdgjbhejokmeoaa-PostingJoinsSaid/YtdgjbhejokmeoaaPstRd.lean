/-
  The code's reader: number, rising. Condition: what bounds ask of a number lies within whole numbers.
-/
import Derived.Test.YtdgjbhejokmeoaaPstRow
import Derived.Test.YtdgjbhejokmeoaaPstDecM
import Derived.Test.YtdgjbhejokmeoaaVarGet
set_option linter.unusedVariables false
namespace Go.Proofs.Ytdgjbhejokmeoaa.PW
open Go.RowKit Go.Proofs.Ytdgjbhejokmeoaa.MM Go.Proofs.Ytdgjbhejokmeoaa.PM Go.Proofs.Ytdgjbhejokmeoaa.VM

/-- A reader: what is left, whether one may not be there. -/
def Rd (B : Nat) (w : World) (g : Nat) (l : List UInt8) (o : Bool) : Prop := ∃ v, w.heap[g]? = some (.cells #[v, .bool o] 65 (0, 0)) ∧ BIn B w v l
theorem Rd.lt {B : Nat} {w : World} {g : Nat} {l : List UInt8} {o : Bool} (h : Rd B w g l o) : g < w.heap.size := by obtain ⟨v, h, _⟩ := h; exact (Array.getElem?_eq_some_iff.1 h).1
theorem Rd.keep {S : Nat → Prop} {B : Nat} {w w' : World} {g : Nat} {l : List UInt8} {o : Bool} (h : Rd B w g l o) (hk : Kep S w w') (hg : S g) (hB : ∀ k, k < B → S k) (hBs : B ≤ w.heap.size) : Rd B w' g l o := by
  have hl := h.lt
  obtain ⟨v, h, hv⟩ := h
  exact ⟨v, (hk.block g hl hg).trans h, hv.below (hk.below hBs hB)⟩
theorem getS_iff (l : List UInt8) : (∃ n r, getS l = some (n, r) ∧ (getL l).1 = n ∧ (getL l).2.2 = 0 ∧ VG.restL l = r ∧ n < 18446744073709551616) ∨ (getS l = none ∧ (getL l).2.2 ≠ 0 ∧ VG.restL l = [] ∧ (getL l).1 = 0) := by
  have hb := getL_bounds l
  by_cases h : (getL l).2.2 = 0
  · refine .inl ⟨(getL l).1, l.drop (getL l).2.1, by unfold getS; rw [if_pos h], rfl, h, by unfold VG.restL; rw [if_pos h], hb.1⟩
  · refine .inr ⟨by unfold getS; rw [if_neg h], h, by unfold VG.restL; rw [if_neg h], ?_⟩
    rcases hb.2.2.1 with e | e | e
    · exact absurd e h
    · rw [e]
    · rw [e]
/-- What a number leaves. -/
def NumLeft (B g : Nat) (r : Nat × List UInt8 × Bool) (w : World) (e : Ending) (w' : World) : Prop := e = .returned (.int .i64 r.1) ∧ Rd B w' g r.2.1 r.2.2 ∧ Kep (fun b => b ≠ g) w w'
theorem rd_set0 {B : Nat} {w w1 : World} {g : Nat} {l m : List UInt8} {o : Bool} {v : Value} (h : Rd B w g l o) (hb : Below w.heap.size w w1) (hB : B ≤ g) (hv : BIn B w1 v m) : Rd B (w1.setCell ⟨g, 0, none⟩ v) g m o := by
  obtain ⟨v0, h, _⟩ := h
  have hlt := (Array.getElem?_eq_some_iff.1 h).1
  have h1 := heap_setCell_same w1 g 0 _ _ v ((hb.block g hlt).trans h)
  exact ⟨v, h1, hv.below ((Below.refl B w1).setCell (p := ⟨g, 0, none⟩) hB v)⟩
theorem rd_set01 {B : Nat} {w w1 : World} {g : Nat} {l : List UInt8} {o : Bool} (h : Rd B w g l o) (hb : Below w.heap.size w w1) : Rd B ((w1.setCell ⟨g, 0, none⟩ (.slice none 0 0)).setCell ⟨g, 1, none⟩ (.bool true)) g [] true := by
  obtain ⟨v0, h, _⟩ := h
  have hlt := (Array.getElem?_eq_some_iff.1 h).1
  have h1 := heap_setCell_same w1 g 0 _ _ (.slice none 0 0) ((hb.block g hlt).trans h)
  have h2 := heap_setCell_same _ g 1 _ _ (.bool true) h1
  exact ⟨.slice none 0 0, h2, BIn.nil_ _ _⟩

set_option maxRecDepth 100000 in
set_option maxHeartbeats 2000000 in
theorem number_any (B g : Nat) (l : List UInt8) (o : Bool) (lo hi : Int) (w : World) (h : Rd B w g l o) (hB : B ≤ g) (h0 : 0 ≤ lo) (h1 : hi ≤ 9223372036854775807) :
    Calls Try.prog 39 #[.pointer (some ⟨g, 0, none⟩), .int .i64 lo, .int .i64 hi] w (NumLeft B g (numSt lo hi l o) w) := by
  have HR := Lib.hid h
  have hlt := h.lt
  obtain ⟨v, hc, hv⟩ := h
  have f0 : w.cell? ⟨g, 0, none⟩ = some v := by rw [cell_of_row w g 0 _ _ _ hc]; rfl
  have HC := Lib.hid hc
  have HG := Lib.hid (VG.get_in B v l w hv (Nat.le_of_lt (Nat.lt_of_le_of_lt hB hlt)))
  have hF : ∀ w1, Below w.heap.size w w1 → w1.cell? ⟨g, 0, none⟩ = some v ∧ w1.cell? ⟨g, 1, none⟩ = some (.bool o) ∧ w1.frozen? ⟨g, 0, none⟩ = false ∧ w1.frozen? ⟨g, 1, none⟩ = false := fun w1 hb => by
    have := (hb.block g hlt).trans hc
    exact ⟨by rw [cell_of_row w1 g 0 _ _ _ this]; rfl, by rw [cell_of_row w1 g 1 _ _ _ this]; rfl, frozen_of_row w1 g 0 _ _ this, frozen_of_row w1 g 1 _ _ this⟩
  have HF := Lib.hid hF
  have HK : Hid (∀ w1, Below w.heap.size w w1 → Kep (fun b => b ≠ g) w w1) := Lib.hid (fun w1 hb => kep_below _ hb)
  have bad : ∀ w1, Below w.heap.size w w1 → NumLeft B g (0, [], true) w (.returned (.int .i64 ((0 : Nat) : Int))) ((w1.setCell ⟨g, 0, none⟩ (.slice none 0 0)).setCell ⟨g, 1, none⟩ (.bool true)) := fun w1 hb =>
    ⟨rfl, rd_set01 HR.out hb, ((HK.out w1 hb).trans (kep_set (by simp) _)).trans (kep_set (by simp) _)⟩
  have BAD := Lib.hid bad
  rcases getS_iff l with ⟨n, r, hs, e1, e2, e3, hn⟩ | ⟨hs, e2, e3, e1⟩
  · rw [e1, e2, e3] at HG
    obtain ⟨W, hW⟩ : ∃ W, IntKind.i64.wrap (n : Int) = W := ⟨_, rfl⟩
    have hWv : ((n : Int) < 9223372036854775808 ∧ W = (n : Int)) ∨ (¬ (n : Int) < 9223372036854775808 ∧ W < 0) := by
      rw [← hW, IntKind.wrap_i64]
      omega
    by_cases hok : lo ≤ (n : Int) ∧ (n : Int) ≤ hi
    · have hnum : numL lo hi l = some (n, r) := by unfold numL; rw [hs]; exact if_pos hok
      rw [numSt_some hnum]
      have hWn : W = (n : Int) := by omega
      have t1 : decide (W < lo) = false := decide_eq_false (by omega)
      have t2 : decide (W > hi) = false := decide_eq_false (by omega)
      rw [hWn] at hW t1 t2
      have HV := Lib.hid (fun w1 v1 (hb : Below w.heap.size w w1) (hv1 : BIn B w1 v1 r) => rd_set0 HR.out hb hB hv1)
      clear hv hc hF bad BAD hs e1 e2 e3 hWv hok hnum hWn
      go_enter Try.func39, Try.ntmps39
      go_wp2_with fail
      refine HG.out.mono ?_
      rintro e w1 ⟨v1, rfl, hv1, hb1⟩
      obtain ⟨g0, g1, g2, g3⟩ := HF.out w1 hb1
      have HB1 := Lib.hid hb1
      have HV1 := Lib.hid (HV.out w1 v1 hb1 hv1)
      have hone : v1.oneCell' = true := by obtain ⟨p, c, rfl, _⟩ := hv1; rfl
      obtain ⟨p1, c1, rfl, _⟩ := BIn.shape hv1
      clear hv1 hb1 HV HG
      go_wp2_with fail
      go_ret
      exact ⟨rfl, HV1.out, (HK.out w1 HB1.out).trans (kep_set (by simp) _)⟩
    · have hnum : numL lo hi l = none := by unfold numL; rw [hs]; exact if_neg hok
      rw [numSt_none hnum]
      by_cases hWl : W < lo
      · have t1 : decide (W < lo) = true := decide_eq_true hWl
        clear hv hc hF bad hs e1 e2 e3 hWv hok hnum hWl
        go_enter Try.func39, Try.ntmps39
        go_wp2_with fail
        refine HG.out.mono ?_
        rintro e w1 ⟨v1, rfl, hv1, hb1⟩
        obtain ⟨g0, g1, g2, g3⟩ := HF.out w1 hb1
        have BB := Lib.hid (BAD.out w1 hb1)
        clear hv1 hb1 HG BAD
        go_wp2_with fail
        go_ret
        exact BB.out
      · have t1 : decide (W < lo) = false := decide_eq_false hWl
        have t2 : decide (W > hi) = true := decide_eq_true (by omega)
        clear hv hc hF bad hs e1 e2 e3 hWv hok hnum hWl
        go_enter Try.func39, Try.ntmps39
        go_wp2_with fail
        refine HG.out.mono ?_
        rintro e w1 ⟨v1, rfl, hv1, hb1⟩
        obtain ⟨g0, g1, g2, g3⟩ := HF.out w1 hb1
        have BB := Lib.hid (BAD.out w1 hb1)
        clear hv1 hb1 HG BAD
        go_wp2_with fail
        go_ret
        exact BB.out
  · have hnum : numL lo hi l = none := by unfold numL; rw [hs]
    rw [numSt_none hnum]
    rw [e1, e3] at HG
    obtain ⟨er, her⟩ : ∃ er, (getL l).2.2 = er := ⟨_, rfl⟩
    rw [her] at HG e2
    have t0 : (er != 0) = true := by rw [bne_iff_ne]; exact e2
    have t0b : (er == 0) = false := by rw [beq_eq_false_iff_ne]; exact e2
    clear hv hc hF bad hs e1 e2 e3 hnum her
    go_enter Try.func39, Try.ntmps39
    go_wp2_with fail
    refine HG.out.mono ?_
    rintro e w1 ⟨v1, rfl, hv1, hb1⟩
    obtain ⟨g0, g1, g2, g3⟩ := HF.out w1 hb1
    have BB := Lib.hid (BAD.out w1 hb1)
    clear hv1 hb1 HG BAD
    go_wp2_with fail
    go_ret
    exact BB.out

set_option maxRecDepth 100000 in
set_option maxHeartbeats 2000000 in
theorem rrising_any (B g : Nat) (l : List UInt8) (o : Bool) (N fin : Int) (w : World) (h : Rd B w g l o) (hB : B ≤ g) (h0 : 0 ≤ N) (h1 : N ≤ 1099511627776) (h2 : 0 ≤ fin) (h3 : fin ≤ 1099511627776) :
    Calls Try.prog 58 #[.pointer (some ⟨g, 0, none⟩), .int .i64 N, .int .i64 fin] w fun e w' => e = .returned (.int .i64 (N + (numSt 0 (fin - 1 - N) l o).1)) ∧ Rd B w' g (numSt 0 (fin - 1 - N) l o).2.1 (numSt 0 (fin - 1 - N) l o).2.2 ∧ Kep (fun b => b ≠ g) w w' := by
  have HN := Lib.hid (number_any B g l o 0 (fin - 1 - N) w h hB (by omega) (by omega))
  have hb := (numSt_bound 0 (fin - 1 - N) l o).1
  obtain ⟨R, hR⟩ : ∃ R, numSt 0 (fin - 1 - N) l o = R := ⟨_, rfl⟩
  rw [hR] at HN hb ⊢
  unfold NumLeft at HN
  obtain ⟨n, l1, o1⟩ := R
  dsimp only at HN hb ⊢
  have hb2 : (n : Int) ≤ 1099511627776 := by omega
  clear h hR hb
  go_enter Try.func58, Try.ntmps58
  go_wp2_with fail
  refine HN.out.mono ?_
  rintro e w1 ⟨rfl, h4, h5⟩
  have H4 := Lib.hid h4
  have H5 := Lib.hid h5
  clear h4 h5 HN
  go_wp2_with fail
  go_ret
  exact ⟨rfl, H4.out, H5.out⟩
end Go.Proofs.Ytdgjbhejokmeoaa.PW
