/-
  The code's Encode: a row's bytes. Condition: fewer than 100000 posts, fewer than 10^9 places.
-/
import Derived.Test.YtdgjbhejokmeoaaPstPut
import Derived.Test.YtdgjbhejokmeoaaPstBlk
set_option linter.unusedVariables false
namespace Go.Proofs.Ytdgjbhejokmeoaa.PW
open Go.RowKit Go.Proofs.Ytdgjbhejokmeoaa.MM Go.Proofs.Ytdgjbhejokmeoaa.PM Go.Proofs.Ytdgjbhejokmeoaa.VM

/-- A row's bytes, an error's number. -/
def encR (ps : List Post) : List UInt8 × Int := if isL ps = true then (encL ps, 0) else ([], 80)
def EncLeft (r : List UInt8 × Int) (w : World) (e : Ending) (w' : World) : Prop := ∃ v', e = .returned (.tuple #[v', .int .i64 r.2]) ∧ OwnB w.heap.size w' v' r.1 ∧ Below w.heap.size w w'

/-- Two rows of bytes that grow beside one another, and a block that stays. -/
structure EncSt (w W wr : World) (gb : Option Nat) (vh vb : Value) (H Bd : List UInt8) : Prop where
  low : Below w.heap.size w wr
  gsz : W.heap.size ≤ wr.heap.size
  wsz : w.heap.size ≤ W.heap.size
  blk : ∀ g, gb = some g → g < W.heap.size ∧ wr.heap[g]? = W.heap[g]?
  oh : OwnB 0 wr vh H
  ob : OwnB 0 wr vb Bd
  fh : ∀ k, vh.ownBlock = some k → w.heap.size ≤ k ∧ gb ≠ some k
  fb : ∀ k, vb.ownBlock = some k → w.heap.size ≤ k ∧ gb ≠ some k
  ap : ∀ k, vh.ownBlock = some k → vb.ownBlock ≠ some k
theorem EncSt.swap {w W wr : World} {gb : Option Nat} {vh vb : Value} {H Bd : List UInt8} (h : EncSt w W wr gb vh vb H Bd) : EncSt w W wr gb vb vh Bd H :=
  ⟨h.low, h.gsz, h.wsz, h.blk, h.ob, h.oh, h.fb, h.fh, fun k hk hk2 => h.ap k hk2 hk⟩
theorem EncSt.below {w W wr w' : World} {gb : Option Nat} {vh vb : Value} {H Bd : List UInt8} (h : EncSt w W wr gb vh vb H Bd) (hb : Below wr.heap.size wr w') : EncSt w W w' gb vh vb H Bd :=
  ⟨h.low.trans (hb.mono h.low.size), Nat.le_trans h.gsz hb.size, h.wsz, fun g hg => ⟨(h.blk g hg).1, (hb.block g (Nat.lt_of_lt_of_le (h.blk g hg).1 h.gsz)).trans (h.blk g hg).2⟩, OwnB.keep h.oh hb, OwnB.keep h.ob hb, h.fh, h.fb, h.ap⟩
theorem EncSt.growB {w W wr w' : World} {gb : Option Nat} {vh vb vb' : Value} {H Bd Bd' : List UInt8} (h : EncSt w W wr gb vh vb H Bd) (hg : Grown wr w' vb vb') (ho : OwnB 0 w' vb' Bd') : EncSt w W w' gb vh vb' H Bd' := by
  have hs := hg.kep.size
  refine ⟨h.low.trans (hg.kep.below h.low.size fun k hk e => by have := (h.fb k e).1; omega), Nat.le_trans h.gsz hs, h.wsz, fun g hg' => ?_, OwnB.kepOwn h.oh hg.kep (fun k hk e => h.ap k hk e), ho, h.fh, fun k hk => ?_, fun k hk hk2 => ?_⟩
  · have h1 := (h.blk g hg').1
    have h2 := h.gsz
    exact ⟨h1, (hg.kep.block g (by omega) (fun e => (h.fb g e).2 hg')).trans (h.blk g hg').2⟩
  · have h2 := h.gsz
    have h3 := h.wsz
    rcases hg.2 k hk with e | e
    · exact h.fb k e
    · exact ⟨by omega, fun e2 => by have := (h.blk k e2).1; omega⟩
  · rcases hg.2 k hk2 with e | e
    · exact h.ap k hk e
    · have := own_lt h.oh k hk
      omega
theorem EncSt.growH {w W wr w' : World} {gb : Option Nat} {vh vb vh' : Value} {H Bd H' : List UInt8} (h : EncSt w W wr gb vh vb H Bd) (hg : Grown wr w' vh vh') (ho : OwnB 0 w' vh' H') : EncSt w W w' gb vh' vb H' Bd :=
  (h.swap.growB hg ho).swap
theorem body_take {ps : List Post} {k : Nat} (hk : k < ps.length) : bodyL 0 (ps.take (k + 1)) = bodyL 0 (ps.take k) ++ postL (nextL 0 (ps.take k)) ps[k] ∧ nextL 0 (ps.take (k + 1)) = ps[k].1 + 1 := by
  rw [List.take_succ_eq_append_getElem hk, bodyL_append, nextL_append]
  exact ⟨by rw [bodyL, bodyL, List.append_nil], rfl⟩
theorem ok_take {ps : List Post} (h : okL 0 ps) {k : Nat} (hk : k < ps.length) : 0 ≤ nextL 0 (ps.take k) ∧ okP (nextL 0 (ps.take k)) ps[k] := by
  refine ⟨nextL_nonneg (okL_take h k), ?_⟩
  have := okL_drop h k
  rw [List.drop_eq_getElem_cons hk, okL] at this
  exact this.1
theorem endL_next (ps : List Post) (i : Nat) : endL ps i ≤ endL ps (i + 1) := by
  unfold endL
  have e : ps.take (32 * i) = (ps.take (32 * (i + 1))).take (32 * i) := by rw [List.take_take, Nat.min_eq_left (by omega)]
  rw [e]
  conv => rhs; rw [← List.take_append_drop (32 * i) (ps.take (32 * (i + 1))), bodyL_append, List.length_append]
  omega
theorem sumL_at : ∀ (ps : List Post) (k : Nat) (h : k < ps.length), ps[k].2.length ≤ sumL ps
  | p :: ps, 0, _ => by rw [sumL]; simp
  | p :: ps, k + 1, h => by
    have := sumL_at ps k (by simpa using h)
    rw [sumL]
    simp only [List.getElem_cons_succ]
    omega

set_option maxRecDepth 100000 in
set_option maxHeartbeats 4000000 in
theorem enc_any (v : Value) (ps : List Post) (w : World) (hr : PRow w v ps) (hl : ps.length ≤ 100000) (hs : sumL ps ≤ 1000000000) : Calls Try.prog 18 #[v] w (EncLeft (encR ps) w) := by
  have HCk := Lib.hid (check_any v ps w hr (by omega))
  unfold encR
  by_cases hok : isL ps = true
  · rw [if_pos hok] at HCk ⊢
    have hokL := (isL_ok ps).1 hok
    have HBT := Lib.hid (fun k (hk : k < ps.length) => body_take hk)
    have HOT := Lib.hid (fun k (hk : k < ps.length) => ok_take hokL hk)
    have HRS := Lib.hid hr
    have HSA := Lib.hid (fun k (hk : k < ps.length) => sumL_at ps k hk)
    have HE1 := Lib.hid (fun k => show endL ps k ≤ 20000000000 by have := endL_le ps k; omega)
    have HBB := Lib.hid (fun k => show (bodyL 0 (ps.take k)).length ≤ 20000000000 by
      have h1 := bodyL_len (ps.take k) 0
      have h2 := sumL_take ps k
      have h3 : (ps.take k).length ≤ ps.length := List.length_take_le' _ _
      omega)
    have HNB := Lib.hid (fun k => nextL_bound (ps.take k) 0 (okL_take hokL k))
    obtain ⟨p, cap, rfl, hlc, hcm, _⟩ := hr.shape
    have hp : 0 < ps.length → ∃ b off, p = some ⟨b, off, none⟩ := fun h => by
      obtain ⟨b, off, x, hp, _⟩ := hr.at_ h
      exact ⟨b, off, hp⟩
    obtain ⟨b, off, hpb⟩ : ∃ b off, 0 < ps.length → p = some ⟨b, off, none⟩ := by
      by_cases h : 0 < ps.length
      · obtain ⟨b, off, e⟩ := hp h; exact ⟨b, off, fun _ => e⟩
      · exact ⟨0, 0, fun h2 => absurd h2 h⟩
    have HPB := Lib.hid hpb
    have HK1 := Lib.hid (fun W => VP.put_any (.slice none 0 0) [] ps.length W (by omega) (BRow.nil_ W) (by simp))
    have HK2 := Lib.hid (fun W => blocks_any b off ps.length cap p W hpb hlc hcm (by omega))
    obtain ⟨n, hnn⟩ : ∃ n, ps.length = n := ⟨_, rfl⟩
    have HNN := Lib.hid hnn
    unfold maxLen at hcm
    have hw : IntKind.u64.wrap (n : Int) = (n : Int) := by rw [IntKind.wrap_u64]; omega
    rw [hnn] at HCk HRS HK1 HK2 hl hlc HPB ⊢
    simp only [List.nil_append] at HK1
    clear hr hp hpb hnn hok hokL
    go_enter Try.func18, Try.ntmps18
    go_wp2_with fail
    refine HCk.out.mono ?_
    rintro e w1 ⟨rfl, hb1⟩
    have HB1 := Lib.hid hb1
    clear hb1 HCk
    go_wp2_with fail
    refine (HK1.out _).mono ?_
    rintro e w2 ⟨vh, rfl, ho2, hb2⟩
    have HB2 := Lib.hid (grow HB1.out hb2)
    have HO2 := Lib.hid ho2
    have hs12 := HB1.out.size
    have hs23 := hb2.size
    clear ho2 hb2 HK1
    go_wp2_with fail
    refine (HK2.out _).mono ?_
    rintro e w3 ⟨vk, rfl, ho3, hb3⟩
    obtain ⟨pk, ck, rfl, hk1, hk2⟩ := ho3.shape
    rw [blksV_len] at hk1 ho3 ⊢
    have hst : EncSt w w3 w3 (Value.slice pk (cnt n) ck).ownBlock vh (.slice none 0 0) (bytesL n ++ headsR ps 0 0) (bodyL 0 (ps.take (32 * 0))) := by
      refine ⟨HB2.out.trans (hb3.mono (by have := HB2.out.size; omega)), Nat.le_refl _, by have := hb3.size; omega, fun g hg => ?_, ?_, World.ownsRow_nil _ _ _ _, fun k hk => ?_, (fun k hk => by cases hk), (fun k hk hk2 => by cases hk2)⟩
      · exact ⟨(World.ownsRow.lt ho3 g hg).2, rfl⟩
      · rw [headsR, List.append_nil]
        exact OwnB.zero (OwnB.keep HO2.out hb3)
      · have h1 := (World.ownsRow.lt HO2.out k hk)
        exact ⟨by omega, fun hk3 => by have := (World.ownsRow.lt ho3 k hk3).1; omega⟩
    have HST0 := Lib.hid hst
    have HO3 := Lib.hid ho3
    have HA0 : Hid (nextL 0 (ps.take (32 * 0)) = 0) := Lib.hid (by rw [Nat.mul_zero, List.take_zero]; rfl)
    clear hst ho3 hb3 HO2 HK2 hs12 hs23
    go_wp2_with fail
    go_loopw [5, 6, 7, 25] (fun vh vb a iv wr => ∃ (i : Nat) (A : Int), i ≤ cnt n ∧ iv = .int .i64 i ∧ a = .int .i64 A ∧ Hid (nextL 0 (ps.take (32 * i)) = A) ∧ Hid (EncSt w w3 wr (Value.slice pk (cnt n) ck).ownBlock vh vb (bytesL n ++ headsR ps 0 i) (bodyL 0 (ps.take (32 * i))))) (fun _ _ _ iv _ => cnt n - (intOf iv).toNat)
    case atStart => exact ⟨0, 0, by omega, rfl, rfl, HA0, HST0⟩
    case round =>
      obtain ⟨i, A, hi, rfl, rfl, HA, HST⟩ := hrel
      clear HA0 HST0
      by_cases hlt : i < cnt n
      · have t1 : decide ((i : Int) < (cnt n : Int)) = true := by simp; omega
        have hin : 32 * i < n := by unfold cnt at hlt; omega
        obtain ⟨g, rfl, hg0, hg1, hcell, _⟩ := HO3.out.at_ (blksV_at b off n cap (cnt n) i hlt)
        have hcell2 := (World.cell?_of_block (a := ⟨g, i, none⟩) (HST.out.blk g rfl).2).trans hcell
        have HPE := Lib.hid (HPB.out (by omega))
        unfold blkV at hcell2
        obtain ⟨m, hm⟩ : ∃ m, min 32 (n - 32 * i) = m := ⟨_, rfl⟩
        obtain ⟨cc, hcc⟩ : ∃ c, cap - 32 * i = c := ⟨_, rfl⟩
        rw [hm, hcc] at hcell2
        have hm0 : 0 < m := by omega
        have hmn : 32 * i + m ≤ n := by omega
        have hmc : m ≤ cc := by omega
        have hbl := (OwnB.brow HST.out.ob).shape
        obtain ⟨pb, cb, rfl, _, _⟩ := hbl
        have HSTi : Hid (EncSt w w3 wr (Value.slice (some ⟨g, 0, none⟩) (cnt n) ck).ownBlock u5 (.slice pb (bodyL 0 (ps.take (32 * i))).length cb) (bytesL n ++ headsR ps 0 i) (bodyL 0 (ps.take (32 * i + 0)))) := Lib.hid (by rw [Nat.add_zero]; exact HST.out)
        have HAi : Hid (nextL 0 (ps.take (32 * i + 0)) = A) := Lib.hid (by rw [Nat.add_zero]; exact HA.out)
        obtain ⟨S0, hS0⟩ : ∃ S0, (bodyL 0 (ps.take (32 * i))).length = S0 := ⟨_, rfl⟩
        rw [hS0] at HSTi
        have HS0 := Lib.hid hS0
        have HHM := Lib.hid hm
        have HIN := Lib.hid hin
        rw [hS0]
        clear HST HA hcell hS0 hm hcc
        go_wp2_with fail
        go_loopw [6, 7, 33] (fun vb a jv wr => ∃ (j : Nat) (A : Int), j ≤ m ∧ jv = .int .i64 j ∧ a = .int .i64 A ∧ Hid (nextL 0 (ps.take (32 * i + j)) = A) ∧ Hid (EncSt w w3 wr (Value.slice (some ⟨g, 0, none⟩) (cnt n) ck).ownBlock u5 vb (bytesL n ++ headsR ps 0 i) (bodyL 0 (ps.take (32 * i + j))))) (fun _ _ jv _ => m - (intOf jv).toNat)
        case atStart => exact ⟨0, A, by omega, rfl, rfl, HAi, HSTi⟩
        case round =>
          obtain ⟨j, A2, hj, rfl, rfl, HA, HST⟩ := hrel
          clear HAi HSTi hcell2
          by_cases hjl : j < m
          · have t2 : decide ((j : Int) < (m : Int)) = true := by simp; omega
            have hkp : 32 * i + j < ps.length := by rw [HNN.out]; omega
            obtain ⟨b', off', x, hbb, hbl, _, hc1, hc2, hx⟩ := (PRow.pon HRS.out).at_ hkp
            rw [HPE.out] at hbb
            simp only [Option.some.injEq, Addr.mk.injEq] at hbb
            obtain ⟨rfl, rfl, _⟩ := hbb
            have hbt := HBT.out _ hkp
            have hot := HOT.out _ hkp
            have hsa := HSA.out _ hkp
            have hbb := HBB.out (32 * i + j)
            have low := HST.out.low
            have hc1b := (low.cell (p := ⟨b, off + (32 * i + j) * 2, none⟩) hbl).trans hc1
            have hc2b := (low.cell (p := ⟨b, off + (32 * i + j) * 2 + 1, none⟩) hbl).trans hc2
            rw [show off + (32 * i + j) * 2 = off + 64 * i + j * 2 by omega] at hc1b hc2b
            rw [HA.out] at hbt hot
            obtain ⟨⟨z, qs⟩, hz⟩ : ∃ z, ps[32 * i + j] = z := ⟨_, rfl⟩
            rw [hz] at hc1b hx hbt hot hsa
            dsimp only at hc1b hx hbt hot hsa
            have hal : Below wr.heap.size wr (wr.alloc (.cells #[.int .i64 z, x] 47)) := (Below.refl _ _).alloc (Nat.le_refl _) _
            have hSTa := HST.out.below hal
            have hxw : IOn (fun c => u6.ownBlock ≠ some c) (wr.alloc (.cells #[.int .i64 z, x] 47)) x qs := hx.keep (kep_below _ (low.trans (hal.mono low.size))) (fun c hc hc2 e => by have := (HST.out.fb c e).1; omega)
            have hbx := hot.2.1
            have hbz := hot.2.2.1
            dsimp only at hbx hbz
            have hPOST := apppost_any u6 (bodyL 0 (ps.take (32 * i + j))) z x qs A2 _ hot.1 hot.2 hSTa.ob hxw (by omega)
            rw [← hbt.1] at hPOST
            have HPO := Lib.hid hPOST
            have HST2 := Lib.hid hSTa
            have HA3 := Lib.hid hbt.2
            have hot1 := hot.1
            have HNE : Hid (u6.ownBlock ≠ some wr.heap.size) := Lib.hid (fun e => by have := own_lt HST.out.ob _ e; omega)
            have HCC : Hid ((wr.alloc (.cells #[.int .i64 z, x] 47)).heap[wr.heap.size]? = some (.cells #[.int .i64 z, x] 47)) := Lib.hid (heap_alloc_new _ _)
            obtain ⟨px, cx, rfl, _⟩ := hx.shape
            generalize qs.length = nx at *
            clear hbt hot hsa hbb low hc1 hc2 hx hxw hal hSTa hPOST hz hkp HST HA
            go_wp2_with fail
            refine HPO.out.mono ?_
            rintro e w5 ⟨v5, rfl, ho5, hg5⟩
            have HST5 := Lib.hid (HST2.out.growB hg5 ho5)
            have hcb := (hg5.kep.block wr.heap.size (by simp) HNE.out).trans HCC.out
            have f0 : w5.cell? ⟨wr.heap.size, 0, none⟩ = some (.int .i64 z) := by rw [cell_of_row w5 _ 0 _ _ _ hcb]; rfl
            clear hg5 ho5 hcb HST2 HPO HCC
            go_wp2_with fail
            go_roundw
            case rel => exact ⟨j + 1, z + 1, by omega, by go_num, rfl, by rw [← Nat.add_assoc]; exact HA3, by rw [← Nat.add_assoc]; exact HST5⟩
            case measure => simp [intOf]; omega
          · obtain rfl : j = m := by omega
            have t2 : decide ((j : Int) < (j : Int)) = false := by simp
            have etk : ps.take (32 * i + j) = ps.take (32 * (i + 1)) := by
              have h1 := HHM.out
              have h2 := HNN.out
              by_cases h32 : 32 ≤ n - 32 * i
              · rw [show 32 * i + j = 32 * (i + 1) by omega]
              · rw [List.take_of_length_le (by omega), List.take_of_length_le (by omega)]
            rw [etk] at HA HST
            have hst := HST.out
            have hnb := HNB.out (32 * (i + 1))
            have hbb := HBB.out (32 * (i + 1))
            have hle := endL_next ps i
            have hee1 := HE1.out (i + 1)
            have hee0 := HE1.out i
            have hnp : 1 ≤ A2 := by
              have h3 : (ps.take (32 * (i + 1))).length ≥ 1 := by rw [List.length_take, HNN.out]; omega
              rw [HA.out] at hnb
              omega
            have h1v : h1L ps i = (A2 - 1).toNat := by unfold h1L; rw [HA.out]
            have hA65 : A2 ≤ 65536 := by rw [HA.out] at hnb; omega
            have e2 : (bodyL 0 (ps.take (32 * (i + 1)))).length = endL ps (i + 1) := rfl
            have e1 : S0 = endL ps i := HS0.out.symm
            have hhl := headsR_len ps i 0
            have hbn := bytesL_length n
            have hci : i ≤ n := by unfold cnt at hlt; omega
            have hK1 : ∀ W, OwnB 0 W u5 (bytesL n ++ headsR ps 0 i) → Calls Try.prog _ #[u5, .int .i64 (A2 - 1)] W _ := fun W h => appnum_any u5 _ (A2 - 1) W (by omega) (by omega) h (by rw [List.length_append]; omega)
            have hK2 : ∀ W u, OwnB 0 W u (bytesL n ++ headsR ps 0 i ++ bytesL (A2 - 1).toNat) → Calls Try.prog _ #[u, .int .i64 ((endL ps (i + 1) : Int) - (endL ps i : Int))] W _ := fun W u h => appnum_any u _ ((endL ps (i + 1) : Int) - (endL ps i : Int)) W (by omega) (by omega) h (by have := bytesL_length (A2 - 1).toNat; simp only [List.length_append]; omega)
            have e3 : bytesL n ++ headsR ps 0 i ++ bytesL (A2 - 1).toNat ++ bytesL ((endL ps (i + 1) : Int) - (endL ps i : Int)).toNat = bytesL n ++ headsR ps 0 (i + 1) := by
              rw [headsR_snoc, Nat.zero_add, headL, h1v, h2L, show ((endL ps (i + 1) : Int) - (endL ps i : Int)).toNat = endL ps (i + 1) - endL ps i by omega]
              simp only [List.append_assoc]
            rw [e3] at hK2
            have HK1 := Lib.hid hK1
            have HK2 := Lib.hid hK2
            obtain ⟨pq, cq, rfl, hq1, hq2⟩ := (OwnB.brow hst.ob).shape
            rw [e2] at hst hq1 ⊢
            rw [e1]
            have HST3 := Lib.hid hst
            have HSZ : Hid (endL ps (i + 1) = (bodyL 0 (ps.take (32 * (i + 1)))).length) := Lib.hid rfl
            obtain ⟨E1, hE1⟩ : ∃ E, endL ps (i + 1) = E := ⟨_, rfl⟩
            obtain ⟨E0, hE0⟩ : ∃ E, endL ps i = E := ⟨_, rfl⟩
            rw [hE1] at HST3 HSZ hle ⊢
            rw [hE0] at hle ⊢
            simp only [hE1, hE0] at HK2
            rw [hE1] at e2
            have hE1b : E1 ≤ 100000000000 := by omega
            clear hst hnb hbb hhl hbn hK1 hK2 e1 e2 e3 etk h1v HST hE1 hE0 hq1
            go_wp2_with fail
            refine (HK1.out _ HST3.out.oh).mono ?_
            rintro e w6 ⟨v6, rfl, ho6, hg6⟩
            have HST6 := Lib.hid (HST3.out.growH hg6 ho6)
            clear ho6 hg6 HST3
            go_wp2_with fail
            refine (HK2.out _ _ HST6.out.oh).mono ?_
            rintro e w7 ⟨v7, rfl, ho7, hg7⟩
            have HST7 := Lib.hid (HST6.out.growH hg7 ho7)
            clear ho7 hg7 HST6
            go_wp2_with fail
            go_roundw
            case rel => exact ⟨i + 1, A2, by omega, by go_num, rfl, HA, HST7⟩
            case measure => simp [intOf]; omega
      · obtain rfl : i = cnt n := by omega
        have t1 : decide ((cnt n : Int) < (cnt n : Int)) = false := by simp
        have etk : ps.take (32 * cnt n) = ps := List.take_of_length_le (by rw [HNN.out]; unfold cnt; omega)
        rw [etk] at HST
        have hst := HST.out
        have hbb := HBB.out ps.length
        rw [List.take_length] at hbb
        have hhl := headsR_len ps (cnt n) 0
        have hbn := bytesL_length n
        have hcn : cnt n ≤ n := by unfold cnt; omega
        have HOH := Lib.hid (OwnB.from hst.oh (fun k hk => (hst.fh k hk).1))
        have HOB := Lib.hid (OwnB.brow hst.ob)
        have HLOW := Lib.hid hst.low
        have hlen : (bytesL n ++ headsR ps 0 (cnt n)).length + (bodyL 0 ps).length ≤ 140737488355328 := by rw [List.length_append]; omega
        have hsz := hst.low.size
        have HEE : Hid (encL ps = bytesL n ++ (headsR ps 0 (cnt n) ++ bodyL 0 ps)) := Lib.hid (by unfold encL; rw [HNN.out, List.append_assoc])
        obtain ⟨pq, cq, rfl, hq1, hq2⟩ := (OwnB.brow hst.ob).shape
        obtain ⟨pr, cr, rfl, hr1, hr2⟩ := (OwnB.brow hst.oh).shape
        clear hst hbb hhl hbn HST etk HA hq1 hq2 hr1 hr2
        go_wp2_with (at_builtin; refine wpList_append_bytes rfl _ _ rfl w.heap.size _ (bytesL n ++ headsR ps 0 (cnt n)) rfl HOH.out _ (bodyL 0 ps) rfl HOB.out hlen hsz ?_)
        intro v8 w8 ho8 hb8
        rw [← HEE.out] at ho8
        have HO8 := Lib.hid ho8
        have HB8 := Lib.hid (HLOW.out.trans hb8)
        clear ho8 hb8
        go_wp2_with fail
        go_ret2
        exact ⟨_, rfl, HO8.out, HB8.out⟩
  · rw [if_neg hok] at HCk ⊢
    clear hok hr
    go_enter Try.func18, Try.ntmps18
    go_wp2_with fail
    refine HCk.out.mono ?_
    rintro e w1 ⟨rfl, hb1⟩
    have HB1 := Lib.hid hb1
    clear hb1 HCk
    go_wp2_with fail
    go_ret2
    exact ⟨_, rfl, World.ownsRow_nil _ _ _ _, HB1.out⟩
end Go.Proofs.Ytdgjbhejokmeoaa.PW
