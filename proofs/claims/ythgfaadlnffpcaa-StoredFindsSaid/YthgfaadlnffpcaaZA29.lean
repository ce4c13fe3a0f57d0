/-
  A row's bytes: the reference's. Condition: times that an int holds.
-/
import Derived.Test.YthgfaadlnffpcaaZA28
import Derived.Test.YthgfaadlnffpcaaZA22
import Derived.Test.YthgfaadlnffpcaaZA27
import Derived.Test.YthgfaadlnffpcaaZA23
set_option linter.unusedVariables false
namespace Go.Proofs.Ythgfaadlnffpcaa.ST
open Go Go.RowKit Go.Proofs.Ythgfaadlnffpcaa.MM Go.Proofs.Ythgfaadlnffpcaa.EM Go.Proofs.Ythgfaadlnffpcaa.SM Go.Proofs.Ythgfaadlnffpcaa.VM Go.Proofs.Ythgfaadlnffpcaa.VP Go.Proofs.Ythgfaadlnffpcaa.GB Go.Proofs.Ythgfaadlnffpcaa.TR
open Go.Proofs.Ythgfaadlnffpcaa.EV (docC evC fldC doc_at BoolLeft IntLeft rbytese_any)

theorem bytesE_ne (e : Ev) : bytesE e ≠ [] := fun h => by
  have := (bytesE_len e).2
  rw [h] at this
  simp at this
theorem headsB_len (l : List Doc) (a : Nat) : ∀ c, (headsB l a c).length ≤ 20 * c
  | 0 => by rw [headsB_zero]; simp
  | c + 1 => by
    have ih := headsB_len l a c
    have h1 := bytesL_length (lastS l (endS l (a + c))).toNat
    have h2 := bytesL_length (rangeB l (16 * (a + c)) (endS l (a + c))).length
    rw [headsB_next]
    unfold headB
    simp only [List.length_append]
    omega
/-- Bytes and an error's number. -/
def CodeS (l : List UInt8) (x : Int) (w : World) (e : Ending) (w' : World) : Prop := ∃ v, e = .returned (.tuple #[v, .int .i64 x]) ∧ OwnB w.heap.size w' v l ∧ Below w.heap.size w w'

set_option maxRecDepth 100000 in
set_option maxHeartbeats 4000000 in
theorem renc_any (v : Value) (l : List Doc) (w : World) (hv : RAny docC w v l) (hfit : FitS l) : Calls Try.prog 16 #[v] w (CodeS (if isS l then encS l else []) (if isS l then 0 else 120) w) := by
  obtain ⟨p, cap, rfl, hlc, hcm, _⟩ := hv.shape
  unfold maxLen at hcm
  have HCk := Lib.hid (ris_any _ l w hv)
  cases hok : isS l with
  | true =>
    rw [hok] at HCk
    rw [if_pos rfl, if_pos rfl]
    have HOK := Lib.hid hok
    have HFIT := Lib.hid hfit
    have HV := Lib.hid hv
    have hl := (isS_iff.1 hok).1
    have HK1 := Lib.hid (fun W => by
      have := rput_any (.slice none 0 0) [] (l.length : Int) W (by omega) (by omega) (World.ownsRow_nil _ _ _ _) (by simp)
      rw [Int.toNat_natCast, List.nil_append] at this
      exact this)
    obtain ⟨n, hnn⟩ : ∃ n, l.length = n := ⟨_, rfl⟩
    have HNN := Lib.hid hnn
    rw [hnn] at HCk HV HK1 hl hlc ⊢
    clear hv hnn hok hfit
    have hmx : Try.prog.follows .mixedOrders = true := by kernel_rfl
    go_enter Try.func16, Try.ntmps16
    go_wp2_with fail
    refine HCk.out.mono ?_
    rintro e w1 ⟨rfl, hb1⟩
    have HB1 := Lib.hid hb1
    clear hb1 HCk
    go_wp2_with fail
    refine (HK1.out _).mono ?_
    rintro e w2 ⟨vh, rfl, ho2, hg2⟩
    have hst : EncSt w w w2 none vh (.slice none 0 0) (bytesL n ++ headsB l 0 0) (rangeB l 0 (min 0 n)) := by
      have hb2 : Below w1.heap.size w1 w2 := hg2.kep.below (Nat.le_refl _) (fun k hk e => by cases e)
      refine ⟨HB1.out.trans (hb2.mono HB1.out.size), Nat.le_trans HB1.out.size hb2.size, Nat.le_refl _, (fun g hg => by cases hg), ?_, ?_, fun k hk => ?_, (fun k hk => by cases hk), (fun k hk hk2 => by cases hk2)⟩
      · rw [headsB_zero, List.append_nil]; exact ho2
      · rw [Nat.zero_min, rangeB_self]; exact World.ownsRow_nil _ _ _ _
      · refine ⟨?_, by simp⟩
        rcases hg2.2 k hk with e | e
        · cases e
        · exact Nat.le_trans HB1.out.size e
    have HST0 := Lib.hid hst
    have HA0 : Hid ((0 : Int) = lastS l (min 0 n)) := Lib.hid (by rw [Nat.zero_min]; rfl)
    clear hst ho2 hg2 HK1
    go_wp2_with fail
    go_loopw [4, 5, 6, 7] (fun vh vb a iv wr => ∃ (c I : Nat) (A : Int), Hid (I = 16 * c) ∧ I ≤ n + 15 ∧ iv = .int .i64 I ∧ a = .int .i64 A ∧ Hid (A = lastS l (min I n)) ∧ Hid (EncSt w w wr none vh vb (bytesL n ++ headsB l 0 c) (rangeB l 0 (min I n)))) (fun _ _ _ iv _ => n + 16 - (intOf iv).toNat)
    case atStart => exact ⟨0, 0, 0, Lib.hid rfl, by omega, rfl, rfl, HA0, HST0⟩
    case round =>
      obtain ⟨c, I, A, HI, hi, rfl, rfl, HA, HST⟩ := hrel
      clear HA0 HST0
      obtain ⟨W0, rfl⟩ : ∃ W0, W0 = wr := ⟨_, rfl⟩
      by_cases hlt : I < n
      · have t1 : decide ((I : Int) < (n : Int)) = true := by simp; omega
        have t2 : decide (I < n) = true := decide_eq_true hlt
        obtain ⟨M, hM⟩ : ∃ M, min (I + 16) n = M := ⟨_, rfl⟩
        have hMn : M ≤ n := by omega
        have hIM : I < M := by omega
        have hM16 : M ≤ I + 16 := by omega
        have hMx : M = n ∨ M = I + 16 := by omega
        have hmin : min I n = I := by omega
        rw [hmin] at HA HST
        have HX0 : Hid (OwnB W0.heap.size W0 (.slice none 0 0) (rangeB l I I)) := Lib.hid (by rw [rangeB_self]; exact World.ownsRow_nil _ _ _ _)
        have HBX0 := Lib.hid (Below.refl W0.heap.size W0)
        have HEND : Hid (endS l c = M) := Lib.hid (by unfold endS; rw [HNN.out, ← HI.out]; exact hM)
        have hlow := HST.out.low
        have hrow := HV.out.below hlow
        have HROW := Lib.hid hrow
        clear hM hmin hlow hrow
        go_wp2_with fail
        go_loopw [6, 8, 9] (fun a xv kv wr => ∃ (k : Nat) (A : Int), I ≤ k ∧ k ≤ M ∧ kv = .int .i64 k ∧ a = .int .i64 A ∧ Hid (A = lastS l k) ∧ Hid (OwnB W0.heap.size wr xv (rangeB l I k)) ∧ Hid (Below W0.heap.size W0 wr)) (fun _ _ kv _ => M - (intOf kv).toNat)
        case atStart => exact ⟨I, A, Nat.le_refl _, Nat.le_of_lt hIM, rfl, rfl, HA, HX0, HBX0⟩
        case round =>
          obtain ⟨k, A, hIk, hkM, rfl, rfl, HA, HX, HBX⟩ := hrel
          clear HX0 HBX0
          by_cases hkl : k < M
          · have s1 : decide ((k : Int) < (n : Int)) = true := by rw [decide_eq_true_eq]; omega
            have s2 : decide (k < n) = true := decide_eq_true (by omega)
            have s3 : decide ((k : Int) < (I : Int) + 16) = true := by rw [decide_eq_true_eq]; omega
            have s4 : (k : Int) < (n : Int) := by omega
            have hkn : k < l.length := by rw [HNN.out]; omega
            obtain ⟨b, off, vf, hbo, hbl, _, c1, c2, c3, hf⟩ := doc_at HROW.out hkn
            subst hbo
            obtain ⟨h1, h2, h3⟩ := isS_at HOK.out hkn
            have hp := lastS_pos HOK.out (k := k) (Nat.le_of_lt hkn)
            have hnx := rangeB_next (l := l) hIk
            have hln := lastS_next hkn
            have hone := oneB_at hkn
            have hlen := rangeB_len HOK.out (i := I) (k := k) hIk (Nat.le_of_lt hkn)
            have hol := oneB_len HOK.out hkn
            have hfk := HFIT.out l[k] (List.getElem_mem hkn)
            rw [← HA.out] at h1 hp hone
            obtain ⟨⟨sq, ⟨z, fs⟩⟩, hd⟩ : ∃ d, l[k] = d := ⟨_, rfl⟩
            rw [hd] at c1 c2 hf h1 h2 h3 hln hone hfk
            dsimp only at c1 c2 hf h1 h2 h3 hln hone hfk
            obtain ⟨h16, hx⟩ := ok_lens h3
            have h16 : fs.length ≤ 16 := h16
            have hx : ∀ f ∈ fs, f.1.length ≤ 4096 ∧ f.2.length ≤ 4096 := fun f hf => by have := hx f hf; omega
            obtain ⟨pf, cf, rfl, _⟩ := hf.shape
            obtain ⟨X, hX⟩ : ∃ X, rangeB l I k = X := ⟨_, rfl⟩
            rw [hX] at HX hnx hlen
            rw [hone] at hnx hol
            have HN : Hid (rangeB l I (k + 1) = X ++ bytesL (sq - A - 1).toNat ++ bytesE (z, fs)) := Lib.hid (by rw [hnx, List.append_assoc])
            have HLN : Hid (sq = lastS l (k + 1)) := Lib.hid hln.symm
            have hXl : X.length ≤ 4500000000 := by omega
            have hol : (bytesL (sq - A - 1).toNat).length + (bytesE (z, fs)).length ≤ 67000 := by rw [List.length_append] at hol; omega
            have HFD := Lib.hid (fun W (hW : Below W0.heap.size W0 W) => (RBel.below (RAny.bel hf.any) hW).any)
            have HFB := Lib.hid (fun W => rbytese_any z (.slice pf fs.length cf) fs W)
            have HFI := Lib.hid hfk
            have HXX := Lib.hid hx
            have w1 : IntKind.i64.wrap (sq - A) = sq - A := by rw [IntKind.wrap_i64]; omega
            have w2' : IntKind.i64.wrap (sq - A - 1) = sq - A - 1 := by rw [IntKind.wrap_i64]; omega
            have hd0 : 0 ≤ sq - A - 1 := by omega
            have hd1 : sq - A - 1 ≤ 9223372036854775807 := by omega
            have HC := Lib.hid (fun W (hW : Below W0.heap.size W0 W) => (show W.cell? ⟨b, off + k * 3, none⟩ = some (.int .i64 sq) ∧ W.cell? ⟨b, off + k * 3 + 1, none⟩ = some (.int .i64 z) ∧ W.cell? ⟨b, off + k * 3 + 2, none⟩ = some (.slice pf fs.length cf) from
              ⟨(hW.cell (p := ⟨b, _, none⟩) hbl).trans c1, (hW.cell (p := ⟨b, _, none⟩) hbl).trans c2, (hW.cell (p := ⟨b, _, none⟩) hbl).trans c3⟩))
            obtain ⟨wd, hwd⟩ : ∃ wd, wr.drew = wd := ⟨_, rfl⟩
            have hbd : Below W0.heap.size W0 wd := by rw [← hwd]; exact HBX.out.drew
            have hxd : OwnB W0.heap.size wd u8 X := by rw [← hwd]; exact OwnB.keep HX.out (Below.refl _ _).drew
            have HBD := Lib.hid hbd
            have HXD := Lib.hid hxd
            have hsd : W0.heap.size ≤ wd.heap.size := hbd.size
            have hwrl : b < W0.heap.size := hbl
            obtain ⟨g1, g2, g3⟩ := HC.out wd hbd
            have G := Lib.hid (fun W (hW : Kep (fun k => k < W0.heap.size) wd W) => (show W.cell? ⟨b, off + k * 3, none⟩ = some (.int .i64 sq) ∧ W.cell? ⟨b, off + k * 3 + 1, none⟩ = some (.int .i64 z) ∧ W.cell? ⟨b, off + k * 3 + 2, none⟩ = some (.slice pf fs.length cf) from
              ⟨(hW.cell (by omega) hwrl _).trans g1, (hW.cell (by omega) hwrl _).trans g2, (hW.cell (by omega) hwrl _).trans g3⟩))
            have K1 := Lib.hid (rput_any u8 X (sq - A - 1) wd hd0 hd1 (OwnB.zero hxd) (by omega))
            clear c1 c2 c3 hf h1 h2 h3 hp hnx hln hone hlen hX hd hkn hx hfk hbd hxd g1 g2 g3 HX HBX HA hbl
            go_wp2_with fail
            refine RK.begin_ (T := fun k => k < W0.heap.size) [(0, true), (1, true), (2, true), (3, true), (4, true), (5, true), (6, true), (7, true), (8, true), (10, true), (11, true), (12, true), (13, true), (14, true), (9, false), (15, false), (16, false), (17, true)] (by kernel_rfl) (by kernel_rfl) rfl (by kernel_rfl) (fun _ _ d _ _ h => by cases d <;> exact h) ?_
            simp only [RK.ordered, List.map_cons, List.map_nil, List.getElem?_toArray, List.getElem?_cons_succ, List.getElem?_cons_zero]
            rw [hwd]
            clear hwd
            repeat (refine RK.take (by rfl) (by intro W hW; obtain ⟨f1, f2, f3⟩ := G.out W hW; go_simp; with_reducible rfl) ?_; simp only [Act.put, List.setIfInBounds_toArray, List.set_cons_zero, List.set_cons_succ])
            try rw [w1]
            try rw [w2']
            refine RK.alone (by rfl) (fun K hK => ?_)
            go_simp
            refine K1.out.mono ?_
            rintro e w3 ⟨v3, rfl, ho3, hg3⟩
            go_simp
            refine hK.out _ _ (hg3.kep.mono fun q hq e => by have := (World.ownsRow.lt HXD.out q e).1; omega) ?_
            clear hK K K1
            obtain ⟨ho3b, hb3b⟩ := grown_low hsd HXD.out hg3 ho3
            have hbr3 := HBD.out.trans hb3b
            have hs3 := hbr3.size
            have HB3 := Lib.hid hbr3
            have HO3 := Lib.hid ho3b
            clear ho3 hg3 ho3b hb3b hbr3 HXD
            have K2 := Lib.hid (HFB.out w3 (HFD.out w3 HB3.out) HFI.out.1 HFI.out.2 h16 HXX.out)
            refine RK.alone (by rfl) (fun K hK => ?_)
            go_simp
            refine K2.out.mono ?_
            rintro e w4 ⟨v4, rfl, ho4, hb4⟩
            go_simp
            refine hK.out _ _ (kep_below _ hb4) ?_
            clear hK K K2
            have hs4 : W0.heap.size ≤ w4.heap.size := Nat.le_trans hs3 hb4.size
            have HO4 := Lib.hid (HO3.out.keep hb4)
            have HN4 := Lib.hid ho4
            have HB4 := Lib.hid (HB3.out.trans (hb4.mono hs3))
            clear ho4 hb4 HO3 HB3
            refine RK.alone (by rfl) (fun K hK => ?_)
            refine wp_append_low _ _ rfl v3 (X ++ bytesL (sq - A - 1).toNat) rfl HO4.out hs4 _ (bytesE (z, fs)) rfl HN4.out.brow (bytesE_ne _) (by rw [List.length_append]; omega) ?_
            intro v5 w5 ho5 hb5 hk5
            refine hK.out _ _ hk5 ?_
            clear hK K
            rw [← HN.out] at ho5
            have HO5 := Lib.hid ho5
            have HB5 := Lib.hid (HB4.out.trans hb5)
            clear ho5 hb5 hk5 HO4 HB4 HN4 HBD
            repeat (refine RK.take (by rfl) (by intro W hW; go_simp; with_reducible rfl) ?_; simp only [Act.put, List.setIfInBounds_toArray, List.set_cons_zero, List.set_cons_succ])
            refine RK.done ?_
            clear G
            obtain ⟨g1, g2, g3⟩ := HC.out w5 HB5.out
            go_wp2_with fail
            go_roundw
            case rel => exact ⟨k + 1, sq, by omega, by omega, by go_num, rfl, HLN, HO5, HB5⟩
            case measure => simp [intOf]; omega
          · obtain rfl : k = M := by omega
            obtain ⟨X, hX⟩ : ∃ X, rangeB l I k = X := ⟨_, rfl⟩
            rw [hX] at HX
            have hlen := rangeB_len HOK.out (i := I) (k := k) hIk (by rw [HNN.out]; exact hMn)
            have hbl0 := rangeB_len HOK.out (i := 0) (k := I) (by omega) (by rw [HNN.out]; omega)
            have hpos := lastS_pos HOK.out (k := k) (by rw [HNN.out]; exact hMn)
            have hadd := rangeB_add (l := l) (i := 0) (j := I) (by omega) hIk
            rw [hX] at hlen hadd
            rw [← HA.out] at hpos
            have HAk := Lib.hid HA.out
            have hXne : X ≠ [] := fun e => by rw [e] at hlen; simp at hlen; omega
            have hbnn := bytesL_length n
            have hhl := headsB_len l 0 c
            have hci := HI.out
            have hst5 := HST.out.row HBX.out HX.out
            have hK1 : ∀ W, OwnB 0 W u4 (bytesL n ++ headsB l 0 c) → Calls Try.prog _ #[u4, .int .i64 A] W _ := fun W h => rput_any u4 _ A W hpos.1 (by omega) h (by rw [List.length_append]; omega)
            have hK2 : ∀ W u, OwnB 0 W u (bytesL n ++ headsB l 0 c ++ bytesL A.toNat) → Calls Try.prog _ #[u, .int .i64 (X.length : Int)] W _ := fun W u h => rput_any u _ (X.length : Int) W (by omega) (by omega) h (by have := bytesL_length A.toNat; simp only [List.length_append]; omega)
            have e3 : bytesL n ++ headsB l 0 c ++ bytesL A.toNat ++ bytesL (X.length : Int).toNat = bytesL n ++ headsB l 0 (c + 1) := by
              rw [headsB_next, Nat.zero_add]
              unfold headB
              rw [HEND.out, ← HI.out, hX, ← HA.out, Int.toNat_natCast]
              simp only [List.append_assoc]
            rw [e3] at hK2
            have HK1 := Lib.hid hK1
            have HK2 := Lib.hid hK2
            have HXNE := Lib.hid hXne
            have HADD := Lib.hid hadd
            have hlenX : (rangeB l 0 I).length + X.length ≤ 140737488355328 := by omega
            have HST5 := Lib.hid hst5
            have HOX := Lib.hid HX.out
            obtain ⟨px, cx, rfl, hx1, hx2⟩ := (OwnB.brow HOX.out).shape
            have hI16 : Hid (I + 16 = 16 * (c + 1) ∧ I + 16 ≤ n + 15 ∧ min (I + 16) n = k) := Lib.hid ⟨by omega, by omega, by omega⟩
            have s0 : (decide ((k : Int) < (n : Int)) = true ∧ decide (k < n) = true ∧ decide ((k : Int) < (I : Int) + 16) = false) ∨ (decide ((k : Int) < (n : Int)) = false ∧ decide (k < n) = false) := by
              by_cases hkn : k < n
              · exact .inl ⟨by rw [decide_eq_true_eq]; omega, decide_eq_true hkn, by rw [decide_eq_false_iff_not]; omega⟩
              · exact .inr ⟨by rw [decide_eq_false_iff_not]; omega, decide_eq_false hkn⟩
            clear hX hlen hbl0 hpos hadd hXne hbnn hhl hst5 hK1 hK2 e3 HX HBX HST HA hkl hci
            rcases s0 with ⟨s1, s2, s3⟩ | ⟨s1, s2⟩
            all_goals
              go_wp2_with fail
              refine (HK1.out _ HST5.out.oh).mono ?_
              rintro e w6 ⟨v6, rfl, ho6, hg6⟩
              have HST6 := Lib.hid (HST5.out.growH hg6 ho6)
              clear ho6 hg6 HST5
              go_wp2_with fail
              refine (HK2.out _ _ HST6.out.oh).mono ?_
              rintro e w7 ⟨v7, rfl, ho7, hg7⟩
              have HST7 := Lib.hid (HST6.out.growH hg7 ho7)
              clear ho7 hg7 HST6
              have HOX7 := Lib.hid (own_of_block HOX.out (fun g hg => (HST7.out.blk g hg).2))
              have HRX := Lib.hid (OwnB.brow HOX7.out)
              have HOB7 := Lib.hid HST7.out.ob
              go_wp2_with (at_builtin; refine wpList_append_grown rfl _ _ rfl _ (rangeB l 0 I) rfl HOB7.out _ X rfl HRX.out HXNE.out hlenX ?_)
              intro v8 w8 ho8 hg8
              have hst8 := (HST7.out.growB hg8 ho8).forget
              rw [HADD.out] at hst8
              have HST8 := Lib.hid hst8
              clear ho8 hg8 hst8 HST7
              go_wp2_with fail
              go_roundw
              case rel => exact ⟨c + 1, I + 16, A, Lib.hid hI16.out.1, hI16.out.2.1, by go_num, rfl, Lib.hid (by rw [hI16.out.2.2]; exact HAk.out), Lib.hid (by rw [hI16.out.2.2]; exact HST8.out)⟩
              case measure => simp [intOf]; omega
      · have t1 : decide ((I : Int) < (n : Int)) = false := by simp; omega
        have t2 : decide (I < n) = false := decide_eq_false hlt
        have hc : c = blocksN n := by unfold blocksN; have := HI.out; omega
        have hmin : min I n = n := by omega
        rw [hmin] at HST
        have hst := HST.out
        have hbb := rangeB_len HOK.out (i := 0) (k := n) (by omega) (by rw [HNN.out]; exact Nat.le_refl _)
        have hhl := headsB_len l 0 c
        have hbn := bytesL_length n
        have hci := HI.out
        have HOH := Lib.hid (OwnB.from hst.oh (fun k hk => (hst.fh k hk).1))
        have HOB := Lib.hid (OwnB.brow hst.ob)
        have HLOW := Lib.hid hst.low
        have hlen : (bytesL n ++ headsB l 0 c).length + (rangeB l 0 n).length ≤ 140737488355328 := by rw [List.length_append]; omega
        have hsz := hst.low.size
        have HEE : Hid (encS l = bytesL n ++ (headsB l 0 c ++ rangeB l 0 n)) := Lib.hid (by unfold encS; rw [HNN.out, ← hc])
        clear hst hbb hhl hbn HST hmin HA hci hc
        go_wp2_with (at_builtin; refine wpList_append_bytes rfl _ _ rfl w.heap.size _ (bytesL n ++ headsB l 0 c) rfl HOH.out _ (rangeB l 0 n) rfl HOB.out hlen hsz ?_)
        intro v8 w8 ho8 hb8
        rw [← HEE.out] at ho8
        have HO8 := Lib.hid ho8
        have HB8 := Lib.hid (HLOW.out.trans hb8)
        clear ho8 hb8
        go_wp2_with fail
        go_ret2
        exact ⟨_, rfl, HO8.out, HB8.out⟩
  | false =>
    rw [hok] at HCk
    rw [if_neg (by simp), if_neg (by simp)]
    clear hok hv hfit
    go_enter Try.func16, Try.ntmps16
    go_wp2_with fail
    refine HCk.out.mono ?_
    rintro e w1 ⟨rfl, hb1⟩
    have HB1 := Lib.hid hb1
    clear hb1 HCk
    go_wp2_with fail
    go_ret2
    exact ⟨_, rfl, World.ownsRow_nil _ _ _ _, HB1.out⟩
end Go.Proofs.Ythgfaadlnffpcaa.ST
