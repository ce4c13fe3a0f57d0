/-
  The reference's Arm, New, List; SameNames of rows that are alike. Condition: few files.
-/
import Derived.Test.YtljfpolcgegkpaaDskRef6
import Derived.Test.YtljfpolcgegkpaaDskCode1
import Derived.Test.YtljfpolcgegkpaaMemStrs
import Derived.Test.YtljfpolcgegkpaaDskRead2
import Derived.Test.YtljfpolcgegkpaaDskMath3
import Derived.Test.YtljfpolcgegkpaaMemInts
set_option linter.unusedVariables false
namespace Go.Proofs.Ytljfpolcgegkpaa.DK
open Go.RowKit Go.Proofs.Ytljfpolcgegkpaa.MM
variable {XB : Nat → Prop}

def armD (d : DiskD) (a : Int) : DiskD := { d with armed := max 0 a }
theorem results_row_one {fn : Func} {p : Tmp} (h : fn.results = #[.cell p 29]) (tmps : Array Value) (w : World) (g : Nat) (t : TypeId) (cs : Array Value) (fr : Nat × Nat)
    (hp : tmps.getD p undef = .pointer (some ⟨g, 0, none⟩)) (hg : w.heap[g]? = some (.cells cs t fr)) (hi : (Try.prog.info? 29).map (·.size) = some cs.size) :
    (results fn tmps).run Try.prog w = .ok (.agg cs) w := by
  have hp' : tmps[p]?.getD undef = .pointer (some ⟨g, 0, none⟩) := by simpa using hp
  simp [results, h, hp', asAddr, run_loadVar_row w g t 29 cs fr _ hg Try.underlying29 rfl hi]
theorem two_new (w : World) (X Y : Obj) : ((w.alloc X).alloc Y).heap[w.heap.size + 1]? = some Y := by
  have := heap_alloc_new (w.alloc X) Y
  rw [show (w.alloc X).heap.size = w.heap.size + 1 by simp] at this
  exact this
theorem two_below (w : World) (X Y : Obj) : Below w.heap.size w ((w.alloc X).alloc Y) := ((Below.refl _ _).alloc (Nat.le_refl _) _).alloc (by simp) _
set_option maxRecDepth 100000 in
set_option maxHeartbeats 1000000 in
theorem rarm_any (L : Value) (d : DiskD) (a : Int) (w : World) (p : Option Addr) (n cap : Nat) (hLv : L = .slice p n cap) : Calls Try.prog 33 #[diskV L d, .int .i64 a] w fun e w' => e = .returned (diskV L (armD d a)) ∧ Below w.heap.size w w' := by
  obtain ⟨dl, dq, da, ds⟩ := d
  have hn := two_new w
  have hb := two_below w
  subst hLv
  unfold diskV armD
  dsimp only
  by_cases h : 0 ≤ a
  · have e : max 0 a = a := by omega
    rw [e]
    have t1 : decide (0 ≤ a) = true := by simp [h]
    clear e
    go_enter Try.func33, Try.ntmps33
    go_wp2_with fail
    all_goals first
      | exact bodyPost_ret (results_row_one rfl _ _ (w.heap.size + 1) 29 _ (0, 0) rfl (hn _ _) infoDisk) rfl ⟨rfl, hb _ _⟩
      | (exfalso; omega)
      | skip
    all_goals (
      have e : a = 0 := by omega
      subst e
      exact bodyPost_ret (results_row_one rfl _ _ (w.heap.size + 1) 29 _ (0, 0) rfl (hn _ _) infoDisk) rfl ⟨rfl, hb _ _⟩)
  · have e : max 0 a = 0 := by omega
    rw [e]
    have t1 : decide (0 ≤ a) = false := by simp; omega
    clear e
    go_enter Try.func33, Try.ntmps33
    go_wp2_with fail
    all_goals first
      | exact bodyPost_ret (results_row_one rfl _ _ (w.heap.size + 1) 29 _ (0, 0) rfl (hn _ _) infoDisk) rfl ⟨rfl, hb _ _⟩
      | (exfalso; omega)
theorem newV (q : Int) : diskV (.slice none 0 0) ⟨[], q, 0, false⟩ = .agg #[.slice none 0 0, .int .i64 q, .int .i64 0, .bool false] := rfl
set_option maxRecDepth 100000 in
set_option maxHeartbeats 1000000 in
theorem rnew_any (q : Int) (w : World) : Calls Try.prog 9 #[.int .i64 q] w fun e w' => e = .returned (.tuple #[diskV (.slice none 0 0) ⟨[], if q < 0 then 0 else q, 0, false⟩, .int .i64 (if q < 0 then 1 else 0)]) ∧ Below w.heap.size w w' := by
  have hb : ∀ X, Below w.heap.size w (w.alloc X) := fun X => (Below.refl _ _).alloc (Nat.le_refl _) _
  have hn : ∀ X, (w.alloc X).heap[w.heap.size]? = some X := fun X => heap_alloc_new w X
  by_cases h : q < 0
  · rw [if_pos h, if_pos h, newV]
    have t1 : decide (q < 0) = true := by simp [h]
    go_enter Try.func9, Try.ntmps9
    go_wp2_with fail
    exact bodyPost_ret (results_row_tmp rfl _ _ w.heap.size 29 _ (0, 0) rfl (hn _) infoDisk) rfl ⟨rfl, hb _⟩
  · rw [if_neg h, if_neg h, newV]
    have t1 : decide (q < 0) = false := by simp; omega
    go_enter Try.func9, Try.ntmps9
    go_wp2_with fail
    exact bodyPost_ret (results_row_tmp rfl _ _ w.heap.size 29 _ (0, 0) rfl (hn _) infoDisk) rfl ⟨rfl, hb _⟩

def namesD (d : DiskD) : List (List UInt8) := if d.stopped = true then [] else d.L.map (·.name)
theorem sin_trow {w : World} {v : Value} {ns : List (List UInt8)} (h : SIn w.heap.size w v ns) : TRow w v ns := h
set_option maxRecDepth 100000 in
set_option maxHeartbeats 1000000 in
theorem rlist_any (B : Nat) (L : Value) (d : DiskD) (w : World) (hL : FilesIn XB B w L d.L) (hB : B ≤ w.heap.size) (hl : d.L.length ≤ 1000000) :
    Calls Try.prog 40 #[diskV L d] w fun e w' => ∃ v, e = .returned v ∧ TRow w' v (namesD d) ∧ Below w.heap.size w w' := by
  obtain ⟨dl, dq, da, ds⟩ := d
  obtain ⟨p, cap, rfl, hlc, hcm⟩ := hL.shape
  unfold maxLen at hcm
  dsimp only at hL hl hlc ⊢
  obtain ⟨W0, hW0⟩ : ∃ W, w.alloc (.cells #[.slice p dl.length cap, .int .i64 dq, .int .i64 da, .bool ds] 29) = W := ⟨_, rfl⟩
  have hx0 : BoxAt W0 w.heap.size (.slice p dl.length cap) (⟨dl, dq, da, ds⟩ : DiskD) := by rw [← hW0]; exact box_new w _ ⟨dl, dq, da, ds⟩
  have hb0 : Below w.heap.size w W0 := by rw [← hW0]; exact (Below.refl _ _).alloc (Nat.le_refl _) _
  have hlt0 := hx0.lt
  have HL := Lib.hid (hL.below (hb0.mono hB))
  have HO0 : Hid (OwnT W0.heap.size W0 (.slice none 0 0) ((dl.map (·.name)).take 0)) := Lib.hid (OwnT.nil_ _ _)
  have HB0 : Hid (Below W0.heap.size W0 W0) := Lib.hid (Below.refl _ _)
  have HBW := Lib.hid hb0
  have HX := Lib.hid hx0
  have HW := Lib.hid hW0
  obtain ⟨N, hN⟩ : ∃ N, dl.map (·.name) = N := ⟨_, rfl⟩
  have HNL := Lib.hid (show N.length = dl.length by rw [← hN, List.length_map])
  have HNA := Lib.hid (show ∀ (i : Nat) (f : FileD), dl[i]? = some f → N[i]? = some f.name from fun i f h => by rw [← hN, List.getElem?_map, h]; rfl)
  have HR := Lib.hid (show namesD (⟨dl, dq, da, ds⟩ : DiskD) = if ds = true then [] else N by unfold namesD; rw [hN])
  rw [hN] at HO0
  have c0 := hx0.files
  have c3 := hx0.stopped
  unfold diskV
  dsimp only at hW0 ⊢
  clear hL hx0 hb0 hN
  go_enter Try.func40, Try.ntmps40
  go_wp2_with fail
  clear hW0
  go_loopw [3, 4] (fun u i wr => ∃ k : Nat, k ≤ dl.length ∧ i = .int .i64 k ∧ (ds = true → k = 0) ∧ Hid (OwnT W0.heap.size wr u (N.take k)) ∧ Hid (Below W0.heap.size W0 wr)) (fun _ i _ => dl.length - (intOf i).toNat)
  case atStart => exact ⟨0, by omega, rfl, fun _ => rfl, HO0, HB0⟩
  case round =>
    obtain ⟨k, hk, rfl, hds, HO, HB⟩ := hrel
    clear HO0 HB0
    have hsz := HB.out.size
    have c0 := (HB.out.cell (p := ⟨w.heap.size, 0, none⟩) hlt0).trans HX.out.files
    have c3 := (HB.out.cell (p := ⟨w.heap.size, 3, none⟩) hlt0).trans HX.out.stopped
    by_cases hgo : k < dl.length ∧ ds = false
    · obtain ⟨hlt, rfl⟩ := hgo
      have t1 : decide ((k : Int) < (dl.length : Int)) = true := by simp; omega
      obtain ⟨f, hf⟩ : ∃ f, dl[k]? = some f := ⟨dl[k], List.getElem?_eq_getElem hlt⟩
      obtain ⟨b, off, vb, rfl, hbl, hvb, x0, x1, x2⟩ := HL.out.at_ hf
      have x0 := (HB.out.cell (p := ⟨b, off + k * 3, none⟩) (Nat.lt_of_lt_of_le hbl (Nat.le_trans hB HBW.out.size))).trans x0
      have hNk := HNA.out k f hf
      have hnx : N.take (k + 1) = N.take k ++ [f.name] := by rw [List.take_add_one, hNk]; rfl
      unfold strV at x0
      have HNX := Lib.hid hnx
      have hll : (N.take k).length ≤ 1000000 := by rw [List.length_take]; omega
      clear hf hnx x1 x2 hvb hNk hds
      go_wp2_with (at_builtin; refine wpList_append_str rfl _ _ rfl W0.heap.size _ (N.take k) wr f.name rfl rfl HO.out rfl (by omega) hsz ?_)
      intro v4 w4 hown4 hb4
      rw [← HNX.out] at hown4
      have HO4 := Lib.hid hown4
      have HB4 := Lib.hid (HB.out.trans hb4)
      clear hown4 hb4
      go_wp2_with fail
      go_roundw
      case rel => exact ⟨k + 1, by omega, by go_num, (fun h => by cases h), HO4, HB4⟩
      case measure => simp [intOf]; omega
    · have hfin : N.take k = namesD (⟨dl, dq, da, ds⟩ : DiskD) := by
        rw [HR.out]
        cases hd : ds with
        | true => rw [hds hd]; rfl
        | false =>
          have : k = dl.length := by
            by_cases q : k < dl.length
            · exact absurd ⟨q, hd⟩ hgo
            · omega
          rw [this, ← HNL.out, List.take_length]; rfl
      have hown := HO.out
      rw [hfin] at hown
      have HOf := Lib.hid hown.trow
      have HBf := Lib.hid (HBW.out.trans (HB.out.mono HBW.out.size))
      clear hown HO hfin
      by_cases hlt : k < dl.length
      · have t1 : decide ((k : Int) < (dl.length : Int)) = true := by simp; omega
        have hdt : ds = true := by
          cases hd : ds with
          | true => rfl
          | false => exact absurd ⟨hlt, hd⟩ hgo
        subst hdt
        clear hds hgo
        go_wp2_with fail
        go_ret
        exact ⟨_, rfl, HOf.out, HBf.out⟩
      · have t1 : decide ((k : Int) < (dl.length : Int)) = false := by simp; omega
        clear hds hgo
        go_wp2_with fail
        go_ret
        exact ⟨_, rfl, HOf.out, HBf.out⟩
set_option maxRecDepth 100000 in
set_option maxHeartbeats 400000 in
theorem samen_any (u v : Value) (ss : List (List UInt8)) (w : World) (hu : TRow w u ss) (hv : TRow w v ss) : Calls Try.prog 39 #[u, v] w fun e w' => e = .returned (.bool true) ∧ Below w.heap.size w w' := by
  obtain ⟨p, cp, rfl, hp1, hp2⟩ := hu.shape
  obtain ⟨q, cq, rfl, hq1, hq2⟩ := hv.shape
  unfold maxLen at hp2
  have HP := Lib.hid hu
  have HQ := Lib.hid hv
  have HB0 : Hid (Below w.heap.size w w) := Lib.hid (Below.refl _ _)
  clear hu hv
  go_enter Try.func39, Try.ntmps39
  go_wp2
  go_loopw [5] (fun i wr => ∃ k : Nat, k ≤ ss.length ∧ i = .int .i64 k ∧ Hid (Below w.heap.size w wr)) (fun i _ => ss.length - (intOf i).toNat)
  case atStart => exact ⟨0, Nat.zero_le _, rfl, HB0⟩
  case round =>
    obtain ⟨k, hk, rfl, HB⟩ := hrel
    clear HB0
    by_cases hlt : k < ss.length
    · obtain ⟨b, off, rfl, hbl, hcell⟩ := TIn.at_ HP.out hlt
      obtain ⟨b2, off2, rfl, hbl2, hcell2⟩ := TIn.at_ HQ.out hlt
      rw [← HB.out.cell (p := ⟨b, off + k, none⟩) hbl] at hcell
      rw [← HB.out.cell (p := ⟨b2, off2 + k, none⟩) hbl2] at hcell2
      obtain ⟨r, hr⟩ : ∃ r : ByteArray, ⟨(ss[k]).toArray⟩ = r := ⟨_, rfl⟩
      rw [hr] at hcell hcell2
      have hltz : (k : Int) < (ss.length : Int) := by omega
      clear hr
      go_wp2
      go_quiet (fail)
      go_wp2
      go_roundw
      case rel => exact ⟨k + 1, by omega, by go_num, Lib.hid (MM.below_drewN HB.out _)⟩
      case measure => simp [intOf]; omega
    · obtain rfl : k = ss.length := by omega
      go_wp2
      go_ret
      exact ⟨rfl, HB.out⟩
end Go.Proofs.Ytljfpolcgegkpaa.DK

/-
  The reference's Restart. Condition: few files, bytes that memory bears.
-/
namespace Go.Proofs.Ytljfpolcgegkpaa.DK
open Go.RowKit Go.Proofs.Ytljfpolcgegkpaa.MM
variable {XB : Nat → Prop}

theorem zeroFileR (w : World) : (zeroValue 48).run Try.prog w = .ok (.agg #[.string ByteArray.empty, .slice none 0 0, .int .i64 0]) w := by kernel_rfl
/-- What is kept, by the rests that the code and the reference take. -/
theorem rest_two (k : Int) (C : Nat) (hC : 0 < C) : (k.tmod (C : Int) + (C : Int)).tmod (C : Int) = ((k % (C : Int)).toNat : Int) ∧ -(C : Int) < k.tmod (C : Int) ∧ k.tmod (C : Int) < (C : Int) := by
  obtain ⟨z1, z2, z3, z4⟩ := tmod_is k (C : Int) (by omega)
  refine ⟨?_, z3, z4⟩
  have h0 := Int.emod_nonneg k (b := (C : Int)) (by omega)
  have h1 := Int.emod_lt_of_pos k (b := (C : Int)) (by omega)
  by_cases h : k.tmod (C : Int) < 0
  · rw [← z1 h, Int.toNat_of_nonneg h0]
    exact Int.tmod_eq_of_lt h0 h1
  · have e := z2 (by omega)
    rw [← e]
    rw [Int.tmod_eq_emod_of_nonneg (by omega), Int.add_emod_right, Int.emod_emod_of_dvd _ (Int.dvd_refl _), Int.toNat_of_nonneg h0]
set_option maxRecDepth 100000 in
set_option maxHeartbeats 1000000 in
theorem rrestart_any (B : Nat) (L vk : Value) (d : DiskD) (ks : List Int) (w : World) (hL : FilesIn XB B w L d.L) (hB : B ≤ w.heap.size) (hl : d.L.length ≤ 1000000) (hsu : ∀ f ∈ d.L, f.sure ≤ f.b.length) (hby : ∀ f ∈ d.L, f.b.length ≤ 1000000000) (hk : IRow w vk ks) (hks : ∀ k ∈ ks, -9223372036854775808 ≤ k ∧ k ≤ 9223372036854775807) (hXB : ∀ k, XB k → k < w.heap.size) :
    Calls Try.prog 34 #[diskV L d, vk] w fun e w' => ∃ L', e = .returned (diskV L' (restartD d ks)) ∧ FilesIn XB w'.heap.size w' L' (restartD d ks).L ∧ Below w.heap.size w w' := by
  obtain ⟨dl, dq, da, ds⟩ := d
  obtain ⟨p, cap, rfl, hlc, hcm⟩ := hL.shape
  unfold maxLen at hcm
  dsimp only at hL hl hlc hsu hby ⊢
  obtain ⟨pk, capk, rfl, hkc, hkm⟩ := hk.shape
  unfold maxLen at hkm
  obtain ⟨W0, hW0, hs0, hb0, hx0, hy0⟩ := start_box (w := w) (L := .slice p dl.length cap) (d := (⟨dl, dq, da, ds⟩ : DiskD))
  have HL := Lib.hid (hL.below (hb0.mono hB))
  have HK := Lib.hid (hk.below hb0)
  have HO0 : Hid (OwnF XB B W0.heap.size W0 (.slice none 0 0) ((restartL dl ks).take 0)) := Lib.hid (OwnF.nil_ _ _ _)
  have HB0 : Hid (Below W0.heap.size W0 W0) := Lib.hid (Below.refl _ _)
  have HBW := Lib.hid hb0
  have HX := Lib.hid hx0
  have HY := Lib.hid hy0
  have hlt0 := hx0.lt
  have hlt1 := hy0.lt
  have c0 := hx0.files
  have c1 := hx0.quota
  have HXB := Lib.hid hXB
  have HSU := Lib.hid hsu
  have HBY := Lib.hid hby
  have HKS := Lib.hid hks
  have HRL := Lib.hid (show (restartL dl ks).length = dl.length from restartL_len dl ks)
  have HRA := Lib.hid (restartL_at dl ks)
  obtain ⟨N, hN⟩ : ∃ N, restartL dl ks = N := ⟨_, rfl⟩
  rw [hN] at HO0 HRL HRA
  have HNR := Lib.hid hN
  have hzf := zeroFileR
  unfold diskV
  dsimp only at hW0 ⊢
  clear hL hk hx0 hy0 hb0 hN hXB hsu hby hks hs0
  go_enter Try.func34, Try.ntmps34
  go_wp2_with fail
  go_loopw [5, 6] (fun u i wr => ∃ k : Nat, k ≤ dl.length ∧ i = .int .i64 k ∧ Hid (OwnF XB B W0.heap.size wr u (N.take k)) ∧ Hid (Below W0.heap.size W0 wr)) (fun _ i _ => dl.length - (intOf i).toNat)
  case atStart => exact ⟨0, by omega, rfl, HO0, HB0⟩
  case round =>
    obtain ⟨k, hk, rfl, HO, HB⟩ := hrel
    clear HO0 HB0 hW0 c0 c1
    have hsz := HB.out.size
    have hsB : B ≤ W0.heap.size := Nat.le_trans hB HBW.out.size
    have c0 := (HB.out.cell (p := ⟨w.heap.size, 0, none⟩) hlt0).trans HX.out.files
    have c1 := (HB.out.cell (p := ⟨w.heap.size, 1, none⟩) hlt0).trans HX.out.quota
    by_cases hlt : k < dl.length
    · have t1 : decide ((k : Int) < (dl.length : Int)) = true := by simp; omega
      obtain ⟨f, hf⟩ : ∃ f, dl[k]? = some f := ⟨dl[k], List.getElem?_eq_getElem hlt⟩
      have hfm := List.mem_of_getElem? hf
      obtain ⟨b, off, vb, rfl, hbl, hvb, x0, x1, x2⟩ := HL.out.at_ hf
      have x0 := (HB.out.cell (p := ⟨b, off + k * 3, none⟩) (by show b < _; omega)).trans x0
      have x1 := (HB.out.cell (p := ⟨b, off + k * 3 + 1, none⟩) (by show b < _; omega)).trans x1
      have x2 := (HB.out.cell (p := ⟨b, off + k * 3 + 2, none⟩) (by show b < _; omega)).trans x2
      obtain ⟨pb, capb, rfl, hpc, hpm⟩ := hvb.shape
      unfold maxLen at hpm
      have hs1 := HSU.out f hfm
      have hb1 := HBY.out f hfm
      have hNk : N[k]? = some (restartF f ks[k]?) := by rw [HRA.out k, hf]; rfl
      have hnx : N.take (k + 1) = N.take k ++ [restartF f ks[k]?] := by rw [List.take_add_one, hNk]; rfl
      unfold strV at x0
      obtain ⟨SN, hSN⟩ : ∃ S : ByteArray, (⟨f.name.toArray⟩ : ByteArray) = S := ⟨_, rfl⟩
      rw [hSN] at x0
      have hvbr := hvb.below (HB.out.mono hsB)
      by_cases hkl : k < ks.length
      · have t2 : decide ((k : Int) < (ks.length : Int)) = true := by simp; omega
        obtain ⟨bk, offk, rfl, hbk, hck⟩ := HK.out.at_ hkl
        obtain ⟨kk, hkk⟩ : ∃ kk, ks.getD k 0 = kk := ⟨_, rfl⟩
        have hkk2 : ks[k]? = some kk := by rw [← hkk, List.getD_eq_getElem?_getD, List.getElem?_eq_getElem hkl]; rfl
        have hkb := HKS.out kk (List.mem_of_getElem? hkk2)
        rw [hkk] at hck
        have hck := (HB.out.cell (p := ⟨bk, offk + k, none⟩) (by show bk < _; omega)).trans hck
        have hbk2 : bk < wr.heap.size := by omega
        have hck := fun o => ((Below.refl wr.heap.size wr).alloc (Nat.le_refl _) o).cell (p := ⟨bk, offk + k, none⟩) hbk2 |>.trans hck
        obtain ⟨C, hC⟩ : ∃ C, f.b.length - f.sure + 1 = C := ⟨_, rfl⟩
        have hc1 : (f.b.length : Int) - (f.sure : Int) + 1 = (C : Int) := by omega
        obtain ⟨r1, r2, r3⟩ := rest_two kk C (by omega)
        have hn1 := Int.emod_lt_of_pos kk (b := (C : Int)) (by omega)
        have hn0 := Int.emod_nonneg kk (b := (C : Int)) (by omega)
        obtain ⟨n, hn⟩ : ∃ n, (kk % (C : Int)).toNat = n := ⟨_, rfl⟩
        obtain ⟨t, ht⟩ : ∃ t, kk.tmod (C : Int) = t := ⟨_, rfl⟩
        rw [ht] at r1 r2 r3
        rw [hn] at r1
        obtain ⟨M, hMn⟩ : ∃ M, f.sure + n = M := ⟨_, rfl⟩
        have hm1 : (f.sure : Int) + (n : Int) = (M : Int) := by omega
        have hMle : M ≤ f.b.length := by omega
        have hmc : (M : Int) ≤ (capb : Int) := by omega
        have HMEQ : restartF f ks[k]? = ⟨f.name, f.b.take M, M⟩ := by
          rw [hkk2]
          unfold restartF
          dsimp only
          rw [hC, hn, hMn]
        clear hkk hkk2 hn0 hn1 hn hC hMn
        have hM : restartF f ks[k]? = ⟨f.name, f.b.take M, M⟩ := HMEQ
        have hnx : N.take (k + 1) = N.take k ++ [⟨f.name, f.b.take M, M⟩] := by rw [List.take_add_one, hNk, hM]; rfl
        have HNX := Lib.hid hnx
        have HVT := Lib.hid (fun X Y => (hvbr.take M hMle).below ((two_below wr X Y).mono (by omega)))
        have HOB := Lib.hid (fun X Y => HO.out.keep (two_below wr X Y) (by omega))
        have HG := Lib.hid (show ∀ X, ∃ t fr, ((wr.alloc X).alloc (.cells #[.string SN, .slice pb M capb, .int .i64 (M : Int)] 48)).heap[wr.heap.size + 1]? = some (.cells #[strV f.name, .slice pb M capb, .int .i64 (M : Int)] t fr) from fun X => ⟨_, _, by rw [two_new]; unfold strV; rw [hSN]⟩)
        have HBB := Lib.hid (fun X Y => HB.out.trans ((two_below wr X Y).mono hsz))
        have HLN : (N.take k).length ≤ 1000000 := by rw [List.length_take]; omega
        have HSZ := Lib.hid (show ∀ X Y, W0.heap.size ≤ ((wr.alloc X).alloc Y).heap.size from fun X Y => Nat.le_trans hsz (two_below wr X Y).size)
        clear hnx hM hvbr hvb hNk hf hfm hSN
        go_wp2_with (at_builtin; refine wpList_append_file rfl _ _ rfl B W0.heap.size _ (N.take k) rfl (HOB.out _ _) ⟨f.name, f.b.take M, M⟩ (.slice pb M capb) _ rfl (wr.heap.size + 1) rfl (HG.out _) (HVT.out _ _) hsB (by omega) (HSZ.out _ _) ?_)
        intro v6 w6 hown6 hb6
        rw [← HNX.out] at hown6
        have HO6 := Lib.hid hown6
        have HB6 := Lib.hid ((HBB.out _ _).trans hb6)
        clear hown6 hb6
        go_wp2_with fail
        go_roundw
        case rel => exact ⟨k + 1, by omega, by go_num, HO6, HB6⟩
        case measure => simp [intOf]; omega
      · have t2 : decide ((k : Int) < (ks.length : Int)) = false := by simp; omega
        obtain ⟨M, hMn⟩ : ∃ M, f.sure = M := ⟨_, rfl⟩
        have hMle : M ≤ f.b.length := by omega
        have hmc : (M : Int) ≤ (capb : Int) := by omega
        have HMEQ : restartF f ks[k]? = ⟨f.name, f.b.take M, M⟩ := by
          rw [List.getElem?_eq_none (by omega)]
          unfold restartF
          dsimp only
          rw [Nat.add_zero, hMn]
        rw [hMn] at x2
        clear hMn
        have hM : restartF f ks[k]? = ⟨f.name, f.b.take M, M⟩ := HMEQ
        have hnx : N.take (k + 1) = N.take k ++ [⟨f.name, f.b.take M, M⟩] := by rw [List.take_add_one, hNk, hM]; rfl
        have HNX := Lib.hid hnx
        have HVT := Lib.hid (fun X Y => (hvbr.take M hMle).below ((two_below wr X Y).mono (by omega)))
        have HOB := Lib.hid (fun X Y => HO.out.keep (two_below wr X Y) (by omega))
        have HG := Lib.hid (show ∀ X, ∃ t fr, ((wr.alloc X).alloc (.cells #[.string SN, .slice pb M capb, .int .i64 (M : Int)] 48)).heap[wr.heap.size + 1]? = some (.cells #[strV f.name, .slice pb M capb, .int .i64 (M : Int)] t fr) from fun X => ⟨_, _, by rw [two_new]; unfold strV; rw [hSN]⟩)
        have HBB := Lib.hid (fun X Y => HB.out.trans ((two_below wr X Y).mono hsz))
        have HLN : (N.take k).length ≤ 1000000 := by rw [List.length_take]; omega
        have HSZ := Lib.hid (show ∀ X Y, W0.heap.size ≤ ((wr.alloc X).alloc Y).heap.size from fun X Y => Nat.le_trans hsz (two_below wr X Y).size)
        clear hnx hM hvbr hvb hNk hf hfm hSN
        go_wp2_with (at_builtin; refine wpList_append_file rfl _ _ rfl B W0.heap.size _ (N.take k) rfl (HOB.out _ _) ⟨f.name, f.b.take M, M⟩ (.slice pb M capb) _ rfl (wr.heap.size + 1) rfl (HG.out _) (HVT.out _ _) hsB (by omega) (HSZ.out _ _) ?_)
        intro v6 w6 hown6 hb6
        rw [← HNX.out] at hown6
        have HO6 := Lib.hid hown6
        have HB6 := Lib.hid ((HBB.out _ _).trans hb6)
        clear hown6 hb6
        go_wp2_with fail
        go_roundw
        case rel => exact ⟨k + 1, by omega, by go_num, HO6, HB6⟩
        case measure => simp [intOf]; omega
    · obtain rfl : k = dl.length := by omega
      have t1 : decide ((dl.length : Int) < (dl.length : Int)) = false := by simp
      have hown := HO.out
      rw [← HRL.out, List.take_length] at hown
      have hy := HY.out.below HB.out hlt1
      rw [← HNR.out] at hown
      obtain ⟨pu, capu, rfl⟩ := hown.shape
      have HE := Lib.hid (end_own (k := w.heap.size + 1) (w := w) (W := wr) (d := restartD (⟨dl, dq, da, ds⟩ : DiskD) ks) hy hown hB (Nat.le_succ _) hlt1 (HBW.out.trans (HB.out.mono HBW.out.size)) HXB.out)
      have y0 := hy.files
      have y1 := hy.quota
      have y2 := hy.armed
      have y3 := hy.stopped
      have fy := fun k => hy.free k
      clear hown hy HO
      obtain ⟨q1, ⟨L', e1, q2⟩, q3⟩ := HE.out
      unfold putBox restartD at q1 q2 q3
      dsimp only at q1 q2 q3
      have eL : L' = .slice pu (restartL dl ks).length capu := by
        have := e1
        unfold diskV at this
        simp only [Value.agg.injEq] at this
        have h0 := congrArg (fun a => a[0]?) this
        simpa using h0.symm
      rw [eL] at q2
      clear e1 eL
      go_wp2_with fail
      refine bodyPost_ret (results_row_one rfl _ _ (w.heap.size + 1) 29 _ (0, 0) rfl q1 infoDisk) rfl ⟨_, rfl, q2, q3⟩
end Go.Proofs.Ytljfpolcgegkpaa.DK
