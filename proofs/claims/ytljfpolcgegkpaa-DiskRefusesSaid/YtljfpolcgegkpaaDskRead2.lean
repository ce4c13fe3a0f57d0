/-
  The code's Read and restarted. Condition: names and bytes are no longer than memory bears.
-/
import Derived.Test.YtljfpolcgegkpaaDskRead
import Derived.Test.YtljfpolcgegkpaaRegK
set_option linter.unusedVariables false
namespace Go.Proofs.Ytljfpolcgegkpaa.DK
open Go.RowKit Go.Proofs.Ytljfpolcgegkpaa.MM Go.Maps

def creadD (d : DiskD) (n : List UInt8) (a m : Int) : List UInt8 × Int :=
  if findE (namedL n) d.stopped (findL d.L n).isSome = 0 then partD (curB d n) a m else ([], findE (namedL n) d.stopped (findL d.L n).isSome)
set_option maxRecDepth 100000 in
theorem cread_any (S : Nat → Prop) (g mb : Nat) (V : List UInt8 → Value) (c : Int) (d : DiskD) (n : List UInt8) (a m : Int) (w : World) (h : CObj S w g mb V c d) (hF : Fits d) (hn : n.length ≤ 1000000000000)
    (ha0 : -9223372036854775808 ≤ a) (ha1 : a ≤ 9223372036854775807) (hm0 : -9223372036854775808 ≤ m) (hm1 : m ≤ 9223372036854775807) :
    Calls Try.prog 15 #[.pointer (some ⟨g, 0, none⟩), .string ⟨n.toArray⟩, .int .i64 a, .int .i64 m] w (PartC (creadD d n a m) w) := by
  have hfind := cfind_any S 0 g mb V c d (.slice none 0 0) [] n w h (Nat.zero_le _) hn (SIn.nil_ _ _) (by simp) (by simp)
  rw [ok_one] at hfind
  obtain ⟨p, cap, hv, _, _⟩ := own_slice (cur_own h.tab n)
  have hcl : (curB d n).length ≤ 67108864 := by
    unfold curB
    cases hf : findL d.L n with
    | none => simp
    | some f => exact hF.bytes f (find_mem hf).1
  have hrow := cur_own h.tab n
  unfold FindC at hfind
  unfold creadD
  rw [hv] at hfind hrow
  have HP := Lib.hid (fun W (hW : Below w.heap.size w W) => part_any _ (curB d n) a m W (BRow.below hrow.brow hW) (by omega) ha0 ha1 hm0 hm1)
  generalize findE (namedL n) d.stopped (findL d.L n).isSome = E at *
  generalize partD (curB d n) a m = R at *
  generalize (curB d n).length = ln at *
  generalize (curS d n : Int) = sn at *
  have HFI := Lib.hid hfind
  clear hfind h hv hrow
  by_cases h0 : E = 0
  · subst h0
    rw [if_pos rfl]
    rw [if_pos rfl] at HFI
    go_enter Try.func15, Try.ntmps15
    go_wp2_with fail
    refine HFI.out.mono ?_
    rintro e W1 ⟨rfl, hb1⟩
    have HB := Lib.hid (fun o => hb1.alloc hb1.size o)
    clear hb1 HFI
    go_wp2_with fail
    refine (HP.out _ (HB.out _)).mono ?_
    rintro e w2 ⟨v2, rfl, hr2, hb2⟩
    have HF := Lib.hid (show PartC R w (.returned (.tuple #[v2, .int .i64 R.2])) w2 from ⟨_, rfl, hr2, (HB.out _).trans (hb2.mono (HB.out _).size)⟩)
    clear hr2 hb2
    go_wp2_with fail
    go_ret2
    exact HF.out
  · have t1 : (E == 0) = false := by rw [beq_eq_false_iff_ne]; exact h0
    have t2 : (E != 0) = true := by simp [bne, t1]
    rw [if_neg h0]
    rw [if_neg h0] at HFI
    clear h0 HP
    go_enter Try.func15, Try.ntmps15
    go_wp2_with fail
    refine HFI.out.mono ?_
    rintro e W1 ⟨rfl, hb1⟩
    have HF := Lib.hid (show ∀ o, PartC ([], E) w (.returned (.tuple #[.slice none 0 0, .int .i64 E])) (W1.alloc o) from fun o => ⟨_, rfl, BRow.nil_ _, hb1.alloc hb1.size o⟩)
    clear hb1 HFI
    go_wp2_with fail
    go_ret2
    exact HF.out _

/-! ### restarted -/
theorem tmod_is (k c : Int) (hc : 0 < c) : (k.tmod c < 0 → k % c = k.tmod c + c) ∧ (0 ≤ k.tmod c → k % c = k.tmod c) ∧ -c < k.tmod c ∧ k.tmod c < c := by
  have h1 := Int.tmod_lt_of_pos k hc
  have h2 : -c < k.tmod c := Int.lt_tmod_of_pos k hc
  have h3 : k % c = k.tmod c % c := by
    have e := Int.mul_tdiv_add_tmod k c
    have : (c * k.tdiv c + k.tmod c) % c = k.tmod c % c := by rw [Int.mul_add_emod_self_left]
    rw [e] at this
    exact this
  refine ⟨fun h => ?_, fun h => ?_, h2, h1⟩
  · rw [h3, ← Int.add_emod_right, Int.emod_eq_of_lt (by omega) (by omega)]
  · rw [h3, Int.emod_eq_of_lt h h1]
/-- How many bytes a restart leaves. -/
def keptN (ln s : Nat) (k : Int) : Nat := s + (k % ((ln - s + 1 : Nat) : Int)).toNat
theorem kept_le (ln s : Nat) (k : Int) (h : s ≤ ln) : s ≤ keptN ln s k ∧ keptN ln s k ≤ ln := by
  unfold keptN
  have h1 := Int.emod_lt_of_pos k (b := ((ln - s + 1 : Nat) : Int)) (by omega)
  have h2 := Int.emod_nonneg k (b := ((ln - s + 1 : Nat) : Int)) (by omega)
  omega
set_option maxRecDepth 100000 in
set_option maxHeartbeats 1000000 in
theorem restarted_any (p : Option Addr) (ln cap s : Nat) (k : Int) (w : World) (hs : s ≤ ln) (hc : ln ≤ cap) (hcm : cap ≤ maxLen) (hl : ln ≤ 1000000000000) (hk0 : -9223372036854775808 ≤ k) (hk1 : k ≤ 9223372036854775807) :
    Calls Try.prog 43 #[.agg #[.slice p ln cap, .int .i64 (s : Int)], .int .i64 k] w fun e w' => e = .returned (.agg #[.slice p (keptN ln s k) cap, .int .i64 (keptN ln s k : Int)]) ∧ Below w.heap.size w w' := by
  obtain ⟨M, hM⟩ : ∃ M, keptN ln s k = M := ⟨_, rfl⟩
  obtain ⟨m1, m2⟩ := kept_le ln s k hs
  rw [hM] at m1 m2 ⊢
  unfold keptN at hM
  obtain ⟨C, hC⟩ : ∃ C, ln - s + 1 = C := ⟨_, rfl⟩
  rw [hC] at hM
  unfold maxLen at hcm
  obtain ⟨z1, z2, z3, z4⟩ := tmod_is k (C : Int) (by omega)
  obtain ⟨t, ht⟩ : ∃ t, k.tmod (C : Int) = t := ⟨_, rfl⟩
  rw [ht] at z1 z2 z3 z4
  have hw1 : IntKind.i64.wrap ((ln : Int) - (s : Int)) = (ln : Int) - (s : Int) := by rw [IntKind.wrap_i64]; omega
  have hw2 : IntKind.i64.wrap ((ln : Int) - (s : Int) + 1) = (C : Int) := by rw [IntKind.wrap_i64]; omega
  obtain ⟨W, hW⟩ : ∃ W, (w.alloc (.cells #[.slice p ln cap, .int .i64 (s : Int)] 82)).alloc (.cells #[.slice none 0 0, .int .i64 0] 82) = W := ⟨_, rfl⟩
  have hsz : W.heap.size = w.heap.size + 2 := by rw [← hW]; simp
  have hb : Below w.heap.size w W := by rw [← hW]; exact ((Below.refl _ _).alloc (Nat.le_refl _) _).alloc (by simp) _
  have hf : FV W w.heap.size (.slice p ln cap) (s : Int) := by rw [← hW]; exact (fv_new w _ _).below ((Below.refl _ _).alloc (Nat.le_refl _) _) (by simp)
  have hg : FV W (w.heap.size + 1) (.slice none 0 0) 0 := by
    have := fv_new (w.alloc (.cells #[.slice p ln cap, .int .i64 (s : Int)] 82)) (.slice none 0 0) 0
    rw [hW, show (w.alloc (.cells #[.slice p ln cap, .int .i64 (s : Int)] 82)).heap.size = w.heap.size + 1 by simp] at this
    exact this
  have HM := Lib.hid hM
  have HC := Lib.hid hC
  have HZ1 := Lib.hid z1
  have HZ2 := Lib.hid z2
  have HF := Lib.hid hf
  have HG := Lib.hid hg
  have HB := Lib.hid hb
  have HW := Lib.hid hW
  have HT := Lib.hid ht
  have HSZ := Lib.hid hsz
  clear hM hC z1 z2 hf hg hb hW ht hsz
  go_enter Try.func43, Try.ntmps43
  go_wp2_with fail
  rw [HW.out]
  refine RK.begin_ (T := fun _ => True) [(0, true), (1, true), (3, true), (4, true), (2, false), (5, true), (6, true), (7, true)] (by kernel_rfl) (by kernel_rfl) rfl (by kernel_rfl) (fun _ _ d _ _ h => by cases d <;> exact h) ?_
  simp only [RK.ordered, List.map_cons, List.map_nil, List.getElem?_toArray, List.getElem?_cons_succ, List.getElem?_cons_zero]
  obtain ⟨wd, hwd⟩ : ∃ wd, W.drew = wd := ⟨_, rfl⟩
  have hbd : Below W.heap.size W wd := by rw [← hwd]; exact (Below.refl _ _).drew
  have HBD := Lib.hid (HB.out.trans (hbd.mono HB.out.size))
  have HFD := Lib.hid (HF.out.below hbd HF.out.lt)
  have HGD := Lib.hid (HG.out.below hbd HG.out.lt)
  rw [hwd]
  clear hwd hbd
  have f0 := fun V (hV : Kep (fun _ => True) wd V) => (HFD.out.kep hV trivial).f0
  have f1 := fun V (hV : Kep (fun _ => True) wd V) => (HFD.out.kep hV trivial).f1
  repeat (refine RK.take (by rfl) (by intro W hW; go_simp; with_reducible rfl) ?_; simp only [Act.put, List.setIfInBounds_toArray, List.set_cons_zero, List.set_cons_succ])
  refine RK.alone (by rfl) (fun K hK => ?_)
  go_simp
  refine (size_any _ _ _ _).mono ?_
  rintro e w6 ⟨rfl, rfl⟩
  go_simp
  refine hK.out _ _ (Kep.refl _ _) ?_
  clear hK K
  repeat (refine RK.take (by rfl) (by intro W hW; go_simp; with_reducible rfl) ?_; simp only [Act.put, List.setIfInBounds_toArray, List.set_cons_zero, List.set_cons_succ])
  refine RK.done ?_
  clear f0 f1 hw1 hw2
  have ht := HT.out
  have hC1 : 1 ≤ C := by have := HC.out; omega
  have hC0 : ((C : Int) == 0) = false := by rw [beq_eq_false_iff_ne]; omega
  have hC2 : C ≤ 1000000000001 := by have := HC.out; omega
  have c0 := HFD.out.f0
  have c1 := HFD.out.f1
  have c2 := fun k => HFD.out.free k
  have d0 := HGD.out.f0
  have d1 := HGD.out.f1
  have d2 := fun k => HGD.out.free k
  have hb1 : ∀ u, Below w.heap.size w (wd.setCell ⟨w.heap.size, 0, none⟩ u) := fun u => HBD.out.setCell (p := ⟨w.heap.size, 0, none⟩) (Nat.le_refl _) u
  have hg1 : ∀ u, FV (wd.setCell ⟨w.heap.size, 0, none⟩ u) (w.heap.size + 1) (.slice none 0 0) 0 := fun u => (Below.heap_setCell _ _ _ _ (fun e => by have e : w.heap.size + 1 = w.heap.size := e; omega)).trans HGD.out
  have hend : ∀ w9 : World, Below (wd.setCell ⟨w.heap.size, 0, none⟩ (.slice p M cap)).heap.size (wd.setCell ⟨w.heap.size, 0, none⟩ (.slice p M cap)) w9 →
      FV ((w9.setCell ⟨w.heap.size + 1, 0, none⟩ (.slice p M cap)).setCell ⟨w.heap.size + 1, 1, none⟩ (.int .i64 (M : Int))) (w.heap.size + 1) (.slice p M cap) (M : Int) ∧ Below w.heap.size w ((w9.setCell ⟨w.heap.size + 1, 0, none⟩ (.slice p M cap)).setCell ⟨w.heap.size + 1, 1, none⟩ (.int .i64 (M : Int))) ∧
      w9.cell? ⟨w.heap.size + 1, 0, none⟩ = some (.slice none 0 0) ∧ w9.cell? ⟨w.heap.size + 1, 1, none⟩ = some (.int .i64 0) ∧ ∀ k, w9.frozen? ⟨w.heap.size + 1, k, none⟩ = false := fun w9 h9 => by
    have hg9 := (hg1 (.slice p M cap)).below h9 (hg1 _).lt
    exact ⟨hg9.two _ _, (((hb1 _).trans (h9.mono (hb1 _).size)).setCell (p := ⟨w.heap.size + 1, 0, none⟩) (Nat.le_succ _) _).setCell (p := ⟨w.heap.size + 1, 1, none⟩) (Nat.le_succ _) _, hg9.f0, hg9.f1, fun k => hg9.free k⟩
  have HEND := Lib.hid hend
  have i1 : (M : Int) ≤ (cap : Int) := by omega
  clear hb1 hg1 hend
  by_cases hneg : t < 0
  case' pos =>
    have t1 : decide (t < 0) = true := decide_eq_true hneg
    have hM : (s : Int) + (t + (C : Int)) = (M : Int) := by
      have h1 := HZ1.out hneg
      have h2 := HM.out
      rw [h1] at h2
      omega
  case' neg =>
    have t1 : decide (t < 0) = false := decide_eq_false hneg
    have hM : (s : Int) + t = (M : Int) := by
      have h1 := HZ2.out (by omega)
      have h2 := HM.out
      rw [h1] at h2
      omega
  all_goals (
    clear HZ1 HZ2 HM
    go_wp2_with fail
    refine (synced_any _ _ _ _ _).mono ?_
    rintro e w9 ⟨rfl, hb9⟩
    obtain ⟨q1, q2, q3, q4, q5⟩ := HEND.out w9 hb9
    have HQ1 := Lib.hid q1
    have HQ2 := Lib.hid q2
    clear q1 q2 hb9 HEND
    go_wp2_with fail
    refine bodyPost_ret (v := .agg #[.slice p M cap, .int .i64 (M : Int)]) (results_cell_row rfl _ _ (w.heap.size + 1) 82 _ (0, 0) _ rfl HQ1.out Try.underlying82 rfl infoCFile) rfl ⟨rfl, HQ2.out⟩)
end Go.Proofs.Ytljfpolcgegkpaa.DK
