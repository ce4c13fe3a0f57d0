/-
  The code's newPlaces, forget, lift: the places' object, the top of four bytes. Condition: a place is below 65536.
-/
import Derived.Test.YtoohkhcmakcggaaLzKep
import Derived.Maps.RangeWalk
import Derived.Laws.Cover3
import Derived.StillTailTactics
set_option linter.unusedVariables false
namespace Go.Proofs.Ytoohkhcmakcggaa.LZ
open Go.RowKit Go.Proofs.Ytoohkhcmakcggaa.MM Go.Maps

/-! ### newPlaces -/
theorem infoSides : (Try.prog.info? 58).map (fun i => (i.zero, i.size, i.bytes)) = some (some (.agg #[.int .i32 0, .int .i32 0]), 2, 8) := by kernel_rfl
theorem zeros_two (m : Nat) : (madeCells #[Value.int .i32 0, Value.int .i32 0] m).toList = (List.replicate m (0 : Int)).map (fun c => Value.int .i32 c) := by
  apply List.ext_getElem?
  intro j
  by_cases hj : j < m
  · have h2 : j % 2 = 0 ∨ j % 2 = 1 := by omega
    rcases h2 with h2 | h2 <;> simp [madeCells, hj, h2]
  · simp [madeCells, hj]
def NewLeft (vb : Value) (n : Nat) (w : World) (e : Ending) (w' : World) : Prop :=
  ∃ g mb ub cap, e = .returned (.pointer (some ⟨g, 0, none⟩)) ∧ PlAt w' g vb mb (.slice (some ⟨ub, 0, none⟩) n cap) ∧ MapAt w' mb 0 (.map []) ∧ UAt w' ub (List.replicate (2 * n) 0) ∧ n ≤ cap ∧ Below w.heap.size w w' ∧
    w.heap.size ≤ g ∧ w.heap.size ≤ mb ∧ w.heap.size ≤ ub
set_option maxRecDepth 100000 in
theorem newp_any (v : Value) (b : List UInt8) (w : World) (hr : BRow w v b) (hl : b.length ≤ 65536) : Calls Try.prog 18 #[v] w (NewLeft v b.length w) := by
  obtain ⟨p, cap, rfl, _, _⟩ := hr.shape
  obtain ⟨i0, hi, hz0, hz1, hz2⟩ := info_parts infoSides
  have hmm := @run_makeMap Try.prog
  have hmin : (if (65536 : Int) < (b.length : Int) then (65536 : Int) else (b.length : Int)) = (b.length : Int) := by split <;> omega
  have HM := Lib.hid (World.ownsMap_made (H := Unit) w Try.prog 68 (plainElem Try.prog 21))
  clear hr
  go_enter Try.func18, Try.ntmps18
  go_wp2_with (at_make; go_loud (refine wpList_make_full _ rfl _ _ 53 rfl 0 58 i0 (.agg #[.int .i32 0, .int .i32 0]) 2 Try.underlying53 hi hz0 hz1 .i64 .i64 _ _ b.length rfl rfl rfl rfl (by rw [hz2]; omega) (by unfold maxLen; omega) (Nat.zero_le _) ?_))
  intro w1 hown1 hg1
  have hkm := HM.out.kept (w' := w1) hg1 (by simp)
  have hu1 : UAt w1 (w.heap.size + 1) (List.replicate (2 * b.length) 0) := by
    rcases hown1.2 with ⟨hv, _⟩ | ⟨g, c, cur, hv, _, hh, _, _, hs, ht⟩
    · cases hv
    · simp only [Value.slice.injEq, Option.some.injEq, Addr.mk.injEq] at hv
      obtain ⟨⟨rfl, _⟩, _⟩ := hv
      refine ⟨cur, hh, ?_⟩
      rw [List.length_replicate, Nat.mul_comm, ht]
      exact zeros_two _
  have hb1 : Below w.heap.size w w1 := ((Below.refl _ _).alloc (Nat.le_refl _) _).grown hg1 (by simp) (fun k h => by cases h)
  have hs1 := hg1.size
  simp only [World.size_alloc] at hs1
  have HF := Lib.hid (show ∀ o, o = Obj.cells #[Value.slice p b.length cap, .map (some w.heap.size), .slice (some ⟨w.heap.size + 1, 0, none⟩) b.length b.length] 55 (0, 0) → NewLeft (.slice p b.length cap) b.length w (.returned (.pointer (some ⟨w1.heap.size, 0, none⟩))) (w1.alloc o) from
    fun o ho => ⟨w1.heap.size, w.heap.size, w.heap.size + 1, b.length, rfl, by subst ho; exact heap_alloc_new _ _, hkm.alloc o, hu1.below ((Below.refl _ _).alloc (Nat.le_refl _) _), Nat.le_refl _, hb1.alloc hb1.size _, hb1.size, Nat.le_refl _, Nat.le_succ _⟩)
  clear hkm hu1 hb1 hs1 hown1
  go_wp2_with fail
  go_ret
  exact HF.out _ rfl
/-! ### forget -/
set_option maxRecDepth 100000 in
theorem delf_none (mb n : Nat) (vf : Value) (w : World) (h : MapAt w mb n (.map [])) : Calls Try.prog 32 #[.map (some mb), vf] w fun e w' => e = .returned (.tuple #[]) ∧ Below w.heap.size w w' := by
  have HM := Lib.hid h
  clear h
  go_enter Try.func32, Try.ntmps32
  go_wp2_with (at_range; go_loud (refine wpList_range_own _ rfl _ 52 rfl 68 21 fourLaw Try.underlying52 _ mb n _ rfl HM.out ?_; intro w0 hrg0 hg0 hs0))
  have HB0 := Lib.hid (show Below w.heap.size w w0 from (Below.refl _ _).grown hg0 (Nat.le_refl _) (fun k h => by cases h))
  have HR0 := Lib.hid hrg0
  clear hrg0 hg0 hs0
  go_frame
  go_loopw [5] (fun _ wr => Hid (wr.ranges Try.prog 68 (plainElem Try.prog 21) mb w.heap.size n (.map []) (Maps.has (.map [])) (Maps.size (.map []))) ∧ Hid (Below w.heap.size w wr)) (fun _ wr => 0)
  case atStart => exact ⟨HR0, HB0⟩
  case round =>
    obtain ⟨HR, HB⟩ := hrel
    clear HR0 HB0
    go_wp2_with (at_next; go_loud (refine wpList_next_ranges _ rfl _ rfl 68 fourLaw (plainElem Try.prog 21) (fun x : Value => x) (fun x : Value => x) (fun key _ _ => ⟨key, rfl⟩) (fun v _ _ => ⟨v, rfl⟩) mb w.heap.size n _ _ _ rfl HR.out ?_ ?_))
    · intro h0 hl0
      go_wp2_with fail
      refine bodyPost_end (results_none rfl _ _ _) rfl ?_
      exact ⟨rfl, HB.out⟩
    · intro x c kl a b w' cnt' hk hl
      exact Bool.noConfusion (show false = true from hl)
set_option maxRecDepth 100000 in
theorem forget_none (g mb n a : Nat) (vb vu : Value) (w : World) (hp : PlAt w g vb mb vu) (h : MapAt w mb n (.map [])) : Calls Try.prog 31 #[.pointer (some ⟨g, 0, none⟩), .int .i64 a] w fun e w' => e = .returned (.tuple #[]) ∧ Below w.heap.size w w' := by
  have hba : ∀ o, Below w.heap.size w (w.alloc o) := fun o => (Below.refl _ _).alloc (Nat.le_refl _) _
  have hc := hp.map_
  have HK := Lib.hid (fun o vf => delf_none mb n vf (w.alloc o) (h.alloc o))
  have HBA := Lib.hid hba
  have hlt := hp.lt
  clear hp h hba
  go_enter Try.func31, Try.ntmps31
  go_wp2_with fail
  refine (HK.out _ _).mono ?_
  rintro e w1 ⟨rfl, hb1⟩
  have HB1 := Lib.hid (grow (HBA.out _) hb1)
  clear hb1
  go_wp2_with fail
  refine bodyPost_end (results_none rfl _ _ _) rfl ?_
  exact ⟨rfl, HB1.out⟩

/-! ### lift -/
theorem four_of {l : List UInt8} (h : 4 ≤ l.length) : ∃ c0 c1 c2 c3 l', l = c0 :: c1 :: c2 :: c3 :: l' := by
  match l, h with
  | c0 :: c1 :: c2 :: c3 :: l', _ => exact ⟨c0, c1, c2, c3, l', rfl⟩
/-- Four bytes from a place on. -/
theorem bin_four {B : Nat} {w : World} {p : Option Addr} {n cap : Nat} {l : List UInt8} (h : BIn B w (.slice p n cap) l) {k : Nat} (hk : k + 4 ≤ l.length) :
    ∃ (b off : Nat) (c0 c1 c2 c3 : UInt8), p = some ⟨b, off, none⟩ ∧ b < B ∧ (l.drop k).take 4 = [c0, c1, c2, c3] ∧ w.cell? ⟨b, off + k, none⟩ = some (.int .u8 (c0.toNat : Int)) ∧ w.cell? ⟨b, off + k + 1, none⟩ = some (.int .u8 (c1.toNat : Int)) ∧
      w.cell? ⟨b, off + k + 2, none⟩ = some (.int .u8 (c2.toNat : Int)) ∧ w.cell? ⟨b, off + k + 3, none⟩ = some (.int .u8 (c3.toNat : Int)) := by
  obtain ⟨b, off, rfl, hb, _⟩ := h.at_ (k := 0) (by omega)
  obtain ⟨c0, c1, c2, c3, l', hl⟩ := four_of (l := l.drop k) (by rw [List.length_drop]; omega)
  have g : ∀ i c, (l.drop k)[i]? = some c → w.cell? ⟨b, off + (k + i), none⟩ = some (.int .u8 (c.toNat : Int)) := fun i c hi => by
    rw [List.getElem?_drop] at hi
    obtain ⟨hlt, he⟩ := List.getElem?_eq_some_iff.1 hi
    obtain ⟨b', off', hp, _, hc⟩ := h.at_ hlt
    simp only [Option.some.injEq, Addr.mk.injEq] at hp
    obtain ⟨rfl, rfl, _⟩ := hp
    rw [he] at hc
    exact hc
  rw [hl] at g
  exact ⟨b, off, c0, c1, c2, c3, rfl, hb, by rw [hl]; rfl, g 0 _ rfl, g 1 _ rfl, g 2 _ rfl, g 3 _ rfl⟩
/-- What a look-up at four bytes tells, in whatever world. -/
theorem look_four {w : World} {mb n : Nat} {D : DataW Unit} (c0 c1 c2 c3 : UInt8) (h : MapAt w mb n D) :
    ∃ c : Int, D.atKey (.string [c0, c1, c2, c3]) (.lit (.int .i32 0)) = .lit (.int .i32 c) ∧ ∀ W, MapAt W mb n D → (Instr.lookup 52 (.map (some mb)) (fourV c0 c1 c2 c3) true).run Try.prog W = .ok (.tuple #[.int .i32 c, .bool (Maps.has D (.string [c0, c1, c2, c3]))]) W := by
  have one : ∀ W, MapAt W mb n D → ∃ c : Int, D.atKey (.string [c0, c1, c2, c3]) (.lit (.int .i32 0)) = .lit (.int .i32 c) ∧ (Instr.lookup 52 (.map (some mb)) (fourV c0 c1 c2 c3) true).run Try.prog W = .ok (.tuple #[.int .i32 c, .bool (Maps.has D (.string [c0, c1, c2, c3]))]) W := fun W hW => by
    obtain ⟨v, ps, hrun, hv⟩ := World.ownsMap.look_ok hW fourLaw Try.underlying52 (zeroI32 W) (plainElem_int (H := Unit) Try.underlying21 (by decide)) (fourKey c0 c1 c2 c3)
    obtain ⟨c, rfl, hc, _⟩ := plainElem_int_inv Try.underlying21 hv
    exact ⟨c, congrArg Prod.fst hc, hrun⟩
  obtain ⟨c, hc, _⟩ := one w h
  refine ⟨c, hc, fun W hW => ?_⟩
  obtain ⟨c', hc', hrun⟩ := one W hW
  rw [hc] at hc'
  injection hc' with e
  injection e with _ e
  subst e
  exact hrun
def LiftLeft (mb n a : Nat) (D : DataW Unit) (key : List UInt8) (w : World) (e : Ending) (w' : World) : Prop :=
  e = .returned (.int .i32 (topD D key)) ∧ MapAt w' mb (n + 1) (D.put (.string key) (.lit (.int .i32 a))) ∧ Kep (fun k => k ≠ mb) w w'
set_option maxRecDepth 100000 in
set_option maxHeartbeats 1000000 in
theorem lift_any (B g mb n a : Nat) (vb vu : Value) (b : List UInt8) (D : DataW Unit) (w : World) (hp : PlAt w g vb mb vu) (hb : BIn B w vb b) (hB : B ≤ w.heap.size) (hm : MapAt w mb n D) (ha : a + 4 ≤ b.length) (h6 : a < 65536) (hn : n ≤ 65536) (h0 : a = 0 → D = .map []) :
    Calls Try.prog 25 #[.pointer (some ⟨g, 0, none⟩), .int .i64 a] w (LiftLeft mb n a D (four b a) w) := by
  obtain ⟨_, cap, rfl, hlc, hcm⟩ := hb.shape
  obtain ⟨blk, off, c0, c1, c2, c3, rfl, hblk, hkey, x0, x1, x2, x3⟩ := bin_four hb ha
  unfold maxLen at hcm
  rw [show four b a = [c0, c1, c2, c3] from hkey]
  clear x0 x1 x2 x3
  have hx := fun W (h : Below w.heap.size w W) => bin_four (hb.below (h.mono hB)) ha
  have hX : ∀ W, Below w.heap.size w W → W.cell? ⟨blk, off + a, none⟩ = some (.int .u8 (c0.toNat : Int)) ∧ W.cell? ⟨blk, off + a + 1, none⟩ = some (.int .u8 (c1.toNat : Int)) ∧ W.cell? ⟨blk, off + a + 2, none⟩ = some (.int .u8 (c2.toNat : Int)) ∧ W.cell? ⟨blk, off + a + 3, none⟩ = some (.int .u8 (c3.toNat : Int)) := fun W h => by
    obtain ⟨b', off', d0, d1, d2, d3, e, _, hk, y0, y1, y2, y3⟩ := hx W h
    simp only [Option.some.injEq, Addr.mk.injEq] at e
    obtain ⟨rfl, rfl, _⟩ := e
    rw [hkey] at hk
    simp only [List.cons.injEq, and_true] at hk
    obtain ⟨rfl, rfl, rfl, rfl⟩ := hk
    exact ⟨y0, y1, y2, y3⟩
  have HX := Lib.hid hX
  obtain ⟨c, hat, hlook⟩ := look_four c0 c1 c2 c3 hm
  have htop : topD D [c0, c1, c2, c3] = if Maps.has D (.string [c0, c1, c2, c3]) then c else -65536 := by unfold topD; rw [hat]
  have HTOP := Lib.hid htop
  have HLOOK := Lib.hid hlook
  have HM := Lib.hid hm
  have HP := Lib.hid hp
  have HKEY := Lib.hid (fourKey c0 c1 c2 c3)
  have hcap : ¬ cap = a := by omega
  have i1 : (a : Int) ≤ (b.length : Int) := by omega
  have i2 : (a : Int) ≤ (cap : Int) := by omega
  have hw32 : IntKind.i32.wrap (a : Int) = (a : Int) := by rw [IntKind.wrap_i32]; omega
  have hwf := WalkArith.wf_i32 (n := (a : Int)) (by omega)
  have h4 : 4 ≤ b.length - a := by omega
  have hnm : n < maxLen := by unfold maxLen; omega
  have hat4 : ∀ W, (Instr.arrayAt 68 (.slice (some ⟨blk, off + a, none⟩) (b.length - a) (cap - a))).run Try.prog W = .ok (.pointer (some ⟨blk, off + a, none⟩)) W := fun W => run_arrayAt W 68 _ 4 _ _ _ Try.underlying68 h4
  have HF := Lib.hid (fun (e : a = 0) => forget_none g mb n a (.slice (some ⟨blk, off, none⟩) b.length cap) vu w hp (h0 e ▸ hm))
  clear hp hb hm hx hX hat htop hlook hkey h0
  by_cases ha0 : a = 0
  case' pos =>
    have t1 : ((a : Int) % 65536 == 0) = true := by simp [ha0]
    have HK := Lib.hid (HF.out ha0)
    clear ha0
    go_enter Try.func25, Try.ntmps25
    go_wp2_with fail
    refine HK.out.mono ?_
    rintro e W1 ⟨rfl, hbW⟩
    clear HK t1
  case' neg =>
    have t1 : ((a : Int) % 65536 == 0) = false := by rw [beq_eq_false_iff_ne]; omega
    clear ha0
    go_enter Try.func25, Try.ntmps25
    obtain ⟨W1, hbW, hW1⟩ : ∃ W, Below w.heap.size w W ∧ W = w := ⟨_, Below.refl _ _, rfl⟩
    rw [← hW1]
    clear hW1
  all_goals (
    have hX1 := HX.out W1 hbW
    obtain ⟨x0, x1, x2, x3⟩ := hX1
    have hc0 := (HP.out.below hbW).bytes
    have hc1 := (HP.out.below hbW).map_
    have hlt := (HP.out.below hbW).lt
    have HM1 := Lib.hid (HM.out.below hbW)
    have hba : ∀ o, Below W1.heap.size W1 (W1.alloc o) := fun o => (Below.refl _ _).alloc (Nat.le_refl _) _
    have hlk : ∀ o k, (Instr.lookup 52 (.map (some mb)) (.agg #[.int .u8 (c0.toNat : Int), .int .u8 (c1.toNat : Int), .int .u8 (c2.toNat : Int), .int .u8 (c3.toNat : Int)]) true).run Try.prog ((W1.alloc o).drewN k) = .ok (.tuple #[.int .i32 c, .bool (Maps.has D (.string [c0, c1, c2, c3]))]) ((W1.alloc o).drewN k) := fun o k => HLOOK.out _ (HM1.out.below (below_drewN (hba o) k))
    have HBW := Lib.hid hbW
    clear hbW
    go_wp2_with fail
    go_quiet (fail)
    obtain ⟨W2, hW2⟩ : ∃ W, (W1.alloc (.cells #[.int .u8 (c0.toNat : Int), .int .u8 (c1.toNat : Int), .int .u8 (c2.toNat : Int), .int .u8 (c3.toNat : Int)] 68)).drewN nq = W := ⟨_, rfl⟩
    have hb2 : Below W1.heap.size W1 W2 := by rw [← hW2]; exact below_drewN (hba _) nq
    have hg2 : W2.heap[W1.heap.size]? = some (.cells #[.int .u8 (c0.toNat : Int), .int .u8 (c1.toNat : Int), .int .u8 (c2.toNat : Int), .int .u8 (c3.toNat : Int)] 68 (0, 0)) := by rw [← hW2]; exact heap_alloc_new _ _
    rw [hW2]
    have q0 : W2.cell? ⟨W1.heap.size, 0, none⟩ = some (.int .u8 (c0.toNat : Int)) := by rw [cell_of_row _ _ 0 _ _ _ hg2]; rfl
    have q1 : W2.cell? ⟨W1.heap.size, 1, none⟩ = some (.int .u8 (c1.toNat : Int)) := by rw [cell_of_row _ _ 1 _ _ _ hg2]; rfl
    have q2 : W2.cell? ⟨W1.heap.size, 2, none⟩ = some (.int .u8 (c2.toNat : Int)) := by rw [cell_of_row _ _ 2 _ _ _ hg2]; rfl
    have q3 : W2.cell? ⟨W1.heap.size, 3, none⟩ = some (.int .u8 (c3.toNat : Int)) := by rw [cell_of_row _ _ 3 _ _ _ hg2]; rfl
    have p1 := ((HP.out.below HBW.out).below hb2).map_
    have HM2 := Lib.hid (HM1.out.below hb2)
    have HB2 := Lib.hid hb2
    clear hlk hW2 hba x0 x1 x2 x3 hc0 hc1 hat4 hcap hg2 hb2
    cases hh : Maps.has D (.string [c0, c1, c2, c3])
    all_goals (
      have htop := HTOP.out
      simp only [hh, if_true, if_false, Bool.false_eq_true] at htop
      have HT2 := Lib.hid htop
      clear htop hh
      go_wp2_with fail
      go_still_tail 7, (by kernel_rfl)
      go_wp2_with (at_mapUpdate; go_loud (refine wpList_mapUpdate_own _ rfl _ _ _ 52 rfl 68 21 fourLaw Try.underlying52 (plainElem Try.prog 21) mb n D rfl HM2.out hnm _ _ (.string [c0, c1, c2, c3]) rfl rfl HKEY.out (.lit (.int .i32 (a : Int))) [] (plainElem_int Try.underlying21 hwf) ?_))
      intro w3 hown3 hg3
      have HM3 := Lib.hid hown3
      have HK3 := Lib.hid (Kep.trans (kep_below (fun k => k ≠ mb) HB2.out) (kep_grown (S := fun k => k ≠ mb) (w := W2) ⟨hg3.os, hg3.tape, hg3.output, hg3.size, hg3.block⟩ (fun k h hk => hk (by injection h with h; exact h.symm))))
      clear hown3 hg3
      go_wp2_with fail
      go_ret
      refine ⟨?_, HM3.out, ?_⟩
      · rw [HT2.out]
        rfl
      · first | exact (kep_below _ HBW.out).trans HK3.out | exact HK3.out))
end Go.Proofs.Ytoohkhcmakcggaa.LZ
