/-
  The reference's Named, less, find, Used: what the plain lists say. Condition: few files, few bytes.
-/
import Derived.Test.YtljfpolcgegkpaaDskRow
set_option linter.unusedVariables false
namespace Go.Proofs.Ytljfpolcgegkpaa.DK
open Go.RowKit Go.Proofs.Ytljfpolcgegkpaa.MM
variable {XB : Nat → Prop}

/-! ### texts -/
theorem str_index {s : ByteArray} {l : List UInt8} (hl : s.data.toList = l) {i : Nat} {c : UInt8} (hi : l[i]? = some c) (W : World) : (Instr.index 9 (.string s) (.int .i64 (i : Int))).run Try.prog W = .ok (.int .u8 (c.toNat : Int)) W := by
  obtain ⟨hlt, he⟩ := List.getElem?_eq_some_iff.1 hi
  have hsz : s.size = l.length := by rw [Lib.size_eq, hl]
  rw [run_index_string W 9 s .i64 i Try.underlying9, dif_pos ⟨by omega, by omega⟩]
  subst hl
  have e : (s[(i : Int).toNat]'(by omega)) = c := by
    rw [← he]
    simp only [Int.toNat_natCast]
    rfl
  rw [e]
theorem str_size {s : ByteArray} {l : List UInt8} (hl : s.data.toList = l) : s.size = l.length := by rw [Lib.size_eq, hl]

/-! ### names -/
def okCode (c : Nat) : Bool := (decide (97 ≤ c) && decide (c ≤ 122)) || (decide (48 ≤ c) && decide (c ≤ 57)) || decide (c = 45) || decide (c = 46)
theorem eq_code (c k : UInt8) : (c == k) = decide (c.toNat = k.toNat) := by
  by_cases h : c = k
  · subst h; rw [beq_self_eq_true]; exact (decide_eq_true rfl).symm
  · have : ¬ c.toNat = k.toNat := fun q => h (UInt8.toNat_inj.1 q)
    rw [beq_eq_false_iff_ne.2 h, decide_eq_false this]
theorem charOk_code (c : UInt8) : charOk c = okCode c.toNat := by
  unfold charOk okCode
  rw [eq_code c 45, eq_code c 46]
  rfl
theorem okCode_int (c : Nat) : okCode c = (((decide ((c : Int) ≥ 97) && decide ((c : Int) ≤ 122)) || (decide ((c : Int) ≥ 48) && decide ((c : Int) ≤ 57))) || ((c : Int) == 45) || ((c : Int) == 46)) := by
  have e : ∀ k : Nat, ((c : Int) == (k : Int)) = decide (c = k) := fun k => by
    by_cases h : c = k
    · subst h; rw [beq_self_eq_true]; exact (decide_eq_true rfl).symm
    · rw [beq_eq_false_iff_ne.2 (by omega), decide_eq_false h]
  have e1 : ((c : Int) == 45) = decide (c = 45) := e 45
  have e2 : ((c : Int) == 46) = decide (c = 46) := e 46
  unfold okCode
  rw [e1, e2, decide_eq_decide.2 (show 97 ≤ c ↔ (c : Int) ≥ 97 by omega), decide_eq_decide.2 (show c ≤ 122 ↔ (c : Int) ≤ 122 by omega), decide_eq_decide.2 (show 48 ≤ c ↔ (c : Int) ≥ 48 by omega), decide_eq_decide.2 (show c ≤ 57 ↔ (c : Int) ≤ 57 by omega)]
theorem drop_all {l : List UInt8} {i : Nat} {c : UInt8} (hi : l[i]? = some c) : (l.drop i).all charOk = (okCode c.toNat && (l.drop (i + 1)).all charOk) := by
  obtain ⟨hlt, he⟩ := List.getElem?_eq_some_iff.1 hi
  rw [List.drop_eq_getElem_cons hlt, List.all_cons, he, charOk_code]
set_option maxRecDepth 100000 in
set_option maxHeartbeats 2000000 in
theorem named_any (s : ByteArray) (l : List UInt8) (w : World) (hl : s.data.toList = l) (hs : l.length ≤ 1000000000000) : Calls Try.prog 53 #[.string s] w fun e w' => e = .returned (.bool (namedL l)) ∧ Below w.heap.size w w' := by
  have hsz := str_size hl
  by_cases h1 : l.length < 1
  · have e : namedL l = false := by unfold namedL; rw [decide_eq_false (by omega)]; rfl
    rw [e]
    have t1 : decide ((s.size : Int) < 1) = true := by rw [decide_eq_true_eq]; omega
    have t2 : decide (s.size < 1) = true := by rw [decide_eq_true_eq]; omega
    clear hl hsz e
    go_enter Try.func53, Try.ntmps53
    go_wp2_with fail
    go_ret
    exact ⟨rfl, Below.refl _ _⟩
  · have t1 : decide ((s.size : Int) < 1) = false := by rw [decide_eq_false_iff_not]; omega
    have t2 : decide (s.size < 1) = false := by rw [decide_eq_false_iff_not]; omega
    by_cases h2 : 64 < l.length
    · have e : namedL l = false := by unfold namedL; rw [decide_eq_false (show ¬ l.length ≤ 64 by omega)]; simp
      rw [e]
      have t3 : decide ((s.size : Int) > 64) = true := by rw [decide_eq_true_eq]; omega
      have t4 : decide (64 < s.size) = true := by rw [decide_eq_true_eq]; omega
      clear hl hsz e
      go_enter Try.func53, Try.ntmps53
      go_wp2_with fail
      go_ret
      exact ⟨rfl, Below.refl _ _⟩
    · have t3 : decide ((s.size : Int) > 64) = false := by rw [decide_eq_false_iff_not]; omega
      have t4 : decide (64 < s.size) = false := by rw [decide_eq_false_iff_not]; omega
      obtain ⟨RES, hRES⟩ : ∃ RES, namedL l = RES := ⟨_, rfl⟩
      have hall : (l.drop 0).all charOk = RES := by
        rw [← hRES]
        unfold namedL
        rw [decide_eq_true (show 1 ≤ l.length by omega), decide_eq_true (show l.length ≤ 64 by omega)]
        rfl
      rw [hRES]
      have H0 := Lib.hid hall
      have HL := Lib.hid hl
      have HSZ := Lib.hid hsz
      clear hRES hall hl hsz h1 h2
      go_enter Try.func53, Try.ntmps53
      go_wp2_with fail
      go_loopw [3] (fun iv wr => ∃ i : Nat, i ≤ l.length ∧ iv = .int .i64 i ∧ Hid ((l.drop i).all charOk = RES) ∧ Hid (Below w.heap.size w wr)) (fun iv _ => l.length - (intOf iv).toNat)
      case atStart => exact ⟨0, by omega, rfl, H0, Lib.hid (Below.refl _ _)⟩
      case round =>
        obtain ⟨i, hi, rfl, HI, HB⟩ := hrel
        clear H0
        have hsz := HSZ.out
        by_cases hlt : i < l.length
        · have q1 : decide ((i : Int) < (s.size : Int)) = true := by rw [decide_eq_true_eq]; omega
          have q2 : decide (i < s.size) = true := by rw [decide_eq_true_eq]; omega
          obtain ⟨c8, hc8⟩ : ∃ c, l[i]? = some c := ⟨l[i], List.getElem?_eq_getElem hlt⟩
          have hix := str_index HL.out hc8
          have hnext := HI.out
          rw [drop_all hc8] at hnext
          have hc9 := c8.toNat_lt
          generalize c8.toNat = c at *
          have HN := Lib.hid hnext
          have HLT := Lib.hid hlt
          clear hnext hc8 HI hsz hlt
          rcases (by omega : c < 45 ∨ c = 45 ∨ c = 46 ∨ c = 47 ∨ (48 ≤ c ∧ c ≤ 57) ∨ (58 ≤ c ∧ c ≤ 96) ∨ (97 ≤ c ∧ c ≤ 122) ∨ 122 < c) with h | h | h | h | h | h | h | h
          all_goals (
            first | (have a1 : decide ((c : Int) ≥ 97) = true := by (rw [decide_eq_true_eq]; omega)) | (have a1 : decide ((c : Int) ≥ 97) = false := by (rw [decide_eq_false_iff_not]; omega))
            first | (have a2 : decide ((c : Int) ≤ 122) = true := by (rw [decide_eq_true_eq]; omega)) | (have a2 : decide ((c : Int) ≤ 122) = false := by (rw [decide_eq_false_iff_not]; omega))
            first | (have a3 : decide ((c : Int) ≥ 48) = true := by (rw [decide_eq_true_eq]; omega)) | (have a3 : decide ((c : Int) ≥ 48) = false := by (rw [decide_eq_false_iff_not]; omega))
            first | (have a4 : decide ((c : Int) ≤ 57) = true := by (rw [decide_eq_true_eq]; omega)) | (have a4 : decide ((c : Int) ≤ 57) = false := by (rw [decide_eq_false_iff_not]; omega))
            first | (have a5 : ((c : Int) == 45) = true := by (rw [beq_iff_eq]; omega)) | (have a5 : ((c : Int) == 45) = false := by (rw [beq_eq_false_iff_ne]; omega))
            first | (have a6 : ((c : Int) == 46) = true := by (rw [beq_iff_eq]; omega)) | (have a6 : ((c : Int) == 46) = false := by (rw [beq_eq_false_iff_ne]; omega))
            have hok := okCode_int c
            rw [a1, a2, a3, a4, a5, a6] at hok
            have HOK := Lib.hid hok
            clear h hok
            go_wp2_with fail
            have hn := HN.out
            rw [HOK.out] at hn
            simp only [Bool.and_true, Bool.and_false, Bool.true_and, Bool.false_and, Bool.or_true, Bool.or_false, Bool.true_or, Bool.false_or] at hn
            have hlt := HLT.out
            first
              | (go_roundw
                 case rel => exact ⟨i + 1, by omega, by go_num, Lib.hid hn, HB⟩
                 case measure => simp [intOf]; omega)
              | (subst hn
                 go_ret
                 exact ⟨rfl, HB.out⟩))
        · obtain rfl : i = l.length := by omega
          have q1 : decide ((l.length : Int) < (s.size : Int)) = false := by rw [decide_eq_false_iff_not]; omega
          have q2 : decide (l.length < s.size) = false := by rw [decide_eq_false_iff_not]; omega
          have hn := HI.out
          rw [List.drop_length] at hn
          subst hn
          clear HI hsz
          go_wp2_with fail
          go_ret
          exact ⟨rfl, HB.out⟩

/-! ### less -/
theorem less_nil (t : List UInt8) : lessL [] t = decide (0 < t.length) := by cases t <;> simp [lessL]
theorem less_nil2 (s : List UInt8) : lessL s [] = false := by cases s <;> rfl
theorem less_end {a b : List UInt8} {i : Nat} (h : i = a.length ∧ i ≤ b.length ∨ i = b.length ∧ i ≤ a.length) : lessL (a.drop i) (b.drop i) = decide (a.length < b.length) := by
  rcases h with ⟨h, h2⟩ | ⟨h, h2⟩
  · subst h
    rw [List.drop_length, less_nil, List.length_drop]
    exact decide_eq_decide.2 (by omega)
  · subst h
    rw [List.drop_length, less_nil2, decide_eq_false (by omega)]
theorem less_step {a b : List UInt8} {i : Nat} {x y : UInt8} (hx : a[i]? = some x) (hy : b[i]? = some y) : lessL (a.drop i) (b.drop i) = if x.toNat = y.toNat then lessL (a.drop (i + 1)) (b.drop (i + 1)) else decide (x.toNat < y.toNat) := by
  obtain ⟨h1, e1⟩ := List.getElem?_eq_some_iff.1 hx
  obtain ⟨h2, e2⟩ := List.getElem?_eq_some_iff.1 hy
  rw [List.drop_eq_getElem_cons h1, List.drop_eq_getElem_cons h2, e1, e2]
  by_cases h : x = y
  · subst h
    rw [lessL, if_pos rfl, if_pos rfl]
  · rw [lessL, if_neg h, if_neg (fun q => h (UInt8.toNat_inj.1 q))]
    exact decide_eq_decide.2 UInt8.lt_iff_toNat_lt
theorem drewN_more {w wr : World} (h : ∃ m, wr = w.drewN m) (n : Nat) : ∃ m, wr.drewN n = w.drewN m := by
  obtain ⟨m, rfl⟩ := h
  exact ⟨m + n, World.drewN_drewN _ _ _⟩
set_option maxRecDepth 100000 in
set_option maxHeartbeats 2000000 in
theorem less_any (a b : List UInt8) (w : World) (ha : a.length ≤ 1000000000000) (hb : b.length ≤ 1000000000000) : Calls Try.prog 63 #[.string ⟨a.toArray⟩, .string ⟨b.toArray⟩] w fun e w' => e = .returned (.bool (lessL a b)) ∧ ∃ m, w' = w.drewN m := by
  obtain ⟨s, hs⟩ : ∃ s : ByteArray, (⟨a.toArray⟩ : ByteArray) = s := ⟨_, rfl⟩
  obtain ⟨t, ht⟩ : ∃ s : ByteArray, (⟨b.toArray⟩ : ByteArray) = s := ⟨_, rfl⟩
  have hls : s.data.toList = a := by rw [← hs]
  have hlt : t.data.toList = b := by rw [← ht]
  rw [hs, ht]
  obtain ⟨RES, hRES⟩ : ∃ RES, lessL a b = RES := ⟨_, rfl⟩
  rw [hRES]
  have H0 : Hid (lessL (a.drop 0) (b.drop 0) = RES) := Lib.hid hRES
  have HS := Lib.hid hls
  have HT := Lib.hid hlt
  have HS1 := Lib.hid (str_size hls)
  have HT1 := Lib.hid (str_size hlt)
  clear hs ht hls hlt hRES
  go_enter Try.func63, Try.ntmps63
  go_wp2_with fail
  go_loopw [5] (fun iv wr => ∃ i : Nat, i ≤ a.length ∧ i ≤ b.length ∧ iv = .int .i64 i ∧ Hid (lessL (a.drop i) (b.drop i) = RES) ∧ Hid (∃ m, wr = w.drewN m)) (fun iv _ => a.length - (intOf iv).toNat)
  case atStart => exact ⟨0, by omega, by omega, rfl, H0, Lib.hid ⟨0, rfl⟩⟩
  case round =>
    obtain ⟨i, hia, hib, rfl, HI, HB⟩ := hrel
    clear H0
    have e1 := HS1.out
    have e2 := HT1.out
    by_cases hboth : i < a.length ∧ i < b.length
    · have q1 : decide ((i : Int) < (s.size : Int)) = true := by rw [decide_eq_true_eq]; omega
      have q2 : decide (i < s.size) = true := by rw [decide_eq_true_eq]; omega
      have q3 : decide ((i : Int) < (t.size : Int)) = true := by rw [decide_eq_true_eq]; omega
      have q4 : decide (i < t.size) = true := by rw [decide_eq_true_eq]; omega
      obtain ⟨x8, hx8⟩ : ∃ c, a[i]? = some c := ⟨a[i], List.getElem?_eq_getElem hboth.1⟩
      obtain ⟨y8, hy8⟩ : ∃ c, b[i]? = some c := ⟨b[i], List.getElem?_eq_getElem hboth.2⟩
      have hix := str_index HS.out hx8
      have hiy := str_index HT.out hy8
      have hn := HI.out
      rw [less_step hx8 hy8] at hn
      generalize x8.toNat = x at *
      generalize y8.toNat = y at *
      have HBO := Lib.hid hboth
      by_cases hxy : x = y
      · rw [if_pos hxy] at hn
        have q5 : ((x : Int) != (y : Int)) = false := by simp [hxy]
        have HN := Lib.hid hn
        clear hn hxy hx8 hy8 HI e1 e2 hboth
        go_wp2_with fail
        go_quiet (fail)
        go_wp2_with fail
        have hbo := HBO.out
        go_roundw
        case rel => exact ⟨i + 1, by omega, by omega, by go_num, HN, Lib.hid (drewN_more HB.out _)⟩
        case measure => simp [intOf]; omega
      · rw [if_neg hxy] at hn
        have q5 : ((x : Int) != (y : Int)) = true := by rw [bne_iff_ne]; omega
        have q6 : decide ((x : Int) < (y : Int)) = RES := by rw [← hn]; exact decide_eq_decide.2 (by omega)
        have q7 : decide (x < y) = RES := hn
        clear hn hxy hx8 hy8 HI e1 e2 hboth
        go_wp2_with fail
        go_quiet (fail)
        go_wp2_with fail
        obtain ⟨W, hW⟩ : ∃ W, wr.drewN nq = W := ⟨_, rfl⟩
        have HBW := Lib.hid (show ∃ m, W = w.drewN m by rw [← hW]; exact drewN_more HB.out nq)
        rw [hW]
        clear hW
        go_quiet (fail)
        go_wp2_with fail
        go_ret
        exact ⟨rfl, drewN_more HBW.out _⟩
    · have hn := HI.out
      rw [less_end (by omega)] at hn
      have q6 : decide ((s.size : Int) < (t.size : Int)) = RES := by rw [← hn]; exact decide_eq_decide.2 (by omega)
      have q7 : decide (s.size < t.size) = RES := by rw [← hn]; exact decide_eq_decide.2 (by omega)
      by_cases hl : i < a.length
      · have q1 : decide ((i : Int) < (s.size : Int)) = true := by rw [decide_eq_true_eq]; omega
        have q2 : decide (i < s.size) = true := by rw [decide_eq_true_eq]; omega
        have q3 : decide ((i : Int) < (t.size : Int)) = false := by rw [decide_eq_false_iff_not]; omega
        have q4 : decide (i < t.size) = false := by rw [decide_eq_false_iff_not]; omega
        clear hn HI e1 e2 hboth hl
        go_wp2_with fail
        go_ret
        exact ⟨rfl, HB.out⟩
      · have q1 : decide ((i : Int) < (s.size : Int)) = false := by rw [decide_eq_false_iff_not]; omega
        have q2 : decide (i < s.size) = false := by rw [decide_eq_false_iff_not]; omega
        clear hn HI e1 e2 hboth hl
        go_wp2_with fail
        go_ret
        exact ⟨rfl, HB.out⟩

/-! ### a disk in a variable -/
def BoxAt (w : World) (g : Nat) (L : Value) (d : DiskD) : Prop := w.heap[g]? = some (.cells #[L, .int .i64 d.quota, .int .i64 d.armed, .bool d.stopped] 29 (0, 0))
theorem BoxAt.files {w : World} {g : Nat} {L : Value} {d : DiskD} (h : BoxAt w g L d) : w.cell? ⟨g, 0, none⟩ = some L := by rw [cell_of_row w g 0 _ _ _ h]; rfl
theorem BoxAt.quota {w : World} {g : Nat} {L : Value} {d : DiskD} (h : BoxAt w g L d) : w.cell? ⟨g, 1, none⟩ = some (.int .i64 d.quota) := by rw [cell_of_row w g 1 _ _ _ h]; rfl
theorem BoxAt.armed {w : World} {g : Nat} {L : Value} {d : DiskD} (h : BoxAt w g L d) : w.cell? ⟨g, 2, none⟩ = some (.int .i64 d.armed) := by rw [cell_of_row w g 2 _ _ _ h]; rfl
theorem BoxAt.stopped {w : World} {g : Nat} {L : Value} {d : DiskD} (h : BoxAt w g L d) : w.cell? ⟨g, 3, none⟩ = some (.bool d.stopped) := by rw [cell_of_row w g 3 _ _ _ h]; rfl
theorem BoxAt.free {w : World} {g : Nat} {L : Value} {d : DiskD} (h : BoxAt w g L d) (k : Nat) : w.frozen? ⟨g, k, none⟩ = false := frozen_of_row w g k _ _ h
theorem BoxAt.lt {w : World} {g : Nat} {L : Value} {d : DiskD} (h : BoxAt w g L d) : g < w.heap.size := (Array.getElem?_eq_some_iff.1 h).1
theorem BoxAt.below {w w' : World} {g B : Nat} {L : Value} {d : DiskD} (h : BoxAt w g L d) (hb : Below B w w') (hg : g < B) : BoxAt w' g L d := (hb.block g hg).trans h
theorem box_new (w : World) (L : Value) (d : DiskD) : BoxAt (w.alloc (.cells #[L, .int .i64 d.quota, .int .i64 d.armed, .bool d.stopped] 29)) w.heap.size L d := heap_alloc_new _ _

theorem box_four {w : World} {g : Nat} {L0 : Value} {d0 : DiskD} (h : BoxAt w g L0 d0) (L : Value) (d : DiskD) :
    BoxAt ((((w.setCell ⟨g, 0, none⟩ L).setCell ⟨g, 1, none⟩ (.int .i64 d.quota)).setCell ⟨g, 2, none⟩ (.int .i64 d.armed)).setCell ⟨g, 3, none⟩ (.bool d.stopped)) g L d := by
  have h1 := heap_setCell_same w g 0 _ _ L h
  have h2 := heap_setCell_same _ g 1 _ _ (.int .i64 d.quota) h1
  have h3 := heap_setCell_same _ g 2 _ _ (.int .i64 d.armed) h2
  exact heap_setCell_same _ g 3 _ _ (.bool d.stopped) h3
theorem box_set0 {w : World} {g : Nat} {L0 : Value} {d : DiskD} (h : BoxAt w g L0 d) (L : Value) : BoxAt (w.setCell ⟨g, 0, none⟩ L) g L d := heap_setCell_same w g 0 _ _ L h
theorem BoxAt.other {w : World} {g k i : Nat} {L u : Value} {d : DiskD} (h : BoxAt w g L d) (hk : g ≠ k) : BoxAt (w.setCell ⟨k, i, none⟩ u) g L d := by
  unfold BoxAt
  rw [heap_setCell_other w ⟨k, i, none⟩ g u hk]
  exact h
theorem infoDisk : (Try.prog.info? 29).map (·.size) = some 4 := by kernel_rfl

/-! ### find, Used -/
def FindLeft (l : List FileD) (n : List UInt8) (w : World) (e : Ending) (w' : World) : Prop :=
  ∃ k : Nat, e = .returned (.tuple #[.int .i64 k, .bool (findL l n).isSome]) ∧ (∀ f, findL l n = some f → l[k]? = some f) ∧ k ≤ l.length ∧ Below w.heap.size w w'
theorem find_drop {l : List FileD} {n : List UInt8} {i : Nat} {f : FileD} (h : l[i]? = some f) : findL (l.drop i) n = if f.name = n then some f else findL (l.drop (i + 1)) n := by
  obtain ⟨h1, e1⟩ := List.getElem?_eq_some_iff.1 h
  rw [List.drop_eq_getElem_cons h1, e1]
  unfold findL
  rw [List.find?_cons]
  by_cases e : f.name = n <;> simp [e]
set_option maxRecDepth 100000 in
set_option maxHeartbeats 2000000 in
theorem find_any (B : Nat) (v : Value) (d : DiskD) (n : List UInt8) (w : World) (hd : RDisk XB B w v d) (hB : B ≤ w.heap.size) (hl : d.L.length ≤ 1000000000) : Calls Try.prog 54 #[v, .string ⟨n.toArray⟩] w (FindLeft d.L n w) := by
  obtain ⟨L, rfl, hL⟩ := hd
  obtain ⟨p, cap, rfl, hlc, hcm⟩ := hL.shape
  unfold maxLen at hcm
  obtain ⟨RES, hRES⟩ : ∃ RES, findL d.L n = RES := ⟨_, rfl⟩
  have H0 : Hid (findL (d.L.drop 0) n = RES) := Lib.hid hRES
  have HF := Lib.hid (show ∀ k : Nat, (∀ f, RES = some f → d.L[k]? = some f) → k ≤ d.L.length → ∀ w', Below w.heap.size w w' → FindLeft d.L n w (.returned (.tuple #[.int .i64 k, .bool RES.isSome])) w' from fun k h1 h2 w' h3 => ⟨k, by rw [hRES], by rw [hRES]; exact h1, h2, h3⟩)
  have hbx := box_new w (.slice p d.L.length cap) d
  have hba : Below w.heap.size w (w.alloc (.cells #[.slice p d.L.length cap, .int .i64 d.quota, .int .i64 d.armed, .bool d.stopped] 29)) := (Below.refl _ _).alloc (Nat.le_refl _) _
  have HLF := Lib.hid (hL.below (hba.mono hB))
  have HBX := Lib.hid hbx
  have HBA := Lib.hid hba
  have hs1 : (w.alloc (.cells #[.slice p d.L.length cap, .int .i64 d.quota, .int .i64 d.armed, .bool d.stopped] 29)).heap.size = w.heap.size + 1 := by simp
  clear hL hRES hbx hba
  unfold diskV
  go_enter Try.func54, Try.ntmps54
  go_wp2_with fail
  go_loopw [6] (fun iv wr => ∃ i : Nat, i ≤ d.L.length ∧ iv = .int .i64 i ∧ Hid (findL (d.L.drop i) n = RES) ∧ Hid (Below (w.heap.size + 1) (w.alloc (.cells #[.slice p d.L.length cap, .int .i64 d.quota, .int .i64 d.armed, .bool d.stopped] 29)) wr)) (fun iv _ => d.L.length - (intOf iv).toNat)
  case atStart => exact ⟨0, by omega, rfl, H0, Lib.hid (Below.refl _ _)⟩
  case round =>
    obtain ⟨i, hi, rfl, HI, HB⟩ := hrel
    clear H0
    have hbx := HBX.out.below HB.out (Nat.lt_succ_self _)
    have c0 := hbx.files
    have hww : Below w.heap.size w wr := HBA.out.trans (HB.out.mono (Nat.le_succ _))
    have HWW := Lib.hid hww
    clear hbx hww
    by_cases hlt : i < d.L.length
    · obtain ⟨f, hf⟩ : ∃ f, d.L[i]? = some f := ⟨d.L[i], List.getElem?_eq_getElem hlt⟩
      obtain ⟨blk, off, vb, rfl, hblk, _, x0, _, _⟩ := (HLF.out.below (HB.out.mono (by omega))).at_ hf
      unfold strV at x0
      have hn := HI.out
      rw [find_drop hf] at hn
      have q1 : decide ((i : Int) < (d.L.length : Int)) = true := by rw [decide_eq_true_eq]; omega
      have q2 : decide (i < d.L.length) = true := by rw [decide_eq_true_eq]; omega
      have i1 : (i : Int) < (d.L.length : Int) := by omega
      have hse := str_eq f.name n
      by_cases hfn : f.name = n
      · rw [if_pos hfn] at hn
        rw [decide_eq_true hfn] at hse
        have HE := Lib.hid (HF.out i (fun g hg => by rw [← hn] at hg; injection hg with hg; rw [← hg]; exact hf) (by omega) wr HWW.out)
        rw [← hn] at HE
        have HN := Lib.hid hn
        clear hn hfn hf HI hlt
        generalize (⟨f.name.toArray⟩ : ByteArray) = S1 at *
        generalize (⟨n.toArray⟩ : ByteArray) = S2 at *
        go_wp2_with fail
        go_ret2
        exact HE.out
      · rw [if_neg hfn] at hn
        rw [decide_eq_false hfn] at hse
        have HN := Lib.hid hn
        have HLT := Lib.hid hlt
        clear hn hfn hf HI hlt
        generalize (⟨f.name.toArray⟩ : ByteArray) = S1 at *
        generalize (⟨n.toArray⟩ : ByteArray) = S2 at *
        go_wp2_with fail
        have hlt := HLT.out
        go_roundw
        case rel => exact ⟨i + 1, by omega, by go_num, HN, HB⟩
        case measure => simp [intOf]; omega
    · obtain rfl : i = d.L.length := by omega
      have hn := HI.out
      rw [List.drop_length] at hn
      have q1 : decide ((d.L.length : Int) < (d.L.length : Int)) = false := by simp
      have HE := Lib.hid (HF.out 0 (fun g hg => by rw [← hn] at hg; cases hg) (by omega) wr HWW.out)
      rw [← hn] at HE
      clear hn HI hlt
      go_wp2_with fail
      go_ret2
      exact HE.out
theorem used_drop {l : List FileD} {i : Nat} {f : FileD} (h : l[i]? = some f) : usedL (l.drop i) = f.b.length + usedL (l.drop (i + 1)) := by
  obtain ⟨h1, e1⟩ := List.getElem?_eq_some_iff.1 h
  rw [List.drop_eq_getElem_cons h1, e1]
  rfl
set_option maxRecDepth 100000 in
set_option maxHeartbeats 2000000 in
theorem used_any (B : Nat) (v : Value) (d : DiskD) (w : World) (hd : RDisk XB B w v d) (hB : B ≤ w.heap.size) (hl : d.L.length ≤ 1000000000) (hu : usedL d.L ≤ 1000000000000000) : Calls Try.prog 37 #[v] w fun e w' => e = .returned (.int .i64 (usedL d.L)) ∧ Below w.heap.size w w' := by
  obtain ⟨L, rfl, hL⟩ := hd
  obtain ⟨p, cap, rfl, hlc, hcm⟩ := hL.shape
  unfold maxLen at hcm
  obtain ⟨RES, hRES⟩ : ∃ RES, usedL d.L = RES := ⟨_, rfl⟩
  have H0 : Hid (0 + usedL (d.L.drop 0) = RES) := Lib.hid (by rw [Nat.zero_add]; exact hRES)
  rw [hRES] at hu ⊢
  have hbx := box_new w (.slice p d.L.length cap) d
  have hba : Below w.heap.size w (w.alloc (.cells #[.slice p d.L.length cap, .int .i64 d.quota, .int .i64 d.armed, .bool d.stopped] 29)) := (Below.refl _ _).alloc (Nat.le_refl _) _
  have HLF := Lib.hid (hL.below (hba.mono hB))
  have HBX := Lib.hid hbx
  have HBA := Lib.hid hba
  clear hL hRES hbx hba
  unfold diskV
  go_enter Try.func37, Try.ntmps37
  go_wp2_with fail
  go_loopw [3, 4] (fun nv iv wr => ∃ i m : Nat, i ≤ d.L.length ∧ nv = .int .i64 m ∧ iv = .int .i64 i ∧ Hid (m + usedL (d.L.drop i) = RES) ∧ Hid (Below (w.heap.size + 1) (w.alloc (.cells #[.slice p d.L.length cap, .int .i64 d.quota, .int .i64 d.armed, .bool d.stopped] 29)) wr)) (fun _ iv _ => d.L.length - (intOf iv).toNat)
  case atStart => exact ⟨0, 0, by omega, rfl, rfl, H0, Lib.hid (Below.refl _ _)⟩
  case round =>
    obtain ⟨i, m, hi, rfl, rfl, HI, HB⟩ := hrel
    clear H0
    have hbx := HBX.out.below HB.out (Nat.lt_succ_self _)
    have c0 := hbx.files
    have hww : Below w.heap.size w wr := HBA.out.trans (HB.out.mono (Nat.le_succ _))
    have HWW := Lib.hid hww
    clear hbx hww
    by_cases hlt : i < d.L.length
    · obtain ⟨f, hf⟩ : ∃ f, d.L[i]? = some f := ⟨d.L[i], List.getElem?_eq_getElem hlt⟩
      obtain ⟨blk, off, vb, rfl, hblk, hvb, _, x1, _⟩ := (HLF.out.below (HB.out.mono (by omega))).at_ hf
      obtain ⟨pb, capb, rfl, _, _⟩ := hvb.shape
      have hn := HI.out
      rw [used_drop hf, ← Nat.add_assoc] at hn
      have q1 : decide ((i : Int) < (d.L.length : Int)) = true := by rw [decide_eq_true_eq]; omega
      have q2 : decide (i < d.L.length) = true := by rw [decide_eq_true_eq]; omega
      have i1 : (i : Int) < (d.L.length : Int) := by omega
      have HN := Lib.hid hn
      have HLT := Lib.hid hlt
      have hb1 : m + f.b.length ≤ 1000000000000000 := by omega
      clear hn hf HI hlt hvb
      go_wp2_with fail
      have hlt := HLT.out
      go_roundw
      case rel => exact ⟨i + 1, m + f.b.length, by omega, by go_num, by go_num, HN, HB⟩
      case measure => simp [intOf]; omega
    · obtain rfl : i = d.L.length := by omega
      have hn := HI.out
      rw [List.drop_length] at hn
      obtain rfl : m = RES := by simpa [usedL] using hn
      have q1 : decide ((d.L.length : Int) < (d.L.length : Int)) = false := by simp
      clear hn HI hlt
      go_wp2_with fail
      go_ret
      exact ⟨rfl, HWW.out⟩
end Go.Proofs.Ytljfpolcgegkpaa.DK
