/-
  DERIVED: THE SHELF's CONTRACTS AT THIS DUMP, IN PLAIN WORDS (tools/lay-plain.mjs out of 'TrySortSoft.lean', which tools/lay-shelf.mjs wrote): THE SAME DECLARATIONS UNDER THE SAME NAMES: 'import', 'namespace', 'open', 'def', 'theorem' AND NOTHING ELSE: no command of the shelf's: FOR A HAND-IN. Each laying: the table of numbers ('.._ren') and one theorem, a field a fact of the dump's own or the kernel's comparison; each contract: ONE APPLICATION. Terms are sorted: cmp.Compare of texts, the function that is handed over, slices.SortFunc at terms. No condition but a length below 2^62.
-/
import Derived.Shelf.SlSortCmp.WholeK
import Derived.Ground.SlsfProg
import Derived.Test.YtgacfihidpijeaaProg
import Derived.Laws.Cover1
import Derived.Test.YtgacfihidpijeaaZE9
import Derived.Test.YtgacfihidpijeaaZE5
import Derived.Test.YtgacfihidpijeaaZE2
namespace Go.Proofs
open Go.Shelf
def Try.sortTerm_ren : Go.Shelf.Ren := ⟨fun | 6 => 56 | 15 => 80 | 14 => 79 | 28 => 100 | 29 => 90 | 20 => 92 | 21 => 93 | 22 => 94 | 23 => 95 | 24 => 96 | 25 => 97 | 26 => 98 | 27 => 99 | 46 => 108 | 47 => 109 | 48 => 110 | 49 => 111 | 50 => 112 | 57 => 116 | n => n, fun | 22 => 56 | 24 => 62 | 25 => 100 | 3 => 3 | 39 => 115 | 0 => 0 | 53 => 135 | 55 => 77 | 4 => 4 | 46 => 128 | 45 => 127 | 50 => 132 | 5 => 5 | 9 => 9 | 66 => 139 | 70 => 143 | 76 => 149 | 77 => 121 | n => n, fun | n => n⟩
theorem Try.sortTerm : Go.Proofs.SlLaysF0.n6 Try.prog Try.sortTerm_ren := {
  mixed := by kernel_rfl
  f6 := ⟨Try.f56.name, by decide, Try.func56.trans (congrArg some (by kernel_rfl))⟩
  f14 := ⟨Try.f79.name, by decide, Try.func79.trans (congrArg some (by kernel_rfl))⟩
  f15 := Try.func80.trans (congrArg some (by kernel_rfl))
  f20 := ⟨Try.f92.name, by decide, Try.func92.trans (congrArg some (by kernel_rfl))⟩
  f21 := ⟨Try.f93.name, by decide, Try.func93.trans (congrArg some (by kernel_rfl))⟩
  f22 := ⟨Try.f94.name, by decide, Try.func94.trans (congrArg some (by kernel_rfl))⟩
  f23 := ⟨Try.f95.name, by decide, Try.func95.trans (congrArg some (by kernel_rfl))⟩
  f24 := ⟨Try.f96.name, by decide, Try.func96.trans (congrArg some (by kernel_rfl))⟩
  f25 := ⟨Try.f97.name, by decide, Try.func97.trans (congrArg some (by kernel_rfl))⟩
  f26 := ⟨Try.f98.name, by decide, Try.func98.trans (congrArg some (by kernel_rfl))⟩
  f27 := ⟨Try.f99.name, by decide, Try.func99.trans (congrArg some (by kernel_rfl))⟩
  f28 := Try.func100.trans (congrArg some (by kernel_rfl))
  f29 := Try.func90.trans (congrArg some (by kernel_rfl))
  f46 := ⟨Try.f108.name, by decide, Try.func108.trans (congrArg some (by kernel_rfl))⟩
  f47 := Try.func109.trans (congrArg some (by kernel_rfl))
  f48 := Try.func110.trans (congrArg some (by kernel_rfl))
  f49 := ⟨Try.f111.name, by decide, Try.func111.trans (congrArg some (by kernel_rfl))⟩
  f50 := ⟨Try.f112.name, by decide, Try.func112.trans (congrArg some (by kernel_rfl))⟩
  f57 := ⟨Try.f116.name, by decide, Try.func116.trans (congrArg some (by kernel_rfl))⟩
  t0 := Try.underlying0
  a0 := Try.isAgg0
  z0 := Try.sizeOf0
  v0 := Try.zeroValue0
  t3 := Try.underlying3
  a3 := Try.isAgg3
  z3 := Try.sizeOf3
  v3 := Try.zeroValue3
  t4 := Try.underlying4
  a4 := Try.isAgg4
  z4 := Try.sizeOf4
  v4 := Try.zeroValue4
  t5 := Try.underlying5
  a5 := Try.isAgg5
  z5 := Try.sizeOf5
  v5 := Try.zeroValue5
  t9 := Try.underlying9
  a9 := Try.isAgg9
  z9 := Try.sizeOf9
  v9 := Try.zeroValue9
  t22 := Try.underlying56
  a22 := Try.isAgg56
  z22 := Try.sizeOf56
  v22 := Try.zeroValue56
  t25 := Try.underlying100
  a25 := Try.isAgg100
  z25 := Try.sizeOf100
  v25 := Try.zeroValue100
  t39 := Try.underlying115
  a39 := Try.isAgg115
  z39 := Try.sizeOf115
  v39 := Try.zeroValue115
  t45 := Try.underlying127
  a45 := Try.isAgg127
  z45 := Try.sizeOf127
  v45 := Try.zeroValue127
  t46 := Try.underlying128
  a46 := Try.isAgg128
  z46 := Try.sizeOf128
  v46 := Try.zeroValue128
  t50 := Try.underlying132
  a50 := Try.isAgg132
  z50 := Try.sizeOf132
  v50 := Try.zeroValue132
  t53 := Try.underlying135
  a53 := Try.isAgg135
  z53 := Try.sizeOf135
  v53 := Try.zeroValue135
  t55 := Try.underlying77
  a55 := Try.isAgg77
  z55 := Try.sizeOf77
  v55 := Try.zeroValue77
  t66 := Try.underlying139
  a66 := Try.isAgg139
  z66 := Try.sizeOf139
  v66 := Try.zeroValue139
  t70 := Try.underlying143
  a70 := Try.isAgg143
  z70 := Try.sizeOf143
  v70 := Try.zeroValue143
  t76 := Try.underlying149
  a76 := Try.isAgg149
  z76 := Try.sizeOf149
  v76 := Try.zeroValue149
  t77 := Try.underlying121
  a77 := Try.isAgg121
  z77 := Try.sizeOf121
  v77 := Try.zeroValue121 }
end Go.Proofs
set_option linter.unusedVariables false
namespace Go.Proofs.Ytgacfihidpijeaa.EV
open Go Go.Shelf Go.RowKit Go.Proofs.Ytgacfihidpijeaa.MM Go.Proofs.Ytgacfihidpijeaa.EM Go.Sort

set_option maxRecDepth 100000 in
theorem nan_any (s : ByteArray) (w : World) : Calls Try.prog 81 #[.string s] w fun e w' => e = .returned (.bool false) ∧ w = w' := by
  have h : (s.toList != s.toList) = false := by simp
  go_enter Try.func81, Try.ntmps81
  go_wp2_with fail
  go_ret
  exact ⟨rfl, rfl⟩
def cmpL (a b : List UInt8) : Int := if lessL a b = true then -1 else if lessL b a = true then 1 else 0
theorem cmpL_cases (a b : List UInt8) : (lessL a b = true ∧ cmpL a b = -1) ∨ (lessL a b = false ∧ a = b ∧ cmpL a b = 0) ∨ (lessL a b = false ∧ a ≠ b ∧ cmpL a b = 1) := by
  unfold cmpL
  by_cases h : lessL a b = true
  · exact .inl ⟨h, by rw [if_pos h]⟩
  · have h0 : lessL a b = false := by simpa using h
    by_cases e : a = b
    · subst e
      exact .inr (.inl ⟨h0, rfl, by rw [if_neg h, if_neg h]⟩)
    · exact .inr (.inr ⟨h0, e, by rw [if_neg h, if_pos (lessL_total h0 e)]⟩)
set_option maxRecDepth 100000 in
theorem cmp_any (a b : List UInt8) (w : World) : Calls Try.prog 58 #[.string ⟨a.toArray⟩, .string ⟨b.toArray⟩] w fun e w' => e = .returned (.int .i64 (cmpL a b)) ∧ w = w' := by
  have HN1 := Lib.hid (nan_any ⟨a.toArray⟩ w)
  have HN2 := Lib.hid (nan_any ⟨b.toArray⟩ w)
  have s1 := same_list a b
  rcases cmpL_cases a b with ⟨h1, h2⟩ | ⟨h1, h3, h2⟩ | ⟨h1, h3, h2⟩
  all_goals
    rw [h2]
    have hb := less_bytes a b
    rw [h1] at hb
  · clear s1 h2 h1
    go_enter Try.func58, Try.ntmps58
    go_wp2_with fail
    refine HN1.out.mono ?_
    rintro e w2 ⟨rfl, rfl⟩
    go_wp2_with fail
    refine HN2.out.mono ?_
    rintro e w2 ⟨rfl, rfl⟩
    go_wp2_with fail
    go_ret
    exact ⟨rfl, rfl⟩
  · rw [decide_eq_true h3] at s1
    have s3 : (a == b) = true := by rw [beq_iff_eq]; exact h3
    clear h3 h2 h1
    go_enter Try.func58, Try.ntmps58
    go_wp2_with fail
    refine HN1.out.mono ?_
    rintro e w2 ⟨rfl, rfl⟩
    go_wp2_with fail
    refine HN2.out.mono ?_
    rintro e w2 ⟨rfl, rfl⟩
    go_wp2_with fail
    go_ret
    exact ⟨rfl, rfl⟩
  · rw [decide_eq_false h3] at s1
    have s3 : (a == b) = false := by rw [beq_eq_false_iff_ne]; exact h3
    clear h3 h2 h1
    go_enter Try.func58, Try.ntmps58
    go_wp2_with fail
    refine HN1.out.mono ?_
    rintro e w2 ⟨rfl, rfl⟩
    go_wp2_with fail
    refine HN2.out.mono ?_
    rintro e w2 ⟨rfl, rfl⟩
    go_wp2_with fail
    go_ret
    exact ⟨rfl, rfl⟩

/-! ### the sort at terms -/
/-- A value of one cell. -/
abbrev Cell1 := {v : Value // v.oneCell' = true}
abbrev TCell := List UInt8 × Cell1
instance instTCell : Inhabited TCell := ⟨([], ⟨.slice none 0 0, rfl⟩)⟩
def encT (x : TCell) : List Value := [.string ⟨x.1.toArray⟩, x.2.1]
def cfT (x y : TCell) : Int := cmpL x.1 y.1
theorem ltT (x y : TCell) : ltOf cfT x y = lessL x.1 y.1 := by
  unfold ltOf cfT
  rcases cmpL_cases x.1 y.1 with ⟨h1, h2⟩ | ⟨h1, h3, h2⟩ | ⟨h1, h3, h2⟩ <;> rw [h1, h2] <;> rfl
theorem swoT : SWO (ltOf cfT) where
  irrefl x := by rw [ltT]; exact lessL_irr _
  trans x y z h1 h2 := by rw [ltT] at *; exact lessL_trans h1 h2
  ntrans x y z h1 h2 := by
    rw [ltT] at *
    cases h : lessL x.1 z.1 with
    | false => rfl
    | true =>
      by_cases e : x.1 = y.1
      · rw [e] at h; rw [h] at h2; cases h2
      · have h3 := lessL_trans (lessL_total h1 e) h
        rw [h3] at h2; cases h2
set_option maxRecDepth 100000 in
set_option maxHeartbeats 1000000 in
/-- The function that is handed over: both terms are boxed. -/
theorem clo_any (a b : List UInt8) (u v : Value) (hu : u.oneCell' = true) (hv : v.oneCell' = true) (W : World) : Calls Try.prog 57 #[.agg #[.string ⟨a.toArray⟩, u], .agg #[.string ⟨b.toArray⟩, v]] W fun e w' => e = .returned (.int .i64 (cmpL a b)) ∧ ∃ q os', w' = grow (W.drewN q) os' := by
  have HC := Lib.hid (fun W' => cmp_any a b W')
  generalize cmpL a b = r at *
  go_enter Try.func57, Try.ntmps57
  go_wp2_with fail
  refine (HC.out _).mono ?_
  rintro e w2 ⟨rfl, rfl⟩
  go_wp2_with fail
  go_ret
  exact ⟨rfl, 0, _, by rw [alloc_eq_grow, alloc_eq_grow, grow_grow]; rfl⟩

/-- Pairs of a text and a value, as a row of terms' cells. -/
def CellsT (w : World) (g : Nat) (d : List TCell) : Prop := ∀ i (h : i < d.length), w.cell? ⟨g, i * 2, none⟩ = some (.string ⟨d[i].1.toArray⟩) ∧ w.cell? ⟨g, i * 2 + 1, none⟩ = some d[i].2.1
theorem holds_of {w : World} {g : Nat} {d : List TCell} (h : CellsT w g d) (hf : ∀ j, w.frozen? ⟨g, j, none⟩ = false) : HoldsK encT 2 w g 0 d.toArray := by
  intro j hj
  rw [size_flatK] at hj
  have hj2 : j < d.length * 2 := by simpa using hj
  refine ⟨?_, hf _⟩
  rw [get_flatK _ _ _ _ hj, Nat.zero_add]
  have hi : j / 2 < d.length := by omega
  have e : d.toArray[j / 2]! = d[j / 2] := by rw [getElem!_pos d.toArray (j / 2) (by simpa using hi)]; simp
  rw [e]
  rcases (by omega : j % 2 = 0 ∨ j % 2 = 1) with h2 | h2
  · rw [h2]
    have hjj : j = j / 2 * 2 := by omega
    rw [show (⟨g, j, none⟩ : Addr) = ⟨g, j / 2 * 2, none⟩ by rw [← hjj]]
    exact (h _ hi).1
  · rw [h2]
    have hjj : j = j / 2 * 2 + 1 := by omega
    rw [show (⟨g, j, none⟩ : Addr) = ⟨g, j / 2 * 2 + 1, none⟩ by rw [← hjj]]
    exact (h _ hi).2
theorem cells_of_holds {w : World} {g : Nat} {d : Array TCell} (h : HoldsK encT 2 w g 0 d) : CellsT w g d.toList := fun i hi => by
  have hi2 : i < d.size := by simpa using hi
  have h0 := (h.cell hi2 (c := 0) (by omega)).1
  have h1 := (h.cell hi2 (c := 1) (by omega)).1
  rw [Nat.zero_add, Nat.add_zero] at h0
  rw [Nat.zero_add] at h1
  rw [getElem!_pos d i hi2] at h0 h1
  exact ⟨by simpa [encT] using h0, by simpa [encT] using h1⟩
/-- Sorting terms: the row's cells hold a permutation that rises; nothing else turns. -/
theorem sort_any (g cap : Nat) (d : List TCell) (w : World) (hc : CellsT w g d) (hf : ∀ j, w.frozen? ⟨g, j, none⟩ = false) (hg : g < w.heap.size) (hsz : d.length < 4611686018427387904) :
    Calls Try.prog 56 #[.slice (some ⟨g, 0, none⟩) d.length cap, .func (.func 57) #[] #[]] w fun e w' => e = .returned (.tuple #[]) ∧ ∃ d' : List TCell, d'.Perm d ∧ d'.Pairwise (fun x y => lessL y.1 x.1 = false) ∧ CellsT w' g d' ∧ Kep (fun k => k ≠ g) w w' := by
  have eg : ∀ args w, (callFunc 57 args).run Try.prog w = .ok (.enter 57 args) w := enters_of Try.func57 (by kernel_rfl) rfl
  have hcmp : CmpLays Try.prog 57 #[] encT 2 cfT g 0 d.toArray.size w := fun _ _ _ _ x y => clo_any x.1 y.1 x.2.1 y.2.1 x.2.2 y.2.2 _
  have hH := holds_of hc hf
  have := AnyQ.slices_SortFunc Try.sortTerm 2 Try.isAgg62 Try.sizeOf62 encT (fun _ => rfl) (fun x v hv => by
    simp only [encT, List.mem_cons, List.not_mem_nil, or_false] at hv
    rcases hv with rfl | rfl
    · rfl
    · exact x.2.2) cfT swoT 57 #[] g 0 cap d.toArray w eg hcmp hH hg (by simpa using hsz)
  rw [List.size_toArray] at this
  refine this.mono ?_
  rintro e w' ⟨rfl, d', n, os, ⟨hs, _, hp⟩, hsort, rfl⟩
  have hs2 : d'.size = d.length := by simpa using hs
  have hp2 : d'.toList.Perm d := by
    have e1 : d'.extract 0 d.length = d' := by rw [← hs2]; exact Array.extract_size
    have e2 : d.toArray.extract 0 d.length = d.toArray := by rw [show d.length = d.toArray.size by simp]; exact Array.extract_size
    rw [e1, e2] at hp
    simpa using hp
  refine ⟨rfl, d'.toList, hp2, ?_, ?_, ?_⟩
  · rw [List.pairwise_iff_getElem]
    intro i j hi hj hij
    have hi2 : i < d'.size := by simpa using hi
    have hj2 : j < d'.size := by simpa using hj
    have := hsort i j (Nat.zero_le _) hij (by omega)
    rw [ltT, getElem!_pos d' i hi2, getElem!_pos d' j hj2] at this
    simpa using this
  · have h1 := holdsK_putRowK encT 2 (Sort.ahead w n) g 0 d.toArray d' (holdsK_ahead encT 2 w n g 0 _ hH) (by rw [hs2]; simp)
    exact cells_of_holds (holdsK_grow encT 2 _ os g 0 d' (by show g < (putRow id _ g 0 _).heap.size; rw [size_putRow]; exact hg) h1)
  · refine ⟨rfl, rfl, rfl, ?_, fun k hk hne => ?_⟩
    · show w.heap.size ≤ (grow (putRow id _ g 0 _) os).heap.size
      rw [size_grow, size_putRow]
      exact Nat.le_add_right _ _
    · have e1 : (grow (putRowK encT 2 (Sort.ahead w n) g 0 d') os).heap[k]? = (putRowK encT 2 (Sort.ahead w n) g 0 d').heap[k]? := by
        show ((putRowK encT 2 (Sort.ahead w n) g 0 d').heap ++ os)[k]? = _
        rw [Array.getElem?_append_left (by show k < (putRow id _ g 0 _).heap.size; rw [size_putRow]; exact hk)]
      refine e1.trans ?_
      show ((Sort.ahead w n).heap.modify g _)[k]? = _
      rw [Array.getElem?_modify, if_neg (fun e => hne e.symm)]
      rfl
end Go.Proofs.Ytgacfihidpijeaa.EV
