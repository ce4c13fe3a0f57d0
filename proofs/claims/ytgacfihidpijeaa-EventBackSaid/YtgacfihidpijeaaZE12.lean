/-
  What has come of a map of places, as cells of terms; sorted, it is the row of terms. No condition. Names: the code's IsName, which looks at runes, and the reference's, which looks at bytes. Condition: texts of at most a million bytes. Which events may be, how great they are: the code's Name, Check, Size, and the reference's. No condition.
-/
import Derived.Test.YtgacfihidpijeaaZE11
import Derived.Test.YtgacfihidpijeaaZE4
import Derived.Test.YtgacfihidpijeaaZE1
import Derived.Test.YtgacfihidpijeaaZE7
import Derived.Deep.QuietTactic
import Derived.BigQuiet
set_option linter.unusedVariables false
namespace Go.Proofs.Ytgacfihidpijeaa.EV
open Go Go.RowKit Go.Proofs.Ytgacfihidpijeaa.MM Go.Proofs.Ytgacfihidpijeaa.EM Go.Proofs.Ytgacfihidpijeaa.SM

def trmC : Codec Trm := cPair cStr (cRow cInt)
theorem trm_on {S : Nat → Prop} {w : World} {cs : List Value} {t : Trm} : trmC.on S w cs t ↔ ∃ v, cs = [.string ⟨t.1.toArray⟩, v] ∧ ROn cInt S w v t.2 := by
  constructor
  · rintro ⟨x, y, rfl, hx, v, hy, hr⟩
    have hx : x = [.string ⟨t.1.toArray⟩] := hx
    exact ⟨v, by rw [hx, hy]; rfl, hr⟩
  · rintro ⟨v, rfl, hr⟩
    exact ⟨[_], [v], rfl, rfl, v, rfl, hr⟩
/-- Two cells as they are. -/
def tcC : Codec TCell where
  size := 2
  on := fun _ _ vs x => vs = encT x
  pos := by decide
  len := fun h => by rw [h]; rfl
  keep := fun h _ _ => h
  one := fun {_ _ _ x} h u hu => by
    rw [h] at hu
    simp only [encT, List.mem_cons, List.not_mem_nil, or_false] at hu
    rcases hu with rfl | rfl
    · rfl
    · exact x.2.2
theorem termE : Elem tcC Try.prog 56 62 40 := ⟨Try.underlying56, by
  have h : (Try.prog.info? 62).map (fun i => (i.zero, i.size, i.bytes)) = some (some (.agg #[.string ⟨#[]⟩, .slice none 0 0]), 2, 40) := by kernel_rfl
  obtain ⟨i, h1, h2, h3, h4⟩ := info_parts h
  exact ⟨i, _, h1, h2, h3, h4, rfl⟩⟩

theorem nodup_len {α : Type} [DecidableEq α] : ∀ {a b : List α}, a.Nodup → (∀ x ∈ a, x ∈ b) → a.length ≤ b.length
  | [], b, _, _ => Nat.zero_le _
  | x :: a, b, h, hs => by
    obtain ⟨hx, ha⟩ := List.nodup_cons.1 h
    have hxb := hs x (by simp)
    have := nodup_len (a := a) (b := b.erase x) ha fun y hy => (List.mem_erase_of_ne (fun e : y = x => hx (by rw [← e]; exact hy))).2 (hs y (by simp [hy]))
    rw [List.length_erase_of_mem hxb] at this
    have hl : 0 < b.length := List.length_pos_of_mem hxb
    rw [List.length_cons]
    omega
theorem posOf_mem {α : Type} : ∀ {T : List (EM.Tr α)} {s : List UInt8}, posOf T s ≠ [] → s ∈ T.map (·.1)
  | [], s, h => absurd rfl h
  | t :: r, s, h => by
    rw [posOf] at h
    by_cases e : t.1 = s
    · simp [e]
    · rw [if_neg e] at h
      have := posOf_mem h
      rw [List.map_cons]
      exact List.mem_cons_of_mem _ this
/-- These have come of the map. -/
structure Coll (F : List UInt8 → Option Value) (left : List UInt8 → Bool) (d : List TCell) : Prop where
  val : ∀ x ∈ d, F x.1 = some x.2.1 ∧ left x.1 = false
  nodup : (d.map (·.1)).Nodup
  all : ∀ s, (F s).isSome = true → left s = true ∨ s ∈ d.map (·.1)
theorem Coll.start (F : List UInt8 → Option Value) : Coll F (fun n => (F n).isSome) [] := ⟨fun _ h => (by cases h), List.nodup_nil, fun s h => .inl h⟩
theorem Coll.next {F : List UInt8 → Option Value} {left : List UInt8 → Bool} {d : List TCell} (h : Coll F left d) {n : List UInt8} {v : Value} (hv : v.oneCell' = true) (hl : left n = true) (hF : F n = some v) :
    Coll F (fun k => left k && !decide (k = n)) (d ++ [(n, ⟨v, hv⟩)]) := by
  refine ⟨fun x hx => ?_, ?_, fun s hs => ?_⟩
  · rcases List.mem_append.1 hx with hx | hx
    · exact ⟨(h.val x hx).1, by simp [(h.val x hx).2]⟩
    · obtain rfl := List.mem_singleton.1 hx
      exact ⟨hF, by simp⟩
  · rw [List.map_append, List.nodup_append]
    refine ⟨h.nodup, by simp, fun a ha b hb e => ?_⟩
    simp only [List.map_cons, List.map_nil, List.mem_singleton] at hb
    subst hb
    subst e
    obtain ⟨x, hx, hxn⟩ := List.mem_map.1 ha
    have := (h.val x hx).2
    rw [hxn, hl] at this
    cases this
  · by_cases e : s = n
    · exact .inr (by simp [e])
    · rcases h.all s hs with h1 | h1
      · exact .inl (by simp [h1, e])
      · exact .inr (by rw [List.map_append]; exact List.mem_append_left _ h1)
theorem posOf_map (f : List UInt8 → List Int) : ∀ (d : List TCell) (s : List UInt8), posOf (d.map fun x => ((x.1, f x.1) : Trm)) s = if s ∈ d.map (·.1) then f s else []
  | [], s => by simp [posOf]
  | x :: d, s => by
    rw [List.map_cons, posOf, posOf_map f d s]
    by_cases e : x.1 = s
    · subst e; simp
    · rw [if_neg e]
      have : (s ∈ (x :: d).map (·.1)) ↔ s ∈ d.map (·.1) := by
        rw [List.map_cons, List.mem_cons]
        exact ⟨fun h => h.resolve_left fun h2 => e h2.symm, .inr⟩
      by_cases hm : s ∈ d.map (·.1)
      · rw [if_pos hm, if_pos (this.2 hm)]
      · rw [if_neg hm, if_neg fun h => hm (this.1 h)]
/-- Sorted, they are the terms. -/
theorem coll_sorted {B mb : Nat} {T : List Trm} {F : List UInt8 → Option Value} {w : World} (hP : Plc B mb T F w) {left : List UInt8 → Bool} {d d' : List TCell} (h : Coll F left d) (hl : ∀ n, left n = false) (hp : d'.Perm d) (hs : d'.Pairwise fun x y => lessL y.1 x.1 = false) :
    (d'.map fun x => ((x.1, posOf T x.1) : Trm)) = T := by
  have hnd : (d'.map (·.1)).Nodup := (hp.map (·.1)).nodup_iff.2 h.nodup
  refine rising_unique ?_ hP.rise ?_ hP.ne fun s => ?_
  · unfold Rising
    rw [List.pairwise_map]
    have h2 : d'.Pairwise fun x y => x.1 ≠ y.1 := by
      have := hnd
      unfold List.Nodup at this
      rwa [List.pairwise_map] at this
    exact (hs.and h2).imp fun ⟨h1, h3⟩ => lessL_total h1 (fun e => h3 e.symm)
  · intro t ht
    obtain ⟨x, hx, rfl⟩ := List.mem_map.1 ht
    exact (hP.own x.1 _ (h.val x (hp.mem_iff.1 hx)).1).2.1
  · rw [posOf_map]
    by_cases e : s ∈ d'.map (·.1)
    · rw [if_pos e]
    · rw [if_neg e]
      refine (hP.none s ?_).symm
      cases hf : F s with
      | none => rfl
      | some v =>
        rcases h.all s (by rw [hf]; rfl) with h1 | h1
        · rw [hl] at h1; cases h1
        · exact absurd ((hp.map (·.1)).mem_iff.2 h1) e
theorem coll_len {B mb : Nat} {T : List Trm} {F : List UInt8 → Option Value} {w : World} (hP : Plc B mb T F w) {left : List UInt8 → Bool} {d : List TCell} (h : Coll F left d) : d.length ≤ T.length := by
  have := nodup_len (b := T.map (·.1)) h.nodup fun s hs => by
    obtain ⟨x, hx, rfl⟩ := List.mem_map.1 hs
    exact posOf_mem (hP.own x.1 _ (h.val x hx).1).2.1
  simpa using this

/-! ### as a row -/
theorem flat_cells {raw : List (List Value)} {n : Nat} (hn : 0 < n) (hl : ∀ r ∈ raw, r.length = n) {w : World} {b off : Nat} (h : ∀ i (hi : i < raw.length) j u, raw[i][j]? = some u → w.cell? ⟨b, off + i * n + j, none⟩ = some u) :
    ∀ j u, raw.flatten[j]? = some u → w.cell? ⟨b, off + j, none⟩ = some u := fun j u hj => by
  have hjl := (List.getElem?_eq_some_iff.1 hj).1
  rw [flat_len hl] at hjl
  have hi : j / n < raw.length := (Nat.div_lt_iff_lt_mul hn).2 hjl
  have hmod := Nat.mod_lt j hn
  have hdm := Nat.div_add_mod j n
  have hli := hl raw[j / n] (List.getElem_mem hi)
  obtain ⟨u', hu'⟩ : ∃ u, raw[j / n][j % n]? = some u := ⟨_, List.getElem?_eq_getElem (l := raw[j / n]) (i := j % n) (by omega)⟩
  have hf := flat_get hl (j / n) hi (j % n) u' hu'
  have e : j / n * n + j % n = j := by rw [Nat.mul_comm]; exact hdm
  rw [e, hj] at hf
  obtain rfl := Option.some.inj hf
  have := h _ hi _ _ hu'
  rw [Nat.add_assoc, e] at this
  exact this
/-- The sorted cells, as a row of terms. -/
theorem coll_row {B mb : Nat} {T : List Trm} {F : List UInt8 → Option Value} {w : World} (hP : Plc B mb T F w) {left : List UInt8 → Bool} {d d' : List TCell} (h : Coll F left d) (hl : ∀ n, left n = false) (hp : d'.Perm d) (hs : d'.Pairwise fun x y => lessL y.1 x.1 = false)
    {g cap : Nat} (hc : CellsT w g d') (hg : g < w.heap.size) (hcap : d.length ≤ cap) (hcm : cap ≤ maxLen) : RAny trmC w (.slice (some ⟨g, 0, none⟩) d.length cap) T := by
  have hT := coll_sorted hP h hl hp hs
  have hlen : T.length = d.length := by rw [← hT, List.length_map]; exact hp.length_eq
  refine ⟨some ⟨g, 0, none⟩, cap, d'.map encT, by rw [hlen], by rw [hlen]; exact hcap, hcm, (fun e => by cases e), ⟨by rw [List.length_map, ← hT, List.length_map], fun i hi hi' => ?_⟩, .inr ⟨g, 0, rfl, hg, trivial, ?_⟩⟩
  · have hi2 : i < d'.length := by simpa using hi
    have e : T[i] = (d'[i].1, posOf T d'[i].1) := by
      have : T[i]? = some (d'[i].1, posOf T d'[i].1) := by
        conv => lhs; rw [← hT]
        simp [hi2]
      exact (List.getElem?_eq_some_iff.1 this).2
    rw [List.getElem_map, e, trm_on]
    exact ⟨d'[i].2.1, rfl, (hP.own _ _ (h.val d'[i] (hp.mem_iff.1 (List.getElem_mem hi2))).1).1.any⟩
  · refine flat_cells (n := 2) (by omega) (fun r hr => by obtain ⟨x, _, rfl⟩ := List.mem_map.1 hr; rfl) fun i hi j u hj => ?_
    have hi2 : i < d'.length := by simpa using hi
    rw [List.getElem_map] at hj
    rw [Nat.zero_add]
    match j, hj with
    | 0, hj =>
      obtain rfl := Option.some.inj hj
      exact (hc i hi2).1
    | 1, hj =>
      obtain rfl := Option.some.inj hj
      exact (hc i hi2).2

/-! ### cells of terms of the call's own -/
theorem ownT_kep {S : Nat → Prop} {B : Nat} {w w' : World} {v : Value} {d : List TCell} (h : OwnC tcC 62 B w v d) (hk : Kep S w w') (hS : ∀ g, v.ownBlock = some g → S g) : OwnC tcC 62 B w' v d := by
  obtain ⟨raw, h1, h2⟩ := h
  exact ⟨raw, own_row_kep h1 hk hS, h2.1, fun i hi hi' => h2.2 i hi hi'⟩
theorem ownT_start {B : Nat} {w : World} {v : Value} (h : w.ownsRow B 62 2 v 0 []) : OwnC tcC 62 B w v [] := ⟨[], h, Mean.nil_ _ _⟩
theorem ownT_some {B : Nat} {w : World} {v : Value} {d : List TCell} (h : OwnC tcC 62 B w v d) (hd : d ≠ []) : ∃ g cap, v = .slice (some ⟨g, 0, none⟩) d.length cap := by
  obtain ⟨raw, h1, h2⟩ := h
  rcases h1.2 with ⟨_, h0⟩ | ⟨g, cap, cur, hv, _⟩
  · exact absurd (List.eq_nil_of_length_eq_zero h0) hd
  · exact ⟨g, cap, hv⟩
def TermsOf (w : World) (g : Nat) : Prop := ∃ cur fr, w.heap[g]? = some (.cells cur 62 fr)
theorem ownT_cells {B g cap : Nat} {w : World} {d : List TCell} (h : OwnC tcC 62 B w (.slice (some ⟨g, 0, none⟩) d.length cap) d) : CellsT w g d ∧ (∀ j, w.frozen? ⟨g, j, none⟩ = false) ∧ g < w.heap.size ∧ d.length ≤ cap ∧ cap ≤ maxLen ∧ B ≤ g ∧ TermsOf w g := by
  have hlt := OwnC.lt h g rfl
  have hfr : ∀ j, w.frozen? ⟨g, j, none⟩ = false := by
    obtain ⟨raw, h1, _⟩ := h
    exact fun j => World.ownsRow.frozenAt h1 j
  have htm : TermsOf w g := by
    obtain ⟨raw, h1, _⟩ := h
    exact (own_cells h1 rfl).2
  obtain ⟨p, cap', hv, hc1, hc2, _⟩ := h.shape
  simp only [Value.slice.injEq] at hv
  obtain ⟨_, _, rfl⟩ := hv
  refine ⟨fun i hi => ?_, hfr, hlt.2, hc1, hc2, hlt.1, htm⟩
  obtain ⟨vs, hon, hcell, _⟩ := OwnC.elem h hi
  have hon : vs = encT d[i] := hon
  subst hon
  exact ⟨hcell 0 _ rfl, hcell 1 _ rfl⟩
theorem terms_ints {w : World} {g : Nat} (h : TermsOf w g) (hg : IntsOf w g) : False := by
  obtain ⟨c1, f1, h1⟩ := h
  obtain ⟨c2, f2, h2⟩ := hg
  rw [h1] at h2
  simp only [Option.some.injEq, Obj.cells.injEq] at h2
  exact absurd h2.2.1 (by decide)
theorem terms_map {w : World} {g m : Nat} {F : List UInt8 → Option Value} (h : TermsOf w g) (hm : MapV w g m F) : False := by
  obtain ⟨c1, f1, h1⟩ := h
  obtain ⟨es, c, h2⟩ := hm.obj
  rw [h1] at h2
  cases h2
theorem terms_walk {w : World} {g mb m cnt : Nat} {F : List UInt8 → Option Value} {left : List UInt8 → Bool} (h : TermsOf w g) (hr : RangeV w mb g m F left cnt) : False := by
  obtain ⟨c1, f1, h1⟩ := h
  obtain ⟨D, lf, hr, _⟩ := hr
  obtain ⟨es, clock, since, seen, c0, g1, g2, g3, g4, g5, rest⟩ := hr
  rw [h1] at g5
  cases g5
theorem OwnZ.shape {w : World} {v : Value} {zs : List Int} (h : OwnZ w v zs) : ∃ p c, v = .slice p zs.length c := by
  obtain ⟨p, c, hv, _⟩ := (OwnS.any h).shape
  exact ⟨p, c, hv⟩
end Go.Proofs.Ytgacfihidpijeaa.EV
set_option linter.unusedVariables false
namespace Go.Proofs.Ytgacfihidpijeaa.TK
open Go.RowKit Go.Proofs.Ytgacfihidpijeaa.MM

/-! ### runes of names are bytes of names -/
theorem nameRune_byte (c : UInt8) : nameRune (c.toNat : Int) = nameByte c := by unfold nameRune nameByte; congr 1; simp; omega
theorem decode_first (l : List UInt8) (c : UInt8) (t : List UInt8) (hl : l = c :: t) : (c.toNat < 128 → Lib.decodeL l = (c.toNat, 1)) ∧ (128 ≤ c.toNat → nameRune ((Lib.decodeL l).1 : Int) = false) := by
  constructor
  · intro h
    have e : Lib.encodeRune (c.toNat : Int) = [c] := by
      unfold Lib.encodeRune
      rw [Lib.encodeRuneZ_one (by omega) (by omega)]
      simp
    have := UM.decode_enc (c.toNat : Int) t
    rw [e, List.singleton_append, ← hl] at this
    rw [this, UM.norm_of_good _ (by omega)]
    simp
  · intro h
    rcases UM.decode_back l (by rw [hl]; simp) with ⟨h1, _⟩ | h1
    · rw [h1]; decide
    · by_cases hr : (Lib.decodeL l).1 < 128
      · exfalso
        unfold Lib.encodeRune at h1
        rw [Lib.encodeRuneZ_one (by omega) (by omega)] at h1
        have hw := Lib.decodeL_width l
        rw [hl] at h1 hw
        obtain ⟨d, hd⟩ : ∃ d, (Lib.decodeL (c :: t)).2 = d + 1 := ⟨(Lib.decodeL (c :: t)).2 - 1, by omega⟩
        rw [hd, List.take_succ_cons] at h1
        simp only [List.map_cons, List.map_nil, List.cons.injEq] at h1
        have h2 := congrArg UInt8.toNat h1.1
        rw [← hl] at h2
        simp at h2
        omega
      · unfold nameRune
        simp
        omega
theorem idx_name (s : ByteArray) : ∀ (f pos : Nat), s.size ≤ pos + f → (decide (0 ≤ Lib.idxFuncFrom (fun x => !nameRune (x : Int)) true s f pos)) = !((s.data.toList.drop pos).all nameByte)
  | 0, pos, h => by
    have : s.data.toList.drop pos = [] := List.drop_eq_nil_of_le (by rw [← Lib.size_eq]; omega)
    rw [this]
    simp [Lib.idxFuncFrom]
  | f + 1, pos, h => by
    unfold Lib.idxFuncFrom
    by_cases hp : pos < s.size
    · rw [if_pos hp]
      have hpl : pos < s.data.toList.length := by rw [← Lib.size_eq]; exact hp
      have hd : s.data.toList.drop pos = s.data.toList[pos] :: s.data.toList.drop (pos + 1) := List.drop_eq_getElem_cons hpl
      have hde : Utf8.decode s pos = Lib.decodeL (s.data.toList.drop pos) := (Lib.decodeL_drop _ _).symm
      obtain ⟨h1, h2⟩ := decode_first _ _ _ hd
      rw [hde]
      by_cases hc : (s.data.toList[pos]).toNat < 128
      · rw [h1 hc, hd]
        simp only [nameRune_byte, List.all_cons]
        cases hn : nameByte s.data.toList[pos] with
        | true =>
          simp only [Bool.not_true, Bool.true_and]
          exact idx_name s f (pos + 1) (by omega)
        | false => simp
      · rw [hd, List.all_cons]
        rw [hd] at h2
        have hn : nameByte s.data.toList[pos] = false := by unfold nameByte; rw [decide_eq_false_iff_not]; omega
        simp only [h2 (by omega), Bool.not_false, if_true, hn, Bool.false_and]
        simp
    · rw [if_neg hp]
      have : s.data.toList.drop pos = [] := List.drop_eq_nil_of_le (by rw [← Lib.size_eq]; omega)
      rw [this]
      simp
theorem idx_all (s : ByteArray) : decide (0 ≤ Lib.idxFunc (fun x => !nameRune (x : Int)) true s) = !(s.data.toList.all nameByte) := by
  have := idx_name s s.size 0 (by omega)
  rw [List.drop_zero] at this
  exact this

/-! ### the code's -/
theorem nameRune_int (c : Nat) : nameRune (c : Int) = ((decide ((c : Int) ≥ 97) && decide ((c : Int) ≤ 122)) || (decide ((c : Int) ≥ 48) && decide ((c : Int) ≤ 57)) || ((c : Int) == 95)) := by
  unfold nameRune
  rw [Bool.eq_iff_iff]
  simp
  omega
set_option maxRecDepth 100000 in
theorem isodd_any (c : Nat) (w : World) (hc : c ≤ 1114111) : Calls Try.prog 64 #[.int .i32 (c : Int)] w fun e w' => e = .returned (.bool (!nameRune (c : Int))) ∧ Below w.heap.size w w' := by
  rcases (by omega : c < 48 ∨ (48 ≤ c ∧ c ≤ 57) ∨ (58 ≤ c ∧ c ≤ 94) ∨ c = 95 ∨ c = 96 ∨ (97 ≤ c ∧ c ≤ 122) ∨ 122 < c) with h | h | h | h | h | h | h
  all_goals (
    first | (have a1 : decide ((c : Int) < 97) = true := by (rw [decide_eq_true_eq]; omega)) | (have a1 : decide ((c : Int) < 97) = false := by (rw [decide_eq_false_iff_not]; omega))
    first | (have a2 : decide ((c : Int) > 122) = true := by (rw [decide_eq_true_eq]; omega)) | (have a2 : decide ((c : Int) > 122) = false := by (rw [decide_eq_false_iff_not]; omega))
    first | (have a3 : decide ((c : Int) < 48) = true := by (rw [decide_eq_true_eq]; omega)) | (have a3 : decide ((c : Int) < 48) = false := by (rw [decide_eq_false_iff_not]; omega))
    first | (have a4 : decide ((c : Int) > 57) = true := by (rw [decide_eq_true_eq]; omega)) | (have a4 : decide ((c : Int) > 57) = false := by (rw [decide_eq_false_iff_not]; omega))
    first | (have a5 : ((c : Int) == 95) = true := by (rw [beq_iff_eq]; omega)) | (have a5 : ((c : Int) == 95) = false := by (rw [beq_eq_false_iff_ne]; omega))
    have b5 : ((c : Int) != 95) = !((c : Int) == 95) := rfl
    rw [a5] at b5
    simp only [Bool.not_true, Bool.not_false] at b5
    first | (have hok : nameRune (c : Int) = true := by (unfold nameRune; rw [decide_eq_true_eq]; omega)) | (have hok : nameRune (c : Int) = false := by (unfold nameRune; rw [decide_eq_false_iff_not]; omega))
    have HOK := Lib.hid hok
    clear h hok
    go_enter Try.func64, Try.ntmps64
    go_wp2_with fail
    go_ret
    rw [HOK.out]
    exact ⟨rfl, Below.refl _ _⟩)
theorem odd_pays (w : World) : PredGrows Try.prog 64 #[] (fun x => !nameRune (x : Int)) w := by
  intro W x hx _
  exact isodd_any x W hx
theorem confun_any (s : ByteArray) (w : World) : Calls Try.prog 63 #[.string s, .func (.func 64) #[] #[]] w fun e w' => e = .returned (.bool (!(s.data.toList.all nameByte))) ∧ Below w.heap.size w w' := by
  have := Try.strings_ContainsFunc_grows 64 #[] (fun args w => by kernel_rfl) (fun x => !nameRune (x : Int)) s w (odd_pays w)
  rw [idx_all] at this
  exact this
/-- A truth; memory that was there is as it was. -/
def TruthLeft (b : Bool) (w : World) (e : Ending) (w' : World) : Prop := e = .returned (.bool b) ∧ Below w.heap.size w w'
set_option maxRecDepth 100000 in
theorem isname_any (s : ByteArray) (w : World) : Calls Try.prog 41 #[.string s] w (TruthLeft (nameL s.data.toList) w) := by
  have hz := Lib.size_eq s
  by_cases h0 : s.size = 0
  · have hn : nameL s.data.toList = false := by unfold nameL; rw [← hz]; simp; omega
    rw [hn]
    have t1 : decide ((s.size : Int) ≥ 1) = false := by rw [decide_eq_false_iff_not]; omega
    clear hz h0 hn
    go_enter Try.func41, Try.ntmps41
    go_wp2_with fail
    go_ret
    exact ⟨rfl, Below.refl _ _⟩
  · have t1 : decide ((s.size : Int) ≥ 1) = true := by rw [decide_eq_true_eq]; omega
    by_cases h1 : s.size ≤ 32
    · have hn : nameL s.data.toList = s.data.toList.all nameByte := by
        unfold nameL
        rw [← hz, decide_eq_true (by omega), Bool.true_and]
      rw [hn]
      have t2 : decide ((s.size : Int) ≤ 32) = true := by rw [decide_eq_true_eq]; omega
      have hc := confun_any s
      obtain ⟨b, hb⟩ : ∃ b, s.data.toList.all nameByte = b := ⟨_, rfl⟩
      rw [hb]
      simp only [hb] at hc
      have HC := Lib.hid hc
      clear hz h0 h1 hn hb hc
      go_enter Try.func41, Try.ntmps41
      go_wp2_with fail
      refine (HC.out _).mono ?_
      rintro e w2 ⟨rfl, hb2⟩
      have HB := Lib.hid hb2
      clear hb2 HC
      go_wp2_with fail
      go_ret
      exact ⟨rfl, HB.out⟩
    · have hn : nameL s.data.toList = false := by unfold nameL; rw [← hz]; simp; omega
      rw [hn]
      have t2 : decide ((s.size : Int) ≤ 32) = false := by rw [decide_eq_false_iff_not]; omega
      clear hz h0 h1 hn
      go_enter Try.func41, Try.ntmps41
      go_wp2_with fail
      go_ret
      exact ⟨rfl, Below.refl _ _⟩

/-! ### the reference's -/
theorem str_index {s : ByteArray} {l : List UInt8} (hl : s.data.toList = l) {i : Nat} {c : UInt8} (hi : l[i]? = some c) (W : World) : (Instr.index 9 (.string s) (.int .i64 (i : Int))).run Try.prog W = .ok (.int .u8 (c.toNat : Int)) W := by
  obtain ⟨hlt, he⟩ := List.getElem?_eq_some_iff.1 hi
  have hsz : s.size = l.length := by rw [Lib.size_eq, hl]
  rw [run_index_string W 9 s .i64 i Try.underlying9, dif_pos ⟨by omega, by omega⟩]
  subst hl
  have e : (s[(i : Int).toNat]'(by omega)) = c := by
    rw [← he]
    simp only [Int.toNat_natCast]
    rfl
  rw [e]
theorem str_size {s : ByteArray} {l : List UInt8} (hl : s.data.toList = l) : s.size = l.length := by rw [Lib.size_eq, hl]
theorem drop_all {l : List UInt8} {i : Nat} {c : UInt8} (hi : l[i]? = some c) : (l.drop i).all nameByte = (nameRune (c.toNat : Int) && (l.drop (i + 1)).all nameByte) := by
  obtain ⟨hlt, he⟩ := List.getElem?_eq_some_iff.1 hi
  rw [List.drop_eq_getElem_cons hlt, List.all_cons, he, nameRune_byte]
set_option maxRecDepth 100000 in
set_option maxHeartbeats 2000000 in
theorem risname_any (s : ByteArray) (w : World) (hs : s.size ≤ 1000000000000) : Calls Try.prog 17 #[.string s] w (TruthLeft (nameL s.data.toList) w) := by
  obtain ⟨l, hl⟩ : ∃ l, s.data.toList = l := ⟨_, rfl⟩
  rw [hl]
  have hsz := str_size hl
  have hll : l.length ≤ 1000000000000 := by omega
  by_cases h1 : l.length < 1
  · have e : nameL l = false := by unfold nameL; rw [decide_eq_false (by omega)]; rfl
    rw [e]
    have t1 : decide ((s.size : Int) < 1) = true := by rw [decide_eq_true_eq]; omega
    have t2 : decide (s.size < 1) = true := by rw [decide_eq_true_eq]; omega
    clear hl hsz e
    go_enter Try.func17, Try.ntmps17
    go_wp2_with fail
    go_ret
    exact ⟨rfl, Below.refl _ _⟩
  · have t1 : decide ((s.size : Int) < 1) = false := by rw [decide_eq_false_iff_not]; omega
    have t2 : decide (s.size < 1) = false := by rw [decide_eq_false_iff_not]; omega
    by_cases h2 : 32 < l.length
    · have e : nameL l = false := by unfold nameL; rw [decide_eq_false (show ¬ (1 ≤ l.length ∧ l.length ≤ 32) by omega)]; simp
      rw [e]
      have t3 : decide ((s.size : Int) > 32) = true := by rw [decide_eq_true_eq]; omega
      have t4 : decide (32 < s.size) = true := by rw [decide_eq_true_eq]; omega
      clear hl hsz e
      go_enter Try.func17, Try.ntmps17
      go_wp2_with fail
      go_ret
      exact ⟨rfl, Below.refl _ _⟩
    · have t3 : decide ((s.size : Int) > 32) = false := by rw [decide_eq_false_iff_not]; omega
      have t4 : decide (32 < s.size) = false := by rw [decide_eq_false_iff_not]; omega
      obtain ⟨RES, hRES⟩ : ∃ RES, nameL l = RES := ⟨_, rfl⟩
      have hall : (l.drop 0).all nameByte = RES := by
        rw [← hRES]
        unfold nameL
        rw [decide_eq_true (show 1 ≤ l.length ∧ l.length ≤ 32 by omega)]
        rfl
      rw [hRES]
      have H0 := Lib.hid hall
      have HL := Lib.hid hl
      have HSZ := Lib.hid hsz
      clear hRES hall hl hsz h1 h2
      go_enter Try.func17, Try.ntmps17
      go_wp2_with fail
      go_loopw [3] (fun iv wr => ∃ i : Nat, i ≤ l.length ∧ iv = .int .i64 i ∧ Hid ((l.drop i).all nameByte = RES) ∧ Hid (Below w.heap.size w wr)) (fun iv _ => l.length - (intOf iv).toNat)
      case atStart => exact ⟨0, by omega, rfl, H0, Lib.hid (Below.refl _ _)⟩
      case round =>
        obtain ⟨i, hi, rfl, HI, HB⟩ := hrel
        clear H0
        have hsz := HSZ.out
        by_cases hlt : i < l.length
        · have q1 : decide ((i : Int) < (s.size : Int)) = true := by rw [decide_eq_true_eq]; omega
          have q2 : decide (i < s.size) = true := by rw [decide_eq_true_eq]; omega
          obtain ⟨c8, hc8⟩ : ∃ c, l[i]? = some c := ⟨l[i], List.getElem?_eq_getElem hlt⟩
          have hix := str_index HL.out hc8
          have hnext := HI.out
          rw [drop_all hc8] at hnext
          have hc9 := c8.toNat_lt
          generalize c8.toNat = c at *
          have HN := Lib.hid hnext
          have HLT := Lib.hid hlt
          clear hnext hc8 HI hsz hlt
          rcases (by omega : c < 48 ∨ (48 ≤ c ∧ c ≤ 57) ∨ (58 ≤ c ∧ c ≤ 94) ∨ c = 95 ∨ c = 96 ∨ (97 ≤ c ∧ c ≤ 122) ∨ 122 < c) with h | h | h | h | h | h | h
          all_goals (
            first | (have a1 : decide ((c : Int) ≥ 97) = true := by (rw [decide_eq_true_eq]; omega)) | (have a1 : decide ((c : Int) ≥ 97) = false := by (rw [decide_eq_false_iff_not]; omega))
            first | (have a2 : decide ((c : Int) ≤ 122) = true := by (rw [decide_eq_true_eq]; omega)) | (have a2 : decide ((c : Int) ≤ 122) = false := by (rw [decide_eq_false_iff_not]; omega))
            first | (have a3 : decide ((c : Int) ≥ 48) = true := by (rw [decide_eq_true_eq]; omega)) | (have a3 : decide ((c : Int) ≥ 48) = false := by (rw [decide_eq_false_iff_not]; omega))
            first | (have a4 : decide ((c : Int) ≤ 57) = true := by (rw [decide_eq_true_eq]; omega)) | (have a4 : decide ((c : Int) ≤ 57) = false := by (rw [decide_eq_false_iff_not]; omega))
            first | (have a5 : ((c : Int) == 95) = true := by (rw [beq_iff_eq]; omega)) | (have a5 : ((c : Int) == 95) = false := by (rw [beq_eq_false_iff_ne]; omega))
            first | (have hok : nameRune (c : Int) = true := by (unfold nameRune; rw [decide_eq_true_eq]; omega)) | (have hok : nameRune (c : Int) = false := by (unfold nameRune; rw [decide_eq_false_iff_not]; omega))
            have HOK := Lib.hid hok
            clear h hok
            go_wp2_with fail
            have hn := HN.out
            rw [HOK.out] at hn
            simp only [Bool.and_true, Bool.and_false, Bool.true_and, Bool.false_and, Bool.or_true, Bool.or_false, Bool.true_or, Bool.false_or] at hn
            have hlt := HLT.out
            first
              | (go_roundw
                 case rel => exact ⟨i + 1, by omega, by go_num, Lib.hid hn, HB⟩
                 case measure => simp [intOf]; omega)
              | (subst hn
                 go_ret
                 exact ⟨rfl, HB.out⟩))
        · obtain rfl : i = l.length := by omega
          have q1 : decide ((l.length : Int) < (s.size : Int)) = false := by rw [decide_eq_false_iff_not]; omega
          have q2 : decide (l.length < s.size) = false := by rw [decide_eq_false_iff_not]; omega
          have hn := HI.out
          rw [List.drop_length] at hn
          subst hn
          clear HI hsz
          go_wp2_with fail
          go_ret
          exact ⟨rfl, HB.out⟩
end Go.Proofs.Ytgacfihidpijeaa.TK
set_option linter.unusedVariables false
namespace Go.Proofs.Ytgacfihidpijeaa.EV
open Go Go.RowKit Go.Proofs.Ytgacfihidpijeaa.MM Go.Proofs.Ytgacfihidpijeaa.EM
open Go.Proofs.Ytgacfihidpijeaa.TK (nameL isname_any risname_any TruthLeft str_size)

set_option maxRecDepth 100000 in
theorem name_any (l : List UInt8) (w : World) : Calls Try.prog 16 #[.string ⟨l.toArray⟩] w (TruthLeft (nameL l) w) := by
  have h := Lib.hid (isname_any ⟨l.toArray⟩ w)
  rw [str_list] at h
  go_enter Try.func16, Try.ntmps16
  go_wp2_with fail
  refine h.out.mono ?_
  rintro e w2 ⟨rfl, hb⟩
  have HB := Lib.hid hb
  clear h hb
  go_wp2_with fail
  go_ret
  exact ⟨rfl, HB.out⟩
set_option maxRecDepth 100000 in
theorem rname_any (l : List UInt8) (w : World) : Calls Try.prog 17 #[.string ⟨l.toArray⟩] w (TruthLeft (nameL l) w) := by
  by_cases h : l.length ≤ 1000000000000
  · have := risname_any ⟨l.toArray⟩ w (by rw [str_sz]; exact h)
    rw [str_list] at this
    exact this
  · have e : nameL l = false := by unfold TK.nameL; rw [decide_eq_false (show ¬ (1 ≤ l.length ∧ l.length ≤ 32) by omega)]; simp
    rw [e]
    have t1 : decide ((l.length : Int) < 1) = false := by rw [decide_eq_false_iff_not]; omega
    have t2 : decide (l.length < 1) = false := by rw [decide_eq_false_iff_not]; omega
    have t3 : decide ((l.length : Int) > 32) = true := by rw [decide_eq_true_eq]; omega
    have t4 : decide (32 < l.length) = true := by rw [decide_eq_true_eq]; omega
    have hs := str_sz l
    clear e h
    go_enter Try.func17, Try.ntmps17
    go_wp2_with fail
    go_ret
    exact ⟨rfl, Below.refl _ _⟩
def IntLeft (z : Int) (w : World) (e : Ending) (w' : World) : Prop := e = .returned (.int .i64 z) ∧ Below w.heap.size w w'

set_option maxRecDepth 100000 in
set_option maxHeartbeats 2000000 in
theorem check_any (z : Int) (v : Value) (fs : List Fld) (w : World) (hr : RAny fldC w v fs) : Calls Try.prog 10 #[.agg #[.int .i64 z, v]] w (IntLeft (checkE (z, fs)) w) := by
  obtain ⟨p, cap, rfl, hlc, hcm, _⟩ := hr.shape
  unfold maxLen at hcm
  by_cases h16 : 16 < fs.length
  · have t1 : decide ((fs.length : Int) > 16) = true := by rw [decide_eq_true_eq]; omega
    have e : checkE (z, fs) = 3 := by unfold checkE; rw [if_pos h16]
    rw [e]
    clear e hr h16
    have hb : Below w.heap.size w (w.alloc (.cells #[.int .i64 z, .slice p fs.length cap] 24)) := (Below.refl _ _).alloc (Nat.le_refl _) _
    have HB := Lib.hid hb
    clear hb
    go_enter Try.func10, Try.ntmps10
    go_wp2_with fail
    go_ret
    exact ⟨rfl, HB.out⟩
  · have t1 : decide ((fs.length : Int) > 16) = false := by rw [decide_eq_false_iff_not]; omega
    obtain ⟨RES, hRES⟩ : ∃ RES, checkE (z, fs) = RES := ⟨_, rfl⟩
    have h0 : checkF (fs.drop 0) = RES := by rw [← hRES]; unfold checkE; rw [if_neg h16]; rfl
    rw [hRES]
    have hb : Below w.heap.size w (w.alloc (.cells #[.int .i64 z, .slice p fs.length cap] 24)) := (Below.refl _ _).alloc (Nat.le_refl _) _
    have HB := Lib.hid hb
    have H0 := Lib.hid h0
    have HR := Lib.hid hr
    clear hb h0 hr hRES h16
    go_enter Try.func10, Try.ntmps10
    go_wp2_with fail
    go_loopw [12] (fun iv wr => ∃ i : Nat, i ≤ fs.length ∧ iv = .int .i64 i ∧ Hid (checkF (fs.drop i) = RES) ∧ Hid (Below w.heap.size w wr)) (fun iv _ => fs.length - (intOf iv).toNat)
    case atStart => exact ⟨0, by omega, rfl, H0, HB⟩
    case round =>
      obtain ⟨i, hi, rfl, HI, HB1⟩ := hrel
      clear H0 HB
      by_cases hlt : i < fs.length
      · have q1 : decide ((i : Int) < (fs.length : Int)) = true := by rw [decide_eq_true_eq]; omega
        have q2 : decide (i < fs.length) = true := by rw [decide_eq_true_eq]; omega
        obtain ⟨b, off, rfl, hbl, _, c1, c2⟩ := fld_at (HR.out.below HB1.out) hlt
        have hnext := HI.out
        rw [checkF_next hlt] at hnext
        generalize fs[i].1 = n at *
        generalize fs[i].2 = x at *
        have HN := Lib.hid hnext
        have HLT := Lib.hid hlt
        have hk := fun W => name_any n W
        generalize nameL n = nb at *
        have HK := Lib.hid hk
        have hwr := HB1.out.size
        clear hnext HI hk hlt
        go_wp2_with fail
        refine (HK.out _).mono ?_
        rintro e w2 ⟨rfl, hb2⟩
        have hb3 : Below wr.heap.size wr w2 := ((Below.refl _ wr).alloc (Nat.le_refl _) _).trans (hb2.mono (by simp))
        have cx : w2.cell? ⟨wr.heap.size, 1, none⟩ = some (.string ⟨x.toArray⟩) := (hb2.cell (p := ⟨wr.heap.size, 1, none⟩) (by simp)).trans (new_two wr _ _ _).2
        have HB2 := Lib.hid (HB1.out.trans (hb3.mono hwr))
        clear hb2 hb3 HK c1 c2 hwr
        cases nb with
        | false =>
          have hn := HN.out
          rw [if_pos rfl] at hn
          subst hn
          clear HN
          go_wp2_with fail
          go_ret
          exact ⟨rfl, HB2.out⟩
        | true =>
          by_cases h4 : 4096 < x.length
          · have q3 : decide ((x.length : Int) > 4096) = true := by rw [decide_eq_true_eq]; omega
            have hn := HN.out
            rw [if_neg (by simp), if_pos h4] at hn
            subst hn
            clear HN h4
            go_wp2_with fail
            go_ret
            exact ⟨rfl, HB2.out⟩
          · have q3 : decide ((x.length : Int) > 4096) = false := by rw [decide_eq_false_iff_not]; omega
            have hn := HN.out
            rw [if_neg (by simp), if_neg h4] at hn
            have HN2 := Lib.hid hn
            clear HN h4 hn
            go_wp2_with fail
            have hlt := HLT.out
            go_roundw
            case rel => exact ⟨i + 1, by omega, by go_num, HN2, HB2⟩
            case measure => simp [intOf]; omega
      · obtain rfl : i = fs.length := by omega
        have q1 : decide ((fs.length : Int) < (fs.length : Int)) = false := by simp
        have q2 : decide (fs.length < fs.length) = false := by simp
        have hn := HI.out
        rw [List.drop_length] at hn
        have hn : 0 = RES := hn
        subst hn
        clear HI
        go_wp2_with fail
        go_ret
        exact ⟨rfl, HB1.out⟩

/-- The box of an event that was handed over. -/
def evBox (w : World) (z : Int) (v : Value) : World := w.alloc (.cells #[.int .i64 z, v] 24)
theorem box_below (w : World) (z : Int) (v : Value) : Below w.heap.size w (evBox w z v) := (Below.refl _ _).alloc (Nat.le_refl _) _
theorem box_size (w : World) (z : Int) (v : Value) : (evBox w z v).heap.size = w.heap.size + 1 := by unfold evBox; simp
theorem box_at (w : World) (z : Int) (v : Value) : (evBox w z v).cell? ⟨w.heap.size, 0, none⟩ = some (.int .i64 z) ∧ (evBox w z v).cell? ⟨w.heap.size, 1, none⟩ = some v := new_two w _ _ _
theorem box_in {w wr : World} {z : Int} {v : Value} (h : Below (evBox w z v).heap.size (evBox w z v) wr) : wr.cell? ⟨w.heap.size, 0, none⟩ = some (.int .i64 z) ∧ wr.cell? ⟨w.heap.size, 1, none⟩ = some v ∧ Below w.heap.size w wr :=
  ⟨(h.cell (p := ⟨w.heap.size, 0, none⟩) (by rw [box_size]; simp)).trans (box_at w z v).1, (h.cell (p := ⟨w.heap.size, 1, none⟩) (by rw [box_size]; simp)).trans (box_at w z v).2, (box_below w z v).trans (h.mono (by rw [box_size]; omega))⟩

set_option maxRecDepth 100000 in
set_option maxHeartbeats 2000000 in
theorem rcheck_any (z : Int) (v : Value) (fs : List Fld) (w : World) (hr : RAny fldC w v fs) : Calls Try.prog 11 #[.agg #[.int .i64 z, v]] w (IntLeft (checkE (z, fs)) w) := by
  obtain ⟨p, cap, rfl, hlc, hcm, _⟩ := hr.shape
  unfold maxLen at hcm
  by_cases h16 : 16 < fs.length
  · have t1 : decide ((fs.length : Int) > 16) = true := by rw [decide_eq_true_eq]; omega
    have e : checkE (z, fs) = 3 := by unfold checkE; rw [if_pos h16]
    rw [e]
    clear e hr h16
    have HB := Lib.hid (box_below w z (.slice p fs.length cap))
    go_enter Try.func11, Try.ntmps11
    go_wp2_with fail
    go_ret
    exact ⟨rfl, HB.out⟩
  · have t1 : decide ((fs.length : Int) > 16) = false := by rw [decide_eq_false_iff_not]; omega
    obtain ⟨RES, hRES⟩ : ∃ RES, checkE (z, fs) = RES := ⟨_, rfl⟩
    have h0 : checkF (fs.drop 0) = RES := by rw [← hRES]; unfold checkE; rw [if_neg h16]; rfl
    rw [hRES]
    have HB := Lib.hid (Below.refl (evBox w z (.slice p fs.length cap)).heap.size (evBox w z (.slice p fs.length cap)))
    have H0 := Lib.hid h0
    have HR := Lib.hid hr
    clear h0 hr hRES h16
    go_enter Try.func11, Try.ntmps11
    go_wp2_with fail
    go_loopw [3] (fun iv wr => ∃ i : Nat, i ≤ fs.length ∧ iv = .int .i64 i ∧ Hid (checkF (fs.drop i) = RES) ∧ Hid (Below (evBox w z (.slice p fs.length cap)).heap.size (evBox w z (.slice p fs.length cap)) wr)) (fun iv _ => fs.length - (intOf iv).toNat)
    case atStart => exact ⟨0, by omega, rfl, H0, HB⟩
    case round =>
      obtain ⟨i, hi, rfl, HI, HB1⟩ := hrel
      clear H0 HB
      obtain ⟨_, cb, hbw⟩ := box_in HB1.out
      by_cases hlt : i < fs.length
      · have q1 : decide ((i : Int) < (fs.length : Int)) = true := by rw [decide_eq_true_eq]; omega
        have q2 : decide (i < fs.length) = true := by rw [decide_eq_true_eq]; omega
        obtain ⟨b, off, rfl, hbl, _, c1, c2⟩ := fld_at (HR.out.below hbw) hlt
        have hnext := HI.out
        rw [checkF_next hlt] at hnext
        generalize fs[i].1 = n at *
        generalize fs[i].2 = x at *
        have HN := Lib.hid hnext
        have HLT := Lib.hid hlt
        have hk := rname_any n wr
        generalize nameL n = nb at *
        have HK := Lib.hid hk
        have hwr := HB1.out.size
        have hbw0 := hbw.size
        rw [box_size] at hwr
        clear hnext HI hk hlt hbw
        go_wp2_with fail
        refine HK.out.mono ?_
        rintro e w2 ⟨rfl, hb2⟩
        have cx : w2.cell? ⟨b, off + i * 2 + 1, none⟩ = some (.string ⟨x.toArray⟩) := (hb2.cell (p := ⟨b, off + i * 2 + 1, none⟩) hbl).trans c2
        have cb2 : w2.cell? ⟨w.heap.size, 1, none⟩ = some (.slice (some ⟨b, off, none⟩) fs.length cap) := (hb2.cell (p := ⟨w.heap.size, 1, none⟩) (show w.heap.size < wr.heap.size by omega)).trans cb
        have HB2 := Lib.hid (HB1.out.trans (hb2.mono HB1.out.size))
        clear hb2 HK c1 c2 cb hwr hbw0
        cases nb with
        | false =>
          have hn := HN.out
          rw [if_pos rfl] at hn
          subst hn
          clear HN
          go_wp2_with fail
          go_ret
          exact ⟨rfl, (box_in HB2.out).2.2⟩
        | true =>
          by_cases h4 : 4096 < x.length
          · have q3 : decide ((x.length : Int) > 4096) = true := by rw [decide_eq_true_eq]; omega
            have hn := HN.out
            rw [if_neg (by simp), if_pos h4] at hn
            subst hn
            clear HN h4
            go_wp2_with fail
            go_ret
            exact ⟨rfl, (box_in HB2.out).2.2⟩
          · have q3 : decide ((x.length : Int) > 4096) = false := by rw [decide_eq_false_iff_not]; omega
            have hn := HN.out
            rw [if_neg (by simp), if_neg h4] at hn
            have HN2 := Lib.hid hn
            clear HN h4 hn
            go_wp2_with fail
            have hlt := HLT.out
            go_roundw
            case rel => exact ⟨i + 1, by omega, by go_num, HN2, HB2⟩
            case measure => simp [intOf]; omega
      · obtain rfl : i = fs.length := by omega
        have q1 : decide ((fs.length : Int) < (fs.length : Int)) = false := by simp
        have q2 : decide (fs.length < fs.length) = false := by simp
        have hn := HI.out
        rw [List.drop_length] at hn
        have hn : 0 = RES := hn
        subst hn
        have HBW := Lib.hid hbw
        clear HI hbw
        go_wp2_with fail
        go_ret
        exact ⟨rfl, HBW.out⟩

/-! ### how great -/
theorem wrap_add (a b : Int) : wrap64 (wrap64 a + b) = wrap64 (a + b) := by unfold wrap64; omega
theorem wrap_add2 (a b : Int) : wrap64 (a + wrap64 b) = wrap64 (a + b) := by unfold wrap64; omega
def sizeW (fs : List Fld) : Int := wrap64 (16 + (sizeF fs : Int))
theorem sizeW_next {fs : List Fld} {k : Nat} (hk : k < fs.length) : wrap64 (sizeW (fs.take k) + ((fs[k].1.length : Int) + (fs[k].2.length : Int))) = sizeW (fs.take (k + 1)) := by
  unfold sizeW
  rw [wrap_add, sizeF_next hk]
  congr 1
  omega
theorem sizeW_small {fs : List Fld} (h : sizeF fs ≤ 1000000000000) : sizeW fs = (16 + sizeF fs : Nat) := by unfold sizeW wrap64; omega
end Go.Proofs.Ytgacfihidpijeaa.EV
