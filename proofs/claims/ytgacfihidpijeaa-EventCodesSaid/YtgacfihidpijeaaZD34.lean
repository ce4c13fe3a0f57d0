/-
  The fields of an event with their bases: the iterator that Terms ranges over. Condition: at most 16 fields of texts of at most 4096 bytes. The states of the code's reader over whole events and batches, beside what the plain lists say. No program of its own; no condition. A batch as an argument: read as data, it lies as its codec says. No condition.
-/
import Derived.RangeFuncNested
import Derived.RangeFuncBound
import Derived.RangeFuncCalls
import Derived.RangeFuncLeaves
import Derived.Shelf.Abstract
import Derived.Shelf.RegionOpen
import Derived.OwnWalkIn
import Derived.TacticsInMore
import Derived.LoopNIn
import Derived.LoopIn
import Derived.Test.YtgacfihidpijeaaZD23
import Derived.Test.YtgacfihidpijeaaZD27
import Derived.Test.YtgacfihidpijeaaZD19
import Derived.Test.YtgacfihidpijeaaZD31
import Derived.Test.YtgacfihidpijeaaZD33
import Derived.Test.YtgacfihidpijeaaZD30
set_option linter.unusedVariables false
namespace Go.Proofs.Ytgacfihidpijeaa.EV
open Go Go.RowKit Go.Shelf Go.Proofs.Ytgacfihidpijeaa.MM Go.Proofs.Ytgacfihidpijeaa.EM
open Go.Proofs.Ytgacfihidpijeaa.TK (wordsB wordsB_count numT numT_len KRow KIn Tagged tokens_tag)
open Go.Proofs.Ytgacfihidpijeaa.RF (Vows Grows)
attribute [local go_sem] Oper.semAt_some

/-- What is yielded: a base, a field's name, its tokens' value, its words. -/
abbrev Item := Int × List UInt8 × Value × List (List UInt8)
abbrev encI (x : Item) : Array Value := #[.int .i64 x.1, .agg #[.string ⟨x.2.1.toArray⟩, x.2.2.1]]
def Vow (x : Item) (W : World) : Prop := (∃ g, x.2.2.1 = .slice (some ⟨g, 0, none⟩) x.2.2.2.length x.2.2.2.length ∧ Tagged W g) ∧ KRow W x.2.2.1 (numT x.2.2.2) ∧ x.2.1.length ≤ 4096 ∧ x.2.2.2.length ≤ 4096 ∧ (∀ s ∈ x.2.2.2, s.length ≤ 4096) ∧ 0 ≤ x.1 ∧ x.1 ≤ 100000
/-- These have come of the first k fields. -/
inductive Tr (fs : List Fld) : List Item → Nat → Prop
  | start : Tr fs [] 0
  | next {xs : List Item} {k : Nat} (v : Value) (hk : k < fs.length) : Tr fs xs k → Tr fs (xs ++ [(baseF (fs.take k), fs[k].1, v, wordsB fs[k].2)]) (k + 1)
theorem Tr.len {fs : List Fld} {xs : List Item} {k : Nat} (h : Tr fs xs k) : xs.length = k ∧ k ≤ fs.length := by
  induction h with
  | start => simp
  | next v hk h ih => rw [List.length_append, List.length_singleton]; omega
/-- The terms' places that have come. -/
def pairsI (xs : List Item) : List (List UInt8 × Int) := xs.flatMap fun x => pairsW x.2.1 x.2.2.2 x.1
theorem pairsI_snoc (xs : List Item) (x : Item) : pairsI (xs ++ [x]) = pairsI xs ++ pairsW x.2.1 x.2.2.2 x.1 := by simp [pairsI]
theorem Tr.told {fs : List Fld} {xs : List Item} {k : Nat} (h : Tr fs xs k) : pairsI xs = pairsF 0 (fs.take k) := by
  induction h with
  | start => simp [pairsI, pairsF]
  | next v hk h ih => rw [pairsI_snoc, ih, pairsF_next hk]
theorem base_le {fs : List Fld} (hx : ∀ f ∈ fs, f.2.length ≤ 4096) : ∀ k, k ≤ fs.length → 0 ≤ baseF (fs.take k) ∧ baseF (fs.take k) ≤ 4160 * k
  | 0, _ => by simp [baseF]
  | k + 1, h => by
    have ih := base_le hx k (by omega)
    have hk : k < fs.length := by omega
    rw [baseF_next hk]
    have := wordsB_count fs[k].2
    have := hx fs[k] (List.getElem_mem hk)
    omega
theorem word_len (l : List UInt8) : ∀ s ∈ wordsB l, s.length ≤ 4096 := fun s hs => by have := (TK.word_self l s hs).2; omega

set_option maxRecDepth 100000 in
set_option maxHeartbeats 2000000 in
theorem iter_in (n : Nat) (hn : 1 ≤ n) (l Bn n₀ : Nat) (z : Int) (v0 : Value) (fs : List Fld) (h16 : fs.length ≤ 16) (hnm : ∀ f ∈ fs, f.1.length ≤ 4096) (hx : ∀ f ∈ fs, f.2.length ≤ 4096) (J Jx : List Item → World → Prop) (hJ : Grows J)
    (hY : ∀ pre x A, J pre A → Vow x A → pre.length < 16 → YieldAt Fence.wide (n - 1) Try.prog l (encI x) A fun e B =>
      (e = .returned (.bool true) ∧ J (pre ++ [x]) B ∧ Below n₀ A B) ∨ (e = .returned (.bool false) ∧ Jx (pre ++ [x]) B))
    (W : World) (hBn : W.cell? ⟨Bn, 1, none⟩ = some v0) (hb : RBel fldC n₀ W v0 fs) (hn₀ : n₀ ≤ W.heap.size) (h0 : J [] W) :
    CallsIn Fence.wide n Try.prog 77 #[.func (.yield l) #[] #[], .pointer (some ⟨Bn, 0, none⟩)] W fun e B => (∃ v, e = .returned v) ∧
      ((∃ xs, Tr fs xs fs.length ∧ J xs B) ∨ (∃ pre, (∃ k, Tr fs pre k) ∧ Jx pre B)) := by
  obtain ⟨p0, cap0, rfl, hlc, hcm, _⟩ := hb.shape
  unfold maxLen at hcm
  have HB0 := Lib.hid hb
  have HT0 : Hid (Tr fs [] 0) := Lib.hid .start
  have HY := Lib.hid hY
  have HX := Lib.hid hx
  have HM := Lib.hid hnm
  have HZ : Hid (baseF (fs.take 0) = 0) := Lib.hid (by simp [baseF])
  clear hb hY hx hnm
  refine callsIn_of_wp Try.func77 rfl trivial ?_ rfl
  simp only [Try.ntmps77, List.size_toArray, List.length_cons, List.length_nil, Nat.reduceAdd, Nat.reduceSub, Array.replicate_succ, Array.replicate_zero, List.push_toArray, List.append_toArray, List.nil_append, List.cons_append]
  gi_wp2
  gi_loopw [3, 10] (fun bv iv wr => ∃ (xs : List Item) (k : Nat) (bs : Int), k ≤ fs.length ∧ bv = .int .i64 bs ∧ iv = .int .i64 k ∧ Hid (Tr fs xs k) ∧ Hid (baseF (fs.take k) = bs) ∧ Hid (RBel fldC n₀ wr (.slice p0 fs.length cap0) fs) ∧ J xs wr ∧ n₀ ≤ wr.heap.size) (fun _ iv _ => fs.length - (intOf iv).toNat)
  case atStart => exact ⟨[], 0, 0, by omega, rfl, rfl, HT0, HZ, HB0, h0, hn₀⟩
  case round =>
    obtain ⟨xs, k, bs, hk, rfl, rfl, HT, HBS, HR, hJs, hsz⟩ := hrel
    clear HT0 HB0 h0 HZ
    by_cases hlt : k < fs.length
    · have q1 : decide ((k : Int) < (fs.length : Int)) = true := by rw [decide_eq_true_eq]; omega
      have q2 : decide (k < fs.length) = true := by rw [decide_eq_true_eq]; omega
      obtain ⟨b, off, rfl, hbl, hbn, c1, c2⟩ := fld_at HR.out hlt
      have hxk := HX.out fs[k] (List.getElem_mem hlt)
      have hmk := HM.out fs[k] (List.getElem_mem hlt)
      have hnext := fun v => Tr.next v hlt HT.out
      have hbase := base_le HX.out k hk
      rw [HBS.out] at hbase hnext
      have hbn1 := baseF_next hlt
      rw [HBS.out] at hbn1
      have hwl := word_len fs[k].2
      have hwc := wordsB_count fs[k].2
      have htok := fun W => tokens_tag ⟨fs[k].2.toArray⟩ W (by rw [str_sz]; omega)
      simp only [str_list] at htok
      have hlen := HT.out.len
      generalize fs[k].1 = nm at *
      generalize fs[k].2 = tx at *
      generalize wordsB tx = ws at *
      have HTK := Lib.hid htok
      have HN := Lib.hid hnext
      have HBN := Lib.hid hbn1
      have HWL := Lib.hid hwl
      have HLT := Lib.hid hlt
      clear htok hnext hbn1 hwl hlt HT HBS
      gi_wp2
      refine ⟨trivial, (callsIn_wide.2 (HTK.out _)).mono ?_⟩
      rintro e w2 ⟨gt, rfl, hkr, htg, _, hb2⟩
      have hb3 : Below wr.heap.size wr w2 := ((Below.refl _ wr).alloc (Nat.le_refl _) _).trans (hb2.mono (by simp))
      have cn : w2.cell? ⟨wr.heap.size, 0, none⟩ = some (.string ⟨nm.toArray⟩) := (hb2.cell (p := ⟨wr.heap.size, 0, none⟩) (by simp)).trans (new_two wr _ _ _).1
      have hw4 : ws.length ≤ 4096 := by omega
      have hb0 : 0 ≤ bs := hbase.1
      have hb1 : bs ≤ 100000 := by omega
      have hl16 : xs.length < 16 := by omega
      have hg2 : wr.grownBy w2 none := ⟨hb3.os, hb3.tape, hb3.output, hb3.size, fun k hk _ => hb3.block k hk⟩
      have hJ2 := hJ xs wr w2 hJs hg2
      have hsz2 : n₀ ≤ w2.heap.size := by have := hb3.size; omega
      have hR2 := HR.out.below (hb3.mono hsz)
      rw [numT_len] at hkr ⊢
      obtain ⟨fn, tmps, assign, body, hy, hRd⟩ := HY.out xs (bs, nm, .slice (some ⟨gt, 0, none⟩) ws.length ws.length, ws) w2 hJ2 ⟨⟨gt, rfl, htg⟩, hkr, hmk, hw4, HWL.out, hb0, hb1⟩ hl16
      dsimp only [encI] at hy
      have HQ := Lib.hid hR2
      have HT3 := Lib.hid (HN.out (.slice (some ⟨gt, 0, none⟩) ws.length ws.length))
      have hw5 : (0 : Int) ≤ (ws.length : Int) := Int.natCast_nonneg _
      have hw6 : (ws.length : Int) ≤ 4096 := by omega
      clear HTK HN hkr hb2 hb3 hg2 hJs hR2 HR HWL c1 c2
      gi_wp2
      refine hRd.mono ?_
      rintro e w3 (⟨rfl, hJ3, hb3⟩ | ⟨rfl, hJ3⟩)
      · have HQ3 := Lib.hid (HQ.out.below hb3)
        have hsz3 : n₀ ≤ w3.heap.size := by have := hb3.size; omega
        have HB2 : Hid (baseF (fs.take (k + 1)) = bs + (64 + (ws.length : Int))) := Lib.hid (by rw [HBN.out]; omega)
        clear hRd hy HQ
        gi_wp2
        have hlt := HLT.out
        go_roundw
        case rel => exact ⟨_, k + 1, _, by omega, rfl, by go_num, HT3, HB2, HQ3, hJ3, hsz3⟩
        case measure => simp [intOf]; omega
      · have HT4 := Lib.hid HT3.out
        clear hRd hy HQ HT3
        gi_wp2
        refine bodyPost_ret (results_none rfl _ _ _) rfl ?_
        exact ⟨⟨_, rfl⟩, .inr ⟨_, ⟨_, HT4.out⟩, hJ3⟩⟩
    · obtain rfl : k = fs.length := by omega
      have q1 : decide ((fs.length : Int) < (fs.length : Int)) = false := by simp
      have q2 : decide (fs.length < fs.length) = false := by simp
      gi_wp2
      go_end0
      exact ⟨⟨_, rfl⟩, .inl ⟨xs, HT.out, hJs⟩⟩
/-- fieldsOf(e): e is boxed; the function value captures the box. -/
theorem fields_in (n : Nat) (z : Int) (p : Option Addr) (m c : Nat) (W : World) :
    CallsIn Fence.wide n Try.prog 55 #[.agg #[.int .i64 z, .slice p m c]] W fun e B => e = .returned (.func (.func 77) #[] #[.pointer (some ⟨W.heap.size, 0, none⟩)]) ∧ B = W.alloc (.cells #[.int .i64 z, .slice p m c] 24) := by
  refine callsIn_of_wp Try.func55 rfl trivial ?_ rfl
  simp only [Try.ntmps55, List.size_toArray, List.length_cons, List.length_nil, Nat.reduceAdd, Nat.reduceSub, Array.replicate_succ, Array.replicate_zero, List.push_toArray, List.append_toArray, List.nil_append, List.cons_append]
  gi_wp2
  go_ret
  exact ⟨rfl, rfl⟩
/-- .. it vows. -/
theorem fields_vow (n : Nat) (hn : 1 ≤ n) (Bn n₀ : Nat) (v : Value) (fs : List Fld) (h16 : fs.length ≤ 16) (hnm : ∀ f ∈ fs, f.1.length ≤ 4096) (hx : ∀ f ∈ fs, f.2.length ≤ 4096) (w : World) (hBn : Bn < w.heap.size) (hn₀ : n₀ ≤ w.heap.size) (hc : w.cell? ⟨Bn, 1, none⟩ = some v) (hb : RBel fldC n₀ w v fs) :
    Vows Fence.wide n Try.prog 77 #[.pointer (some ⟨Bn, 0, none⟩)] encI n₀ Vow (fun xs => Tr fs xs fs.length) (fun pre => ∃ k, Tr fs pre k) 16 w :=
  fun l J Jx W hW hJ _ hY h0 => iter_in n hn l Bn n₀ 0 v fs h16 hnm hx J Jx hJ hY W ((hW.cell (p := ⟨Bn, 1, none⟩) hBn).trans hc) (hb.below (hW.mono hn₀)) (by have := hW.size; omega) h0
end Go.Proofs.Ytgacfihidpijeaa.EV
set_option linter.unusedVariables false
namespace Go.Proofs.Ytgacfihidpijeaa.EV
open Go Go.RowKit Go.Proofs.Ytgacfihidpijeaa.MM Go.Proofs.Ytgacfihidpijeaa.EM Go.Proofs.Ytgacfihidpijeaa.VM

theorem num_ok {m : Nat} {l : List UInt8} (o : Bool) (h : (getL l).2.2 = 0) (h2 : (getL l).1 ≤ m) : numSt m l o = ((getL l).1, l.drop (getL l).2.1, o) := by
  unfold numSt VG.restL
  rw [if_pos ⟨h, h2⟩, if_pos h]
theorem num_no {m : Nat} {l : List UInt8} (o : Bool) (h : (getL l).2.2 ≠ 0 ∨ m < (getL l).1) : numSt m l o = (0, [], true) := by
  unfold numSt
  rw [if_neg (fun hc => h.elim (fun h => h hc.1) (fun h => by omega))]
theorem num_le (m : Nat) (l : List UInt8) (o : Bool) : (numSt m l o).1 ≤ m := by
  unfold numSt
  split
  · rename_i h; exact h.2
  · exact Nat.zero_le _
theorem num_odd (m : Nat) (l : List UInt8) : (numSt m l true).2.2 = true := by
  unfold numSt
  split <;> rfl
theorem tim_ok {l : List UInt8} (o : Bool) (h : (getI l).2.2 = 0) : timSt l o = ((getI l).1, l.drop (getI l).2.1, o) := by
  unfold timSt VG.restL
  have h' : (getL l).2.2 = 0 := h
  rw [if_pos h', h]
  simp [getI]
theorem tim_no {l : List UInt8} (o : Bool) (h : (getI l).2.2 ≠ 0) : (timSt l o).2.2 = true := by
  unfold timSt
  have : ((getI l).2.2 != 0) = true := by rw [bne_iff_ne]; exact h
  simp [this]
theorem tim_odd (l : List UInt8) : (timSt l true).2.2 = true := by unfold timSt; simp
theorem txt_ok {m : Int} {l : List UInt8} (o : Bool) (h : (getT l m).2.2 = 0) : txtSt m l o = ((getT l m).1, l.drop (getT l m).2.1, o) := by
  unfold txtSt VG.restT
  rw [if_pos h, h]
  simp
theorem txt_no {m : Int} {l : List UInt8} (o : Bool) (h : (getT l m).2.2 ≠ 0) : (txtSt m l o).2.2 = true := by
  unfold txtSt
  have : ((getT l m).2.2 != 0) = true := by rw [bne_iff_ne]; exact h
  simp [this]
theorem txt_odd (m : Int) (l : List UInt8) : (txtSt m l true).2.2 = true := by unfold txtSt; simp

/-! ### fields -/
abbrev FSt := List Fld × List UInt8 × Bool
/-- A field more. -/
def stepF (s : FSt) : FSt :=
  (s.1 ++ [((txtSt 32 s.2.1 s.2.2).1, (txtSt 4096 (txtSt 32 s.2.1 s.2.2).2.1 (txtSt 32 s.2.1 s.2.2).2.2).1)], (txtSt 4096 (txtSt 32 s.2.1 s.2.2).2.1 (txtSt 32 s.2.1 s.2.2).2.2).2.1, (txtSt 4096 (txtSt 32 s.2.1 s.2.2).2.1 (txtSt 32 s.2.1 s.2.2).2.2).2.2)
def fldsN : Nat → FSt → FSt
  | 0, s => s
  | k + 1, s => stepF (fldsN k s)
theorem fldsN_front : ∀ (k : Nat) (s : FSt), fldsN (k + 1) s = fldsN k (stepF s)
  | 0, s => rfl
  | k + 1, s => by rw [fldsN, fldsN_front k s, ← fldsN]
theorem stepF_odd {s : FSt} (h : s.2.2 = true) : (stepF s).2.2 = true := by
  unfold stepF
  rw [h]
  have := txt_odd 32 s.2.1
  rw [this]
  exact txt_odd _ _
theorem fldsN_odd : ∀ (k : Nat) {s : FSt}, s.2.2 = true → (fldsN k s).2.2 = true
  | 0, _, h => h
  | k + 1, _, h => stepF_odd (fldsN_odd k h)
theorem fldsN_len : ∀ (k : Nat) (s : FSt), (fldsN k s).1.length = s.1.length + k
  | 0, s => rfl
  | k + 1, s => by rw [fldsN]; unfold stepF; simp [fldsN_len k s]; omega
theorem flds_some : ∀ (k : Nat) (acc : List Fld) (l : List UInt8) (o : Bool) (fs : List Fld) (r : List UInt8), getFa k acc l = some (fs, r) → fldsN k (acc, l, o) = (fs, r, o)
  | 0, acc, l, o, fs, r, h => by
    rw [getFa] at h
    simp only [Option.some.injEq, Prod.mk.injEq] at h
    rw [fldsN, h.1, h.2]
  | k + 1, acc, l, o, fs, r, h => by
    rw [getFa] at h
    split at h
    · cases h
    · rename_i hn
      have h1 : (getT l 32).2.2 = 0 := Classical.byContradiction fun hc => hn (.inl hc)
      have h2 : (getT (l.drop (getT l 32).2.1) 4096).2.2 = 0 := Classical.byContradiction fun hc => hn (.inr hc)
      rw [fldsN_front]
      have e : stepF (acc, l, o) = (acc ++ [((getT l 32).1, (getT (l.drop (getT l 32).2.1) 4096).1)], (l.drop (getT l 32).2.1).drop (getT (l.drop (getT l 32).2.1) 4096).2.1, o) := by
        unfold stepF
        dsimp only
        rw [txt_ok o h1]
        dsimp only
        rw [txt_ok o h2]
      rw [e]
      exact flds_some k _ _ _ _ _ h
theorem flds_none : ∀ (k : Nat) (acc : List Fld) (l : List UInt8) (o : Bool), getFa k acc l = none → (fldsN k (acc, l, o)).2.2 = true
  | 0, acc, l, o, h => by rw [getFa] at h; cases h
  | k + 1, acc, l, o, h => by
    rw [getFa] at h
    rw [fldsN_front]
    by_cases h1 : (getT l 32).2.2 = 0
    · by_cases h2 : (getT (l.drop (getT l 32).2.1) 4096).2.2 = 0
      · rw [if_neg (fun hc => hc.elim (fun h => h h1) (fun h => h h2))] at h
        have e : stepF (acc, l, o) = (acc ++ [((getT l 32).1, (getT (l.drop (getT l 32).2.1) 4096).1)], (l.drop (getT l 32).2.1).drop (getT (l.drop (getT l 32).2.1) 4096).2.1, o) := by
          unfold stepF
          dsimp only
          rw [txt_ok o h1]
          dsimp only
          rw [txt_ok o h2]
        rw [e]
        exact flds_none k _ _ _ h
      · refine fldsN_odd k ?_
        unfold stepF
        dsimp only
        rw [txt_ok o h1]
        dsimp only
        exact txt_no o h2
    · refine fldsN_odd k ?_
      unfold stepF
      dsimp only
      rw [txt_no o h1]
      exact txt_odd _ _

/-! ### events -/
def evSt (l : List UInt8) (o : Bool) : Ev × List UInt8 × Bool :=
  (((timSt l o).1, (fldsN (numSt 16 (timSt l o).2.1 (timSt l o).2.2).1 ([], (numSt 16 (timSt l o).2.1 (timSt l o).2.2).2.1, (numSt 16 (timSt l o).2.1 (timSt l o).2.2).2.2)).1),
    (fldsN (numSt 16 (timSt l o).2.1 (timSt l o).2.2).1 ([], (numSt 16 (timSt l o).2.1 (timSt l o).2.2).2.1, (numSt 16 (timSt l o).2.1 (timSt l o).2.2).2.2)).2.1,
    (fldsN (numSt 16 (timSt l o).2.1 (timSt l o).2.2).1 ([], (numSt 16 (timSt l o).2.1 (timSt l o).2.2).2.1, (numSt 16 (timSt l o).2.1 (timSt l o).2.2).2.2)).2.2)
theorem evSt_odd (l : List UInt8) : (evSt l true).2.2 = true := by
  unfold evSt
  dsimp only
  refine fldsN_odd _ ?_
  dsimp only
  rw [tim_odd]
  exact num_odd _ _
theorem evSt_len (l : List UInt8) (o : Bool) : (evSt l o).1.2.length ≤ 16 := by
  unfold evSt
  dsimp only
  rw [fldsN_len]
  have := num_le 16 (timSt l o).2.1 (timSt l o).2.2
  simp only [List.length_nil]
  omega
theorem ev_some {l r : List UInt8} {e : Ev} (o : Bool) (h : rdE l = some (e, r)) : evSt l o = (e, r, o) := by
  unfold rdE at h
  split at h
  · cases h
  · rename_i h1
    split at h
    · cases h
    · rename_i h2
      have h1 : (getI l).2.2 = 0 := by simpa using h1
      have h3 : (getL (l.drop (getI l).2.1)).2.2 = 0 := Classical.byContradiction fun hc => h2 (.inl hc)
      have h4 : (getL (l.drop (getI l).2.1)).1 ≤ 16 := Nat.not_lt.1 fun hc => h2 (.inr hc)
      cases hg : getFa (getL (l.drop (getI l).2.1)).1 [] ((l.drop (getI l).2.1).drop (getL (l.drop (getI l).2.1)).2.1) with
      | none => rw [hg] at h; cases h
      | some p =>
        obtain ⟨fs, r2⟩ := p
        rw [hg] at h
        simp only [Option.some.injEq, Prod.mk.injEq] at h
        obtain ⟨rfl, rfl⟩ := h
        unfold evSt
        rw [tim_ok o h1]
        dsimp only
        rw [num_ok o h3 h4]
        dsimp only
        rw [flds_some _ _ _ o _ _ hg]
theorem ev_none {l : List UInt8} (o : Bool) (h : rdE l = none) : (evSt l o).2.2 = true := by
  unfold evSt
  dsimp only
  by_cases h1 : (getI l).2.2 = 0
  · rw [tim_ok o h1]
    dsimp only
    by_cases h2 : (getL (l.drop (getI l).2.1)).2.2 ≠ 0 ∨ 16 < (getL (l.drop (getI l).2.1)).1
    · rw [num_no o h2]
      exact fldsN_odd _ rfl
    · have h3 : (getL (l.drop (getI l).2.1)).2.2 = 0 := Classical.byContradiction fun hc => h2 (.inl hc)
      have h4 : (getL (l.drop (getI l).2.1)).1 ≤ 16 := Nat.not_lt.1 fun hc => h2 (.inr hc)
      rw [num_ok o h3 h4]
      dsimp only
      unfold rdE at h
      rw [if_neg (by simpa using h1), if_neg h2] at h
      cases hg : getFa (getL (l.drop (getI l).2.1)).1 [] ((l.drop (getI l).2.1).drop (getL (l.drop (getI l).2.1)).2.1) with
      | none => exact flds_none _ _ _ _ hg
      | some p => rw [hg] at h; cases h
  · refine fldsN_odd _ ?_
    dsimp only
    rw [tim_no o h1]
    exact num_odd _ _

/-! ### batches -/
abbrev BSt := List Ev × List UInt8 × Bool
def stepE (s : BSt) : BSt := (s.1 ++ [(evSt s.2.1 s.2.2).1], (evSt s.2.1 s.2.2).2.1, (evSt s.2.1 s.2.2).2.2)
def evsN : Nat → BSt → BSt
  | 0, s => s
  | k + 1, s => stepE (evsN k s)
theorem evsN_front : ∀ (k : Nat) (s : BSt), evsN (k + 1) s = evsN k (stepE s)
  | 0, s => rfl
  | k + 1, s => by rw [evsN, evsN_front k s, ← evsN]
theorem evsN_odd : ∀ (k : Nat) {s : BSt}, s.2.2 = true → (evsN k s).2.2 = true
  | 0, _, h => h
  | k + 1, s, h => by
    rw [evsN]
    unfold stepE
    dsimp only
    rw [evsN_odd k h]
    exact evSt_odd _
theorem evsN_len : ∀ (k : Nat) (s : BSt), (evsN k s).1.length = s.1.length + k
  | 0, s => rfl
  | k + 1, s => by rw [evsN]; unfold stepE; simp [evsN_len k s]; omega
theorem evsN_mem : ∀ (k : Nat) {s : BSt} {e : Ev}, e ∈ s.1 → e ∈ (evsN k s).1
  | 0, _, _, h => h
  | k + 1, s, e, h => by
    rw [evsN]
    unfold stepE
    exact List.mem_append_left _ (evsN_mem k h)
theorem evs_some : ∀ (k : Nat) (acc : List Ev) (l : List UInt8) (o : Bool) (es : List Ev) (r : List UInt8), getBa k acc l = some (es, r) → evsN k (acc, l, o) = (es, r, o)
  | 0, acc, l, o, es, r, h => by
    rw [getBa] at h
    simp only [Option.some.injEq, Prod.mk.injEq] at h
    rw [evsN, h.1, h.2]
  | k + 1, acc, l, o, es, r, h => by
    rw [getBa] at h
    cases hg : getE l with
    | none => rw [hg] at h; cases h
    | some p =>
      obtain ⟨e, r1⟩ := p
      rw [hg] at h
      dsimp only at h
      have hr : rdE l = some (e, r1) := by
        unfold getE at hg
        cases hr : rdE l with
        | none => rw [hr] at hg; cases hg
        | some q =>
          rw [hr] at hg
          obtain ⟨e2, r2⟩ := q
          dsimp only at hg
          split at hg
          · rw [Option.some.injEq] at hg; rw [hg]
          · cases hg
      rw [evsN_front]
      have e : stepE (acc, l, o) = (acc ++ [e], r1, o) := by
        unfold stepE
        dsimp only
        rw [ev_some o hr]
      rw [e]
      exact evs_some k _ _ _ _ _ h
theorem evs_none : ∀ (k : Nat) (acc : List Ev) (l : List UInt8) (o : Bool), getBa k acc l = none → (evsN k (acc, l, o)).2.2 = true ∨ ∃ e ∈ (evsN k (acc, l, o)).1, checkE e ≠ 0
  | 0, acc, l, o, h => by rw [getBa] at h; cases h
  | k + 1, acc, l, o, h => by
    rw [getBa] at h
    rw [evsN_front]
    cases hr : rdE l with
    | none =>
      refine .inl (evsN_odd k ?_)
      unfold stepE
      exact ev_none o hr
    | some q =>
      obtain ⟨e, r⟩ := q
      have es : stepE (acc, l, o) = (acc ++ [e], r, o) := by
        unfold stepE
        dsimp only
        rw [ev_some o hr]
      rw [es]
      by_cases hc : checkE e = 0
      · have hg : getE l = some (e, r) := by unfold getE; rw [hr]; dsimp only; rw [if_pos hc]
        rw [hg] at h
        exact evs_none k _ _ _ h
      · exact .inr ⟨e, evsN_mem k (by simp), hc⟩
/-- What the code's Decode has read. -/
def decSt (l : List UInt8) : Bat × List UInt8 × Bool :=
  (((numSt 1099511627776 l false).1, (evsN (numSt 64 (numSt 1099511627776 l false).2.1 (numSt 1099511627776 l false).2.2).1 ([], (numSt 64 (numSt 1099511627776 l false).2.1 (numSt 1099511627776 l false).2.2).2.1, (numSt 64 (numSt 1099511627776 l false).2.1 (numSt 1099511627776 l false).2.2).2.2)).1),
    (evsN (numSt 64 (numSt 1099511627776 l false).2.1 (numSt 1099511627776 l false).2.2).1 ([], (numSt 64 (numSt 1099511627776 l false).2.1 (numSt 1099511627776 l false).2.2).2.1, (numSt 64 (numSt 1099511627776 l false).2.1 (numSt 1099511627776 l false).2.2).2.2)).2.1,
    (evsN (numSt 64 (numSt 1099511627776 l false).2.1 (numSt 1099511627776 l false).2.2).1 ([], (numSt 64 (numSt 1099511627776 l false).2.1 (numSt 1099511627776 l false).2.2).2.1, (numSt 64 (numSt 1099511627776 l false).2.1 (numSt 1099511627776 l false).2.2).2.2)).2.2)
theorem decSt_some {l r : List UInt8} {b : Bat} (h : rdB l = some (b, r)) : decSt l = (b, r, false) := by
  unfold rdB at h
  split at h
  · cases h
  · rename_i h1
    split at h
    · cases h
    · rename_i h2
      have a1 : (getL l).2.2 = 0 := Classical.byContradiction fun hc => h1 (.inl hc)
      have a2 : (getL l).1 ≤ 1099511627776 := Nat.not_lt.1 fun hc => h1 (.inr hc)
      have a3 : (getL (l.drop (getL l).2.1)).2.2 = 0 := Classical.byContradiction fun hc => h2 (.inl hc)
      have a4 : (getL (l.drop (getL l).2.1)).1 ≤ 64 := Nat.not_lt.1 fun hc => h2 (.inr hc)
      cases hg : getBa (getL (l.drop (getL l).2.1)).1 [] ((l.drop (getL l).2.1).drop (getL (l.drop (getL l).2.1)).2.1) with
      | none => rw [hg] at h; cases h
      | some p =>
        obtain ⟨es, r2⟩ := p
        rw [hg] at h
        simp only [Option.some.injEq, Prod.mk.injEq] at h
        obtain ⟨rfl, rfl⟩ := h
        unfold decSt
        rw [num_ok false a1 a2]
        dsimp only
        rw [num_ok false a3 a4]
        dsimp only
        rw [evs_some _ _ _ false _ _ hg]
theorem decSt_none {l : List UInt8} (h : rdB l = none) : (decSt l).2.2 = true ∨ ∃ e ∈ (decSt l).1.2, checkE e ≠ 0 := by
  unfold decSt
  dsimp only
  by_cases h1 : (getL l).2.2 ≠ 0 ∨ 1099511627776 < (getL l).1
  · rw [num_no false h1]
    refine .inl (evsN_odd _ ?_)
    exact num_odd _ _
  · have a1 : (getL l).2.2 = 0 := Classical.byContradiction fun hc => h1 (.inl hc)
    have a2 : (getL l).1 ≤ 1099511627776 := Nat.not_lt.1 fun hc => h1 (.inr hc)
    rw [num_ok false a1 a2]
    dsimp only
    by_cases h2 : (getL (l.drop (getL l).2.1)).2.2 ≠ 0 ∨ 64 < (getL (l.drop (getL l).2.1)).1
    · rw [num_no false h2]
      exact .inl (evsN_odd _ rfl)
    · have a3 : (getL (l.drop (getL l).2.1)).2.2 = 0 := Classical.byContradiction fun hc => h2 (.inl hc)
      have a4 : (getL (l.drop (getL l).2.1)).1 ≤ 64 := Nat.not_lt.1 fun hc => h2 (.inr hc)
      rw [num_ok false a3 a4]
      dsimp only
      unfold rdB at h
      rw [if_neg h1, if_neg h2] at h
      cases hg : getBa (getL (l.drop (getL l).2.1)).1 [] ((l.drop (getL l).2.1).drop (getL (l.drop (getL l).2.1)).2.1) with
      | none => exact evs_none _ _ _ _ hg
      | some p => rw [hg] at h; cases h
end Go.Proofs.Ytgacfihidpijeaa.EV
set_option linter.unusedVariables false
namespace Go.Proofs.Ytgacfihidpijeaa.EV
open Go Go.RowKit Go.Proofs.Ytgacfihidpijeaa.MM Go.Proofs.Ytgacfihidpijeaa.EM

def FitBat (b : Bat) : Prop := FitI b.1 ∧ (∀ e ∈ b.2, FitEv e) ∧ b.2.length ≤ maxLen
theorem reads_bat : Reads Try.prog batC FitBat 34 := reads_pair Try.underlying34 rfl rfl (by kernel_rfl) (by kernel_rfl) (by kernel_rfl) (reads_int Try.underlying3) (reads_row Try.underlying32 (by kernel_rfl) reads_ev)
end Go.Proofs.Ytgacfihidpijeaa.EV
