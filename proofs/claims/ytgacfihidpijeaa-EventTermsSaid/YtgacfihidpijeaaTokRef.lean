/-
  The reference's Tokens and Words. Condition: texts of at most a million bytes.
-/
import Derived.Test.YtgacfihidpijeaaTokToks
set_option linter.unusedVariables false
namespace Go.Proofs.Ytgacfihidpijeaa.TK
open Go.RowKit Go.Proofs.Ytgacfihidpijeaa.MM
open Go.Proofs.Ytgacfihidpijeaa.UM (lowerZ wordZ encL runesL)

theorem cell_new2 (w : World) (x y : Value) (t : TypeId) : ∀ j u, [x, y][j]? = some u → (w.alloc (.cells #[x, y] t)).cell? ((⟨w.heap.size, 0, none⟩ : Addr).add j) = some u := by
  intro j u hj
  match j, hj with
  | 0, hj => simp at hj; subst hj; simp [Addr.add]
  | 1, hj => simp at hj; subst hj; simp [Addr.add]
  | (j + 2), hj => simp at hj
/-- append(row, Token{x, p}). -/
theorem wpList_append_tok {w : World} {ops : Array Oper} {rest : List Oper} {o : Oper} {a : Act} {Q : Exit → Act → World → Prop} (hgd : o.guard = none) (s x : Operand)
    (ho : o.op = .call { callee := .builtin .append, args := #[s, x], argTypes := #[65, 65] }) (B : Nat) (v : Value) (ts : List (List UInt8 × Int)) (w0 : World) (z : List UInt8) (p : Int) (hw : w = w0.alloc (.cells #[.string ⟨z.toArray⟩, .int .i64 p] 97)) (hs : a.eval s = v) (hown : OwnK B w0 v ts)
    (hx : a.eval x = .slice (some ⟨w0.heap.size, 0, none⟩) 1 1) (hlen : ts.length ≤ 1000000000000) (hbase : B ≤ w0.heap.size)
    (h : ∀ v' w', OwnK B w' v' (ts ++ [(z, p)]) → Below B w0 w' → wpList Try.prog ops Q rest (a.put o.dst v') w') : wpList Try.prog ops Q (o :: rest) a w := by
  subst hw
  obtain ⟨i0, hi, hz0, hz1, hz2⟩ := info_parts infoTok
  have hlo : ∀ k, v.ownBlock = some k → B ≤ k := fun k hk => (World.ownsRow.lt hown k hk).1
  refine wpList_append_own _ hgd s x 65 ho B 97 i0 (.agg #[.string ⟨#[]⟩, .int .i64 0]) 2 24 Try.underlying65 hi hz0 hz1 hz2 rfl (by decide) v ts.length _ hs (World.ownsRow.alloc hown _) ⟨w0.heap.size, 0, none⟩ 1 1 [.string ⟨z.toArray⟩, .int .i64 p] hx rfl (cell_new2 _ _ _ _) (by intro u hu; simp at hu; rcases hu with rfl | rfl <;> rfl)
    (by unfold maxLen; omega) (by omega) (by simp; omega) (fun v' w' h1 hg _ => h v' w' ?_ (below_app (Below.refl B w0) hbase hlo hg))
  unfold OwnK
  rw [List.length_append, tokCells_append]
  exact h1

theorem IIn.cellAt {B : Nat} {w : World} {b off n cap : Nat} {zs : List Int} (h : IIn B w (.slice (some ⟨b, off, none⟩) n cap) zs) {k : Nat} (hk : k < zs.length) :
    b < B ∧ w.cell? ⟨b, off + k, none⟩ = some (.int .i64 (zs.getD k 0)) := by
  obtain ⟨b', off', hp, hb, hc⟩ := h.at_ hk
  simp only [Option.some.injEq, Addr.mk.injEq] at hp
  obtain ⟨rfl, rfl, _⟩ := hp
  exact ⟨hb, hc⟩
theorem wordsR_nil : wordsR [] = [] := rfl
theorem wordsR_skip {r : Int} {t : List Int} (h : wordZ r = false) : wordsR (r :: t) = wordsR t := by
  have := rowsL_part (p := []) (t := t) (by simp) h
  unfold wordsR
  rw [List.nil_append, one_nil, List.nil_append] at this
  rw [this]
/-- A row that is taken as a whole. -/
theorem far_row {all rest : List Int} {ss : List (List UInt8)} {j : Nat} (h : Far all rest ss) (hj : j ≤ rest.length) (h0 : j ≠ 0) (hw : ∀ r ∈ rest.take j, wordZ r = true) (hn : j = rest.length ∨ wordZ (rest.getD j 0) = false) :
    Far all (rest.drop j) (ss ++ [cutW (rest.take j)]) := by
  have hne : rest.take j ≠ [] := by
    intro e
    have := congrArg List.length e
    rw [List.length_take, List.length_nil] at this
    omega
  have h1 : wordsR rest = cutW (rest.take j) :: wordsR (rest.drop j) := by
    by_cases he : j = rest.length
    · subst he
      rw [List.drop_length, wordsR_nil]
      rw [List.take_length] at hw hne ⊢
      unfold wordsR
      rw [rowsL_all hw, one_ne hne]; rfl
    · have hlt : j < rest.length := by omega
      have hnn : wordZ (rest.getD j 0) = false := hn.resolve_left he
      have hd : rest.drop j = rest.getD j 0 :: rest.drop (j + 1) := by rw [List.drop_eq_getElem_cons hlt]; simp [List.getD, hlt]
      have e : rest = rest.take j ++ rest.getD j 0 :: rest.drop (j + 1) := by rw [← hd]; exact (List.take_append_drop j rest).symm
      rw [hd, wordsR_skip hnn]
      conv => lhs; rw [e]
      unfold wordsR
      rw [rowsL_part hw hnn, one_ne hne]
      rfl
  refine ⟨by rw [List.append_assoc, List.singleton_append, ← h1]; exact h.1, ?_⟩
  have h2 := h.2
  rw [List.length_append, List.length_drop, List.length_singleton]
  omega
theorem far_skip {all rest : List Int} {ss : List (List UInt8)} (h : Far all rest ss) (hl : 0 < rest.length) (hn : wordZ (rest.getD 0 0) = false) : Far all (rest.drop 1) ss := by
  have := far_stop (k := 0) h hl (by simp) hn
  simpa [one_nil] using this

set_option maxRecDepth 100000 in
set_option maxHeartbeats 400000 in
theorem rtokens_any (s : ByteArray) (w : World) (hs : s.size ≤ 1000000) : Calls Try.prog 39 #[.string s] w (ToksLeft (numT (wordsB s.data.toList)) w) := by
  have hrun := UM.rrunes_any s w hs
  have hlen := UM.runesL_length s.data.toList
  rw [← Lib.size_eq] at hlen
  unfold UM.RunesLeft at hrun
  unfold wordsB
  obtain ⟨zs, hz⟩ : ∃ zs, runesL s.data.toList = zs := ⟨_, rfl⟩
  rw [hz] at hrun hlen ⊢
  have HR := Lib.hid hrun
  have hzl : zs.length ≤ 1000000 := by omega
  clear hrun hz hlen
  go_enter Try.func39, Try.ntmps39
  go_wp2_with fail
  refine HR.out.mono ?_
  rintro e w1 ⟨v, rfl, hown, hb1⟩
  have hir : IIn w1.heap.size w1 v zs := OwnI.irow hown
  obtain ⟨p, cap, rfl, hlc, hcm⟩ := hir.shape
  unfold maxLen at hcm
  have HI := Lib.hid hir
  have HB1 := Lib.hid hb1
  have hsz1 := hb1.size
  have HO0 : Hid (OwnK w1.heap.size w1 (.slice none 0 0) (numT [])) := Lib.hid (OwnK.nil_ _ _)
  have HF0 : Hid (Far zs (zs.drop 0) []) := Lib.hid ⟨rfl, by simp⟩
  have HB0 : Hid (Below w1.heap.size w1 w1) := Lib.hid (Below.refl _ _)
  clear hir hown hb1 HR
  go_wp2_with fail
  go_loopw [3, 5] (fun u a wr => ∃ (k : Nat) (ss : List (List UInt8)), k ≤ zs.length ∧ a = .int .i64 k ∧ Hid (Far zs (zs.drop k) ss) ∧ Hid (OwnK w1.heap.size wr u (numT ss)) ∧ Hid (Below w1.heap.size w1 wr)) (fun _ a _ => zs.length - (intOf a).toNat)
  case atStart => exact ⟨0, [], by omega, rfl, HF0, HO0, HB0⟩
  case round =>
    obtain ⟨k, ss, hk, rfl, HF, HO, HB⟩ := hrel
    clear HF0 HO0 HB0
    by_cases hlt : k < zs.length
    · have t1 : decide ((k : Int) < (zs.length : Int)) = true := by simp; omega
      obtain ⟨b, off, rfl, _, _⟩ := HI.out.at_ hlt
      have HW0 : Hid (∀ r ∈ (zs.drop k).take 0, wordZ r = true) := Lib.hid (by simp)
      go_wp2_with fail
      go_loopw [6] (fun e wr => ∃ m : Nat, k ≤ m ∧ m ≤ zs.length ∧ e = .int .i64 (m : Int) ∧ Hid (∀ r ∈ (zs.drop k).take (m - k), wordZ r = true) ∧ Hid (OwnK w1.heap.size wr u3 (numT ss)) ∧ Hid (Below w1.heap.size w1 wr)) (fun e _ => zs.length - (intOf e).toNat)
      case atStart => exact ⟨k, by omega, by omega, rfl, by rw [Nat.sub_self]; exact HW0, HO, HB⟩
      case round =>
        obtain ⟨m, hkm, hmn, rfl, HW, HO, HB⟩ := hrel
        clear HW0
        have hsz := HB.out.size
        by_cases hlt2 : m < zs.length
        · have t2 : decide ((m : Int) < (zs.length : Int)) = true := by simp; omega
          obtain ⟨hbl, hcell⟩ := HI.out.cellAt hlt2
          have hcell2 := (HB.out.cell (p := ⟨b, off + m, none⟩) hbl).trans hcell
          have hword := fun W => UM.rword_any (zs.getD m 0) W
          obtain ⟨r, hrr⟩ : ∃ r, zs.getD m 0 = r := ⟨_, rfl⟩
          rw [hrr] at hcell2
          simp only [hrr] at hword
          cases hz : wordZ r with
          | true =>
            simp only [hz] at hword
            have hmore := take_more (rest := zs.drop k) (k := m - k) (by rw [List.length_drop]; omega) HW.out (by rw [List.getD_eq_getElem?_getD, List.getElem?_drop, show k + (m - k) = m by omega, ← List.getD_eq_getElem?_getD, hrr]; exact hz)
            rw [show m - k + 1 = m + 1 - k by omega] at hmore
            have HWn := Lib.hid hmore
            have HWd := Lib.hid hword
            clear hword hz hrr HW hmore hcell
            go_wp2_with fail
            refine (HWd.out _).mono ?_
            rintro e w2 ⟨rfl, rfl⟩
            clear HWd
            go_wp2_with fail
            go_roundw
            case rel => exact ⟨m + 1, by omega, by omega, by go_num, HWn, HO, HB⟩
            case measure => simp [intOf]; omega
          | false =>
            simp only [hz] at hword
            have HWd := Lib.hid hword
            by_cases hmk : m = k
            · subst hmk
              have hsk := far_skip HF.out (by rw [List.length_drop]; omega) (by rw [List.getD_eq_getElem?_getD, List.getElem?_drop, Nat.add_zero, ← List.getD_eq_getElem?_getD, hrr]; exact hz)
              rw [List.drop_drop] at hsk
              have HSK := Lib.hid hsk
              have t4 : ((m : Int) == (m : Int)) = true := by simp
              clear hword hz hrr HW hsk hcell
              go_wp2_with fail
              refine (HWd.out _).mono ?_
              rintro e w2 ⟨rfl, rfl⟩
              clear HWd
              go_wp2_with fail
              go_roundw
              case rel => exact ⟨m + 1, ss, by omega, by go_num, HSK, HO, HB⟩
              case measure => simp [intOf]; omega
            · go_wp2_with fail
              refine (HWd.out _).mono ?_
              rintro e w2 ⟨rfl, rfl⟩
              have HB2 := HB
              have HO2 := HO
              clear hword HWd hcell
              have hst := far_row HF.out (j := m - k) (by rw [List.length_drop]; omega) (by omega) HW.out (.inr (by rw [List.getD_eq_getElem?_getD, List.getElem?_drop, show k + (m - k) = m by omega, ← List.getD_eq_getElem?_getD, hrr]; exact hz))
              rw [List.drop_drop, show k + (m - k) = m by omega] at hst
              have hrow := (((HI.out.drop2 k (by omega)).2 (by omega)).take (m - k) (by omega)).below (HB2.out)
              have hcu := rcut_any _ _ _ (hrow.row (HB2.out.size)) (by rw [List.length_take, List.length_drop]; omega)
              obtain ⟨X, hX⟩ : ∃ X, cutW ((zs.drop k).take (m - k)) = X := ⟨_, rfl⟩
              rw [hX] at hst hcu
              have HST := Lib.hid hst
              have HCU := Lib.hid hcu
              have hf2 := HF.out.2
              have t4 : ((m : Int) == (k : Int)) = false := by simp; omega
              have i1 : (k : Int) ≤ (m : Int) := by omega
              have i2 : (m : Int) ≤ (cap : Int) := by omega
              have i3 : ((m : Int) - (k : Int)).toNat = m - k := by omega
              clear hst hcu hrow hX HW
              go_wp2_with fail
              refine HCU.out.mono ?_
              rintro e w3 ⟨rfl, hb3⟩
              have HO3 := Lib.hid (HO2.out.keep hb3)
              have HB3 := Lib.hid (HB2.out.trans (hb3.mono HB2.out.size))
              have hsz3 := HB3.out.size
              have hlen := HO3.out.shape
              obtain ⟨q, capq, rfl, hqc, hqm⟩ := hlen
              rw [numT_len] at hqc HO3 ⊢
              clear hb3 HCU
              go_wp2_with (at_builtin; refine wpList_append_tok rfl _ _ rfl w1.heap.size _ (numT ss) w3 X (ss.length : Int) rfl rfl HO3.out rfl (by rw [numT_len]; omega) hsz3 ?_)
              intro v4 w4 hown4 hb4
              rw [← numT_snoc] at hown4
              have HO4 := Lib.hid hown4
              have HB4 := Lib.hid (HB3.out.trans hb4)
              clear hown4 hb4
              go_wp2_with fail
              go_roundw
              case rel => exact ⟨m, ss ++ [X], by omega, rfl, HST, HO4, HB4⟩
              case measure => simp [intOf]; omega
        · obtain rfl : m = zs.length := by omega
          have t2 : decide ((zs.length : Int) < (zs.length : Int)) = false := by simp
          have hst := far_row HF.out (j := zs.length - k) (by rw [List.length_drop]; omega) (by omega) HW.out (.inl (by rw [List.length_drop]))
          rw [List.drop_drop, show k + (zs.length - k) = zs.length by omega] at hst
          have hrow := (((HI.out.drop2 k (by omega)).2 (by omega)).take (zs.length - k) (by omega)).below (HB.out)
          have hcu := rcut_any _ _ _ (hrow.row (HB.out.size)) (by rw [List.length_take, List.length_drop]; omega)
          obtain ⟨X, hX⟩ : ∃ X, cutW ((zs.drop k).take (zs.length - k)) = X := ⟨_, rfl⟩
          rw [hX] at hst hcu
          have HST := Lib.hid hst
          have HCU := Lib.hid hcu
          have hf2 := HF.out.2
          have t4 : ((zs.length : Int) == (k : Int)) = false := by simp; omega
          have i1 : (k : Int) ≤ (zs.length : Int) := by omega
          have i2 : (zs.length : Int) ≤ (cap : Int) := by omega
          have i3 : ((zs.length : Int) - (k : Int)).toNat = zs.length - k := by omega
          clear hst hcu hrow hX HW
          go_wp2_with fail
          refine HCU.out.mono ?_
          rintro e w3 ⟨rfl, hb3⟩
          have HO3 := Lib.hid (HO.out.keep hb3)
          have HB3 := Lib.hid (HB.out.trans (hb3.mono HB.out.size))
          have hsz3 := HB3.out.size
          have hlen := HO3.out.shape
          obtain ⟨q, capq, rfl, hqc, hqm⟩ := hlen
          rw [numT_len] at hqc HO3 ⊢
          clear hb3 HCU
          go_wp2_with (at_builtin; refine wpList_append_tok rfl _ _ rfl w1.heap.size _ (numT ss) w3 X (ss.length : Int) rfl rfl HO3.out rfl (by rw [numT_len]; omega) hsz3 ?_)
          intro v4 w4 hown4 hb4
          rw [← numT_snoc] at hown4
          have HO4 := Lib.hid hown4
          have HB4 := Lib.hid (HB3.out.trans hb4)
          clear hown4 hb4
          go_wp2_with fail
          go_roundw
          case rel => exact ⟨zs.length, ss ++ [X], by omega, rfl, HST, HO4, HB4⟩
          case measure => simp [intOf]; omega
    · obtain rfl : k = zs.length := by omega
      have t1 : decide ((zs.length : Int) < (zs.length : Int)) = false := by simp
      have hf := HF.out.1
      rw [List.drop_length, wordsR_nil, List.append_nil] at hf
      subst hf
      have HK := Lib.hid HO.out.krow
      have HBf := Lib.hid (HB1.out.trans (HB.out.mono hsz1))
      clear HO HF
      go_wp2_with fail
      go_ret
      exact ⟨_, rfl, HK.out, HBf.out⟩
end Go.Proofs.Ytgacfihidpijeaa.TK
