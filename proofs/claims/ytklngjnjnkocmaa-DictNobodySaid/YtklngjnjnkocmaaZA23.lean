/-
  The bytes of a block of entries, and of a dictionary: the reference's. Condition: 262144 entries at most.
-/
import Derived.Test.YtklngjnjnkocmaaZA22
import Derived.Test.YtklngjnjnkocmaaZA17
import Derived.Test.YtklngjnjnkocmaaZA20
import Derived.Test.YtklngjnjnkocmaaZA21
set_option linter.unusedVariables false
namespace Go.Proofs.Ytklngjnjnkocmaa.DT
open Go Go.RowKit Go.Proofs.Ytklngjnjnkocmaa.MM Go.Proofs.Ytklngjnjnkocmaa.DM Go.Proofs.Ytklngjnjnkocmaa.VM Go.Proofs.Ytklngjnjnkocmaa.VP Go.Proofs.Ytklngjnjnkocmaa.GB

theorem bytesL_ne (n : Nat) : bytesL n ≠ [] := fun h => by
  have := bytesL_length n
  rw [h] at this
  simp at this
theorem textL_ne (s : List UInt8) : textL s ≠ [] := fun h => bytesL_ne _ (List.append_eq_nil_iff.1 h).1
/-- append(row, bytes...) of a row of the call's own, at a step of a region that draws. -/
theorem wp_append_own {B : Nat} {w : World} {o : Oper} {a : Act} {K : Act → World → Prop} {Q : Exit → Act → World → Prop} (s x : Operand)
    (ho : o.op = .call { callee := .builtin .append, args := #[s, x], argTypes := #[23, 23] }) (v : Value) (l : List UInt8) (hs : a.eval s = v) (hown : OwnB B w v l) (hB : B ≤ w.heap.size)
    (src : Value) (m : List UInt8) (hx : a.eval x = src) (hr : BRow w src m) (hm : m ≠ []) (hlen : l.length + m.length ≤ 140737488355328)
    (h : ∀ v' w', OwnB B w' v' (l ++ m) → Below B w w' → Kep (fun k => k < B) w w' → K (a.put o.dst v') w') : o.wp Try.prog a w K Q := by
  refine wp_append_grown s x ho v l hs (OwnB.zero hown) src m hx hr hm hlen fun v' w' h1 h2 => ?_
  have hv : ∀ k, v.ownBlock = some k → B ≤ k := fun k hk => (World.ownsRow.lt hown k hk).1
  have hk : Kep (fun k => k < B) w w' := h2.kep.mono fun k hk e => by have := hv k e; omega
  refine h v' w' (OwnB.from h1 fun k hk => ?_) (hk.below hB fun k h => h) hk
  rcases h2.2 k hk with e | e
  · exact hv k e
  · omega

set_option maxRecDepth 100000 in
theorem rnum_any (z : Int) (w : World) (h0 : 0 ≤ z) (h1 : z ≤ 9223372036854775807) : Calls Try.prog 31 #[.int .i64 z] w (PutLeft w.heap.size (bytesL z.toNat) w) := by
  obtain ⟨n, rfl⟩ := Int.eq_ofNat_of_zero_le h0
  have K := Lib.hid (rbytes_any n w (by omega))
  have e : IntKind.u64.wrap (n : Int) = (n : Int) := by rw [IntKind.wrap_u64]; omega
  rw [Int.toNat_natCast]
  go_enter Try.func31, Try.ntmps31
  go_wp2_with fail
  refine K.out.mono ?_
  rintro e w1 ⟨v1, rfl, hown1, hb1⟩
  have HO := Lib.hid hown1
  clear hown1
  go_wp2_with fail
  go_ret
  exact ⟨_, rfl, HO.out, hb1⟩
theorem rtext_l (t : List UInt8) (ht : t.length ≤ 4096) (W : World) : Calls Try.prog 55 #[.string ⟨t.toArray⟩] W (PutLeft W.heap.size (textL t) W) := by
  have h := rtext_any ⟨t.toArray⟩ W (by rw [str_sz]; omega)
  rw [str_list] at h
  exact h
theorem part_drop (l : List UInt8) (k : Nat) : (⟨l.toArray⟩ : ByteArray).extract k l.length = ⟨(l.drop k).toArray⟩ := by
  rw [text_part, List.take_of_length_le (by rw [List.length_drop]; exact Nat.le_refl _)]
/-- The term that stands ahead within a block. -/
def headT (l : List Ent) (i : Nat) : List UInt8 := ((l.take i).getLast?.map (·.1)).getD []
theorem headT_next {l : List Ent} {i : Nat} (hi : i < l.length) : headT l (i + 1) = l[i].1 := by
  unfold headT
  rw [List.take_succ_eq_append_getElem hi, List.getLast?_append, List.getLast?_singleton]
  rfl
theorem headT_len {l : List Ent} (h : ∀ x ∈ l, okX x = true) (i : Nat) : (headT l i).length ≤ 65 := by
  unfold headT
  cases e : (l.take i).getLast? with
  | none => simp
  | some x => exact ((okX_iff.1 (h x (List.mem_of_mem_take (List.mem_of_getLast? e)))).1.2)
theorem block_next {l : List Ent} {i : Nat} (hi : i < l.length) : blockB [] (l.take (i + 1)) = blockB [] (l.take i) ++ entB (headT l i) l[i] := by
  rw [List.take_succ_eq_append_getElem hi, blockB_snoc]
  rfl

set_option maxRecDepth 100000 in
set_option maxHeartbeats 4000000 in
theorem rblock_any (v : Value) (l : List Ent) (w : World) (hv : RAny entC w v l) (hx : ∀ x ∈ l, okX x = true) (hn : l.length ≤ 262144) : Calls Try.prog 32 #[v] w (PutLeft w.heap.size (blockB [] l) w) := by
  obtain ⟨p, cap, rfl, hlc, hcm, _⟩ := hv.shape
  unfold maxLen at hcm
  have hmx : Try.prog.follows .mixedOrders = true := by kernel_rfl
  have HV := Lib.hid hv
  have HX := Lib.hid hx
  have HEND : Hid (blockB [] (l.take l.length) = blockB [] l) := Lib.hid (by rw [List.take_length])
  have HLB := Lib.hid (fun i => blockB_len (l.take i) [] (fun x h => hx x (List.mem_of_mem_take h)))
  have HO0 : Hid (OwnB w.heap.size w (.slice none 0 0) (blockB [] (l.take 0))) := Lib.hid (World.ownsRow_nil _ _ _ _)
  clear hv hx
  go_enter Try.func32, Try.ntmps32
  go_wp2_with fail
  go_loopw [3, 4, 5] (fun bv av iv wr => ∃ (i : Nat) (A : List UInt8), i ≤ l.length ∧ iv = .int .i64 i ∧ av = .string ⟨A.toArray⟩ ∧ Hid (A = headT l i) ∧ Hid (OwnB w.heap.size wr bv (blockB [] (l.take i))) ∧ Hid (Below w.heap.size w wr)) (fun _ _ iv _ => l.length - (intOf iv).toNat)
  case atStart => exact ⟨0, [], by omega, rfl, rfl, Lib.hid rfl, HO0, Lib.hid (Below.refl _ _)⟩
  case round =>
    obtain ⟨i, A, hi, rfl, rfl, HA, HO, HB⟩ := hrel
    clear HO0
    by_cases hlt : i < l.length
    · have q1 : decide ((i : Int) < (l.length : Int)) = true := by rw [decide_eq_true_eq]; omega
      have q2 : decide (i < l.length) = true := by rw [decide_eq_true_eq]; omega
      have q3 : (i : Int) < (l.length : Int) := by omega
      obtain ⟨b, off, hbo, hbl, _, c1, c2, c3, c4⟩ := ent_at HV.out hlt
      subst hbo
      have hnx := block_next hlt
      have hah := headT_next hlt
      have hok := okX_iff.1 (HX.out l[i] (List.getElem_mem hlt))
      have hal : A.length ≤ 65 := by rw [HA.out]; exact headT_len HX.out i
      have hll := HLB.out (i + 1)
      rw [← HA.out] at hnx
      rw [List.length_take] at hll
      generalize l[i] = X at *
      obtain ⟨X1, z1, z2, z3⟩ := X
      dsimp only at *
      unfold entB at hnx
      dsimp only at hnx
      have hsl := sharedL_le A X1
      have hsz1 := str_sz X1
      have hsh := fun W => rshared_any A X1 W (by omega) (by omega)
      obtain ⟨k, hk⟩ : ∃ k, sharedL A X1 = k := ⟨_, rfl⟩
      rw [hk] at hnx hsl hsh
      obtain ⟨L, hL⟩ : ∃ L, blockB [] (l.take i) = L := ⟨_, rfl⟩
      rw [hL] at hnx HO
      have HLN : Hid ((L ++ bytesL k ++ textL (X1.drop k) ++ bytesL z1.toNat ++ bytesL z2.toNat ++ bytesL z3.toNat).length ≤ 140737488355328) := Lib.hid (by
        rw [hnx] at hll
        simp only [List.length_append] at hll ⊢
        omega)
      have HN : Hid (blockB [] (l.take (i + 1)) = L ++ bytesL k ++ textL (X1.drop k) ++ bytesL z1.toNat ++ bytesL z2.toNat ++ bytesL z3.toNat) := Lib.hid (by rw [hnx]; simp only [List.append_assoc])
      have HAH := Lib.hid hah
      have HSH := Lib.hid hsh
      have hkb : ((k : Nat) : Int) ≤ 9223372036854775807 := by omega
      have G := Lib.hid (fun W (hW : Below w.heap.size w W) => (show W.cell? ⟨b, off + i * 4, none⟩ = some (.string ⟨X1.toArray⟩) ∧ W.cell? ⟨b, off + i * 4 + 1, none⟩ = some (.int .i64 z1) ∧ W.cell? ⟨b, off + i * 4 + 2, none⟩ = some (.int .i64 z2) ∧ W.cell? ⟨b, off + i * 4 + 3, none⟩ = some (.int .i64 z3) from
        ⟨(hW.cell (p := ⟨b, _, none⟩) hbl).trans c1, (hW.cell (p := ⟨b, _, none⟩) hbl).trans c2, (hW.cell (p := ⟨b, _, none⟩) hbl).trans c3, (hW.cell (p := ⟨b, _, none⟩) hbl).trans c4⟩))
      have hpart := part_drop X1 k
      have htl : (X1.drop k).length ≤ 4096 := by rw [List.length_drop]; omega
      have hkx : (k : Int) ≤ (X1.length : Int) := by omega
      obtain ⟨g1, g2, g3, g4⟩ := G.out wr HB.out
      clear hnx hah hll hk hsh hL c1 c2 c3 c4
      go_wp2_with fail
      refine (HSH.out _).mono ?_
      rintro e ws ⟨rfl, m, hm⟩
      have hbs : Below w.heap.size w ws := by rw [hm]; exact below_drewN HB.out m
      have hos : OwnB w.heap.size ws u3 L := by rw [hm]; exact OwnB.keep HO.out (below_drewN (Below.refl _ _) m)
      clear hm
      obtain ⟨wd, hwd⟩ : ∃ wd, ws.drew = wd := ⟨_, rfl⟩
      have HB1 : Hid (Below w.heap.size w wd) := Lib.hid (by rw [← hwd]; exact hbs.drew)
      have HO1 : Hid (OwnB w.heap.size wd u3 L) := Lib.hid (by rw [← hwd]; exact OwnB.keep hos (Below.refl _ _).drew)
      have hs1 := HB1.out.size
      have HWD := Lib.hid hwd
      clear hwd hos hbs g1 g2 g3 g4
      go_wp2_with fail
      refine RK.begin_ (T := fun k => k < w.heap.size) [(0, true), (1, true), (4, true), (5, true), (6, true), (7, true), (8, true), (9, true), (10, true), (2, false), (3, false), (11, false), (12, false), (13, true)] (by kernel_rfl) (by kernel_rfl) rfl (by kernel_rfl) (fun _ _ d _ _ h => by cases d <;> exact h) ?_
      simp only [RK.ordered, List.map_cons, List.map_nil, List.getElem?_toArray, List.getElem?_cons_succ, List.getElem?_cons_zero]
      rw [HWD.out]
      have f1 := fun W (hW : Kep (fun k => k < w.heap.size) wd W) => (hW.cell (show b < wd.heap.size by omega) hbl (off + i * 4)).trans (G.out wd HB1.out).1
      repeat ((first | (refine RK.take (by rfl) (by intro W hW; go_simp; with_reducible rfl) ?_)); simp only [Act.put, List.setIfInBounds_toArray, List.set_cons_zero, List.set_cons_succ])
      refine RK.alone (by rfl) (fun K hK => ?_)
      go_simp
      refine (rnum_any (k : Int) wd (by omega) hkb).mono ?_
      rintro e w2 ⟨v2, rfl, ho2, hb2⟩
      go_simp
      refine hK.out _ _ (kep_below _ hb2) ?_
      clear hK K
      have hs2 : w.heap.size ≤ w2.heap.size := Nat.le_trans hs1 hb2.size
      have HO2 := Lib.hid (HO1.out.keep hb2)
      have HN2 := Lib.hid ho2
      have HB2 := Lib.hid (HB1.out.trans (hb2.mono hs1))
      clear ho2 hb2 HO1 HB1
      rw [Int.toNat_natCast] at HN2
      refine RK.alone (by rfl) (fun K hK => ?_)
      refine wp_append_own _ _ rfl u3 (L) rfl HO2.out hs2 _ (bytesL k) rfl HN2.out.brow (bytesL_ne _) (by have := HLN.out; simp only [List.length_append] at this ⊢; omega) ?_
      intro v3 w3 ho3 hb3 hk3
      refine hK.out _ _ hk3 ?_
      clear hK K
      have hs3 : w.heap.size ≤ w3.heap.size := Nat.le_trans hs2 hb3.size
      have HO3 := Lib.hid ho3
      have HB3 := Lib.hid (HB2.out.trans hb3)
      clear ho3 hb3 hk3 HO2 HB2 HN2
      try rw [hpart]
      refine RK.alone (by rfl) (fun K hK => ?_)
      go_simp
      refine (rtext_l (X1.drop k) htl w3).mono ?_
      rintro e w4 ⟨v4, rfl, ho4, hb4⟩
      go_simp
      refine hK.out _ _ (kep_below _ hb4) ?_
      clear hK K
      have hs4 : w.heap.size ≤ w4.heap.size := Nat.le_trans hs3 hb4.size
      have HO4 := Lib.hid (HO3.out.keep hb4)
      have HN4 := Lib.hid ho4
      have HB4 := Lib.hid (HB3.out.trans (hb4.mono hs3))
      clear ho4 hb4 HO3 HB3
      refine RK.alone (by rfl) (fun K hK => ?_)
      refine wp_append_own _ _ rfl v3 (L ++ bytesL k) rfl HO4.out hs4 _ (textL (X1.drop k)) rfl HN4.out.brow (textL_ne _) (by have := HLN.out; simp only [List.length_append] at this ⊢; omega) ?_
      intro v5 w5 ho5 hb5 hk5
      refine hK.out _ _ hk5 ?_
      clear hK K
      have hs5 : w.heap.size ≤ w5.heap.size := Nat.le_trans hs4 hb5.size
      have HO5 := Lib.hid ho5
      have HB5 := Lib.hid (HB4.out.trans hb5)
      clear ho5 hb5 hk5 HO4 HB4 HN4
      repeat ((first | (refine RK.take (by rfl) (by intro W hW; go_simp; with_reducible rfl) ?_)); simp only [Act.put, List.setIfInBounds_toArray, List.set_cons_zero, List.set_cons_succ])
      refine RK.done ?_
      clear f1
      go_wp2_with fail
      obtain ⟨we, hwe⟩ : ∃ we, w5.drew = we := ⟨_, rfl⟩
      have HB6 : Hid (Below w.heap.size w we) := Lib.hid (by rw [← hwe]; exact HB5.out.drew)
      have HO6 : Hid (OwnB w.heap.size we v5 (L ++ bytesL k ++ textL (X1.drop k))) := Lib.hid (by rw [← hwe]; exact OwnB.keep HO5.out (Below.refl _ _).drew)
      have hs6 := HB6.out.size
      clear HB5 HO5
      refine RK.begin_ (T := fun k => k < w.heap.size) [(0, true), (1, true), (2, true), (3, true), (4, true), (5, true), (8, true), (9, true), (10, true), (11, true), (12, true), (15, true), (16, true), (17, true), (18, true), (19, true), (6, false), (7, false), (13, false), (14, false), (20, false), (21, false), (22, true)] (by kernel_rfl) (by kernel_rfl) rfl (by kernel_rfl) (fun _ _ d _ _ h => by cases d <;> exact h) ?_
      simp only [RK.ordered, List.map_cons, List.map_nil, List.getElem?_toArray, List.getElem?_cons_succ, List.getElem?_cons_zero]
      rw [hwe]
      have f1 := fun W (hW : Kep (fun k => k < w.heap.size) we W) => (hW.cell (show b < we.heap.size by omega) hbl (off + i * 4 + 1)).trans (G.out we HB6.out).2.1
      have f2 := fun W (hW : Kep (fun k => k < w.heap.size) we W) => (hW.cell (show b < we.heap.size by omega) hbl (off + i * 4 + 2)).trans (G.out we HB6.out).2.2.1
      have f3 := fun W (hW : Kep (fun k => k < w.heap.size) we W) => (hW.cell (show b < we.heap.size by omega) hbl (off + i * 4 + 3)).trans (G.out we HB6.out).2.2.2
      repeat ((first | (refine RK.take (by rfl) (by intro W hW; go_simp; with_reducible rfl) ?_)); simp only [Act.put, List.setIfInBounds_toArray, List.set_cons_zero, List.set_cons_succ])
      refine RK.alone (by rfl) (fun K hK => ?_)
      go_simp
      refine (rnum_any z1 we (by omega) (by omega)).mono ?_
      rintro e w7 ⟨v7, rfl, ho7, hb7⟩
      go_simp
      refine hK.out _ _ (kep_below _ hb7) ?_
      clear hK K
      have hs7 : w.heap.size ≤ w7.heap.size := Nat.le_trans hs6 hb7.size
      have HO7 := Lib.hid (HO6.out.keep hb7)
      have HN7 := Lib.hid ho7
      have HB7 := Lib.hid (HB6.out.trans (hb7.mono hs6))
      clear ho7 hb7 HO6 HB6
      refine RK.alone (by rfl) (fun K hK => ?_)
      refine wp_append_own _ _ rfl v5 (L ++ bytesL k ++ textL (X1.drop k)) rfl HO7.out hs7 _ (bytesL z1.toNat) rfl HN7.out.brow (bytesL_ne _) (by have := HLN.out; simp only [List.length_append] at this ⊢; omega) ?_
      intro v8 w8 ho8 hb8 hk8
      refine hK.out _ _ hk8 ?_
      clear hK K
      have hs8 : w.heap.size ≤ w8.heap.size := Nat.le_trans hs7 hb8.size
      have HO8 := Lib.hid ho8
      have HB8 := Lib.hid (HB7.out.trans hb8)
      clear ho8 hb8 hk8 HO7 HB7 HN7
      refine RK.alone (by rfl) (fun K hK => ?_)
      go_simp
      refine (rnum_any z2 w8 (by omega) (by omega)).mono ?_
      rintro e w9 ⟨v9, rfl, ho9, hb9⟩
      go_simp
      refine hK.out _ _ (kep_below _ hb9) ?_
      clear hK K
      have hs9 : w.heap.size ≤ w9.heap.size := Nat.le_trans hs8 hb9.size
      have HO9 := Lib.hid (HO8.out.keep hb9)
      have HN9 := Lib.hid ho9
      have HB9 := Lib.hid (HB8.out.trans (hb9.mono hs8))
      clear ho9 hb9 HO8 HB8
      refine RK.alone (by rfl) (fun K hK => ?_)
      refine wp_append_own _ _ rfl v8 (L ++ bytesL k ++ textL (X1.drop k) ++ bytesL z1.toNat) rfl HO9.out hs9 _ (bytesL z2.toNat) rfl HN9.out.brow (bytesL_ne _) (by have := HLN.out; simp only [List.length_append] at this ⊢; omega) ?_
      intro v10 w10 ho10 hb10 hk10
      refine hK.out _ _ hk10 ?_
      clear hK K
      have hs10 : w.heap.size ≤ w10.heap.size := Nat.le_trans hs9 hb10.size
      have HO10 := Lib.hid ho10
      have HB10 := Lib.hid (HB9.out.trans hb10)
      clear ho10 hb10 hk10 HO9 HB9 HN9
      refine RK.alone (by rfl) (fun K hK => ?_)
      go_simp
      refine (rnum_any z3 w10 (by omega) (by omega)).mono ?_
      rintro e w11 ⟨v11, rfl, ho11, hb11⟩
      go_simp
      refine hK.out _ _ (kep_below _ hb11) ?_
      clear hK K
      have hs11 : w.heap.size ≤ w11.heap.size := Nat.le_trans hs10 hb11.size
      have HO11 := Lib.hid (HO10.out.keep hb11)
      have HN11 := Lib.hid ho11
      have HB11 := Lib.hid (HB10.out.trans (hb11.mono hs10))
      clear ho11 hb11 HO10 HB10
      refine RK.alone (by rfl) (fun K hK => ?_)
      refine wp_append_own _ _ rfl v10 (L ++ bytesL k ++ textL (X1.drop k) ++ bytesL z1.toNat ++ bytesL z2.toNat) rfl HO11.out hs11 _ (bytesL z3.toNat) rfl HN11.out.brow (bytesL_ne _) (by have := HLN.out; simp only [List.length_append] at this ⊢; omega) ?_
      intro v12 w12 ho12 hb12 hk12
      refine hK.out _ _ hk12 ?_
      clear hK K
      have hs12 : w.heap.size ≤ w12.heap.size := Nat.le_trans hs11 hb12.size
      have HO12 := Lib.hid ho12
      have HB12 := Lib.hid (HB11.out.trans hb12)
      clear ho12 hb12 hk12 HO11 HB11 HN11
      rw [← HN.out] at HO12
      repeat ((first | (refine RK.take (by rfl) (by intro W hW; go_simp; with_reducible rfl) ?_)); simp only [Act.put, List.setIfInBounds_toArray, List.set_cons_zero, List.set_cons_succ])
      refine RK.done ?_
      clear f1 f2 f3
      obtain ⟨g1, g2, g3, g4⟩ := G.out w12 HB12.out
      go_wp2_with fail
      go_roundw
      case rel => exact ⟨i + 1, X1, by omega, by go_num, rfl, Lib.hid HAH.out.symm, HO12, HB12⟩
      case measure => simp [intOf]; omega
    · obtain rfl : i = l.length := by omega
      have q1 : decide ((l.length : Int) < (l.length : Int)) = false := by simp
      have q2 : decide (l.length < l.length) = false := by simp
      have ho := HO.out
      rw [HEND.out] at ho
      have HO9 := Lib.hid ho
      clear HO ho hlt
      go_wp2_with fail
      go_ret
      exact ⟨_, rfl, HO9.out, HB.out⟩
end Go.Proofs.Ytklngjnjnkocmaa.DT
