/-
  The code's appendMoved: posts behind others, moved. Condition: fewer than 10^9 posts.
-/
import Derived.Test.YtdgjbhejokmeoaaPstForm
import Derived.Test.YtdgjbhejokmeoaaRegK
import Derived.Test.YtdgjbhejokmeoaaShelf
set_option linter.unusedVariables false
namespace Go.Proofs.Ytdgjbhejokmeoaa.PW
open Go.RowKit Go.Proofs.Ytdgjbhejokmeoaa.MM Go.Proofs.Ytdgjbhejokmeoaa.PM

theorem own_int_apt2 {B B' : Nat} {w : World} {v : Value} {zs : List Int} (h : OwnI B' w v zs) : IOn (Apt B w) w v zs := by
  rcases h.2 with ⟨hv, h0⟩ | ⟨g, cap, cur, hv, hg, hh, hn, hm, hs, ht⟩
  · have : zs = [] := List.eq_nil_of_length_eq_zero h0
    subst this
    rw [hv]
    exact IOn.nil_ _ _
  · obtain ⟨p, c, hv', i1, i2, i3, i4⟩ := OwnI.ion h
    refine ⟨p, c, hv', i1, i2, i3, ?_⟩
    rcases i4 with i4 | ⟨b, off, hp, hb, _, hc⟩
    · exact .inl i4
    · refine .inr ⟨b, off, hp, hb, .inr fun cur2 fr hh2 => ?_, hc⟩
      rw [hv, hp] at hv'
      simp only [Value.slice.injEq, Option.some.injEq, Addr.mk.injEq] at hv'
      rw [← hv'.1.1, hh] at hh2
      have := Option.some.inj hh2
      simp at this
/-- append(row, Post{z, x}), at a step. -/
theorem wp_append_post {w : World} {o : Oper} {a : Act} {K : Act → World → Prop} {Q : Exit → Act → World → Prop} (s x : Operand)
    (ho : o.op = .call { callee := .builtin .append, args := #[s, x], argTypes := #[22, 22] }) (B : Nat) (v : Value) (ps : List Post) (w0 : World) (z : Int) (u : Value) (qs : List Int) (hw : w = w0.alloc (.cells #[.int .i64 z, u] 47)) (hs : a.eval s = v) (hown : OwnP B w0 v ps) (hu : IOn (Apt B w0) w0 u qs)
    (hx : a.eval x = .slice (some ⟨w0.heap.size, 0, none⟩) 1 1) (hlen : ps.length ≤ 100000000000) (hbase : B ≤ w0.heap.size)
    (h : ∀ v' w', OwnP B w' v' (ps ++ [(z, qs)]) → Below B w0 w' → Kep (fun k => v.ownBlock ≠ some k) (w0.alloc (.cells #[.int .i64 z, u] 47)) w' → K (a.put o.dst v') w') : o.wp Try.prog a w K Q := by
  subst hw
  have hb0 : Below w0.heap.size w0 (w0.alloc (.cells #[.int .i64 z, u] 47)) := (Below.refl _ _).alloc (Nat.le_refl _) _
  obtain ⟨i0, hi, hz0, hz1, hz2⟩ := info_parts infoPost
  obtain ⟨xs, h1, h2⟩ := hown.alloc (.cells #[.int .i64 z, u] 47)
  have hu2 : IOn (Apt B (w0.alloc (.cells #[.int .i64 z, u] 47))) (w0.alloc (.cells #[.int .i64 z, u] 47)) u qs := hu.keep (kep_below _ hb0) fun b hlt hA => apt_keep hA (hb0.block b hlt)
  have hlo : ∀ k, v.ownBlock = some k → B ≤ k := fun k hk => (World.ownsRow.lt h1 k hk).1
  have e1 := h2.1
  refine wp_append_own _ s x 22 ho B 47 i0 (.agg #[.int .i64 0, .slice none 0 0]) 2 32 Try.underlying22 hi hz0 hz1 hz2 rfl (by decide) v xs.length _ hs h1 ⟨w0.heap.size, 0, none⟩ 1 1 [.int .i64 z, u] hx rfl (cell_new2 w0 _ _ _) ?_
    (by unfold maxLen; omega) (by omega) (by simp; omega) (fun v' w' h3 hg _ => ?_)
  · intro y hy
    simp at hy
    rcases hy with rfl | rfl
    · rfl
    · exact hu.one
  · have hb : Below B (w0.alloc (.cells #[.int .i64 z, u] 47)) w' := (Below.refl B _).grown hg (by simp; omega) hlo
    have hk : Kep (Apt B (w0.alloc (.cells #[.int .i64 z, u] 47))) (w0.alloc (.cells #[.int .i64 z, u] 47)) w' := kep_grown hg fun k hk hA => apt_not_own h1 hA hk
    refine h v' w' ⟨xs ++ [(z, u)], by rw [List.length_append, rawC_append]; exact h3, ?_⟩ ((hb0.mono hbase).trans hb) (kep_grown hg fun k hk hne => hne hk)
    exact (h2.snoc hu2).keep hk fun b hlt hA => apt_keep hA (hk.block b hlt hA)
theorem clone_any {S : Nat → Prop} (x : Value) (qs : List Int) (w : World) (h : IOn S w x qs) (hq : qs.length ≤ 10000000000000) : Calls Try.prog 61 #[x] w fun e w' => ∃ v', e = .returned v' ∧ OwnI w.heap.size w' v' qs ∧ Below w.heap.size w w' := by
  obtain ⟨p, cap, rfl, h1, h2, h3, h⟩ := h
  cases p with
  | none =>
    have h0 := h3 rfl
    have : qs = [] := List.eq_nil_of_length_eq_zero (by omega)
    subst this
    refine (Try.slices_Clone_int_nil _ _ w).mono ?_
    rintro e w' ⟨rfl, rfl⟩
    exact ⟨_, rfl, OwnI.nil_ _ _, Below.refl _ _⟩
  | some ad =>
    rcases h with h | ⟨b, off, hp, hlt, hS, hc⟩
    · subst h
      refine (Try.slices_Clone_int_zero ad cap w).mono ?_
      rintro e w' ⟨v', rfl, ho, _, hb⟩
      exact ⟨v', rfl, ho, hb⟩
    · obtain rfl : ad = ⟨b, off, none⟩ := Option.some.inj hp
      refine (Try.slices_Clone_int b off qs.length cap qs w (Nat.le_refl _) (by omega) (fun j hj => by rw [hc j hj]; simp [List.getD, hj])).mono ?_
      rintro e w' ⟨v', rfl, ho, _, hb⟩
      rw [List.take_length] at ho
      exact ⟨v', rfl, ho, hb⟩

def movedL (ps : List Post) (by_ : Int) : List Post := ps.map fun p => (p.1 + by_, p.2)
theorem moved_take {ps : List Post} {by_ : Int} {k : Nat} (hk : k < ps.length) : (movedL ps by_).take (k + 1) = (movedL ps by_).take k ++ [(ps[k].1 + by_, ps[k].2)] := by
  rw [List.take_succ_eq_append_getElem (by simp [movedL]; exact hk)]
  simp [movedL]
theorem moved_len (ps : List Post) (by_ : Int) : (movedL ps by_).length = ps.length := by simp [movedL]
def MovedLeft (B : Nat) (L : List Post) (w : World) (e : Ending) (w' : World) : Prop := ∃ v', e = .returned v' ∧ OwnP B w' v' L ∧ Below B w w'
set_option maxRecDepth 100000 in
set_option maxHeartbeats 4000000 in
theorem moved_any (B : Nat) (v u : Value) (L M : List Post) (by_ : Int) (w : World) (ho : OwnP B w v L) (hu : PIn B w u M) (hB : B ≤ w.heap.size) (hl : L.length + M.length ≤ 1000000000) (hf : ∀ p ∈ M, -9223372036854775808 ≤ p.1 + by_ ∧ p.1 + by_ ≤ 9223372036854775807) (hq : ∀ p ∈ M, p.2.length ≤ 10000000000000) :
    Calls Try.prog 48 #[v, u, .int .i64 by_] w (MovedLeft B (L ++ movedL M by_) w) := by
  obtain ⟨pu, cu, rfl, hu1, hu2, _⟩ := hu.shape
  unfold maxLen at hu2
  have HU := Lib.hid hu
  have HT := Lib.hid (fun k (hk : k < M.length) => moved_take (by_ := by_) hk)
  have HF := Lib.hid hf
  have HQ := Lib.hid hq
  have HE : Hid ((movedL M by_).take M.length = movedL M by_) := Lib.hid (by rw [← moved_len M by_, List.take_length])
  have HO0 : Hid (OwnP B w v (L ++ (movedL M by_).take 0)) := Lib.hid (by rw [List.take_zero, List.append_nil]; exact ho)
  clear ho hu hf hq
  go_enter Try.func48, Try.ntmps48
  go_wp2_with fail
  go_loopw [0, 11] (fun r iv wr => ∃ k : Nat, k ≤ M.length ∧ iv = .int .i64 k ∧ Hid (OwnP B wr r (L ++ (movedL M by_).take k)) ∧ Hid (Below B w wr)) (fun _ iv _ => M.length - (intOf iv).toNat)
  case atStart => exact ⟨0, by omega, rfl, HO0, Lib.hid (Below.refl _ _)⟩
  case round =>
    obtain ⟨k, hk, rfl, HO, HB⟩ := hrel
    clear HO0
    have hsz := HB.out.size
    have hBr : B ≤ wr.heap.size := by omega
    by_cases hlt : k < M.length
    · have t1 : decide ((k : Int) < (M.length : Int)) = true := by simp; omega
      obtain ⟨b, off, x, rfl, hbl, hbB, hc1, hc2, hx⟩ := HU.out.at_ hlt
      have hc1b := (HB.out.cell (p := ⟨b, off + k * 2, none⟩) hbB).trans hc1
      have hc2b := (HB.out.cell (p := ⟨b, off + k * 2 + 1, none⟩) hbB).trans hc2
      have htk := HT.out k hlt
      have hfk := HF.out M[k] (List.getElem_mem hlt)
      have hqk := HQ.out M[k] (List.getElem_mem hlt)
      obtain ⟨⟨z, qs⟩, hz⟩ : ∃ z, M[k] = z := ⟨_, rfl⟩
      rw [hz] at hc1b hx htk hfk hqk
      dsimp only at hc1b hx htk hfk hqk
      have hxw : IOn (fun c => c < B) wr x qs := hx.keep ⟨HB.out.os, HB.out.tape, HB.out.output, HB.out.size, fun c _ hc => HB.out.block c hc⟩ (fun _ _ h => h)
      have hal : Below wr.heap.size wr (wr.alloc (.cells #[.int .i64 z, x] 47)) := (Below.refl _ _).alloc (Nat.le_refl _) _
      have hbx : (wr.alloc (.cells #[.int .i64 z, x] 47)).heap[wr.heap.size]? = some (.cells #[.int .i64 z, x] 47) := heap_alloc_new _ _
      obtain ⟨px, cx, rfl, _⟩ := hx.shape
      obtain ⟨nq, hnq⟩ : ∃ n, qs.length = n := ⟨_, rfl⟩
      rw [hnq] at hc2b hxw hal hbx
      obtain ⟨W1, hW1⟩ : ∃ W, (wr.alloc (.cells #[.int .i64 z, .slice px nq cx] 47)).drew = W := ⟨_, rfl⟩
      have hb1 : Below wr.heap.size wr W1 := by rw [← hW1]; exact hal.drew
      have hbx1 : W1.heap[wr.heap.size]? = some (.cells #[.int .i64 z, .slice px nq cx] 47) := by rw [← hW1]; exact hbx
      have hs1 : wr.heap.size + 1 = W1.heap.size := by rw [← hW1]; simp
      have HO1 := Lib.hid (HO.out.keep hb1)
      have HOW := Lib.hid (fun c (e : u0.ownBlock = some c) => (show B ≤ c ∧ c < wr.heap.size from ⟨by obtain ⟨xs, h1, _⟩ := HO.out; exact (World.ownsRow.lt h1 c e).1, HO.out.lt c e⟩))
      have HX1 := Lib.hid (hxw.keep (T := fun c => c < B) (kep_below _ hb1) (fun _ _ h => h))
      have HBX1 := Lib.hid hbx1
      have HB1 := Lib.hid (HB.out.trans (hb1.mono hBr))
      have HTK := Lib.hid htk
      have hw1 : IntKind.i64.wrap (z + by_) = z + by_ := by rw [IntKind.wrap_i64]; omega
      have hlen : (L ++ (movedL M by_).take k).length ≤ 100000000000 := by
        rw [List.length_append, List.length_take, moved_len]; omega
      have HLEN := Lib.hid hlen
      have HQK := Lib.hid hqk
      have HHF := Lib.hid hfk
      clear hx hxw hal hbx hbx1 hb1 hc1 hc2 hz htk hlen hnq hqk hfk HO
      go_wp2_with fail
      refine RK.begin_ (T := fun c => c < B ∨ c = wr.heap.size) [(0, true), (1, true), (2, true), (3, true), (4, true), (5, true), (6, true), (7, false), (8, true), (9, false), (10, false), (11, true)] (by kernel_rfl) (by kernel_rfl) rfl (by kernel_rfl) (fun _ _ d _ _ h => by cases d <;> exact h) ?_
      simp only [RK.ordered, List.map_cons, List.map_nil, List.getElem?_toArray, List.getElem?_cons_succ, List.getElem?_cons_zero]
      rw [hW1]
      have f1 := fun W (hW : Kep (fun c => c < B ∨ c = wr.heap.size) W1 W) => (hW.cell (b := wr.heap.size) (by omega) (.inr rfl) 0).trans (show W1.cell? ⟨wr.heap.size, 0, none⟩ = some (.int .i64 z) by rw [cell_of_row W1 _ 0 _ _ _ HBX1.out]; rfl)
      have f2 := fun W (hW : Kep (fun c => c < B ∨ c = wr.heap.size) W1 W) => (hW.cell (b := wr.heap.size) (by omega) (.inr rfl) 1).trans (show W1.cell? ⟨wr.heap.size, 1, none⟩ = some (.slice px nq cx) by rw [cell_of_row W1 _ 1 _ _ _ HBX1.out]; rfl)
      repeat ((first | (refine RK.take (by rfl) (by intro W hW; go_simp; with_reducible rfl) ?_) | (refine RK.skip (by rfl) ?_) | (refine RK.alone_skip (by rfl) ?_)); simp only [Act.put, List.setIfInBounds_toArray, List.set_cons_zero, List.set_cons_succ])
      refine RK.alone (by rfl) (fun K hK => ?_)
      go_simp
      refine (clone_any _ qs W1 HX1.out HQK.out).mono ?_
      rintro e w5 ⟨v5, rfl, ho5, hb5⟩
      go_simp
      refine hK.out _ _ (kep_below _ hb5) ?_
      clear hK K f1 f2
      have HX5 := Lib.hid (own_int_apt2 (B := B) ho5)
      have HO5 := Lib.hid (HO1.out.keep hb5)
      have HB5 := Lib.hid (HB1.out.trans (hb5.mono (by omega)))
      have hsz5 : B ≤ w5.heap.size := by have := hb5.size; omega
      have hs5 := hb5.size
      have hone := (OwnI.ion ho5).one
      obtain ⟨p5, c5, rfl, _⟩ := (OwnI.irow ho5).shape
      clear ho5 hb5
      repeat ((first | (refine RK.take (by rfl) (by intro W hW; go_simp; with_reducible rfl) ?_) | (refine RK.skip (by rfl) ?_) | (refine RK.alone_skip (by rfl) ?_)); simp only [Act.put, List.setIfInBounds_toArray, List.set_cons_zero, List.set_cons_succ])
      refine RK.alone (by rfl) (fun K hK => ?_)
      go_simp
      refine hK.out _ _ (kep_alloc _ _ _) ?_
      clear hK K
      repeat ((first | (refine RK.take (by rfl) (by intro W hW; go_simp; with_reducible rfl) ?_) | (refine RK.skip (by rfl) ?_) | (refine RK.alone_skip (by rfl) ?_)); simp only [Act.put, List.setIfInBounds_toArray, List.set_cons_zero, List.set_cons_succ])
      refine RK.alone (by rfl) (fun K hK => ?_)
      refine wp_append_post _ _ rfl B _ (L ++ (movedL M by_).take k) w5 (z + by_) _ qs rfl rfl HO5.out HX5.out rfl HLEN.out hsz5 (fun v7 w7 ho7 hb7 hk7 => ?_)
      go_simp
      refine hK.out _ _ ?_ ?_
      · refine hk7.mono' fun c hc hT e => ?_
        rcases hT with hT | hT
        · have := (HOW.out c e).1; omega
        · have := (HOW.out c e).2; omega
      have HO7 := Lib.hid (show OwnP B w7 v7 (L ++ (movedL M by_).take (k + 1)) by rw [HTK.out, ← List.append_assoc]; exact ho7)
      have HB7 := Lib.hid (HB5.out.trans hb7)
      clear hK K ho7 hb7 hk7 HO5 HX5 HB5
      repeat ((first | (refine RK.take (by rfl) (by intro W hW; go_simp; with_reducible rfl) ?_) | (refine RK.skip (by rfl) ?_) | (refine RK.alone_skip (by rfl) ?_)); simp only [Act.put, List.setIfInBounds_toArray, List.set_cons_zero, List.set_cons_succ])
      refine RK.done ?_
      go_wp2_with fail
      go_roundw
      case rel => exact ⟨k + 1, by omega, by go_num, HO7, HB7⟩
      case measure => simp [intOf]; omega
    · obtain rfl : k = M.length := by omega
      have t1 : decide ((M.length : Int) < (M.length : Int)) = false := by simp
      have ho := HO.out
      rw [HE.out] at ho
      have HOe := Lib.hid ho
      clear HO ho
      go_wp2_with fail
      go_ret
      exact ⟨_, rfl, HOe.out, HB.out⟩
end Go.Proofs.Ytdgjbhejokmeoaa.PW
