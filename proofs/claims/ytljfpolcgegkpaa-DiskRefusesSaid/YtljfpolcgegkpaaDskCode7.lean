/-
  The code's Remove. Condition: names are no longer than memory bears.
-/
import Derived.Test.YtljfpolcgegkpaaDskCode6
set_option linter.unusedVariables false
namespace Go.Proofs.Ytljfpolcgegkpaa.DK
open Go.RowKit Go.Proofs.Ytljfpolcgegkpaa.MM Go.Maps

def lessOne (b : Bool) (m : Nat) : Nat := if b then m - 1 else m
def noneAt (n : List UInt8) (F : List UInt8 → Option Value) : List UInt8 → Option Value := fun k => if k = n then none else F k
theorem wpList_mapV_drop {w : World} {ops : Array Oper} {rest : List Oper} {o : Oper} {a : Act} {Q : Exit → Act → World → Prop} (hg : o.guard = none) (x y : Operand) (hop : o.op = Op.call { callee := Callee.builtin Builtin.delete, args := #[x, y], argTypes := #[61, 9] })
    (mb m : Nat) (F : List UInt8 → Option Value) (hx : a.eval x = .map (some mb)) (h : MapV w mb m F) (n : List UInt8) (hy : a.eval y = .string ⟨n.toArray⟩) (hn : n.length ≤ maxLen)
    (hK : ∀ w', MapV w' mb (lessOne (F n).isSome m) (noneAt n F) → Kep (fun k => k ≠ mb) w w' → wpList Try.prog ops Q rest (a.put o.dst (.tuple #[])) w') : wpList Try.prog ops Q (o :: rest) a w := by
  refine wpList_plain hg fun K' hK' => ?_
  obtain ⟨w', hrun, h1, h2⟩ := h.drop n hn o.type
  unfold Oper.wp
  simp [execOp, hop, resolve, invoke, builtin, hx, hy, hrun, Result.andThen]
  exact hK' _ _ (hK w' h1 h2)
set_option maxRecDepth 100000 in
set_option maxHeartbeats 2000000 in
theorem cremove_any (S : Nat → Prop) (g mb : Nat) (V : List UInt8 → Value) (c : Int) (d : DiskD) (n : List UInt8) (w : World) (h : CObj S w g mb V c d) (hF : Fits d) (hn : n.length ≤ 1000000000000) :
    Calls Try.prog 24 #[.pointer (some ⟨g, 0, none⟩), .string ⟨n.toArray⟩] w (DoneC g mb (removeD d n) S w) := by
  have hfac := fac_any S 0 g mb V c d (.slice none 0 0) [] n w h (Nat.zero_le _) hn (SIn.nil_ _ _) (by simp) (by simp)
  rw [ok_one] at hfac
  obtain ⟨e1, e2, e3⟩ := on_fac d (namedL n) n fun f => withoutL d.L n
  have e1 : (removeD d n).2 = facE (namedL n) d n := e1
  unfold DoneC
  rw [e1]
  obtain ⟨E, hE⟩ : ∃ E, facE (namedL n) d n = E := ⟨_, rfl⟩
  have HFAC := Lib.hid hfac
  have HE := Lib.hid hE
  have HE2 := Lib.hid e2
  have HE3 := Lib.hid e3
  have HFT := Lib.hid hF
  have hmg : g ≠ mb := h.gm
  have HH := Lib.hid h
  have HN := Lib.hid hn
  rw [hE]
  clear hfac e2 e3 hE hF h hn
  go_enter Try.func24, Try.ntmps24
  go_wp2_with fail
  refine HFAC.out.mono ?_
  rintro e W1 ⟨c1, fv, rfl, hobj, hk, ⟨p0, m0, cap0, s, rfl⟩, -⟩
  rw [HE.out]
  have HO1 := Lib.hid hobj
  have HK1 := Lib.hid hk
  clear hobj hk HFAC
  have hba : ∀ o, Below W1.heap.size W1 (W1.alloc o) := fun o => (Below.refl _ _).alloc (Nat.le_refl _) _
  have HBA := Lib.hid hba
  by_cases hE0 : E = 0
  · subst hE0
    obtain ⟨f, hf, hd1, hd2⟩ := HE3.out HE.out
    have hd2 : (removeD d n).1 = { (callD d).1 with L := withoutL d.L n } := hd2
    have HD2 := Lib.hid hd2
    have HD1 := Lib.hid hd1
    have HO2 := Lib.hid (fun o => HO1.out.below (hba o))
    have c0 := HO1.out.g0
    have hgl := HO1.out.glt
    clear hd1 hd2 hba hf
    go_wp2_with (at_delete; go_loud (refine wpList_mapV_drop rfl _ _ rfl mb _ _ rfl (HO2.out _).tab.map n rfl (by have := HN.out; unfold maxLen; omega) ?_))
    intro W4 hm4 hk4
    unfold lessOne noneAt at hm4
    have hdl : (facD (namedL n) d n).L = d.L := by rw [HD1.out]; exact (call_L d).1
    have hft := HFT.out
    obtain ⟨W2, hW2⟩ : ∃ W, W1.alloc (.cells #[.slice p0 m0 cap0, .int .i64 s] 82) = W := ⟨_, rfl⟩
    have ho2 := HO2.out (.cells #[.slice p0 m0 cap0, .int .i64 s] 82)
    have hb2 := HBA.out (.cells #[.slice p0 m0 cap0, .int .i64 s] 82)
    rw [hW2] at hk4 ho2 hb2
    have ht2 : Tab S W2 mb V d.L := by have := ho2.tab; rw [hdl] at this; exact this
    rw [hdl] at hm4
    have ht4 := Tab.take hft.good.rise ht2 n hk4 hm4 (fun x hx k hk => (ho2.row (ht2.own x hx) hk).2)
    have hres := ho2.retab (T := S) hk4 hmg ht4 (fun _ h => h) (fun k hS => Nat.lt_of_lt_of_le (ho2.lt k hS) hk4.size)
    have HDONE := Lib.hid (show ∃ S' V' c', CObj S' W4 g mb V' c' (removeD d n).1 ∧ Ext S S' w W4 by
      refine ⟨S, V, c1, ?_, Ext.refl_ (((kep_not HH.out.gS HK1.out).trans (kep_below _ hb2)).trans (kep_not HH.out.tab.mS hk4))⟩
      rw [HD2.out]
      rw [HD1.out] at hres
      exact hres)
    clear hres ht4 ht2 hm4 hk4 ho2 hb2 hW2 hft hdl
    go_wp2_with fail
    go_ret
    exact ⟨rfl, HDONE.out⟩
  · have t1 : (E == 0) = false := by rw [beq_eq_false_iff_ne]; exact hE0
    have hd : (removeD d n).1 = facD (namedL n) d n := HE2.out (by rw [HE.out]; exact hE0)
    have HF := Lib.hid (show ∀ o, ∃ S' V' c', CObj S' (W1.alloc o) g mb V' c' (removeD d n).1 ∧ Ext S S' w (W1.alloc o) from fun o => ⟨S, V, c1, by rw [hd]; exact HO1.out.below (hba o), Ext.refl_ ((kep_not HH.out.gS HK1.out).trans (kep_below _ (hba o)))⟩)
    clear hd hE0 hba
    go_wp2_with fail
    go_ret
    exact ⟨rfl, HF.out _⟩
end Go.Proofs.Ytljfpolcgegkpaa.DK
