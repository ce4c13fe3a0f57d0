/-
  The code's find on its disk, and findAndCount. Condition: names are no longer than memory bears.
-/
import Derived.Test.YtljfpolcgegkpaaDskCode4
set_option linter.unusedVariables false
namespace Go.Proofs.Ytljfpolcgegkpaa.DK
open Go.RowKit Go.Proofs.Ytljfpolcgegkpaa.MM Go.Maps

def curV (d : DiskD) (V : List UInt8 → Value) (n : List UInt8) : Value := if (findL d.L n).isSome then V n else .slice none 0 0
def curS (d : DiskD) (n : List UInt8) : Nat := ((findL d.L n).map (·.sure)).getD 0
def curB (d : DiskD) (n : List UInt8) : List UInt8 := ((findL d.L n).map (·.b)).getD []
theorem cur_tab (d : DiskD) (V : List UInt8 → Value) (n : List UInt8) : (tabF d.L V n).getD zeroFile = .agg #[curV d V n, .int .i64 (curS d n : Int)] ∧ (tabF d.L V n).isSome = (findL d.L n).isSome := by
  unfold tabF curV curS
  cases findL d.L n <;> exact ⟨rfl, rfl⟩
theorem own_nil (w : World) : OwnB 0 w (.slice none 0 0) [] := World.ownsRow_nil _ _ _ _
theorem cur_own {S : Nat → Prop} {w : World} {mb : Nat} {V : List UInt8 → Value} {d : DiskD} (h : Tab S w mb V d.L) (n : List UInt8) : OwnB 0 w (curV d V n) (curB d n) := by
  unfold curV curB
  cases hf : findL d.L n with
  | none => exact own_nil w
  | some f =>
    have := h.own f (find_mem hf).1
    rw [(find_mem hf).2] at this
    exact this
theorem CObj.look_ok {S : Nat → Prop} {w : World} {g mb : Nat} {V : List UInt8 → Value} {c : Int} {d : DiskD} (h : CObj S w g mb V c d) (n : List UInt8) (hn : n.length ≤ 1000000000000) :
    (Instr.lookup 61 (.map (some mb)) (.string ⟨n.toArray⟩) true).run Try.prog w = .ok (.tuple #[.agg #[curV d V n, .int .i64 (curS d n : Int)], .bool (findL d.L n).isSome]) w := by
  have := h.tab.map.look_ok n (by unfold maxLen; omega)
  rw [(cur_tab d V n).1, (cur_tab d V n).2] at this
  exact this
theorem CObj.look {S : Nat → Prop} {w : World} {g mb : Nat} {V : List UInt8 → Value} {c : Int} {d : DiskD} (h : CObj S w g mb V c d) (n : List UInt8) (hn : n.length ≤ 1000000000000) :
    (Instr.lookup 61 (.map (some mb)) (.string ⟨n.toArray⟩) false).run Try.prog w = .ok (.agg #[curV d V n, .int .i64 (curS d n : Int)]) w := by
  have := h.tab.map.look n (by unfold maxLen; omega)
  rw [(cur_tab d V n).1] at this
  exact this
theorem cfind_any (S : Nat → Prop) (B g mb : Nat) (V : List UInt8 → Value) (c : Int) (d : DiskD) (others : Value) (ns : List (List UInt8)) (n : List UInt8) (w : World) (h : CObj S w g mb V c d) (hB : B ≤ w.heap.size) (hn : n.length ≤ 1000000000000) (hr : SIn B w others ns)
    (hl : ns.length ≤ 1000000000000) (hnl : ∀ n ∈ ns, n.length ≤ 1000000000000) :
    Calls Try.prog 44 #[.pointer (some ⟨g, 0, none⟩), .string ⟨n.toArray⟩, others] w (FindC (namedL n && !ns.any (fun n => !namedL n)) d.stopped (findL d.L n).isSome (curV d V n) (curS d n) w) := by
  obtain ⟨p, cap, hv, _, _⟩ := own_slice (cur_own h.tab n)
  have hlook := fun W (hW : Below w.heap.size w W) => (h.below hW).look_ok n hn
  rw [hv] at hlook ⊢
  exact find_raw B g mb others ns n _ _ p _ cap _ w hB h.glt h.g0 h.g3 hn hr hl hnl hlook

/-- What find and count tell, one behind the other. -/
def facE (ok : Bool) (d : DiskD) (n : List UInt8) : Int := if findE ok d.stopped (findL d.L n).isSome = 0 then (if (callD d).2 then 63 else 0) else findE ok d.stopped (findL d.L n).isSome
def facD (ok : Bool) (d : DiskD) (n : List UInt8) : DiskD := if findE ok d.stopped (findL d.L n).isSome = 0 then (callD d).1 else d
def FacC (S : Nat → Prop) (g mb : Nat) (V : List UInt8 → Value) (ok : Bool) (d : DiskD) (n : List UInt8) (w : World) (e : Ending) (w' : World) : Prop :=
  ∃ c' fv, e = .returned (.tuple #[fv, .int .i64 (facE ok d n)]) ∧ CObj S w' g mb V c' (facD ok d n) ∧ Kep (fun k => k ≠ g) w w' ∧ (∃ p m cap s, fv = .agg #[.slice p m cap, .int .i64 s]) ∧ (facE ok d n = 0 → fv = .agg #[curV d V n, .int .i64 (curS d n : Int)])
theorem findE_st {ok st there : Bool} (h : findE ok st there = 0) : st = false ∧ there = true ∧ ok = true := by
  unfold findE at h
  cases ok <;> cases st <;> cases there <;> simp at h ⊢
set_option maxRecDepth 100000 in
set_option maxHeartbeats 2000000 in
theorem fac_any (S : Nat → Prop) (B g mb : Nat) (V : List UInt8 → Value) (c : Int) (d : DiskD) (others : Value) (ns : List (List UInt8)) (n : List UInt8) (w : World) (h : CObj S w g mb V c d) (hB : B ≤ w.heap.size) (hn : n.length ≤ 1000000000000) (hr : SIn B w others ns)
    (hl : ns.length ≤ 1000000000000) (hnl : ∀ n ∈ ns, n.length ≤ 1000000000000) :
    Calls Try.prog 48 #[.pointer (some ⟨g, 0, none⟩), .string ⟨n.toArray⟩, others] w (FacC S g mb V (namedL n && !ns.any (fun n => !namedL n)) d n w) := by
  obtain ⟨po, capo, rfl, _, _⟩ := hr.shape
  obtain ⟨p, cap, hv, _, _⟩ := own_slice (cur_own h.tab n)
  have hba : ∀ (W : World) o, Below W.heap.size W (W.alloc o) := fun W o => (Below.refl _ _).alloc (Nat.le_refl _) _
  have HFI := Lib.hid (fun o => cfind_any S B g mb V c d _ ns n (w.alloc o) (h.below (hba w o)) (Nat.le_trans hB (by simp)) hn (hr.below ((hba w o).mono hB)) hl hnl)
  have HH := Lib.hid h
  have HV := Lib.hid hv
  generalize (namedL n && !ns.any (fun n => !namedL n)) = ok at *
  have hglt := h.glt
  obtain ⟨E, hE⟩ : ∃ E, findE ok d.stopped (findL d.L n).isSome = E := ⟨_, rfl⟩
  have HBA := Lib.hid hba
  have HE0 := Lib.hid hE
  unfold FindC at HFI
  rw [hE, hv] at HFI
  generalize (curB d n).length = ln at *
  obtain ⟨sn, hsn⟩ : ∃ s, (curS d n : Int) = s := ⟨_, rfl⟩
  rw [hsn] at HFI
  have HSN := Lib.hid hsn
  clear hsn
  obtain ⟨x, hx⟩ : ∃ x : ByteArray, (⟨n.toArray⟩ : ByteArray) = x := ⟨_, rfl⟩
  rw [hx] at HFI
  rw [hx]
  clear h hr hnl hv hba hE hx
  go_enter Try.func48, Try.ntmps48
  go_wp2_with fail
  refine (HFI.out _).mono ?_
  rintro e W1 ⟨rfl, hb1⟩
  clear HFI
  have hf1 := (fv_new w (.slice none 0 0) 0).below hb1 (by simp)
  have hbw1 : Below w.heap.size w W1 := (HBA.out w _).trans (hb1.mono (by simp))
  have hlt1 := hf1.lt
  have HB1 := Lib.hid hbw1
  have HF1 := Lib.hid hf1
  clear hb1 hbw1 hf1
  by_cases hE0 : E = 0
  · subst hE0
    obtain ⟨hst, hth, -⟩ := findE_st HE0.out
    obtain ⟨E2, hE2⟩ : ∃ E2 : Int, (if (callD d).2 then 63 else 0) = E2 := ⟨_, rfl⟩
    rw [if_pos rfl]
    have HCO := Lib.hid (fun o => count_any S g mb V c d (W1.alloc o) ((HH.out.below HB1.out).below (HBA.out W1 o)) hst)
    unfold CountLeft at HCO
    rw [hE2] at HCO
    have HE2 := Lib.hid hE2
    clear hE2
    have HFA := Lib.hid (fun o => HF1.out.below (HBA.out W1 o) HF1.out.lt)
    have HKA := Lib.hid (fun o => HB1.out.trans ((HBA.out W1 o).mono HB1.out.size))
    have HFB := Lib.hid (fv_new W1 (.slice p ln cap) sn)
    clear HB1 HF1
    go_wp2_with fail
    refine (HCO.out _).mono ?_
    rintro e W3 ⟨rfl, hobj, hk, hsz⟩
    have hfa := (HFA.out _).kep hk (show w.heap.size ≠ g by omega)
    have hfb := HFB.out.kep hk (show W1.heap.size ≠ g by omega)
    have c0 := hfb.f0
    have c1 := hfb.f1
    have d0 := hfa.f0
    have d1 := hfa.f1
    have d2 := fun k => hfa.free k
    have HE := Lib.hid (hfa.two (.slice p ln cap) sn)
    have hk0 : ∀ u0 u1, Kep (fun k => k ≠ w.heap.size) W3 ((W3.setCell ⟨w.heap.size, 0, none⟩ u0).setCell ⟨w.heap.size, 1, none⟩ u1) := fun u0 u1 => (kep_set (fun h => h rfl) u0).trans (kep_set (fun h => h rfl) u1)
    have HK := Lib.hid (((kep_below (fun k => k ≠ g) (HKA.out _)).trans hk).andThen (hk0 (.slice p ln cap) (.int .i64 sn)) fun i hi _ => by omega)
    have HO := Lib.hid (hobj.kep (hk0 (.slice p ln cap) (.int .i64 sn)) fun k hS => by have := HH.out.lt k hS; omega)
    have HEE := Lib.hid (show facE ok d n = E2 from by unfold facE; rw [HE0.out, if_pos rfl, HE2.out])
    have HDD := Lib.hid (show facD ok d n = (callD d).1 from by unfold facD; rw [HE0.out, if_pos rfl])
    clear hobj hk hk0 hfa hfb hst hth hsz
    go_wp2_with fail
    refine bodyPost_ret (results_file_tmp rfl _ _ w.heap.size _ _ rfl HE.out) rfl ?_
    refine ⟨countC c, _, by rw [HEE.out]; rfl, ?_, HK.out, ⟨_, _, _, _, rfl⟩, fun _ => by rw [HV.out, HSN.out]⟩
    rw [HDD.out]
    exact HO.out
  · have t1 : (E == 0) = false := by rw [beq_eq_false_iff_ne]; exact hE0
    rw [if_neg hE0]
    have hk0 : ∀ u0 u1, Kep (fun k => k ≠ w.heap.size) W1 ((W1.setCell ⟨w.heap.size, 0, none⟩ u0).setCell ⟨w.heap.size, 1, none⟩ u1) := fun u0 u1 => (kep_set (fun h => h rfl) u0).trans (kep_set (fun h => h rfl) u1)
    have HE := Lib.hid (fun o => (HF1.out.two (.slice none 0 0) 0).below (HBA.out _ o) (by simp; omega))
    have HK := Lib.hid (fun o => ((kep_below (fun k => k ≠ g) HB1.out).andThen (hk0 (.slice none 0 0) (.int .i64 0)) fun i hi _ => by omega).trans (kep_below _ (HBA.out _ o)))
    have HO := Lib.hid (fun o => ((HH.out.below HB1.out).kep (hk0 (.slice none 0 0) (.int .i64 0)) fun k hS => by have := HH.out.lt k hS; omega).below (HBA.out _ o))
    have c0 := HF1.out.f0
    have c1 := HF1.out.f1
    have c2 := fun k => HF1.out.free k
    have HEE := Lib.hid (show facE ok d n = E from by unfold facE; rw [HE0.out, if_neg hE0])
    have HDD := Lib.hid (show facD ok d n = d from by unfold facD; rw [HE0.out, if_neg hE0])
    have HNE := Lib.hid hE0
    clear hE0 hk0 HF1 HB1
    go_wp2_with fail
    refine bodyPost_ret (results_file_tmp rfl _ _ w.heap.size _ _ rfl (HE.out _)) rfl ?_
    refine ⟨c, _, by rw [HEE.out]; rfl, ?_, HK.out _, ⟨_, _, _, _, rfl⟩, fun h => ?_⟩
    · rw [HDD.out]
      exact HO.out _
    · rw [HEE.out] at h
      exact absurd h HNE.out
end Go.Proofs.Ytljfpolcgegkpaa.DK
