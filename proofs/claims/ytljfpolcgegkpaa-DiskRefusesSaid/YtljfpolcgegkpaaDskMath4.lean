/-
  What holds of each disk that is reached: kept by each call. No program in it.
-/
import Derived.Test.YtljfpolcgegkpaaDskMath2
set_option linter.unusedVariables false
namespace Go.Proofs.Ytljfpolcgegkpaa.DK

/-- What holds of each disk that is reached. -/
structure Fits (d : DiskD) : Prop where
  good : Good d
  len : d.L.length ≤ 1024
  bytes : ∀ f ∈ d.L, f.b.length ≤ 67108864
  name : ∀ f ∈ d.L, f.name.length ≤ 64
  q0 : 0 ≤ d.quota
  q1 : d.quota ≤ 9223372036854775807
theorem named_len {n : List UInt8} (h : namedL n = true) : n.length ≤ 64 := by
  unfold namedL at h
  simp only [Bool.and_eq_true, decide_eq_true_eq] at h
  exact h.1.2
theorem mem_without {l : List FileD} {n : List UInt8} {f : FileD} (h : f ∈ withoutL l n) : f ∈ l := (List.mem_filter.1 h).1
theorem append_fits {d : DiskD} (n b : List UInt8) (h : Fits d) : Fits (appendD d n b).1 := by
  have hg := append_good n b h.good
  have hc := call_L d
  have hcd : ∀ e : DiskD, e.L = d.L → e.quota = d.quota → Good e → Fits e := fun e e1 e2 e3 => ⟨e3, by rw [e1]; exact h.len, by rw [e1]; exact h.bytes, by rw [e1]; exact h.name, by rw [e2]; exact h.q0, by rw [e2]; exact h.q1⟩
  unfold appendD at hg ⊢
  split
  · exact h
  rename_i hn
  split
  · exact h
  split
  · exact h
  rename_i hm
  split
  · exact h
  rename_i hl
  split
  · exact h
  rename_i hq
  split
  · exact hcd _ hc.1 hc.2 ⟨by rw [hc.1]; exact h.good.rise, by rw [hc.1]; exact h.good.sure⟩
  rename_i hst hcc
  rw [if_neg hn, if_neg hst, if_neg hm, if_neg hl, if_neg hq, if_neg hcc] at hg
  have hnn : namedL n = true := by simpa using hn
  refine ⟨hg.1, ?_, fun f hf => ?_, fun f hf => ?_, by rw [hg.2.2]; exact h.q0, by rw [hg.2.2]; exact h.q1⟩
  · show (withL (callD d).1.L _).length ≤ 1024
    rw [hc.1, len_with _ h.good.rise]
    have h1 := h.len
    cases hf : findL d.L n with
    | none =>
      have : ¬ 1024 ≤ d.L.length := fun k => hm ⟨hf, k⟩
      simp only [Option.isSome_none, Bool.false_eq_true, if_false]
      omega
    | some f => simpa using h1
  · have hf : f ∈ withL (callD d).1.L _ := hf
    rw [hc.1] at hf
    rcases mem_withL hf with rfl | hf
    · simp only [List.length_append]
      omega
    · exact h.bytes f hf
  · have hf : f ∈ withL (callD d).1.L _ := hf
    rw [hc.1] at hf
    rcases mem_withL hf with rfl | hf
    · exact named_len hnn
    · exact h.name f hf
theorem on_fits {d : DiskD} (ok : Bool) (n : List UInt8) (G : FileD → List FileD) (h : Fits d) (hg : Good (onD d ok n G).1) (hG : ∀ f, ok = true → findL d.L n = some f → (G f).length ≤ 1024 ∧ ∀ x ∈ G f, x.b.length ≤ 67108864 ∧ x.name.length ≤ 64) : Fits (onD d ok n G).1 := by
  have hc := call_L d
  unfold onD at hg ⊢
  split
  · exact h
  rename_i hok
  split
  · exact h
  rename_i hst
  rw [if_neg hok, if_neg hst] at hg
  split
  · exact h
  rename_i f hf
  rw [hf] at hg
  dsimp only at hg
  split
  · rename_i hcc
    exact ⟨⟨by rw [hc.1]; exact h.good.rise, by rw [hc.1]; exact h.good.sure⟩, by rw [hc.1]; exact h.len, by rw [hc.1]; exact h.bytes, by rw [hc.1]; exact h.name, by rw [hc.2]; exact h.q0, by rw [hc.2]; exact h.q1⟩
  · rename_i hcc
    rw [if_neg hcc] at hg
    obtain ⟨g1, g2⟩ := hG f (by simpa using hok) hf
    exact ⟨hg, g1, fun x hx => (g2 x hx).1, fun x hx => (g2 x hx).2, by show 0 ≤ (callD d).1.quota; rw [hc.2]; exact h.q0, by show (callD d).1.quota ≤ _; rw [hc.2]; exact h.q1⟩
theorem sync_fits {d : DiskD} (n : List UInt8) (h : Fits d) : Fits (syncD d n).1 :=
  on_fits _ _ _ h (sync_good n h.good).1 fun f hok hf => by
    refine ⟨?_, fun x hx => ?_⟩
    · rw [len_with _ h.good.rise, (find_mem hf).2, hf]
      simpa using h.len
    · rcases mem_withL hx with rfl | hx
      · exact ⟨h.bytes f (find_mem hf).1, h.name f (find_mem hf).1⟩
      · exact ⟨h.bytes x hx, h.name x hx⟩
theorem remove_fits {d : DiskD} (n : List UInt8) (h : Fits d) : Fits (removeD d n).1 :=
  on_fits _ _ _ h (remove_good n h.good).1 fun f hok hf => by
    refine ⟨?_, fun x hx => ⟨h.bytes x (mem_without hx), h.name x (mem_without hx)⟩⟩
    rw [len_without h.good.rise]
    have := h.len
    split <;> omega
theorem rename_fits {d : DiskD} (n t : List UInt8) (h : Fits d) : Fits (renameD d n t).1 :=
  on_fits _ _ _ h (rename_good n t h.good).1 fun f hok hf => by
    have ht : namedL t = true := by
      simp only [Bool.and_eq_true] at hok
      exact hok.2
    refine ⟨?_, fun x hx => ?_⟩
    · rw [len_with _ (rise_without h.good.rise), len_without h.good.rise, hf]
      have := h.len
      have := List.length_pos_of_mem (find_mem hf).1
      simp only [Option.isSome_some, if_true]
      split <;> omega
    · rcases mem_withL hx with rfl | hx
      · exact ⟨h.bytes f (find_mem hf).1, named_len ht⟩
      · exact ⟨h.bytes x (mem_without hx), h.name x (mem_without hx)⟩
theorem restart_fits {d : DiskD} (ks : List Int) (h : Fits d) : Fits (restartD d ks) := by
  have hm : ∀ (L : List FileD) (ks : List Int), (∀ f ∈ L, f.sure ≤ f.b.length) → ∀ g ∈ restartL L ks, ∃ f ∈ L, g.name = f.name ∧ g.b.length ≤ f.b.length := by
    intro L
    induction L with
    | nil => intro ks _ g hg; simp [restartL] at hg
    | cons x L ih =>
      intro ks hs g hg
      unfold restartL at hg
      rcases List.mem_cons.1 hg with rfl | hg
      · obtain ⟨m, m1, m2, he⟩ := restartF_is x ks.head? (hs x (List.mem_cons_self ..))
        rw [he]
        exact ⟨x, List.mem_cons_self .., rfl, by simp; omega⟩
      · obtain ⟨f, hf, h1, h2⟩ := ih ks.tail (fun g hg => hs g (List.mem_cons_of_mem _ hg)) g hg
        exact ⟨f, List.mem_cons_of_mem _ hf, h1, h2⟩
  refine ⟨restart_good ks h.good, by show (restartL d.L ks).length ≤ 1024; rw [restartL_len]; exact h.len, fun g hg => ?_, fun g hg => ?_, h.q0, h.q1⟩
  · obtain ⟨f, hf, h1, h2⟩ := hm d.L ks h.good.sure g hg
    have := h.bytes f hf
    omega
  · obtain ⟨f, hf, h1, h2⟩ := hm d.L ks h.good.sure g hg
    rw [h1]
    exact h.name f hf
theorem used_bound : ∀ (L : List FileD), (∀ f ∈ L, f.b.length ≤ 67108864) → usedL L ≤ 67108864 * L.length
  | [], _ => by simp [usedL]
  | f :: L, h => by
    have ih := used_bound L fun g hg => h g (List.mem_cons_of_mem _ hg)
    have := h f (List.mem_cons_self ..)
    unfold usedL at ih ⊢
    rw [List.map_cons, List.sum_cons, List.length_cons]
    omega
theorem Fits.used {d : DiskD} (h : Fits d) : usedL d.L ≤ 1000000000000000 := by
  have := used_bound d.L h.bytes
  have := h.len
  omega
end Go.Proofs.Ytljfpolcgegkpaa.DK
