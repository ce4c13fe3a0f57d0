/-
  The disk as a plain list of files. No program in it.
-/
set_option linter.unusedVariables false
namespace Go.Proofs.Ytljfpolcgegkpaa.DK

/-- A file: its name, its bytes, how many of them are durable. -/
structure FileD where
  name : List UInt8
  b : List UInt8
  sure : Nat
structure DiskD where
  L : List FileD
  quota : Int
  armed : Int
  stopped : Bool

/-! ### names -/
def charOk (c : UInt8) : Bool := (97 ≤ c && c ≤ 122) || (48 ≤ c && c ≤ 57) || c == 45 || c == 46
def namedL (s : List UInt8) : Bool := decide (1 ≤ s.length) && decide (s.length ≤ 64) && s.all charOk
def lessL : List UInt8 → List UInt8 → Bool
  | [], [] => false
  | [], _ :: _ => true
  | _ :: _, [] => false
  | a :: s, b :: t => if a = b then lessL s t else decide (a < b)
theorem lessL_irr : ∀ s : List UInt8, lessL s s = false
  | [] => rfl
  | a :: s => by simp [lessL, lessL_irr s]
theorem lessL_total : ∀ s t : List UInt8, s ≠ t → lessL s t = false → lessL t s = true
  | [], [], h, _ => absurd rfl h
  | [], _ :: _, _, h => by simp [lessL] at h
  | _ :: _, [], _, _ => rfl
  | a :: s, b :: t, h, hl => by
    unfold lessL at hl ⊢
    by_cases e : a = b
    · subst e
      rw [if_pos rfl] at hl ⊢
      exact lessL_total s t (fun k => h (by rw [k])) hl
    · rw [if_neg e] at hl
      rw [if_neg (fun k => e k.symm)]
      have h1 : ¬ a < b := of_decide_eq_false hl
      have h2 : a.toNat ≠ b.toNat := fun k => e (UInt8.toNat_inj.1 k)
      rw [UInt8.lt_iff_toNat_lt] at h1
      rw [decide_eq_true_eq, UInt8.lt_iff_toNat_lt]
      omega
theorem lessL_trans : ∀ s t u : List UInt8, lessL s t = true → lessL t u = true → lessL s u = true
  | [], [], _, h, _ => by simp [lessL] at h
  | [], _ :: _, [], _, h => by simp [lessL] at h
  | [], _ :: _, _ :: _, _, _ => rfl
  | _ :: _, [], _, h, _ => by simp [lessL] at h
  | _ :: _, _ :: _, [], _, h => by simp [lessL] at h
  | a :: s, b :: t, c :: u, h1, h2 => by
    unfold lessL at h1 h2 ⊢
    by_cases e1 : a = b
    · subst e1
      rw [if_pos rfl] at h1
      by_cases e2 : a = c
      · subst e2
        rw [if_pos rfl] at h2 ⊢
        exact lessL_trans s t u h1 h2
      · rw [if_neg e2] at h2 ⊢
        exact h2
    · rw [if_neg e1] at h1
      by_cases e2 : b = c
      · subst e2
        rw [if_neg e1]
        exact h1
      · rw [if_neg e2] at h2
        have k1 : a < b := of_decide_eq_true h1
        have k2 : b < c := of_decide_eq_true h2
        rw [UInt8.lt_iff_toNat_lt] at k1 k2
        have e3 : a ≠ c := fun k => by
          subst k
          omega
        rw [if_neg e3, decide_eq_true_eq, UInt8.lt_iff_toNat_lt]
        omega

/-! ### files -/
def findL (l : List FileD) (n : List UInt8) : Option FileD := l.find? (fun f => decide (f.name = n))
def usedL (l : List FileD) : Nat := (l.map (·.b.length)).sum
def withoutL (l : List FileD) (n : List UInt8) : List FileD := l.filter (fun f => decide (f.name ≠ n))
def insL (f : FileD) : List FileD → List FileD
  | [] => [f]
  | g :: l => if lessL f.name g.name then f :: g :: l else g :: insL f l
def withL (l : List FileD) (f : FileD) : List FileD := insL f (withoutL l f.name)
/-- Names rise. -/
def Rise : List FileD → Prop
  | [] => True
  | f :: l => (∀ g ∈ l, lessL f.name g.name = true) ∧ Rise l
theorem mem_insL {f g : FileD} : ∀ {l : List FileD}, g ∈ insL f l ↔ g = f ∨ g ∈ l
  | [] => by simp [insL]
  | x :: l => by
    unfold insL
    split
    · simp
    · simp only [List.mem_cons, mem_insL (l := l)]
      constructor
      · rintro (h | h | h) <;> simp [h]
      · rintro (h | h | h) <;> simp [h]
theorem rise_ins {f : FileD} : ∀ {l : List FileD}, Rise l → (∀ g ∈ l, g.name ≠ f.name) → Rise (insL f l)
  | [], _, _ => ⟨by simp, trivial⟩
  | x :: l, h, hn => by
    unfold insL
    split
    · rename_i hl
      refine ⟨fun g hg => ?_, h⟩
      rcases List.mem_cons.1 hg with rfl | hg
      · exact hl
      · exact lessL_trans _ _ _ hl (h.1 g hg)
    · rename_i hl
      refine ⟨fun g hg => ?_, rise_ins h.2 fun g hg => hn g (List.mem_cons_of_mem _ hg)⟩
      rcases mem_insL.1 hg with rfl | hg
      · exact lessL_total _ _ (fun k => hn x (List.mem_cons_self ..) k.symm) (by simpa using hl)
      · exact h.1 g hg
theorem rise_without {n : List UInt8} : ∀ {l : List FileD}, Rise l → Rise (withoutL l n)
  | [], _ => trivial
  | x :: l, h => by
    unfold withoutL
    rw [List.filter_cons]
    split
    · exact ⟨fun g hg => h.1 g (List.mem_filter.1 hg).1, rise_without h.2⟩
    · exact rise_without h.2
theorem rise_with {l : List FileD} {f : FileD} (h : Rise l) : Rise (withL l f) :=
  rise_ins (rise_without h) fun g hg => by
    have := (List.mem_filter.1 hg).2
    simpa using this
theorem used_ins (f : FileD) : ∀ l : List FileD, usedL (insL f l) = f.b.length + usedL l
  | [] => by simp [insL, usedL]
  | x :: l => by
    unfold insL
    split
    · simp [usedL]
    · have := used_ins f l
      simp only [usedL, List.map_cons, List.sum_cons] at this ⊢
      omega
theorem find_mem {l : List FileD} {n : List UInt8} {f : FileD} (h : findL l n = some f) : f ∈ l ∧ f.name = n := by
  unfold findL at h
  exact ⟨List.mem_of_find?_eq_some h, by simpa using List.find?_some h⟩
theorem without_none {l : List FileD} {n : List UInt8} (h : ∀ f ∈ l, f.name ≠ n) : withoutL l n = l := by
  unfold withoutL
  rw [List.filter_eq_self]
  simpa using h
theorem used_without {n : List UInt8} : ∀ {l : List FileD}, Rise l → usedL (withoutL l n) + ((findL l n).map (·.b.length)).getD 0 = usedL l
  | [], _ => rfl
  | x :: l, h => by
    by_cases e : x.name = n
    · have hw : withoutL (x :: l) n = l := by
        have h1 := without_none (l := l) (n := n) fun g hg k => by
          have := h.1 g hg
          rw [e, ← k, lessL_irr] at this
          cases this
        unfold withoutL at h1 ⊢
        rw [List.filter_cons, if_neg (by simp [e]), h1]
      have hf : findL (x :: l) n = some x := by simp [findL, e]
      rw [hw, hf]
      simp [usedL, Nat.add_comm]
    · have hw : withoutL (x :: l) n = x :: withoutL l n := by simp [withoutL, e]
      have hf : findL (x :: l) n = findL l n := by simp [findL, e]
      have ih := used_without (n := n) h.2
      rw [hw, hf]
      simp only [usedL, List.map_cons, List.sum_cons] at ih ⊢
      omega

/-! ### calls -/
def callD (d : DiskD) : DiskD × Bool :=
  if d.armed = 0 then (d, false) else ({ d with armed := d.armed - 1, stopped := d.stopped || decide (d.armed - 1 = 0) }, d.stopped || decide (d.armed - 1 = 0))
/-- A restart keeps of a file what is durable and some of what stands behind it. -/
def restartF (f : FileD) (k : Option Int) : FileD :=
  ⟨f.name, f.b.take (f.sure + (match k with | none => 0 | some k => (k % ((f.b.length - f.sure + 1 : Nat) : Int)).toNat)), f.sure + (match k with | none => 0 | some k => (k % ((f.b.length - f.sure + 1 : Nat) : Int)).toNat)⟩
def restartL : List FileD → List Int → List FileD
  | [], _ => []
  | f :: l, ks => restartF f ks.head? :: restartL l ks.tail
theorem restartF_is (f : FileD) (k : Option Int) (h : f.sure ≤ f.b.length) : ∃ m, f.sure ≤ m ∧ m ≤ f.b.length ∧ restartF f k = ⟨f.name, f.b.take m, m⟩ := by
  cases k with
  | none => exact ⟨f.sure, Nat.le_refl _, h, rfl⟩
  | some k =>
    refine ⟨f.sure + (k % ((f.b.length - f.sure + 1 : Nat) : Int)).toNat, by omega, ?_, rfl⟩
    have h1 := Int.emod_lt_of_pos k (b := ((f.b.length - f.sure + 1 : Nat) : Int)) (by omega)
    have h2 := Int.emod_nonneg k (b := ((f.b.length - f.sure + 1 : Nat) : Int)) (by omega)
    omega
/-- A file that is durable whole stands as it is. -/
theorem restartF_sure (f : FileD) (k : Option Int) (h : f.sure = f.b.length) : restartF f k = f := by
  obtain ⟨m, h1, h2, he⟩ := restartF_is f k (by omega)
  rw [he]
  obtain rfl : m = f.b.length := by omega
  obtain ⟨n, b, s⟩ := f
  simp only at h ⊢
  subst h
  simp
theorem restartL_sure : ∀ (l : List FileD) (ks : List Int), (∀ f ∈ l, f.sure = f.b.length) → restartL l ks = l
  | [], _, _ => rfl
  | f :: l, ks, h => by
    unfold restartL
    rw [restartF_sure f _ (h f (List.mem_cons_self ..)), restartL_sure l _ fun g hg => h g (List.mem_cons_of_mem _ hg)]
theorem restartL_all : ∀ (l : List FileD) (ks : List Int), (∀ f ∈ l, f.sure ≤ f.b.length) → ∀ g ∈ restartL l ks, g.sure = g.b.length
  | [], _, _, g, hg => by simp [restartL] at hg
  | f :: l, ks, h, g, hg => by
    unfold restartL at hg
    rcases List.mem_cons.1 hg with rfl | hg
    · obtain ⟨m, h1, h2, he⟩ := restartF_is f ks.head? (h f (List.mem_cons_self ..))
      rw [he]
      simp only [List.length_take]
      omega
    · exact restartL_all l _ (fun g hg => h g (List.mem_cons_of_mem _ hg)) g hg
theorem restartL_names : ∀ (l : List FileD) (ks : List Int), (restartL l ks).map (·.name) = l.map (·.name)
  | [], _ => rfl
  | f :: l, ks => by
    unfold restartL
    rw [List.map_cons, List.map_cons, restartL_names l]
    rfl
theorem rise_names : ∀ (l m : List FileD), l.map (·.name) = m.map (·.name) → Rise l → Rise m
  | [], [], _, _ => trivial
  | [], _ :: _, h, _ => by simp at h
  | _ :: _, [], h, _ => by simp at h
  | x :: l, y :: m, h, hr => by
    simp only [List.map_cons, List.cons.injEq] at h
    refine ⟨fun g hg => ?_, rise_names l m h.2 hr.2⟩
    have : g.name ∈ m.map (·.name) := List.mem_map_of_mem hg
    rw [← h.2] at this
    obtain ⟨k, hk, e⟩ := List.mem_map.1 this
    rw [← h.1, ← e]
    exact hr.1 k hk

/-! ### the writing calls; an error's number beside -/
def appendD (d : DiskD) (n b : List UInt8) : DiskD × Int :=
  if ¬ namedL n = true then (d, 60) else if d.stopped = true then (d, 63)
  else if findL d.L n = none ∧ 1024 ≤ d.L.length then (d, 3)
  else if 67108864 < (((findL d.L n).map (·.b)).getD []).length + b.length then (d, 2)
  else if 0 < d.quota ∧ b ≠ [] ∧ d.quota < (usedL d.L : Int) + b.length then (d, 62)
  else if (callD d).2 = true then ((callD d).1, 63)
  else ({ (callD d).1 with L := withL (callD d).1.L ⟨n, ((findL d.L n).map (·.b)).getD [] ++ b, ((findL d.L n).map (·.sure)).getD 0⟩ }, 0)
/-- What the other writing calls have in common: the file is turned into others. -/
def onD (d : DiskD) (ok : Bool) (n : List UInt8) (g : FileD → List FileD) : DiskD × Int :=
  if ¬ ok = true then (d, 60) else if d.stopped = true then (d, 63)
  else match findL d.L n with
    | none => (d, 61)
    | some f => if (callD d).2 = true then ((callD d).1, 63) else ({ (callD d).1 with L := g f }, 0)
def syncD (d : DiskD) (n : List UInt8) : DiskD × Int := onD d (namedL n) n fun f => withL d.L ⟨f.name, f.b, f.b.length⟩
def renameD (d : DiskD) (n t : List UInt8) : DiskD × Int := onD d (namedL n && namedL t) n fun f => withL (withoutL d.L n) ⟨t, f.b, f.sure⟩
def removeD (d : DiskD) (n : List UInt8) : DiskD × Int := onD d (namedL n) n fun f => withoutL d.L n
/-- Names rise; what is durable is there; with a quota there are no more bytes than that. -/
structure Good (d : DiskD) : Prop where
  rise : Rise d.L
  sure : ∀ f ∈ d.L, f.sure ≤ f.b.length
theorem call_L (d : DiskD) : (callD d).1.L = d.L ∧ (callD d).1.quota = d.quota := by
  unfold callD
  split <;> exact ⟨rfl, rfl⟩
theorem mem_withL {l : List FileD} {f g : FileD} (h : g ∈ withL l f) : g = f ∨ g ∈ l := by
  rcases mem_insL.1 h with h | h
  · exact .inl h
  · exact .inr (List.mem_filter.1 h).1
theorem append_good {d : DiskD} (n b : List UInt8) (h : Good d) : Good (appendD d n b).1 ∧ ((appendD d n b).2 ≠ 0 → (appendD d n b).1.L = d.L) ∧ (appendD d n b).1.quota = d.quota := by
  have hc := call_L d
  have hg : Good (callD d).1 := ⟨by rw [hc.1]; exact h.rise, by rw [hc.1]; exact h.sure⟩
  unfold appendD
  repeat' split
  all_goals first
    | exact ⟨h, fun _ => rfl, rfl⟩
    | exact ⟨hg, fun _ => hc.1, hc.2⟩
    | skip
  refine ⟨⟨rise_with hg.rise, fun f hf => ?_⟩, fun k => absurd rfl k, hc.2⟩
  rcases mem_withL hf with rfl | hf
  · simp only [List.length_append]
    cases e : findL d.L n with
    | none => simp
    | some g =>
      have := h.sure g (find_mem e).1
      simp only [Option.map_some, Option.getD_some]
      omega
  · exact hg.sure f hf
theorem on_good {d : DiskD} (ok : Bool) (n : List UInt8) (g : FileD → List FileD) (h : Good d) (hg : ∀ f, findL d.L n = some f → Rise (g f) ∧ ∀ x ∈ g f, x.sure ≤ x.b.length) :
    Good (onD d ok n g).1 ∧ ((onD d ok n g).2 ≠ 0 → (onD d ok n g).1.L = d.L) ∧ (onD d ok n g).1.quota = d.quota := by
  have hc := call_L d
  have hgc : Good (callD d).1 := ⟨by rw [hc.1]; exact h.rise, by rw [hc.1]; exact h.sure⟩
  unfold onD
  split
  · exact ⟨h, fun _ => rfl, rfl⟩
  split
  · exact ⟨h, fun _ => rfl, rfl⟩
  split
  · exact ⟨h, fun _ => rfl, rfl⟩
  rename_i f hf
  split
  · exact ⟨hgc, fun _ => hc.1, hc.2⟩
  · exact ⟨⟨(hg f hf).1, (hg f hf).2⟩, fun k => absurd rfl k, hc.2⟩
theorem sync_good {d : DiskD} (n : List UInt8) (h : Good d) : Good (syncD d n).1 ∧ ((syncD d n).2 ≠ 0 → (syncD d n).1.L = d.L) ∧ (syncD d n).1.quota = d.quota :=
  on_good _ _ _ h fun f hf => ⟨rise_with h.rise, fun x hx => by
    rcases mem_withL hx with rfl | hx
    · exact Nat.le_refl _
    · exact h.sure x hx⟩
theorem rename_good {d : DiskD} (n t : List UInt8) (h : Good d) : Good (renameD d n t).1 ∧ ((renameD d n t).2 ≠ 0 → (renameD d n t).1.L = d.L) ∧ (renameD d n t).1.quota = d.quota :=
  on_good _ _ _ h fun f hf => ⟨rise_with (rise_without h.rise), fun x hx => by
    rcases mem_withL hx with rfl | hx
    · exact h.sure f (find_mem hf).1
    · exact h.sure x (List.mem_filter.1 hx).1⟩
theorem remove_good {d : DiskD} (n : List UInt8) (h : Good d) : Good (removeD d n).1 ∧ ((removeD d n).2 ≠ 0 → (removeD d n).1.L = d.L) ∧ (removeD d n).1.quota = d.quota :=
  on_good _ _ _ h fun f hf => ⟨rise_without h.rise, fun x hx => h.sure x (List.mem_filter.1 hx).1⟩

/-! ### no more bytes than the quota -/
theorem used_with {l : List FileD} (f : FileD) (h : Rise l) : usedL (withL l f) + ((findL l f.name).map (·.b.length)).getD 0 = f.b.length + usedL l := by
  have h1 := used_ins f (withoutL l f.name)
  have h2 := used_without (n := f.name) h
  unfold withL
  omega
def Within (d : DiskD) : Prop := 0 < d.quota → (usedL d.L : Int) ≤ d.quota
theorem append_within {d : DiskD} (n b : List UInt8) (h : Good d) (hw : Within d) : Within (appendD d n b).1 := by
  have hc := call_L d
  have hwc : Within (callD d).1 := by unfold Within; rw [hc.1, hc.2]; exact hw
  unfold appendD
  repeat' split
  all_goals first
    | exact hw
    | exact hwc
    | skip
  rename_i hq _
  intro hp
  have hp : 0 < d.quota := by rw [← hc.2]; exact hp
  have hu := used_with (l := d.L) ⟨n, ((findL d.L n).map (·.b)).getD [] ++ b, ((findL d.L n).map (·.sure)).getD 0⟩ h.rise
  have hl : ((findL d.L n).map (·.b.length)).getD 0 = (((findL d.L n).map (·.b)).getD []).length := by cases findL d.L n <;> rfl
  show (usedL (withL (callD d).1.L _) : Int) ≤ (callD d).1.quota
  rw [hc.1, hc.2]
  simp only [List.length_append] at hu
  have hd := hw hp
  by_cases hb : b = []
  · subst hb
    simp only [List.length_nil] at hu
    simp only [List.append_nil] at hu ⊢
    omega
  · have : ¬ d.quota < (usedL d.L : Int) + b.length := fun k => hq ⟨hp, hb, k⟩
    omega
theorem on_within {d : DiskD} (ok : Bool) (n : List UInt8) (g : FileD → List FileD) (hw : Within d) (hg : ∀ f, findL d.L n = some f → usedL (g f) ≤ usedL d.L) : Within (onD d ok n g).1 := by
  have hc := call_L d
  have hwc : Within (callD d).1 := by unfold Within; rw [hc.1, hc.2]; exact hw
  unfold onD
  split
  · exact hw
  split
  · exact hw
  split
  · exact hw
  rename_i f hf
  split
  · exact hwc
  · intro hp
    have hp : 0 < d.quota := by rw [← hc.2]; exact hp
    have := hw hp
    have := hg f hf
    show (usedL (g f) : Int) ≤ (callD d).1.quota
    rw [hc.2]
    omega
theorem used_ge (l : List FileD) (n : List UInt8) (h : Rise l) : usedL (withoutL l n) ≤ usedL l := by
  have := used_without (n := n) h
  omega
theorem sync_within {d : DiskD} (n : List UInt8) (h : Good d) (hw : Within d) : Within (syncD d n).1 :=
  on_within _ _ _ hw fun f hf => by
    have h1 := used_with (l := d.L) ⟨f.name, f.b, f.b.length⟩ h.rise
    simp only [(find_mem hf).2, hf, Option.map_some, Option.getD_some] at h1 ⊢
    omega
theorem remove_within {d : DiskD} (n : List UInt8) (h : Good d) (hw : Within d) : Within (removeD d n).1 :=
  on_within _ _ _ hw fun f hf => used_ge _ _ h.rise
theorem rename_within {d : DiskD} (n t : List UInt8) (h : Good d) (hw : Within d) : Within (renameD d n t).1 :=
  on_within _ _ _ hw fun f hf => by
    have h1 := used_with (l := withoutL d.L n) ⟨t, f.b, f.sure⟩ (rise_without h.rise)
    have h2 := used_without (n := n) h.rise
    rw [hf] at h2
    simp only [Option.map_some, Option.getD_some] at h1 h2 ⊢
    omega

/-! ### restarted -/
theorem restartL_len : ∀ (l : List FileD) (ks : List Int), (restartL l ks).length = l.length
  | [], _ => rfl
  | f :: l, ks => by rw [restartL, List.length_cons, List.length_cons, restartL_len l]
theorem restartL_at : ∀ (l : List FileD) (ks : List Int) (i : Nat), (restartL l ks)[i]? = (l[i]?).map (fun f => restartF f ks[i]?)
  | [], _, i => by simp [restartL]
  | f :: l, [], 0 => by simp [restartL]
  | f :: l, k :: ks, 0 => by simp [restartL]
  | f :: l, [], i + 1 => by
    have := restartL_at l [] i
    simpa [restartL] using this
  | f :: l, k :: ks, i + 1 => by
    have := restartL_at l ks i
    simpa [restartL] using this
def restartD (d : DiskD) (ks : List Int) : DiskD := ⟨restartL d.L ks, d.quota, 0, false⟩
theorem restart_good {d : DiskD} (ks : List Int) (h : Good d) : Good (restartD d ks) :=
  ⟨rise_names _ _ (restartL_names d.L ks).symm h.rise, fun f hf => Nat.le_of_eq (restartL_all d.L ks h.sure f hf)⟩
/-- Behind a restart a second one changes nothing. -/
theorem restart_again {d : DiskD} (ks ms : List Int) (h : Good d) : restartD (restartD d ks) ms = restartD d ks := by
  unfold restartD
  simp only
  rw [restartL_sure _ ms (restartL_all d.L ks h.sure)]
theorem rise_find : ∀ {l : List FileD} {f : FileD}, Rise l → f ∈ l → findL l f.name = some f
  | [], _, _, h => by simp at h
  | x :: l, f, hr, h => by
    unfold findL
    rw [List.find?_cons]
    rcases List.mem_cons.1 h with rfl | h
    · simp
    · have hl := hr.1 f h
      have hne : x.name ≠ f.name := fun k => by
        rw [k, lessL_irr] at hl
        cases hl
      rw [show decide (x.name = f.name) = false by simp [hne]]
      exact rise_find hr.2 h
/-- What a restart leaves of a file: its durable beginning, at least, and a beginning of what it had. -/
theorem restart_find {d : DiskD} (ks : List Int) (h : Good d) {f : FileD} (hf : f ∈ d.L) : ∃ m, f.sure ≤ m ∧ m ≤ f.b.length ∧ findL (restartD d ks).L f.name = some ⟨f.name, f.b.take m, m⟩ := by
  obtain ⟨i, hi, rfl⟩ := List.mem_iff_getElem.1 hf
  have h1 := restartL_at d.L ks i
  rw [List.getElem?_eq_getElem hi, Option.map_some] at h1
  obtain ⟨m, m1, m2, he⟩ := restartF_is d.L[i] ks[i]? (h.sure _ hf)
  rw [he] at h1
  refine ⟨m, m1, m2, ?_⟩
  exact rise_find (restart_good ks h).rise (List.mem_of_getElem? h1)
theorem restart_used {d : DiskD} : ∀ (l : List FileD) (ks : List Int), (∀ f ∈ l, f.sure ≤ f.b.length) → usedL (restartL l ks) ≤ usedL l
  | [], _, _ => Nat.le_refl _
  | f :: l, ks, h => by
    have ih := restart_used (d := d) l ks.tail fun g hg => h g (List.mem_cons_of_mem _ hg)
    obtain ⟨m, m1, m2, he⟩ := restartF_is f ks.head? (h f (List.mem_cons_self ..))
    unfold restartL
    rw [he]
    simp only [usedL, List.map_cons, List.sum_cons, List.length_take] at ih ⊢
    omega
theorem restart_within {d : DiskD} (ks : List Int) (h : Good d) (hw : Within d) : Within (restartD d ks) := fun hp => by
  have h1 := restart_used (d := d) d.L ks h.sure
  have h2 := hw hp
  show (usedL (restartL d.L ks) : Int) ≤ d.quota
  omega
end Go.Proofs.Ytljfpolcgegkpaa.DK
