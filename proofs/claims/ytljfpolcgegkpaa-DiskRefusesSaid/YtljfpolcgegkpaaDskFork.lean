/-
  The code's Fork: another disk like this one, all of it in new memory. Condition: bytes that memory bears.
-/
import Derived.Test.YtljfpolcgegkpaaDskUsed
import Derived.Test.YtljfpolcgegkpaaDskCode9
import Derived.Test.YtljfpolcgegkpaaRegK
set_option linter.unusedVariables false
namespace Go.Proofs.Ytljfpolcgegkpaa.DK
open Go.RowKit Go.Proofs.Ytljfpolcgegkpaa.MM Go.Maps

/-! ### how many files have come -/
def cameL (L : List FileD) (left : List UInt8 → Bool) : Nat := (L.map (fun f => if left f.name then 0 else 1)).sum
theorem came_start : ∀ (L M : List FileD), (∀ f ∈ L, (findL M f.name).isSome = true) → cameL L (fun n => (findL M n).isSome) = 0
  | [], _, _ => rfl
  | f :: L, M, h => by
    have ih := came_start L M fun g hg => h g (List.mem_cons_of_mem _ hg)
    unfold cameL at ih ⊢
    rw [List.map_cons, List.sum_cons, ih, if_pos (h f (List.mem_cons_self ..))]
theorem came_end (L : List FileD) (left : List UInt8 → Bool) (h : ∀ n, left n = false) : cameL L left = L.length := by
  unfold cameL
  induction L with
  | nil => rfl
  | cons f L ih =>
    rw [List.map_cons, List.sum_cons, ih, h]
    simp; omega
theorem came_other : ∀ (L : List FileD) (left : List UInt8 → Bool) (n : List UInt8), (∀ g ∈ L, g.name ≠ n) → cameL L (fun k => left k && !decide (k = n)) = cameL L left
  | [], _, _, _ => rfl
  | f :: L, left, n, h => by
    have ih := came_other L left n fun g hg => h g (List.mem_cons_of_mem _ hg)
    unfold cameL at ih ⊢
    rw [List.map_cons, List.sum_cons, List.map_cons, List.sum_cons, ih]
    simp [h f (List.mem_cons_self ..)]
theorem came_step : ∀ (L : List FileD) (left : List UInt8 → Bool) (n : List UInt8) (f : FileD), Rise L → findL L n = some f → left n = true → cameL L (fun k => left k && !decide (k = n)) = cameL L left + 1
  | [], _, _, _, _, h, _ => by simp [findL] at h
  | x :: L, left, n, f, hr, h, hl => by
    by_cases e : x.name = n
    · have := came_other L left n fun g hg k => by
        have := hr.1 g hg
        rw [e, ← k, lessL_irr] at this
        cases this
      unfold cameL at this ⊢
      rw [List.map_cons, List.sum_cons, List.map_cons, List.sum_cons, this]
      simp [e, hl]
      omega
    · have ih := came_step L left n f hr.2 (by simpa [findL, e] using h) hl
      unfold cameL at ih ⊢
      rw [List.map_cons, List.sum_cons, List.map_cons, List.sum_cons, ih]
      simp [e]
      omega
theorem came_le : ∀ (L : List FileD) (left : List UInt8 → Bool), cameL L left ≤ L.length
  | [], _ => Nat.le_refl _
  | f :: L, left => by
    have ih := came_le L left
    unfold cameL at ih ⊢
    rw [List.map_cons, List.sum_cons, List.length_cons]
    split <;> omega

/-! ### a table under way -/
structure ForkAt (A : Nat) (w : World) (mq : Nat) (V : List UInt8 → Value) (L : List FileD) (left : List UInt8 → Bool) : Prop where
  map : MapV w mq (cameL L left) (fun n => if left n = true then none else tabF L V n)
  own : ∀ f ∈ L, left f.name = false → OwnB A w (V f.name) f.b
  apart : ∀ f ∈ L, left f.name = false → ∀ g ∈ L, left g.name = false → f.name ≠ g.name → ∀ k, (V f.name).ownBlock = some k → (V g.name).ownBlock ≠ some k
theorem ForkAt.below {A : Nat} {w w' : World} {mq : Nat} {V : List UInt8 → Value} {L : List FileD} {left : List UInt8 → Bool} (h : ForkAt A w mq V L left) (hb : Below w.heap.size w w') : ForkAt A w' mq V L left :=
  ⟨h.map.below hb, fun f hf hl => (h.own f hf hl).keep hb, h.apart⟩
theorem tab_none {L : List FileD} {V V' : List UInt8 → Value} {n : List UInt8} (h : (tabF L V n).isSome = false) : tabF L V' n = none := by
  unfold tabF at h ⊢
  rw [Option.isSome_map] at h
  cases hf : findL L n with
  | none => rfl
  | some f => rw [hf] at h; cases h
theorem fork_start {A : Nat} {w : World} {mq : Nat} {V V' : List UInt8 → Value} {L : List FileD} (h : MapV w mq 0 (fun _ => none)) (hL : ∀ f ∈ L, (findL L f.name).isSome = true) : ForkAt A w mq V' L (fun n => (tabF L V n).isSome) := by
  have e : (fun n => (tabF L V n).isSome) = fun n => (findL L n).isSome := by
    funext n
    unfold tabF
    rw [Option.isSome_map]
  refine ⟨?_, fun f hf hl => ?_, fun f hf hl => ?_⟩
  · have e2 : (fun n => if (tabF L V n).isSome = true then none else tabF L V' n) = fun _ => (none : Option Value) := by
      funext n
      split
      · rfl
      · rename_i hn
        exact tab_none (by simpa using hn)
    rw [e2, e, came_start L L hL]
    exact h
  · have := congrFun e f.name
    rw [this, hL f hf] at hl
    cases hl
  · have := congrFun e f.name
    rw [this, hL f hf] at hl
    cases hl
theorem ForkAt.step {A : Nat} {w w' : World} {mq : Nat} {V : List UInt8 → Value} {L : List FileD} {left : List UInt8 → Bool} (h : ForkAt A w mq V L left) (hr : Rise L) {n : List UInt8} {f : FileD} (hf : findL L n = some f) (hl : left n = true) {v' : Value} (C : Nat)
    (hm : MapV w' mq (if ((fun n => if left n = true then none else tabF L V n) n).isSome then cameL L left else cameL L left + 1) (fun k => if k = n then some (fileCV v' f.sure) else (fun n => if left n = true then none else tabF L V n) k))
    (hk : Kep (fun k => k ≠ mq) w w') (ho : OwnB A w' v' f.b) (hnew : ∀ k, v'.ownBlock = some k → C ≤ k) (hold : ∀ g ∈ L, left g.name = false → ∀ k, (V g.name).ownBlock = some k → k < C)
    (hrow : ∀ g ∈ L, left g.name = false → ∀ k, (V g.name).ownBlock = some k → k ≠ mq) :
    ForkAt A w' mq (fun k => if k = n then v' else V k) L (fun k => left k && !decide (k = n)) := by
  have hfn := (find_mem hf).2
  have hfm := (find_mem hf).1
  refine ⟨?_, fun x hx hlx => ?_, fun x hx hlx y hy hly hne k hk' => ?_⟩
  · rw [came_step L left n f hr hf hl]
    have e1 : ((fun n => if left n = true then none else tabF L V n) n).isSome = false := by simp [hl]
    rw [e1] at hm
    have e2 : (fun m => if (left m && !decide (m = n)) = true then none else tabF L (fun k => if k = n then v' else V k) m) = (fun k => if k = n then some (fileCV v' f.sure) else (fun n => if left n = true then none else tabF L V n) k) := by
      funext m
      by_cases e : m = n
      · subst e
        simp [tabF, hf]
      · simp [e, tabF]
    rw [e2]
    simpa using hm
  · by_cases e : x.name = n
    · have : x = f := by
        have h2 := rise_find hr hx
        rw [e, hf] at h2
        exact (Option.some.inj h2).symm
      subst this
      rw [if_pos e]
      exact ho
    · rw [if_neg e]
      have hlx' : left x.name = false := by simpa [e] using hlx
      exact OwnB.kepB (h.own x hx hlx') hk (hrow x hx hlx')
  · by_cases e : x.name = n
    · rw [if_pos e] at hk'
      have e2 : y.name ≠ n := fun q => hne (e.trans q.symm)
      rw [if_neg e2]
      intro hy'
      have hly' : left y.name = false := by simpa [e2] using hly
      have h1 := hnew k hk'
      have h2 := hold y hy hly' k hy'
      omega
    · rw [if_neg e] at hk'
      have hlx' : left x.name = false := by simpa [e] using hlx
      by_cases e2 : y.name = n
      · rw [if_pos e2]
        intro hy'
        have h1 := hnew k hy'
        have h2 := hold x hx hlx' k hk'
        omega
      · rw [if_neg e2]
        have hly' : left y.name = false := by simpa [e2] using hly
        exact h.apart x hx hlx' y hy hly' hne k hk'
theorem ForkAt.tab {A : Nat} {w : World} {mq : Nat} {V : List UInt8 → Value} {L : List FileD} {left : List UInt8 → Bool} (h : ForkAt A w mq V L left) (hl : ∀ n, left n = false) (hq : A ≤ mq) : Tab (fun k => A ≤ k ∧ k < w.heap.size) w mq V L := by
  refine ⟨?_, fun f hf => (h.own f hf (hl _)).weaken (Nat.zero_le _), fun f hf g hg hne => h.apart f hf (hl _) g hg (hl _) hne, fun f hf k hk => World.ownsRow.lt (h.own f hf (hl _)) k hk, hq, h.map.lt⟩
  have := h.map
  rw [came_end L left hl] at this
  have e : (fun n => if left n = true then none else tabF L V n) = tabF L V := by
    funext n
    rw [hl n]; rfl
  rw [e] at this
  exact this

/-- A row of bytes is no iterator. -/
theorem RangeV.noRow {w : World} {mb r m B : Nat} {F : List UInt8 → Option Value} {left : List UInt8 → Bool} {cnt : Nat} (h : RangeV w mb r m F left cnt) {v : Value} {l : List UInt8} (hv : OwnB B w v l) {k : Nat} (hk : v.ownBlock = some k) : k ≠ r := by
  obtain ⟨D, lf, hr, _⟩ := h
  obtain ⟨es, clock, since, seen, c0, g1, g2, g3, g4, g5, rest⟩ := hr
  rcases hv.2 with ⟨rfl, _⟩ | ⟨b, cap, cur, rfl, _, hh, _⟩
  · cases hk
  · obtain rfl : b = k := Option.some.inj hk
    intro e
    subst e
    rw [hh] at g5
    cases g5
theorem MapV.noRow {w : World} {mb m B : Nat} {F : List UInt8 → Option Value} (h : MapV w mb m F) {v : Value} {l : List UInt8} (hv : OwnB B w v l) {k : Nat} (hk : v.ownBlock = some k) : k ≠ mb := by
  obtain ⟨es, c, hm⟩ := h.obj
  rcases hv.2 with ⟨rfl, _⟩ | ⟨b, cap, cur, rfl, _, hh, _⟩
  · cases hk
  · obtain rfl : b = k := Option.some.inj hk
    intro e
    subst e
    rw [hh] at hm
    cases hm
theorem ForkAt.kep {T : Nat → Prop} {A : Nat} {w w' : World} {mq : Nat} {V : List UInt8 → Value} {L : List FileD} {left : List UInt8 → Bool} (h : ForkAt A w mq V L left) (hk : Kep T w w') (h1 : T mq) (h2 : ∀ f ∈ L, left f.name = false → ∀ k, (V f.name).ownBlock = some k → T k) : ForkAt A w' mq V L left :=
  ⟨h.map.kep hk h1, fun f hf hl => OwnB.kepB (h.own f hf hl) hk (h2 f hf hl), h.apart⟩

/-! ### Fork -/
/-- A disk of the call's own, like the one that it was made of. -/
def ForkC (c : Int) (d : DiskD) (w : World) (e : Ending) (w' : World) : Prop := ∃ S g mb V, e = .returned (.pointer (some ⟨g, 0, none⟩)) ∧ CObj S w' g mb V c d ∧ (∀ k, S k → w.heap.size ≤ k) ∧ Below w.heap.size w w'
theorem zeroDisk (w : World) : (zeroValue 63).run Try.prog w = .ok (.agg #[.map none, .int .i64 0, .int .i64 0, .bool false]) w := by kernel_rfl
theorem make_hint (x : Int) (w : World) : (Instr.makeMap 61 (some (.int .i64 x))).run Try.prog w = .ok (.map (some w.heap.size)) (w.alloc (.map #[] 0)) := by kernel_rfl
set_option maxRecDepth 100000 in
set_option maxHeartbeats 1000000 in
theorem cfork_any (S : Nat → Prop) (g mb : Nat) (V : List UInt8 → Value) (c : Int) (d : DiskD) (w : World) (h : CObj S w g mb V c d) (hF : Fits d) :
    Calls Try.prog 19 #[.pointer (some ⟨g, 0, none⟩)] w (ForkC c d w) := by
  have h0 := h.g0
  have h1 := h.g1
  have h2 := h.g2
  have h3 := h.g3
  have hzd := zeroDisk
  obtain ⟨o1, ho1⟩ : ∃ o, Obj.cells #[.map (some mb), .int .i64 d.quota, .int .i64 c, .bool d.stopped] 63 (0, 0) = o := ⟨_, rfl⟩
  obtain ⟨W1, hW1⟩ : ∃ W, w.alloc o1 = W := ⟨_, rfl⟩
  have b1 : Below w.heap.size w W1 := by rw [← hW1]; exact (Below.refl _ _).alloc (Nat.le_refl _) _
  have s1 : W1.heap.size = w.heap.size + 1 := by rw [← hW1]; simp
  have hh1 := h.below b1
  have c1 := hh1.g0
  have l1 := hh1.tab.map.len
  have hmm := make_hint (d.L.length : Int) W1
  obtain ⟨o3, ho3⟩ : ∃ o, Obj.cells #[.map (some (w.heap.size + 1)), .int .i64 d.quota, .int .i64 c, .bool d.stopped] 63 (0, 0) = o := ⟨_, rfl⟩
  obtain ⟨W3, hW3⟩ : ∃ W, (w.alloc o3).alloc (.map #[] 0) = W := ⟨_, rfl⟩
  have b13 : Below w.heap.size w W3 := by rw [← hW3]; exact ((Below.refl _ _).alloc (Nat.le_refl _) _).alloc (by simp) _
  have s3 : W3.heap.size = w.heap.size + 2 := by rw [← hW3]; simp
  have n3 : W3.heap[w.heap.size]? = some (.cells #[.map (some (w.heap.size + 1)), .int .i64 d.quota, .int .i64 c, .bool d.stopped] 63 (0, 0)) := by
    rw [← hW3]
    have h1 : (w.alloc o3).heap[w.heap.size]? = some o3 := by show (w.heap.push o3)[w.heap.size]? = _; simp
    have h2 : Below (w.alloc o3).heap.size (w.alloc o3) ((w.alloc o3).alloc (.map #[] 0)) := (Below.refl _ _).alloc (Nat.le_refl _) _
    rw [h2.block w.heap.size (by simp), h1, ho3]
  have m3 : MapV W3 (w.heap.size + 1) 0 (fun _ => none) := by
    have := MapV.made (w.alloc o3)
    rw [hW3, show (w.alloc o3).heap.size = w.heap.size + 1 by simp] at this
    exact this
  have hh3 := h.below b13
  have c3 := hh3.g0
  have HM := Lib.hid hh3.tab.map
  have HN := Lib.hid n3
  have HQ := Lib.hid (fork_start (A := w.heap.size) (V := V) (V' := V) m3 (fun f hf => self_find hf) : ForkAt w.heap.size W3 (w.heap.size + 1) V d.L (fun n => (tabF d.L V n).isSome))
  have HB := Lib.hid b13
  have HH := Lib.hid h
  rw [← hW1, ← ho1] at c1 l1 hmm
  rw [← hW3, ← ho3] at c3
  have HO3 := Lib.hid ho3
  have HW3 := Lib.hid hW3
  have HS3 := Lib.hid s3
  clear h hh1 hh3 n3 m3 b13 hW1 ho1 hW3 ho3 b1 s1 s3
  go_enter Try.func19, Try.ntmps19
  go_wp2_with fail
  refine (made_yes g mb w h0).mono ?_
  rintro e w1 ⟨rfl, rfl⟩
  go_wp2_with (at_range; go_loud (rw [HO3.out, HW3.out]; refine wpList_range_files rfl _ rfl mb _ _ rfl HM.out ?_; intro w0 cnt0 hrg0 hb0 hs0))
  have HN0 := Lib.hid ((hb0.block _ (Array.getElem?_eq_some_iff.1 HN.out).1).trans HN.out)
  have HQ0 := Lib.hid (HQ.out.below hb0)
  have HB0 := Lib.hid (HB.out.trans (hb0.mono HB.out.size))
  have HR0 := Lib.hid hrg0
  clear hrg0 hb0 hs0 c1 l1 hmm c3 hzd HN HQ HB h0 h1 h2 h3
  go_frame
  go_loopw [4] (fun v wr => ∃ (left : List UInt8 → Bool) (cnt : Nat) (V' : List UInt8 → Value), Hid (RangeV wr mb W3.heap.size d.L.length (tabF d.L V) left cnt) ∧ Hid (ForkAt w.heap.size wr (w.heap.size + 1) V' d.L left) ∧ Hid (wr.heap[w.heap.size]? = some (.cells #[.map (some (w.heap.size + 1)), .int .i64 d.quota, .int .i64 c, .bool d.stopped] 63 (0, 0))) ∧ Hid (Below w.heap.size w wr)) (fun _ wr => wr.rangeLeft mb W3.heap.size)
  case atStart => exact ⟨_, cnt0, V, HR0, HQ0, HN0, HB0⟩
  case round =>
    obtain ⟨left, cnt, V', HRG, HQ, HN, HB⟩ := hrel
    clear HR0 HQ0 HN0 HB0
    go_wp2_with (at_next; go_loud (refine wpList_next_files rfl _ rfl mb W3.heap.size _ _ left cnt rfl HRG.out ?_ ?_))
    · intro hl0
      have ht := HQ.out.tab hl0 (by omega)
      have hh := HH.out
      have HF := Lib.hid (show ForkC c d w (.returned (.pointer (some ⟨w.heap.size, 0, none⟩))) wr from ⟨fun k => w.heap.size ≤ k ∧ k < wr.heap.size, w.heap.size, w.heap.size + 1, V', rfl, ⟨HN.out, hh.armed, hh.c0, hh.c1, ht, ⟨Nat.le_refl _, (Array.getElem?_eq_some_iff.1 HN.out).1⟩, fun k hk => hk.2⟩, fun k hk => hk.1, HB.out⟩)
      clear ht hh hl0
      go_wp2_with fail
      go_ret
      exact HF.out
    · intro n v w1 cnt1 hn hl hFn hrg1 hlt hk1 hsz hen
      obtain ⟨f, hf, hfv⟩ : ∃ f, findL d.L n = some f ∧ fileCV (V n) f.sure = v := by
        unfold tabF at hFn
        obtain ⟨f, h1, h2⟩ := Option.map_eq_some_iff.1 hFn
        exact ⟨f, h1, h2⟩
      have hle0 := HB.out.size
      have s3 := HS3.out
      have hbw1 : Below w.heap.size w w1 := HB.out.trans (hk1.below hle0 (fun k hk e => by omega))
      have hrow0 := HH.out.tab.own f (find_mem hf).1
      rw [(find_mem hf).2] at hrow0
      have hrow1 := hrow0.keep hbw1
      obtain ⟨p, cap, hv, _, _⟩ := own_slice hrow1
      have hfl : f.b.length ≤ 1000000000000 := by have := hF.bytes f (find_mem hf).1; omega
      unfold fileCV at hfv
      rw [hv] at hfv hrow1
      subst hfv
      have hrg0 := HRG.out
      have hq1 : ForkAt w.heap.size w1 (w.heap.size + 1) V' d.L left := HQ.out.kep hk1 (by omega) (fun x hx hlx k hk => by have := hrg0.noRow (HQ.out.own x hx hlx) hk; omega)
      have hn1 := (hk1.block w.heap.size (Array.getElem?_eq_some_iff.1 HN.out).1 (by omega)).trans HN.out
      obtain ⟨oA, hoA⟩ : ∃ o, Obj.cells #[.slice p f.b.length cap, .int .i64 (f.sure : Int)] 82 (0, 0) = o := ⟨_, rfl⟩
      obtain ⟨wd, hwd⟩ : ∃ wd, (w1.alloc oA).drew = wd := ⟨_, rfl⟩
      have hbd : Below w1.heap.size w1 wd := by rw [← hwd]; exact ((Below.refl _ _).alloc (Nat.le_refl _) _).drew
      have hsd : wd.heap.size = w1.heap.size + 1 := by rw [← hwd]; show (w1.alloc oA).heap.size = _; simp
      have hnA : wd.heap[w1.heap.size]? = some (.cells #[.slice p f.b.length cap, .int .i64 (f.sure : Int)] 82 (0, 0)) := by
        rw [← hwd, hoA]
        show (w1.heap.push oA)[w1.heap.size]? = _
        simp
      have hqd := hq1.below hbd
      have hnd := (hbd.block w.heap.size (Array.getElem?_eq_some_iff.1 hn1).1).trans hn1
      have hrd := hrg1.kep (kep_below (fun _ => True) hbd) trivial trivial
      have hrowd := hrow1.brow.below hbd
      have hbwd := hbw1.trans (hbd.mono hbw1.size)
      have hws : w.heap.size < w1.heap.size := (Array.getElem?_eq_some_iff.1 hn1).1
      have hzf : ∀ W, (zeroValue 82).run Try.prog W = .ok (.agg #[.slice none 0 0, .int .i64 0]) W := zeroF
      have hlt1 := hrg1.lt
      have HQD := Lib.hid hqd
      have HND := Lib.hid hnd
      have HRD := Lib.hid hrd
      have HROW := Lib.hid hrowd
      have HBWD := Lib.hid hbwd
      have HNA := Lib.hid hnA
      have HWD := Lib.hid hwd
      have HOA := Lib.hid hoA
      have HF := Lib.hid hf
      have HL := Lib.hid hl
      have HRL := Lib.hid HRG.out.left_eq
      have HCN := Lib.hid hlt
      have HNL := Lib.hid hn
      clear hq1 hn1 hqd hnd hrd hrowd hbwd hnA hwd hoA hf hl hlt hn hrow0 hrow1 hrg1 hrg0 hk1 hbd HQ HN HRG HB hbw1 hFn hv hsz
      have HSD := Lib.hid hsd
      clear hsd s3
      go_wp2_with fail
      refine RK.begin_ (T := fun k => k ≠ w.heap.size + 1) [(0, true), (1, true), (2, true), (3, true), (4, false), (5, false)] (by kernel_rfl) (by kernel_rfl) rfl (by kernel_rfl) (fun _ _ d _ _ h => by cases d <;> exact h) ?_
      simp only [RK.ordered, List.map_cons, List.map_nil, List.getElem?_toArray, List.getElem?_cons_succ, List.getElem?_cons_zero]
      rw [HOA.out, HWD.out]
      have s3 := HS3.out
      have g0 := fun W (hW : Kep (fun k => k ≠ w.heap.size + 1) wd W) => (show W.cell? ⟨w.heap.size, 0, none⟩ = some (.map (some (w.heap.size + 1))) by rw [hW.cell (Array.getElem?_eq_some_iff.1 HND.out).1 (by omega), cell_of_row _ _ _ _ _ _ HND.out]; rfl)
      have g1 := fun W (hW : Kep (fun k => k ≠ w.heap.size + 1) wd W) => (show W.cell? ⟨w1.heap.size, 0, none⟩ = some (.slice p f.b.length cap) by rw [hW.cell (Array.getElem?_eq_some_iff.1 HNA.out).1 (by omega), cell_of_row _ _ _ _ _ _ HNA.out]; rfl)
      have g2 := fun W (hW : Kep (fun k => k ≠ w.heap.size + 1) wd W) => (show W.cell? ⟨w1.heap.size, 1, none⟩ = some (.int .i64 (f.sure : Int)) by rw [hW.cell (Array.getElem?_eq_some_iff.1 HNA.out).1 (by omega), cell_of_row _ _ _ _ _ _ HNA.out]; rfl)
      clear s3
      repeat (refine RK.take (by rfl) (by intro W hW; go_simp; with_reducible rfl) ?_; simp only [Act.put, List.setIfInBounds_toArray, List.set_cons_zero, List.set_cons_succ])
      refine RK.alone (by rfl) (fun K hK => ?_)
      go_simp
      refine (copied_any _ f.b _ wd HROW.out hfl).mono ?_
      rintro e W4 ⟨v', rfl, hown', hb4⟩
      go_simp
      refine hK.out _ _ (kep_below _ hb4) ?_
      clear hK K g0 g1 g2
      have hq4 := HQD.out.below hb4
      refine RK.alone (by rfl) (fun K hK => ?_)
      refine wp_mapV_store _ _ _ rfl (w.heap.size + 1) _ _ rfl hq4.map (by have := came_le d.L left; have := hF.len; unfold maxLen; omega) n (.agg #[v', .int .i64 (f.sure : Int)]) rfl rfl HNL.out ?_
      intro W5 hm5 hk5
      refine hK.out _ _ hk5 ?_
      clear hK K
      refine RK.done ?_
      have hsd := HSD.out
      have s3 := HS3.out
      have hs4 := hb4.size
      have hs5 := hk5.size
      have hnew : ∀ k, v'.ownBlock = some k → wd.heap.size ≤ k := fun k hk => (World.ownsRow.lt hown' k hk).1
      have hst := hq4.step hF.good.rise HF.out HL.out wd.heap.size hm5 hk5 (OwnB.kepB (hown'.weaken (by omega)) hk5 (fun k hk => by have := hnew k hk; omega)) hnew (fun x hx hlx k hk => (World.ownsRow.lt (HQD.out.own x hx hlx) k hk).2) (fun x hx hlx k hk => hq4.map.noRow (hq4.own x hx hlx) hk)
      have hmb : mb < w.heap.size := HH.out.tab.map.lt
      have hr5 := (HRD.out.kep (kep_below (fun _ => True) hb4) trivial trivial).kep hk5 (by omega) (by omega)
      have hn5 := (hk5.block w.heap.size (by omega) (by omega)).trans ((hb4.block w.heap.size (by omega)).trans HND.out)
      have hb5 : Below w.heap.size w W5 := (HBWD.out.trans (hb4.mono (by omega))).trans (hk5.below (by omega) (fun k hk e => by omega))
      have HR5 := Lib.hid hr5
      have HQ5 := Lib.hid hst
      have HN5 := Lib.hid hn5
      have HB5 := Lib.hid hb5
      clear hr5 hst hn5 hb5 hk5 hm5 hq4 hb4 hown' hnew hsd hs4 hs5 s3
      simp only [Act.put]
      go_wp2_with fail
      go_roundw
      case rel => exact ⟨_, cnt1, _, HR5, HQ5, HN5, HB5⟩
      case measure =>
        rw [HRL.out, HR5.out.left_eq]
        exact HCN.out
end Go.Proofs.Ytljfpolcgegkpaa.DK
