/-
  A disk of the code's and the document's beside each other: what a call of either leaves of both. No condition.
-/
import Derived.Test.YtljfpolcgegkpaaDskFork
import Derived.Test.YtljfpolcgegkpaaDskRef7
import Derived.Test.YtljfpolcgegkpaaDskRef8
import Derived.Test.YtljfpolcgegkpaaDskRef9
import Derived.Test.YtljfpolcgegkpaaDskRef10
import Derived.Test.YtljfpolcgegkpaaDskRefs
import Derived.Test.YtljfpolcgegkpaaDskAppend
import Derived.Test.YtljfpolcgegkpaaDskCode8
import Derived.Test.YtljfpolcgegkpaaDskRestart
import Derived.Test.YtljfpolcgegkpaaDskOne
import Derived.Test.YtljfpolcgegkpaaDskShort
set_option linter.unusedVariables false
namespace Go.Proofs.Ytljfpolcgegkpaa.DK
open Go.RowKit Go.Proofs.Ytljfpolcgegkpaa.MM Go.Maps
variable {X : Nat → Prop}

theorem CObj.keepS {S T : Nat → Prop} {w w' : World} {g mb : Nat} {V : List UInt8 → Value} {c : Int} {d : DiskD} (h : CObj S w g mb V c d) (hk : Kep T w w') (hT : ∀ k, S k → T k) : CObj S w' g mb V c d :=
  ⟨(hk.block g h.glt (hT g h.gS)).trans h.obj, h.armed, h.c0, h.c1,
    ⟨h.tab.map.kep hk (hT mb h.tab.mS), fun f hf => OwnB.kepB (h.tab.own f hf) hk (fun k hk' => hT k (h.tab.inS f hf k hk')), h.tab.apart, h.tab.inS, h.tab.mS⟩, h.gS, fun k hS => Nat.lt_of_lt_of_le (h.lt k hS) hk.size⟩
/-- The five cells of both disks: the code's pointer, the document's disk. -/
def BothAt (w : World) (gb g : Nat) (L : Value) (d : DiskD) : Prop := w.heap[gb]? = some (.cells #[.pointer (some ⟨g, 0, none⟩), L, .int .i64 d.quota, .int .i64 d.armed, .bool d.stopped] 35 (0, 0))
theorem BothAt.lt {w : World} {gb g : Nat} {L : Value} {d : DiskD} (h : BothAt w gb g L d) : gb < w.heap.size := (Array.getElem?_eq_some_iff.1 h).1
theorem BothAt.kep {T : Nat → Prop} {w w' : World} {gb g : Nat} {L : Value} {d : DiskD} (h : BothAt w gb g L d) (hk : Kep T w w') (hT : T gb) : BothAt w' gb g L d := (hk.block gb h.lt hT).trans h
theorem BothAt.b0 {w : World} {gb g : Nat} {L : Value} {d : DiskD} (h : BothAt w gb g L d) : w.cell? ⟨gb, 0, none⟩ = some (.pointer (some ⟨g, 0, none⟩)) := by rw [cell_of_row w gb 0 _ _ _ h]; rfl
theorem BothAt.b1 {w : World} {gb g : Nat} {L : Value} {d : DiskD} (h : BothAt w gb g L d) : w.cell? ⟨gb, 1, none⟩ = some L := by rw [cell_of_row w gb 1 _ _ _ h]; rfl
theorem BothAt.b2 {w : World} {gb g : Nat} {L : Value} {d : DiskD} (h : BothAt w gb g L d) : w.cell? ⟨gb, 2, none⟩ = some (.int .i64 d.quota) := by rw [cell_of_row w gb 2 _ _ _ h]; rfl
theorem BothAt.b3 {w : World} {gb g : Nat} {L : Value} {d : DiskD} (h : BothAt w gb g L d) : w.cell? ⟨gb, 3, none⟩ = some (.int .i64 d.armed) := by rw [cell_of_row w gb 3 _ _ _ h]; rfl
theorem BothAt.b4 {w : World} {gb g : Nat} {L : Value} {d : DiskD} (h : BothAt w gb g L d) : w.cell? ⟨gb, 4, none⟩ = some (.bool d.stopped) := by rw [cell_of_row w gb 4 _ _ _ h]; rfl
theorem BothAt.free {w : World} {gb g : Nat} {L : Value} {d : DiskD} (h : BothAt w gb g L d) (k : Nat) : w.frozen? ⟨gb, k, none⟩ = false := frozen_of_row w gb k _ _ h
/-- The document's disk, written anew. -/
def putBoth (w : World) (gb : Nat) (L : Value) (d : DiskD) : World := (((w.setCell ⟨gb, 1, none⟩ L).setCell ⟨gb, 2, none⟩ (.int .i64 d.quota)).setCell ⟨gb, 3, none⟩ (.int .i64 d.armed)).setCell ⟨gb, 4, none⟩ (.bool d.stopped)
theorem both_put {w : World} {gb g : Nat} {L0 : Value} {d0 : DiskD} (h : BothAt w gb g L0 d0) (L : Value) (d : DiskD) : BothAt (putBoth w gb L d) gb g L d := by
  have h1 := heap_setCell_same w gb 1 _ _ L h
  have h2 := heap_setCell_same _ gb 2 _ _ (.int .i64 d.quota) h1
  have h3 := heap_setCell_same _ gb 3 _ _ (.int .i64 d.armed) h2
  have h4 := heap_setCell_same _ gb 4 _ _ (.bool d.stopped) h3
  unfold BothAt putBoth
  rw [h4]
  rfl
theorem both_kep (w : World) (gb : Nat) (L : Value) (d : DiskD) : Kep (fun k => k ≠ gb) w (putBoth w gb L d) :=
  (((kep_set (S := fun k => k ≠ gb) (fun h => h rfl) _).trans (kep_set (fun h => h rfl) _)).trans (kep_set (fun h => h rfl) _)).trans (kep_set (fun h => h rfl) _)
theorem box_kep (w : World) (k : Nat) (L : Value) (d : DiskD) : Kep (fun b => b ≠ k) w (putBox w k L d) :=
  (((kep_set (S := fun b => b ≠ k) (fun h => h rfl) _).trans (kep_set (fun h => h rfl) _)).trans (kep_set (fun h => h rfl) _)).trans (kep_set (fun h => h rfl) _)

/-- Blocks that the document's files keep away from. -/
def XS (X S : Nat → Prop) (gb nb : Nat) : Nat → Prop := fun k => S k ∨ k = gb ∨ k = nb ∨ X k
/-- Both disks stand alike: S: the code's own blocks, from A on. -/
structure Sim (X : Nat → Prop) (A : Nat) (S : Nat → Prop) (w : World) (gb g : Nat) (L : Value) (d : DiskD) : Prop where
  co : ∃ mb V c, CObj S w g mb V c d
  bo : BothAt w gb g L d
  fi : FilesIn (XS X S gb gb) w.heap.size w L d.L
  gbS : ¬ S gb
  low : ∀ k, S k → A ≤ k
  gbA : A ≤ gb
  fits : Fits d
theorem CObj.arm1 {S : Nat → Prop} {w : World} {g mb : Nat} {V : List UInt8 → Value} {c : Int} {d : DiskD} (h : CObj S w g mb V c d) : 0 ≤ d.armed ∧ d.armed ≤ 9223372036854775807 := by
  have h1 := h.armed
  have h2 := h.c1
  omega
theorem Sim.below {A : Nat} {S : Nat → Prop} {w w' : World} {gb g : Nat} {L : Value} {d : DiskD} (h : Sim X A S w gb g L d) (hb : Below w.heap.size w w') : Sim X A S w' gb g L d := by
  obtain ⟨mb, V, c, hc⟩ := h.co
  exact ⟨⟨mb, V, c, hc.below hb⟩, (hb.block gb h.bo.lt).trans h.bo, (h.fi.below hb).mono hb.size, h.gbS, h.low, h.gbA, h.fits⟩
/-- What a call of the code's leaves of the rest. -/
theorem Sim.ext {A nb : Nat} {S S' : Nat → Prop} {w w' : World} {gb g : Nat} {L : Value} {d : DiskD} (hB : BothAt w gb g L d) (hF : FilesIn (XS X S gb nb) w.heap.size w L d.L) (hS : ¬ S gb) (hx : Ext S S' w w') :
    BothAt w' gb g L d ∧ FilesIn (XS X S' gb nb) w.heap.size w' L d.L ∧ ¬ S' gb := by
  refine ⟨hB.kep hx.kep hS, ?_, fun h => (hx.new gb h).elim hS (fun h' => by have := hB.lt; omega)⟩
  have h1 : FilesIn (XS X S gb nb) w.heap.size w' L d.L := hF.kep hx.kep (Nat.le_refl _) (fun b hb hn hs => hn (.inl hs))
  exact h1.weak fun b hb h => by
    rcases h with h | h
    · exact (hx.new b h).elim .inl (fun h' => by omega)
    · exact .inr h
theorem low_ext {A : Nat} {S S' : Nat → Prop} {w w' : World} (hx : Ext S S' w w') (hl : ∀ k, S k → A ≤ k) (hA : A ≤ w.heap.size) : (∀ k, S' k → A ≤ k) ∧ Below A w w' :=
  ⟨fun k hk => (hx.new k hk).elim (hl k) (fun h => by omega), hx.kep.below hA (fun k hk h => by have := hl k h; omega)⟩
theorem Ext.refl0 {S : Nat → Prop} {w w' : World} (h : Below w.heap.size w w') : Ext S S w w' := Ext.refl_ (kep_below _ h)

theorem two_new' (w : World) (X : Obj) {L : Value} (d : DiskD) : BoxAt ((w.alloc X).alloc (.cells #[L, .int .i64 d.quota, .int .i64 d.armed, .bool d.stopped] 29)) (w.heap.size + 1) L d := two_new w X _

/-- The end of an op: the document's disk goes by way of a box of its own into both. -/
theorem sim_put {A : Nat} {S : Nat → Prop} {w W : World} {gb g nb mb : Nat} {V : List UInt8 → Value} {c : Int} {L L2 : Value} {d r : DiskD} (hco : CObj S w g mb V c r) (hbo : BothAt w gb g L d) (k1 : Kep (fun b => b ≠ nb) w W) (hfi : FilesIn (XS X S gb nb) w.heap.size w L2 r.L)
    (hgS : ¬ S gb) (hnS : ¬ S nb) (hgn : gb ≠ nb) (hlow : ∀ k, S k → A ≤ k) (hgA : A ≤ gb) (hnA : A ≤ nb) (hf : Fits r) :
    BothAt W gb g L d ∧ Sim X A S (putBoth W gb L2 r) gb g L2 r ∧ Below A w (putBoth W gb L2 r) := by
  have k2 := both_kep W gb L2 r
  have hb1 : BothAt W gb g L d := hbo.kep k1 hgn
  have hbA : A ≤ w.heap.size := Nat.le_trans hgA (Nat.le_of_lt hbo.lt)
  refine ⟨hb1, ⟨⟨mb, V, c, (hco.keepS k1 (fun k hk e => hnS (e ▸ hk))).keepS k2 (fun k hk e => hgS (e ▸ hk))⟩, both_put hb1 L2 r, ?_, hgS, hlow, hgA, hf⟩, ?_⟩
  · have f1 := hfi.kep k1 (Nat.le_refl _) (fun b _ hn e => hn (.inr (.inr (.inl e))))
    have f2 := f1.kep k2 k1.size (fun b _ hn e => hn (.inr (.inl e)))
    exact (f2.weak fun b _ hx => by
      rcases hx with hx | hx | hx | hx
      · exact .inl hx
      · exact .inr (.inl hx)
      · exact .inr (.inl hx)
      · exact .inr (.inr (.inr hx))).mono (Nat.le_trans k1.size k2.size)
  · exact (k1.below hbA (fun k hk e => by omega)).trans (k2.below (Nat.le_trans hbA k1.size) (fun k hk e => by omega))
theorem sim_end {A : Nat} {S : Nat → Prop} {w : World} {gb g nb mb : Nat} {V : List UInt8 → Value} {c : Int} {L L2 Lx : Value} {d dx r : DiskD} (hco : CObj S w g mb V c r) (hbo : BothAt w gb g L d) (hbx : BoxAt w nb Lx dx) (hfi : FilesIn (XS X S gb nb) w.heap.size w L2 r.L)
    (hgS : ¬ S gb) (hnS : ¬ S nb) (hgn : gb ≠ nb) (hlow : ∀ k, S k → A ≤ k) (hgA : A ≤ gb) (hnA : A ≤ nb) (hf : Fits r) :
    BoxAt (putBox w nb L2 r) nb L2 r ∧ BothAt (putBox w nb L2 r) gb g L d ∧ Sim X A S (putBoth (putBox w nb L2 r) gb L2 r) gb g L2 r ∧ Below A w (putBoth (putBox w nb L2 r) gb L2 r) := by
  have k1 := box_kep w nb L2 r
  have k2 := both_kep (putBox w nb L2 r) gb L2 r
  have hb1 : BothAt (putBox w nb L2 r) gb g L d := hbo.kep k1 hgn
  have hbA : A ≤ w.heap.size := Nat.le_trans hgA (Nat.le_of_lt hbo.lt)
  refine ⟨box_four hbx L2 r, hb1, ⟨⟨mb, V, c, (hco.keepS k1 (fun k hk e => hnS (e ▸ hk))).keepS k2 (fun k hk e => hgS (e ▸ hk))⟩, both_put hb1 L2 r, ?_, hgS, hlow, hgA, hf⟩, ?_⟩
  · have f1 := hfi.kep k1 (Nat.le_refl _) (fun b _ hn e => hn (.inr (.inr (.inl e))))
    have f2 := f1.kep k2 k1.size (fun b _ hn e => hn (.inr (.inl e)))
    exact (f2.weak fun b _ hx => by
      rcases hx with hx | hx | hx | hx
      · exact .inl hx
      · exact .inr (.inl hx)
      · exact .inr (.inl hx)
      · exact .inr (.inr (.inr hx))).mono (Nat.le_trans k1.size k2.size)
  · exact (k1.below hbA (fun k hk e => by omega)).trans (k2.below (Nat.le_trans hbA k1.size) (fun k hk e => by omega))

theorem arm_fits {d : DiskD} (a : Int) (h : Fits d) : Fits (armD d a) := ⟨⟨h.good.rise, h.good.sure⟩, h.len, h.bytes, h.name, h.q0, h.q1⟩
theorem quota_fits {d : DiskD} (q : Int) (h : Fits d) (h0 : 0 ≤ q) (h1 : q ≤ 9223372036854775807) : Fits { d with quota := q } := ⟨⟨h.good.rise, h.good.sure⟩, h.len, h.bytes, h.name, h0, h1⟩

/-! ### an op -/
theorem OpIn.below {B : Nat} {w w' : World} {v : Value} {o : OpD} (h : OpIn B w v o) (hb : Below B w w') : OpIn B w' v o := by
  obtain ⟨vb, vk, hv, h1, h2⟩ := h.val
  exact ⟨⟨vb, vk, hv, h1.below hb, h2.below hb⟩, h.d, h.a0, h.a1, h.n0, h.n1, h.k, h.nl, h.tl⟩
/-- What an op makes of a disk, and which error it tells. -/
def stepR (d : DiskD) (o : OpD) : DiskD × Int :=
  if o.do_ % 12 = 4 then syncD d o.name else if o.do_ % 12 = 5 then renameD d o.name o.to_ else if o.do_ % 12 = 6 then removeD d o.name else if o.do_ % 12 = 7 then (d, 0)
  else if o.do_ % 12 = 8 then (armD d o.a, 0) else if o.do_ % 12 = 9 then (restartD d o.keep, 0) else if o.do_ % 12 = 10 then (if o.a < 0 then (d, 1) else ({ d with quota := o.a }, 0))
  else if o.do_ % 12 = 11 then (d, 0) else appendD d o.name o.b
def stepD (d : DiskD) (o : OpD) : DiskD := (stepR d o).1
/-- An op done on both. -/
def StepC (X : Nat → Prop) (A : Nat) (S : Nat → Prop) (gb : Nat) (d : DiskD) (w : World) (e : Ending) (w' : World) : Prop := e = .returned (.bool true) ∧ ∃ S' g' L', Sim X A S' w' gb g' L' d ∧ Below A w w' ∧ Kep (fun k => ¬ S k ∧ k ≠ gb) w w' ∧ ∀ k, S' k → S k ∨ w.heap.size ≤ k
/-- What an op spares: all that was, but the code's own blocks and both's. -/
theorem kep_end2 {S : Nat → Prop} {gb nb : Nat} {w w1 W : World} {L : Value} {r : DiskD} (k1 : Kep (fun k => ¬ S k) w w1) (k2 : Kep (fun k => k ≠ nb) w1 W) (hnb : w.heap.size ≤ nb) : Kep (fun k => ¬ S k ∧ k ≠ gb) w (putBoth W gb L r) := by
  have a : Kep (fun k => ¬ S k ∧ k ≠ gb ∧ k ≠ nb) w (putBoth W gb L r) := (k1.mono fun k h => h.1).trans ((k2.mono fun k h => h.2.2).trans ((both_kep W gb L r).mono fun k h => h.2.1))
  exact a.mono' fun k hk h => ⟨h.1, h.2, by omega⟩
theorem kep_end {S : Nat → Prop} {gb nb : Nat} {w w1 wq w2 : World} {L : Value} {r : DiskD} (k1 : Kep (fun k => ¬ S k) w w1) (bq : Below w1.heap.size w1 wq) (b2 : Below wq.heap.size wq w2) (hnb : w.heap.size ≤ nb) : Kep (fun k => ¬ S k ∧ k ≠ gb) w (putBoth (putBox w2 nb L r) gb L r) :=
  kep_end2 k1 (((kep_below _ bq).trans (kep_below _ b2)).trans (box_kep w2 nb L r)) hnb
theorem kep_fork {S : Nat → Prop} {gb : Nat} {w w3 : World} {u L : Value} {r : DiskD} (k1 : Kep (fun k => ¬ S k) w w3) : Kep (fun k => ¬ S k ∧ k ≠ gb) w (putBoth (w3.setCell ⟨gb, 0, none⟩ u) gb L r) :=
  (k1.mono fun k h => h.1).trans ((kep_set (S := fun k => ¬ S k ∧ k ≠ gb) (fun h => h.2 rfl) u).trans ((both_kep _ gb L r).mono fun k h => h.2))
end Go.Proofs.Ytljfpolcgegkpaa.DK
