/-
  Events in memory: a row of fields, an event's two cells, a row of events. No condition. A map from texts to rows of places, as a rising row of terms: how it is looked into, how a place is put. No condition. Rows by codecs: any row is appended to a row of the call's own. No program; no condition.
-/
import Derived.Test.YtgacfihidpijeaaZE26
import Derived.Test.YtgacfihidpijeaaZE10
import Derived.Test.YtgacfihidpijeaaZE23
import Derived.Test.YtgacfihidpijeaaZE22
import Derived.Laws.AppendOwnNone
set_option linter.unusedVariables false
namespace Go.Proofs.Ytgacfihidpijeaa.EV
open Go Go.RowKit Go.Proofs.Ytgacfihidpijeaa.MM Go.Proofs.Ytgacfihidpijeaa.EM

def fldC : Codec Fld := cPair cStr cStr
def evC : Codec Ev := cPair cInt (cRow fldC)
def batC : Codec Bat := cPair cInt (cRow evC)
theorem fld_size : fldC.size = 2 := rfl
theorem ev_size : evC.size = 2 := rfl
theorem fld_on {S : Nat → Prop} {w : World} {cs : List Value} {f : Fld} : fldC.on S w cs f ↔ cs = [.string ⟨f.1.toArray⟩, .string ⟨f.2.toArray⟩] := by
  constructor
  · rintro ⟨x, y, rfl, hx, hy⟩
    have hx : x = [.string ⟨f.1.toArray⟩] := hx
    have hy : y = [.string ⟨f.2.toArray⟩] := hy
    rw [hx, hy]; rfl
  · rintro rfl
    exact ⟨[_], [_], rfl, rfl, rfl⟩
theorem ev_on {S : Nat → Prop} {w : World} {cs : List Value} {e : Ev} : evC.on S w cs e ↔ ∃ v, cs = [.int .i64 e.1, v] ∧ ROn fldC S w v e.2 := by
  constructor
  · rintro ⟨x, y, rfl, hx, v, hy, hr⟩
    have hx : x = [.int .i64 e.1] := hx
    exact ⟨v, by rw [hx, hy]; rfl, hr⟩
  · rintro ⟨v, rfl, hr⟩
    exact ⟨[_], [v], rfl, rfl, v, rfl, hr⟩
theorem bat_on {S : Nat → Prop} {w : World} {cs : List Value} {b : Bat} : batC.on S w cs b ↔ ∃ v, cs = [.int .i64 b.1, v] ∧ ROn evC S w v b.2 := by
  constructor
  · rintro ⟨x, y, rfl, hx, v, hy, hr⟩
    have hx : x = [.int .i64 b.1] := hx
    exact ⟨v, by rw [hx, hy]; rfl, hr⟩
  · rintro ⟨v, rfl, hr⟩
    exact ⟨[_], [v], rfl, rfl, v, rfl, hr⟩
/-- The k-th field's two texts. -/
theorem fld_at {S : Nat → Prop} {w : World} {p : Option Addr} {n cap : Nat} {fs : List Fld} (h : ROn fldC S w (.slice p n cap) fs) {k : Nat} (hk : k < fs.length) :
    ∃ b off, p = some ⟨b, off, none⟩ ∧ b < w.heap.size ∧ S b ∧ w.cell? ⟨b, off + k * 2, none⟩ = some (.string ⟨fs[k].1.toArray⟩) ∧ w.cell? ⟨b, off + k * 2 + 1, none⟩ = some (.string ⟨fs[k].2.toArray⟩) := by
  obtain ⟨b, off, vs, hp, hlt, hS, hon, hc⟩ := h.at_ hk
  rw [fld_on] at hon
  subst hon
  exact ⟨b, off, hp, hlt, hS, hc 0 _ rfl, hc 1 _ rfl⟩
/-- The k-th event's time and fields. -/
theorem ev_at {S : Nat → Prop} {w : World} {p : Option Addr} {n cap : Nat} {es : List Ev} (h : ROn evC S w (.slice p n cap) es) {k : Nat} (hk : k < es.length) :
    ∃ b off v, p = some ⟨b, off, none⟩ ∧ b < w.heap.size ∧ S b ∧ w.cell? ⟨b, off + k * 2, none⟩ = some (.int .i64 es[k].1) ∧ w.cell? ⟨b, off + k * 2 + 1, none⟩ = some v ∧ ROn fldC S w v es[k].2 := by
  obtain ⟨b, off, vs, hp, hlt, hS, hon, hc⟩ := h.at_ hk
  rw [ev_on] at hon
  obtain ⟨v, rfl, hr⟩ := hon
  exact ⟨b, off, v, hp, hlt, hS, hc 0 _ rfl, hc 1 _ rfl, hr⟩
theorem str_list (l : List UInt8) : (⟨l.toArray⟩ : ByteArray).data.toList = l := by simp
theorem str_sz (l : List UInt8) : (⟨l.toArray⟩ : ByteArray).size = l.length := by rw [Lib.size_eq]
theorem new_two (w : World) (x y : Value) (t : TypeId) : (w.alloc (.cells #[x, y] t)).cell? ⟨w.heap.size, 0, none⟩ = some x ∧ (w.alloc (.cells #[x, y] t)).cell? ⟨w.heap.size, 1, none⟩ = some y := by
  have h0 := lit_cells w [x, y] t 0 x rfl
  have h1 := lit_cells w [x, y] t 1 y rfl
  rw [add_at] at h0 h1
  exact ⟨h0, h1⟩
end Go.Proofs.Ytgacfihidpijeaa.EV
set_option linter.unusedVariables false
namespace Go.Proofs.Ytgacfihidpijeaa.EV
open Go Go.RowKit Go.Proofs.Ytgacfihidpijeaa.MM Go.Proofs.Ytgacfihidpijeaa.EM Go.Proofs.Ytgacfihidpijeaa.SM

theorem intE : Elem cInt Try.prog 60 3 8 := ⟨Try.underlying60, by
  have h : (Try.prog.info? 3).map (fun i => (i.zero, i.size, i.bytes)) = some (some (.int .i64 0), 1, 8) := by kernel_rfl
  obtain ⟨i, h1, h2, h3, h4⟩ := info_parts h
  exact ⟨i, _, h1, h2, h3, h4, rfl⟩⟩
def NoS : Nat → Prop := fun _ => False
/-- A row of numbers of the call's own. -/
abbrev OwnZ (w : World) (v : Value) (zs : List Int) : Prop := OwnS cInt 3 NoS w v zs
theorem OwnZ.of {S : Nat → Prop} {w : World} {v : Value} {zs : List Int} (h : OwnS cInt 3 (fun b => NoS b ∧ S b) w v zs) : OwnZ w v zs := h.weak (fun _ _ h => h.1) (fun _ _ h => h)
/-- A block of numbers. -/
def IntsOf (w : World) (b : Nat) : Prop := ∃ cur fr, w.heap[b]? = some (.cells cur 3 fr)
theorem OwnZ.ints {w : World} {v : Value} {zs : List Int} (h : OwnZ w v zs) {g : Nat} (hg : v.ownBlock = some g) : IntsOf w g := by
  obtain ⟨raw, h1, _⟩ := h
  exact (own_cells h1 hg).2
theorem OwnZ.keep {T : Nat → Prop} {w w' : World} {v : Value} {zs : List Int} (h : OwnZ w v zs) (hk : Kep T w w') (hg : ∀ g, v.ownBlock = some g → T g) : OwnZ w' v zs := OwnS.keep h hk (fun _ _ h => h.elim) hg
theorem OwnZ.nil_ (w : World) : OwnZ w (.slice none 0 0) [] := OwnS.nil_ _ _ _
theorem zeroInts (w : World) : (zeroValue 60).run Try.prog w = .ok (.slice none 0 0) w := by kernel_rfl

theorem addP_len {α : Type} : ∀ {l : List (EM.Tr α)} (s : List UInt8) (p : α), Rising l → (∀ t ∈ l, t.2 ≠ []) → (addP l s p).length = if posOf l s = [] then l.length + 1 else l.length
  | [], s, p, _, _ => by simp [addP, posOf]
  | t :: r, s, p, h, hn => by
    have hr : Rising r := (List.pairwise_cons.1 h).2
    have ih := addP_len (l := r) s p hr fun u hu => hn u (by simp [hu])
    rw [addP]
    by_cases h1 : lessL t.1 s = true
    · rw [if_pos h1, List.length_cons, ih, posOf, if_neg (lessL_ne h1), List.length_cons]
      split <;> rfl
    · rw [if_neg h1]
      by_cases h2 : t.1 = s
      · rw [if_pos h2, posOf, if_pos h2, if_neg (hn t (by simp))]; rfl
      · rw [if_neg h2, posOf, if_neg h2]
        have hs : lessL s t.1 = true := lessL_total (by simpa using h1) h2
        have : posOf r s = [] := posOf_none fun u hu e => by
          have h3 : lessL t.1 u.1 = true := (List.pairwise_cons.1 h).1 u hu
          rw [e] at h3
          exact h1 h3
        rw [if_pos this]; rfl

theorem addP_len_le {α : Type} : ∀ (l : List (EM.Tr α)) (s : List UInt8) (p : α), (addP l s p).length ≤ l.length + 1
  | [], s, p => by simp [addP]
  | t :: r, s, p => by
    have ih := addP_len_le r s p
    rw [addP]
    split
    · simp only [List.length_cons]; omega
    · split <;> simp
theorem foldP_len_le {α : Type} : ∀ (qs : List (List UInt8 × α)) (l : List (EM.Tr α)), (foldP l qs).length ≤ l.length + qs.length
  | [], l => by simp [foldP]
  | q :: qs, l => by
    have h1 := foldP_len_le qs (addP l q.1 q.2)
    have h2 := addP_len_le l q.1 q.2
    have e : foldP l (q :: qs) = foldP (addP l q.1 q.2) qs := rfl
    rw [e, List.length_cons]
    omega
theorem posOf_len_le {α : Type} (qs : List (List UInt8 × α)) (s : List UInt8) : (posOf (foldP ([] : List (EM.Tr α)) qs) s).length ≤ qs.length := by
  rw [posOf_fold qs s List.Pairwise.nil, posOf, List.nil_append, List.length_map]
  exact List.length_filter_le _ _
/-- The map mb tells these terms. -/
structure Plc (B mb : Nat) (T : List Trm) (F : List UInt8 → Option Value) (w : World) : Prop where
  map : MapV w mb T.length F
  lo : B ≤ mb
  none : ∀ s, F s = none → posOf T s = []
  own : ∀ s v, F s = some v → OwnZ w v (posOf T s) ∧ posOf T s ≠ [] ∧ ∀ g, v.ownBlock = some g → B ≤ g
  apart : ∀ s t u v g, F s = some u → F t = some v → u.ownBlock = some g → v.ownBlock = some g → s = t
  rise : Rising T
  ne : ∀ t ∈ T, t.2 ≠ []
theorem Plc.keep {S : Nat → Prop} {B mb : Nat} {T : List Trm} {F : List UInt8 → Option Value} {w w' : World} (h : Plc B mb T F w) (hk : Kep S w w') (hm : S mb) (hS : ∀ b, IntsOf w b → S b) : Plc B mb T F w' :=
  ⟨h.map.kep hk hm, h.lo, h.none, fun s v hv => ⟨(h.own s v hv).1.keep hk fun g hg => hS g ((h.own s v hv).1.ints hg), (h.own s v hv).2⟩, h.apart, h.rise, h.ne⟩
theorem Plc.below {B mb : Nat} {T : List Trm} {F : List UInt8 → Option Value} {w w' : World} (h : Plc B mb T F w) (hb : Below w.heap.size w w') : Plc B mb T F w' := h.keep (kep_below (fun _ => True) hb) trivial fun _ _ => trivial
theorem Plc.made (w : World) (B : Nat) (hB : B ≤ w.heap.size) : Plc B w.heap.size [] (fun _ => Option.none) (w.alloc (.map #[] 0)) :=
  ⟨MapV.made w, hB, fun _ _ => rfl, fun _ _ h => (by cases h), fun _ _ _ _ _ h => (by cases h), List.Pairwise.nil, fun _ h => (by cases h)⟩
theorem Plc.not_ints {B mb : Nat} {T : List Trm} {F : List UInt8 → Option Value} {w : World} (h : Plc B mb T F w) : ¬ IntsOf w mb := fun ⟨cur, fr, hc⟩ => by
  obtain ⟨es, c, hm⟩ := h.map.obj
  rw [hm] at hc
  cases hc
/-- What is found. -/
def found (F : List UInt8 → Option Value) (s : List UInt8) : Value := (F s).getD (.slice Option.none 0 0)
theorem Plc.look {B mb : Nat} {T : List Trm} {F : List UInt8 → Option Value} {w : World} (h : Plc B mb T F w) (s : List UInt8) (hs : s.length ≤ maxLen) : (Instr.lookup 90 (.map (some mb)) (.string ⟨s.toArray⟩) false).run Try.prog w = .ok (found F s) w :=
  MapV.look Try.underlying90 zeroInts h.map s hs
theorem Plc.found {B mb : Nat} {T : List Trm} {F : List UInt8 → Option Value} {w : World} (h : Plc B mb T F w) (s : List UInt8) : OwnZ w (found F s) (posOf T s) ∧ ∀ g, (EV.found F s).ownBlock = some g → B ≤ g ∧ g ≠ mb ∧ IntsOf w g ∧ g < w.heap.size := by
  unfold EV.found
  cases hf : F s with
  | none =>
    rw [h.none s hf]
    exact ⟨OwnZ.nil_ w, fun g hg => by cases hg⟩
  | some v =>
    obtain ⟨h1, _, h2⟩ := h.own s v hf
    exact ⟨h1, fun g hg => ⟨h2 g hg, fun e => h.not_ints (e ▸ h1.ints hg), h1.ints hg, (OwnS.lt h1 g hg).1⟩⟩
theorem Plc.some_iff {B mb : Nat} {T : List Trm} {F : List UInt8 → Option Value} {w : World} (h : Plc B mb T F w) (s : List UInt8) : (F s).isSome = true ↔ posOf T s ≠ [] := by
  cases hf : F s with
  | none => simp [h.none s hf]
  | some v => simp [(h.own s v hf).2.1]
/-- A place is put: the row has grown (w1), then the map (w2). -/
theorem Plc.put {B mb : Nat} {T : List Trm} {F : List UInt8 → Option Value} {w w1 w2 : World} {s : List UInt8} {p : Int} {v : Value} (h : Plc B mb T F w) (hBw : B ≤ w.heap.size)
    (hk1 : Kep (fun k => (EV.found F s).ownBlock ≠ some k) w w1) (ho : OwnZ w1 v (posOf T s ++ [p])) (hg : ∀ g, v.ownBlock = some g → (EV.found F s).ownBlock = some g ∨ w.heap.size ≤ g)
    (hm : MapV w2 mb (if (F s).isSome then T.length else T.length + 1) (fun k => if k = s then some v else F k)) (hk2 : Kep (fun k => k ≠ mb) w1 w2) : Plc B mb (addP T s p) (fun k => if k = s then some v else F k) w2 := by
  have hf := h.found s
  have hlen : (if (F s).isSome then T.length else T.length + 1) = (addP T s p).length := by
    rw [addP_len s p h.rise h.ne]
    by_cases hq : posOf T s = []
    · rw [if_pos hq, if_neg (fun e => (h.some_iff s).1 e hq)]
    · rw [if_neg hq, if_pos ((h.some_iff s).2 hq)]
  rw [hlen] at hm
  have hvB : ∀ g, v.ownBlock = some g → B ≤ g := fun g hv => by
    rcases hg g hv with h1 | h1
    · exact (hf.2 g h1).1
    · omega
  have hvm : ∀ g, v.ownBlock = some g → g ≠ mb := fun g hv => by
    rcases hg g hv with h1 | h1
    · exact (hf.2 g h1).2.1
    · have := h.map.lt; omega
  have hoth : ∀ t u, t ≠ s → F t = some u → ∀ g, u.ownBlock = some g → (EV.found F s).ownBlock ≠ some g := fun t u hne hu g hg e => by
    unfold EV.found at e
    cases hF : F s with
    | none => rw [hF] at e; cases e
    | some u2 =>
      rw [hF] at e
      exact hne (h.apart t s u u2 g hu hF hg e)
  refine ⟨hm, h.lo, fun t ht => ?_, fun t u hu => ?_, fun t t' u u' g hu hu' h1 h2 => ?_, addP_rising s p h.rise, addP_ne s p h.ne⟩
  · rw [posOf_add s p t h.rise]
    by_cases e : t = s
    · rw [if_pos e] at ht; cases ht
    · rw [if_neg e] at ht ⊢
      exact h.none t ht
  · rw [posOf_add s p t h.rise]
    by_cases e : t = s
    · rw [if_pos e] at hu ⊢
      obtain rfl := Option.some.inj hu
      exact ⟨ho.keep hk2 hvm, by simp, hvB⟩
    · rw [if_neg e] at hu ⊢
      obtain ⟨h1, h2, h3⟩ := h.own t u hu
      refine ⟨(h1.keep hk1 (hoth t u e hu)).keep hk2 fun g hg e2 => ?_, h2, h3⟩
      exact h.not_ints (e2 ▸ h1.ints hg)
  · by_cases e : t = s
    · by_cases e' : t' = s
      · rw [e, e']
      · rw [if_pos e] at hu
        rw [if_neg e'] at hu'
        obtain rfl := Option.some.inj hu
        rcases hg g h1 with h3 | h3
        · exact absurd h3 (hoth t' u' e' hu' g h2)
        · have := (OwnS.lt (h.own t' u' hu').1 g h2).1
          omega
    · by_cases e' : t' = s
      · rw [if_neg e] at hu
        rw [if_pos e'] at hu'
        obtain rfl := Option.some.inj hu'
        rcases hg g h2 with h3 | h3
        · exact absurd h3 (hoth t u e hu g h1)
        · have := (OwnS.lt (h.own t u hu).1 g h1).1
          omega
      · rw [if_neg e] at hu
        rw [if_neg e'] at hu'
        exact h.apart t t' u u' g hu hu' h1 h2
end Go.Proofs.Ytgacfihidpijeaa.EV
set_option linter.unusedVariables false
namespace Go.Proofs.Ytgacfihidpijeaa.MM
open Go Go.RowKit

section
variable {α : Type} {C : Codec α}
/-- append(row, xs...), whatever row that lies apart. -/
theorem wpList_append_ron {P : Program} {T e : TypeId} {bytes : Nat} (E : Elem C P T e bytes) {w : World} {ops : Array Oper} {rest : List Oper} {o : Oper} {a : Act} {Q : Exit → Act → World → Prop} (hgd : o.guard = none) (s x : Operand)
    (ho : o.op = .call { callee := .builtin .append, args := #[s, x], argTypes := #[T, T] }) (B : Nat) (v : Value) (es : List α) (hs : a.eval s = v) (hown : OwnC C e B w v es)
    (src : Value) (ds : List α) (hx : a.eval x = src) (hr : ROn C (Apt e B w) w src ds) (hlen : es.length + ds.length ≤ maxLen) (hby : (es.length + ds.length) * bytes ≤ 140737488355328) (hbase : B ≤ w.heap.size)
    (h : ∀ v' w', OwnC C e B w' v' (es ++ ds) → Below B w w' → Kep (fun k => v.ownBlock ≠ some k) w w' → wpList P ops Q rest (a.put o.dst v') w') : wpList P ops Q (o :: rest) a w := by
  obtain ⟨p, cap, raw, rfl, h1, h2, h3, hm, hc⟩ := hr
  cases p with
  | none =>
    have h0 := h3 rfl
    subst h0
    have hd : ds = [] := List.eq_nil_of_length_eq_zero (by omega)
    subst hd
    obtain ⟨i, z, hi, hz, hsz, hbt, hzs⟩ := E.info
    obtain ⟨raw1, g1, g2⟩ := id hown
    refine wpList_append_own_none hgd s x T ho B e i C.size E.under hi v es.length _ hs g1 hx (h v w ?_ (Below.refl _ _) (Kep.refl _ _))
    rw [List.append_nil]
    exact hown
  | some ad =>
    refine wpList_plain hgd fun _ hK => wp_append_cs E s x ho B v es hs hown (some ad) ds.length cap raw ds hx rfl (fun _ h => by cases h) hm (fun hne => ?_) (by simp) hlen hby hbase fun v' w' h4 h5 h6 => hK _ _ (h v' w' h4 h5 h6)
    rcases hc with hc | ⟨b, off, hp, _, _, hc⟩
    · exact absurd hc hne
    · exact ⟨b, off, hp, hc⟩
/-! ### rows of the call's own whose inner blocks lie in a set -/
variable (C)
/-- A row of the call's own, from block B on; what lies behind its cells lies in S. -/
def OwnX (e : TypeId) (B : Nat) (S : Nat → Prop) (w : World) (v : Value) (es : List α) : Prop := ∃ raw, w.ownsRow B e C.size v es.length raw.flatten ∧ Mean C S w raw es
/-- What is appended: elements whose inner blocks lie in S, wherever their cells lie. -/
def SrcX (S : Nat → Prop) (w : World) (v : Value) (ds : List α) : Prop :=
  ∃ (p : Option Addr) (cap : Nat) (raw : List (List Value)), v = .slice p ds.length cap ∧ ds.length ≤ cap ∧ (p = none → cap = 0) ∧ Mean C S w raw ds ∧ (ds = [] ∨ ∃ b off, p = some ⟨b, off, none⟩ ∧ ∀ j u, raw.flatten[j]? = some u → w.cell? ⟨b, off + j, none⟩ = some u)
variable {C}
theorem ROn.src {S : Nat → Prop} {w : World} {v : Value} {ds : List α} (h : ROn C S w v ds) : SrcX C S w v ds := by
  obtain ⟨p, cap, raw, hv, h1, h2, h3, hm, hc⟩ := h
  refine ⟨p, cap, raw, hv, h1, h3, hm, ?_⟩
  rcases hc with hc | ⟨b, off, hp, _, _, hc⟩
  · exact .inl hc
  · exact .inr ⟨b, off, hp, hc⟩
/-- A literal of one element. -/
theorem src_lit {S : Nat → Prop} {w : World} {vs : List Value} {d : α} (e : TypeId) (h : C.on S w vs d) : SrcX C S (w.alloc (.cells vs.toArray e)) (.slice (some ⟨w.heap.size, 0, none⟩) 1 1) [d] := by
  refine ⟨_, 1, [vs], rfl, Nat.le_refl _, (fun h => by cases h), ⟨rfl, fun i hi hi' => ?_⟩, .inr ⟨w.heap.size, 0, rfl, fun j u hj => ?_⟩⟩
  · obtain rfl : i = 0 := (by simpa using hi)
    exact C.keep h (kep_alloc _ _ _) fun _ _ h => h
  · rw [List.flatten_singleton] at hj
    have := lit_cells w vs e j u hj
    rw [add_at] at this
    exact this
theorem OwnX.nil_ (e : TypeId) (B : Nat) (S : Nat → Prop) (w : World) : OwnX C e B S w (.slice none 0 0) [] := ⟨[], World.ownsRow_nil _ _ _ _, Mean.nil_ _ _⟩
/-- A literal of no element. -/
theorem OwnX.lit0 (e : TypeId) {B : Nat} (S : Nat → Prop) (w : World) (hB : B ≤ w.heap.size) : OwnX C e B S (w.alloc (.cells #[] e)) (.slice (some ⟨w.heap.size, 0, none⟩) 0 0) [] := by
  refine ⟨[], ?_, Mean.nil_ _ _⟩
  have := World.ownsRow_lit (e := e) (base := B) (size := C.size) w #[] 0 hB (Nat.zero_le _) (by simp)
  simpa using this
theorem OwnX.cells {e : TypeId} {B : Nat} {S : Nat → Prop} {w : World} {v : Value} {es : List α} (h : OwnX C e B S w v es) {g : Nat} (hg : v.ownBlock = some g) : B ≤ g ∧ g < w.heap.size ∧ ∃ cur fr, w.heap[g]? = some (.cells cur e fr) := by
  obtain ⟨raw, h1, _⟩ := h
  exact ⟨(own_cells h1 hg).1, (World.ownsRow.lt h1 g hg).2, (own_cells h1 hg).2⟩
theorem OwnX.keep {e : TypeId} {B : Nat} {S T : Nat → Prop} {w w' : World} {v : Value} {es : List α} (h : OwnX C e B S w v es) (hk : Kep T w w') (hS : ∀ b, b < w.heap.size → S b → T b) (hg : ∀ g, v.ownBlock = some g → T g) : OwnX C e B S w' v es := by
  obtain ⟨raw, h1, h2⟩ := h
  refine ⟨raw, own_row_kep h1 hk hg, h2.1, fun i hi hi' => ?_⟩
  exact C.keep (C.keep (h2.2 i hi hi') (Kep.refl _ _) (T := fun b => S b ∧ b < w.heap.size) fun b hb hs => ⟨hs, hb⟩) (hk.mono' (T := fun b => S b ∧ b < w.heap.size) fun b hb hs => hS b hb hs.1) fun b hb hs => hs.1
theorem OwnX.weak {e : TypeId} {B : Nat} {S T : Nat → Prop} {w : World} {v : Value} {es : List α} (h : OwnX C e B S w v es) (hT : ∀ b, b < w.heap.size → S b → T b) : OwnX C e B T w v es := by
  obtain ⟨raw, h1, h2⟩ := h
  exact ⟨raw, h1, h2.keep (Kep.refl _ _) hT⟩
theorem OwnX.alloc {e : TypeId} {B : Nat} {S : Nat → Prop} {w : World} {v : Value} {es : List α} (h : OwnX C e B S w v es) (o : Obj) : OwnX C e B S (w.alloc o) v es := h.keep (kep_alloc (fun _ => True) w o) (fun _ _ _ => trivial) (fun _ _ => trivial)
theorem OwnX.ron {e : TypeId} {B : Nat} {S T : Nat → Prop} {w : World} {v : Value} {es : List α} (h : OwnX C e B S w v es) (h1 : ∀ g, v.ownBlock = some g → T g) (h2 : ∀ b, b < w.heap.size → S b → T b) : ROn C T w v es := by
  obtain ⟨raw, ho, hm⟩ := h
  rcases ho.2 with ⟨rfl, h0⟩ | ⟨g, cap, cur, rfl, hg, hh, hnc, hmx, hs, ht⟩
  · have : es = [] := List.eq_nil_of_length_eq_zero h0
    subst this
    exact ROn.nil_ _ _
  · refine ⟨some ⟨g, 0, none⟩, cap, raw, rfl, hnc, hmx, (fun h => by cases h), hm.keep (Kep.refl _ _) h2, .inr ⟨g, 0, rfl, (Array.getElem?_eq_some_iff.1 hh).1, h1 g rfl, fun j u hj => ?_⟩⟩
    have := Lib.cells_of_row hh (es.length * C.size) j u (by rw [ht]; exact hj)
    rw [add_at] at this
    exact this
theorem OwnX.any {e : TypeId} {B : Nat} {S : Nat → Prop} {w : World} {v : Value} {es : List α} (h : OwnX C e B S w v es) : RAny C w v es := h.ron (fun _ _ => trivial) (fun _ _ _ => trivial)
/-- append(row, xs...). -/
theorem wpList_append_x {P : Program} {T e : TypeId} {bytes : Nat} (E : Elem C P T e bytes) {S : Nat → Prop} {w : World} {ops : Array Oper} {rest : List Oper} {o : Oper} {a : Act} {Q : Exit → Act → World → Prop} (hgd : o.guard = none) (s x : Operand)
    (ho : o.op = .call { callee := .builtin .append, args := #[s, x], argTypes := #[T, T] }) (B : Nat) (v : Value) (es : List α) (hs : a.eval s = v) (hown : OwnX C e B S w v es) (hS : ∀ b, b < w.heap.size → S b → Apt e B w b)
    (src : Value) (ds : List α) (hx : a.eval x = src) (hr : SrcX C S w src ds) (hlen : es.length + ds.length ≤ maxLen) (hby : (es.length + ds.length) * bytes ≤ 140737488355328) (hbase : B ≤ w.heap.size)
    (h : ∀ v' w', OwnX C e B S w' v' (es ++ ds) → Below B w w' → Kep (fun k => v.ownBlock ≠ some k) w w' → wpList P ops Q rest (a.put o.dst v') w') : wpList P ops Q (o :: rest) a w := by
  obtain ⟨p, cap, raw, rfl, h1, h3, hm, hc⟩ := hr
  obtain ⟨i, z, hi, hz, hsz, hbt, hzs⟩ := E.info
  cases p with
  | none =>
    have h0 := h3 rfl
    subst h0
    have hd : ds = [] := List.eq_nil_of_length_eq_zero (by omega)
    subst hd
    obtain ⟨raw1, g1, g2⟩ := id hown
    refine wpList_append_own_none hgd s x T ho B e i C.size E.under hi v es.length _ hs g1 hx (h v w ?_ (Below.refl _ _) (Kep.refl _ _))
    rw [List.append_nil]
    exact hown
  | some ad =>
    refine wpList_plain hgd fun _ hK => ?_
    obtain ⟨raw1, g1, g2⟩ := hown
    have hlo : ∀ k, v.ownBlock = some k → B ≤ k := fun k hk => (World.ownsRow.lt g1 k hk).1
    have hl : raw.flatten.length = ds.length * C.size := by rw [flat_len hm.lens, hm.1]
    refine wp_append_own _ s x T ho B e i z C.size bytes E.under hi hz hsz hbt hzs C.pos v es.length _ hs g1 ad ds.length cap raw.flatten hx hl ?_ hm.ones hlen hby hbase (fun v' w' h4 hg _ => ?_)
    · intro j u hj
      rcases hc with hc | ⟨b, off, he, hc⟩
      · subst hc
        have : raw = [] := List.eq_nil_of_length_eq_zero (by rw [hm.1]; rfl)
        subst this
        simp at hj
      · obtain rfl : ad = ⟨b, off, none⟩ := Option.some.inj he
        rw [add_at]
        exact hc j u hj
    · have hb : Below B w w' := (Below.refl B _).grown hg hbase hlo
      have hk : Kep (Apt e B w) w w' := kep_grown hg fun k hk hA => apt_not_own g1 hA hk
      refine hK _ _ (h v' w' ⟨raw1 ++ raw, ?_, ?_⟩ hb (kep_grown hg fun k hk hne => hne hk))
      · rw [List.length_append, List.flatten_append]
        exact h4
      · have hm2 := g2.append hm
        refine ⟨hm2.1, fun i hi hi' => ?_⟩
        exact C.keep (C.keep (hm2.2 i hi hi') (Kep.refl _ _) (T := fun b => S b ∧ b < w.heap.size) fun b hb hs => ⟨hs, hb⟩) (hk.mono' (T := fun b => S b ∧ b < w.heap.size) fun b hb hs => hS b hb hs.1) fun b hb hs => hs.1
/-- append(row, x), as a step. -/
theorem wp_append_x1 {P : Program} {T e : TypeId} {bytes : Nat} (E : Elem C P T e bytes) {S : Nat → Prop} {w : World} {o : Oper} {a : Act} {K : Act → World → Prop} {Q : Exit → Act → World → Prop} (s x : Operand)
    (ho : o.op = .call { callee := .builtin .append, args := #[s, x], argTypes := #[T, T] }) (B : Nat) (v : Value) (es : List α) (w0 : World) (vs : List Value) (d : α) (hw : w = w0.alloc (.cells vs.toArray e)) (hs : a.eval s = v) (hown : OwnX C e B S w0 v es) (hS : ∀ b, b < w0.heap.size → S b → Apt e B w0 b)
    (hd : C.on S w0 vs d) (hx : a.eval x = .slice (some ⟨w0.heap.size, 0, none⟩) 1 1) (hlen : es.length + 1 ≤ maxLen) (hby : (es.length + 1) * bytes ≤ 140737488355328) (hbase : B ≤ w0.heap.size)
    (h : ∀ v' w', OwnX C e B S w' v' (es ++ [d]) → Below B w0 w' → Kep (fun k => v.ownBlock ≠ some k) w w' → (∃ g cap, v' = .slice (some ⟨g, 0, none⟩) (es.length + 1) cap) → K (a.put o.dst v') w') : o.wp P a w K Q := by
  subst hw
  have hb0 : Below w0.heap.size w0 (w0.alloc (.cells vs.toArray e)) := (Below.refl _ _).alloc (Nat.le_refl _) _
  obtain ⟨i, z, hi, hz, hsz, hbt, hzs⟩ := E.info
  obtain ⟨raw, g1, g2⟩ := hown
  have h1 := own_keep (B := 0) g1 hb0
  have hlo : ∀ k, v.ownBlock = some k → B ≤ k := fun k hk => (World.ownsRow.lt h1 k hk).1
  have hl := C.len hd
  refine wp_append_own _ s x T ho B e i z C.size bytes E.under hi hz hsz hbt hzs C.pos v es.length _ hs h1 ⟨w0.heap.size, 0, none⟩ 1 1 vs hx (by rw [hl, Nat.one_mul]) (lit_cells w0 vs e) (C.one hd) hlen hby (by simp; omega) (fun v' w' h3 hg _ => ?_)
  have hb : Below B (w0.alloc (.cells vs.toArray e)) w' := (Below.refl B _).grown hg (by simp; omega) hlo
  have hko : Kep (fun k => v.ownBlock ≠ some k) w0 w' := (kep_below _ hb0).trans (kep_grown hg fun k hk hne => hne hk)
  have hm0 : Mean C (fun b => S b ∧ b < w0.heap.size) w0 (raw ++ [vs]) (es ++ [d]) := (g2.append (Mean.single hd)).keep (Kep.refl _ _) fun b hb hs => ⟨hs, hb⟩
  have hm : Mean C (fun b => S b ∧ b < w0.heap.size) w' (raw ++ [vs]) (es ++ [d]) := hm0.keep (hko.mono' (T := fun b => S b ∧ b < w0.heap.size) fun b hb hs he => apt_not_own g1 (hS b hb hs.1) he) fun b hb hs => hs
  refine h v' w' ⟨raw ++ [vs], ?_, hm.keep (Kep.refl _ _) fun b _ hs => hs.1⟩ ((hb0.mono hbase).trans hb) (kep_grown hg fun k hk hne => hne hk) ?_
  · rw [List.length_append, List.flatten_append, List.flatten_singleton]
    exact h3
  · rcases h3.2 with ⟨_, h0⟩ | ⟨g, cap, cur, hv, _⟩
    · omega
    · exact ⟨g, cap, hv⟩
/-- What lay below B lies apart. -/
theorem bel_apt {e : TypeId} {B : Nat} {w : World} {v : Value} {es : List α} (h : RBel C B w v es) : ROn C (Apt e B w) w v es := ROn.weak h fun b _ hb => .inl hb
end
end Go.Proofs.Ytgacfihidpijeaa.MM
