/-
  The row of docs of bytes: the code's Decode, Count. Condition: fewer than 10^10 bytes. The row of docs of bytes: the code's Decode, Count. Condition: fewer than 10^10 bytes.
-/
import Derived.Maps.AppendAt
import Derived.Test.YthgfaadlnffpcaaZA41
import Derived.Test.YthgfaadlnffpcaaZA43
set_option linter.unusedVariables false
namespace Go.Proofs.Ythgfaadlnffpcaa.SR
open Go Go.RowKit Go.Shelf Go.Proofs.Ythgfaadlnffpcaa.MM Go.Proofs.Ythgfaadlnffpcaa.VM Go.Proofs.Ythgfaadlnffpcaa.SM
open Go.Proofs.Ythgfaadlnffpcaa.EV (fldC docC docE doc_on IsF NewF)
open Go.Proofs.Ythgfaadlnffpcaa.RF (VowsT GrowsT FreeT TagT LeftT rangeT_)
attribute [local go_sem] Oper.semAt_some

/-- blocks(b): b is boxed; the function value captures the box. -/
theorem blk_in (n : Nat) (p : Option Addr) (m c : Nat) (W : World) :
    CallsIn Fence.wide n Try.prog 40 #[.slice p m c] W fun e B => e = .returned (.func (.func 58) #[] #[.pointer (some ⟨W.heap.size, 0, none⟩)]) ∧ B = W.alloc (.cells #[.slice p m c] 29) := by
  refine callsIn_of_wp Try.func40 rfl trivial ?_ rfl
  simp only [Try.ntmps40, List.size_toArray, List.length_cons, List.length_nil, Nat.reduceAdd, Nat.reduceSub, Array.replicate_succ, Array.replicate_zero, List.push_toArray, List.append_toArray, List.nil_append, List.cons_append]
  gi_wp2
  go_ret
  exact ⟨rfl, rfl⟩
theorem blocks_vow (n : Nat) (hn : 1 ≤ n) (bb D : Nat) (T : Nat → Prop) (v : Value) (b : List UInt8) (w : World) (hlen : b.length ≤ 10000000000) (hT : ∀ k, T k → k < D) (hc : w.cell? ⟨bb, 0, none⟩ = some v) (hbw : bb < w.heap.size) (hb : BOn T w v b) :
    VowsT Fence.wide n Try.prog 58 #[.pointer (some ⟨bb, 0, none⟩)] encQ T D 45 93 (VowQ D) (fun xs => xs.map (·.2) = toldS b) (fun pre => ∃ k, pre.map (·.2) = (toldS b).take k) 4097 w :=
  fun y J Jx W hW hD hJ _ hY h0 => blocks_in n hn y bb D T v b J Jx hJ hY W hD hT ((hW.cell (p := ⟨bb, 0, none⟩) hbw).trans hc) (hb.below hW) h0 hlen

/-! ### what the loop keeps -/
/-- All that was yielded, one behind the other. -/
def allD (pre : List Part) : List Doc := (pre.map (·.2.1)).flatten
theorem allD_snoc (pre : List Part) (x : Part) : allD (pre ++ [x]) = allD pre ++ x.2.1 := by unfold allD; simp
def InvD (w : World) (D : Nat) (pre : List Part) (W : World) : Prop :=
  ∃ v, Boxed W (w.heap.size + 2) 22 v ∧ OwnX docC 45 D (FldS D W) W v (allD pre) ∧ (∀ x ∈ pre, x.2.2 = 0) ∧ Boxed W w.heap.size 22 (.slice none 0 0) ∧ Boxed W (w.heap.size + 1) 26 (.int .i64 0) ∧ Below w.heap.size w W ∧ (allD pre).length ≤ 16 * pre.length ∧ D ≤ W.heap.size
def InvX (w : World) (pre : List Part) (W : World) : Prop :=
  ∃ x ∈ pre, x.2.2 ≠ 0 ∧ Boxed W w.heap.size 22 (.slice none 0 0) ∧ Boxed W (w.heap.size + 1) 26 (.int .i64 x.2.2) ∧ Below w.heap.size w W
theorem ownf_keep {D : Nat} {T : Nat → Prop} {W W' : World} {v : Value} {es : List Doc} (h : OwnX docC 45 D (FldS D W) W v es) (hk : Kep T W W') (h1 : ∀ b, FldS D W b → T b) (h2 : ∀ g, v.ownBlock = some g → T g) : OwnX docC 45 D (FldS D W') W' v es :=
  (h.keep hk (fun b _ hb => h1 b hb) h2).weak fun b _ hb => ⟨hb.1, hb.2.keep hk (h1 b hb)⟩
theorem boxed_kep {T : Nat → Prop} {W W' : World} {B : Nat} {t : TypeId} {v : Value} (h : Boxed W B t v) (hk : Kep T W W') (hB : T B) : Boxed W' B t v := (hk.block B h.lt hB).trans h
/-- What keeps all cells but a reader's keeps what is said. -/
theorem invd_keep {w : World} {D : Nat} {T : Nat → Prop} {pre : List Part} {W W' : World} (h : InvD w D pre W) (hD : w.heap.size + 3 ≤ D) (hk : Kep T W W') (h1 : ∀ b, b < D → T b) (h2 : ∀ b cur t fr, W.heap[b]? = some (.cells cur t fr) → t ≠ 93 → T b) : InvD w D pre W' := by
  obtain ⟨v, b1, o1, a1, b2, b3, bl, ln, hd⟩ := h
  have hs := bl.size
  refine ⟨v, boxed_kep b1 hk (h1 _ (by omega)), ownf_keep o1 hk (fun b hb => ?_) (fun g hg => ?_), a1, boxed_kep b2 hk (h1 _ (by omega)), boxed_kep b3 hk (h1 _ (by omega)), bl.trans (hk.below hs fun k hk' => h1 k (by omega)), ln, Nat.le_trans hd hk.size⟩
  · obtain ⟨_, cur, fr, hc⟩ := hb
    exact h2 b cur _ fr hc (by decide)
  · obtain ⟨_, _, cur, fr, hc⟩ := o1.cells hg
    exact h2 g cur _ fr hc (by decide)
theorem invx_keep {w : World} {D : Nat} {T : Nat → Prop} {pre : List Part} {W W' : World} (h : InvX w pre W) (hD : w.heap.size + 3 ≤ D) (hk : Kep T W W') (h1 : ∀ b, b < D → T b) : InvX w pre W' := by
  obtain ⟨x, hx, hne, b2, b3, bl⟩ := h
  have hs := bl.size
  exact ⟨x, hx, hne, boxed_kep b2 hk (h1 _ (by omega)), boxed_kep b3 hk (h1 _ (by omega)), bl.trans (hk.below hs fun k hk' => h1 k (by omega))⟩
theorem kep_row {D : Nat} {W W' : World} {row : Option Nat} (hg : W.grownBy W' row) (hr : ∀ r, row = some r → D ≤ r ∧ ∃ o : Obj, W.heap[r]? = some o ∧ o.isCells = false) :
    Kep (fun b => row ≠ some b) W W' ∧ (∀ b, b < D → row ≠ some b) ∧ (∀ b cur t fr, W.heap[b]? = some (.cells cur t fr) → row ≠ some b) := by
  refine ⟨kep_grown hg fun k hk hne => hne hk, fun b hb e => by have := (hr b e).1; omega, fun b cur t fr hc e => ?_⟩
  obtain ⟨_, o, ho, hn⟩ := hr b e
  rw [hc] at ho
  cases ho
  cases hn
theorem invd_own (w : World) (D : Nat) (hD : w.heap.size + 3 ≤ D) : OwnFrom D (InvD w D) := fun pre W W' row h hg hr => by
  obtain ⟨k1, k2, k3⟩ := kep_row hg hr
  exact invd_keep h hD k1 k2 fun b cur t fr hc _ => k3 b cur t fr hc
theorem invx_own (w : World) (D : Nat) (hD : w.heap.size + 3 ≤ D) : OwnFrom D (InvX w) := fun pre W W' row h hg hr => by
  obtain ⟨k1, k2, k3⟩ := kep_row hg hr
  exact invx_keep h hD k1 k2
theorem free_low {D : Nat} {W : World} {b : Nat} (h : b < D) : FreeT D 93 W b := fun ⟨h1, _⟩ => by omega
theorem free_tag {D : Nat} {W : World} {b : Nat} {cur : Array Value} {t : TypeId} {fr : Nat × Nat} (h : W.heap[b]? = some (.cells cur t fr)) (ht : t ≠ 93) : FreeT D 93 W b := fun ⟨_, cur', fr', h'⟩ => by
  rw [h] at h'
  simp only [Option.some.injEq, Obj.cells.injEq] at h'
  exact ht h'.2.1
theorem invd_grows (w : World) (D : Nat) (hD : w.heap.size + 3 ≤ D) : GrowsT D 93 (InvD w D) := fun pre A B h hk => invd_keep h hD hk (fun b hb => free_low hb) fun b cur t fr hc ht => free_tag hc ht
theorem invx_grows (w : World) (D : Nat) (hD : w.heap.size + 3 ≤ D) : GrowsT D 93 (InvX w) := fun pre A B h hk => invx_keep h hD hk (fun b hb => free_low hb)
theorem src_keep {D : Nat} {T : Nat → Prop} {W W' : World} {v : Value} {ds : List Doc} (h : SrcX docC (FldS D W) W v ds) (hk : Kep T W W') (hT : ∀ b cur t fr, W.heap[b]? = some (.cells cur t fr) → T b) : SrcX docC (FldS D W') W' v ds := by
  have hF : ∀ b, FldS D W b → T b := fun b hb => by obtain ⟨_, cur, fr, hc⟩ := hb; exact hT b cur _ fr hc
  obtain ⟨p, cap, raw, rfl, h1, h3, hm, hc⟩ := h
  refine ⟨p, cap, raw, rfl, h1, h3, (hm.keep (hk.mono fun b hb => hF b hb) (fun b _ hb => hb)).keep (Kep.refl _ _) (fun b _ hb => ⟨hb.1, hb.2.keep hk (hF b hb)⟩), ?_⟩
  rcases hc with hc | ⟨b, off, rfl, hc⟩
  · exact .inl hc
  · refine .inr ⟨b, off, rfl, fun j u hj => ?_⟩
    have hcj := hc j u hj
    have hlt : b < W.heap.size := World.block_lt_of_cell? _ _ hcj
    have hTb : T b := by
      cases hh : W.heap[b]? with
      | none => simp [World.cell?, hh] at hcj
      | some o =>
        cases o with
        | cells cur t fr => exact hT b cur t fr hh
        | _ => simp [World.cell?, hh] at hcj
    rw [hk.cell hlt hTb]
    exact hcj
theorem vowq_own (D D' : Nat) : OwnFrom D' (VowQ D) := fun x W W' row h hg hr => by
  obtain ⟨k1, k2, k3⟩ := kep_row hg hr
  exact ⟨h.1, h.2.1, src_keep h.2.2 k1 k3⟩

/-! ### what it means -/
theorem told_odd {b : List UInt8} {x : List Doc × Int} (h : x ∈ toldS b) (hx : x.2 ≠ 0) : x.2 = 120 ∧ decC b = none := by
  unfold toldS at h
  rcases List.mem_append.1 h with h | h
  · obtain ⟨c, _, rfl⟩ := List.mem_map.1 h
    exact absurd rfl hx
  · by_cases hc : (allSt b).2.2 = true ∨ (allSt b).2.1 ≠ []
    · rw [if_pos hc, List.mem_singleton] at h
      subst h
      unfold decC
      exact ⟨rfl, if_pos hc⟩
    · rw [if_neg hc] at h
      simp at h
theorem told_good {b : List UInt8} {xs : List Part} (h : xs.map (·.2) = toldS b) (hx : ∀ x ∈ xs, x.2.2 = 0) : decC b = some (allD xs) := by
  by_cases hc : (allSt b).2.2 = true ∨ (allSt b).2.1 ≠ []
  · have hm : (([] : List Doc), (120 : Int)) ∈ toldS b := by
      unfold toldS
      rw [if_pos hc]
      exact List.mem_append_right _ (by simp)
    rw [← h] at hm
    obtain ⟨x, h1, h2⟩ := List.mem_map.1 hm
    have := hx x h1
    rw [h2] at this
    cases this
  · unfold decC
    rw [if_neg hc]
    unfold toldS at h
    rw [if_neg hc, List.append_nil] at h
    unfold allD
    have e : xs.map (·.2.1) = (xs.map (·.2)).map (·.1) := by rw [List.map_map]; rfl
    rw [e, h, List.map_map]
    have : (fun c : List Doc => c) = (fun x : List Doc × Int => x.1) ∘ (fun c => (c, (0 : Int))) := rfl
    rw [← this, List.map_id']
theorem others_of {D : Nat} {W w1 : World} {v : Value} {es : List Doc} (h : OwnX docC 45 D (FldS D W) W v es) (hg : W.grownBy w1 v.ownBlock) : KeepsOthers W w1 :=
  KeepsOthers.of_grownBy hg fun j o hj ho => by
    obtain ⟨_, _, cur, fr, hc⟩ := h.cells hj
    rw [hc] at ho
    cases ho
    rfl
end Go.Proofs.Ythgfaadlnffpcaa.SR
set_option linter.unusedVariables false
namespace Go.Proofs.Ythgfaadlnffpcaa.SR
open Go Go.RowKit Go.Shelf Go.Proofs.Ythgfaadlnffpcaa.MM Go.Proofs.Ythgfaadlnffpcaa.VM Go.Proofs.Ythgfaadlnffpcaa.SM
open Go.Proofs.Ythgfaadlnffpcaa.EV (fldC docC docE doc_on IsF NewF)
open Go.Proofs.Ythgfaadlnffpcaa.RF (VowsT GrowsT FreeT TagT LeftT rangeT_)
attribute [local go_sem] Oper.semAt_some


/-- A row of docs, or an error's number. -/
def errO (o : Option (List Doc)) : Int := if o.isSome then 0 else 120
def DecA (o : Option (List Doc)) (w : World) (e : Ending) (w' : World) : Prop :=
  ∃ u, e = .returned (.tuple #[u, .int .i64 (errO o)]) ∧ DocsOwn w.heap.size w' u (o.getD []) ∧ Below w.heap.size w w'
theorem own_docs {B D : Nat} {w : World} {v : Value} {ds : List Doc} (h : OwnX docC 45 D (FldS D w) w v ds) (hB : B ≤ D) : DocsOwn B w v ds := DocsOwn.base ⟨FldS D w, fun b hb => hb, h⟩ hB

set_option maxRecDepth 100000 in
set_option maxHeartbeats 4000000 in
theorem dec_any (v : Value) (b : List UInt8) (w : World) (h : BRow w v b) (hl : b.length ≤ 10000000000) : Calls Try.prog 17 #[v] w (DecA (decS b) w) := by
  rw [← decC_same (by omega)]
  obtain ⟨p, cap, rfl, hlc, hcm⟩ := BIn.shape h
  obtain ⟨R, hR⟩ : ∃ R, w.heap.size = R := ⟨_, rfl⟩
  have HB := Lib.hid (BOn.of_in h (Nat.le_refl _))
  clear h
  refine (callsIn_wide (n := 5)).1 ?_
  refine callsIn_of_wp_marks Try.func17 rfl trivial ?_ rfl
  simp only [Try.ntmps17, List.size_toArray, List.length_cons, List.length_nil, Nat.reduceAdd, Nat.reduceSub, Array.replicate_succ, Array.replicate_zero, List.push_toArray, List.append_toArray, List.nil_append, List.cons_append]
  gi_wp2
  refine ⟨trivial, (blk_in 4 p b.length cap _).mono ?_⟩
  rintro e w5 ⟨rfl, rfl⟩
  have b0 := Boxed.new w 22 (.slice none 0 0)
  have b1 := Boxed.new (w.alloc (.cells #[.slice none 0 0] 22)) 26 (.int .i64 0)
  have b2 := Boxed.new ((w.alloc (.cells #[.slice none 0 0] 22)).alloc (.cells #[.int .i64 0] 26)) 22 (.slice none 0 0)
  have b3 := Boxed.new (((w.alloc (.cells #[.slice none 0 0] 22)).alloc (.cells #[.int .i64 0] 26)).alloc (.cells #[.slice none 0 0] 22)) 29 (.slice p b.length cap)
  simp only [World.size_alloc] at b1 b2 b3
  have hB0 : Below w.heap.size w ((((w.alloc (.cells #[.slice none 0 0] 22)).alloc (.cells #[.int .i64 0] 26)).alloc (.cells #[.slice none 0 0] 22)).alloc (.cells #[.slice p b.length cap] 29)) :=
    ((((Below.refl _ w).alloc (Nat.le_refl _) _).alloc (by simp) _).alloc (by simp; omega) _).alloc (by simp; omega) _
  have hsz0 : ((((w.alloc (.cells #[.slice none 0 0] 22)).alloc (.cells #[.int .i64 0] 26)).alloc (.cells #[.slice none 0 0] 22)).alloc (.cells #[.slice p b.length cap] 29)).heap.size = R + 4 := by simp [hR]
  have c0 := ((b0.alloc (.cells #[.int .i64 0] 26)).alloc (.cells #[.slice none 0 0] 22)).alloc (.cells #[.slice p b.length cap] 29)
  have c1 := (b1.alloc (.cells #[.slice none 0 0] 22)).alloc (.cells #[.slice p b.length cap] 29)
  have c2 := b2.alloc (.cells #[.slice p b.length cap] 29)
  clear b0 b1 b2
  generalize ((((w.alloc (.cells #[.slice none 0 0] 22)).alloc (.cells #[.int .i64 0] 26)).alloc (.cells #[.slice none 0 0] 22)).alloc (.cells #[.slice p b.length cap] 29)) = w0 at *
  simp only [hR] at c0 c1 c2 b3 ⊢
  have hI0 : InvD w w0.heap.size [] w0 := ⟨.slice none 0 0, by rw [hR]; exact c2, OwnX.nil_ _ _ _ _, by simp, by rw [hR]; exact c0, by rw [hR]; exact c1, hB0, by simp [allD], Nat.le_refl _⟩
  obtain ⟨T, hT⟩ : ∃ T : Nat → Prop, (fun k => k < R ∨ k = R + 3) = T := ⟨_, rfl⟩
  have hTi : ∀ k, T k ↔ (k < R ∨ k = R + 3) := fun k => by rw [← hT]
  have hTD : ∀ k, T k → k < w0.heap.size := fun k hk => by rw [hTi] at hk; omega
  have hbon : BOn T w0 (.slice p b.length cap) b := ((HB.out.keep (T := fun k => k < R) (kep_lt (hR ▸ hB0)) (fun k _ hk => by show k < R; omega)).weak fun k _ hk => (hTi k).2 (.inl hk))
  have HVOW := Lib.hid (blocks_vow 4 (by omega) (R + 3) w0.heap.size T _ b w0 hl hTD b3.cell (by omega) hbon)
  have HTI := Lib.hid hTi
  have hD3 : w.heap.size + 3 ≤ w0.heap.size := by omega
  clear hT hTi c0 c1 c2 b3 hB0 HB hbon
  gi_wp2
  refine rangeT_ rfl (by omega) (gf := 58) (lb := #[.pointer (some ⟨R + 1 + 1 + 1, 0, none⟩)]) rfl trivial (enters_of Try.func58 (by kernel_rfl) rfl)
    HVOW.out (Below.refl _ _) hTD (fun _ => rfl)
    (InvD w w0.heap.size) (InvX w) (invd_own w _ hD3) (invx_own w _ hD3) (invd_grows w _ hD3) (invx_grows w _ hD3) (vowq_own _ _) hI0
    (fun x => { tmps := #[.slice p b.length cap, undef, .pointer (some ⟨R, 0, none⟩), .pointer (some ⟨R + 1, 0, none⟩), .pointer (some ⟨R + 1 + 1, 0, none⟩), x.1, .int .i64 x.2.2, .slice p b.length cap,
      .func (.func 58) #[] #[.pointer (some ⟨R + 1 + 1 + 1, 0, none⟩)], x.1, .int .i64 x.2.2, undef, undef, undef, undef, undef, undef, undef], defers := [] }) ?assign ?body ?done ?stop
  case assign =>
    intro y x W K hK
    gi_wp2
    exact hK
  case body =>
    rintro y pre ⟨xv, ds, er⟩ W ⟨v, bL, o1, a1, bR, bE, bl, ln, hd⟩ ⟨v1, v2, v3⟩ hlt
    dsimp only at v1 v2 v3 ⊢
    have hs1 := bl.size
    have cL : W.cell? ⟨R + 1 + 1, 0, none⟩ = some v := by rw [← hR]; exact bL.cell
    have fL : W.frozen? ⟨R + 1 + 1, 0, none⟩ = false := by rw [← hR]; exact bL.frozen
    have cR : W.cell? ⟨R, 0, none⟩ = some (.slice none 0 0) := by rw [← hR]; exact bR.cell
    have fR : W.frozen? ⟨R, 0, none⟩ = false := by rw [← hR]; exact bR.frozen
    have cE : W.cell? ⟨R + 1, 0, none⟩ = some (.int .i64 0) := by rw [← hR]; exact bE.cell
    have fE : W.frozen? ⟨R + 1, 0, none⟩ = false := by rw [← hR]; exact bE.frozen
    by_cases he : er = 0
    · subst he
      obtain ⟨pl, cl, rfl, _⟩ := o1.any.shape
      obtain ⟨px, cx, rfl⟩ : ∃ p c, xv = .slice p ds.length c := by obtain ⟨p, c, raw, h, _⟩ := v3; exact ⟨p, c, h⟩
      obtain ⟨NA, hNA⟩ : ∃ k, (allD pre).length = k := ⟨_, rfl⟩
      have HO1 := Lib.hid o1
      rw [hNA] at HO1 cL
      have HNA := Lib.hid hNA
      have HV3 := Lib.hid v3
      have HNE := Lib.hid (v2 rfl)
      have HLN : Hid (NA + ds.length ≤ 16 * (pre.length + 1) ∧ pre.length < 4097) := Lib.hid ⟨by omega, hlt⟩
      have HBS := Lib.hid (And.intro bL (And.intro bR (And.intro bE bl)))
      have HA1 := Lib.hid a1
      have HLD := Lib.hid hd
      rw [hNA] at HBS
      clear o1 v1 v2 v3 a1 ln hNA cR fR cE fE hI0 HVOW
      gi_wp2_with (gi_at_builtin; refine wpListIn_append_x docE rfl _ _ rfl w0.heap.size (.slice pl NA cl) (allD pre) rfl HO1.out (fun b _ hb => isF_doc hb.2) (.slice px ds.length cx) ds rfl HV3.out HNE.out (by rw [HNA.out]; have := HLN.out; unfold maxLen; omega) (by rw [HNA.out]; have := HLN.out; omega) HLD.out ?_; intro v' w1 ho' hb' hg'; have hnr := HBS.out.1.not_row (by decide : (22 : TypeId) ≠ 45) (HO1.out.choose_spec.1); have bL1 := HBS.out.1.kept hg' hnr; have cL1 : w1.cell? ⟨R + 1 + 1, 0, none⟩ = some (.slice pl NA cl) := (by rw [← hR]; exact bL1.cell); have fL1 : w1.frozen? ⟨R + 1 + 1, 0, none⟩ = false := (by rw [← hR]; exact bL1.frozen); have HO2 := Lib.hid ho'; have HB2 := Lib.hid hb'; have HG2 := Lib.hid hg'; have HL1 := Lib.hid bL1; obtain ⟨p7, c7, rfl, _⟩ := ho'.any.shape; clear ho' hb' hg' hnr bL1)
      obtain ⟨NV, hNV⟩ : ∃ k, (allD pre).length + ds.length = k := ⟨_, rfl⟩
      rw [List.length_append, hNV] at HO2
      rw [hNV]
      have hend : KeepsFrom w0.heap.size W (w1.setCell ⟨R + 1 + 1, 0, none⟩ (.slice p7 NV c7)) ∧ Kep (TagT T w0.heap.size 45 W) W (w1.setCell ⟨R + 1 + 1, 0, none⟩ (.slice p7 NV c7)) ∧ InvD w w0.heap.size (pre ++ [((.slice px ds.length cx : Value), (ds, (0 : Int)))]) (w1.setCell ⟨R + 1 + 1, 0, none⟩ (.slice p7 NV c7)) := by
        subst hR
        have hnT : ¬ TagT T w0.heap.size 45 W (w.heap.size + 1 + 1) := fun h => h.elim (fun h => by have := (HTI.out _).1 h; omega) (fun h => by have := h.1; omega)
        have k1 : Kep (TagT T w0.heap.size 45 W) W w1 := kep_grown HG2.out fun k hk hT => by
          obtain ⟨h1, h2, cur, fr, hc⟩ := HO1.out.cells hk
          rcases hT with h | ⟨_, cur', t, fr', hc', hne⟩
          · have := hTD k h; omega
          · rw [hc] at hc'
            simp only [Option.some.injEq, Obj.cells.injEq] at hc'
            exact hne hc'.2.1.symm
        have ko : Kep (fun b => (Value.slice pl NA cl).ownBlock ≠ some b) W w1 := kep_grown HG2.out fun k hk hne => hne hk
        have hlo : ∀ b, (Value.slice pl NA cl).ownBlock = some b → w0.heap.size ≤ b := fun b hb => (HO1.out.cells hb).1
        obtain ⟨bL, bR, bE, bl⟩ := HBS.out
        have o2 : OwnX docC 45 w0.heap.size (FldS w0.heap.size w1) w1 (.slice p7 NV c7) (allD pre ++ ds) := HO2.out.weak fun b _ hb => ⟨hb.1, hb.2.keep ko (isF_own HO1.out hb.2)⟩
        have ks : Kep (fun b => b ≠ w.heap.size + 1 + 1) w1 (w1.setCell ⟨w.heap.size + 1 + 1, 0, none⟩ (.slice p7 NV c7)) := kep_set0 _
        refine ⟨((others_of HO1.out HG2.out).trans (KeepsOthers.setCell _ _ _)).from _, k1.trans (kep_set hnT _), .slice p7 NV c7, HL1.out.set _, ?_, ?_, ?_, ?_, ?_, ?_, ?_⟩
        · rw [allD_snoc]
          exact ownf_keep o2 ks (fun b hb => by have := hb.1; omega) (fun g hg => by have := (o2.cells hg).1; omega)
        · intro x hx
          rcases List.mem_append.1 hx with hx | hx
          · exact HA1.out x hx
          · rw [List.mem_singleton] at hx; rw [hx]
        · exact boxed_kep (boxed_kep bR ko (fun e => by have := hlo _ e; omega)) ks (by omega)
        · exact boxed_kep (boxed_kep bE ko (fun e => by have := hlo _ e; omega)) ks (by omega)
        · exact (bl.trans (ko.below hs1 fun k hk e => by have := hlo _ e; omega)).trans (ks.below (by have := HG2.out.size; omega) fun k hk => by omega)
        · rw [allD_snoc, List.length_append, HNA.out, List.length_append]
          exact HLN.out.1
        · have := HG2.out.size
          have := ks.size
          have := HLD.out
          omega
      exact hend
    · have t1 : (er != 0) = true := by rw [bne_iff_ne]; exact he
      have hend : KeepsFrom w0.heap.size W ((W.setCell ⟨R, 0, none⟩ (.slice none 0 0)).setCell ⟨R + 1, 0, none⟩ (.int .i64 er)) ∧ InvX w (pre ++ [(xv, (ds, er))]) ((W.setCell ⟨R, 0, none⟩ (.slice none 0 0)).setCell ⟨R + 1, 0, none⟩ (.int .i64 er)) := by
        subst hR
        have k1 : Kep (fun b => b ≠ w.heap.size) W (W.setCell ⟨w.heap.size, 0, none⟩ (.slice none 0 0)) := kep_set0 _
        have k2 : Kep (fun b => b ≠ w.heap.size + 1) (W.setCell ⟨w.heap.size, 0, none⟩ (.slice none 0 0)) ((W.setCell ⟨w.heap.size, 0, none⟩ (.slice none 0 0)).setCell ⟨w.heap.size + 1, 0, none⟩ (.int .i64 er)) := kep_set0 _
        refine ⟨((KeepsOthers.setCell _ _ _).trans (KeepsOthers.setCell _ _ _)).from _, (xv, (ds, er)), List.mem_append_right _ (by simp), he, boxed_kep (bR.set _) k2 (by omega), (boxed_kep bE k1 (by omega)).set _, (bl.trans (k1.below hs1 fun k hk => by omega)).trans (k2.below (by have := k1.size; omega) fun k hk => by omega)⟩
      have HE := Lib.hid hend
      have cE1 : (W.setCell ⟨R, 0, none⟩ (.slice none 0 0)).cell? ⟨R + 1, 0, none⟩ = some (.int .i64 0) := ((kep_set0 (g := R) (i := 0) (w := W) (.slice none 0 0)).cell (by have := bE.lt; omega) (by omega) 0).trans cE
      have fE1 : (W.setCell ⟨R, 0, none⟩ (.slice none 0 0)).frozen? ⟨R + 1, 0, none⟩ = false := by
        have := (boxed_kep bE (kep_set0 (g := R) (i := 0) (w := W) (.slice none 0 0)) (by omega)).frozen
        rw [hR] at this
        exact this
      clear hend o1 v1 v2 v3 a1 ln hI0 HVOW bL bR bE bl
      gi_wp2
      exact HE.out
  case done =>
    rintro Dk xs W hD hS ⟨v, bL, o1, a1, bR, bE, bl, ln, hd⟩ hK
    have hdec := told_good hS a1
    obtain ⟨pl, cl, rfl, _⟩ := o1.any.shape
    obtain ⟨NA, hNA⟩ : ∃ k, (allD xs).length = k := ⟨_, rfl⟩
    have hs1 := bl.size
    rw [hNA] at bL o1
    have cL : W.cell? ⟨R + 1 + 1, 0, none⟩ = some (.slice pl NA cl) := by rw [← hR]; exact bL.cell
    have cR : W.cell? ⟨R, 0, none⟩ = some (.slice none 0 0) := by rw [← hR]; exact bR.cell
    have fR : W.frozen? ⟨R, 0, none⟩ = false := by rw [← hR]; exact bR.frozen
    have k1 : Kep (fun b => b ≠ R) W (W.setCell ⟨R, 0, none⟩ (.slice pl NA cl)) := kep_set0 _
    obtain ⟨W1, hW1⟩ : ∃ x, W.setCell ⟨R, 0, none⟩ (.slice pl NA cl) = x := ⟨_, rfl⟩
    have bE1 : Boxed W1 (w.heap.size + 1) 26 (.int .i64 0) := by rw [← hW1]; exact boxed_kep bE k1 (by omega)
    have bR1 : Boxed W1 w.heap.size 22 (.slice pl NA cl) := by rw [← hW1, ← hR]; exact bR.set _
    have ko1 : KeepsOthers W W1 := by rw [← hW1]; exact KeepsOthers.setCell _ _ _
    rw [hW1] at k1
    obtain ⟨W3, hW3⟩ : ∃ x, W1.setCell ⟨R + 1, 0, none⟩ (.int .i64 0) = x := ⟨_, rfl⟩
    have k2 : Kep (fun b => b ≠ R + 1) W1 W3 := by rw [← hW3]; exact kep_set0 _
    have bE3 : Boxed W3 (w.heap.size + 1) 26 (.int .i64 0) := by rw [← hW3, ← hR]; exact bE1.set _
    have bR3 : Boxed W3 w.heap.size 22 (.slice pl NA cl) := boxed_kep bR1 k2 (by omega)
    have ko3 : KeepsOthers W W3 := ko1.trans (by rw [← hW3]; exact KeepsOthers.setCell _ _ _)
    have hK3 := ko3.same Dk _ hK rfl
    have o3 := ownf_keep (ownf_keep o1 k1 (fun b hb => by have := hb.1; omega) (fun g hg => by have := (o1.cells hg).1; omega)) k2 (fun b hb => by have := hb.1; omega) (fun g hg => by have := (o1.cells hg).1; omega)
    have bl3 : Below w.heap.size w W3 := (bl.trans (k1.below hs1 fun k hk => by omega)).trans (k2.below (by have := k1.size; omega) fun k hk => by omega)
    have k3 : Kep (fun b => b ≠ Dk) W3 (W3.putObj Dk (.deferred none)) := kep_grown (grownBy_putObj' W3 Dk (.deferred none)) fun k hk hne => by cases hk; exact hne rfl
    have hap : ∀ b cur t fr, W3.heap[b]? = some (.cells cur t fr) → b ≠ Dk := fun b cur t fr hc e => by rw [e, hK3] at hc; cases hc
    have o4 := ownf_keep o3 k3 (fun b hb => by obtain ⟨_, cur, fr, hc⟩ := hb; exact hap b cur _ fr hc) (fun g hg => by obtain ⟨_, _, cur, fr, hc⟩ := o3.cells hg; exact hap g cur _ fr hc)
    have bR4 := (boxed_kep bR3 k3 (hap _ _ _ _ bR3)).cell
    have bE4 := (boxed_kep bE3 k3 (hap _ _ _ _ bE3)).cell
    have bl4 := bl3.trans (k3.below (by have := k1.size; have := k2.size; omega) fun k hk => by omega)
    have cE1 : W1.cell? ⟨R + 1, 0, none⟩ = some (.int .i64 0) := by rw [← hR]; exact bE1.cell
    have fE1 : W1.frozen? ⟨R + 1, 0, none⟩ = false := by rw [← hR]; exact bE1.frozen
    rw [← hW1] at cE1 fE1
    have HQ : Hid (DecA (decC b) w (.returned (.tuple #[.slice pl NA cl, .int .i64 0])) (W3.putObj Dk (.deferred none))) := Lib.hid (by rw [hdec]; exact ⟨_, rfl, own_docs o4 (by omega), bl4⟩)
    have HW1 := Lib.hid hW1
    have HW3 := Lib.hid hW3
    have HK3 := Lib.hid hK3
    rw [hR] at bR4 bE4
    have HR4 := Lib.hid bR4
    have HE4 := Lib.hid bE4
    clear hap k1 k2 k3 bE1 bR1 ko1 bE3 bR3 ko3 o3 o4 bl3 bl4 hdec hS bL bR bE bl o1 a1 ln hW1 hW3 hK3 bR4 bE4 hI0 HVOW hK
    gi_wp2
    rw [HW1.out, HW3.out]
    refine ⟨by simp, .inl ⟨_, _, rfl, run_takeDeferred HK3.out, ?_⟩⟩
    refine ⟨.tuple #[.slice pl NA cl, .int .i64 0], ?_, HQ.out⟩
    have cR4 := HR4.out
    have cE4 := HE4.out
    simp [results, Try.f17, go_sem, cR4, cE4]
  case stop =>
    rintro Dk pre W hD ⟨k, hk⟩ ⟨x, hx, hne, bR, bE, bl⟩ hK
    have hm : x.2 ∈ toldS b := by
      have : x.2 ∈ pre.map (·.2) := List.mem_map.2 ⟨x, hx, rfl⟩
      rw [hk] at this
      exact List.mem_of_mem_take this
    obtain ⟨h120, hdec⟩ := told_odd hm hne
    rw [hdec]
    have hs1 := bl.size
    rw [h120] at bE
    have k3 : Kep (fun b => b ≠ Dk) W (W.putObj Dk (.deferred none)) := kep_grown (grownBy_putObj' W Dk (.deferred none)) fun k hk hne => by cases hk; exact hne rfl
    have bR4 := (boxed_kep bR k3 (by omega)).cell
    have bE4 := (boxed_kep bE k3 (by omega)).cell
    have bl4 := bl.trans (k3.below hs1 fun k hk => by omega)
    have HQ : Hid (DecA none w (.returned (.tuple #[.slice none 0 0, .int .i64 120])) (W.putObj Dk (.deferred none))) := Lib.hid ⟨_, rfl, DocsOwn.nil_ _ _, bl4⟩
    rw [hR] at bR4 bE4
    have HR4 := Lib.hid bR4
    have HE4 := Lib.hid bE4
    clear k3 bl4 bR4 bE4 hdec hm hk hx hne h120 bR bE bl hI0 HVOW
    gi_wp2
    refine ⟨by simp, .inl ⟨_, _, rfl, run_takeDeferred hK, ?_⟩⟩
    refine ⟨.tuple #[.slice none 0 0, .int .i64 120], ?_, HQ.out⟩
    have cR4 := HR4.out
    have cE4 := HE4.out
    simp [results, Try.f17, go_sem, cR4, cE4]
end Go.Proofs.Ythgfaadlnffpcaa.SR
