/-
  Bytes that lie in blocks of a set. No program of its own; no condition. Get, the code's, of bytes that lie in blocks of a set: what is left lies there too. No condition. Two rows of bytes of the call's own that grow beside each other, and a third block that stays. No condition.
-/
import Derived.Test.YthgfaadlnffpcaaZA1
import Derived.Test.YthgfaadlnffpcaaZA4
import Derived.Test.YthgfaadlnffpcaaZA13
import Derived.Test.YthgfaadlnffpcaaZA8
set_option linter.unusedVariables false
namespace Go.Proofs.Ythgfaadlnffpcaa.MM
open Go Go.RowKit

def BOn (S : Nat → Prop) (w : World) (v : Value) (l : List UInt8) : Prop := ROn cU8 S w v l
theorem BOn.keep {S T : Nat → Prop} {w w' : World} {v : Value} {l : List UInt8} (h : BOn S w v l) (hk : Kep S w w') (hT : ∀ b, b < w.heap.size → S b → T b) : BOn T w' v l := ROn.keep h hk hT
theorem BOn.weak {S T : Nat → Prop} {w : World} {v : Value} {l : List UInt8} (h : BOn S w v l) (hT : ∀ b, b < w.heap.size → S b → T b) : BOn T w v l := ROn.weak h hT
theorem BOn.below {S : Nat → Prop} {w w' : World} {v : Value} {l : List UInt8} (h : BOn S w v l) (hb : Below w.heap.size w w') : BOn S w' v l := BOn.keep h (kep_below S hb) fun _ _ h => h
theorem BOn.brow {S : Nat → Prop} {w : World} {v : Value} {l : List UInt8} (h : BOn S w v l) : BRow w v l := ron_row (B := w.heap.size) h fun b hb _ => hb
theorem BOn.bin {S : Nat → Prop} {B : Nat} {w : World} {v : Value} {l : List UInt8} (h : BOn S w v l) (hS : ∀ b, S b → b < B) : BIn B w v l := ron_row (B := B) h fun b _ hs => hS b hs
theorem BOn.of_in {B : Nat} {w : World} {v : Value} {l : List UInt8} (h : BIn B w v l) (hB : B ≤ w.heap.size) : BOn (fun b => b < B) w v l := row_ron h hB
theorem BOn.of_own {B : Nat} {w : World} {v : Value} {l : List UInt8} (h : OwnB B w v l) : BOn (fun b => v.ownBlock = some b) w v l := by
  have hr : ROn cU8 (fun b => b < w.heap.size) w v l := row_ron (Row.of_own h) (Nat.le_refl _)
  obtain ⟨p, cap, raw, rfl, h1, h2, h3, hm, h4⟩ := hr
  refine ⟨p, cap, raw, rfl, h1, h2, h3, ⟨hm.1, fun i hi hi' => hm.2 i hi hi'⟩, ?_⟩
  rcases h4 with h | ⟨b, off, rfl, hlt, _, hc⟩
  · exact .inl h
  · exact .inr ⟨b, off, rfl, hlt, rfl, hc⟩
theorem BOn.shape {S : Nat → Prop} {w : World} {v : Value} {l : List UInt8} (h : BOn S w v l) : ∃ p cap, v = .slice p l.length cap ∧ l.length ≤ cap ∧ cap ≤ maxLen := by
  obtain ⟨p, cap, hv, h1, h2, _⟩ := ROn.shape h
  exact ⟨p, cap, hv, h1, h2⟩
theorem BOn.nil_ (S : Nat → Prop) (w : World) : BOn S w (.slice none 0 0) [] := ROn.nil_ S w
theorem BOn.drewN {S : Nat → Prop} {w : World} {v : Value} {l : List UInt8} (h : BOn S w v l) (n : Nat) : BOn S (w.drewN n) v l := h.keep ((Kep.refl S w).drewN n) fun _ _ h => h
theorem BOn.at_ {S : Nat → Prop} {w : World} {p : Option Addr} {n cap : Nat} {l : List UInt8} (h : BOn S w (.slice p n cap) l) {k : Nat} (hk : k < l.length) :
    ∃ b off, p = some ⟨b, off, none⟩ ∧ b < w.heap.size ∧ w.cell? ⟨b, off + k, none⟩ = some (.int .u8 ((l[k]).toNat : Int)) := by
  obtain ⟨b, off, vs, hp, hlt, _, hon, hc⟩ := ROn.at_ h hk
  have hon : vs = [.int .u8 ((l[k]).toNat : Int)] := hon
  refine ⟨b, off, hp, hlt, ?_⟩
  have := hc 0 _ (by rw [hon]; rfl)
  rw [show cU8.size = 1 from rfl, Nat.mul_one, Nat.add_zero] at this
  exact this
theorem BOn.drop {S : Nat → Prop} {w : World} {p : Option Addr} {n cap : Nat} {l : List UInt8} (h : BOn S w (.slice p n cap) l) (k : Nat) (hk : k ≤ n) :
    BOn S w (.slice (if cap = k then p else p.map (·.add k)) (n - k) (cap - k)) (l.drop k) := by
  have := ROn.drop h k hk
  rw [show cU8.size = 1 from rfl, Nat.mul_one] at this
  exact this
theorem BOn.drop2 {S : Nat → Prop} {w : World} {b off n cap : Nat} {l : List UInt8} (h : BOn S w (.slice (some ⟨b, off, none⟩) n cap) l) (k : Nat) (hk : k ≤ n) :
    (cap = k → BOn S w (.slice (some ⟨b, off, none⟩) (n - k) 0) (l.drop k)) ∧ (¬ cap = k → BOn S w (.slice (some ⟨b, off + k, none⟩) (n - k) (cap - k)) (l.drop k)) := by
  have h1 := h.drop k hk
  constructor
  · intro hc
    rw [if_pos hc, hc, Nat.sub_self] at h1
    exact h1
  · intro hc
    rw [if_neg hc, Option.map_some, add_at] at h1
    exact h1
theorem BOn.drop3 {S : Nat → Prop} {w : World} {p : Option Addr} {n cap : Nat} {l : List UInt8} (h : BOn S w (.slice p n cap) l) (k : Nat) (hk : k ≤ n) :
    (cap = k → BOn S w (.slice p (n - k) 0) (l.drop k)) ∧ (¬ cap = k → BOn S w (.slice (p.map (fun x => x.add k)) (n - k) (cap - k)) (l.drop k)) := by
  have h1 := h.drop k hk
  constructor
  · intro hc
    rw [if_pos hc, hc, Nat.sub_self] at h1
    exact h1
  · intro hc
    rw [if_neg hc] at h1
    exact h1
theorem BOn.take {S : Nat → Prop} {w : World} {p : Option Addr} {n cap : Nat} {l : List UInt8} (h : BOn S w (.slice p n cap) l) (k : Nat) (hk : k ≤ n) : BOn S w (.slice p k cap) (l.take k) := ROn.take h k hk
end Go.Proofs.Ythgfaadlnffpcaa.MM
set_option linter.unusedVariables false
namespace Go.Proofs.Ythgfaadlnffpcaa.VG
open Go.RowKit Go.Proofs.Ythgfaadlnffpcaa.MM Go.Proofs.Ythgfaadlnffpcaa.VM

def GotOn (S : Nat → Prop) (x : Value) (er : Int) (rest : List UInt8) (w : World) (e : Ending) (w' : World) : Prop :=
  ∃ v', e = .returned (.tuple #[x, v', .int .i64 er]) ∧ BOn S w' v' rest ∧ Below w.heap.size w w'
set_option maxRecDepth 100000 in
set_option maxHeartbeats 1000000 in
theorem get_on (S : Nat → Prop) (v : Value) (l : List UInt8) (w : World) (hr : BOn S w v l) :
    Calls Try.prog 81 #[v] w (GotOn S (.int .u64 (getL l).1) (getL l).2.2 (restL l) w) := by
  obtain ⟨p, cap, rfl, hlc, hcm⟩ := hr.shape
  unfold maxLen at hcm
  unfold restL
  obtain ⟨res, hres⟩ : ∃ res, getL l = res := ⟨_, rfl⟩
  have HG0 : Hid (getF 0 0 (l.drop 0) = res) := Lib.hid hres
  rw [hres]
  obtain ⟨R, hR⟩ : ∃ R, (if res.2.2 = 0 then l.drop res.2.1 else []) = R := ⟨_, rfl⟩
  rw [hR]
  have HR := Lib.hid hr
  have HE := Lib.hid hR
  clear hr hres hR
  go_enter Try.func81, Try.ntmps81
  go_wp2_with fail
  go_step3
  go_wp2_with fail
  go_step3
  go_wp2_with fail
  go_loop [2, 5, 10] (fun acc size i => ∃ (k n : Nat), k ≤ l.length ∧ i = .int .i64 k ∧ size = .int .i64 0 ∧ acc = .int .u64 n ∧ n < 2 ^ (7 * k) ∧ k ≤ 9 ∧ Hid (getF k n (l.drop k) = res)) (fun _ _ i => l.length - (intOf i).toNat)
  case atStart => exact ⟨0, 0, by omega, rfl, rfl, rfl, by omega, by omega, HG0⟩
  case round =>
    obtain ⟨k, n, hk, rfl, rfl, rfl, hn, hk9, hG⟩ := hrel
    clear HG0
    by_cases hlt : k < l.length
    · obtain ⟨b, off, rfl, hbl, hcell⟩ := (HR.out).at_ hlt
      have hg := hG.out
      have hrow := HR.out.drop2 (k + 1) (by omega)
      rw [drop_cons hlt] at hg
      obtain ⟨c, hc⟩ : ∃ c, l[k] = c := ⟨_, rfl⟩
      rw [hc] at hg hcell
      have hcb := c.toNat_lt
      clear hc hG
      by_cases hbad : (k = 9 ∧ 1 < c.toNat) ∨ (0 < k ∧ c.toNat = 0)
      · rw [getF_bad hbad] at hg
        subst hg
        have hRn : R = [] := by rw [← HE.out]; rfl
        subst hRn
        clear HE hrow
        by_cases h9 : k = 9 ∧ 1 < c.toNat
        · obtain ⟨h9, h1⟩ := h9
          have t1 : ((k : Int) == 9) = true := by simp; omega
          have t2 : decide ((c.toNat : Int) > 1) = true := by simp; omega
          clear hbad h9
          go_wp2_with fail
          go_ret3
          exact ⟨_, rfl, BOn.nil_ _ w, Below.refl _ _⟩
        · have h0 : 0 < k := by omega
          have t0 : ((c.toNat : Int) == 0) = true := by simp; omega
          have t2 : (c.toNat : Int) ≤ 1 := by omega
          have t3 : 0 < (k : Int) := by omega
          clear hbad h9
          by_cases h9 : k = 9
          · have t1 : ((k : Int) == 9) = true := by simp; omega
            clear h9
            go_wp2_with fail
            go_ret3
            exact ⟨_, rfl, BOn.nil_ _ w, Below.refl _ _⟩
          · have t1 : ((k : Int) == 9) = false := by simp; omega
            clear h9
            go_wp2_with fail
            go_ret3
            exact ⟨_, rfl, BOn.nil_ _ w, Below.refl _ _⟩
      · have hfit := gather_fits hn hk9 hbad
        have hval := code_val n k c.toNat hn hcb hfit
        obtain ⟨V, hV⟩ : ∃ V, n + c.toNat % 128 * 2 ^ (7 * k) = V := ⟨_, rfl⟩
        rw [hV] at hval
        by_cases hend : c.toNat < 128
        · rw [getF_end hbad hend, hV] at hg
          subst hg
          obtain rfl : l.drop (k + 1) = R := by rw [← HE.out]; rfl
          have hi1 : (k : Int) + 1 ≤ (l.length : Int) := by omega
          have hi2 : (l.length : Int) ≤ (cap : Int) := by omega
          have hd : ((k : Int) + 1 == 0) = false := by simp; omega
          have HRow := Lib.hid hrow
          clear hrow hV HE hn hfit
          by_cases h9 : k = 9
          · have t1 : ((k : Int) == 9) = true := by simp; omega
            have t2 : (c.toNat : Int) ≤ 1 := by omega
            have t3 : 0 < (k : Int) := by omega
            have t4 : ((c.toNat : Int) == 0) = false := by simp; omega
            clear hbad h9
            go_wp2_with fail
            go_quiet (fail)
            go_wp2_with fail
            · go_ret3
              exact ⟨_, rfl, (HRow.out.1 (by assumption)).drewN nq, below_drewN (Below.refl _ _) nq⟩
            · go_ret3
              exact ⟨_, rfl, (HRow.out.2 (by assumption)).drewN nq, below_drewN (Below.refl _ _) nq⟩
          · have t1 : ((k : Int) == 9) = false := by simp; omega
            by_cases h0 : 0 < k
            · have t3 : 0 < (k : Int) := by omega
              have t4 : ((c.toNat : Int) == 0) = false := by simp; omega
              clear hbad h9
              go_wp2_with fail
              go_quiet (fail)
              go_wp2_with fail
              · go_ret3
                exact ⟨_, rfl, (HRow.out.1 (by assumption)).drewN nq, below_drewN (Below.refl _ _) nq⟩
              · go_ret3
                exact ⟨_, rfl, (HRow.out.2 (by assumption)).drewN nq, below_drewN (Below.refl _ _) nq⟩
            · clear hbad h9
              go_wp2_with fail
              go_quiet (fail)
              go_wp2_with fail
              · go_ret3
                exact ⟨_, rfl, (HRow.out.1 (by assumption)).drewN nq, below_drewN (Below.refl _ _) nq⟩
              · go_ret3
                exact ⟨_, rfl, (HRow.out.2 (by assumption)).drewN nq, below_drewN (Below.refl _ _) nq⟩
        · rw [getF_more hbad hend, hV] at hg
          have hn2 := gather_lt hn c.toNat
          rw [hV] at hn2
          have hk2 := gather_next hk9 hbad hend
          have HG2 := Lib.hid hg
          clear hg hV hrow hn hfit
          have h9 : ¬ k = 9 := by omega
          have t1 : ((k : Int) == 9) = false := by simp; omega
          by_cases h0 : 0 < k
          · have t3 : 0 < (k : Int) := by omega
            have t4 : ((c.toNat : Int) == 0) = false := by simp; omega
            clear hbad h9
            go_wp2_with fail
            go_round
            case rel => exact ⟨k + 1, V, by omega, by go_num, rfl, rfl, hn2, hk2, HG2⟩
            case measure => simp [intOf]; omega
          · clear hbad h9
            go_wp2_with fail
            go_round
            case rel => exact ⟨k + 1, V, by omega, by go_num, rfl, rfl, hn2, hk2, HG2⟩
            case measure => simp [intOf]; omega
    · obtain rfl : k = l.length := by omega
      have hg := hG.out
      rw [List.drop_length, getF_nil] at hg
      subst hg
      have hRn : R = [] := by rw [← HE.out]; rfl
      subst hRn
      clear HE hG
      go_wp2_with fail
      go_ret3
      exact ⟨_, rfl, BOn.nil_ _ w, Below.refl _ _⟩
end Go.Proofs.Ythgfaadlnffpcaa.VG
set_option linter.unusedVariables false
namespace Go.Proofs.Ythgfaadlnffpcaa.TR
open Go Go.RowKit Go.Proofs.Ythgfaadlnffpcaa.MM Go.Proofs.Ythgfaadlnffpcaa.GB

theorem grown_low {B : Nat} {wr w' : World} {u u' : Value} {L L' : List UInt8} (hB : B ≤ wr.heap.size) (ho : OwnB B wr u L) (hg : Grown wr w' u u') (ho' : OwnB 0 w' u' L') : OwnB B w' u' L' ∧ Below B wr w' := by
  have h1 : ∀ k, u.ownBlock = some k → B ≤ k := fun k hk => (World.ownsRow.lt ho k hk).1
  refine ⟨OwnB.from ho' fun k hk => ?_, hg.kep.below hB fun k hk e => by have := h1 k e; omega⟩
  rcases hg.2 k hk with e | e
  · exact h1 k e
  · omega
/-- Two rows, apart, of the call's own (w is the world it began in); a block of W that has not turned. -/
structure EncSt (w W wr : World) (gb : Option Nat) (vh vb : Value) (H Bd : List UInt8) : Prop where
  low : Below w.heap.size w wr
  gsz : W.heap.size ≤ wr.heap.size
  wsz : w.heap.size ≤ W.heap.size
  blk : ∀ g, gb = some g → g < W.heap.size ∧ wr.heap[g]? = W.heap[g]?
  oh : OwnB 0 wr vh H
  ob : OwnB 0 wr vb Bd
  fh : ∀ k, vh.ownBlock = some k → w.heap.size ≤ k ∧ gb ≠ some k
  fb : ∀ k, vb.ownBlock = some k → w.heap.size ≤ k ∧ gb ≠ some k
  ap : ∀ k, vh.ownBlock = some k → vb.ownBlock ≠ some k
theorem EncSt.swap {w W wr : World} {gb : Option Nat} {vh vb : Value} {H Bd : List UInt8} (h : EncSt w W wr gb vh vb H Bd) : EncSt w W wr gb vb vh Bd H :=
  ⟨h.low, h.gsz, h.wsz, h.blk, h.ob, h.oh, h.fb, h.fh, fun k hk hk2 => h.ap k hk2 hk⟩
theorem EncSt.below {w W wr w' : World} {gb : Option Nat} {vh vb : Value} {H Bd : List UInt8} (h : EncSt w W wr gb vh vb H Bd) (hb : Below wr.heap.size wr w') : EncSt w W w' gb vh vb H Bd :=
  ⟨h.low.trans (hb.mono h.low.size), Nat.le_trans h.gsz hb.size, h.wsz, fun g hg => ⟨(h.blk g hg).1, (hb.block g (Nat.lt_of_lt_of_le (h.blk g hg).1 h.gsz)).trans (h.blk g hg).2⟩, OwnB.keep h.oh hb, OwnB.keep h.ob hb, h.fh, h.fb, h.ap⟩
theorem EncSt.growB {w W wr w' : World} {gb : Option Nat} {vh vb vb' : Value} {H Bd Bd' : List UInt8} (h : EncSt w W wr gb vh vb H Bd) (hg : Grown wr w' vb vb') (ho : OwnB 0 w' vb' Bd') : EncSt w W w' gb vh vb' H Bd' := by
  have hs := hg.kep.size
  refine ⟨h.low.trans (hg.kep.below h.low.size fun k hk e => by have := (h.fb k e).1; omega), Nat.le_trans h.gsz hs, h.wsz, fun g hg' => ?_, OwnB.kepOwn h.oh hg.kep (fun k hk e => h.ap k hk e), ho, h.fh, fun k hk => ?_, fun k hk hk2 => ?_⟩
  · have h1 := (h.blk g hg').1
    have h2 := h.gsz
    exact ⟨h1, (hg.kep.block g (by omega) (fun e => (h.fb g e).2 hg')).trans (h.blk g hg').2⟩
  · have h2 := h.gsz
    have h3 := h.wsz
    rcases hg.2 k hk with e | e
    · exact h.fb k e
    · exact ⟨by omega, fun e2 => by have := (h.blk k e2).1; omega⟩
  · rcases hg.2 k hk2 with e | e
    · exact h.ap k hk e
    · have := own_lt h.oh k hk
      omega
theorem EncSt.growH {w W wr w' : World} {gb : Option Nat} {vh vb vh' : Value} {H Bd H' : List UInt8} (h : EncSt w W wr gb vh vb H Bd) (hg : Grown wr w' vh vh') (ho : OwnB 0 w' vh' H') : EncSt w W w' gb vh' vb H' Bd :=
  (h.swap.growB hg ho).swap
theorem EncSt.forget {w W wr : World} {gb : Option Nat} {vh vb : Value} {H Bd : List UInt8} (h : EncSt w W wr gb vh vb H Bd) : EncSt w w wr none vh vb H Bd :=
  ⟨h.low, h.low.size, Nat.le_refl _, (fun g hg => by cases hg), h.oh, h.ob, fun k hk => ⟨(h.fh k hk).1, by simp⟩, fun k hk => ⟨(h.fb k hk).1, by simp⟩, h.ap⟩
theorem EncSt.row {w wr : World} {vh vb x : Value} {H Bd X : List UInt8} (h : EncSt w w wr none vh vb H Bd) {w5 : World} (hb : Below wr.heap.size wr w5) (hx : OwnB wr.heap.size w5 x X) : EncSt w w5 w5 x.ownBlock vh vb H Bd :=
  ⟨h.low.trans (hb.mono h.low.size), Nat.le_refl _, Nat.le_trans h.low.size hb.size, fun g hg => ⟨(World.ownsRow.lt hx g hg).2, rfl⟩, OwnB.keep h.oh hb, OwnB.keep h.ob hb,
    fun k hk => ⟨(h.fh k hk).1, fun e => by have h1 := (World.ownsRow.lt hx k e).1; have h2 := own_lt h.oh k hk; omega⟩,
    fun k hk => ⟨(h.fb k hk).1, fun e => by have h1 := (World.ownsRow.lt hx k e).1; have h2 := own_lt h.ob k hk; omega⟩, h.ap⟩
theorem own_of_block {B : Nat} {w w' : World} {v : Value} {l : List UInt8} (h : OwnB B w v l) (hk : ∀ g, v.ownBlock = some g → w'.heap[g]? = w.heap[g]?) : OwnB B w' v l := by
  refine ⟨h.1, ?_⟩
  rcases h.2 with h0 | ⟨g, cap, cur, hv, hg, hh, rest⟩
  · exact .inl h0
  · exact .inr ⟨g, cap, cur, hv, hg, by rw [hk g (by rw [hv]; rfl)]; exact hh, rest⟩
/-- append(row, bytes...) of a row of the call's own, at a step of a region that draws. -/
theorem wp_append_low {B : Nat} {w : World} {o : Oper} {a : Act} {K : Act → World → Prop} {Q : Exit → Act → World → Prop} (s x : Operand)
    (ho : o.op = .call { callee := .builtin .append, args := #[s, x], argTypes := #[29, 29] }) (v : Value) (l : List UInt8) (hs : a.eval s = v) (hown : OwnB B w v l) (hB : B ≤ w.heap.size)
    (src : Value) (m : List UInt8) (hx : a.eval x = src) (hr : BRow w src m) (hm : m ≠ []) (hlen : l.length + m.length ≤ 140737488355328)
    (h : ∀ v' w', OwnB B w' v' (l ++ m) → Below B w w' → Kep (fun k => k < B) w w' → K (a.put o.dst v') w') : o.wp Try.prog a w K Q := by
  refine wp_append_grown s x ho v l hs (OwnB.zero hown) src m hx hr hm hlen fun v' w' h1 h2 => ?_
  have hv : ∀ k, v.ownBlock = some k → B ≤ k := fun k hk => (World.ownsRow.lt hown k hk).1
  have hk : Kep (fun k => k < B) w w' := h2.kep.mono fun k hk e => by have := hv k e; omega
  refine h v' w' (OwnB.from h1 fun k hk => ?_) (hk.below hB fun k h => h) hk
  rcases h2.2 k hk with e | e
  · exact hv k e
  · omega

end Go.Proofs.Ythgfaadlnffpcaa.TR
