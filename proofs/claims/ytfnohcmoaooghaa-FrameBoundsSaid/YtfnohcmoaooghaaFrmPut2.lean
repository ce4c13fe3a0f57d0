/-
  frame's Put and Join and the reference's Bytes, Put and Join: what the plain lists say. Condition: the rows stay below 2^46 bytes.
-/
import Derived.Test.YtfnohcmoaooghaaFrmPut
set_option linter.unusedVariables false
namespace Go.Proofs.Ytfnohcmoaooghaa.FP
open Go.RowKit Go.Proofs.Ytfnohcmoaooghaa.MM Go.Proofs.Ytfnohcmoaooghaa.VM Go.Proofs.Ytfnohcmoaooghaa.CM Go.Proofs.Ytfnohcmoaooghaa.FM Go.Proofs.Ytfnohcmoaooghaa.VP Go.Proofs.Ytfnohcmoaooghaa.CR

theorem own_empty (w : World) (B : Nat) (hB : B ≤ w.heap.size) : OwnB B (w.alloc (.cells #[] 5)) (.slice (some ⟨w.heap.size, 0, none⟩) 0 0) [] := own_lit w [] 5 B hB (by unfold maxLen; simp)
theorem cell_lt {w : World} {b o : Nat} {v : Value} (h : w.cell? ⟨b, o, none⟩ = some v) : b < w.heap.size := by
  by_cases hb : b < w.heap.size
  · exact hb
  · simp [World.cell?, Array.getElem?_eq_none (Nat.le_of_not_lt hb)] at h

/-! ### the reference's Bytes -/
set_option maxRecDepth 100000 in
set_option maxHeartbeats 1000000 in
theorem rbytesf_any (u : Value) (p : List UInt8) (w : World) (hp : BRow w u p) (hpl : p.length ≤ 35184372088832) : Calls Try.prog 24 #[u] w (PutLeft w.heap.size (frameL p) w) := by
  obtain ⟨q, cap, rfl, hc, hm⟩ := hp.shape
  have k1 := fun W => rbytes_any p.length W (by omega)
  have k2 := fun W v1 (h1 : BRow W v1 (bytesL p.length ++ p)) => rof_any _ _ W h1
  have hbl := (bytesL_length p.length).2
  have hs := sumL_lt (bytesL p.length ++ p)
  have hsl := sumB_length (sumL (bytesL p.length ++ p))
  have hfe : frameL p = (bytesL p.length ++ sumB (sumL (bytesL p.length ++ p))) ++ p := by unfold frameL; simp
  rw [hfe]
  clear hfe
  generalize hS : sumL (bytesL p.length ++ p) = S at *
  generalize bytesL p.length = H at *
  have hl1 : ([] : List UInt8).length + H.length ≤ 140737488355328 := by rw [List.length_nil]; omega
  have hl2 : H.length + p.length ≤ 140737488355328 := by omega
  have hl3 : H.length + (sumB S).length ≤ 140737488355328 := by omega
  have hl4 : (H ++ sumB S).length + p.length ≤ 140737488355328 := by rw [List.length_append]; omega
  have hlit := fun W => lit_sum W S hs
  generalize sumB S = Z at *
  obtain ⟨X1, hX1⟩ : ∃ X, H ++ p = X := ⟨_, rfl⟩
  obtain ⟨X2, hX2⟩ : ∃ X, H ++ Z = X := ⟨_, rfl⟩
  obtain ⟨X3, hX3⟩ : ∃ X, X2 ++ p = X := ⟨_, rfl⟩
  rw [hX2] at hl4
  rw [hX2, hX3]
  rw [hX1] at k2
  have HX1 := Lib.hid hX1
  have HX2 := Lib.hid hX2
  have HX3 := Lib.hid hX3
  have K1 := Lib.hid k1
  have K2 := Lib.hid k2
  have HP := Lib.hid hp
  have HL := Lib.hid hlit
  clear k1 k2 hp hlit hsl hS hX1 hX2 hX3 hbl
  go_enter Try.func24, Try.ntmps24
  go_wp2_with fail
  refine (K1.out _).mono ?_
  rintro e w1 ⟨v1, rfl, hown1, hb1⟩
  have hsz1 := hb1.size
  have hbe : Below w1.heap.size w1 (w1.alloc (.cells #[] 5)) := (Below.refl _ _).alloc (Nat.le_refl _) _
  have HE := Lib.hid (own_empty w1 w1.heap.size (Nat.le_refl _))
  have HO1 := Lib.hid hown1
  have HO1b := Lib.hid (hown1.keep hbe)
  clear hown1
  go_wp2_with (at_builtin; refine wpList_append_bytes rfl _ _ rfl w1.heap.size _ [] rfl HE.out _ H rfl HO1b.out.brow hl1 (by simp) ?_)
  intro v2 w2 hown2 hb2
  have hb12 := hbe.trans hb2
  have hsz2 := hb12.size
  have HO2 : Hid (OwnB w1.heap.size w2 v2 H) := Lib.hid hown2
  have HP2 := Lib.hid (HP.out.below (grow hb1 hb12))
  clear hown2 hbe
  go_wp2_with (at_builtin; refine wpList_append_bytes rfl _ _ rfl w1.heap.size _ H rfl HO2.out _ p rfl HP2.out hl2 (by omega) ?_)
  intro v3 w3 hown3 hb3
  have hb13 := hb12.trans hb3
  have hsz3 := hb13.size
  rw [HX1.out] at hown3
  have HO3 := Lib.hid hown3.brow
  clear hown3
  go_wp2_with fail
  refine (K2.out _ _ HO3.out).mono ?_
  rintro e w4 ⟨rfl, rfl⟩
  have hb4 := grow hb1 hb13
  have hlo := OwnB.keep (HO1.out.keep hb13) ((Below.refl w3.heap.size w3).alloc (Nat.le_refl _) (.cells #[.int .u8 ((S : Int) / 16777216), .int .u8 ((S : Int) / 65536 % 256), .int .u8 ((S : Int) / 256 % 256), .int .u8 ((S : Int) % 256)] 5))
  have hb7 := hb4.alloc hb4.size (.cells #[.int .u8 ((S : Int) / 16777216), .int .u8 ((S : Int) / 65536 % 256), .int .u8 ((S : Int) / 256 % 256), .int .u8 ((S : Int) % 256)] 5)
  have hsz5 := hb7.size
  have HO4 := Lib.hid hlo
  clear hlo
  go_wp2_with (at_builtin; refine wpList_append_bytes rfl _ _ rfl w.heap.size _ H rfl HO4.out _ Z rfl (HL.out w3) hl3 (by omega) ?_)
  intro v4 w5 hown4 hb8
  have hb9 := hb7.trans hb8
  have hsz4 := hb9.size
  rw [HX2.out] at hown4
  have HO5 := Lib.hid hown4
  have HP4 := Lib.hid (HP.out.below hb9)
  clear hown4
  go_wp2_with (at_builtin; refine wpList_append_bytes rfl _ _ rfl w.heap.size _ X2 rfl HO5.out _ p rfl HP4.out hl4 (by omega) ?_)
  intro v5 w6 hown5 hb10
  rw [HX3.out] at hown5
  have HO6 := Lib.hid hown5
  clear hown5
  go_wp2_with fail
  go_ret
  exact ⟨_, rfl, HO6.out, hb9.trans hb10⟩

/-! ### putAll -/
/-- Bytes of the call's own, and OK. -/
def PutsLeft (B : Nat) (l : List UInt8) (w : World) (e : Ending) (w' : World) : Prop := ∃ v', e = .returned (.tuple #[v', .int .i64 0]) ∧ OwnB B w' v' l ∧ Below B w w'

set_option maxRecDepth 100000 in
set_option maxHeartbeats 1000000 in
theorem all_any (v vs : Value) (l : List UInt8) (ls : List (List UInt8)) (w : World) (hr : BRow w v l) (hs : PRow w vs ls) (hall : ∀ p ∈ ls, p.length ≤ 16777216) (hlen : l.length + (framesL ls).length ≤ 35184372088832) :
    Calls Try.prog 23 #[v, vs] w (PutsLeft w.heap.size (l ++ framesL ls) w) := by
  obtain ⟨p, cap, rfl, hlc, hcm⟩ := hr.shape
  obtain ⟨q, capq, rfl, hqc, hqm⟩ := hs.shape
  unfold maxLen at hcm hqm
  have HR := Lib.hid hr
  have HS := Lib.hid hs
  have HA := Lib.hid hall
  obtain ⟨X, hX⟩ : ∃ X, l ++ framesL ls = X := ⟨_, rfl⟩
  rw [hX]
  have HX := Lib.hid hX
  clear hr hs hall hX
  go_enter Try.func23, Try.ntmps23
  go_wp2_with fail
  go_loop [6, 16] (fun s i => ∃ k z : Nat, k ≤ ls.length ∧ i = .int .i64 k ∧ s = .int .i64 z ∧ z = l.length + (framesL (ls.take k)).length) (fun _ i => ls.length - (intOf i).toNat)
  case atStart => exact ⟨0, l.length, by omega, rfl, rfl, by simp [framesL]⟩
  case round =>
    obtain ⟨k, z, hk, rfl, rfl, hz⟩ := hrel
    have htk := framesL_take ls k
    by_cases hlt : k < ls.length
    · obtain ⟨b, off, x, rfl, hcell, hx⟩ := HS.out.at_ hlt
      have hpl := HA.out ls[k] (List.getElem_mem hlt)
      have hsn := framesL_snoc ls hlt
      have htk1 := framesL_take ls (k + 1)
      rw [hsn, List.length_append] at htk1
      have hsz := sizeL_frame hpl
      have hK := fun W => size_fr (ls[k].length : Int) W (by omega) (by omega)
      rw [hsz] at hK
      have hzf : z + (frameL ls[k]).length ≤ 35184372088832 := by omega
      have hz2 : z + (frameL ls[k]).length = l.length + (framesL (ls.take (k + 1))).length := by rw [hsn, List.length_append]; omega
      generalize ls[k] = y at *
      obtain ⟨p2, cap2, rfl, hlc2, hcm2⟩ := hx.shape
      have hf14 := frameL_bounds y
      generalize (frameL y).length = F at *
      unfold maxLen at hcm2
      have HK := Lib.hid hK
      have HZ := Lib.hid hz2
      clear hK hx hsn hz2 hz htk htk1 hsz
      go_wp2_with fail
      refine (HK.out _).mono ?_
      rintro e w1 ⟨rfl, rfl⟩
      go_wp2_with fail
      go_round
      case rel => exact ⟨k + 1, z + F, by omega, by go_num, by go_num, HZ.out⟩
      case measure => simp [intOf]; omega
    · obtain rfl : k = ls.length := by omega
      rw [List.take_length] at hz
      clear htk hlt hk
      go_wp2_with (at_make; refine wpList_make_bytes rfl _ rfl w.heap.size _ z rfl rfl (by omega) (Nat.le_refl _) ?_)
      intro v1 w1 hown1 hb1
      have hsz1 := hb1.size
      have HO1 := Lib.hid hown1
      have HR1 := Lib.hid (HR.out.below hb1)
      have hl0 : ([] : List UInt8).length + l.length ≤ 140737488355328 := by rw [List.length_nil]; omega
      clear hown1
      go_wp2_with (at_builtin; refine wpList_append_bytes rfl _ _ rfl w.heap.size _ [] rfl HO1.out _ l rfl HR1.out hl0 hsz1 ?_)
      intro v2 w2 hown2 hb2
      have hb3 := hb1.trans hb2
      have HO2 : Hid (OwnB w.heap.size w2 v2 (l ++ framesL (ls.take 0))) := Lib.hid (by rw [List.take_zero, framesL_nil, List.append_nil]; exact hown2)
      clear hown2 hb1 hb2
      go_wp2_with fail
      go_loopw [9, 35] (fun u i wr => ∃ k : Nat, k ≤ ls.length ∧ i = .int .i64 k ∧ Hid (OwnB w.heap.size wr u (l ++ framesL (ls.take k))) ∧ Hid (Below w.heap.size w wr)) (fun _ i _ => ls.length - (intOf i).toNat)
      case atStart => exact ⟨0, by omega, rfl, HO2, Lib.hid hb3⟩
      case round =>
        obtain ⟨k, hk, rfl, HO, HB⟩ := hrel
        clear HO2 HO1 HR1
        have htk := framesL_take ls k
        by_cases hlt : k < ls.length
        · obtain ⟨b, off, x, rfl, hcell, hx⟩ := HS.out.at_ hlt
          have hcell2 := (HB.out.cell (p := ⟨b, off + k, none⟩) (cell_lt hcell)).trans hcell
          have hpl := HA.out ls[k] (List.getElem_mem hlt)
          have hsn := framesL_snoc ls hlt
          have htk1 := framesL_take ls (k + 1)
          rw [hsn, List.length_append] at htk1
          have hxi : BIn w.heap.size wr x ls[k] := BIn.below hx HB.out
          have hK := appf_any w.heap.size _ x (l ++ framesL (ls.take k)) ls[k] wr HO.out hxi hpl (by rw [List.length_append]; omega) HB.out.size
          rw [List.append_assoc, ← hsn] at hK
          obtain ⟨p2, cap2, rfl, hlc2, hcm2⟩ := hx.shape
          have HK := Lib.hid hK
          clear hK hx hsn htk1 htk hxi hcell
          go_wp2_with fail
          refine HK.out.mono ?_
          rintro e w4 ⟨v4, rfl, hown4, hb4⟩
          have HO4 := Lib.hid hown4
          have HB4 := Lib.hid (HB.out.trans hb4)
          clear hown4 hb4
          go_wp2_with fail
          go_roundw
          case rel => exact ⟨k + 1, by omega, by go_num, HO4, HB4⟩
          case measure => simp [intOf]; omega
        · obtain rfl : k = ls.length := by omega
          have hown := HO.out
          rw [List.take_length, HX.out] at hown
          have HF := Lib.hid hown
          clear hown HO htk
          go_wp2_with fail
          go_ret2
          exact ⟨_, rfl, HF.out, HB.out⟩

theorem frames_most (ls : List (List UInt8)) (h : ∀ p ∈ ls, p.length ≤ 16777216) : (framesL ls).length ≤ 16777230 * ls.length := by
  induction ls with
  | nil => simp [framesL]
  | cons p ls ih =>
    have h1 := ih (fun q hq => h q (by simp [hq]))
    have h2 := (frameL_bounds p).2
    have h3 := h p (by simp)
    rw [framesL_cons, List.length_append, List.length_cons]
    omega
set_option maxRecDepth 100000 in
set_option maxHeartbeats 1000000 in
theorem all_long (v vs : Value) (l : List UInt8) (ls : List (List UInt8)) (w : World) (hr : BRow w v l) (hs : PRow w vs ls) (hlong : ∃ p ∈ ls, 16777216 < p.length) (hlen : l.length ≤ 35184372088832) (hlen2 : ls.length ≤ 1000) :
    Calls Try.prog 23 #[v, vs] w fun e w' => e = .returned (.tuple #[.slice none 0 0, .int .i64 2]) ∧ w = w' := by
  obtain ⟨p, cap, rfl, hlc, hcm⟩ := hr.shape
  obtain ⟨q, capq, rfl, hqc, hqm⟩ := hs.shape
  unfold maxLen at hcm hqm
  have HS := Lib.hid hs
  have HA := Lib.hid hlong
  clear hr hs hlong
  go_enter Try.func23, Try.ntmps23
  go_wp2_with fail
  go_loop [6, 16] (fun s i => ∃ k z : Nat, k ≤ ls.length ∧ i = .int .i64 k ∧ s = .int .i64 z ∧ z ≤ l.length + 16777230 * k ∧ Hid (∀ p ∈ ls.take k, p.length ≤ 16777216)) (fun _ i => ls.length - (intOf i).toNat)
  case atStart => exact ⟨0, l.length, by omega, rfl, rfl, by omega, Lib.hid (by simp)⟩
  case round =>
    obtain ⟨k, z, hk, rfl, rfl, hz, HT⟩ := hrel
    by_cases hlt : k < ls.length
    · obtain ⟨b, off, x, rfl, hcell, hx⟩ := HS.out.at_ hlt
      have hnext : ls[k].length ≤ 16777216 → ∀ p ∈ ls.take (k + 1), p.length ≤ 16777216 := fun h p hp => by
        rw [List.take_succ_eq_append_getElem hlt] at hp
        rcases List.mem_append.1 hp with hp | hp
        · exact HT.out p hp
        · simp at hp; subst hp; exact h
      have hK := fun h : ls[k].length ≤ 16777216 => (fun W => sizeL_frame h ▸ size_fr (ls[k].length : Int) W (by omega) (by omega))
      have hf14 := frameL_bounds ls[k]
      generalize ls[k] = y at *
      obtain ⟨p2, cap2, rfl, hlc2, hcm2⟩ := hx.shape
      unfold maxLen at hcm2
      have HN := Lib.hid hnext
      have HK := Lib.hid hK
      generalize (frameL y).length = F at *
      clear hnext hx hK
      by_cases hbig : 16777216 < y.length
      · clear HK HN
        go_wp2_with fail
        go_ret2
        exact ⟨rfl, rfl⟩
      · go_wp2_with fail
        refine (HK.out (by omega) _).mono ?_
        rintro e w1 ⟨rfl, rfl⟩
        go_wp2_with fail
        go_round
        case rel => exact ⟨k + 1, z + F, by omega, by go_num, by go_num, by omega, Lib.hid (HN.out (by omega))⟩
        case measure => simp [intOf]; omega
    · obtain rfl : k = ls.length := by omega
      exfalso
      have h := HT.out
      rw [List.take_length] at h
      obtain ⟨p, hp, hl⟩ := HA.out
      have := h p hp
      omega

/-! ### Put, Join -/
set_option maxRecDepth 100000 in
set_option maxHeartbeats 1000000 in
theorem put_fr (v u : Value) (l p : List UInt8) (w : World) (hr : BRow w v l) (hp : BRow w u p) (hpl : p.length ≤ 16777216) (hlen : l.length + (frameL p).length ≤ 35184372088832) :
    Calls Try.prog 10 #[v, u] w (PutsLeft w.heap.size (l ++ frameL p) w) := by
  have hb0 : Below w.heap.size w (w.alloc (.cells #[u] 22)) := (Below.refl _ _).alloc (Nat.le_refl _) _
  have h := all_any v _ l [p] _ (hr.below hb0) (prow_one hp) (by simpa using hpl) (by rw [framesL_cons, framesL_nil, List.append_nil]; exact hlen)
  rw [framesL_cons, framesL_nil, List.append_nil] at h
  obtain ⟨X, hX⟩ : ∃ X, l ++ frameL p = X := ⟨_, rfl⟩
  rw [hX] at h ⊢
  obtain ⟨q, cap, rfl, hc, hm⟩ := hp.shape
  have HH := Lib.hid h
  clear h hX hr hp
  go_enter Try.func10, Try.ntmps10
  go_wp2_with fail
  refine HH.out.mono ?_
  rintro e w1 ⟨v1, rfl, hown, hb⟩
  have HO := Lib.hid (hown.weaken (B' := w.heap.size) (by simp))
  clear hown
  go_wp2_with fail
  go_ret2
  exact ⟨_, rfl, HO.out, grow hb0 hb⟩
set_option maxRecDepth 100000 in
set_option maxHeartbeats 1000000 in
theorem put_long (v u : Value) (l p : List UInt8) (w : World) (hr : BRow w v l) (hp : BRow w u p) (hpl : 16777216 < p.length) (hlen : l.length ≤ 35184372088832) :
    Calls Try.prog 10 #[v, u] w fun e w' => e = .returned (.tuple #[.slice none 0 0, .int .i64 2]) ∧ Below w.heap.size w w' := by
  have hb0 : Below w.heap.size w (w.alloc (.cells #[u] 22)) := (Below.refl _ _).alloc (Nat.le_refl _) _
  have h := all_long v _ l [p] _ (hr.below hb0) (prow_one hp) ⟨p, by simp, hpl⟩ hlen (by simp)
  obtain ⟨q, cap, rfl, hc, hm⟩ := hp.shape
  have HH := Lib.hid h
  clear h hr hp
  go_enter Try.func10, Try.ntmps10
  go_wp2_with fail
  refine HH.out.mono ?_
  rintro e w1 ⟨rfl, rfl⟩
  go_wp2_with fail
  go_ret2
  exact ⟨rfl, hb0⟩
set_option maxRecDepth 100000 in
theorem join_fr (v : Value) (ls : List (List UInt8)) (w : World) (hs : PRow w v ls) (hall : ∀ p ∈ ls, p.length ≤ 16777216) (hlen : (framesL ls).length ≤ 35184372088832) :
    Calls Try.prog 20 #[v] w (PutsLeft w.heap.size (framesL ls) w) := by
  have h := all_any (.slice none 0 0) v [] ls w (BRow.nil_ w) hs hall (by rw [List.length_nil]; omega)
  rw [List.nil_append] at h
  generalize framesL ls = X at *
  have HH := Lib.hid h
  clear h hs
  go_enter Try.func20, Try.ntmps20
  go_wp2_with fail
  refine HH.out.mono ?_
  rintro e w1 ⟨v1, rfl, hown, hb⟩
  have HO := Lib.hid hown
  clear hown
  go_wp2_with fail
  go_ret2
  exact ⟨_, rfl, HO.out, hb⟩
set_option maxRecDepth 100000 in
theorem join_long (v : Value) (ls : List (List UInt8)) (w : World) (hs : PRow w v ls) (hlong : ∃ p ∈ ls, 16777216 < p.length) (hlen2 : ls.length ≤ 1000) :
    Calls Try.prog 20 #[v] w fun e w' => e = .returned (.tuple #[.slice none 0 0, .int .i64 2]) ∧ w = w' := by
  have h := all_long (.slice none 0 0) v [] ls w (BRow.nil_ w) hs hlong (by simp) hlen2
  have HH := Lib.hid h
  clear h hs hlong
  go_enter Try.func20, Try.ntmps20
  go_wp2_with fail
  refine HH.out.mono ?_
  rintro e w1 ⟨rfl, rfl⟩
  go_wp2_with fail
  go_ret2
  exact ⟨rfl, rfl⟩

/-! ### the reference's Put, Join -/
set_option maxRecDepth 100000 in
set_option maxHeartbeats 1000000 in
theorem rput_fr (v u : Value) (l p : List UInt8) (w : World) (hr : BRow w v l) (hp : BRow w u p) (hpl : p.length ≤ 16777216) (hlen : l.length + (frameL p).length ≤ 35184372088832) :
    Calls Try.prog 11 #[v, u] w (PutsLeft w.heap.size (l ++ frameL p) w) := by
  have hf := frameL_bounds p
  have k := fun W (h : BRow W u p) => rbytesf_any u p W h (by omega)
  obtain ⟨q, cap, rfl, hc, hm⟩ := hp.shape
  generalize frameL p = F at *
  obtain ⟨X, hX⟩ : ∃ X, l ++ F = X := ⟨_, rfl⟩
  rw [hX]
  have HX := Lib.hid hX
  have HR := Lib.hid hr
  have HP := Lib.hid hp
  have HK := Lib.hid k
  have HE := Lib.hid (own_empty w w.heap.size (Nat.le_refl _))
  have hbe : Below w.heap.size w (w.alloc (.cells #[] 5)) := (Below.refl _ _).alloc (Nat.le_refl _) _
  have hl0 : ([] : List UInt8).length + l.length ≤ 140737488355328 := by rw [List.length_nil]; omega
  have hl1 : l.length + F.length ≤ 140737488355328 := by omega
  clear k hX hr hp
  go_enter Try.func11, Try.ntmps11
  go_wp2_with (at_builtin; refine wpList_append_bytes rfl _ _ rfl w.heap.size _ [] rfl HE.out _ l rfl (HR.out.below hbe) hl0 (by simp) ?_)
  intro v1 w1 hown1 hb1
  have hb2 := hbe.trans hb1
  have hsz2 := hb2.size
  have HO1 : Hid (OwnB w.heap.size w1 v1 l) := Lib.hid hown1
  have HP1 := Lib.hid (HP.out.below hb2)
  clear hown1
  go_wp2_with fail
  refine (HK.out _ HP1.out).mono ?_
  rintro e w3 ⟨v3, rfl, hown3, hb3⟩
  have HO2 := Lib.hid (HO1.out.keep hb3)
  have HO3 := Lib.hid hown3.brow
  have hb4 := grow hb2 hb3
  have hsz4 := hb4.size
  clear hown3
  go_wp2_with (at_builtin; refine wpList_append_bytes rfl _ _ rfl w.heap.size _ l rfl HO2.out _ F rfl HO3.out hl1 (by omega) ?_)
  intro v4 w4 hown4 hb5
  rw [HX.out] at hown4
  have HO4 := Lib.hid hown4
  clear hown4
  go_wp2_with fail
  go_ret2
  exact ⟨_, rfl, HO4.out, hb4.trans hb5⟩
set_option maxRecDepth 100000 in
set_option maxHeartbeats 1000000 in
theorem rjoin_fr (vs : Value) (ls : List (List UInt8)) (w : World) (hs : PRow w vs ls) (hall : ∀ p ∈ ls, p.length ≤ 16777216) (hlen : (framesL ls).length ≤ 35184372088832) :
    Calls Try.prog 21 #[vs] w (PutsLeft w.heap.size (framesL ls) w) := by
  obtain ⟨q, capq, rfl, hqc, hqm⟩ := hs.shape
  unfold maxLen at hqm
  have HS := Lib.hid hs
  have HA := Lib.hid hall
  obtain ⟨X, hX⟩ : ∃ X, framesL ls = X := ⟨_, rfl⟩
  rw [hX]
  rw [hX] at hlen
  have HX := Lib.hid hX
  have HO0 : Hid (OwnB w.heap.size w (.slice none 0 0) (framesL (ls.take 0))) := Lib.hid (own_nil _ _)
  clear hs hall hX
  go_enter Try.func21, Try.ntmps21
  go_wp2_with fail
  go_loopw [4, 5] (fun u i wr => ∃ k : Nat, k ≤ ls.length ∧ i = .int .i64 k ∧ Hid (OwnB w.heap.size wr u (framesL (ls.take k))) ∧ Hid (Below w.heap.size w wr)) (fun _ i _ => ls.length - (intOf i).toNat)
  case atStart => exact ⟨0, by omega, rfl, HO0, Lib.hid (Below.refl _ _)⟩
  case round =>
    obtain ⟨k, hk, rfl, HO, HB⟩ := hrel
    clear HO0
    have htk := framesL_take ls k
    rw [HX.out] at htk
    by_cases hlt : k < ls.length
    · obtain ⟨b, off, x, rfl, hcell, hx⟩ := HS.out.at_ hlt
      have hcell2 := (HB.out.cell (p := ⟨b, off + k, none⟩) (cell_lt hcell)).trans hcell
      have hpl := HA.out ls[k] (List.getElem_mem hlt)
      have hsn := framesL_snoc ls hlt
      have htk1 := framesL_take ls (k + 1)
      rw [HX.out, hsn, List.length_append] at htk1
      have hK := rbytesf_any x ls[k] wr (BRow.below hx HB.out) (by omega)
      have hfb := frameL_bounds ls[k]
      generalize ls[k] = y at *
      obtain ⟨p2, cap2, rfl, hlc2, hcm2⟩ := hx.shape
      unfold maxLen at hcm2
      have HK := Lib.hid hK
      have HN := Lib.hid hsn
      generalize frameL y = F at *
      generalize framesL (ls.take k) = X1 at *
      have hl1 : X1.length + F.length ≤ 140737488355328 := by omega
      clear hK hx hsn htk1 htk hcell
      go_wp2_with fail
      refine HK.out.mono ?_
      rintro e w4 ⟨v4, rfl, hown4, hb4⟩
      have HO3 := Lib.hid (HO.out.keep hb4)
      have HO4 := Lib.hid hown4.brow
      have hb5 := grow HB.out hb4
      have hsz5 := hb5.size
      clear hown4 hb4 HO
      go_wp2_with (at_builtin; refine wpList_append_bytes rfl _ _ rfl w.heap.size _ X1 rfl HO3.out _ F rfl HO4.out hl1 hsz5 ?_)
      intro v6 w6 hown6 hb6
      rw [← HN.out] at hown6
      have HO6 := Lib.hid hown6
      have HB6 := Lib.hid (hb5.trans hb6)
      clear hown6 hb6
      go_wp2_with fail
      go_roundw
      case rel => exact ⟨k + 1, by omega, by go_num, HO6, HB6⟩
      case measure => simp [intOf]; omega
    · obtain rfl : k = ls.length := by omega
      have hown := HO.out
      rw [List.take_length, HX.out] at hown
      have HF := Lib.hid hown
      clear hown HO htk
      go_wp2_with fail
      go_ret2
      exact ⟨_, rfl, HF.out, HB.out⟩
end Go.Proofs.Ytfnohcmoaooghaa.FP
