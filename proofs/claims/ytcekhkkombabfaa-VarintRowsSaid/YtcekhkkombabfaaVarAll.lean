/-
  PutAll, GetAll, the code's and the reference's, SameInts: what the plain lists say. Condition: the bytes are fewer than 2^40, the row at most a million numbers.
-/
import Derived.Test.YtcekhkkombabfaaVarGet2
set_option linter.unusedVariables false
namespace Go.Proofs.Ytcekhkkombabfaa.VG
open Go.RowKit Go.Proofs.Ytcekhkkombabfaa.MM Go.Proofs.Ytcekhkkombabfaa.VM Go.Proofs.Ytcekhkkombabfaa.VP

/-! ### PutAll, All -/
/-- Whole numbers of 64 bits. -/
def Fits (zs : List Int) : Prop := ∀ k, k < zs.length → -9223372036854775808 ≤ zs.getD k 0 ∧ zs.getD k 0 ≤ 9223372036854775807
theorem all_room (zs : List Int) (k : Nat) (hn : zs.length ≤ 1000000) : (allL (zs.take k)).length ≤ 10000000 := by
  have := allL_length (zs.take k)
  have h2 : (zs.take k).length ≤ zs.length := List.length_take_le' _ _
  omega

set_option maxRecDepth 100000 in
set_option maxHeartbeats 2000000 in
theorem putall_any (v u : Value) (l : List UInt8) (zs : List Int) (w : World) (hr : BRow w v l) (hu : IRow w u zs) (hz : Fits zs) (hlen : l.length ≤ 1099511627776) (hn : zs.length ≤ 1000000) :
    Calls Try.prog 25 #[v, u] w (PutLeft w.heap.size (l ++ allL zs) w) := by
  obtain ⟨p, cap, rfl, hlc, hcm⟩ := hu.shape
  unfold maxLen at hcm
  have HR := Lib.hid hr
  have HU := Lib.hid hu
  have HZ := Lib.hid hz
  clear hr hu hz
  go_enter Try.func25, Try.ntmps25
  go_wp2_with fail
  go_loop [5, 12] (fun sz i => ∃ k : Nat, k ≤ zs.length ∧ i = .int .i64 k ∧ sz = .int .i64 ((allL (zs.take k)).length : Int)) (fun _ i => zs.length - (intOf i).toNat)
  case atStart => exact ⟨0, Nat.zero_le _, rfl, rfl⟩
  case round =>
    obtain ⟨k, hk, rfl, rfl⟩ := hrel
    have hroom := all_room zs k hn
    by_cases hlt : k < zs.length
    · obtain ⟨b, off, rfl, hbl, hcell⟩ := HU.out.at_ hlt
      have hf := HZ.out k hlt
      have hsn := congrArg List.length (allL_snoc zs k hlt)
      rw [List.length_append] at hsn
      obtain ⟨z, hzz⟩ : ∃ z, zs.getD k 0 = z := ⟨_, rfl⟩
      rw [hzz] at hcell hf hsn
      have k1 := fun W => zig_any z W hf.1 hf.2
      have k2 := fun W => size_any (zig z) W (zig_lt hf.1 hf.2)
      unfold intL at hsn
      have hbl2 := (bytesL_length (zig z)).2
      obtain ⟨q, hq⟩ : ∃ q, zig z = q := ⟨_, rfl⟩
      simp only [hq] at k1 k2 hsn hbl2
      obtain ⟨L, hL⟩ : ∃ L, (allL (zs.take k)).length = L := ⟨_, rfl⟩
      obtain ⟨M, hM⟩ : ∃ M, (bytesL q).length = M := ⟨_, rfl⟩
      simp only [hM] at k2 hbl2
      rw [hL, hM] at hsn
      rw [hL] at hroom ⊢
      have K1 := Lib.hid k1
      have K2 := Lib.hid k2
      have HS := Lib.hid hsn
      clear k1 k2 hsn hzz hf hq hL hM
      go_wp2_with fail
      refine (K1.out _).mono ?_
      rintro e w1 ⟨rfl, rfl⟩
      go_wp2_with fail
      refine (K2.out _).mono ?_
      rintro e w1 ⟨rfl, rfl⟩
      go_wp2_with fail
      go_round
      case rel => exact ⟨k + 1, by omega, by go_num, by rw [HS.out]; go_num⟩
      case measure => simp [intOf]; omega
    · obtain rfl : k = zs.length := by omega
      rw [List.take_length] at hroom ⊢
      have k1 := fun W (h : BRow W v l) => room_any v l ((allL zs).length : Int) _ W rfl h (by omega)
      obtain ⟨L, hL⟩ : ∃ L, (allL zs).length = L := ⟨_, rfl⟩
      simp only [hL] at k1
      rw [hL]
      have K1 := Lib.hid k1
      clear k1 hL
      go_wp2_with fail
      refine (K1.out _ HR.out).mono ?_
      rintro e w1 ⟨v1, rfl, hown1, hb1⟩
      have HO0 : Hid (OwnB w.heap.size w1 v1 (l ++ allL (zs.take 0))) := by
        have e : l ++ allL (zs.take 0) = l := by simp [allL]
        rw [e]
        exact Lib.hid hown1
      clear hown1
      go_wp2_with fail
      go_loopw [0, 27] (fun bv i wr => ∃ k : Nat, k ≤ zs.length ∧ i = .int .i64 k ∧ Hid (OwnB w.heap.size wr bv (l ++ allL (zs.take k))) ∧ Below w.heap.size w wr) (fun _ i _ => zs.length - (intOf i).toNat)
      case atStart => exact ⟨0, Nat.zero_le _, rfl, HO0, hb1⟩
      case round =>
        obtain ⟨k, hk, rfl, HO, hb⟩ := hrel
        clear HO0
        have hsz := hb.size
        by_cases hlt : k < zs.length
        · obtain ⟨b, off, rfl, hbl, hcell⟩ := (HU.out.below hb).at_ hlt
          have hf := HZ.out k hlt
          have hroom := all_room zs k hn
          have hsn := allL_snoc zs k hlt
          obtain ⟨z, hzz⟩ : ∃ z, zs.getD k 0 = z := ⟨_, rfl⟩
          rw [hzz] at hcell hf hsn
          have k1 := fun W => zig_any z W hf.1 hf.2
          have k2 := fun W x (h : OwnB w.heap.size W x (l ++ allL (zs.take k))) hB => app_any w.heap.size x _ (zig z) W (zig_lt hf.1 hf.2) h (by rw [List.length_append]; omega) hB
          unfold intL at hsn
          obtain ⟨q, hq⟩ : ∃ q, zig z = q := ⟨_, rfl⟩
          simp only [hq] at k1 k2 hsn
          have hl2 : l ++ allL (zs.take k) ++ bytesL q = l ++ allL (zs.take (k + 1)) := by rw [hsn, List.append_assoc]
          rw [hl2] at k2
          have K1 := Lib.hid k1
          have K2 := Lib.hid k2
          clear k1 k2 hsn hzz hf hq hl2 hroom
          go_wp2_with fail
          refine (K1.out _).mono ?_
          rintro e w2 ⟨rfl, rfl⟩
          go_wp2_with fail
          refine (K2.out _ _ HO.out hsz).mono ?_
          rintro e w2 ⟨v2, rfl, hown2, hb2⟩
          have HO2 := Lib.hid hown2
          clear hown2
          go_wp2_with fail
          go_roundw
          case rel => exact ⟨k + 1, by omega, by go_num, HO2, hb.trans hb2⟩
          case measure => simp [intOf]; omega
        · obtain rfl : k = zs.length := by omega
          rw [List.take_length] at HO
          go_wp2_with fail
          go_ret
          exact ⟨_, rfl, HO.out, hb⟩

set_option maxRecDepth 100000 in
set_option maxHeartbeats 2000000 in
theorem rall_any (u : Value) (zs : List Int) (w : World) (hu : IRow w u zs) (hz : Fits zs) (hn : zs.length ≤ 1000000) :
    Calls Try.prog 26 #[u] w (PutLeft w.heap.size (allL zs) w) := by
  obtain ⟨p, cap, rfl, hlc, hcm⟩ := hu.shape
  unfold maxLen at hcm
  have HU := Lib.hid hu
  have HZ := Lib.hid hz
  have HO0 : Hid (OwnB w.heap.size w (.slice none 0 0) (allL (zs.take 0))) := Lib.hid (World.ownsRow_nil _ _ _ _)
  clear hu hz
  go_enter Try.func26, Try.ntmps26
  go_wp2_with fail
  go_loopw [3, 4] (fun bv i wr => ∃ k : Nat, k ≤ zs.length ∧ i = .int .i64 k ∧ Hid (OwnB w.heap.size wr bv (allL (zs.take k))) ∧ Below w.heap.size w wr) (fun _ i _ => zs.length - (intOf i).toNat)
  case atStart => exact ⟨0, Nat.zero_le _, rfl, HO0, Below.refl _ _⟩
  case round =>
    obtain ⟨k, hk, rfl, HO, hb⟩ := hrel
    clear HO0
    have hsz := hb.size
    by_cases hlt : k < zs.length
    · obtain ⟨b, off, rfl, hbl, hcell⟩ := (HU.out.below hb).at_ hlt
      have hf := HZ.out k hlt
      have hroom := all_room zs k hn
      have hsn := allL_snoc zs k hlt
      obtain ⟨z, hzz⟩ : ∃ z, zs.getD k 0 = z := ⟨_, rfl⟩
      rw [hzz] at hcell hf hsn
      have k1 := fun W => rint_any z W hf.1 hf.2
      have hbl2 : (intL z).length ≤ 10 := (bytesL_length (zig z)).2
      obtain ⟨q, hq⟩ : ∃ q, intL z = q := ⟨_, rfl⟩
      simp only [hq] at k1 hsn hbl2
      obtain ⟨T, hT⟩ : ∃ T, allL (zs.take k) = T := ⟨_, rfl⟩
      have hlen2 : T.length + q.length ≤ 140737488355328 := by rw [← hT]; omega
      rw [hT] at hsn HO
      have K1 := Lib.hid k1
      have HS := Lib.hid hsn
      clear k1 hsn hzz hf hq hroom hT
      go_wp2_with fail
      refine (K1.out _).mono ?_
      rintro e w2 ⟨v2, rfl, hown2, hb2⟩
      have HO1 := Lib.hid (HO.out.keep hb2)
      have HB2 := Lib.hid hown2.brow
      have hb' := grow hb hb2
      have hsz2 := hb'.size
      clear hown2
      go_wp2_with (at_builtin; refine wpList_append_bytes rfl _ _ rfl w.heap.size _ _ rfl HO1.out _ _ rfl HB2.out hlen2 hsz2 ?_)
      intro v3 w3 hown3 hb3
      have HO3 : Hid (OwnB w.heap.size w3 v3 (allL (zs.take (k + 1)))) := by rw [HS.out]; exact Lib.hid hown3
      clear hown3
      go_wp2_with fail
      go_roundw
      case rel => exact ⟨k + 1, by omega, by go_num, HO3, hb'.trans hb3⟩
      case measure => simp [intOf]; omega
    · obtain rfl : k = zs.length := by omega
      rw [List.take_length] at HO
      go_wp2_with fail
      go_ret
      exact ⟨_, rfl, HO.out, hb⟩
end Go.Proofs.Ytcekhkkombabfaa.VG
