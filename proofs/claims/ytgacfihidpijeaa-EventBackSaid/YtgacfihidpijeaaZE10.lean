/-
  The code's wordOf and the reference's cut: a row's word. Condition: rows of at most a million runes. The code's with and Words: a text's words. Condition: texts of at most a million bytes. Rows of tokens; the code's Tokens. Condition: texts of at most a million bytes. The fields of an event with their bases: the iterator that Terms ranges over. Condition: at most 16 fields of texts of at most 4096 bytes.
-/
import Derived.Test.YtgacfihidpijeaaZE4
import Derived.Test.YtgacfihidpijeaaZE5
import Derived.Test.YtgacfihidpijeaaZE7
import Derived.Test.YtgacfihidpijeaaZE8
import Derived.Test.YtgacfihidpijeaaZE9
import Derived.Deep.MidRow
import Derived.RangeFuncNested
import Derived.RangeFuncBound
import Derived.RangeFuncCalls
import Derived.RangeFuncLeaves
import Derived.Shelf.Abstract
import Derived.Shelf.RegionOpen
import Derived.OwnWalkIn
import Derived.TacticsInMore
import Derived.LoopNIn
import Derived.LoopIn
import Derived.Test.YtgacfihidpijeaaZE2
set_option linter.unusedVariables false
namespace Go.Proofs.Ytgacfihidpijeaa.TK
open Go.RowKit Go.Proofs.Ytgacfihidpijeaa.MM
open Go.Proofs.Ytgacfihidpijeaa.UM (lowerZ wordZ encL runesL)

theorem irow_ints {w : World} {v : Value} {zs : List Int} (h : IRow w v zs) : UM.IntRow w v zs := by
  obtain ⟨p, cap, hv, _, _, _, h⟩ := h
  rw [List.length_map] at hv
  refine ⟨p, cap, hv, ?_⟩
  rcases h with h | ⟨b, off, hp, hlt, hc⟩
  · exact .inl (List.map_eq_nil_iff.1 h)
  · exact .inr ⟨b, off, hp, hlt, fun i hi => hc i _ (by simp [List.getD, hi])⟩
theorem encL_take (l : List Int) (n : Nat) (h : n ≤ 32) : encL ((l.take 32 |>.map lowerZ).take n) = lowL (l.take n) := by
  unfold lowL
  rw [← List.map_take, List.take_take, Nat.min_eq_left h]
/-- What the search from the end knows. -/
def Big (row : List Int) (n : Nat) : Prop := ∀ m, n < m → m ≤ row.length → m ≤ 32 → 32 < (lowL (row.take m)).length
theorem big_end {row : List Int} {n : Nat} (hn : n ≤ row.length) (h32 : n ≤ 32) (hb : Big row n) (hs : (lowL (row.take n)).length ≤ 32) : cutW row = lowL (row.take n) := by
  refine cutW_take row n hn hs ?_
  by_cases h1 : n = row.length
  · exact .inl h1
  · right
    by_cases h2 : n < 32
    · exact hb (n + 1) (by omega) (by omega) (by omega)
    · have := (lowL_len (row.take (n + 1))).1
      rw [List.length_take] at this
      omega
theorem big_start (row : List Int) : Big row (min row.length 32) := fun m h1 h2 h3 => by omega
theorem big_next {row : List Int} {n : Nat} (hb : Big row (n + 1)) (h : 32 < (lowL (row.take (n + 1))).length) : Big row n := fun m h1 h2 h3 => by
  by_cases e : m = n + 1
  · subst e; exact h
  · exact hb m (by omega) h2 h3

def lenV : Value → Nat
  | .slice _ n _ => n
  | _ => 0
theorem text_size (l : List UInt8) : (⟨l.toArray⟩ : ByteArray).size = l.length := by rw [Lib.size_eq]
/-- A call's text; memory that was there is as it was. -/
def StrLeft (l : List UInt8) (w : World) (e : Ending) (w' : World) : Prop := e = .returned (.string ⟨l.toArray⟩) ∧ Below w.heap.size w w'

set_option maxRecDepth 100000 in
set_option maxHeartbeats 1000000 in
theorem wordOf_any (v : Value) (row : List Int) (w : World) (hr : IRow w v row) (hl : row.length ≤ 1000000) : Calls Try.prog 115 #[v] w (StrLeft (cutW row) w) := by
  obtain ⟨i0, hi, hz0, hz1, hz2⟩ := info_parts infoInt
  obtain ⟨p, cap, rfl, hlc, hcm⟩ := hr.shape
  unfold maxLen at hcm
  obtain ⟨N, hN⟩ : ∃ N, min row.length 32 = N := ⟨_, rfl⟩
  obtain ⟨L, hL⟩ : ∃ L, row.map lowerZ = L := ⟨_, rfl⟩
  have hLl : L.length = row.length := by rw [← hL, List.length_map]
  have HLl := Lib.hid hLl
  have HLL := Lib.hid hL
  clear hL hLl
  have hmin : min (row.length : Int) 32 = (N : Int) := by omega
  have i1 : (N : Int) ≤ (cap : Int) := by omega
  have HR := Lib.hid hr
  have HN := Lib.hid hN
  clear hr hN
  go_enter Try.func115, Try.ntmps115
  go_wp2_with (at_make; refine wpList_make_own w rfl _ _ 60 rfl w.heap.size 3 i0 (.int .i64 0) 1 Try.underlying60 hi hz0 hz1 .i64 .i64 32 32 rfl rfl rfl (by rw [hz2]; omega) (by unfold maxLen; omega) (Nat.le_refl _) ?_)
  intro w1 hown1 hg1
  have b1 := (Below.refl w.heap.size w).grown hg1 (Nat.le_refl _) (fun k h => by cases h)
  have HO0 : Hid (OwnI w.heap.size w1 _ (L.take 0)) := Lib.hid hown1
  have HB0 := Lib.hid b1
  clear hown1 hg1 b1
  go_wp2_with fail
  go_loopw [3, 14] (fun u i wr => ∃ k : Nat, k ≤ N ∧ i = .int .i64 k ∧ Hid (OwnI w.heap.size wr u (L.take k)) ∧ Hid (Below w.heap.size w wr)) (fun _ i _ => N - (intOf i).toNat)
  case atStart => exact ⟨0, by omega, rfl, HO0, HB0⟩
  case round =>
    obtain ⟨k, hk, rfl, HO, HB⟩ := hrel
    clear HO0 HB0
    have hnr : N ≤ row.length := by have := HN.out; omega
    have hsz := HB.out.size
    by_cases hlt : k < N
    · have t1 : decide ((k : Int) < (N : Int)) = true := by simp; omega
      have hkr : k < row.length := by omega
      obtain ⟨b, off, rfl, hbl, hcell⟩ := HR.out.at_ hkr
      have hcell2 := (HB.out.cell (p := ⟨b, off + k, none⟩) hbl).trans hcell
      have hnx : L.take (k + 1) = L.take k ++ [lowerZ (row.getD k 0)] := by
        rw [← HLL.out, List.take_succ_eq_append_getElem (by rw [List.length_map]; exact hkr)]; simp [List.getD, hkr]
      have hlow := fun W => UM.lower_any (row.getD k 0) W
      have hll : (L.take k).length ≤ 32 := by rw [List.length_take]; have := HN.out; omega
      obtain ⟨r, hrr⟩ : ∃ r, row.getD k 0 = r := ⟨_, rfl⟩
      rw [hrr] at hcell2 hnx
      simp only [hrr] at hlow
      have HNX := Lib.hid hnx
      have HL := Lib.hid hlow
      clear hcell hnx hlow hrr hmin hi hz0 hz1 hz2
      go_wp2_with fail
      refine (HL.out _).mono ?_
      rintro e w2 ⟨rfl, hb2⟩
      have HO2 := Lib.hid (HO.out.keep hb2)
      have HB2 := Lib.hid (HB.out.trans (hb2.mono hsz))
      have hsz2 := HB2.out.size
      clear hb2
      go_wp2_with (at_builtin; refine wpList_append_int rfl _ _ rfl w.heap.size _ _ w2 (lowerZ r) rfl rfl HO2.out rfl (by omega) hsz2 ?_)
      intro v3 w3 hown3 hb3
      rw [← HNX.out] at hown3
      have HO3 := Lib.hid hown3
      have HB3 := Lib.hid (HB2.out.trans hb3)
      clear hown3 hb3
      go_wp2_with fail
      go_roundw
      case rel => exact ⟨k + 1, by omega, by go_num, HO3, HB3⟩
      case measure => simp [intOf]; omega
    · obtain rfl : k = N := by omega
      have hir := HO.out.irow
      obtain ⟨q, capq, rfl, hqc, hqm⟩ := hir.shape
      have hlen : (L.take k).length = k := by rw [List.length_take, HLl.out]; omega
      rw [hlen] at hir hqc ⊢
      have hen := UM.enc_any _ _ wr (irow_ints hir) (by rw [hlen]; omega)
      have HEN := Lib.hid hen
      have HI := Lib.hid hir
      have HLe := Lib.hid hlen
      clear hen hir hlen HO hi hz0 hz1 hz2
      have t1 : decide ((k : Int) < (k : Int)) = false := by simp
      go_wp2_with fail
      refine (HEN.out).mono ?_
      rintro e w2 ⟨rfl, hb2⟩
      have HB2 := Lib.hid (HB.out.trans (hb2.mono hsz))
      have HI2 := Lib.hid (HI.out.below hb2)
      clear HEN hb2 HB HI hmin hlt t1 hqm
      go_wp2_with fail
      have HG0 : Hid (Big row k) := Lib.hid (by have := big_start row; rw [HN.out] at this; exact this)
      go_loopw [3, 6] (fun u t wr => ∃ n : Nat, n ≤ k ∧ u = .slice q n capq ∧ t = .string ⟨(encL (L.take n)).toArray⟩ ∧ Hid (Big row n) ∧ Hid (IRow wr (.slice q n capq) (L.take n)) ∧ Hid (Below w.heap.size w wr)) (fun u _ _ => lenV u)
      case atStart => exact ⟨k, Nat.le_refl _, rfl, rfl, HG0, HI2, HB2⟩
      case round =>
        obtain ⟨n, hnk, rfl, rfl, HG, HI, HB⟩ := hrel
        clear HG0 HI2 HB2
        have hsz := HB.out.size
        have hlow : encL (L.take n) = lowL (row.take n) := by rw [← HLL.out, ← List.map_take]; rfl
        rw [hlow]
        have hts := text_size (lowL (row.take n))
        by_cases hbig : 32 < (lowL (row.take n)).length
        · have hn0 : n ≠ 0 := by intro h; subst h; simp [lowL_nil] at hbig
          obtain ⟨m, rfl⟩ : ∃ m, n = m + 1 := ⟨n - 1, by omega⟩
          have HGm := Lib.hid (big_next HG.out hbig)
          have HIm := Lib.hid (IRow.take HI.out m (by omega))
          have eLm : (L.take (m + 1)).take m = L.take m := by rw [List.take_take, Nat.min_eq_left (by omega)]
          rw [eLm] at HIm
          have hlenm : (L.take m).length = m := by rw [List.length_take, HLl.out]; omega
          have HEN := Lib.hid (UM.enc_any _ _ wr (irow_ints HIm.out) (by rw [hlenm]; omega))
          obtain ⟨y, hy⟩ : ∃ y : ByteArray, y = ⟨(lowL (row.take (m + 1))).toArray⟩ := ⟨_, rfl⟩
          rw [← hy] at hts ⊢
          have t1 : decide ((y.size : Int) > 32) = true := by simp; omega
          have e1 : ((m + 1 : Nat) : Int) - 1 = (m : Int) := by omega
          have i2 : (m : Int) ≤ (capq : Int) := by omega
          clear hts hy HG HI hlow hbig eLm
          go_wp2_with fail
          refine (HEN.out).mono ?_
          rintro e w3 ⟨rfl, hb3⟩
          have HB3 := Lib.hid (HB.out.trans (hb3.mono hsz))
          have HI3 := Lib.hid (HIm.out.below hb3)
          clear hb3 HIm HEN
          go_wp2
          go_roundw
          case rel => exact ⟨m, by omega, rfl, rfl, HGm, HI3, HB3⟩
          case measure => simp [lenV]
        · have HF := Lib.hid (big_end (row := row) (n := n) (by omega) (by have := HN.out; omega) HG.out (by omega))
          obtain ⟨y, hy⟩ : ∃ y : ByteArray, y = ⟨(lowL (row.take n)).toArray⟩ := ⟨_, rfl⟩
          rw [← hy] at hts ⊢
          have t1 : decide ((y.size : Int) > 32) = false := by simp; omega
          have HY := Lib.hid hy
          clear hts hy HG HI hlow hbig
          go_wp2_with fail
          go_ret
          unfold StrLeft
          rw [HF.out, HY.out]
          exact ⟨rfl, HB.out⟩

set_option maxRecDepth 100000 in
set_option maxHeartbeats 1000000 in
theorem rcut_any (v : Value) (row : List Int) (w : World) (hr : IRow w v row) (hl : row.length ≤ 1000000) : Calls Try.prog 62 #[v] w (StrLeft (cutW row) w) := by
  obtain ⟨p, cap, rfl, hlc, hcm⟩ := hr.shape
  unfold maxLen at hcm
  have HR := Lib.hid hr
  have HB0 : Hid (Below w.heap.size w w) := Lib.hid (Below.refl _ _)
  have HS0 : Hid (([] : List UInt8) ++ cutGo (32 - ([] : List UInt8).length) (row.drop 0) = cutW row ∧ ([] : List UInt8).length ≤ 32) := Lib.hid ⟨rfl, by simp⟩
  clear hr
  go_enter Try.func62, Try.ntmps62
  go_wp2_with fail
  go_loopw [3, 4] (fun t i wr => ∃ (k : Nat) (x : List UInt8), k ≤ row.length ∧ i = .int .i64 k ∧ t = .string ⟨x.toArray⟩ ∧ Hid (x ++ cutGo (32 - x.length) (row.drop k) = cutW row ∧ x.length ≤ 32) ∧ Hid (Below w.heap.size w wr)) (fun _ i _ => row.length - (intOf i).toNat)
  case atStart => exact ⟨0, [], by omega, rfl, rfl, HS0, HB0⟩
  case round =>
    obtain ⟨k, x, hk, rfl, rfl, HS, HB⟩ := hrel
    clear HS0 HB0
    have hsz := HB.out.size
    by_cases hlt : k < row.length
    · have t1 : decide ((k : Int) < (row.length : Int)) = true := by simp; omega
      obtain ⟨b, off, rfl, hbl, hcell⟩ := HR.out.at_ hlt
      have hcell2 := (HB.out.cell (p := ⟨b, off + k, none⟩) hbl).trans hcell
      have hdr : row.drop k = row.getD k 0 :: row.drop (k + 1) := by rw [List.drop_eq_getElem_cons hlt]; simp [List.getD, hlt]
      have hs := HS.out
      rw [hdr, cutGo] at hs
      have hlow := fun W => UM.rlower_any (row.getD k 0) W
      obtain ⟨r, hrr⟩ : ∃ r, row.getD k 0 = r := ⟨_, rfl⟩
      rw [hrr] at hcell2 hs
      simp only [hrr] at hlow
      have HL := Lib.hid hlow
      have HSS := Lib.hid hs
      clear hcell hlow hrr hdr hs HS
      go_wp2_with fail
      refine (HL.out _).mono ?_
      rintro e w2 ⟨rfl, rfl⟩
      have hone : IRow (wr.alloc (.cells #[.int .i64 (lowerZ r)] 3)) (.slice (some ⟨wr.heap.size, 0, none⟩) 1 1) [lowerZ r] := Row.of_own (own_lit wr [.int .i64 (lowerZ r)] 3 0 (Nat.zero_le _) (by unfold maxLen; simp))
      have HEN := Lib.hid (UM.renc_any _ _ _ (irow_ints hone) (by simp))
      have ba : Below wr.heap.size wr (wr.alloc (.cells #[.int .i64 (lowerZ r)] 3)) := (Below.refl _ _).alloc (Nat.le_refl _) _
      have HBa := Lib.hid (HB.out.trans (ba.mono hsz))
      clear hone ba
      go_wp2_with fail
      refine (HEN.out).mono ?_
      rintro e w3 ⟨rfl, hb3⟩
      rw [show encL [lowerZ r] = lowB r by simp [encL, lowB]]
      have HB3 := Lib.hid (HBa.out.trans (hb3.mono (by simp; omega)))
      clear HBa hb3 HEN HL
      have hsx := text_size x
      have hsb := text_size (lowB r)
      have hcat := bytes_cat x (lowB r)
      obtain ⟨X, hX⟩ : ∃ y : ByteArray, y = ⟨x.toArray⟩ := ⟨_, rfl⟩
      obtain ⟨Y, hY⟩ : ∃ y : ByteArray, y = ⟨(lowB r).toArray⟩ := ⟨_, rfl⟩
      obtain ⟨Z, hZ⟩ : ∃ y : ByteArray, y = ⟨(x ++ lowB r).toArray⟩ := ⟨_, rfl⟩
      rw [← hX] at hsx hcat ⊢
      rw [← hY] at hsb hcat ⊢
      rw [← hZ] at hcat
      have hs := HSS.out
      have hb4 := (lowB_len r).2
      have hx32 := hs.2
      by_cases hbig : (lowB r).length ≤ 32 - x.length
      · rw [if_pos hbig] at hs
        have t2 : decide (32 < (x.length : Int) + ((lowB r).length : Int)) = false := by simp; omega
        have HF : Hid ((x ++ lowB r) ++ cutGo (32 - (x ++ lowB r).length) (row.drop (k + 1)) = cutW row ∧ (x ++ lowB r).length ≤ 32) := Lib.hid ⟨by rw [← hs.1, List.append_assoc, List.length_append, Nat.sub_sub], by rw [List.length_append]; omega⟩
        have HZ := Lib.hid hZ
        have HC := Lib.hid hcat
        clear hs HSS hbig hX hY hZ hcat
        go_wp2_with fail
        rw [HC.out, HZ.out]
        go_roundw
        case rel => exact ⟨k + 1, _, by omega, by go_num, rfl, HF, HB3⟩
        case measure => simp [intOf]; omega
      · rw [if_neg hbig] at hs
        have t2 : decide (32 < (x.length : Int) + ((lowB r).length : Int)) = true := by simp; omega
        have HF : Hid (x = cutW row) := Lib.hid (by rw [← hs.1, List.append_nil])
        have HXX := Lib.hid hX
        clear hs HSS hbig hX hY hZ hcat
        go_wp2_with fail
        go_ret
        rw [HXX.out, HF.out]
        exact ⟨rfl, HB3.out⟩
    · obtain rfl : k = row.length := by omega
      have t1 : decide ((row.length : Int) < (row.length : Int)) = false := by simp
      have hs := HS.out.1
      rw [List.drop_length, cutGo, List.append_nil] at hs
      have HF := Lib.hid hs
      clear hs HS
      go_wp2_with fail
      go_ret
      rw [HF.out]
      exact ⟨rfl, HB.out⟩
end Go.Proofs.Ytgacfihidpijeaa.TK
set_option linter.unusedVariables false
namespace Go.Proofs.Ytgacfihidpijeaa.TK
open Go.RowKit Go.Proofs.Ytgacfihidpijeaa.MM
open Go.Proofs.Ytgacfihidpijeaa.UM (lowerZ wordZ encL runesL)

/-- A slice value that reads as these numbers, which lie below block B. -/
def IIn (B : Nat) (w : World) (v : Value) (zs : List Int) : Prop := RowIn B w v (zs.map (Value.int .i64))
theorem IIn.below {B : Nat} {w w' : World} {v : Value} {zs : List Int} (h : IIn B w v zs) (hb : Below B w w') : IIn B w' v zs := RowIn.below h hb
theorem IIn.row {B : Nat} {w : World} {v : Value} {zs : List Int} (h : IIn B w v zs) (hB : B ≤ w.heap.size) : IRow w v zs := RowIn.mono h hB
theorem IIn.shape {B : Nat} {w : World} {v : Value} {zs : List Int} (h : IIn B w v zs) : ∃ p cap, v = .slice p zs.length cap ∧ zs.length ≤ cap ∧ cap ≤ maxLen := by
  obtain ⟨p, cap, hv, h1, h2, _, _⟩ := h
  rw [List.length_map] at hv h1
  exact ⟨p, cap, hv, h1, h2⟩
theorem IIn.at_ {B : Nat} {w : World} {p : Option Addr} {n cap : Nat} {zs : List Int} (h : IIn B w (.slice p n cap) zs) {k : Nat} (hk : k < zs.length) :
    ∃ b off, p = some ⟨b, off, none⟩ ∧ b < B ∧ w.cell? ⟨b, off + k, none⟩ = some (.int .i64 (zs.getD k 0)) := by
  obtain ⟨p', cap', hv, _, _, _, h⟩ := h
  simp only [Value.slice.injEq] at hv
  obtain ⟨rfl, _, _⟩ := hv
  rcases h with h | ⟨b, off, hp, hlt, hc⟩
  · have : zs = [] := List.map_eq_nil_iff.1 h
    subst this
    simp at hk
  · exact ⟨b, off, hp, hlt, hc k _ (by simp [List.getD, hk])⟩
theorem IIn.take {B : Nat} {w : World} {p : Option Addr} {n cap : Nat} {zs : List Int} (h : IIn B w (.slice p n cap) zs) (k : Nat) (hk : k ≤ n) : IIn B w (.slice p k cap) (zs.take k) := by
  have := RowIn.take h k hk
  rw [← List.map_take] at this
  exact this
theorem IIn.drop2 {B : Nat} {w : World} {b off n cap : Nat} {zs : List Int} (h : IIn B w (.slice (some ⟨b, off, none⟩) n cap) zs) (k : Nat) (hk : k ≤ n) :
    (cap = k → IIn B w (.slice (some ⟨b, off, none⟩) (n - k) 0) (zs.drop k)) ∧ (¬ cap = k → IIn B w (.slice (some ⟨b, off + k, none⟩) (n - k) (cap - k)) (zs.drop k)) := by
  have h1 := RowIn.drop h k hk
  rw [← List.map_drop] at h1
  constructor
  · intro hc
    rw [if_pos hc, hc, Nat.sub_self] at h1
    exact h1
  · intro hc
    rw [if_neg hc, Option.map_some, add_at] at h1
    exact h1

theorem IIn.drop3 {B : Nat} {w : World} {b off n cap : Nat} {zs : List Int} (h : IIn B w (.slice (some ⟨b, off, none⟩) n cap) zs) (k : Nat) (hk : k ≤ n) :
    IIn B w (.slice (if cap = k then some ⟨b, off, none⟩ else some ⟨b, off + k, none⟩) (n - k) (cap - k)) (zs.drop k) := by
  have h1 := RowIn.drop h k hk
  rw [← List.map_drop, Option.map_some, add_at] at h1
  exact h1

/-- What with leaves. -/
def WithLeft (B : Nat) (ss : List (List UInt8)) (w : World) (e : Ending) (w' : World) : Prop := ∃ v, e = .returned v ∧ OwnT B w' v ss ∧ Below B w w'
set_option maxRecDepth 100000 in
theorem with_any (B : Nat) (u : Value) (ss : List (List UInt8)) (v : Value) (zs : List Int) (w : World) (hB : B ≤ w.heap.size) (hown : OwnT B w u ss) (hr : IRow w v zs) (hl : zs.length ≤ 1000000) (hs : ss.length ≤ 1000000) :
    Calls Try.prog 107 #[u, v] w (WithLeft B (ss ++ (one zs).map cutW) w) := by
  obtain ⟨p, cap, rfl, hlc, hcm⟩ := hr.shape
  by_cases hz : zs = []
  · subst hz
    rw [one_nil, List.map_nil, List.append_nil]
    have HO := Lib.hid hown
    clear hown hr
    go_enter Try.func107, Try.ntmps107
    go_wp2_with fail
    go_ret
    exact ⟨_, rfl, HO.out, Below.refl _ _⟩
  · have hw := Lib.hid (wordOf_any _ _ _ hr hl)
    have hlp := List.length_pos_iff.2 hz
    have t1 : ((zs.length : Int) == 0) = false := by simp; omega
    rw [one_ne hz, List.map_singleton]
    have HO := Lib.hid hown
    clear hown hr hz
    go_enter Try.func107, Try.ntmps107
    go_wp2_with fail
    refine hw.out.mono ?_
    rintro e w2 ⟨rfl, hb2⟩
    have HO2 := Lib.hid (HO.out.keep hb2)
    have HB2 := Lib.hid (hb2.mono hB)
    have hsz2 := HB2.out.size
    clear hb2 hw
    go_wp2_with (at_builtin; refine wpList_append_str rfl _ _ rfl B u ss w2 (cutW zs) rfl rfl HO2.out rfl (by omega) (Nat.le_trans hB hsz2) ?_)
    intro v3 w3 hown3 hb3
    have HO3 := Lib.hid hown3
    have HB3 := Lib.hid (HB2.out.trans hb3)
    clear hown3 hb3
    go_wp2_with fail
    go_ret
    exact ⟨_, rfl, HO3.out, HB3.out⟩

/-- A text's words lie in new memory. -/
def WordsLeft (ss : List (List UInt8)) (w : World) (e : Ending) (w' : World) : Prop := ∃ v, e = .returned v ∧ OwnT w.heap.size w' v ss ∧ Below w.heap.size w w'
/-- How far the words have come. -/
def Far (all rest : List Int) (ss : List (List UInt8)) : Prop := ss ++ wordsR rest = wordsR all ∧ ss.length + rest.length ≤ all.length
theorem far_stop {all rest : List Int} {ss : List (List UInt8)} {k : Nat} (h : Far all rest ss) (hk : k < rest.length) (hw : ∀ r ∈ rest.take k, wordZ r = true) (hn : wordZ (rest.getD k 0) = false) : Far all (rest.drop (k + 1)) (ss ++ (one (rest.take k)).map cutW) := by
  have e : rest = rest.take k ++ rest.getD k 0 :: rest.drop (k + 1) := by
    have h1 := List.take_append_drop k rest
    rw [List.drop_eq_getElem_cons hk] at h1
    rw [← h1]
    simp [List.getD, hk]
  have h1 : wordsR rest = (one (rest.take k)).map cutW ++ wordsR (rest.drop (k + 1)) := by
    conv => lhs; rw [e]
    unfold wordsR
    rw [rowsL_part hw hn, List.map_append]
  refine ⟨by rw [List.append_assoc, ← h1]; exact h.1, ?_⟩
  have h2 := h.2
  have h3 : (one (rest.take k)).length ≤ 1 := by unfold one; split <;> simp
  rw [List.length_append, List.length_map, List.length_drop]
  omega
theorem far_end {all rest : List Int} {ss : List (List UInt8)} (h : Far all rest ss) (hw : ∀ r ∈ rest, wordZ r = true) : ss ++ (one rest).map cutW = wordsR all := by
  rw [← h.1]
  congr 1
  unfold wordsR
  rw [rowsL_all hw]
theorem take_more {rest : List Int} {k : Nat} (hk : k < rest.length) (hw : ∀ r ∈ rest.take k, wordZ r = true) (hr : wordZ (rest.getD k 0) = true) : ∀ r ∈ rest.take (k + 1), wordZ r = true := by
  intro r h
  rw [List.take_succ_eq_append_getElem hk, List.mem_append] at h
  rcases h with h | h
  · exact hw r h
  · simp at h
    subst h
    simpa [List.getD, hk] using hr

set_option maxRecDepth 100000 in
set_option maxHeartbeats 1000000 in
theorem words_any (s : ByteArray) (w : World) (hs : s.size ≤ 1000000) : Calls Try.prog 91 #[.string s] w (WordsLeft (wordsB s.data.toList) w) := by
  have hrun := UM.runes_any s w hs
  have hlen := UM.runesL_length s.data.toList
  rw [← Lib.size_eq] at hlen
  unfold UM.RunesLeft at hrun
  unfold wordsB
  obtain ⟨zs, hz⟩ : ∃ zs, runesL s.data.toList = zs := ⟨_, rfl⟩
  rw [hz] at hrun hlen ⊢
  have HR := Lib.hid hrun
  have hzl : zs.length ≤ 1000000 := by omega
  clear hrun hz hlen
  go_enter Try.func91, Try.ntmps91
  go_wp2_with fail
  go_step3
  go_wp2_with fail
  refine HR.out.mono ?_
  rintro e w1 ⟨v, rfl, hown, hb1⟩
  have hir : IIn w1.heap.size w1 v zs := OwnI.irow hown
  have HI0 := Lib.hid hir
  have HB1 := Lib.hid hb1
  have hsz1 := hb1.size
  have HO0 : Hid (OwnT w1.heap.size w1 (.slice none 0 0) []) := Lib.hid (OwnT.nil_ _ _)
  have HF0 : Hid (Far zs zs []) := Lib.hid ⟨rfl, by simp⟩
  have HB0 : Hid (Below w1.heap.size w1 w1) := Lib.hid (Below.refl _ _)
  clear hir hown hb1 HR
  go_wp2_with fail
  go_step3
  go_wp2_with fail
  go_loopw [3, 4] (fun u t wr => ∃ (rest : List Int) (ss : List (List UInt8)), Hid (Far zs rest ss) ∧ Hid (IIn w1.heap.size wr t rest) ∧ Hid (OwnT w1.heap.size wr u ss) ∧ Hid (Below w1.heap.size w1 wr)) (fun _ t _ => lenV t)
  case atStart => exact ⟨zs, [], HF0, HI0, HO0, HB0⟩
  case round =>
    obtain ⟨rest, ss, HF, HI, HO, HB⟩ := hrel
    clear HF0 HI0 HO0 HB0
    obtain ⟨p, cap, rfl, hlc, hcm⟩ := HI.out.shape
    unfold maxLen at hcm
    have hf2 := HF.out.2
    by_cases hre : rest = []
    · subst hre
      have hf := HF.out.1
      have e0 : wordsR [] = [] := rfl
      rw [e0, List.append_nil] at hf
      subst hf
      have HOw := Lib.hid (HO.out.weaken hsz1)
      have HBw := Lib.hid (HB1.out.trans (HB.out.mono hsz1))
      clear HO HI HF hf2
      go_wp2_with fail
      go_ret
      exact ⟨_, rfl, HOw.out, HBw.out⟩
    · have hrl := List.length_pos_iff.2 hre
      have t1 : decide ((rest.length : Int) > 0) = true := by simp; omega
      have HW0 : Hid (∀ r ∈ rest.take 0, wordZ r = true) := Lib.hid (by simp)
      clear hre
      go_wp2_with fail
      go_loopw [3, 4, 14] (fun u t i wr => ∃ k : Nat, k ≤ rest.length ∧ i = .int .i64 k ∧ t = .slice p rest.length cap ∧ Hid (∀ r ∈ rest.take k, wordZ r = true) ∧ Hid (IIn w1.heap.size wr (.slice p rest.length cap) rest) ∧ Hid (OwnT w1.heap.size wr u ss) ∧ Hid (Below w1.heap.size w1 wr)) (fun _ _ i _ => rest.length - (intOf i).toNat)
      case atStart => exact ⟨0, by omega, rfl, rfl, HW0, HI, HO, HB⟩
      case round =>
        obtain ⟨k, hk, rfl, rfl, HW, HI, HO, HB⟩ := hrel
        clear HW0
        have hsz := HB.out.size
        by_cases hlt : k < rest.length
        · have t2 : decide ((k : Int) < (rest.length : Int)) = true := by simp; omega
          obtain ⟨b, off, rfl, hbl, hcell⟩ := HI.out.at_ hlt
          have hword := fun W => UM.word_any (rest.getD k 0) W
          obtain ⟨r, hrr⟩ : ∃ r, rest.getD k 0 = r := ⟨_, rfl⟩
          rw [hrr] at hcell
          simp only [hrr] at hword
          cases hz : wordZ r with
          | true =>
            simp only [hz] at hword
            have HWn := Lib.hid (take_more hlt HW.out (by rw [hrr]; exact hz))
            have HWd := Lib.hid hword
            clear hword hz hrr HW
            go_wp2_with fail
            refine (HWd.out _).mono ?_
            rintro e w2 ⟨rfl, hb2⟩
            have HB2 := Lib.hid (HB.out.trans (hb2.mono hsz))
            have HO2 := Lib.hid (HO.out.keep hb2)
            have HI2 := Lib.hid (HI.out.below (hb2.mono hsz))
            clear hb2 HWd hcell
            go_wp2_with fail
            go_roundw
            case rel => exact ⟨k + 1, by omega, by go_num, rfl, HWn, HI2, HO2, HB2⟩
            case measure => simp [intOf]; omega
          | false =>
            simp only [hz] at hword
            have HFn := Lib.hid (far_stop HF.out hlt HW.out (by rw [hrr]; exact hz))
            have HWd := Lib.hid hword
            have i1 : (k : Int) ≤ (cap : Int) := by omega
            have i2 : (k : Int) + 1 ≤ (rest.length : Int) := by omega
            have i3 : (rest.length : Int) ≤ (cap : Int) := by omega
            clear hword hz hrr HW
            go_wp2_with fail
            refine (HWd.out _).mono ?_
            rintro e w2 ⟨rfl, hb2⟩
            have HB2 := Lib.hid (HB.out.trans (hb2.mono hsz))
            have HO2 := Lib.hid (HO.out.keep hb2)
            have HI2 := Lib.hid (HI.out.below (hb2.mono hsz))
            have hsz2 := HB2.out.size
            clear hb2 HWd hcell
            have hwi := with_any w1.heap.size _ ss _ _ w2 hsz2 HO2.out ((HI2.out.take k (by omega)).row hsz2) (by rw [List.length_take]; omega) (by omega)
            have HWi := Lib.hid hwi
            clear hwi
            go_wp2_with fail
            refine HWi.out.mono ?_
            rintro e w3 ⟨v3, rfl, hown3, hb3⟩
            have HO3 := Lib.hid hown3
            have HB3 := Lib.hid (HB2.out.trans hb3)
            have HI3 := Lib.hid ((HI2.out.below hb3).drop3 (k + 1) (by omega))
            clear hown3 hb3 HWi
            go_wp2_with fail
            go_roundw
            case rel => exact ⟨_, _, HFn, HI3, HO3, HB3⟩
            case measure => simp [lenV]; omega
        · obtain rfl : k = rest.length := by omega
          have t2 : decide ((rest.length : Int) < (rest.length : Int)) = false := by simp
          have hwa := HW.out
          rw [List.take_length] at hwa
          have hfe := far_end HF.out hwa
          have hwi := with_any w1.heap.size _ ss _ _ wr hsz HO.out (HI.out.row hsz) (by omega) (by omega)
          rw [hfe] at hwi
          have HWi := Lib.hid hwi
          clear hwi hwa hfe
          go_wp2_with fail
          refine HWi.out.mono ?_
          rintro e w3 ⟨v3, rfl, hown3, hb3⟩
          have HO3 := Lib.hid (hown3.weaken hsz1)
          have HB3 := Lib.hid (HB1.out.trans ((HB.out.trans hb3).mono hsz1))
          clear hown3 hb3 HWi
          go_wp2_with fail
          go_ret
          exact ⟨_, rfl, HO3.out, HB3.out⟩
end Go.Proofs.Ytgacfihidpijeaa.TK
set_option linter.unusedVariables false
namespace Go.Proofs.Ytgacfihidpijeaa.TK
open Go.RowKit Go.Proofs.Ytgacfihidpijeaa.MM
open Go.Proofs.Ytgacfihidpijeaa.UM (lowerZ wordZ encL runesL)

theorem infoTok : (Try.prog.info? 97).map (fun i => (i.zero, i.size, i.bytes)) = some (some (.agg #[.string ⟨#[]⟩, .int .i64 0]), 2, 24) := by kernel_rfl
def tokV (t : List UInt8 × Int) : List Value := [.string ⟨t.1.toArray⟩, .int .i64 t.2]
def tokCells (ts : List (List UInt8 × Int)) : List Value := ts.flatMap tokV
theorem tokCells_len (ts : List (List UInt8 × Int)) : (tokCells ts).length = ts.length * 2 := by
  induction ts with
  | nil => rfl
  | cons t ts ih =>
    have e : tokCells (t :: ts) = tokV t ++ tokCells ts := rfl
    rw [e, List.length_append, ih, List.length_cons]
    simp [tokV]; omega
theorem tokCells_append (a b : List (List UInt8 × Int)) : tokCells (a ++ b) = tokCells a ++ tokCells b := by simp [tokCells]
theorem tokCells_get : ∀ (ts : List (List UInt8 × Int)) (i : Nat) (h : i < ts.length), (tokCells ts)[i * 2]? = some (.string ⟨ts[i].1.toArray⟩) ∧ (tokCells ts)[i * 2 + 1]? = some (.int .i64 ts[i].2)
  | t :: ts, 0, _ => ⟨rfl, rfl⟩
  | t :: ts, i + 1, h => by
    have := tokCells_get ts i (by simpa using h)
    have e : tokCells (t :: ts) = .string ⟨t.1.toArray⟩ :: .int .i64 t.2 :: tokCells ts := rfl
    rw [e, show (i + 1) * 2 = i * 2 + 1 + 1 by omega]
    simpa using this
/-- Words with their places. -/
def numT (ws : List (List UInt8)) : List (List UInt8 × Int) := ws.zipIdx.map fun p => (p.1, (p.2 : Int))
theorem numT_len (ws : List (List UInt8)) : (numT ws).length = ws.length := by simp [numT]
theorem numT_snoc (ws : List (List UInt8)) (x : List UInt8) : numT (ws ++ [x]) = numT ws ++ [(x, (ws.length : Int))] := by simp [numT, List.zipIdx_append]
theorem numT_at (ws : List (List UInt8)) (i : Nat) (h : i < (numT ws).length) : (numT ws)[i] = (ws[i]'(by rw [numT_len] at h; exact h), (i : Int)) := by simp [numT]
/-- Tokens that lie below block B. -/
def KIn (B : Nat) (w : World) (v : Value) (ts : List (List UInt8 × Int)) : Prop :=
  ∃ (p : Option Addr) (cap : Nat), v = .slice p ts.length cap ∧ ts.length ≤ cap ∧ cap ≤ maxLen ∧
    (ts = [] ∨ ∃ b off, p = some ⟨b, off, none⟩ ∧ b < B ∧ ∀ i (h : i < ts.length), w.cell? ⟨b, off + i * 2, none⟩ = some (.string ⟨ts[i].1.toArray⟩) ∧ w.cell? ⟨b, off + i * 2 + 1, none⟩ = some (.int .i64 ts[i].2))
def KRow (w : World) (v : Value) (ts : List (List UInt8 × Int)) : Prop := KIn w.heap.size w v ts
theorem KIn.below {B : Nat} {w w' : World} {v : Value} {ts : List (List UInt8 × Int)} (h : KIn B w v ts) (hb : Below B w w') : KIn B w' v ts := by
  obtain ⟨p, cap, hv, h1, h2, h⟩ := h
  refine ⟨p, cap, hv, h1, h2, ?_⟩
  rcases h with h | ⟨b, off, hp, hlt, hc⟩
  · exact .inl h
  · exact .inr ⟨b, off, hp, hlt, fun i hi => by
      rw [hb.cell (p := ⟨b, off + i * 2, none⟩) hlt, hb.cell (p := ⟨b, off + i * 2 + 1, none⟩) hlt]; exact hc i hi⟩
theorem KIn.mono {B B' : Nat} {w : World} {v : Value} {ts : List (List UInt8 × Int)} (h : KIn B w v ts) (hB : B ≤ B') : KIn B' w v ts := by
  obtain ⟨p, cap, hv, h1, h2, h⟩ := h
  refine ⟨p, cap, hv, h1, h2, ?_⟩
  rcases h with h | ⟨b, off, hp, hlt, hc⟩
  · exact .inl h
  · exact .inr ⟨b, off, hp, by omega, hc⟩
theorem KRow.below {w w' : World} {v : Value} {ts : List (List UInt8 × Int)} (h : KRow w v ts) (hb : Below w.heap.size w w') : KRow w' v ts := (KIn.below h hb).mono hb.size
theorem KIn.shape {B : Nat} {w : World} {v : Value} {ts : List (List UInt8 × Int)} (h : KIn B w v ts) : ∃ p cap, v = .slice p ts.length cap ∧ ts.length ≤ cap ∧ cap ≤ maxLen := by
  obtain ⟨p, cap, hv, h1, h2, _⟩ := h
  exact ⟨p, cap, hv, h1, h2⟩
theorem KIn.at_ {B : Nat} {w : World} {p : Option Addr} {n cap : Nat} {ts : List (List UInt8 × Int)} (h : KIn B w (.slice p n cap) ts) {k : Nat} (hk : k < ts.length) :
    ∃ b off, p = some ⟨b, off, none⟩ ∧ b < B ∧ w.cell? ⟨b, off + k * 2, none⟩ = some (.string ⟨ts[k].1.toArray⟩) ∧ w.cell? ⟨b, off + k * 2 + 1, none⟩ = some (.int .i64 ts[k].2) := by
  obtain ⟨p', cap', hv, _, _, h⟩ := h
  simp only [Value.slice.injEq] at hv
  obtain ⟨rfl, _, _⟩ := hv
  rcases h with h | ⟨b, off, hp, hlt, hc⟩
  · subst h; simp at hk
  · exact ⟨b, off, hp, hlt, hc k hk⟩
/-- .. of the call's own. -/
def OwnK (B : Nat) (w : World) (v : Value) (ts : List (List UInt8 × Int)) : Prop := w.ownsRow B 97 2 v ts.length (tokCells ts)
theorem OwnK.nil_ (B : Nat) (w : World) : OwnK B w (.slice none 0 0) [] := World.ownsRow_nil _ _ _ _
theorem OwnK.keep {w w' : World} {B : Nat} {v : Value} {ts : List (List UInt8 × Int)} (h : OwnK B w v ts) (hb : Below w.heap.size w w') : OwnK B w' v ts := own_keep (B := 0) h hb
theorem OwnK.krow {B : Nat} {w : World} {v : Value} {ts : List (List UInt8 × Int)} (h : OwnK B w v ts) : KRow w v ts := by
  rcases h.2 with ⟨rfl, h0⟩ | ⟨g, cap, cur, rfl, hg, hh, hnc, hm, hs, ht⟩
  · have : ts = [] := List.eq_nil_of_length_eq_zero h0
    subst this
    exact ⟨none, 0, rfl, Nat.le_refl _, by unfold maxLen; omega, .inl rfl⟩
  · refine ⟨some ⟨g, 0, none⟩, cap, rfl, hnc, hm, .inr ⟨g, 0, rfl, (Array.getElem?_eq_some_iff.1 hh).1, fun i hi => ?_⟩⟩
    have hget := tokCells_get ts i hi
    have key : ∀ j u, (tokCells ts)[j]? = some u → w.cell? ⟨g, 0 + j, none⟩ = some u := fun j u hj => by
      have := Lib.cells_of_row hh (ts.length * 2) j u (by rw [ht]; exact hj)
      rw [add_at] at this
      exact this
    exact ⟨key _ _ hget.1, by have := key _ _ hget.2; rw [← Nat.add_assoc] at this; exact this⟩

theorem OwnK.shape {B : Nat} {w : World} {v : Value} {ts : List (List UInt8 × Int)} (h : OwnK B w v ts) : ∃ p cap, v = .slice p ts.length cap ∧ ts.length ≤ cap ∧ cap ≤ maxLen := h.krow.shape

/-- What Tokens leaves. -/
def ToksLeft (ts : List (List UInt8 × Int)) (w : World) (e : Ending) (w' : World) : Prop := ∃ v, e = .returned v ∧ KRow w' v ts ∧ Below w.heap.size w w'
theorem below_cells {B : Nat} {a w : World} (h : Below B a w) {g o : Nat} (hg : B ≤ g) (vs : List Value) : Below B a (w.setCells g o vs) := by
  induction vs generalizing w o with
  | nil => exact h
  | cons v vs ih => exact ih (h.setCell (p := ⟨g, o, none⟩) hg v)

/-- A block of tokens. -/
def Tagged (w : World) (g : Nat) : Prop := ∃ cur fr, w.heap[g]? = some (.cells cur 97 fr)
theorem Tagged.set {w : World} {g : Nat} (h : Tagged w g) (o : Nat) (v : Value) : Tagged (w.setCell ⟨g, o, none⟩ v) g := by
  obtain ⟨cur, fr, h⟩ := h
  refine ⟨cur.setIfInBounds o v, fr, ?_⟩
  simp [World.setCell, Array.getElem?_modify, h]
theorem Tagged.sets {w : World} {g : Nat} (h : Tagged w g) (o : Nat) (vs : List Value) : Tagged (w.setCells g o vs) g := by
  induction vs generalizing w o with
  | nil => exact h
  | cons v vs ih => exact ih (h.set o v) (o + 1)
/-- A row that is filled from its head on. -/
def HalfK (B : Nat) (w : World) (g n : Nat) (ts : List (List UInt8 × Int)) : Prop := B ≤ g ∧ g < w.heap.size ∧ w.there g 0 (n * 2) ∧ w.rangeAt g 0 (tokCells ts) ∧ Tagged w g
theorem halfK_start {B : Nat} {w : World} {g n : Nat} {xs : List Value} (h : w.ownsRow B 97 2 (.slice (some ⟨g, 0, none⟩) n n) n xs) : HalfK B w g n [] := by
  rcases h.2 with ⟨hv, _⟩ | ⟨g', cap, cur, hv, hb, hh, hn, hm, hs, ht⟩
  · cases hv
  · simp only [Value.slice.injEq, Option.some.injEq, Addr.mk.injEq] at hv
    obtain ⟨⟨rfl, _⟩, _, rfl⟩ := hv
    refine ⟨hb, (Array.getElem?_eq_some_iff.1 hh).1, fun j hj => ⟨?_, frozen_of_row w g _ cur _ hh⟩, (fun j v hj => by simp [tokCells] at hj), ⟨cur, _, hh⟩⟩
    have hx : ∃ u, (cur.toList.take (n * 2))[j]? = some u := ⟨_, List.getElem?_eq_getElem (by rw [List.length_take, Array.length_toList]; omega)⟩
    obtain ⟨u, hu⟩ := hx
    have := Lib.cells_of_row hh (n * 2) j u hu
    rw [add_at] at this
    rw [this]; rfl
theorem HalfK.next {B : Nat} {w : World} {g n : Nat} {ts : List (List UInt8 × Int)} (h : HalfK B w g n ts) (hk : ts.length < n) (x : List UInt8) (p : Int) :
    HalfK B (w.setCells g (ts.length * 2) [.string ⟨x.toArray⟩, .int .i64 p]) g n (ts ++ [(x, p)]) := by
  obtain ⟨h1, h2, h3, h4, h5⟩ := h
  have ht : w.there g (ts.length * 2) [Value.string ⟨x.toArray⟩, .int .i64 p].length := fun j hj => by
    have := h3 (ts.length * 2 + j) (by simp at hj; omega)
    rw [Nat.zero_add] at this
    exact this
  refine ⟨h1, ?_, World.there_setCells h3 _ _ _, ?_, h5.sets _ _⟩
  · exact Nat.lt_of_lt_of_le h2 (below_cells (Below.refl 0 w) (Nat.zero_le _) _).size
  · have e1 := World.rangeAt_setCells_apart h4 g (ts.length * 2) [.string ⟨x.toArray⟩, .int .i64 p] (.inr (.inl (by rw [tokCells_len]; omega)))
    have e2 := World.rangeAt_setCells_same w g (ts.length * 2) _ ht
    intro j v hj
    rw [tokCells_append] at hj
    by_cases hlt : j < ts.length * 2
    · rw [List.getElem?_append_left (by rw [tokCells_len]; exact hlt)] at hj
      exact e1 j v hj
    · rw [List.getElem?_append_right (by rw [tokCells_len]; omega), tokCells_len] at hj
      have := e2 (j - ts.length * 2) v hj
      rw [show ts.length * 2 + (j - ts.length * 2) = 0 + j by omega] at this
      exact this
theorem HalfK.krow {B : Nat} {w : World} {g n : Nat} {ts : List (List UInt8 × Int)} (h : HalfK B w g n ts) (hn : ts.length = n) (hm : n ≤ maxLen) : KRow w (.slice (some ⟨g, 0, none⟩) n n) ts := by
  obtain ⟨h1, h2, h3, h4, _⟩ := h
  subst hn
  refine ⟨some ⟨g, 0, none⟩, ts.length, rfl, Nat.le_refl _, hm, .inr ⟨g, 0, rfl, h2, fun i hi => ?_⟩⟩
  have hget := tokCells_get ts i hi
  have k1 := h4 _ _ hget.1
  have k2 := h4 _ _ hget.2
  rw [← Nat.add_assoc] at k2
  exact ⟨k1, k2⟩

set_option maxRecDepth 100000 in
set_option maxHeartbeats 1000000 in
theorem tokens_tag (s : ByteArray) (w : World) (hs : s.size ≤ 1000000) : Calls Try.prog 78 #[.string s] w fun e w' => ∃ g, e = .returned (.slice (some ⟨g, 0, none⟩) (numT (wordsB s.data.toList)).length (numT (wordsB s.data.toList)).length) ∧ KRow w' (.slice (some ⟨g, 0, none⟩) (numT (wordsB s.data.toList)).length (numT (wordsB s.data.toList)).length) (numT (wordsB s.data.toList)) ∧ Tagged w' g ∧ w.heap.size ≤ g ∧ Below w.heap.size w w' := by
  obtain ⟨i0, hi, hz0, hz1, hz2⟩ := info_parts infoTok
  have hc := wordsB_count s.data.toList
  rw [← Lib.size_eq] at hc
  have HWd := Lib.hid (words_any s w hs)
  obtain ⟨ws, hws⟩ : ∃ ws, wordsB s.data.toList = ws := ⟨_, rfl⟩
  rw [hws] at hc HWd ⊢
  have hwl : ws.length ≤ 1000000 := by omega
  clear hws hc
  obtain ⟨L, hL⟩ : ∃ L, numT ws = L := ⟨_, rfl⟩
  have hLl : L.length = ws.length := by rw [← hL, numT_len]
  have HLl := Lib.hid hLl
  have HLat : Hid (∀ i (h : i < L.length) (h' : i < ws.length), L[i] = (ws[i], (i : Int))) := Lib.hid (by subst hL; exact fun i h h' => numT_at ws i h)
  rw [hL]
  clear hL hLl
  go_enter Try.func78, Try.ntmps78
  go_wp2_with fail
  refine HWd.out.mono ?_
  rintro e w1 ⟨v, rfl, hown, hb1⟩
  obtain ⟨p, cap, rfl, hlc, hcm⟩ := hown.shape
  unfold maxLen at hcm
  have HT := Lib.hid hown.trow
  have HB1 := Lib.hid hb1
  have hsz1 := hb1.size
  clear hown hb1 HWd
  go_wp2_with (at_make; refine wpList_make_full w1 rfl _ _ 65 rfl w1.heap.size 97 i0 (.agg #[.string ⟨#[]⟩, .int .i64 0]) 2 Try.underlying65 hi hz0 hz1 .i64 .i64 _ _ ws.length rfl rfl rfl rfl (by rw [hz2]; omega) (by unfold maxLen; omega) (Nat.le_refl _) ?_)
  intro w2 hown2 hg2
  have b2 := (Below.refl w1.heap.size w1).grown hg2 (Nat.le_refl _) (fun k h => by cases h)
  have HH0 : Hid (HalfK w1.heap.size w2 w1.heap.size ws.length (L.take 0)) := Lib.hid (halfK_start hown2)
  have HB0 := Lib.hid b2
  clear hown2 hg2 b2 hi hz0 hz1 hz2
  go_wp2_with fail
  go_loopw [14] (fun i wr => ∃ k : Nat, k ≤ ws.length ∧ i = .int .i64 k ∧ Hid (HalfK w1.heap.size wr w1.heap.size ws.length (L.take k)) ∧ Hid (Below w1.heap.size w1 wr)) (fun i _ => ws.length - (intOf i).toNat)
  case atStart => exact ⟨0, by omega, rfl, HH0, HB0⟩
  case round =>
    obtain ⟨k, hk, rfl, HH, HB⟩ := hrel
    clear HH0 HB0
    by_cases hlt : k < ws.length
    · have t1 : decide ((k : Int) < (ws.length : Int)) = true := by simp; omega
      obtain ⟨b, off, rfl, hbl, hcell⟩ := TIn.at_ HT.out hlt
      have hcell2 := (HB.out.cell (p := ⟨b, off + k, none⟩) hbl).trans hcell
      have hLt : (L.take k).length = k := by rw [List.length_take, HLl.out]; omega
      have hnx : L.take (k + 1) = L.take k ++ [(ws[k], (k : Int))] := by
        rw [List.take_succ_eq_append_getElem (by rw [HLl.out]; exact hlt), HLat.out k (by rw [HLl.out]; exact hlt) hlt]
      have hst := HH.out.next (by rw [hLt]; exact hlt) ws[k] (k : Int)
      rw [← hnx, hLt] at hst
      obtain ⟨x, hx⟩ : ∃ x, ws[k] = x := ⟨_, rfl⟩
      rw [hx] at hst hcell2
      have hth : wr.there w1.heap.size (k * 2) 2 := fun j hj => by
        have := HH.out.2.2.1 (k * 2 + j) (by omega)
        rw [Nat.zero_add] at this
        exact this
      have HS := Lib.hid hst
      obtain ⟨u0, f1⟩ := Option.isSome_iff_exists.1 (hth 0 (by omega)).1
      have f2 := (hth 0 (by omega)).2
      have f3 := ((World.there_setCells hth w1.heap.size (k * 2) [.string ⟨x.toArray⟩]) 1 (by omega))
      obtain ⟨u1, f3a⟩ := Option.isSome_iff_exists.1 f3.1
      have f3b := f3.2
      rw [Nat.add_zero] at f1 f2
      have e1 : wr.setCells w1.heap.size (k * 2) [.string ⟨x.toArray⟩] = wr.setCell ⟨w1.heap.size, k * 2, none⟩ (.string ⟨x.toArray⟩) := rfl
      rw [e1] at f3a f3b
      have HB2 := Lib.hid (below_cells HB.out (g := w1.heap.size) (o := k * 2) (Nat.le_refl _) [.string ⟨x.toArray⟩, .int .i64 (k : Int)])
      clear hst hth hcell hnx hx e1 f3
      go_wp2_with fail
      go_roundw
      case rel => exact ⟨k + 1, by omega, by go_num, HS, HB2⟩
      case measure => simp [intOf]; omega
    · obtain rfl : k = ws.length := by omega
      have t1 : decide ((ws.length : Int) < (ws.length : Int)) = false := by simp
      have hLt : L.take ws.length = L := by rw [← HLl.out, List.take_length]
      have hk := HH.out
      rw [hLt] at hk
      have HK := Lib.hid (hk.krow HLl.out (by unfold maxLen; omega))
      have HBf := Lib.hid (HB1.out.trans (HB.out.mono hsz1))
      have HG := Lib.hid hk.2.2.2.2
      clear hk hLt HH
      go_wp2_with fail
      go_ret
      have hLl2 := HLl.out
      refine ⟨w1.heap.size, ?_, ?_, HG.out, hsz1, HBf.out⟩
      · rw [hLl2]; rfl
      · rw [hLl2]; exact HK.out
theorem tokens_any (s : ByteArray) (w : World) (hs : s.size ≤ 1000000) : Calls Try.prog 78 #[.string s] w (ToksLeft (numT (wordsB s.data.toList)) w) :=
  (tokens_tag s w hs).mono fun _ _ ⟨_, he, hk, _, _, hb⟩ => ⟨_, he, hk, hb⟩
end Go.Proofs.Ytgacfihidpijeaa.TK
set_option linter.unusedVariables false
namespace Go.Proofs.Ytgacfihidpijeaa.EV
open Go Go.RowKit Go.Shelf Go.Proofs.Ytgacfihidpijeaa.MM Go.Proofs.Ytgacfihidpijeaa.EM
open Go.Proofs.Ytgacfihidpijeaa.TK (wordsB wordsB_count numT numT_len KRow KIn Tagged tokens_tag)
open Go.Proofs.Ytgacfihidpijeaa.RF (Vows Grows)
attribute [local go_sem] Oper.semAt_some

/-- What is yielded: a base, a field's name, its tokens' value, its words. -/
abbrev Item := Int × List UInt8 × Value × List (List UInt8)
abbrev encI (x : Item) : Array Value := #[.int .i64 x.1, .agg #[.string ⟨x.2.1.toArray⟩, x.2.2.1]]
def Vow (x : Item) (W : World) : Prop := (∃ g, x.2.2.1 = .slice (some ⟨g, 0, none⟩) x.2.2.2.length x.2.2.2.length ∧ Tagged W g) ∧ KRow W x.2.2.1 (numT x.2.2.2) ∧ x.2.1.length ≤ 4096 ∧ x.2.2.2.length ≤ 4096 ∧ (∀ s ∈ x.2.2.2, s.length ≤ 4096) ∧ 0 ≤ x.1 ∧ x.1 ≤ 100000
/-- These have come of the first k fields. -/
inductive Tr (fs : List Fld) : List Item → Nat → Prop
  | start : Tr fs [] 0
  | next {xs : List Item} {k : Nat} (v : Value) (hk : k < fs.length) : Tr fs xs k → Tr fs (xs ++ [(baseF (fs.take k), fs[k].1, v, wordsB fs[k].2)]) (k + 1)
theorem Tr.len {fs : List Fld} {xs : List Item} {k : Nat} (h : Tr fs xs k) : xs.length = k ∧ k ≤ fs.length := by
  induction h with
  | start => simp
  | next v hk h ih => rw [List.length_append, List.length_singleton]; omega
/-- The terms' places that have come. -/
def pairsI (xs : List Item) : List (List UInt8 × Int) := xs.flatMap fun x => pairsW x.2.1 x.2.2.2 x.1
theorem pairsI_snoc (xs : List Item) (x : Item) : pairsI (xs ++ [x]) = pairsI xs ++ pairsW x.2.1 x.2.2.2 x.1 := by simp [pairsI]
theorem Tr.told {fs : List Fld} {xs : List Item} {k : Nat} (h : Tr fs xs k) : pairsI xs = pairsF 0 (fs.take k) := by
  induction h with
  | start => simp [pairsI, pairsF]
  | next v hk h ih => rw [pairsI_snoc, ih, pairsF_next hk]
theorem base_le {fs : List Fld} (hx : ∀ f ∈ fs, f.2.length ≤ 4096) : ∀ k, k ≤ fs.length → 0 ≤ baseF (fs.take k) ∧ baseF (fs.take k) ≤ 4160 * k
  | 0, _ => by simp [baseF]
  | k + 1, h => by
    have ih := base_le hx k (by omega)
    have hk : k < fs.length := by omega
    rw [baseF_next hk]
    have := wordsB_count fs[k].2
    have := hx fs[k] (List.getElem_mem hk)
    omega
theorem word_len (l : List UInt8) : ∀ s ∈ wordsB l, s.length ≤ 4096 := fun s hs => by have := (TK.word_self l s hs).2; omega

set_option maxRecDepth 100000 in
set_option maxHeartbeats 2000000 in
theorem iter_in (n : Nat) (hn : 1 ≤ n) (l Bn n₀ : Nat) (z : Int) (v0 : Value) (fs : List Fld) (h16 : fs.length ≤ 16) (hnm : ∀ f ∈ fs, f.1.length ≤ 4096) (hx : ∀ f ∈ fs, f.2.length ≤ 4096) (J Jx : List Item → World → Prop) (hJ : Grows J)
    (hY : ∀ pre x A, J pre A → Vow x A → pre.length < 16 → YieldAt Fence.wide (n - 1) Try.prog l (encI x) A fun e B =>
      (e = .returned (.bool true) ∧ J (pre ++ [x]) B ∧ Below n₀ A B) ∨ (e = .returned (.bool false) ∧ Jx (pre ++ [x]) B))
    (W : World) (hBn : W.cell? ⟨Bn, 1, none⟩ = some v0) (hb : RBel fldC n₀ W v0 fs) (hn₀ : n₀ ≤ W.heap.size) (h0 : J [] W) :
    CallsIn Fence.wide n Try.prog 77 #[.func (.yield l) #[] #[], .pointer (some ⟨Bn, 0, none⟩)] W fun e B => (∃ v, e = .returned v) ∧
      ((∃ xs, Tr fs xs fs.length ∧ J xs B) ∨ (∃ pre, (∃ k, Tr fs pre k) ∧ Jx pre B)) := by
  obtain ⟨p0, cap0, rfl, hlc, hcm, _⟩ := hb.shape
  unfold maxLen at hcm
  have HB0 := Lib.hid hb
  have HT0 : Hid (Tr fs [] 0) := Lib.hid .start
  have HY := Lib.hid hY
  have HX := Lib.hid hx
  have HM := Lib.hid hnm
  have HZ : Hid (baseF (fs.take 0) = 0) := Lib.hid (by simp [baseF])
  clear hb hY hx hnm
  refine callsIn_of_wp Try.func77 rfl trivial ?_ rfl
  simp only [Try.ntmps77, List.size_toArray, List.length_cons, List.length_nil, Nat.reduceAdd, Nat.reduceSub, Array.replicate_succ, Array.replicate_zero, List.push_toArray, List.append_toArray, List.nil_append, List.cons_append]
  gi_wp2
  gi_loopw [3, 10] (fun bv iv wr => ∃ (xs : List Item) (k : Nat) (bs : Int), k ≤ fs.length ∧ bv = .int .i64 bs ∧ iv = .int .i64 k ∧ Hid (Tr fs xs k) ∧ Hid (baseF (fs.take k) = bs) ∧ Hid (RBel fldC n₀ wr (.slice p0 fs.length cap0) fs) ∧ J xs wr ∧ n₀ ≤ wr.heap.size) (fun _ iv _ => fs.length - (intOf iv).toNat)
  case atStart => exact ⟨[], 0, 0, by omega, rfl, rfl, HT0, HZ, HB0, h0, hn₀⟩
  case round =>
    obtain ⟨xs, k, bs, hk, rfl, rfl, HT, HBS, HR, hJs, hsz⟩ := hrel
    clear HT0 HB0 h0 HZ
    by_cases hlt : k < fs.length
    · have q1 : decide ((k : Int) < (fs.length : Int)) = true := by rw [decide_eq_true_eq]; omega
      have q2 : decide (k < fs.length) = true := by rw [decide_eq_true_eq]; omega
      obtain ⟨b, off, rfl, hbl, hbn, c1, c2⟩ := fld_at HR.out hlt
      have hxk := HX.out fs[k] (List.getElem_mem hlt)
      have hmk := HM.out fs[k] (List.getElem_mem hlt)
      have hnext := fun v => Tr.next v hlt HT.out
      have hbase := base_le HX.out k hk
      rw [HBS.out] at hbase hnext
      have hbn1 := baseF_next hlt
      rw [HBS.out] at hbn1
      have hwl := word_len fs[k].2
      have hwc := wordsB_count fs[k].2
      have htok := fun W => tokens_tag ⟨fs[k].2.toArray⟩ W (by rw [str_sz]; omega)
      simp only [str_list] at htok
      have hlen := HT.out.len
      generalize fs[k].1 = nm at *
      generalize fs[k].2 = tx at *
      generalize wordsB tx = ws at *
      have HTK := Lib.hid htok
      have HN := Lib.hid hnext
      have HBN := Lib.hid hbn1
      have HWL := Lib.hid hwl
      have HLT := Lib.hid hlt
      clear htok hnext hbn1 hwl hlt HT HBS
      gi_wp2
      refine ⟨trivial, (callsIn_wide.2 (HTK.out _)).mono ?_⟩
      rintro e w2 ⟨gt, rfl, hkr, htg, _, hb2⟩
      have hb3 : Below wr.heap.size wr w2 := ((Below.refl _ wr).alloc (Nat.le_refl _) _).trans (hb2.mono (by simp))
      have cn : w2.cell? ⟨wr.heap.size, 0, none⟩ = some (.string ⟨nm.toArray⟩) := (hb2.cell (p := ⟨wr.heap.size, 0, none⟩) (by simp)).trans (new_two wr _ _ _).1
      have hw4 : ws.length ≤ 4096 := by omega
      have hb0 : 0 ≤ bs := hbase.1
      have hb1 : bs ≤ 100000 := by omega
      have hl16 : xs.length < 16 := by omega
      have hg2 : wr.grownBy w2 none := ⟨hb3.os, hb3.tape, hb3.output, hb3.size, fun k hk _ => hb3.block k hk⟩
      have hJ2 := hJ xs wr w2 hJs hg2
      have hsz2 : n₀ ≤ w2.heap.size := by have := hb3.size; omega
      have hR2 := HR.out.below (hb3.mono hsz)
      rw [numT_len] at hkr ⊢
      obtain ⟨fn, tmps, assign, body, hy, hRd⟩ := HY.out xs (bs, nm, .slice (some ⟨gt, 0, none⟩) ws.length ws.length, ws) w2 hJ2 ⟨⟨gt, rfl, htg⟩, hkr, hmk, hw4, HWL.out, hb0, hb1⟩ hl16
      dsimp only [encI] at hy
      have HQ := Lib.hid hR2
      have HT3 := Lib.hid (HN.out (.slice (some ⟨gt, 0, none⟩) ws.length ws.length))
      have hw5 : (0 : Int) ≤ (ws.length : Int) := Int.natCast_nonneg _
      have hw6 : (ws.length : Int) ≤ 4096 := by omega
      clear HTK HN hkr hb2 hb3 hg2 hJs hR2 HR HWL c1 c2
      gi_wp2
      refine hRd.mono ?_
      rintro e w3 (⟨rfl, hJ3, hb3⟩ | ⟨rfl, hJ3⟩)
      · have HQ3 := Lib.hid (HQ.out.below hb3)
        have hsz3 : n₀ ≤ w3.heap.size := by have := hb3.size; omega
        have HB2 : Hid (baseF (fs.take (k + 1)) = bs + (64 + (ws.length : Int))) := Lib.hid (by rw [HBN.out]; omega)
        clear hRd hy HQ
        gi_wp2
        have hlt := HLT.out
        go_roundw
        case rel => exact ⟨_, k + 1, _, by omega, rfl, by go_num, HT3, HB2, HQ3, hJ3, hsz3⟩
        case measure => simp [intOf]; omega
      · have HT4 := Lib.hid HT3.out
        clear hRd hy HQ HT3
        gi_wp2
        refine bodyPost_ret (results_none rfl _ _ _) rfl ?_
        exact ⟨⟨_, rfl⟩, .inr ⟨_, ⟨_, HT4.out⟩, hJ3⟩⟩
    · obtain rfl : k = fs.length := by omega
      have q1 : decide ((fs.length : Int) < (fs.length : Int)) = false := by simp
      have q2 : decide (fs.length < fs.length) = false := by simp
      gi_wp2
      go_end0
      exact ⟨⟨_, rfl⟩, .inl ⟨xs, HT.out, hJs⟩⟩
/-- fieldsOf(e): e is boxed; the function value captures the box. -/
theorem fields_in (n : Nat) (z : Int) (p : Option Addr) (m c : Nat) (W : World) :
    CallsIn Fence.wide n Try.prog 55 #[.agg #[.int .i64 z, .slice p m c]] W fun e B => e = .returned (.func (.func 77) #[] #[.pointer (some ⟨W.heap.size, 0, none⟩)]) ∧ B = W.alloc (.cells #[.int .i64 z, .slice p m c] 24) := by
  refine callsIn_of_wp Try.func55 rfl trivial ?_ rfl
  simp only [Try.ntmps55, List.size_toArray, List.length_cons, List.length_nil, Nat.reduceAdd, Nat.reduceSub, Array.replicate_succ, Array.replicate_zero, List.push_toArray, List.append_toArray, List.nil_append, List.cons_append]
  gi_wp2
  go_ret
  exact ⟨rfl, rfl⟩
/-- .. it vows. -/
theorem fields_vow (n : Nat) (hn : 1 ≤ n) (Bn n₀ : Nat) (v : Value) (fs : List Fld) (h16 : fs.length ≤ 16) (hnm : ∀ f ∈ fs, f.1.length ≤ 4096) (hx : ∀ f ∈ fs, f.2.length ≤ 4096) (w : World) (hBn : Bn < w.heap.size) (hn₀ : n₀ ≤ w.heap.size) (hc : w.cell? ⟨Bn, 1, none⟩ = some v) (hb : RBel fldC n₀ w v fs) :
    Vows Fence.wide n Try.prog 77 #[.pointer (some ⟨Bn, 0, none⟩)] encI n₀ Vow (fun xs => Tr fs xs fs.length) (fun pre => ∃ k, Tr fs pre k) 16 w :=
  fun l J Jx W hW hJ _ hY h0 => iter_in n hn l Bn n₀ 0 v fs h16 hnm hx J Jx hJ hY W ((hW.cell (p := ⟨Bn, 1, none⟩) hBn).trans hc) (hb.below (hW.mono hn₀)) (by have := hW.size; omega) h0
end Go.Proofs.Ytgacfihidpijeaa.EV
