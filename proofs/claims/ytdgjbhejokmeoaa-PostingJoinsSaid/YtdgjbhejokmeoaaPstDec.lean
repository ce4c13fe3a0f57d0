/-
  The code's Decode: the row that has these bytes. Condition: fewer than 10^9 bytes.
-/
import Derived.Test.YtdgjbhejokmeoaaPstPost
import Derived.Test.YtdgjbhejokmeoaaPstBlk
set_option linter.unusedVariables false
namespace Go.Proofs.Ytdgjbhejokmeoaa.PW
open Go.RowKit Go.Proofs.Ytdgjbhejokmeoaa.MM Go.Proofs.Ytdgjbhejokmeoaa.PM Go.Proofs.Ytdgjbhejokmeoaa.VM

theorem heap_alloc_new2 (w : World) (a b : Obj) : ((w.alloc a).alloc b).heap[w.heap.size]? = some a ∧ ((w.alloc a).alloc b).heap[w.heap.size + 1]? = some b := by
  have h1 : (w.alloc a).heap[w.heap.size]? = some a := heap_alloc_new w a
  have h2 := heap_alloc_new (w.alloc a) b
  have hs : (w.alloc a).heap.size = w.heap.size + 1 := by simp
  rw [hs] at h2
  exact ⟨(((Below.refl _ (w.alloc a)).alloc (Nat.le_refl _) b).block w.heap.size (by omega)).trans h1, h2⟩
set_option maxRecDepth 100000 in
theorem posts_any (g : Nat) (w : World) : Calls Try.prog 41 #[.pointer (some ⟨g, 0, none⟩)] w fun e w' => e = .returned (.func (.func 57) #[] #[.pointer (some ⟨w.heap.size, 0, none⟩), .pointer (some ⟨w.heap.size + 1, 0, none⟩)]) ∧
    w'.heap[w.heap.size]? = some (.cells #[.pointer (some ⟨g, 0, none⟩)] 86 (0, 0)) ∧ w'.heap[w.heap.size + 1]? = some (.cells #[.int .i64 0] 3 (0, 0)) ∧ Below w.heap.size w w' := by
  have hmf : ∀ (fn : Fn) (first cap : Array Value) (w : World), (Instr.makeFunc fn first cap).run Try.prog w = .ok (.func fn first cap) w := fun _ _ _ _ => rfl
  have h2 := heap_alloc_new2 w (.cells #[.pointer (some ⟨g, 0, none⟩)] 86) (.cells #[.int .i64 0] 3)
  have hb : Below w.heap.size w ((w.alloc (.cells #[.pointer (some ⟨g, 0, none⟩)] 86)).alloc (.cells #[.int .i64 0] 3)) := ((Below.refl _ _).alloc (Nat.le_refl _) _).alloc (by simp) _
  have H2 := Lib.hid h2
  have HB := Lib.hid hb
  clear h2 hb
  go_enter Try.func41, Try.ntmps41
  go_wp2_with fail
  go_ret
  exact ⟨rfl, H2.out.1, H2.out.2, HB.out⟩
theorem HalfP.prow {S : Nat → Prop} {w : World} {g n : Nat} {xs : List (Int × Value)} {ps : List Post} (h : HalfP w g n xs) (hn : xs.length = n) (hm : n ≤ maxLen) (hx : MeanOn S w xs ps) : PRow w (.slice (some ⟨g, 0, none⟩) n n) ps := by
  obtain ⟨h2, h3, h4⟩ := h
  have e := hx.1
  refine ⟨some ⟨g, 0, none⟩, n, xs, by rw [← e, hn], by omega, hm, (fun h => by cases h), hx.keep (Kep.refl _ _) (fun _ _ _ => trivial), .inr ⟨g, 0, rfl, h2, trivial, fun i hi => ?_⟩⟩
  have hget := rawC_get xs i hi
  have k1 := h4 _ _ hget.1
  have k2 := h4 _ _ hget.2
  rw [← Nat.add_assoc] at k2
  exact ⟨k1, k2⟩
theorem HalfP.get {w : World} {g n : Nat} {xs : List (Int × Value)} {ps : List Post} {S : Nat → Prop} (h : HalfP w g n xs) (hx : MeanOn S w xs ps) {k : Nat} (hk : k < ps.length) : w.cell? ⟨g, k * 2, none⟩ = some (.int .i64 ps[k].1) := by
  obtain ⟨h2, h3, h4⟩ := h
  have e := hx.1
  have hget := rawC_get xs k (by omega)
  have := h4 _ _ hget.1
  rw [Nat.zero_add] at this
  rw [this, (hx.2 k (by omega) hk).1]
/-- A row, an error's number. -/
def decR (r : Option (List Post)) : List Post × Int := match r with
  | some ps => (ps, 0)
  | none => ([], 80)
def DecLeft (r : List Post × Int) (w : World) (e : Ending) (w' : World) : Prop := ∃ v, e = .returned (.tuple #[v, .int .i64 r.2]) ∧ PRow w' v r.1 ∧ Below w.heap.size w w'
theorem last_doc {ps : List Post} {k : Nat} (hk : ps.length = k + 1) : nextL 0 ps = (ps[k]'(by omega)).1 + 1 := by
  have e : ps = ps.take k ++ [ps[k]'(by omega)] := by
    rw [← List.take_succ_eq_append_getElem (by omega), List.take_of_length_le (by omega)]
  conv => lhs; rw [e]
  exact nextL_snoc _ _

set_option maxRecDepth 100000 in
set_option maxHeartbeats 8000000 in
theorem decode_any (v : Value) (b : List UInt8) (w : World) (hr : BRow w v b) (hb : b.length ≤ 1000000000) : Calls Try.prog 20 #[v] w (DecLeft (decR (decO b)) w) := by
  obtain ⟨i0, hi, hz0, hz1, hz2⟩ := info_parts infoPost
  have hbl : b.length < 4611686018427387904 := by omega
  have HNO : Hid (NoRow b → decR (decO b) = ([], 80)) := Lib.hid (fun h => by rw [decO_none h]; rfl)
  have HYES : Hid (∀ ps, Dec b ps → decR (decO b) = (ps, 0)) := Lib.hid (fun ps h => by rw [decO_some hbl h]; rfl)
  obtain ⟨RES, hRES⟩ : ∃ R, decR (decO b) = R := ⟨_, rfl⟩
  rw [hRES] at HNO HYES ⊢
  obtain ⟨r, hnum⟩ : ∃ r, numSt 0 (min 65536 ((b.length / 3 : Nat) : Int)) b false = r := ⟨_, rfl⟩
  have hbeg := hst_begin hbl r hnum
  -- the reader
  obtain ⟨p, cap, rfl, hlc, hcm⟩ := BIn.shape hr
  unfold maxLen at hcm
  have hal : Below w.heap.size w (w.alloc (.cells #[.slice p b.length cap, .bool false] 65)) := (Below.refl _ _).alloc (Nat.le_refl _) _
  have hrd : Rd w.heap.size (w.alloc (.cells #[.slice p b.length cap, .bool false] 65)) w.heap.size b false := ⟨_, heap_alloc_new _ _, BIn.below hr hal⟩
  have hs1 : (w.alloc (.cells #[.slice p b.length cap, .bool false] 65)).heap.size = w.heap.size + 1 := by simp
  obtain ⟨nb, hnb⟩ : ∃ n, b.length = n := ⟨_, rfl⟩
  have HNB := Lib.hid hnb
  rw [hnb] at hal hrd hs1 hnum hb hlc ⊢
  obtain ⟨W1, hW1⟩ : ∃ W, w.alloc (.cells #[.slice p nb cap, .bool false] 65) = W := ⟨_, rfl⟩
  rw [hW1] at hal hrd hs1
  have hN := number_any w.heap.size w.heap.size b false 0 (min 65536 ((nb / 3 : Nat) : Int)) W1 hrd (Nat.le_refl _) (by omega) (by omega)
  rw [hnum] at hN
  obtain ⟨n, l1, o1⟩ := r
  unfold NumLeft at hN
  dsimp only at hN hbeg
  obtain ⟨hh0, hn, hl1, hor⟩ := hbeg
  obtain ⟨n3, hn3⟩ : ∃ k : Nat, nb / 3 = k := ⟨_, rfl⟩
  rw [hn3] at hN
  have hd3 : (nb : Int) / 3 = (n3 : Int) := by omega
  have hd4 : Int.tdiv (nb : Int) 3 = (n3 : Int) := by rw [Int.tdiv_eq_ediv_of_nonneg (by omega)]; exact hd3
  have hmin : (if (n3 : Int) < 65536 then (n3 : Int) else 65536) = min 65536 (n3 : Int) := by split <;> omega
  have hmin2 : (if 65536 < (n3 : Int) then 65536 else (n3 : Int)) = min 65536 (n3 : Int) := by split <;> omega
  obtain ⟨MN, hMN⟩ : ∃ M, min 65536 (n3 : Int) = M := ⟨_, rfl⟩
  rw [hMN] at hN hmin hmin2
  have HN := Lib.hid hN
  have HAL := Lib.hid hal
  have HH0 := Lib.hid hh0
  have HOR := Lib.hid hor
  have HS1 := Lib.hid hs1
  have HBL := Lib.hid hbl
  have HW1 := Lib.hid hW1
  clear hN hal hrd hh0 hor hs1 hRES hnum hr hnb hbl hn3 hW1
  go_enter Try.func20, Try.ntmps20
  go_wp2_with fail
  rw [HW1.out]
  refine HN.out.mono ?_
  rintro e w2 ⟨rfl, hR2, hK2⟩
  have hs2 : w.heap.size < w2.heap.size := by have := HS1.out; have := hK2.size; omega
  have hlow2 : Below w.heap.size w w2 := HAL.out.trans (hK2.below (by have := HS1.out; omega) (fun k hk => by omega))
  have HR2 := Lib.hid hR2
  have HLOW2 := Lib.hid hlow2
  clear hR2 hK2 hlow2 HN HAL HW1 hmin hmin2 hMN hd3 hd4
  go_wp2_with (at_make; refine wpList_make_full w2 rfl _ _ 22 rfl w2.heap.size 47 i0 (.agg #[.int .i64 0, .slice none 0 0]) 2 Try.underlying22 hi hz0 hz1 .i64 .i64 _ _ n rfl rfl rfl rfl (by rw [hz2]; omega) (by unfold maxLen; omega) (Nat.le_refl _) ?_)
  intro w3 hown3 hg3
  have hb3 := (Below.refl w2.heap.size w2).grown hg3 (Nat.le_refl _) (fun k h => by cases h)
  have hP3 : HalfP w3 w2.heap.size n [] := halfP_start hown3
  have hR3 := HR2.out.keep (kep_below (fun _ => True) hb3) trivial (fun _ _ => trivial) (by omega)
  have HP3 := Lib.hid hP3
  have HR3 := Lib.hid hR3
  have HLOW3 := Lib.hid (HLOW2.out.trans (hb3.mono (by omega)))
  have hs3 : w2.heap.size < w3.heap.size := hP3.1
  obtain ⟨L, hL⟩ : ∃ L, w2.heap.size = L := ⟨_, rfl⟩
  rw [hL] at hs2 HP3 hs3 ⊢
  clear hown3 hg3 hb3 hP3 hR3 HR2 HLOW2 hi hz0 hz1 hz2 hL
  have HBk := Lib.hid (blocks_any L 0 n n (some ⟨L, 0, none⟩) w3 (fun _ => rfl) (Nat.le_refl _) (by unfold maxLen; omega) (by omega))
  go_wp2_with fail
  refine HBk.out.mono ?_
  rintro e w4 ⟨vk, rfl, ho4, hb4⟩
  obtain ⟨pk, ck, rfl, hk1, hk2⟩ := ho4.shape
  rw [blksV_len] at hk1 ho4 ⊢
  have hR4 := HR3.out.keep (kep_below (fun _ => True) hb4) trivial (fun _ _ => trivial) (by omega)
  have HP4 := Lib.hid (HP3.out.keep (kep_below (fun _ => True) hb4) trivial)
  have HO4 := Lib.hid ho4
  have HLOW4 := Lib.hid (HLOW3.out.trans (hb4.mono (by omega)))
  have hs4 := hb4.size
  have hok4 : ∀ g, (Value.slice pk (cnt n) ck).ownBlock = some g → g < w4.heap.size := fun g hg => (World.ownsRow.lt ho4 g hg).2
  have HHD := Lib.hid (heads_any w.heap.size w.heap.size b l1 n false o1 w4 hR4 (Nat.le_refl _) HBL.out (by omega) HH0.out)
  clear ho4 hb4 hR4 HP3 HR3 HLOW3 HBk hk1 hk2
  go_wp2_with fail
  refine HHD.out.mono ?_
  rintro e w5 ⟨hs, l0, o0, H, rfl, hH, hZ5, hst5, hod5, hR5, hK5⟩
  have HP5 := Lib.hid (HP4.out.keep hK5 (show L ≠ w.heap.size by omega))
  have HO5 : Hid (OwnV w3.heap.size w5 (.slice pk (cnt n) ck) (blksV L 0 n n (cnt n))) := Lib.hid (by
    have h := HO4.out
    refine ⟨h.1, ?_⟩
    rcases h.2 with h0 | ⟨g, cap', cur, hv, hg, hh, rest⟩
    · exact .inl h0
    · exact .inr ⟨g, cap', cur, hv, hg, by rw [hK5.block g (Array.getElem?_eq_some_iff.1 hh).1 (by omega)]; exact hh, rest⟩)
  have hs5 := hK5.size
  have HLOW5 := Lib.hid (HLOW4.out.trans (hK5.below (by omega) (fun k hk => by omega)))
  have HZ5 := Lib.hid hZ5
  have HST5 := Lib.hid hst5
  have HOD5 := Lib.hid hod5
  have HR5 := Lib.hid hR5
  have hH5 := hZ5.1
  clear hK5 HO4 HP4 HLOW4 HHD hZ5 hst5 hR5
  go_wp2_with fail
  refine (posts_any _ w5).mono ?_
  rintro e w6 ⟨rfl, hT6, hQ6, hb6⟩
  have HT6 := Lib.hid hT6
  have HQ6 := Lib.hid hQ6
  have HP6 := Lib.hid (HP5.out.keep (kep_below (fun _ => True) hb6) trivial)
  have HZ6 := Lib.hid (HZ5.out.keep (kep_below (fun _ => True) hb6) trivial)
  have HO6 : Hid (OwnV w3.heap.size w6 (.slice pk (cnt n) ck) (blksV L 0 n n (cnt n))) := Lib.hid (own_keep (B := 0) HO5.out hb6)
  have HR6 := Lib.hid (HR5.out.keep (kep_below (fun _ => True) hb6) trivial (fun _ _ => trivial) (by omega))
  have HLOW6 := Lib.hid (HLOW5.out.trans (hb6.mono (by omega)))
  obtain ⟨tb, htb⟩ : ∃ t, w5.heap.size = t := ⟨_, rfl⟩
  have hs6 : tb + 1 < w6.heap.size := by rw [← htb]; exact (Array.getElem?_eq_some_iff.1 hQ6).1
  rw [htb] at HT6 HQ6 hs5 hH5 ⊢
  obtain ⟨q, hq⟩ : ∃ q, tb + 1 = q := ⟨_, rfl⟩
  rw [hq] at HQ6 hs6 ⊢
  have hqtb : tb < q := by omega
  clear hT6 hQ6 hb6 HP5 HO5 HZ5 HR5 HLOW5 htb hq
  -- the loop
  have hLt : L < tb := by omega
  have HM0 : Hid (MeanOn (fun c => c ≠ L ∧ c ≠ w.heap.size ∧ c ≠ q) w6 [] []) := Lib.hid ⟨rfl, fun i h => by simp at h⟩
  have HD0 : Hid (DSt b n o0 l0 (min n (32 * 0)) [] l0 o0) := Lib.hid (by rw [Nat.mul_zero, Nat.min_zero]; exact dst_start HST5.out)
  have HQ0 : Hid (w6.heap[q]? = some (.cells #[.int .i64 (nextL 0 [])] 3 (0, 0))) := HQ6
  have HK0 : Hid (Kep (fun c => c ≠ w.heap.size ∧ c ≠ q ∧ c ≠ L) w6 w6) := Lib.hid (Kep.refl _ _)
  have HHO0 : Hid (o0 = false → HOk hs [] 0) := Lib.hid (fun _ k hk => by omega)
  have HLB : Hid (l0.length ≤ 1000000000) := Lib.hid (by have h1 := hst_len HST5.out; have := HNB.out; omega)
  have HTL := Lib.hid (Array.getElem?_eq_some_iff.1 HT6.out).1
  have hHt : H < w6.heap.size := by omega
  have hcn : cnt n ≤ 65536 := by unfold cnt; omega
  clear hl1
  go_wp2_with fail
  go_loopw [29] (fun iv wr => ∃ (i : Nat) (xs : List (Int × Value)) (ps : List Post) (l : List UInt8) (o : Bool), i ≤ cnt n ∧ iv = .int .i64 i ∧ Hid (DSt b n o0 l0 (min n (32 * i)) ps l o) ∧ Hid (Rd w.heap.size wr w.heap.size l o) ∧ Hid (wr.heap[q]? = some (.cells #[.int .i64 (nextL 0 ps)] 3 (0, 0))) ∧ Hid (HalfP wr L n xs) ∧ Hid (MeanOn (fun c => c ≠ L ∧ c ≠ w.heap.size ∧ c ≠ q) wr xs ps) ∧ Hid (Kep (fun c => c ≠ w.heap.size ∧ c ≠ q ∧ c ≠ L) w6 wr) ∧ Hid (o = false → HOk hs ps i)) (fun iv _ => cnt n - (intOf iv).toNat)
  case atStart => exact ⟨0, [], [], l0, o0, by omega, rfl, HD0, HR6, HQ0, HP6, HM0, HK0, HHO0⟩
  case round =>
    obtain ⟨i, xs, ps, l, o, hi, rfl, HD, HR, HQ, HP, HM, HK, HHO⟩ := hrel
    clear HD0 HR6 HQ0 HP6 HM0 HK0 HHO0 HQ6
    have hgq : w.heap.size ≠ q := by omega
    have hgL : w.heap.size ≠ L := by omega
    by_cases hlt : i < cnt n
    · have t1 : decide ((i : Int) < (cnt n : Int)) = true := by simp; omega
      obtain ⟨gk, rfl, hg0, hg1, hcell, _⟩ := HO6.out.at_ (blksV_at L 0 n n (cnt n) i hlt)
      have hSk : gk ≠ w.heap.size ∧ gk ≠ q ∧ gk ≠ L := ⟨by omega, fun e => by have := hok4 gk rfl; omega, by omega⟩
      have hcell2 := (HK.out.cell hg1 hSk i).trans hcell
      unfold blkV at hcell2
      rw [Nat.zero_add] at hcell2
      obtain ⟨mb, hmb⟩ : ∃ m, min 32 (n - 32 * i) = m := ⟨_, rfl⟩
      obtain ⟨cc, hcc⟩ : ∃ c, n - 32 * i = c := ⟨_, rfl⟩
      rw [hmb, hcc] at hcell2
      have hin : 32 * i < n := by unfold cnt at hlt; omega
      have hm0 : 0 < mb := by omega
      have hmn : 32 * i + mb ≤ n := by omega
      have hmc : mb ≤ cc := by omega
      have hmj : 32 * i + mb = min n (32 * (i + 1)) := by omega
      have hist := ist_start HD.out hlt HHO.out
      obtain ⟨v0, hv0, hvb⟩ := HR.out
      have f0 : wr.cell? ⟨w.heap.size, 0, none⟩ = some v0 := by rw [cell_of_row wr _ 0 _ _ _ hv0]; rfl
      obtain ⟨pv, cv, rfl, _, _⟩ := hvb.shape
      obtain ⟨S0, hS0⟩ : ∃ S, l.length = S := ⟨_, rfl⟩
      rw [hS0] at hist f0
      have hS0b : S0 ≤ 1000000000 := by have h1 := dst_len HD.out; have := HLB.out; omega
      have HI0 : Hid (ISt b n o0 l0 hs i S0 0 ps l o) := Lib.hid hist
      have HMJ := Lib.hid hmj
      clear hist hv0 hvb hcell hcc hmb hmj HD HHO hS0
      go_wp2_with fail
      go_loopw [39] (fun jv wr => ∃ (j : Nat) (xs : List (Int × Value)) (ps : List Post) (l : List UInt8) (o : Bool), j ≤ mb ∧ jv = .int .i64 j ∧ Hid (ISt b n o0 l0 hs i S0 j ps l o) ∧ Hid (Rd w.heap.size wr w.heap.size l o) ∧ Hid (wr.heap[q]? = some (.cells #[.int .i64 (nextL 0 ps)] 3 (0, 0))) ∧ Hid (HalfP wr L n xs) ∧ Hid (MeanOn (fun c => c ≠ L ∧ c ≠ w.heap.size ∧ c ≠ q) wr xs ps) ∧ Hid (Kep (fun c => c ≠ w.heap.size ∧ c ≠ q ∧ c ≠ L) w6 wr)) (fun jv _ => mb - (intOf jv).toNat)
      case atStart => exact ⟨0, xs, ps, l, o, by omega, rfl, HI0, HR, HQ, HP, HM, HK⟩
      case round =>
        obtain ⟨j, xs, ps, l, o, hj, rfl, HI, HR, HQ, HP, HM, HK⟩ := hrel
        clear HI0
        by_cases hjl : j < mb
        · have t2 : decide ((j : Int) < (mb : Int)) = true := by simp; omega
          have hpl := HI.out.1.2.1
          have hxl : xs.length = 32 * i + j := by rw [HM.out.1]; exact hpl
          have hn0 := HI.out.1.2.2.1
          have hn1 := HI.out.1.2.2.2.1
          have hlen := dst_len HI.out.1
          have hTw := (HK.out.block tb HTL.out ⟨by omega, by omega, by omega⟩).trans HT6.out
          have hnx := next_any w.heap.size w.heap.size tb q l o (nextL 0 ps) wr HR.out (Nat.le_refl _) hTw (by omega) HQ.out (by omega) (by omega) (by omega) hn0 (by omega) (by have := HLB.out; omega)
          have HNX := Lib.hid hnx
          have HXL := Lib.hid hxl
          clear hnx hxl hpl hn0 hn1 hlen hTw hcell2 f0
          go_wp2_with fail
          refine HNX.out.mono ?_
          rintro e w8 ⟨d, qs, l', o', pv8, rfl, hps, hR8, hQ8, hO8, hK8⟩
          have hist := ist_step HI.out (by omega) hps
          have hP8 := HP.out.keep hK8 (show L ≠ w.heap.size ∧ L ≠ q from ⟨by omega, by omega⟩)
          have hxn : xs.length < n := by rw [HXL.out]; omega
          have hP9 := hP8.next hxn d pv8
          rw [HXL.out] at hP9
          obtain ⟨pp, cp, rfl, _, _⟩ := (OwnI.irow hO8).shape
          have hk9 : Kep (fun c => c ≠ L) w8 (w8.setCells L ((32 * i + j) * 2) [.int .i64 d, .slice pp qs.length cp]) := kep_cells (by simp) _ _
          have hIo : IOn (fun c => c ≠ L ∧ c ≠ w.heap.size ∧ c ≠ q) w8 (.slice pp qs.length cp) qs := by
            rcases hO8.2 with ⟨hv, h0⟩ | ⟨g8, cap8, cur8, hv, hg8, _⟩
            · have : qs = [] := List.eq_nil_of_length_eq_zero h0
              subst this
              rw [hv]
              exact IOn.nil_ _ _
            · have hion := OwnI.ion hO8
              obtain ⟨p', c', hv', i1, i2, i3, i4⟩ := hion
              refine ⟨p', c', hv', i1, i2, i3, ?_⟩
              rcases i4 with i4 | ⟨b', off', hp', hb', _, hc'⟩
              · exact .inl i4
              · refine .inr ⟨b', off', hp', hb', ?_, hc'⟩
                rw [hv] at hv'
                simp only [Value.slice.injEq] at hv'
                obtain ⟨e1, _, _⟩ := hv'
                rw [hp'] at e1
                simp only [Option.some.injEq, Addr.mk.injEq] at e1
                have hwr := HP.out.1
                have hqr := (Array.getElem?_eq_some_iff.1 HQ.out).1
                have hgr := HR.out.lt
                rw [← e1.1]
                exact ⟨by omega, by omega, by omega⟩
          have hM8 := (HM.out.keep (T := fun c => c ≠ L ∧ c ≠ w.heap.size ∧ c ≠ q) (hK8.mono (fun c hc => ⟨hc.2.1, hc.2.2⟩)) (fun _ _ h => h)).snoc (z := d) hIo
          have hM9 := hM8.keep (T := fun c => c ≠ L ∧ c ≠ w.heap.size ∧ c ≠ q) (hk9.mono (fun c hc => hc.1)) (fun _ _ h => h)
          have hQ9 := (hk9.block q (Array.getElem?_eq_some_iff.1 hQ8).1 (by omega)).trans hQ8
          have hR9 := hR8.keep hk9 (show w.heap.size ≠ L by omega) (fun k hk => by omega) (by have := hR8.lt; omega)
          have hK9 := (HK.out.trans (hK8.mono (T := fun c => c ≠ w.heap.size ∧ c ≠ q ∧ c ≠ L) (fun c hc => ⟨hc.1, hc.2.1⟩))).trans (hk9.mono (T := fun c => c ≠ w.heap.size ∧ c ≠ q ∧ c ≠ L) (fun c hc => hc.2.2))
          have hth := hP8.2.1
          obtain ⟨u0, c0⟩ := Option.isSome_iff_exists.1 (hth ((32 * i + j) * 2) (by omega)).1
          have c1 := (hth ((32 * i + j) * 2) (by omega)).2
          have hth2 := World.there_setCells hth L ((32 * i + j) * 2) [.int .i64 d]
          obtain ⟨u1, c2⟩ := Option.isSome_iff_exists.1 (hth2 ((32 * i + j) * 2 + 1) (by omega)).1
          have c3 := (hth2 ((32 * i + j) * 2 + 1) (by omega)).2
          have e2 : w8.setCells L ((32 * i + j) * 2) [.int .i64 d] = w8.setCell ⟨L, (32 * i + j) * 2, none⟩ (.int .i64 d) := rfl
          have e3 : w8.setCells L ((32 * i + j) * 2) [.int .i64 d, .slice pp qs.length cp] = (w8.setCell ⟨L, (32 * i + j) * 2, none⟩ (.int .i64 d)).setCell ⟨L, (32 * i + j) * 2 + 1, none⟩ (.slice pp qs.length cp) := rfl
          rw [e2] at c2 c3
          rw [e3] at hP9 hM9 hQ9 hR9 hK9
          rw [Nat.zero_add] at c0 c1 c2 c3
          have e4 : (32 * i + j) * 2 = 64 * i + j * 2 := by omega
          rw [e4] at c0 c1 c2 c3 hP9 hM9 hQ9 hR9 hK9
          have hQ10 : ((w8.setCell ⟨L, 64 * i + j * 2, none⟩ (.int .i64 d)).setCell ⟨L, 64 * i + j * 2 + 1, none⟩ (.slice pp qs.length cp)).heap[q]? = some (.cells #[.int .i64 (nextL 0 (ps ++ [(d, qs)]))] 3 (0, 0)) := by rw [nextL_snoc]; exact hQ9
          have HP9 := Lib.hid hP9
          have HM9 := Lib.hid hM9
          have HQ9 := Lib.hid hQ10
          have HR9 := Lib.hid hR9
          have HK9 := Lib.hid hK9
          have HI9 := Lib.hid hist
          generalize qs.length = nqs at *
          clear hps hR8 hQ8 hO8 hK8 hist hP8 hP9 hk9 hIo hM8 hM9 hQ9 hQ10 hR9 hK9 hth hth2 e2 e3 e4 HI HR HQ HP HM HK HNX
          go_wp2_with fail
          go_roundw
          case rel => exact ⟨j + 1, _, _, _, _, by omega, by go_num, HI9, HR9, HQ9, HP9, HM9, HK9⟩
          case measure => simp [intOf]; omega
        · obtain rfl : j = mb := by omega
          have t2 : decide ((j : Int) < (j : Int)) = false := by simp
          have hHS := HST5.out
          obtain ⟨⟨x, y⟩, hx⟩ : ∃ h, hs[i]? = some h := ⟨_, List.getElem?_eq_getElem (by rw [hHS.1]; exact hlt)⟩
          obtain ⟨k1, k2⟩ := flatH_get hs i x y hx
          have hZw := HZ6.out.keep HK.out ⟨by omega, by omega, by omega⟩
          have z0 := hZw.get k1
          have z1 := hZw.get k2
          obtain ⟨m1, hm1⟩ : ∃ m, j = m + 1 := ⟨j - 1, by omega⟩
          have hpl := HI.out.1.2.1
          have hpk : ps.length = (32 * i + m1) + 1 := by omega
          have hld := last_doc hpk
          have c0 := HP.out.get HM.out (show 32 * i + m1 < ps.length by omega)
          obtain ⟨d, hd⟩ : ∃ d, (ps[32 * i + m1]'(by omega)).1 = d := ⟨_, rfl⟩
          rw [hd] at hld c0
          rw [show (32 * i + m1) * 2 = 64 * i + m1 * 2 by omega] at c0
          have key := ist_end HI.out hHS hlt HMJ.out hx hld
          obtain ⟨v0, hv0, hvb⟩ := HR.out
          have f1 : wr.cell? ⟨w.heap.size, 0, none⟩ = some v0 := by rw [cell_of_row wr _ 0 _ _ _ hv0]; rfl
          obtain ⟨pv2, cv2, rfl, _, _⟩ := hvb.shape
          have hlen := dst_len HI.out.1
          have hlb := HLB.out
          have e1 : (j : Int) - 1 = (m1 : Int) := by omega
          have e2 : IntKind.i64.wrap (m1 : Int) = (m1 : Int) := by rw [IntKind.wrap_i64]; omega
          have hmj1 : m1 < j := by omega
          obtain ⟨ln, hln⟩ : ∃ n, l.length = n := ⟨_, rfl⟩
          rw [hln] at key f1 hlen
          have e3 : IntKind.i64.wrap ((S0 : Int) - (ln : Int)) = (S0 : Int) - (ln : Int) := by rw [IntKind.wrap_i64]; omega
          by_cases hm : (x : Int) = d ∧ (y : Int) = (S0 : Int) - (ln : Int)
          · obtain ⟨hD2, hH2⟩ := key.1 hm
            have q1 : ((x : Int) == d) = true := by rw [beq_iff_eq]; exact hm.1
            have q2 : ((y : Int) == (S0 : Int) - (ln : Int)) = true := by rw [beq_iff_eq]; exact hm.2
            have HD2 := Lib.hid hD2
            have HH2 := Lib.hid hH2
            clear hm key hD2 hH2 hv0 hvb hHS hx k1 k2 hZw hpl hpk hld hd hm1 hln HI hlen hcell2 f0
            go_wp2_with fail
            go_quiet (fail)
            go_wp2_with fail
            go_roundw
            case rel => exact ⟨i + 1, xs, ps, l, o, by omega, by go_num, HD2, Lib.hid HR.out, Lib.hid HQ.out, Lib.hid HP.out, Lib.hid HM.out, Lib.hid (HK.out.drewN _), HH2⟩
            case measure => simp [intOf]; omega
          · have hn2 := HNO.out (key.2 hm)
            have HN := Lib.hid hn2
            have HLOWr := Lib.hid (HLOW6.out.trans (HK.out.below (by have := HLOW6.out.size; omega) (fun k hk => ⟨by omega, by omega, by omega⟩)))
            by_cases hx1 : (x : Int) = d
            · have q1 : ((x : Int) == d) = true := by rw [beq_iff_eq]; exact hx1
              have q2 : ((y : Int) == (S0 : Int) - (ln : Int)) = false := by rw [beq_eq_false_iff_ne]; exact fun e => hm ⟨hx1, e⟩
              clear hm key hv0 hvb hHS hx k1 k2 hZw hpl hpk hld hd hm1 hln HI hlen hcell2 f0 hn2 hx1
              go_wp2_with fail
              go_quiet (fail)
              go_wp2_with fail
              go_ret2
              rw [HN.out]
              exact ⟨_, rfl, POn.nil_ _ _, below_drewN HLOWr.out _⟩
            · have q1 : ((x : Int) == d) = false := by rw [beq_eq_false_iff_ne]; exact hx1
              clear hm key hv0 hvb hHS hx k1 k2 hZw hpl hpk hld hd hm1 hln HI hlen hcell2 f0 hn2 hx1
              go_wp2_with fail
              go_quiet (fail)
              go_wp2_with fail
              go_ret2
              rw [HN.out]
              exact ⟨_, rfl, POn.nil_ _ _, below_drewN HLOWr.out _⟩
    · obtain rfl : i = cnt n := by omega
      have t1 : decide ((cnt n : Int) < (cnt n : Int)) = false := by simp
      have hD := HD.out
      rw [show min n (32 * cnt n) = n by unfold cnt; omega] at hD
      have HLOWr := Lib.hid (HLOW6.out.trans (HK.out.below (by have := HLOW6.out.size; omega) (fun k hk => ⟨by omega, by omega, by omega⟩)))
      obtain ⟨v0, hv0, hvb⟩ := HR.out
      have f0 : wr.cell? ⟨w.heap.size, 0, none⟩ = some v0 := by rw [cell_of_row wr _ 0 _ _ _ hv0]; rfl
      have f1 : wr.cell? ⟨w.heap.size, 1, none⟩ = some (.bool o) := by rw [cell_of_row wr _ 1 _ _ _ hv0]; rfl
      obtain ⟨pv2, cv2, rfl, _, _⟩ := hvb.shape
      obtain ⟨ln, hln⟩ : ∃ n, l.length = n := ⟨_, rfl⟩
      rw [hln] at f0
      cases o with
      | true =>
        have HN := Lib.hid (HNO.out (dst_bad hD (.inl rfl)))
        clear hD hv0 hvb hln HD HHO
        go_wp2_with fail
        go_ret2
        rw [HN.out]
        exact ⟨_, rfl, POn.nil_ _ _, HLOWr.out⟩
      | false =>
        by_cases hl0 : ln = 0
        · have hlnil : l = [] := List.eq_nil_of_length_eq_zero (by omega)
          have hok := HHO.out rfl
          rw [hlnil] at hD
          have hoh : o1 = false := by
            cases ho1 : o1 with
            | false => rfl
            | true =>
              have h0 := hD.1 (HOD5.out ho1)
              cases h0
          have hdec : Dec b ps := by
            rcases HOR.out with e | e
            · rw [hoh] at e; cases e
            · exact dst_good e HST5.out hD hok
          have HY := Lib.hid (HYES.out ps hdec)
          have hxn : xs.length = n := by rw [HM.out.1]; exact hD.2.1
          have HPR := Lib.hid (HP.out.prow hxn (by unfold maxLen; omega) HM.out)
          subst hl0
          clear hD hv0 hvb hln HD HHO hdec hok hlnil
          go_wp2_with fail
          go_ret2
          rw [HY.out]
          exact ⟨_, rfl, HPR.out, HLOWr.out⟩
        · have HN := Lib.hid (HNO.out (dst_bad hD (.inr (fun e => hl0 (by rw [← hln, e]; rfl)))))
          have s1 : decide ((ln : Int) > 0) = true := by rw [decide_eq_true_eq]; omega
          have s2 : 0 < ln := by omega
          clear hD hv0 hvb hln HD HHO hl0
          go_wp2_with fail
          go_ret2
          rw [HN.out]
          exact ⟨_, rfl, POn.nil_ _ _, HLOWr.out⟩
end Go.Proofs.Ytdgjbhejokmeoaa.PW
