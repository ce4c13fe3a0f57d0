/-
  The heads of blocks: the code's. Conditions: what is left lies in blocks that were there; fewer than 2^40 bytes. The law StoredBack: there and back, and no beginning of a row's bytes. No condition but the code's contracts; times that an int holds.
-/
import Derived.Test.YthgfaadlnffpcaaZA37
import Derived.Test.YthgfaadlnffpcaaZA8
import Derived.Test.YthgfaadlnffpcaaZA36
set_option linter.unusedVariables false
namespace Go.Proofs.Ythgfaadlnffpcaa.SR
open Go Go.RowKit Go.Proofs.Ythgfaadlnffpcaa.MM Go.Proofs.Ythgfaadlnffpcaa.VM Go.Proofs.Ythgfaadlnffpcaa.SM

def headC : Codec Head := cPair cInt (cPair cInt cInt)
theorem head_on {S : Nat → Prop} {w : World} {cs : List Value} {x : Head} : headC.on S w cs x ↔ cs = [.int .i64 x.1, .int .i64 x.2.1, .int .i64 x.2.2] := by
  constructor
  · rintro ⟨a, b, rfl, ha, c, d, rfl, hc, hd⟩
    have ha : a = [.int .i64 x.1] := ha
    have hc : c = [.int .i64 x.2.1] := hc
    have hd : d = [.int .i64 x.2.2] := hd
    rw [ha, hc, hd]; rfl
  · rintro rfl
    exact ⟨[_], [_, _], rfl, rfl, [_], [_], rfl, rfl, rfl⟩
theorem headE : Elem headC Try.prog 94 97 24 := ⟨Try.underlying94, by
  have h : (Try.prog.info? 97).map (fun i => (i.zero, i.size, i.bytes)) = some (some (.agg #[.int .i64 0, .int .i64 0, .int .i64 0]), 3, 24) := by kernel_rfl
  obtain ⟨i, h1, h2, h3, h4⟩ := info_parts h
  exact ⟨i, _, h1, h2, h3, h4, rfl⟩⟩
/-- The k-th head. -/
theorem head_at {S : Nat → Prop} {w : World} {p : Option Addr} {n cap : Nat} {hs : List Head} (h : ROn headC S w (.slice p n cap) hs) {k : Nat} (hk : k < hs.length) :
    ∃ b off, p = some ⟨b, off, none⟩ ∧ b < w.heap.size ∧ S b ∧ w.cell? ⟨b, off + k * 3, none⟩ = some (.int .i64 hs[k].1) ∧ w.cell? ⟨b, off + k * 3 + 1, none⟩ = some (.int .i64 hs[k].2.1) ∧ w.cell? ⟨b, off + k * 3 + 2, none⟩ = some (.int .i64 hs[k].2.2) := by
  obtain ⟨b, off, vs, hp, hlt, hS, hon, hc⟩ := h.at_ hk
  rw [head_on] at hon
  subst hon
  exact ⟨b, off, hp, hlt, hS, hc 0 _ rfl, hc 1 _ rfl, hc 2 _ rfl⟩
/-- Heads, and what is left. -/
def HeadsLeft (S : Nat → Prop) (g : Nat) (s : List Head × List UInt8 × Bool) (w : World) (e : Ending) (w' : World) : Prop :=
  ∃ u, e = .returned u ∧ OwnX headC 97 w.heap.size (fun _ => False) w' u s.1 ∧ Rd S w' g s.2.1 s.2.2 ∧ Kep (fun b => b ≠ g) w w'
theorem heads_zero (f : Nat) (l : List UInt8) (o : Bool) : headsSt f 0 l o = ([], l, o) := by cases f <;> simp [headsSt]
theorem heads_next {f n : Nat} {l : List UInt8} {o : Bool} (hn : n ≠ 0) : headsSt (f + 1) n l o =
    let a := numSt 1099511627776 l o
    let b := numSt a.2.1.length a.2.1 a.2.2
    let r := headsSt f (n - 16) b.2.1 b.2.2
    (((((min n 16 : Nat) : Int), ((a.1 : Int), (b.1 : Int))) : Head) :: r.1, r.2) := by
  rw [headsSt, if_neg hn]

set_option maxRecDepth 100000 in
set_option maxHeartbeats 4000000 in
theorem heads_any (S : Nat → Prop) (g : Nat) (l : List UInt8) (o : Bool) (w : World) (h : Rd S w g l o) (hg : ¬ S g) (hS : ∀ b, S b → b < w.heap.size) (hl : l.length ≤ 1099511627776) :
    Calls Try.prog 59 #[.pointer (some ⟨g, 0, none⟩)] w (HeadsLeft S g (headsSt 4096 (numSt 65536 l o).1 (numSt 65536 l o).2.1 (numSt 65536 l o).2.2) w) := by
  have hgw := h.lt
  have HNUM := Lib.hid (fun m l o W (hm : m ≤ 1099511627776) (h : Rd S W g l o) => number_any S g m l o W hm h hg)
  have N0 := HNUM.out 65536 l o w (by omega) h
  have hr0 := num_rest 65536 l o
  have hn0 := num_le 65536 l o
  obtain ⟨⟨n, l1, o1⟩, e1⟩ : ∃ s, numSt 65536 l o = s := ⟨_, rfl⟩
  rw [e1] at N0 hr0 hn0 ⊢
  dsimp only at N0 hr0 hn0 ⊢
  have N0 := Lib.hid N0
  obtain ⟨FIN, hF⟩ : ∃ f, headsSt 4096 n l1 o1 = f := ⟨_, rfl⟩
  have HF0 : Hid ((([] : List Head) ++ (headsSt 4096 ((n : Int).toNat) l1 o1).1, (headsSt 4096 ((n : Int).toNat) l1 o1).2) = FIN) := Lib.hid (by rw [← hF]; rfl)
  rw [hF]
  have HSS := Lib.hid hS
  clear e1 hF h hS
  go_enter Try.func59, Try.ntmps59
  go_wp2_with fail
  refine N0.out.mono ?_
  rintro e w1 ⟨rfl, h1, k1⟩
  have HR1 := Lib.hid h1
  have HK1 := Lib.hid k1
  have HO1 := Lib.hid (OwnX.nil_ (C := headC) 97 w.heap.size (fun _ => False) w1)
  clear h1 k1 N0
  go_wp2_with fail
  go_loopw [3, 4] (fun lv nv wr => ∃ (z : Int) (acc : List Head) (L : List UInt8) (o : Bool) (f : Nat), nv = .int .i64 z ∧ -16 ≤ z ∧ z ≤ 65536 ∧ (z.toNat + 15) / 16 ≤ f ∧ acc.length + f = 4096 ∧ L.length ≤ 1099511627776 ∧ Hid ((acc ++ (headsSt f z.toNat L o).1, (headsSt f z.toNat L o).2) = FIN) ∧ Hid (Rd S wr g L o) ∧ Hid (OwnX headC 97 w.heap.size (fun _ => False) wr lv acc) ∧ Hid (Kep (fun b => b ≠ g) w wr)) (fun _ nv _ => (intOf nv).toNat)
  case atStart => exact ⟨n, [], l1, o1, 4096, rfl, by omega, by omega, by omega, rfl, by omega, HF0, HR1, HO1, HK1⟩
  case round =>
    obtain ⟨z, acc, L, o, f, rfl, hz1, hz2, hf, hacc, hL, HF, HRD, HO, HK⟩ := hrel
    clear HF0 HR1 HO1 HK1
    have hsw := HK.out.size
    obtain ⟨pl, cl, rfl, hlc, hlm, _⟩ := HO.out.any.shape
    by_cases hz : 0 < z
    · have q1 : decide (z > 0) = true := by rw [decide_eq_true_eq]; omega
      have q2 : decide (0 < z) = true := by rw [decide_eq_true_eq]; omega
      obtain ⟨f, rfl⟩ : ∃ k, f = k + 1 := ⟨f - 1, by omega⟩
      have hfin := HF.out
      rw [heads_next (by omega)] at hfin
      dsimp only at hfin
      have C1 := HNUM.out 1099511627776 L o wr (by omega) HRD.out
      have hr1 := num_rest 1099511627776 L o
      have hb1 := num_le 1099511627776 L o
      obtain ⟨⟨a, L1, o1⟩, e1⟩ : ∃ s, numSt 1099511627776 L o = s := ⟨_, rfl⟩
      rw [e1] at hfin C1 hr1 hb1
      dsimp only at hfin C1 hr1 hb1
      obtain ⟨m, hm⟩ : ∃ m, L1.length = m := ⟨_, rfl⟩
      have C2 := fun W (h : Rd S W g L1 o1) => HNUM.out m L1 o1 W (by omega) h
      have hr2 := num_rest m L1 o1
      have hb2 := num_le m L1 o1
      rw [hm] at hfin
      obtain ⟨⟨b, L2, o2⟩, e2⟩ : ∃ s, numSt m L1 o1 = s := ⟨_, rfl⟩
      rw [e2] at hfin C2 hr2 hb2
      dsimp only at hfin C2 hr2 hb2
      obtain ⟨k, hk⟩ : ∃ k : Nat, min z.toNat 16 = k := ⟨_, rfl⟩
      rw [hk] at hfin
      have hmin1 : min z 16 = (k : Int) := by omega
      have hmin2 : (if (16 : Int) < z then 16 else z) = (k : Int) := by split <;> omega
      have C1 := Lib.hid C1
      have C2 := Lib.hid C2
      have HFN : Hid ((acc ++ [(((k : Nat) : Int), ((a : Int), (b : Int)))] ++ (headsSt f ((z - 16).toNat) L2 o2).1, (headsSt f ((z - 16).toNat) L2 o2).2) = FIN) := Lib.hid (by
        rw [← hfin, show (z - 16).toNat = z.toNat - 16 by omega]
        simp only [List.append_assoc, List.singleton_append])
      have HL1 := Lib.hid hm
      have hL2 : L2.length ≤ 1099511627776 := by omega
      have hw16 : IntKind.i64.wrap (z - 16) = z - 16 := by rw [IntKind.wrap_i64]; omega
      clear e1 e2 hfin hm HF HRD hk hr1 hr2 hL
      go_wp2_with fail
      refine C1.out.mono ?_
      rintro e w2 ⟨rfl, h2, k2⟩
      have hs2 := k2.size
      have HC2 := Lib.hid (C2.out w2 h2)
      obtain ⟨v0, hc0, hv0⟩ := h2
      obtain ⟨p0, c0, rfl, _⟩ := hv0.shape
      have f0 : w2.cell? ⟨g, 0, none⟩ = some (.slice p0 L1.length c0) := by rw [cell_of_row w2 g 0 _ _ _ hc0]; rfl
      rw [HL1.out] at f0
      have HO2 := Lib.hid (HO.out.keep k2 (fun _ _ h => h.elim) (fun b hb e => by have := (HO.out.cells hb).1; omega))
      have HK2 := Lib.hid (HK.out.trans k2)
      clear hc0 hv0 k2 C1 C2 HO HK
      go_wp2_with fail
      refine HC2.out.mono ?_
      rintro e w3 ⟨rfl, h3, k3⟩
      have hs3 := k3.size
      have o3 := HO2.out.keep k3 (fun _ _ h => h.elim) (fun b hb e => by have := (HO2.out.cells hb).1; omega)
      have k03 := HK2.out.trans k3
      obtain ⟨w4, hw4⟩ : ∃ W, w3.alloc (.cells #[.int .i64 (k : Int), .int .i64 (a : Int), .int .i64 (b : Int)] 97) = W := ⟨_, rfl⟩
      have hb4 : Below w3.heap.size w3 w4 := by rw [← hw4]; exact (Below.refl _ _).alloc (Nat.le_refl _) _
      have hs4 := hb4.size
      have HO4 := Lib.hid (o3.keep (kep_below (fun _ => True) hb4) (fun _ _ h => h.elim) (fun _ _ => trivial))
      have hsr := src_lit (C := headC) (S := fun _ => False) (w := w3) (vs := [.int .i64 (k : Int), .int .i64 (a : Int), .int .i64 (b : Int)]) (d := ((k : Int), ((a : Int), (b : Int)))) 97 (head_on.2 rfl)
      rw [hw4] at hsr
      have HS4 := Lib.hid hsr
      have HR4 := Lib.hid (h3.below hb4)
      have HK4 := Lib.hid (k03.trans (kep_below _ hb4))
      have HW4 := Lib.hid hw4
      have HLT : Hid (acc.length + 1 ≤ 4096) := Lib.hid (by omega)
      clear hw4 hb4 hsr h3 k3 o3 k03 HO2 HK2 HC2 f0
      go_wp2_with (at_builtin; go_loud (rw [HW4.out]; refine wpList_append_x headE rfl _ _ rfl w.heap.size (.slice pl acc.length cl) acc rfl HO4.out (fun _ _ h => h.elim) _ [((k : Int), ((a : Int), (b : Int)))] rfl HS4.out (by unfold maxLen; have := HLT.out; simp; omega) (by have := HLT.out; simp; omega) (by omega) ?_; intro v7 w7 ho7 hb7 hk7; obtain ⟨p7, c7, rfl, _⟩ := ho7.any.shape; have HO7 := Lib.hid ho7; have hown : ∀ b, (Value.slice pl acc.length cl).ownBlock = some b → w.heap.size ≤ b := fun b hb => (HO4.out.cells hb).1; have HR7 := Lib.hid (HR4.out.keep hk7 (fun e => by have := hown _ e; omega) (fun b _ hs e => by have := hown _ e; have := HSS.out b hs; omega)); have HK7 := Lib.hid (HK4.out.andThen hk7 fun i hi _ e => by have := hown _ e; omega); clear ho7 hb7 hk7 HO4 HS4 HR4 HK4 hown))
      rw [show (acc ++ [((k : Int), ((a : Int), (b : Int)))]).length = acc.length + 1 by simp] at HO7
      go_roundw
      case rel => exact ⟨z - 16, acc ++ [((k : Int), ((a : Int), (b : Int)))], L2, o2, f, rfl, by omega, by omega, by omega, by simp; omega, hL2, HFN, HR7, HO7, HK7⟩
      case measure => simp [intOf]; omega
    · have q1 : decide (z > 0) = false := by rw [decide_eq_false_iff_not]; omega
      have q2 : decide (0 < z) = false := by rw [decide_eq_false_iff_not]; omega
      have hfin := HF.out
      rw [show z.toNat = 0 by omega, heads_zero, List.append_nil] at hfin
      subst hfin
      clear HF hz
      go_wp2_with fail
      go_ret
      exact ⟨_, rfl, HO.out, HRD.out, HK.out⟩
end Go.Proofs.Ythgfaadlnffpcaa.SR
set_option linter.unusedVariables false
namespace Go.Proofs.Ythgfaadlnffpcaa.ST
open Go Go.RowKit Go.Proofs.Ythgfaadlnffpcaa.MM Go.Proofs.Ythgfaadlnffpcaa.EM Go.Proofs.Ythgfaadlnffpcaa.SM
open Go.Proofs.Ythgfaadlnffpcaa.EV (docC evC fldC doc_at doc_on docE BoolLeft IntLeft samedocs_any)

set_option maxRecDepth 100000 in
set_option maxHeartbeats 1000000 in
theorem back_call (O : Owes) (u v : Value) (l : List Doc) (bs : List UInt8) (at_ : Nat) (w : World) (hu : RAny docC w u l) (hv : BRow w v bs) (hf : FitS l) (hat : at_ ≤ 65535) : Calls Try.prog 5 #[u, v, .int .u16 at_] w (Held w) := by
  have HF1 := Lib.hid (few_any w.heap.size u l w hu.bel (Nat.le_refl _))
  have HV := Lib.hid hv
  have HO := Lib.hid O
  have HFF := Lib.hid (few_fit hf)
  obtain ⟨pu, cu, rfl, _⟩ := hu.shape
  obtain ⟨pv, cv, rfl, _⟩ := hv.shape
  clear hu hv hf
  go_enter Try.func5, Try.ntmps5
  go_wp2_with fail
  refine HF1.out.mono ?_
  rintro e w1 ⟨u1, b1, rfl, ho1, hb1⟩
  have HU1 := Lib.hid ho1.any
  have HFT := Lib.hid (HFF.out b1)
  generalize (if b1 = true then l.take 40 else []) = L1 at HU1 HFT
  have HB1 := Lib.hid hb1
  have HV1 := Lib.hid (show BIn w1.heap.size w1 _ bs from BIn.mono (BIn.below HV.out hb1) hb1.size)
  have HAW := Lib.hid (fun W => awake_any HO.out W)
  clear ho1 hb1 HF1 HV HFF
  cases b1 with
  | false =>
    clear HU1 HV1
    go_wp2_with fail
    refine (HAW.out w1).mono ?_
    rintro e w8 ⟨rfl, hb8⟩
    have HB8 := Lib.hid (below2 HB1.out hb8)
    clear hb8 HAW HB1
    go_wp2_with fail
    go_ret
    exact ⟨rfl, HB8.out⟩
  | true =>
    have HE1 := Lib.hid (HO.out.enc _ L1 w1 HU1.out HFT.out)
    have hS : isS L1 = true ∨ isS L1 = false := by cases isS L1 <;> simp
    go_wp2_with fail
    refine HE1.out.mono ?_
    rintro e w2 ⟨x, rfl, hx, hb2⟩
    have HU2 := Lib.hid (HU1.out.below hb2)
    have HV2 := Lib.hid (show BIn w2.heap.size w2 _ bs from BIn.mono (BIn.below HV1.out hb2) hb2.size)
    have HB2 := Lib.hid (below2 HB1.out hb2)
    clear hb2 HE1 HU1 HV1 HB1
    rcases hS with hS | hS
    case' inl =>
      rw [if_pos hS] at hx
      rw [if_pos hS]
      have HX := Lib.hid hx
      have hlen := encS_len hS
      have hpart := fun k (hk : k < (encS L1).length) => decS_part hS HFT.out hk
      have hput := decS_put hS HFT.out
      have hmost := encS_most hS
      obtain ⟨X, hX⟩ : ∃ X, encS L1 = X := ⟨_, rfl⟩
      rw [hX] at HX hlen hpart hput hmost
      have HMOST := Lib.hid hmost
      have HD := Lib.hid (HO.out.dec x X w2 HX.out hmost)
      rw [hput, show errD (some L1) = 0 from rfl] at HD
      have HP := Lib.hid hpart
      clear hX hpart hput hx hS hmost
      obtain ⟨px, cx, hpx, hcx1, hcx2⟩ := HX.out.shape
      unfold maxLen at hcx2
      subst hpx
      obtain ⟨nX, hnX⟩ : ∃ n, X.length = n := ⟨_, rfl⟩
      have HNX := Lib.hid hnX
      rw [hnX] at HX HD hlen hcx1 ⊢
      have hpos : 0 < nX := by omega
      have q0 : ((nX : Int) == 0) = false := by rw [beq_eq_false_iff_ne]; omega
      obtain ⟨m, hm⟩ : ∃ m, at_ % nX = m := ⟨_, rfl⟩
      have hml : m < nX := by rw [← hm]; exact Nat.mod_lt _ hpos
      have e1 : (at_ : Int) % (nX : Int) = (m : Int) := by rw [← hm]; rfl
      have e2 : Int.tmod (at_ : Int) (nX : Int) = (m : Int) := by rw [Int.tmod_eq_emod_of_nonneg (by omega)]; exact e1
      have e3 : IntKind.i64.wrap (at_ : Int) = (at_ : Int) := by rw [IntKind.wrap_i64]; omega
      have e4 : IntKind.i64.wrap (m : Int) = (m : Int) := by rw [IntKind.wrap_i64]; omega
      clear hnX hlen hm
      go_wp2_with fail
      refine HD.out.mono ?_
      rintro e w3 ⟨k3, rfl, hk3, hb3⟩
      have hk3 : RAny docC w3 k3 L1 := hk3
      have hU3 := HU2.out.below hb3
      have hsm := samedocs_any k3 u1 L1 L1 w3 hk3 hU3
      rw [decide_eq_true rfl] at hsm
      have HSM := Lib.hid hsm
      have HX3 := Lib.hid (show BIn w3.heap.size w3 _ X from BIn.mono (BIn.below HX.out hb3) hb3.size)
      have HV3 := Lib.hid (show BIn w3.heap.size w3 _ bs from BIn.mono (BIn.below HV2.out hb3) hb3.size)
      have HB3 := Lib.hid (below2 HB2.out hb3)
      obtain ⟨pk, ck, hpk, _⟩ := hk3.shape
      obtain ⟨p1, c1, hp1, _⟩ := hU3.shape
      subst hpk hp1
      clear hk3 hU3 hsm hb3 HD HU2 HX HV2 HB2
      go_wp2_with fail
      refine HSM.out.mono ?_
      rintro e w4 ⟨rfl, hb4⟩
      have HX4 := Lib.hid (show BIn w4.heap.size w4 _ X from BIn.mono (BIn.below HX3.out hb4) hb4.size)
      have HV4 := Lib.hid (show BIn w4.heap.size w4 _ bs from BIn.mono (BIn.below HV3.out hb4) hb4.size)
      have HB4 := Lib.hid (below2 HB3.out hb4)
      have hx4 := BIn.take HX4.out m (Nat.le_of_lt hml)
      have HD2 := Lib.hid (HO.out.dec _ (X.take m) w4 hx4 (by have := HMOST.out; rw [List.length_take]; omega))
      rw [HP.out m (by rw [HNX.out]; exact hml), show errD none = 120 from rfl] at HD2
      have j1 : (0 : Int) ≤ (m : Int) := by omega
      have j2 : (m : Int) ≤ (cx : Int) := by omega
      have j3 : m ≤ cx := by omega
      clear hb4 hx4 HX3 HV3 HB3 HSM HX4 HP
      go_wp2_with fail
      refine HD2.out.mono ?_
      rintro e w5 ⟨k5, rfl, _, hb5⟩
      have HV5 := Lib.hid (show BIn w5.heap.size w5 _ bs from BIn.mono (BIn.below HV4.out hb5) hb5.size)
      have HB5 := Lib.hid (below2 HB4.out hb5)
      clear hb5 HD2 HV4 HB4 HNX e1 e2 e3 e4
    case' inr =>
      rw [hS, if_neg (by simp)]
      obtain ⟨w5, hw5⟩ : ∃ W, w2 = W := ⟨_, rfl⟩
      subst hw5
      have HV5 := HV2
      have HB5 := HB2
      clear HV2 HB2 hx hS HU2
    all_goals
      have HC := Lib.hid (lcut_any _ _ bs _ HV5.out)
      clear HV5
      go_wp2_with fail
      refine HC.out.mono ?_
      rintro e w6 ⟨v6, rfl, hv6, rfl⟩
      have HV6 := Lib.hid hv6
      have HB9 : Hid ((bs.take 900).length ≤ 900) := Lib.hid (by rw [List.length_take]; omega)
      generalize bs.take 900 = B2 at HV6 HB9
      have HD := Lib.hid (HO.out.dec v6 B2 _ HV6.out (by have := HB9.out; omega))
      have hback := fun M (h : decS B2 = some M) => decS_back h
      have HBK := Lib.hid hback
      clear hv6 hback HC
      go_wp2_with fail
      refine HD.out.mono ?_
      rintro e w7 ⟨k7, rfl, hk7, hb7⟩
      have HB7 := Lib.hid (below2 HB5.out hb7)
      have HV7 := Lib.hid (show BIn w7.heap.size w7 _ B2 from BIn.mono (BIn.below HV6.out hb7) hb7.size)
      have HK7 := Lib.hid hk7
      clear hk7 hb7 HD HB5 HV6
      obtain ⟨o, ho⟩ : ∃ o, decS B2 = o := ⟨_, rfl⟩
      rw [ho] at HK7 HBK
      rw [ho]
      clear ho
      cases o with
      | none =>
        have hk : RAny docC w7 k7 [] := HK7.out
        obtain ⟨pk, ck, hpk, _⟩ := hk.shape
        subst hpk
        rw [show errD none = 120 from rfl]
        clear hk HK7 HBK HV7
        go_wp2_with fail
        refine (HAW.out w7).mono ?_
        rintro e w8 ⟨rfl, hb8⟩
        have HB8 := Lib.hid (below2 HB7.out hb8)
        clear hb8 HAW HB7
        go_wp2_with fail
        go_ret
        exact ⟨rfl, HB8.out⟩
      | some M =>
        have hk : RAny docC w7 k7 M := HK7.out
        obtain ⟨hi1, hi2', hi3'⟩ := HBK.out M rfl
        have HE := Lib.hid (HO.out.enc k7 M w7 hk hi2')
        rw [if_pos hi1, if_pos hi1, hi3'] at HE
        rw [show errD (some M) = 0 from rfl]
        clear hk HK7 HBK hi1 hi2' hi3'
        go_wp2_with fail
        refine HE.out.mono ?_
        rintro e w9 ⟨y, rfl, hy, hb9⟩
        have k1 := BIn.conv hy
        have k2 := BIn.conv (show BIn w9.heap.size w9 v6 B2 from BIn.mono (BIn.below HV7.out hb9) hb9.size)
        have hsl := same_list B2 B2
        rw [decide_eq_true rfl] at hsl
        have q1 : (B2 == B2) = true := by simp
        obtain ⟨py, cy, hpy, _⟩ := hy.shape
        subst hpy
        obtain ⟨pz, cz, hpz, _⟩ := HV7.out.shape
        subst hpz
        have HB9 := Lib.hid (below2 HB7.out hb9)
        clear hy hb9 HE HV7 HB7
        go_wp2_with fail
        refine (HAW.out w9).mono ?_
        rintro e w8 ⟨rfl, hb8⟩
        have HB8 := Lib.hid (below2 HB9.out hb8)
        clear hb8 HAW HB9
        go_wp2_with fail
        go_ret
        exact ⟨rfl, HB8.out⟩
end Go.Proofs.Ythgfaadlnffpcaa.ST
