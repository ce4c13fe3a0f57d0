/-
  A disk whose blocks all lie from a block B on: what each call of the code leaves of it. Condition: names and bytes are no longer than memory bears.
-/
import Derived.Test.YtljfpolcgegkpaaDskRestart
set_option linter.unusedVariables false
namespace Go.Proofs.Ytljfpolcgegkpaa.DK
open Go.RowKit Go.Proofs.Ytljfpolcgegkpaa.MM Go.Maps

/-- The pointer to block g is a disk that stands as d, all of whose blocks lie from B on. -/
def Disk (B : Nat) (w : World) (g : Nat) (d : DiskD) : Prop := ∃ S mb V c, CObj S w g mb V c d ∧ ∀ k, S k → B ≤ k
theorem Disk.below {B : Nat} {w w' : World} {g : Nat} {d : DiskD} (h : Disk B w g d) (hb : Below w.heap.size w w') : Disk B w' g d := by
  obtain ⟨S, mb, V, c, ho, hS⟩ := h
  exact ⟨S, mb, V, c, ho.below hb, hS⟩
def OneC (B g : Nat) (r : DiskD × Int) (w : World) (e : Ending) (w' : World) : Prop := e = .returned (.int .i64 r.2) ∧ Disk B w' g r.1 ∧ Below B w w'
theorem one_of_done {B g mb : Nat} {r : DiskD × Int} {S : Nat → Prop} {w : World} (hB : B ≤ w.heap.size) (hS : ∀ k, S k → B ≤ k) {e : Ending} {w' : World} (h : DoneC g mb r S w e w') : OneC B g r w e w' := by
  obtain ⟨rfl, S', V', c', ho, hx⟩ := h
  exact ⟨rfl, ⟨S', mb, V', c', ho, fun k hk => (hx.new k hk).elim (hS k) fun h => by omega⟩, hx.kep.below hB fun k hk h => by have := hS k h; omega⟩
theorem dnew (w : World) (q : Int) (h0 : 0 ≤ q) : Calls Try.prog 8 #[.int .i64 q] w fun e w' => ∃ g, e = .returned (.tuple #[.pointer (some ⟨g, 0, none⟩), .int .i64 0]) ∧ Disk w.heap.size w' g (newD q) ∧ Below w.heap.size w w' := by
  refine (cnew_any q w h0).mono ?_
  rintro e w' ⟨S, g, mb, V, he, ho, hS, hb⟩
  exact ⟨g, he, ⟨S, mb, V, 0, ho, hS⟩, hb⟩
theorem dappend {B : Nat} {w : World} {g : Nat} {d : DiskD} (h : Disk B w g d) (hB : B ≤ w.heap.size) (hF : Fits d) (n : List UInt8) (hn : n.length ≤ 1000000000000) (vb : Value) (b : List UInt8) (hb : BRow w vb b) (hbl : b.length ≤ 100000000000) :
    Calls Try.prog 25 #[.pointer (some ⟨g, 0, none⟩), .string ⟨n.toArray⟩, vb] w (OneC B g (appendD d n b) w) := by
  obtain ⟨S, mb, V, c, ho, hS⟩ := h
  exact (cappend_any S g mb V c d n vb b w ho hF hF.used hn hb hbl).mono fun e w' hd => one_of_done hB hS hd
theorem dsync {B : Nat} {w : World} {g : Nat} {d : DiskD} (h : Disk B w g d) (hB : B ≤ w.heap.size) (hF : Fits d) (n : List UInt8) (hn : n.length ≤ 1000000000000) :
    Calls Try.prog 22 #[.pointer (some ⟨g, 0, none⟩), .string ⟨n.toArray⟩] w (OneC B g (syncD d n) w) := by
  obtain ⟨S, mb, V, c, ho, hS⟩ := h
  exact (csync_any S g mb V c d n w ho hF hn).mono fun e w' hd => one_of_done hB hS hd
theorem drestart {B : Nat} {w : World} {g : Nat} {d : DiskD} (h : Disk B w g d) (hB : B ≤ w.heap.size) (hF : Fits d) (vk : Value) (ks : List Int) (hk : IRow w vk ks) (hks : ∀ k ∈ ks, -9223372036854775808 ≤ k ∧ k ≤ 9223372036854775807) (hkl : ks.length ≤ 1000000000000) :
    Calls Try.prog 14 #[.pointer (some ⟨g, 0, none⟩), vk] w fun e w' => e = .returned (.tuple #[]) ∧ Disk B w' g (restartD d ks) ∧ Below B w w' := by
  obtain ⟨S, mb, V, c, ho, hS⟩ := h
  refine (crestart_any S g mb V c d vk ks w ho hF hk hks hkl).mono ?_
  rintro e w' ⟨he, ⟨V', ho'⟩, hk'⟩
  exact ⟨he, ⟨S, mb, V', 0, ho', hS⟩, hk'.below hB fun k hk h => by have := hS k h; omega⟩
theorem dread {B : Nat} {w : World} {g : Nat} {d : DiskD} (h : Disk B w g d) (hF : Fits d) (n : List UInt8) (hn : n.length ≤ 1000000000000) (a m : Int)
    (ha0 : -9223372036854775808 ≤ a) (ha1 : a ≤ 9223372036854775807) (hm0 : -9223372036854775808 ≤ m) (hm1 : m ≤ 9223372036854775807) :
    Calls Try.prog 15 #[.pointer (some ⟨g, 0, none⟩), .string ⟨n.toArray⟩, .int .i64 a, .int .i64 m] w (PartC (creadD d n a m) w) := by
  obtain ⟨S, mb, V, c, ho, hS⟩ := h
  exact cread_any S g mb V c d n a m w ho hF hn ha0 ha1 hm0 hm1
theorem ddurable {B : Nat} {w : World} {g : Nat} {d : DiskD} (h : Disk B w g d) (n : List UInt8) (hn : n.length ≤ 1000000000000) :
    Calls Try.prog 17 #[.pointer (some ⟨g, 0, none⟩), .string ⟨n.toArray⟩] w fun e w' => e = .returned (.int .i64 (curS d n : Int)) ∧ w = w' := by
  obtain ⟨S, mb, V, c, ho, hS⟩ := h
  exact cdurable_any S g mb V c d n w ho hn
set_option maxRecDepth 100000 in
theorem dlist {B : Nat} {w : World} {g : Nat} {d : DiskD} (h : Disk B w g d) (hF : Fits d) :
    Calls Try.prog 18 #[.pointer (some ⟨g, 0, none⟩)] w fun e w' => ∃ v, e = .returned v ∧ SIn w'.heap.size w' v (if d.stopped then [] else d.L.map (·.name)) ∧ Below w.heap.size w w' := by
  obtain ⟨S, mb, V, c, ho, hS⟩ := h
  have h3 := ho.g3
  have HN := Lib.hid (names_any S g mb V c d w ho hF)
  clear ho hS hF
  generalize d.L.map (·.name) = ns at *
  generalize d.stopped = st at *
  cases st with
  | true =>
    have HF := Lib.hid (show ∃ v, Ending.returned (.slice none 0 0) = .returned v ∧ SIn w.heap.size w v [] ∧ Below w.heap.size w w from ⟨_, rfl, SIn.nil_ _ _, Below.refl _ _⟩)
    clear HN
    go_enter Try.func18, Try.ntmps18
    go_wp2_with fail
    go_ret
    exact HF.out
  | false =>
    go_enter Try.func18, Try.ntmps18
    go_wp2_with fail
    refine HN.out.mono ?_
    rintro e w1 ⟨v, rfl, hs, hb⟩
    have HF := Lib.hid (show ∃ u, Ending.returned v = .returned u ∧ SIn w1.heap.size w1 u ns ∧ Below w.heap.size w w1 from ⟨_, rfl, hs, hb⟩)
    clear hs hb
    go_wp2_with fail
    go_ret
    exact HF.out
end Go.Proofs.Ytljfpolcgegkpaa.DK
