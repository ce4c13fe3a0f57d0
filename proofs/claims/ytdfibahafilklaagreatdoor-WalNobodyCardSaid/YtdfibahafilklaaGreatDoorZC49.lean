import Derived.Test.YtdfibahafilklaaGreatDoorZC45
import Derived.Test.YtdfibahafilklaaGreatDoorZC48
import Derived.Test.YtdfibahafilklaaGreatDoorZC42
set_option maxRecDepth 100000
set_option maxHeartbeats 8000000
set_option linter.unusedVariables false
set_option linter.unusedSimpArgs false
namespace Go.Proofs.YtdfibahafilklaaGreatDoor.WL
open Go Go.RowKit Go.Shelf Go.Maps MM WM DK BR EM
open EV (batC evC EvS EvB IsF)
open RF (VowsT GrowsT FreeT TagT LeftT rangeT_ Steady boxed_kep boxed_below)
attribute [local go_sem] Oper.semAt_some
noncomputable def accR (d:DiskD) (fr nx:Int) (pre:List Nat):List Bat×Bool:=((aboveL fr pre).map fun n=>toldW (bytesW d n)).foldl (repC nx) ([],false)
theorem acc_low (d:DiskD) {fr:Int} (nx:Int) (pre:List Nat) {x:Nat} (h:(x:Int)<fr):accR d fr nx (pre++[x])=accR d fr nx pre:=by
 have e:([x]:List Nat).filter (fun n:Nat=>decide (fr≤(n:Int)))=[]:=List.filter_cons_of_neg (by simp;omega)
 unfold accR aboveL
 rw [List.filter_append,e,List.append_nil]
theorem acc_high (d:DiskD) {fr:Int} (nx:Int) (pre:List Nat) {x:Nat} (h:¬ (x:Int)<fr):accR d fr nx (pre++[x])=repC nx (accR d fr nx pre) (toldW (bytesW d x)):=by
 have e:([x]:List Nat).filter (fun n:Nat=>decide (fr≤(n:Int)))=[x]:=List.filter_cons_of_pos (by simp;omega)
 unfold accR aboveL
 rw [List.filter_append,e,List.map_append,List.foldl_append]
 rfl
theorem acc_all (d:DiskD) (fr nx:Int) (pre:List Nat):(accR d fr nx pre).1=replL d pre fr nx:=by
 unfold accR replL
 exact rep_files fun f hf=>by
  obtain ⟨n,_,rfl⟩:=List.mem_map.1 hf
  exact told_follow _
theorem last_snoc (pre:List Nat) (x:Nat):lastL (pre++[x])=(x:Int):=by
 unfold lastL
 rw [List.getLast?_append]
 rfl
theorem rep_same {nx:Int} {acc:List Bat} {b:Bat} {r:List Bat} (h:b.1=behindW acc nx):repC nx (acc,false) (b::r)=(acc++b::r,false):=by unfold repC;rw [if_neg (by simp)];dsimp only;rw [if_pos h]
theorem rep_other {nx:Int} {acc:List Bat} {b:Bat} {r:List Bat} (h:b.1≠behindW acc nx):repC nx (acc,false) (b::r)=(acc,true):=by unfold repC;rw [if_neg (by simp)];dsimp only;rw [if_neg h]
structure RepB (w:World) (g A D:Nat) (fr nx:Int) (v:Value) (last:Int) (en:Bool) (W:World):Prop where
 d:Boxed W w.heap.size 40 (.pointer (some ⟨g,0,none⟩))
 fr:Boxed W (w.heap.size+1) 3 (.int .i64 fr)
 nx:Boxed W (w.heap.size+2) 3 (.int .i64 nx)
 r0:Boxed W (w.heap.size+3) 32 (.slice none 0 0)
 r1:Boxed W (w.heap.size+4) 3 (.int .i64 0)
 r2:Boxed W (w.heap.size+5) 22 (.int .i64 0)
 all:Boxed W A 32 v
 last:Boxed W (A+1) 3 (.int .i64 last)
 en:Boxed W (A+2) 4 (.bool en)
 bel:Below w.heap.size w W
 lo:w.heap.size+6≤A
 hi:A+3≤D
 sz:D≤W.heap.size
theorem RepB.keep {w:World} {g A D:Nat} {fr nx last:Int} {v:Value} {en:Bool} {W W':World} {T:Nat→Prop} (h:RepB w g A D fr nx v last en W) (hk:Kep T W W') (hT:∀ b,b<D→T b):RepB w g A D fr nx v last en W':=by
 have hl:=h.lo
 have hh:=h.hi
 have hb:=h.bel.size
 exact ⟨boxed_kep h.d hk (hT _ (by omega)),boxed_kep h.fr hk (hT _ (by omega)),boxed_kep h.nx hk (hT _ (by omega)),boxed_kep h.r0 hk (hT _ (by omega)),boxed_kep h.r1 hk (hT _ (by omega)),boxed_kep h.r2 hk (hT _ (by omega)),
  boxed_kep h.all hk (hT _ (by omega)),boxed_kep h.last hk (hT _ (by omega)),boxed_kep h.en hk (hT _ (by omega)),h.bel.trans (hk.below hb fun k hk=>hT k (by omega)),hl,hh,Nat.le_trans h.sz hk.size⟩
theorem RepB.below {w:World} {g A D:Nat} {fr nx last:Int} {v:Value} {en:Bool} {W W':World} (h:RepB w g A D fr nx v last en W) (hb:Below W.heap.size W W'):RepB w g A D fr nx v last en W':=h.keep (kep_below (fun _=>True) hb) fun _ _=>trivial
theorem RepB.setLast {w:World} {g A D:Nat} {fr nx last:Int} {v:Value} {en:Bool} {W:World} (h:RepB w g A D fr nx v last en W) (z:Int):RepB w g A D fr nx v z en (W.setCell ⟨A+1,0,none⟩ (.int .i64 z)):=by
 have hl:=h.lo
 have hh:=h.hi
 have hb:=h.bel.size
 have hk:Kep (fun b=>b≠A+1) W (W.setCell ⟨A+1,0,none⟩ (.int .i64 z)):=kep_set0 _
 exact ⟨boxed_kep h.d hk (by omega),boxed_kep h.fr hk (by omega),boxed_kep h.nx hk (by omega),boxed_kep h.r0 hk (by omega),boxed_kep h.r1 hk (by omega),boxed_kep h.r2 hk (by omega),
  boxed_kep h.all hk (by omega),h.last.set _,boxed_kep h.en hk (by omega),h.bel.trans (hk.below hb fun k hk=>by omega),hl,hh,Nat.le_trans h.sz hk.size⟩
theorem RepB.setEn {w:World} {g A D:Nat} {fr nx last:Int} {v:Value} {en:Bool} {W:World} (h:RepB w g A D fr nx v last en W) (z:Bool):RepB w g A D fr nx v last z (W.setCell ⟨A+2,0,none⟩ (.bool z)):=by
 have hl:=h.lo
 have hh:=h.hi
 have hb:=h.bel.size
 have hk:Kep (fun b=>b≠A+2) W (W.setCell ⟨A+2,0,none⟩ (.bool z)):=kep_set0 _
 exact ⟨boxed_kep h.d hk (by omega),boxed_kep h.fr hk (by omega),boxed_kep h.nx hk (by omega),boxed_kep h.r0 hk (by omega),boxed_kep h.r1 hk (by omega),boxed_kep h.r2 hk (by omega),
  boxed_kep h.all hk (by omega),boxed_kep h.last hk (by omega),h.en.set _,h.bel.trans (hk.below hb fun k hk=>by omega),hl,hh,Nat.le_trans h.sz hk.size⟩
theorem RepB.setAll {w:World} {g A D:Nat} {fr nx last:Int} {v:Value} {en:Bool} {W:World} (h:RepB w g A D fr nx v last en W) (u:Value):RepB w g A D fr nx u last en (W.setCell ⟨A,0,none⟩ u):=by
 have hl:=h.lo
 have hh:=h.hi
 have hb:=h.bel.size
 have hk:Kep (fun b=>b≠A) W (W.setCell ⟨A,0,none⟩ u):=kep_set0 _
 exact ⟨boxed_kep h.d hk (by omega),boxed_kep h.fr hk (by omega),boxed_kep h.nx hk (by omega),boxed_kep h.r0 hk (by omega),boxed_kep h.r1 hk (by omega),boxed_kep h.r2 hk (by omega),
  h.all.set _,boxed_kep h.last hk (by omega),boxed_kep h.en hk (by omega),h.bel.trans (hk.below hb fun k hk=>by omega),hl,hh,Nat.le_trans h.sz hk.size⟩
def RepI (w:World) (d:DiskD) (g A D:Nat) (fr nx:Int) (pre:List Nat) (W:World):Prop :=
 ∃ v acc en,RepB w g A D fr nx v (lastL pre) en W∧BatsOwn D W v acc∧accR d fr nx pre=(acc,en)∧acc.length≤67108864*pre.length∧∀ x∈acc,BatOk x
theorem repI_steady (w:World) (d:DiskD) (g A D:Nat) (fr nx:Int):Steady D 40 (RepI w d g A D fr nx):=fun pre W W' T ⟨v,acc,en,hb,ho,h1,h2,h3⟩ hk hT hc=>by
 refine ⟨v,acc,en,hb.keep hk hT,ho.keep hk (fun b hb => ?_) (fun q hq => ?_),h1,h2,h3⟩
 ·rcases hb.2 with ⟨cur,fr,h⟩ | ⟨cur,fr,h⟩
  ·exact hc b cur _ fr h (by decide)
  ·exact hc b cur _ fr h (by decide)
 ·obtain ⟨_,_,cur,fr,h⟩:=OwnX.cells ho hq
  exact hc q cur _ fr h (by decide)
theorem never_steady (D:Nat):Steady D 40 (fun (_:List Nat) (_:World)=>False):=fun _ _ _ _ h _ _ _=>h.elim
theorem own_const (D:Nat) (p:Nat→Prop):OwnFrom D (fun x (_:World)=>p x):=fun x W W' row h _ _=>h
def RepLeft (d:DiskD) (fr nx:Int) (w:World) (e:Ending) (w':World):Prop :=
 ∃ v,e=.returned (.tuple #[v,.int .i64 (lastL (logsW d)),.int .i64 0])∧BatsOwn w.heap.size w' v (replW d fr nx)∧(replW d fr nx).length≤100000000000∧Below w.heap.size w w'
theorem read_log {d:DiskD} (hF:Fits d) {x:Nat} (hx:x∈logsW d):creadD d (nameW x) 0 67108864=(bytesW d x,0)∧(bytesW d x).length≤67108864:=by
 obtain ⟨f,hf,hb⟩:=log_find hF.good hx
 have hst:=(log_mem hx).2.1
 have hlen:=hF.bytes f (find_mem hf).1
 have hcb:curB d (nameW x)=f.b:=by unfold curB;rw [hf];rfl
 refine ⟨?_,by rw [hb];exact hlen⟩
 unfold creadD
 rw [nameW_ok,hst,hf,if_pos (show findE true false (some f).isSome=0 from rfl),hcb,hb]
 unfold partD
 rw [if_neg (by omega)]
 simp
 exact List.take_of_length_le hlen
def TurnX (A:Nat) (v:Value) (b:Nat):Prop:=b≠A∧b≠A+1∧b≠A+2∧v.ownBlock≠some b
theorem rep_left {A D:Nat} {T:Nat→Prop} {v:Value} {acc:List Bat} {W W':World} (ho:BatsOwn D W v acc) (hA:A+3≤D) (hT:∀ k,T k→k<D∧k≠A∧k≠A+1∧k≠A+2) (hk:Kep (TurnX A v) W W') :
  KeepsFrom D W W'∧Kep (TagT T D 82 W) W W':=by
 refine ⟨⟨hk.size,fun k o hD hh hc => ?_⟩,hk.mono' fun b hb ht => ?_⟩
 ·have hlt:=(Array.getElem?_eq_some_iff.1 hh).1
  rw [hk.block k hlt ⟨by omega,by omega,by omega,fun e=>by
   obtain ⟨_,_,cur,fr,h⟩:=OwnX.cells ho e
   rw [h] at hh
   cases hh
   cases hc⟩]
  exact hh
 ·rcases ht with h | ⟨hD,cur,t,fr,h,hne⟩
  ·obtain ⟨h1,h2,h3,h4⟩:=hT b h
   exact ⟨h2,h3,h4,fun e=>by have:=(OwnX.cells ho e).1;omega⟩
  ·refine ⟨by omega,by omega,by omega,fun e => ?_⟩
   obtain ⟨_,_,cur',fr',h'⟩:=OwnX.cells ho e
   rw [h'] at h
   simp only [Option.some.injEq,Obj.cells.injEq] at h
   exact hne h.2.1.symm
theorem turn_below {A:Nat} {v:Value} {W W':World} (hb:Below W.heap.size W W'):Kep (TurnX A v) W W':=kep_below _ hb
theorem turn_last {A:Nat} {v:Value} {W:World} (z:Value):Kep (TurnX A v) W (W.setCell ⟨A+1,0,none⟩ z):=(kep_set0 z).mono fun b hb=>hb.2.1
theorem turn_en {A:Nat} {v:Value} {W:World} (z:Value):Kep (TurnX A v) W (W.setCell ⟨A+2,0,none⟩ z):=(kep_set0 z).mono fun b hb=>hb.2.2.1
theorem turn_all {A:Nat} {v:Value} {W:World} (z:Value):Kep (TurnX A v) W (W.setCell ⟨A,0,none⟩ z):=(kep_set0 z).mono fun b hb=>hb.1
theorem scan_told {b:List UInt8} {bs:List Bat} {k:Nat} {er:Int} (h:Scans none b bs k er):toldW b=bs:=told_of h
end Go.Proofs.YtdfibahafilklaaGreatDoor.WL
