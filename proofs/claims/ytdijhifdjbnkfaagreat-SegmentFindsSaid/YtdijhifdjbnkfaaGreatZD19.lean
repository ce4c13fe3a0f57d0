import Derived.Test.YtdijhifdjbnkfaaGreatZD17
import Derived.Test.YtdijhifdjbnkfaaGreatZD18
set_option maxRecDepth 100000
set_option maxHeartbeats 8000000
set_option linter.unusedVariables false
set_option linter.unusedSimpArgs false
namespace Go.Proofs.YtdijhifdjbnkfaaGreat.SG
open Go Go.RowKit MM PW
theorem ZtX {S:Nat→Prop} {w:World} {v:Value} {zs:List Int} (h:ROn cInt S w v zs):IOn S w v zs:=by
 obtain ⟨p,cap,raw,hv,h1,h2,h3,hm,hc⟩:=h
 refine ⟨p,cap,hv,h1,h2,h3,?_⟩
 rcases hc with hc | ⟨b,off,hp,hlt,hS,hc⟩
 ·exact .inl hc
 ·refine .inr ⟨b,off,hp,hlt,hS,fun i hi => ?_⟩
  have hi':i<raw.length:=by rw [hm.1];exact hi
  have e:raw[i]=[.int .i64 zs[i]]:=hm.2 i hi' hi
  have hf:=ZiZ hm.lens i hi' 0 (.int .i64 zs[i]) (by rw [e];rfl)
  have hz:cInt.size=1:=rfl
  rw [hz,Nat.mul_one,Nat.add_zero] at hf
  exact hc i _ hf
def Zeq:List Value→Int×Value
 | [.int _ z,u]=>(z,u)
 | _=>(0,.bool false)
theorem ZtZ {S:Nat→Prop} {w:World} {v:Value} {ps:List (Int×List Int)} (h:ROn Zrr S w v ps):POn S w v ps:=by
 obtain ⟨p,cap,raw,hv,h1,h2,h3,hm,hc⟩:=h
 have hon:∀ i (hi:i<raw.length) (hi':i<ps.length),∃ u,raw[i]=[.int .i64 ps[i].1,u]∧ROn cInt S w u ps[i].2:=fun i hi hi'=>by
  obtain ⟨x,y,hxy,hx,u,hy,hr⟩:=hm.2 i hi hi'
  have hx:x=[.int .i64 ps[i].1]:=hx
  exact ⟨u,by rw [hxy,hx,hy];rfl,hr⟩
 refine ⟨p,cap,raw.map Zeq,hv,h1,h2,h3,⟨by rw [List.length_map];exact hm.1,fun i hi hi' => ?_⟩,?_⟩
 ·rw [List.length_map] at hi
  obtain ⟨u,e,hr⟩:=hon i hi hi'
  rw [List.getElem_map,e]
  exact ⟨rfl,ZtX hr⟩
 ·rcases hc with hc | ⟨b,off,hp,hlt,hS,hc⟩
  ·exact .inl hc
  ·refine .inr ⟨b,off,hp,hlt,hS,fun i hi => ?_⟩
   rw [List.length_map] at hi
   have hi':i<ps.length:=by rw [← hm.1];exact hi
   obtain ⟨u,e,hr⟩:=hon i hi hi'
   have hz:Zrr.size=2:=rfl
   have f0:=ZiZ hm.lens i hi 0 (.int .i64 ps[i].1) (by rw [e];rfl)
   have f1:=ZiZ hm.lens i hi 1 u (by rw [e];rfl)
   rw [hz,Nat.add_zero] at f0
   rw [hz] at f1
   rw [List.getElem_map,e]
   exact ⟨hc _ _ f0,by have:=hc _ _ f1;rw [← Nat.add_assoc] at this;exact this⟩
end Go.Proofs.YtdijhifdjbnkfaaGreat.SG
namespace Go.Proofs.YtdijhifdjbnkfaaGreat.EV
open Go Go.RowKit MM EM VM
theorem Zpg {m:Nat} {l:List UInt8} (o:Bool) (h:(getL l).2.2=0) (h2:(getL l).1≤m):Zo4 m l o=((getL l).1,l.drop (getL l).2.1,o):=by
 unfold Zo4 VG.Zs0
 rw [if_pos ⟨h,h2⟩,if_pos h]
theorem Zpe {m:Nat} {l:List UInt8} (o:Bool) (h:(getL l).2.2≠0∨m<(getL l).1):Zo4 m l o=(0,[],true):=by
 unfold Zo4
 rw [if_neg (fun hc=>h.elim (fun h=>h hc.1) (fun h=>by omega))]
theorem Zpd (m:Nat) (l:List UInt8) (o:Bool):(Zo4 m l o).1≤m:=by
 unfold Zo4
 split
 ·rename_i h;exact h.2
 ·exact Nat.zero_le _
theorem Zpf (m:Nat) (l:List UInt8):(Zo4 m l true).2.2=true:=by
 unfold Zo4
 split<;>rfl
theorem ZxG {l:List UInt8} (o:Bool) (h:(getI l).2.2=0):ZxE l o=((getI l).1,l.drop (getI l).2.1,o):=by
 unfold ZxE VG.Zs0
 have h':(getL l).2.2=0:=h
 rw [if_pos h',h]
 simp [getI]
theorem ZxF {l:List UInt8} (o:Bool) (h:(getI l).2.2≠0):(ZxE l o).2.2=true:=by
 unfold ZxE
 have:((getI l).2.2 != 0)=true:=by rw [bne_iff_ne];exact h
 simp [this]
theorem Zyl {m:Int} {l:List UInt8} (o:Bool) (h:(getT l m).2.2=0):Zyg m l o=((getT l m).1,l.drop (getT l m).2.1,o):=by
 unfold Zyg VG.Zs7
 rw [if_pos h,h]
 simp
theorem Zyj {m:Int} {l:List UInt8} (o:Bool) (h:(getT l m).2.2≠0):(Zyg m l o).2.2=true:=by
 unfold Zyg
 have:((getT l m).2.2 != 0)=true:=by rw [bne_iff_ne];exact h
 simp [this]
theorem Zyk (m:Int) (l:List UInt8):(Zyg m l true).2.2=true:=by unfold Zyg;simp
abbrev FSt:=List Fld×List UInt8×Bool
def Zwh (s:FSt):FSt :=
 (s.1++[((Zyg 32 s.2.1 s.2.2).1,(Zyg 4096 (Zyg 32 s.2.1 s.2.2).2.1 (Zyg 32 s.2.1 s.2.2).2.2).1)],(Zyg 4096 (Zyg 32 s.2.1 s.2.2).2.1 (Zyg 32 s.2.1 s.2.2).2.2).2.1,(Zyg 4096 (Zyg 32 s.2.1 s.2.2).2.1 (Zyg 32 s.2.1 s.2.2).2.2).2.2)
def Zi9:Nat→FSt→FSt
 | 0,s=>s
 | k+1,s=>Zwh (Zi9 k s)
theorem Zja:∀ (k:Nat) (s:FSt),Zi9 (k+1) s=Zi9 k (Zwh s)
 | 0,s=>rfl
 | k+1,s=>by rw [Zi9,Zja k s,← Zi9]
theorem Zwi {s:FSt} (h:s.2.2=true):(Zwh s).2.2=true:=by
 unfold Zwh
 rw [h]
 have:=Zyk 32 s.2.1
 rw [this]
 exact Zyk _ _
theorem Zjc:∀ (k:Nat) {s:FSt},s.2.2=true→(Zi9 k s).2.2=true
 | 0,_,h=>h
 | k+1,_,h=>Zwi (Zjc k h)
theorem Zjb:∀ (k:Nat) (s:FSt),(Zi9 k s).1.length=s.1.length+k
 | 0,s=>rfl
 | k+1,s=>by rw [Zi9];unfold Zwh;simp [Zjb k s];omega
theorem Zje:∀ (k:Nat) (acc:List Fld) (l:List UInt8) (o:Bool) (fs:List Fld) (r:List UInt8),Zkb k acc l=some (fs,r)→Zi9 k (acc,l,o)=(fs,r,o)
 | 0,acc,l,o,fs,r,h=>by
   rw [Zkb] at h
   simp only [Option.some.injEq,Prod.mk.injEq] at h
   rw [Zi9,h.1,h.2]
 | k+1,acc,l,o,fs,r,h=>by
   rw [Zkb] at h
   split at h
   ·cases h
   ·rename_i hn
    have h1:(getT l 32).2.2=0:=Classical.byContradiction fun hc=>hn (.inl hc)
    have h2:(getT (l.drop (getT l 32).2.1) 4096).2.2=0:=Classical.byContradiction fun hc=>hn (.inr hc)
    rw [Zja]
    have e:Zwh (acc,l,o)=(acc++[((getT l 32).1,(getT (l.drop (getT l 32).2.1) 4096).1)],(l.drop (getT l 32).2.1).drop (getT (l.drop (getT l 32).2.1) 4096).2.1,o):=by
     unfold Zwh
     dsimp only
     rw [Zyl o h1]
     dsimp only
     rw [Zyl o h2]
    rw [e]
    exact Zje k _ _ _ _ _ h
theorem Zjd:∀ (k:Nat) (acc:List Fld) (l:List UInt8) (o:Bool),Zkb k acc l=none→(Zi9 k (acc,l,o)).2.2=true
 | 0,acc,l,o,h=>by rw [Zkb] at h;cases h
 | k+1,acc,l,o,h=>by
   rw [Zkb] at h
   rw [Zja]
   by_cases h1:(getT l 32).2.2=0
   ·by_cases h2:(getT (l.drop (getT l 32).2.1) 4096).2.2=0
    ·rw [if_neg (fun hc=>hc.elim (fun h=>h h1) (fun h=>h h2))] at h
     have e:Zwh (acc,l,o)=(acc++[((getT l 32).1,(getT (l.drop (getT l 32).2.1) 4096).1)],(l.drop (getT l 32).2.1).drop (getT (l.drop (getT l 32).2.1) 4096).2.1,o):=by
      unfold Zwh
      dsimp only
      rw [Zyl o h1]
      dsimp only
      rw [Zyl o h2]
     rw [e]
     exact Zjd k _ _ _ h
    ·refine Zjc k ?_
     unfold Zwh
     dsimp only
     rw [Zyl o h1]
     dsimp only
     exact Zyj o h2
   ·refine Zjc k ?_
    unfold Zwh
    dsimp only
    rw [Zyj o h1]
    exact Zyk _ _
def evSt (l:List UInt8) (o:Bool):Ev×List UInt8×Bool :=
 (((ZxE l o).1,(Zi9 (Zo4 16 (ZxE l o).2.1 (ZxE l o).2.2).1 ([],(Zo4 16 (ZxE l o).2.1 (ZxE l o).2.2).2.1,(Zo4 16 (ZxE l o).2.1 (ZxE l o).2.2).2.2)).1),
   (Zi9 (Zo4 16 (ZxE l o).2.1 (ZxE l o).2.2).1 ([],(Zo4 16 (ZxE l o).2.1 (ZxE l o).2.2).2.1,(Zo4 16 (ZxE l o).2.1 (ZxE l o).2.2).2.2)).2.1,
   (Zi9 (Zo4 16 (ZxE l o).2.1 (ZxE l o).2.2).1 ([],(Zo4 16 (ZxE l o).2.1 (ZxE l o).2.2).2.1,(Zo4 16 (ZxE l o).2.1 (ZxE l o).2.2).2.2)).2.2)
theorem ZhV (l:List UInt8) (o:Bool):(evSt l o).1.2.length≤16:=by
 unfold evSt
 dsimp only
 rw [Zjb]
 have:=Zpd 16 (ZxE l o).2.1 (ZxE l o).2.2
 simp only [List.length_nil]
 omega
theorem Zh1 {l r:List UInt8} {e:Ev} (o:Bool) (h:rdE l=some (e,r)):evSt l o=(e,r,o):=by
 unfold rdE at h
 split at h
 ·cases h
 ·rename_i h1
  split at h
  ·cases h
  ·rename_i h2
   have h1:(getI l).2.2=0:=by simpa using h1
   have h3:(getL (l.drop (getI l).2.1)).2.2=0:=Classical.byContradiction fun hc=>h2 (.inl hc)
   have h4:(getL (l.drop (getI l).2.1)).1≤16:=Nat.not_lt.1 fun hc=>h2 (.inr hc)
   cases hg:Zkb (getL (l.drop (getI l).2.1)).1 [] ((l.drop (getI l).2.1).drop (getL (l.drop (getI l).2.1)).2.1) with
   | none=>rw [hg] at h;cases h
   | some p =>
     obtain ⟨fs,r2⟩:=p
     rw [hg] at h
     simp only [Option.some.injEq,Prod.mk.injEq] at h
     obtain ⟨rfl,rfl⟩:=h
     unfold evSt
     rw [ZxG o h1]
     dsimp only
     rw [Zpg o h3 h4]
     dsimp only
     rw [Zje _ _ _ o _ _ hg]
theorem ZhX {l:List UInt8} (o:Bool) (h:rdE l=none):(evSt l o).2.2=true:=by
 unfold evSt
 dsimp only
 by_cases h1:(getI l).2.2=0
 ·rw [ZxG o h1]
  dsimp only
  by_cases h2:(getL (l.drop (getI l).2.1)).2.2≠0∨16<(getL (l.drop (getI l).2.1)).1
  ·rw [Zpe o h2]
   exact Zjc _ rfl
  ·have h3:(getL (l.drop (getI l).2.1)).2.2=0:=Classical.byContradiction fun hc=>h2 (.inl hc)
   have h4:(getL (l.drop (getI l).2.1)).1≤16:=Nat.not_lt.1 fun hc=>h2 (.inr hc)
   rw [Zpg o h3 h4]
   dsimp only
   unfold rdE at h
   rw [if_neg (by simpa using h1),if_neg h2] at h
   cases hg:Zkb (getL (l.drop (getI l).2.1)).1 [] ((l.drop (getI l).2.1).drop (getL (l.drop (getI l).2.1)).2.1) with
   | none=>exact Zjd _ _ _ _ hg
   | some p=>rw [hg] at h;cases h
 ·refine Zjc _ ?_
  dsimp only
  rw [ZxF o h1]
  exact Zpf _ _
end Go.Proofs.YtdijhifdjbnkfaaGreat.EV
namespace Go.Proofs.YtdijhifdjbnkfaaGreat.MM
open Go Go.RowKit
section
variable {α : Type} (C : Codec α)
def ZaT (e:TypeId) (S:Nat→Prop) (w:World) (g n:Nat) (es:List α):Prop :=
 g<w.heap.size∧w.there g 0 (n*C.size)∧∃ raw,Mean C S w raw es∧w.rangeAt g 0 raw.flatten
variable {C}
theorem ZaT.keep {e:TypeId} {S T:Nat→Prop} {w w':World} {g n:Nat} {es:List α} (h:ZaT C e S w g n es) (hk:Kep T w w') (hg:T g) (hS:∀ b,b<w.heap.size→S b→T b):ZaT C e S w' g n es:=by
 obtain ⟨h1,h2,raw,hm,hr⟩:=h
 refine ⟨Nat.lt_of_lt_of_le h1 hk.size,fun j hj => ?_,raw,⟨hm.1,fun i hi hi' => ?_⟩,fun j v hj => ?_⟩
 ·have hb:=hk.block g h1 hg
  rw [World.cell?_of_block (a:=⟨g,0+j,none⟩) hb,World.frozen?_of_block (a:=⟨g,0+j,none⟩) hb]
  exact h2 j hj
 ·exact C.keep (C.keep (hm.2 i hi hi') (Kep.refl _ _) (T:=fun b=>S b∧b<w.heap.size) fun b hb hs=>⟨hs,hb⟩) (hk.mono' (T:=fun b=>S b∧b<w.heap.size) fun b hb hs=>hS b hb hs.1) fun b hb hs=>hs.1
 ·rw [hk.cell h1 hg];exact hr j v hj
end
end Go.Proofs.YtdijhifdjbnkfaaGreat.MM
