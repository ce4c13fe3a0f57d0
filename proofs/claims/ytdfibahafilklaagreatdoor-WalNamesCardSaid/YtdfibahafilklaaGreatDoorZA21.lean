import Derived.Test.YtdfibahafilklaaGreatDoorZA13
import Derived.Test.YtdfibahafilklaaGreatDoorZA20
set_option maxRecDepth 100000
set_option maxHeartbeats 8000000
set_option linter.unusedVariables false
set_option linter.unusedSimpArgs false
namespace Go.Proofs.YtdfibahafilklaaGreatDoor.MM
open Go Go.RowKit
def Three (w:World) (g:Nat) (t:TypeId) (a b c:Value):Prop:=w.heap[g]? = some (.cells #[a,b,c] t (0,0))
section
variable {w w' : World} {g : Nat} {t : TypeId} {a b c : Value}
theorem Three.lt (h:Three w g t a b c):g<w.heap.size:=(Array.getElem?_eq_some_iff.1 h).1
theorem Three.c0 (h:Three w g t a b c):w.cell? ⟨g,0,none⟩=some a:=by rw [cell_of_row w g 0 _ _ _ h];rfl
theorem Three.c1 (h:Three w g t a b c):w.cell? ⟨g,1,none⟩=some b:=by rw [cell_of_row w g 1 _ _ _ h];rfl
theorem Three.c2 (h:Three w g t a b c):w.cell? ⟨g,2,none⟩=some c:=by rw [cell_of_row w g 2 _ _ _ h];rfl
theorem Three.fr (h:Three w g t a b c) (i:Nat):w.frozen? ⟨g,i,none⟩=false:=frozen_of_row w g i _ _ h
theorem Three.s0 (h:Three w g t a b c) (x:Value):Three (w.setCell ⟨g,0,none⟩ x) g t x b c:=heap_setCell_same w g 0 _ _ x h
theorem Three.s1 (h:Three w g t a b c) (x:Value):Three (w.setCell ⟨g,1,none⟩ x) g t a x c:=heap_setCell_same w g 1 _ _ x h
theorem Three.s2 (h:Three w g t a b c) (x:Value):Three (w.setCell ⟨g,2,none⟩ x) g t a b x:=heap_setCell_same w g 2 _ _ x h
def set3 (w:World) (g:Nat) (x y z:Value):World:=((w.setCell ⟨g,0,none⟩ x).setCell ⟨g,1,none⟩ y).setCell ⟨g,2,none⟩ z
theorem Three.set (h:Three w g t a b c) (x y z:Value):Three (set3 w g x y z) g t x y z:=((h.s0 x).s1 y).s2 z
theorem Three.keep {S:Nat→Prop} (h:Three w g t a b c) (hk:Kep S w w') (hS:S g):Three w' g t a b c:=(hk.block g h.lt hS).trans h
theorem Three.below {B:Nat} (h:Three w g t a b c) (hb:Below B w w') (hg:g<B):Three w' g t a b c:=(hb.block g hg).trans h
theorem three_new (w:World) (t:TypeId) (a b c:Value):Three (w.alloc (.cells #[a,b,c] t)) w.heap.size t a b c:=heap_alloc_new _ _
theorem Three.cells (h:Three w g t a b c):w.cell? ⟨g,0,none⟩=some a∧w.cell? ⟨g,1,none⟩=some b∧w.cell? ⟨g,2,none⟩=some c:=⟨h.c0,h.c1,h.c2⟩
theorem Three.all (h:Three w g t a b c) (x y:Value) :
  w.frozen? ⟨g,0,none⟩=false∧w.frozen? ⟨g,1,none⟩=false∧w.frozen? ⟨g,2,none⟩=false ∧
  ((w.setCell ⟨g,0,none⟩ x).cell? ⟨g,1,none⟩=some b∧(w.setCell ⟨g,0,none⟩ x).frozen? ⟨g,1,none⟩=false) ∧
  (((w.setCell ⟨g,0,none⟩ x).setCell ⟨g,1,none⟩ y).cell? ⟨g,2,none⟩=some c∧((w.setCell ⟨g,0,none⟩ x).setCell ⟨g,1,none⟩ y).frozen? ⟨g,2,none⟩=false) :=
 ⟨h.fr 0,h.fr 1,h.fr 2,⟨(h.s0 x).c1,(h.s0 x).fr 1⟩,⟨((h.s0 x).s1 y).c2,((h.s0 x).s1 y).fr 2⟩⟩
end
section
variable {P : Program} {fn : Func} {t : TypeId} {ty : TypeDesc}
end
end Go.Proofs.YtdfibahafilklaaGreatDoor.MM
namespace Go.Proofs.YtdfibahafilklaaGreatDoor.DK
open Go.RowKit MM Go.Maps
structure Ext (S S':Nat→Prop) (w w':World):Prop where
 more:∀ k,S k→S' k
 new:∀ k,S' k→S k∨w.heap.size≤k
 kep:Kep (fun k=>¬ S k) w w'
theorem Ext.refl_ {S:Nat→Prop} {w w':World} (h:Kep (fun k=>¬ S k) w w'):Ext S S w w':=⟨fun _ h=>h,fun _ h=>.inl h,h⟩
theorem Ext.pre {S S':Nat→Prop} {w w1 w':World} (h:Kep (fun k=>¬ S k) w w1) (k:Ext S S' w1 w'):Ext S S' w w' :=
 ⟨k.more,fun i hi=>(k.new i hi).imp id fun h'=>Nat.le_trans h.size h',h.trans k.kep⟩
def DoneC (g mb:Nat) (r:DiskD×Int) (S:Nat→Prop) (w:World) (e:Ending) (w':World):Prop:=e=.returned (.int .i64 r.2)∧∃ S' V' c',CObj S' w' g mb V' c' r.1∧Ext S S' w w'
theorem CObj.retab {S T U:Nat→Prop} {w w':World} {g mb:Nat} {V V':List UInt8→Value} {c:Int} {d:DiskD} {L':List FileD} (h:CObj S w g mb V c d) (hk:Kep U w w') (hg:U g) (ht:Tab T w' mb V' L') (hT:∀ k,S k→T k) (hlt:∀ k,T k→k<w'.heap.size) :
  CObj T w' g mb V' c { d with L:=L' }:=⟨(hk.block g h.glt hg).trans h.obj,h.armed,h.c0,h.c1,ht,hT g h.gS,hlt⟩
theorem ok_one (n:List UInt8):(namedL n && !([]:List (List UInt8)).any (fun n => !namedL n))=namedL n:=by simp
theorem kep_not {S:Nat→Prop} {w w':World} {g:Nat} (hg:S g) (h:Kep (fun k=>k≠g) w w'):Kep (fun k=>¬ S k) w w':=h.mono fun k hk e=>hk (by rw [e];exact hg)
end Go.Proofs.YtdfibahafilklaaGreatDoor.DK
namespace Go.Proofs.YtdfibahafilklaaGreatDoor.DK
open Go.RowKit MM Go.Maps
def roomE (d:DiskD) (n:List UInt8) (m:Nat):Int :=
 if (findL d.L n).isSome=false∧1024≤d.L.length then 3 else if 67108864<(curB d n).length+m then 2 else if 0<d.quota∧m≠0∧d.quota<(usedL d.L:Int)+m then 62 else 0
theorem room_any (S:Nat→Prop) (g mb:Nat) (V:List UInt8→Value) (c:Int) (d:DiskD) (n:List UInt8) (m:Nat) (w:World) (h:CObj S w g mb V c d) (hF:Fits d) (hu:usedL d.L≤1000000000000000) (hn:n.length≤1000000000000) (hm:m≤1000000000000) :
  Calls Tryz.prog 65 #[.pointer (some ⟨g,0,none⟩),.string ⟨n.toArray⟩,.int .i64 (m:Int)] w fun e w'=>e=.returned (.int .i64 (roomE d n m))∧Below w.heap.size w w':=by
 obtain ⟨p,cap,hv,_,_⟩:=own_slice (cur_own h.tab n)
 have hlook:=h.look_ok n hn
 have hba:∀ o,Below w.heap.size w (w.alloc o):=fun o=>(Below.refl _ _).alloc (Nat.le_refl _) _
 have hlen:=fun o ty=>(h.tab.map.below (hba o)).len ty
 have h0:=h.g0
 have hU:=fun W (hW:Below w.heap.size w W)=>cused_any S g mb V c d W (h.below hW) hF hu
 have hlb:(curB d n).length≤67108864:=by
  unfold curB
  cases hf:findL d.L n with
  | none=>simp
  | some f=>exact hF.bytes f (find_mem hf).1
 obtain ⟨R,hR⟩:∃ R,roomE d n m=R:=⟨_,rfl⟩
 rw [hR]
 unfold roomE at hR
 have HR:=Lib.hid hR
 clear hR
 have hglt:=h.glt
 have hq1:=hF.q1
 have hq0:=hF.q0
 have HG:=Lib.hid (fun W (hW:Below w.heap.size w W)=>(h.below hW).g1)
 have HU:=Lib.hid hU
 have HBA:=Lib.hid hba
 have hl2:=hF.len
 obtain ⟨x,hx⟩:∃ x:ByteArray,(⟨n.toArray⟩:ByteArray)=x:=⟨_,rfl⟩
 rw [hv,hx] at hlook
 rw [hx]
 generalize (findL d.L n).isSome=there at *
 generalize (curB d n).length=ln at *
 generalize (curS d n:Int)=sn at *
 obtain ⟨us,hus⟩:∃ us,usedL d.L=us:=⟨_,rfl⟩
 rw [hus] at HU HR hu
 obtain ⟨Ln,hLn⟩:∃ x,d.L.length=x:=⟨_,rfl⟩
 rw [hLn] at HR hlen hl2
 obtain ⟨q,hq⟩:∃ x,d.quota=x:=⟨_,rfl⟩
 rw [hq] at HR HG hq0 hq1
 clear hv hF h hU hba hus hLn hq hn hx
 have hsw:IntKind.i64.wrap (67108864 - (ln:Int))=67108864 - (ln:Int):=by rw [IntKind.wrap_i64];omega
 have hqw:IntKind.i64.wrap (q - (us:Int))=q - (us:Int):=by rw [IntKind.wrap_i64];omega
 by_cases h1:there=false∧1024≤Ln
 ·obtain ⟨rfl,h1⟩:=h1
  have hr:=HR.out
  rw [if_pos ⟨rfl,h1⟩] at hr
  subst hr
  have t1:decide ((Ln:Int)≥1024)=true:=by rw [decide_eq_true_eq];omega
  have HB:=Lib.hid HBA.out
  clear HR
  go_enter Tryz.func65,Tryz.ntmps65
  go_wp2_with fail
  go_ret
  exact ⟨rfl,HB.out _⟩
 ·have g1:(!there&&decide ((Ln:Int)≥1024))=false:=by
   cases there
   ·simp only [Bool.not_false,Bool.true_and]
    rw [decide_eq_false_iff_not]
    intro k
    exact h1 ⟨rfl,by omega⟩
   ·rfl
  have hr:=HR.out
  rw [if_neg h1] at hr
  have HR2:=Lib.hid hr
  clear HR hr
  by_cases h2:67108864<ln+m
  ·have hr:=HR2.out
   rw [if_pos h2] at hr
   subst hr
   have t2:decide ((m:Int)>67108864 - (ln:Int))=true:=by rw [decide_eq_true_eq];omega
   clear HR2 h2
   obtain rfl | hth:there=true∨there=false:=by cases there<;>simp
   case' inl=>clear h1
   case' inr =>
    subst hth
    have t1:decide ((Ln:Int)≥1024)=false:=by simpa using g1
    clear h1
   all_goals (
    go_enter Tryz.func65,Tryz.ntmps65
    go_wp2_with fail
    refine (size_any _ _ _ _).mono ?_
    rintro e w' ⟨rfl,rfl⟩
    go_wp2_with fail
    go_ret
    exact ⟨rfl,HBA.out _⟩)
  ·have hr:=HR2.out
   rw [if_neg h2] at hr
   have HR3:=Lib.hid hr
   have t2:decide ((m:Int)>67108864 - (ln:Int))=false:=by rw [decide_eq_false_iff_not];omega
   clear hr HR2
   obtain rfl | hth:there=true∨there=false:=by cases there<;>simp
   case' inl=>clear h1
   case' inr =>
    subst hth
    have t1:decide ((Ln:Int)≥1024)=false:=by simpa using g1
    clear h1
   all_goals (
    go_enter Tryz.func65,Tryz.ntmps65
    go_wp2_with fail
    refine (size_any _ _ _ _).mono ?_
    rintro e w' ⟨rfl,rfl⟩
    go_wp2_with fail
    obtain ⟨W2,hW2⟩:∃ W,w.alloc (.cells #[.slice p ln cap,.int .i64 sn] 127)=W:=⟨_,rfl⟩
    rw [hW2]
    refine RK.begin_ (T:=fun _=>True) [(0,true),(1,true),(2,true),(3,true),(4,true),(5,true),(6,true),(7,true),(8,true),(9,true),(10,true),(11,true),(12,true),(13,true),(14,true),(15,true),(16,false),(17,true),(18,true),(19,true),(20,true)] (by kernel_rfl) (by kernel_rfl) rfl (by kernel_rfl) (fun _ _ d _ _ h=>by cases d<;>exact h) ?_
    simp only [RK.ordered,List.map_cons,List.map_nil,List.getElem?_toArray,List.getElem?_cons_succ,List.getElem?_cons_zero]
    obtain ⟨wd,hwd⟩:∃ wd,W2.drew=wd:=⟨_,rfl⟩
    have hbd:Below w.heap.size w wd:=by rw [← hwd,← hW2];exact (HBA.out _).drew
    have HBD:=Lib.hid hbd
    rw [hwd]
    clear hwd hbd hW2
    have k1:=fun W (hW:Kep (fun _=>True) wd W)=>HG.out W (HBD.out.trans (hW.below HBD.out.size (fun _ _=>trivial)))
    by_cases hm0:m=0
    ·have hr:=HR3.out
     rw [if_neg (fun h=>h.2.1 hm0)] at hr
     subst hr
     have r1:decide ((m:Int)>0)=false:=by rw [decide_eq_false_iff_not];omega
     have r11:decide (0<m)=false:=by rw [decide_eq_false_iff_not];omega
     clear HR3
     repeat ((first | (refine RK.take (by rfl) (by intro W hW;go_simp;with_reducible rfl) ?_) | (refine RK.skip (by rfl) ?_) | (refine RK.alone_skip (by rfl) ?_));simp only [Act.put,List.setIfInBounds_toArray,List.set_cons_zero,List.set_cons_succ])
     refine RK.done ?_
     go_wp2_with fail
     go_ret
     exact ⟨rfl,HBD.out⟩
    ·have r1:decide ((m:Int)>0)=true:=by rw [decide_eq_true_eq];omega
     have r11:decide (0<m)=true:=by rw [decide_eq_true_eq];omega
     by_cases hqz:0<q
     ·have r2:decide (q>0)=true:=by rw [decide_eq_true_eq];omega
      repeat ((first | (refine RK.take (by rfl) (by intro W hW;go_simp;with_reducible rfl) ?_) | (refine RK.skip (by rfl) ?_) | (refine RK.alone_skip (by rfl) ?_));simp only [Act.put,List.setIfInBounds_toArray,List.set_cons_zero,List.set_cons_succ])
      refine RK.alone (by rfl) (fun K hK => ?_)
      go_simp
      refine (HU.out wd HBD.out).mono ?_
      rintro e V2 ⟨rfl,b6⟩
      go_simp
      refine hK.out _ _ (kep_below _ b6) ?_
      clear hK K k1
      have HBV:=Lib.hid (HBD.out.trans (b6.mono HBD.out.size))
      clear b6
      by_cases hfull:q<(us:Int)+m
      ·have hr:=HR3.out
       rw [if_pos ⟨hqz,hm0,hfull⟩] at hr
       subst hr
       have r3:decide ((m:Int)>q - (us:Int))=true:=by rw [decide_eq_true_eq];omega
       clear HR3
       repeat ((first | (refine RK.take (by rfl) (by intro W hW;go_simp;with_reducible rfl) ?_) | (refine RK.skip (by rfl) ?_) | (refine RK.alone_skip (by rfl) ?_));simp only [Act.put,List.setIfInBounds_toArray,List.set_cons_zero,List.set_cons_succ])
       refine RK.done ?_
       go_wp2_with fail
       go_ret
       exact ⟨rfl,HBV.out⟩
      ·have hr:=HR3.out
       rw [if_neg (fun h=>hfull h.2.2)] at hr
       subst hr
       have r3:decide ((m:Int)>q - (us:Int))=false:=by rw [decide_eq_false_iff_not];omega
       clear HR3
       repeat ((first | (refine RK.take (by rfl) (by intro W hW;go_simp;with_reducible rfl) ?_) | (refine RK.skip (by rfl) ?_) | (refine RK.alone_skip (by rfl) ?_));simp only [Act.put,List.setIfInBounds_toArray,List.set_cons_zero,List.set_cons_succ])
       refine RK.done ?_
       go_wp2_with fail
       go_ret
       exact ⟨rfl,HBV.out⟩
     ·have hr:=HR3.out
      rw [if_neg (fun h=>hqz h.1)] at hr
      subst hr
      have r2:decide (q>0)=false:=by rw [decide_eq_false_iff_not];omega
      clear HR3
      repeat ((first | (refine RK.take (by rfl) (by intro W hW;go_simp;with_reducible rfl) ?_) | (refine RK.skip (by rfl) ?_) | (refine RK.alone_skip (by rfl) ?_));simp only [Act.put,List.setIfInBounds_toArray,List.set_cons_zero,List.set_cons_succ])
      refine RK.done ?_
      go_wp2_with fail
      go_ret
      exact ⟨rfl,HBD.out⟩)
end Go.Proofs.YtdfibahafilklaaGreatDoor.DK
