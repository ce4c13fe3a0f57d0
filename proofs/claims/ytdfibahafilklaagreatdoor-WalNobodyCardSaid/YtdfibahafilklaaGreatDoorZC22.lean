import Derived.Test.YtdfibahafilklaaGreatDoorZC14
import Derived.Test.YtdfibahafilklaaGreatDoorZC21
set_option maxRecDepth 100000
set_option maxHeartbeats 8000000
set_option linter.unusedVariables false
set_option linter.unusedSimpArgs false
namespace Go.Proofs.YtdfibahafilklaaGreatDoor.DK
open Go.RowKit MM Go.Maps
structure Ext (S S':Nat→Prop) (w w':World):Prop where
 more:∀ k,S k→S' k
 new:∀ k,S' k→S k∨w.heap.size≤k
 kep:Kep (fun k=>¬ S k) w w'
theorem Ext.refl_ {S:Nat→Prop} {w w':World} (h:Kep (fun k=>¬ S k) w w'):Ext S S w w':=⟨fun _ h=>h,fun _ h=>.inl h,h⟩
theorem Ext.pre {S S':Nat→Prop} {w w1 w':World} (h:Kep (fun k=>¬ S k) w w1) (k:Ext S S' w1 w'):Ext S S' w w' :=
 ⟨k.more,fun i hi=>(k.new i hi).imp id fun h'=>Nat.le_trans h.size h',h.trans k.kep⟩
def DoneC (g mb:Nat) (r:DiskD×Int) (S:Nat→Prop) (w:World) (e:Ending) (w':World):Prop:=e=.returned (.int .i64 r.2)∧∃ S' V' c',CObj S' w' g mb V' c' r.1∧Ext S S' w w'
theorem CObj.retab {S T U:Nat→Prop} {w w':World} {g mb:Nat} {V V':List UInt8→Value} {c:Int} {d:DiskD} {L':List FileD} (h:CObj S w g mb V c d) (hk:Kep U w w') (hg:U g) (ht:Tab T w' mb V' L') (hT:∀ k,S k→T k) (hlt:∀ k,T k→k<w'.heap.size) :
  CObj T w' g mb V' c { d with L:=L' }:=⟨(hk.block g h.glt hg).trans h.obj,h.armed,h.c0,h.c1,ht,hT g h.gS,hlt⟩
theorem ok_one (n:List UInt8):(namedL n && !([]:List (List UInt8)).any (fun n => !namedL n))=namedL n:=by simp
theorem kep_not {S:Nat→Prop} {w w':World} {g:Nat} (hg:S g) (h:Kep (fun k=>k≠g) w w'):Kep (fun k=>¬ S k) w w':=h.mono fun k hk e=>hk (by rw [e];exact hg)
end Go.Proofs.YtdfibahafilklaaGreatDoor.DK
namespace Go.Proofs.YtdfibahafilklaaGreatDoor.DK
open Go.RowKit MM Go.Maps
def roomE (d:DiskD) (n:List UInt8) (m:Nat):Int :=
 if (findL d.L n).isSome=false∧1024≤d.L.length then 3 else if 67108864<(curB d n).length+m then 2 else if 0<d.quota∧m≠0∧d.quota<(usedL d.L:Int)+m then 62 else 0
theorem room_any (S:Nat→Prop) (g mb:Nat) (V:List UInt8→Value) (c:Int) (d:DiskD) (n:List UInt8) (m:Nat) (w:World) (h:CObj S w g mb V c d) (hF:Fits d) (hu:usedL d.L≤1000000000000000) (hn:n.length≤1000000000000) (hm:m≤1000000000000) :
  Calls Tryz.prog 65 #[.pointer (some ⟨g,0,none⟩),.string ⟨n.toArray⟩,.int .i64 (m:Int)] w fun e w'=>e=.returned (.int .i64 (roomE d n m))∧Below w.heap.size w w':=by
 obtain ⟨p,cap,hv,_,_⟩:=own_slice (cur_own h.tab n)
 have hlook:=h.look_ok n hn
 have hba:∀ o,Below w.heap.size w (w.alloc o):=fun o=>(Below.refl _ _).alloc (Nat.le_refl _) _
 have hlen:=fun o ty=>(h.tab.map.below (hba o)).len ty
 have h0:=h.g0
 have hU:=fun W (hW:Below w.heap.size w W)=>cused_any S g mb V c d W (h.below hW) hF hu
 have hlb:(curB d n).length≤67108864:=by
  unfold curB
  cases hf:findL d.L n with
  | none=>simp
  | some f=>exact hF.bytes f (find_mem hf).1
 obtain ⟨R,hR⟩:∃ R,roomE d n m=R:=⟨_,rfl⟩
 rw [hR]
 unfold roomE at hR
 have HR:=Lib.hid hR
 clear hR
 have hglt:=h.glt
 have hq1:=hF.q1
 have hq0:=hF.q0
 have HG:=Lib.hid (fun W (hW:Below w.heap.size w W)=>(h.below hW).g1)
 have HU:=Lib.hid hU
 have HBA:=Lib.hid hba
 have hl2:=hF.len
 obtain ⟨x,hx⟩:∃ x:ByteArray,(⟨n.toArray⟩:ByteArray)=x:=⟨_,rfl⟩
 rw [hv,hx] at hlook
 rw [hx]
 generalize (findL d.L n).isSome=there at *
 generalize (curB d n).length=ln at *
 generalize (curS d n:Int)=sn at *
 obtain ⟨us,hus⟩:∃ us,usedL d.L=us:=⟨_,rfl⟩
 rw [hus] at HU HR hu
 obtain ⟨Ln,hLn⟩:∃ x,d.L.length=x:=⟨_,rfl⟩
 rw [hLn] at HR hlen hl2
 obtain ⟨q,hq⟩:∃ x,d.quota=x:=⟨_,rfl⟩
 rw [hq] at HR HG hq0 hq1
 clear hv hF h hU hba hus hLn hq hn hx
 have hsw:IntKind.i64.wrap (67108864 - (ln:Int))=67108864 - (ln:Int):=by rw [IntKind.wrap_i64];omega
 have hqw:IntKind.i64.wrap (q - (us:Int))=q - (us:Int):=by rw [IntKind.wrap_i64];omega
 by_cases h1:there=false∧1024≤Ln
 ·obtain ⟨rfl,h1⟩:=h1
  have hr:=HR.out
  rw [if_pos ⟨rfl,h1⟩] at hr
  subst hr
  have t1:decide ((Ln:Int)≥1024)=true:=by rw [decide_eq_true_eq];omega
  have HB:=Lib.hid HBA.out
  clear HR
  go_enter Tryz.func65,Tryz.ntmps65
  go_wp2_with fail
  go_ret
  exact ⟨rfl,HB.out _⟩
 ·have g1:(!there&&decide ((Ln:Int)≥1024))=false:=by
   cases there
   ·simp only [Bool.not_false,Bool.true_and]
    rw [decide_eq_false_iff_not]
    intro k
    exact h1 ⟨rfl,by omega⟩
   ·rfl
  have hr:=HR.out
  rw [if_neg h1] at hr
  have HR2:=Lib.hid hr
  clear HR hr
  by_cases h2:67108864<ln+m
  ·have hr:=HR2.out
   rw [if_pos h2] at hr
   subst hr
   have t2:decide ((m:Int)>67108864 - (ln:Int))=true:=by rw [decide_eq_true_eq];omega
   clear HR2 h2
   obtain rfl | hth:there=true∨there=false:=by cases there<;>simp
   case' inl=>clear h1
   case' inr =>
    subst hth
    have t1:decide ((Ln:Int)≥1024)=false:=by simpa using g1
    clear h1
   all_goals (
    go_enter Tryz.func65,Tryz.ntmps65
    go_wp2_with fail
    refine (size_any _ _ _ _).mono ?_
    rintro e w' ⟨rfl,rfl⟩
    go_wp2_with fail
    go_ret
    exact ⟨rfl,HBA.out _⟩)
  ·have hr:=HR2.out
   rw [if_neg h2] at hr
   have HR3:=Lib.hid hr
   have t2:decide ((m:Int)>67108864 - (ln:Int))=false:=by rw [decide_eq_false_iff_not];omega
   clear hr HR2
   obtain rfl | hth:there=true∨there=false:=by cases there<;>simp
   case' inl=>clear h1
   case' inr =>
    subst hth
    have t1:decide ((Ln:Int)≥1024)=false:=by simpa using g1
    clear h1
   all_goals (
    go_enter Tryz.func65,Tryz.ntmps65
    go_wp2_with fail
    refine (size_any _ _ _ _).mono ?_
    rintro e w' ⟨rfl,rfl⟩
    go_wp2_with fail
    obtain ⟨W2,hW2⟩:∃ W,w.alloc (.cells #[.slice p ln cap,.int .i64 sn] 127)=W:=⟨_,rfl⟩
    rw [hW2]
    refine RK.begin_ (T:=fun _=>True) [(0,true),(1,true),(2,true),(3,true),(4,true),(5,true),(6,true),(7,true),(8,true),(9,true),(10,true),(11,true),(12,true),(13,true),(14,true),(15,true),(16,false),(17,true),(18,true),(19,true),(20,true)] (by kernel_rfl) (by kernel_rfl) rfl (by kernel_rfl) (fun _ _ d _ _ h=>by cases d<;>exact h) ?_
    simp only [RK.ordered,List.map_cons,List.map_nil,List.getElem?_toArray,List.getElem?_cons_succ,List.getElem?_cons_zero]
    obtain ⟨wd,hwd⟩:∃ wd,W2.drew=wd:=⟨_,rfl⟩
    have hbd:Below w.heap.size w wd:=by rw [← hwd,← hW2];exact (HBA.out _).drew
    have HBD:=Lib.hid hbd
    rw [hwd]
    clear hwd hbd hW2
    have k1:=fun W (hW:Kep (fun _=>True) wd W)=>HG.out W (HBD.out.trans (hW.below HBD.out.size (fun _ _=>trivial)))
    by_cases hm0:m=0
    ·have hr:=HR3.out
     rw [if_neg (fun h=>h.2.1 hm0)] at hr
     subst hr
     have r1:decide ((m:Int)>0)=false:=by rw [decide_eq_false_iff_not];omega
     have r11:decide (0<m)=false:=by rw [decide_eq_false_iff_not];omega
     clear HR3
     repeat ((first | (refine RK.take (by rfl) (by intro W hW;go_simp;with_reducible rfl) ?_) | (refine RK.skip (by rfl) ?_) | (refine RK.alone_skip (by rfl) ?_));simp only [Act.put,List.setIfInBounds_toArray,List.set_cons_zero,List.set_cons_succ])
     refine RK.done ?_
     go_wp2_with fail
     go_ret
     exact ⟨rfl,HBD.out⟩
    ·have r1:decide ((m:Int)>0)=true:=by rw [decide_eq_true_eq];omega
     have r11:decide (0<m)=true:=by rw [decide_eq_true_eq];omega
     by_cases hqz:0<q
     ·have r2:decide (q>0)=true:=by rw [decide_eq_true_eq];omega
      repeat ((first | (refine RK.take (by rfl) (by intro W hW;go_simp;with_reducible rfl) ?_) | (refine RK.skip (by rfl) ?_) | (refine RK.alone_skip (by rfl) ?_));simp only [Act.put,List.setIfInBounds_toArray,List.set_cons_zero,List.set_cons_succ])
      refine RK.alone (by rfl) (fun K hK => ?_)
      go_simp
      refine (HU.out wd HBD.out).mono ?_
      rintro e V2 ⟨rfl,b6⟩
      go_simp
      refine hK.out _ _ (kep_below _ b6) ?_
      clear hK K k1
      have HBV:=Lib.hid (HBD.out.trans (b6.mono HBD.out.size))
      clear b6
      by_cases hfull:q<(us:Int)+m
      ·have hr:=HR3.out
       rw [if_pos ⟨hqz,hm0,hfull⟩] at hr
       subst hr
       have r3:decide ((m:Int)>q - (us:Int))=true:=by rw [decide_eq_true_eq];omega
       clear HR3
       repeat ((first | (refine RK.take (by rfl) (by intro W hW;go_simp;with_reducible rfl) ?_) | (refine RK.skip (by rfl) ?_) | (refine RK.alone_skip (by rfl) ?_));simp only [Act.put,List.setIfInBounds_toArray,List.set_cons_zero,List.set_cons_succ])
       refine RK.done ?_
       go_wp2_with fail
       go_ret
       exact ⟨rfl,HBV.out⟩
      ·have hr:=HR3.out
       rw [if_neg (fun h=>hfull h.2.2)] at hr
       subst hr
       have r3:decide ((m:Int)>q - (us:Int))=false:=by rw [decide_eq_false_iff_not];omega
       clear HR3
       repeat ((first | (refine RK.take (by rfl) (by intro W hW;go_simp;with_reducible rfl) ?_) | (refine RK.skip (by rfl) ?_) | (refine RK.alone_skip (by rfl) ?_));simp only [Act.put,List.setIfInBounds_toArray,List.set_cons_zero,List.set_cons_succ])
       refine RK.done ?_
       go_wp2_with fail
       go_ret
       exact ⟨rfl,HBV.out⟩
     ·have hr:=HR3.out
      rw [if_neg (fun h=>hqz h.1)] at hr
      subst hr
      have r2:decide (q>0)=false:=by rw [decide_eq_false_iff_not];omega
      clear HR3
      repeat ((first | (refine RK.take (by rfl) (by intro W hW;go_simp;with_reducible rfl) ?_) | (refine RK.skip (by rfl) ?_) | (refine RK.alone_skip (by rfl) ?_));simp only [Act.put,List.setIfInBounds_toArray,List.set_cons_zero,List.set_cons_succ])
      refine RK.done ?_
      go_wp2_with fail
      go_ret
      exact ⟨rfl,HBD.out⟩)
end Go.Proofs.YtdfibahafilklaaGreatDoor.DK
namespace Go.Proofs.YtdfibahafilklaaGreatDoor.RT
open Go Go.RowKit MM
inductive Plan (α:Type) where
 | done:Plan α
 | take (i:α) (r:Plan α):Plan α
 | alone (i:α) (r:Plan α):Plan α
 | both (i j:α) (r s:Plan α):Plan α
def Plan.len {α:Type}:Plan α→Nat
 | .done=>0
 | .take _ r=>r.len+1
 | .alone _ r=>r.len+1
 | .both _ _ r _=>r.len+1
section
variable {T : Nat → Prop} {P : Program} {ops : Array Oper} {Q : Exit → Act → World → Prop} {md : Region.Mode}
theorem held_weaken {S S':World→Prop} (hS:∀ w,S' w→S w):∀ (fuel:Nat) (listed:Array Bool) (a:Act) (w:World),wpAnyH P md ops Q S' fuel listed a w→wpAnyH P md ops Q S fuel listed a w
 | 0,_,_,_,h=>h
 | fuel+1,_,_,_,h=>⟨h.1,fun i hi=>wpOp_mono (fun a' w' h'=>⟨hS _ h'.1,held_weaken hS fuel _ a' w' h'.2⟩) (h.2 i hi)⟩
def Way (p:Prop):Prop:=p
theorem Way.out {p:Prop} (h:Way p):p:=h
def Step (T:Nat→Prop) (P:Program) (ops:Array Oper) (Q:Exit→Act→World→Prop) (o:Option Oper) (N:Act→World→Prop) (a:Act) (w:World):Prop :=
 match o with
 | some o=>∀ K:Act→World→Prop,(∀ a' w',Kep T w w'→N a' w'→K a' w')→if Region.wanted o (yielded ops a.tmps)=true then o.wp P a w K Q else K (a.put o.dst undef) w
 | none=>False
def walk (T:Nat→Prop) (P:Program) (ops:Array Oper) (Q:Exit→Act→World→Prop):Plan (Option Oper)→Act→World→Prop
 | .done,a,w=>Q .normal a w
 | .take (some o) r,a,w=>∃ v,YieldsIf P ops (Kep T w) o v a∧walk T P ops Q r (a.put o.dst v) w
 | .take none _,_,_=>False
 | .alone o r,a,w=>Step T P ops Q o (walk T P ops Q r) a w
 | .both o o' r s,a,w=>Step T P ops Q o (walk T P ops Q r) a w∧Step T P ops Q o' (walk T P ops Q s) a w
def ordered (ops:Array Oper):Plan Nat→Plan (Option Oper)
 | .done=>.done
 | .take i r=>.take ops[i]? (ordered ops r)
 | .alone i r=>.alone ops[i]? (ordered ops r)
 | .both i j r s=>.both ops[i]? ops[j]? (ordered ops r) (ordered ops s)
def planned (md:Region.Mode) (ops:Array Oper):Plan Nat→Array Bool→Bool
 | .done,listed=>(Region.ready md ops listed).isEmpty
 | .take i r,listed=>Region.free md ops listed i&&(Region.ready md ops listed).contains i&&planned md ops r (listed.setIfInBounds i true)
 | .alone i r,listed=>(Region.ready md ops listed == [i])&&planned md ops r (listed.setIfInBounds i true)
 | .both i j r s,listed=>(Region.ready md ops listed == [i,j])&&(r.len == s.len)&&planned md ops r (listed.setIfInBounds i true)&&planned md ops s (listed.setIfInBounds j true)
theorem held_of_walk (hs:Region.noSelect ops=true) (hQ:∀ c a d v w,Q (.panic c) (Act.put a d v) w→Q (.panic c) a w) :
  ∀ (l:Plan Nat) (listed:Array Bool) (a:Act) (w:World),planned md ops l listed=true→walk T P ops Q (ordered ops l) a w→wpAnyH P md ops Q (Kep T w) l.len listed a w
 | .done,listed,a,w,hp,h=>⟨by simpa [planned] using hp,h⟩
 | .take i r,listed,a,w,hp,h=>by
   have h':walk T P ops Q (.take ops[i]? (ordered ops r)) a w:=h
   cases ho:ops[i]? with
   | none=>rw [ho] at h';exact h'.elim
   | some o =>
     rw [ho] at h'
     obtain ⟨v,hy,hr⟩:=h'
     simp only [planned,Bool.and_eq_true] at hp
     exact wpAnyH_take ho hs hp.1.1 hp.1.2 (fun c a w=>hQ c a _ _ w) hy (Kep.refl _ w) (held_of_walk hs hQ r _ _ _ hp.2 hr)
 | .alone i r,listed,a,w,hp,h=>by
   have h':Step T P ops Q ops[i]? (walk T P ops Q (ordered ops r)) a w:=h
   cases ho:ops[i]? with
   | none=>rw [ho] at h';exact h'.elim
   | some o =>
     rw [ho] at h'
     simp only [planned,Bool.and_eq_true] at hp
     refine wpAnyH_all (rs:=[i]) (by simpa using hp.1) (by simp) (fun j hj => ?_)
     obtain rfl:j=i:=by simpa using hj
     exact wpOp_step ho (fun K hK=>h' K (fun a' w' h1 h2=>hK a' w' ⟨h1,held_weaken (fun W hW=>h1.trans hW) _ _ _ _ (held_of_walk hs hQ r _ _ _ hp.2 h2)⟩))
 | .both i j r s,listed,a,w,hp,h=>by
   have h':Step T P ops Q ops[i]? (walk T P ops Q (ordered ops r)) a w∧Step T P ops Q ops[j]? (walk T P ops Q (ordered ops s)) a w:=h
   obtain ⟨h1,h2⟩:=h'
   simp only [planned,Bool.and_eq_true,beq_iff_eq] at hp
   cases ho:ops[i]? with
   | none=>rw [ho] at h1;exact h1.elim
   | some o =>
     cases ho':ops[j]? with
     | none=>rw [ho'] at h2;exact h2.elim
     | some o' =>
       rw [ho] at h1
       rw [ho'] at h2
       refine wpAnyH_all (rs:=[i,j]) (by simpa using hp.1.1.1) (by simp) (fun k hk => ?_)
       simp only [List.mem_cons,List.not_mem_nil,or_false] at hk
       rcases hk with rfl | rfl
       ·exact wpOp_step ho (fun K hK=>h1 K (fun a' w' g1 g2=>hK a' w' ⟨g1,held_weaken (fun W hW=>g1.trans hW) _ _ _ _ (held_of_walk hs hQ r _ _ _ hp.1.2 g2)⟩))
       ·refine wpOp_step ho' (fun K hK=>h2 K (fun a' w' g1 g2=>hK a' w' ⟨g1,held_weaken (fun W hW=>g1.trans hW) _ _ _ _ ?_⟩))
        rw [hp.1.1.2]
        exact held_of_walk hs hQ s _ _ _ hp.2 g2
theorem take {r:Plan (Option Oper)} {a:Act} {w:World} {o:Oper} {v:Value} (hw:Region.wanted o (yielded ops a.tmps)=true)
  (hy:∀ W,Kep T w W→(execOp a.eval o).run P W=.ok (.value v) W) (h:walk T P ops Q r (a.put o.dst v) w):walk T P ops Q (.take (some o) r) a w :=
 ⟨v,.inl ⟨hw,hy⟩,h⟩
theorem skip {r:Plan (Option Oper)} {a:Act} {w:World} {o:Oper} (hw:Region.wanted o (yielded ops a.tmps)=false)
  (h:walk T P ops Q r (a.put o.dst undef) w):walk T P ops Q (.take (some o) r) a w :=
 ⟨undef,.inr ⟨hw,rfl⟩,h⟩
theorem step {N:Act→World→Prop} {a:Act} {w:World} {o:Oper} (hw:Region.wanted o (yielded ops a.tmps)=true)
  (h:∀ K:Act→World→Prop,Way (∀ a' w',Kep T w w'→N a' w'→K a' w')→o.wp P a w K Q):Step T P ops Q (some o) N a w:=by
 intro K hK
 rw [if_pos hw]
 exact h K hK
theorem step_skip {N:Act→World→Prop} {a:Act} {w:World} {o:Oper} (hw:Region.wanted o (yielded ops a.tmps)=false)
  (h:N (a.put o.dst undef) w):Step T P ops Q (some o) N a w:=by
 intro K hK
 rw [if_neg (by rw [hw];exact Bool.false_ne_true)]
 exact hK _ _ (Kep.refl _ w) h
theorem alone {r:Plan (Option Oper)} {a:Act} {w:World} {o:Oper} (h:Step T P ops Q (some o) (walk T P ops Q r) a w):walk T P ops Q (.alone (some o) r) a w:=h
theorem both {r s:Plan (Option Oper)} {a:Act} {w:World} {o o':Oper} (h:Step T P ops Q (some o) (walk T P ops Q r) a w) (h':Step T P ops Q (some o') (walk T P ops Q s) a w):walk T P ops Q (.both (some o) (some o') r s) a w:=⟨h,h'⟩
theorem done {a:Act} {w:World} (h:Q .normal a w):walk T P ops Q .done a w:=h
end
end Go.Proofs.YtdfibahafilklaaGreatDoor.RT
