import Derived.Test.YtidhgicajlaafaaGreatZD9
import Derived.Test.YtidhgicajlaafaaGreatZD18
set_option maxRecDepth 100000
set_option maxHeartbeats 8000000
set_option linter.unusedVariables false
set_option linter.unusedSimpArgs false
namespace Go.Proofs.YtidhgicajlaafaaGreat.RT
open Go Go.RowKit MM
inductive Plan (α:Type) where
 | done:Plan α
 | take (i:α) (r:Plan α):Plan α
 | alone (i:α) (r:Plan α):Plan α
 | both (i j:α) (r s:Plan α):Plan α
def Plan.len {α:Type}:Plan α→Nat
 | .done=>0
 | .take _ r=>r.len+1
 | .alone _ r=>r.len+1
 | .both _ _ r _=>r.len+1
section
variable {T : Nat → Prop} {P : Program} {ops : Array Oper} {Q : Exit → Act → World → Prop} {md : Region.Mode}
theorem held_weaken {S S':World→Prop} (hS:∀ w,S' w→S w):∀ (fuel:Nat) (listed:Array Bool) (a:Act) (w:World),wpAnyH P md ops Q S' fuel listed a w→wpAnyH P md ops Q S fuel listed a w
 | 0,_,_,_,h=>h
 | fuel+1,_,_,_,h=>⟨h.1,fun i hi=>wpOp_mono (fun a' w' h'=>⟨hS _ h'.1,held_weaken hS fuel _ a' w' h'.2⟩) (h.2 i hi)⟩
def Way (p:Prop):Prop:=p
theorem Way.out {p:Prop} (h:Way p):p:=h
def Step (T:Nat→Prop) (P:Program) (ops:Array Oper) (Q:Exit→Act→World→Prop) (o:Option Oper) (N:Act→World→Prop) (a:Act) (w:World):Prop :=
 match o with
 | some o=>∀ K:Act→World→Prop,(∀ a' w',Kep T w w'→N a' w'→K a' w')→if Region.wanted o (yielded ops a.tmps)=true then o.wp P a w K Q else K (a.put o.dst undef) w
 | none=>False
def walk (T:Nat→Prop) (P:Program) (ops:Array Oper) (Q:Exit→Act→World→Prop):Plan (Option Oper)→Act→World→Prop
 | .done,a,w=>Q .normal a w
 | .take (some o) r,a,w=>∃ v,YieldsIf P ops (Kep T w) o v a∧walk T P ops Q r (a.put o.dst v) w
 | .take none _,_,_=>False
 | .alone o r,a,w=>Step T P ops Q o (walk T P ops Q r) a w
 | .both o o' r s,a,w=>Step T P ops Q o (walk T P ops Q r) a w∧Step T P ops Q o' (walk T P ops Q s) a w
def ordered (ops:Array Oper):Plan Nat→Plan (Option Oper)
 | .done=>.done
 | .take i r=>.take ops[i]? (ordered ops r)
 | .alone i r=>.alone ops[i]? (ordered ops r)
 | .both i j r s=>.both ops[i]? ops[j]? (ordered ops r) (ordered ops s)
def planned (md:Region.Mode) (ops:Array Oper):Plan Nat→Array Bool→Bool
 | .done,listed=>(Region.ready md ops listed).isEmpty
 | .take i r,listed=>Region.free md ops listed i&&(Region.ready md ops listed).contains i&&planned md ops r (listed.setIfInBounds i true)
 | .alone i r,listed=>(Region.ready md ops listed == [i])&&planned md ops r (listed.setIfInBounds i true)
 | .both i j r s,listed=>(Region.ready md ops listed == [i,j])&&(r.len == s.len)&&planned md ops r (listed.setIfInBounds i true)&&planned md ops s (listed.setIfInBounds j true)
theorem held_of_walk (hs:Region.noSelect ops=true) (hQ:∀ c a d v w,Q (.panic c) (Act.put a d v) w→Q (.panic c) a w) :
  ∀ (l:Plan Nat) (listed:Array Bool) (a:Act) (w:World),planned md ops l listed=true→walk T P ops Q (ordered ops l) a w→wpAnyH P md ops Q (Kep T w) l.len listed a w
 | .done,listed,a,w,hp,h=>⟨by simpa [planned] using hp,h⟩
 | .take i r,listed,a,w,hp,h=>by
   have h':walk T P ops Q (.take ops[i]? (ordered ops r)) a w:=h
   cases ho:ops[i]? with
   | none=>rw [ho] at h';exact h'.elim
   | some o =>
     rw [ho] at h'
     obtain ⟨v,hy,hr⟩:=h'
     simp only [planned,Bool.and_eq_true] at hp
     exact wpAnyH_take ho hs hp.1.1 hp.1.2 (fun c a w=>hQ c a _ _ w) hy (Kep.refl _ w) (held_of_walk hs hQ r _ _ _ hp.2 hr)
 | .alone i r,listed,a,w,hp,h=>by
   have h':Step T P ops Q ops[i]? (walk T P ops Q (ordered ops r)) a w:=h
   cases ho:ops[i]? with
   | none=>rw [ho] at h';exact h'.elim
   | some o =>
     rw [ho] at h'
     simp only [planned,Bool.and_eq_true] at hp
     refine wpAnyH_all (rs:=[i]) (by simpa using hp.1) (by simp) (fun j hj => ?_)
     obtain rfl:j=i:=by simpa using hj
     exact wpOp_step ho (fun K hK=>h' K (fun a' w' h1 h2=>hK a' w' ⟨h1,held_weaken (fun W hW=>h1.trans hW) _ _ _ _ (held_of_walk hs hQ r _ _ _ hp.2 h2)⟩))
 | .both i j r s,listed,a,w,hp,h=>by
   have h':Step T P ops Q ops[i]? (walk T P ops Q (ordered ops r)) a w∧Step T P ops Q ops[j]? (walk T P ops Q (ordered ops s)) a w:=h
   obtain ⟨h1,h2⟩:=h'
   simp only [planned,Bool.and_eq_true,beq_iff_eq] at hp
   cases ho:ops[i]? with
   | none=>rw [ho] at h1;exact h1.elim
   | some o =>
     cases ho':ops[j]? with
     | none=>rw [ho'] at h2;exact h2.elim
     | some o' =>
       rw [ho] at h1
       rw [ho'] at h2
       refine wpAnyH_all (rs:=[i,j]) (by simpa using hp.1.1.1) (by simp) (fun k hk => ?_)
       simp only [List.mem_cons,List.not_mem_nil,or_false] at hk
       rcases hk with rfl | rfl
       ·exact wpOp_step ho (fun K hK=>h1 K (fun a' w' g1 g2=>hK a' w' ⟨g1,held_weaken (fun W hW=>g1.trans hW) _ _ _ _ (held_of_walk hs hQ r _ _ _ hp.1.2 g2)⟩))
       ·refine wpOp_step ho' (fun K hK=>h2 K (fun a' w' g1 g2=>hK a' w' ⟨g1,held_weaken (fun W hW=>g1.trans hW) _ _ _ _ ?_⟩))
        rw [hp.1.1.2]
        exact held_of_walk hs hQ s _ _ _ hp.2 g2
theorem begin_ (l:Plan Nat) {id:Nat} {a:Act} {w:World} (hm:P.follows .mixedOrders=true) (hs:Region.noSelect ops=true) (hl:l.len=ops.size)
  (hp:planned .any ops l (Array.replicate ops.size false)=true) (hQ:∀ c a d v w,Q (.panic c) (Act.put a d v) w→Q (.panic c) a w)
  (h:walk T P ops Q (ordered ops l) a w.drew):(Code.region id ops true).wp P Q a w:=by
 refine wp_region_held (S:=Kep T w.drew) hm ?_
 rw [← hl]
 have:=held_of_walk (md:=.any) hs hQ l (Array.replicate ops.size false) a w.drew hp h
 rw [← hl] at this
 exact this
theorem take {r:Plan (Option Oper)} {a:Act} {w:World} {o:Oper} {v:Value} (hw:Region.wanted o (yielded ops a.tmps)=true)
  (hy:∀ W,Kep T w W→(execOp a.eval o).run P W=.ok (.value v) W) (h:walk T P ops Q r (a.put o.dst v) w):walk T P ops Q (.take (some o) r) a w :=
 ⟨v,.inl ⟨hw,hy⟩,h⟩
theorem skip {r:Plan (Option Oper)} {a:Act} {w:World} {o:Oper} (hw:Region.wanted o (yielded ops a.tmps)=false)
  (h:walk T P ops Q r (a.put o.dst undef) w):walk T P ops Q (.take (some o) r) a w :=
 ⟨undef,.inr ⟨hw,rfl⟩,h⟩
theorem step {N:Act→World→Prop} {a:Act} {w:World} {o:Oper} (hw:Region.wanted o (yielded ops a.tmps)=true)
  (h:∀ K:Act→World→Prop,Way (∀ a' w',Kep T w w'→N a' w'→K a' w')→o.wp P a w K Q):Step T P ops Q (some o) N a w:=by
 intro K hK
 rw [if_pos hw]
 exact h K hK
theorem alone {r:Plan (Option Oper)} {a:Act} {w:World} {o:Oper} (h:Step T P ops Q (some o) (walk T P ops Q r) a w):walk T P ops Q (.alone (some o) r) a w:=h
theorem both {r s:Plan (Option Oper)} {a:Act} {w:World} {o o':Oper} (h:Step T P ops Q (some o) (walk T P ops Q r) a w) (h':Step T P ops Q (some o') (walk T P ops Q s) a w):walk T P ops Q (.both (some o) (some o') r s) a w:=⟨h,h'⟩
theorem done {a:Act} {w:World} (h:Q .normal a w):walk T P ops Q .done a w:=h
end
end Go.Proofs.YtidhgicajlaafaaGreat.RT
namespace Go.Proofs.YtidhgicajlaafaaGreat.MX
open Go MM VM
open TK (wordsB wordsB_count)
open EM (Ev Trm Fld termsE placesT wordsN checkE checkE_ok posOf)
open RM (termsE_ok termsE_bad termsE_ne termsE_len)
open GM (places_cons len_places termsE_places)
theorem wordsN_few:∀ fs:List Fld,(∀ f∈fs,f.2.length≤4096)→wordsN fs≤4096*fs.length
 | [],_=>by simp [wordsN]
 | f::r,h=>by
   have h1:=wordsN_few r fun g hg=>h g (by simp [hg])
   have h2:=wordsB_count f.2
   have h3:=h f (by simp)
   have e:wordsN (f::r)=(wordsB f.2).length+wordsN r:=by simp [wordsN]
   rw [e,List.length_cons]
   omega
theorem places_few (e:Ev):(placesT (termsE e)).length≤65536:=by
 by_cases hc:checkE e=0
 ·obtain ⟨h1,h2⟩:=checkE_ok.1 hc
  have h3:=termsE_places e
  have h4:=wordsN_few e.2 fun f hf=>(h2 f hf).2
  omega
 ·rw [termsE_bad hc];simp [placesT]
theorem terms_fewM (e:Ev):(termsE e).length≤65536:=Nat.le_trans (len_places fun t ht=>termsE_ne e t ht) (places_few e)
theorem place_le:∀ {T:List Trm} {t:Trm},t∈T→t.2.length≤(placesT T).length
 | u::T,t,h=>by
   rw [places_cons]
   rcases List.mem_cons.1 h with rfl | h
   ·omega
   ·have:=place_le h;omega
theorem fold_len (s:List UInt8) (whole:Bool):∀ (ts:List Trm) (l:List Int),(ts.foldl (fun l t=>if selM s whole t.1 then mergeL l t.2 else l) l).length≤l.length+(placesT ts).length
 | [],l=>by simp [placesT]
 | t::ts,l=>by
   rw [List.foldl_cons,places_cons]
   have:=fold_len s whole ts (if selM s whole t.1 then mergeL l t.2 else l)
   split at this
   ·rw [(mergeL_perm l t.2).length_eq,List.length_append] at this
    rename_i h
    rw [if_pos h]
    omega
   ·rename_i h
    rw [if_neg h]
    omega
theorem ofT_len (ts:List Trm) (s:List UInt8) (whole:Bool):(ofT ts s whole).length≤(placesT ts).length:=by
 have:=fold_len s whole ts []
 rw [List.length_nil,Nat.zero_add] at this
 exact this
theorem places_take:∀ (ts:List Trm) (k:Nat),(placesT (ts.take k)).length≤(placesT ts).length
 | [],k=>by simp
 | t::ts,0=>by simp [placesT]
 | t::ts,k+1=>by
   rw [List.take_succ_cons,places_cons,places_cons]
   have:=places_take ts k
   omega
theorem ofT_take_len (e:Ev) (s:List UInt8) (whole:Bool) (k:Nat):(ofT ((termsE e).take k) s whole).length≤65536:=Nat.le_trans (ofT_len _ _ _) (Nat.le_trans (places_take _ _) (places_few e))
theorem place_few (e:Ev) {t:Trm} (h:t∈termsE e):t.2.length≤65536:=Nat.le_trans (place_le h) (places_few e)
theorem postsO_len:∀ (l:List (List Int)) (b:Int),(postsO b l).length≤l.length
 | [],b=>by simp [postsO]
 | p::r,b=>by
   have h:=postsO_len r (b+1)
   rw [postsO,List.length_append,List.length_cons]
   split
   ·simp;omega
   ·simp;omega
theorem postsM_len (es:List Ev) (s:List UInt8) (whole:Bool):(postsM es s whole).length≤es.length:=by
 have:=postsO_len (es.map fun e=>ofE e s whole) 0
 rw [List.length_map] at this
 exact this
end Go.Proofs.YtidhgicajlaafaaGreat.MX
namespace Go.Proofs.YtidhgicajlaafaaGreat.MX
open Go Go.RowKit MM
theorem str_szb (l:List UInt8):(⟨l.toArray⟩:ByteArray).size=l.length:=by simp [ByteArray.size]
theorem begins_any (x t:List UInt8) (w:World) (hx:x.length≤1000000000000) (ht:t.length≤1000000000000) :
  Calls Tryz.prog 63 #[.string ⟨x.toArray⟩,.string ⟨t.toArray⟩] w fun e w'=>e=.returned (.bool (selM t false x))∧Below w.heap.size w w':=by
 have hxs:=str_szb x
 have hts:=str_szb t
 have hsel:selM t false x=decide (x.take t.length=t):=rfl
 rw [hsel]
 clear hsel
 by_cases h1:t.length≤x.length
 ·have q5:decide ((t.length:Int)≤(x.length:Int))=true:=by rw [decide_eq_true_eq];omega
  have q6:decide (t.length≤x.length)=true:=decide_eq_true h1
  obtain ⟨R,hR⟩:∃ R,decide (x.take t.length=t)=R:=⟨_,rfl⟩
  have q7:((((⟨x.toArray⟩:ByteArray).extract 0 t.length).toList) == t)=R:=by
   rw [text_cut,← hR]
   by_cases e:x.take t.length=t
   ·rw [decide_eq_true e,beq_iff_eq];exact e
   ·rw [decide_eq_false e,beq_eq_false_iff_ne];exact e
  rw [hR]
  clear hR
  go_enter Tryz.func63,Tryz.ntmps63
  go_wp2_with fail
  go_ret
  exact ⟨rfl,Below.refl _ _⟩
 ·have q5:decide ((t.length:Int)≤(x.length:Int))=false:=by rw [decide_eq_false_iff_not];omega
  have q6:decide (t.length≤x.length)=false:=decide_eq_false h1
  have h2:¬ x.take t.length=t:=fun e=>h1 (by have:=congrArg List.length e;rw [List.length_take] at this;omega)
  rw [decide_eq_false h2]
  clear h2
  go_enter Tryz.func63,Tryz.ntmps63
  go_wp2_with fail
  go_ret
  exact ⟨rfl,Below.refl _ _⟩
end Go.Proofs.YtidhgicajlaafaaGreat.MX
