/-
  The law MemidxForks returns true for every input: a fork and the index go their own ways, and an index without docs, and one that nobody made, answer as the document says. No condition.
-/
import Derived.Test.YtidhgicajlaafaaGreatRows
import Derived.ProofKit
import Derived.OpenShut
import Derived.ShutString
import Derived.Test.YtidhgicajlaafaaGreatZD55
set_option maxRecDepth 100000
set_option maxHeartbeats 8000000
set_option linter.unusedVariables false
set_option linter.unusedSimpArgs false
namespace Go.Proofs.YtidhgicajlaafaaGreat.MM
open Go.ChangeShapes Go.WideShapes Go.ChangeAt Go.RowKit Go.Proofs
theorem own:ownKnob Tryz.prog.godebug=none:=by kernel_rfl
theorem laidOut:laidOutB Tryz.prog=true:=by kernel_rfl
end Go.Proofs.YtidhgicajlaafaaGreat.MM
namespace Go.Proofs.YtidhgicajlaafaaGreat.MM
open Go Go.RowKit Go.ChangeShapes Go.WideShapes
def Reads (P:Program) {α:Type} (C:Codec α) (G:α→Prop) (t:TypeId):Prop :=
 ∀ {H:Type} {enc:TypeId×Value→H} {W:World} {base n:Nat} {cs:List Value} {x:DataW H×List MemPlace},DataW.trod enc P W base (fun _=>true) true n t cs=some x→∃ a,C.on (fun _=>True) W cs a∧G a
def FitI (z:Int):Prop := -9223372036854775808≤z∧z≤9223372036854775807
theorem reads_int {P:Program} {t:TypeId} (ht:P.underlying t=some (.int .i64)):Reads P cInt FitI t:=fun h=>by
 obtain ⟨z,rfl,_,hw⟩:=DataW.trod_int ht h
 refine ⟨z,rfl,?_⟩
 simp only [Lit.wf,Bool.and_eq_true,decide_eq_true_eq] at hw
 have h1:IntKind.i64.min = -9223372036854775808:=by decide
 have h2:IntKind.i64.max=9223372036854775807:=by decide
 rw [h1,h2] at hw
 exact hw
theorem reads_str {P:Program} {t:TypeId} (ht:P.underlying t=some .string):Reads P cStr (fun l=>l.length≤maxLen) t:=fun h=>by
 obtain ⟨s,rfl,_,hs⟩:=DataW.trod_string ht h
 exact ⟨s.data.toList,rfl,by simpa using hs⟩
theorem reads_row {P:Program} {α:Type} [Inhabited α] {C:Codec α} {G:α→Prop} {T e:TypeId} (ht:P.underlying T=some (.slice e)) (hc:P.cellsOf e=C.size) (he:Reads P C G e):Reads P (cRow C) (fun l=>(∀ a∈l,G a)∧l.length≤maxLen) T:=fun {H enc W base n cs x} h=>by
 rcases Deep.open_slice ht h with ⟨rfl,_⟩ | ⟨a,len,cap,m,k,D,Pl,rfl,_,hl,hm,hmm,_,hx⟩
 ·exact ⟨[],⟨_,rfl,ROn.nil_ _ _⟩,by simp,by simp [maxLen]⟩
 ·simp only [if_true] at hmm
  subst hmm
  have each:∀ i,i<len→∃ q:α×List Value,W.cells? base (a.add (i*C.size)) C.size=some q.2∧C.on (fun _=>True) W q.2 q.1∧G q.1:=fun i hi=>by
   obtain ⟨cs',h1,h2⟩:=hx i (by omega)
   obtain ⟨d,h3,h4⟩:=he h2
   rw [hc] at h1
   exact ⟨(d,cs'),h1,h3,h4⟩
  obtain ⟨q,hq⟩:=Deep.choose_lt each
  refine ⟨(List.range len).map fun i=>(q i).1,⟨_,rfl,some a,m,(List.range len).map fun i=>(q i).2,by simp,by simpa using hl,hm,(fun h=>by cases h),⟨by simp,fun i hi hi' => ?_⟩,?_⟩,fun d hd => ?_,by simp;omega⟩
  ·have hi2:i<len:=by simpa using hi
   simp only [List.getElem_map,List.getElem_range]
   exact (hq i hi2).2.1
  ·by_cases h0:len=0
   ·left;simp [h0]
   ·right
    have hlens:∀ r∈(List.range len).map (fun i=>(q i).2),r.length=C.size:=fun r hr=>by
     obtain ⟨i,hi,rfl⟩:=List.mem_map.1 hr
     exact C.len (hq i (List.mem_range.1 hi)).2.1
    have cell:∀ i,i<len→∀ j u,(q i).2[j]? = some u→W.cell? ((a.add (i*C.size)).add j)=some u:=fun i hi j u hj=>by
     obtain ⟨_,hlen,hcell⟩:=World.cells?_some (hq i hi).1
     have hjl:=(List.getElem?_eq_some_iff.1 hj).1
     have:=hcell j (by omega)
     rw [this]
     simpa using hj
    have hp:=C.pos
    have hl0:=C.len (hq 0 (by omega)).2.1
    obtain ⟨u0,hu0⟩:∃ u,(q 0).2[0]? = some u:=⟨_,List.getElem?_eq_getElem (by omega)⟩
    have c0:=cell 0 (by omega) 0 u0 hu0
    obtain ⟨b,off,spot⟩:=a
    have hspot:spot=none:=by
     have:=World.cell?_spot c0
     simpa [Addr.add] using this
    subst hspot
    refine ⟨b,off,rfl,?_,trivial,fun j u hj => ?_⟩
    ·rw [add_at,add_at] at c0
     by_cases hb:b<W.heap.size
     ·exact hb
     ·simp [World.cell?,Array.getElem?_eq_none (Nat.le_of_not_lt hb)] at c0
    ·have hjl:=(List.getElem?_eq_some_iff.1 hj).1
     rw [flat_len hlens,List.length_map,List.length_range] at hjl
     have hi:j / C.size<len:=(Nat.div_lt_iff_lt_mul hp).2 hjl
     have hmod:=Nat.mod_lt j hp
     have hdm:=Nat.div_add_mod j C.size
     have hli:=C.len (hq _ hi).2.1
     obtain ⟨u',hu'⟩:∃ u,(q (j / C.size)).2[j%C.size]? = some u:=⟨_,List.getElem?_eq_getElem (by omega)⟩
     have hf:=flat_get hlens (j / C.size) (by simpa using hi) (j%C.size) u' (by simpa using hu')
     have e:j / C.size*C.size+j%C.size=j:=by rw [Nat.mul_comm];exact hdm
     rw [e,hj] at hf
     obtain rfl:=Option.some.inj hf
     have:=cell _ hi _ _ hu'
     rw [add_at,add_at,Nat.add_assoc,e] at this
     exact this
  ·obtain ⟨i,hi,rfl⟩:=List.mem_map.1 hd
   exact (hq i (List.mem_range.1 hi)).2.2
theorem reads_pair {P:Program} {α β:Type} {C:Codec α} {D:Codec β} {G:α→Prop} {F:β→Prop} {t:TypeId} {f0 f1:Field} (ht:P.underlying t=some (.struct #[f0,f1]))
  (ho0:f0.offset=0) (ho1:f1.offset=C.size) (hc0:P.cellsOf f0.type=C.size) (hc1:P.cellsOf f1.type=D.size) (hc:P.cellsOf t=C.size+D.size) (h0:Reads P C G f0.type) (h1:Reads P D F f1.type) :
  Reads P (cPair C D) (fun p=>G p.1∧F p.2) t:=fun {H enc W base n cs x} h=>by
 obtain ⟨y0,y1,k,_,hl,g0,g1⟩:=trod_struct2 ht h
 obtain ⟨a,a1,a2⟩:=h0 g0
 obtain ⟨b,b1,b2⟩:=h1 g1
 rw [ho0,hc0,List.drop_zero] at a1
 rw [ho1,hc1] at b1
 rw [hc] at hl
 have e:(cs.drop C.size).take D.size=cs.drop C.size:=List.take_of_length_le (by rw [List.length_drop];omega)
 rw [e] at b1
 exact ⟨(a,b),⟨cs.take C.size,cs.drop C.size,(List.take_append_drop _ _).symm,a1,b1⟩,a2,b2⟩
theorem argC_struct {P:Program} {α:Type} {C:Codec α} {G:α→Prop} {t:TypeId} {fs:Array Field} {H:Type} {enc:TypeId×Value→H} {W:World} {base base2:Nat} {v:Value} {d:DataW H} {p:List MemPlace} (R:Reads P C G t) (ht:P.underlying t=some (.struct fs))
  (hv:Value.okWide P W .any base2 t v) (h:∃ fuel,DataW.trod enc P W base (fun _=>true) true fuel t v.cells.toList=some (d,p)):∃ cs a,v=.agg cs∧C.on (fun _=>True) W cs.toList a∧G a:=by
 obtain ⟨cs,rfl,hsz⟩:=okWide_struct ht hv
 obtain ⟨fuel,hf⟩:=h
 obtain ⟨a,a1,a2⟩:=R hf
 exact ⟨cs,a,rfl,a1,a2⟩
theorem argC_slice {P:Program} {α:Type} {C:Codec α} {G:List α→Prop} {t:TypeId} {H:Type} {enc:TypeId×Value→H} {W:World} {base:Nat} {a:Option Addr} {len cap:Nat} {d:DataW H} {p:List MemPlace} (R:Reads P (cRow C) G t)
  (h:∃ fuel,DataW.trod enc P W base (fun _=>true) true fuel t (Value.slice a len cap).cells.toList=some (d,p)):∃ l,RAny C W (.slice a len cap) l∧G l:=by
 obtain ⟨fuel,hf⟩:=h
 obtain ⟨l,⟨v,hv,hr⟩,hG⟩:=R hf
 have e:(Value.slice a len cap).cells.toList=[.slice a len cap]:=rfl
 rw [e] at hv
 obtain rfl:Value.slice a len cap=v:=by simpa using hv
 exact ⟨l,hr,hG⟩
end Go.Proofs.YtidhgicajlaafaaGreat.MM
namespace Go.Proofs.YtidhgicajlaafaaGreat.EV
open Go Go.RowKit MM EM
def FitS (p:Fld):Prop:=p.1.length≤maxLen∧p.2.length≤maxLen
theorem reads_fld:Reads Tryz.prog fldC FitS 93:=reads_pair Tryz.underlying93 rfl rfl (by kernel_rfl) (by kernel_rfl) (by kernel_rfl) (reads_str Tryz.underlying9) (reads_str Tryz.underlying9)
def FitEv (e:Ev):Prop:=FitI e.1∧(∀ f∈e.2,FitS f)∧e.2.length≤maxLen
theorem reads_ev:Reads Tryz.prog evC FitEv 51:=reads_pair Tryz.underlying51 rfl rfl (by kernel_rfl) (by kernel_rfl) (by kernel_rfl) (reads_int Tryz.underlying3) (reads_row Tryz.underlying49 (by kernel_rfl) reads_fld)
end Go.Proofs.YtidhgicajlaafaaGreat.EV
namespace Go.Proofs.YtidhgicajlaafaaGreat.EV
open Go Go.RowKit MM EM
def FitBat (b:Bat):Prop:=FitI b.1∧(∀ e∈b.2,FitEv e)∧b.2.length≤maxLen
theorem reads_bat:Reads Tryz.prog batC FitBat 45:=reads_pair Tryz.underlying45 rfl rfl (by kernel_rfl) (by kernel_rfl) (by kernel_rfl) (reads_int Tryz.underlying3) (reads_row Tryz.underlying43 (by kernel_rfl) reads_ev)
end Go.Proofs.YtidhgicajlaafaaGreat.EV
namespace Go.Proofs.YtidhgicajlaafaaGreat.EV
open Go Go.RowKit MM EM
instance:Inhabited Bat:=⟨(0,[])⟩
theorem reads_bats:Reads Tryz.prog (cRow batC) (fun l=>(∀ b∈l,FitBat b)∧l.length≤maxLen) 22:=reads_row Tryz.underlying22 (by kernel_rfl) reads_bat
end Go.Proofs.YtidhgicajlaafaaGreat.EV
namespace Go.Proofs.YtidhgicajlaafaaGreat.MF4
open Go.ChangeShapes Go.WideShapes Go.ChangeAt Go.RowKit MM
open Go.ChangeMaps (open_string shut_string)
theorem contract (H:Type) (enc:TypeId×Value→H) (W:World) (args:Array Value) (ds gs:List (DataW H)) (before:List MemPlace)
  (hval:∀ (j:Nat) t v,Tryz.f4.params[j]? = some t→args[j]? = some v→Value.okWide Tryz.prog W .any 0 t v)
  (hW:DataW.Whole enc Tryz.prog Tryz.f4.params.toList Rows.memidxForksSpec.vars false W args.toList ds gs before) :
  Calls Tryz.prog 4 args W fun e W'=>∃ v,e=.returned v∧Rows.memidxForksSpec.post enc Tryz.prog Tryz.f4 false true false false W args v W':=by
 have hW':=hW
 obtain ⟨p,q,hA0,hV,rfl,hfz,hnd⟩:=hW
 have hA:DataW.TrodAll enc Tryz.prog W 0 (fun _=>true) true Tryz.f4.params.toList args.toList ds p:=hA0
 rw [Tryz.params4] at hA hval
 obtain ⟨v0,vs0,d0,ds0,p0,q0,hargs,rfl,rfl,h0,r0⟩:=trodAll_cons hA
 obtain ⟨v1,vs1,d1,ds1,p1,q1,rfl,rfl,rfl,h1,r1⟩:=trodAll_cons r0
 obtain ⟨v2,vs2,d2,ds2,p2,q2,rfl,rfl,rfl,h2,r2⟩:=trodAll_cons r1
 obtain ⟨rfl,rfl,rfl⟩:=trodAll_nil r2
 obtain rfl:args=#[v0,v1,v2]:=by cases args;simp_all
 obtain ⟨rfl,rfl⟩:=trodVars_none hV
 obtain ⟨a0,len0,cap0,rfl⟩:=okWide_slice Tryz.underlying22 (hval 0 22 v0 rfl rfl)
 have k0:=h0
 have lt0:∀ x∈p0,x.block<W.heap.size:=by obtain ⟨m,hm⟩:=k0;exact DataW.trod_lt m _ _ _ hm
 obtain ⟨l0,b0,g0⟩:=argC_slice EV.reads_bats h0
 have k1:=h1
 have lt1:∀ x∈p1,x.block<W.heap.size:=by obtain ⟨m,hm⟩:=k1;exact DataW.trod_lt m _ _ _ hm
 obtain ⟨cs1,e1,rfl,b1,g1⟩:=argC_struct EV.reads_bat Tryz.underlying45 (hval 1 45 v1 rfl rfl) h1
 obtain ⟨s2,rfl,rfl,rfl,ws2⟩:=open_string Tryz.underlying9 (hval 2 9 v2 rfl rfl) h2
 clear hA0
 refine (MX.forks_walk _ l0 cs1 e1 s2 W b0 b1 ws2).mono fun e W' ⟨he,bel⟩ => ?_
 subst he
 exact ⟨_,rfl,_,_,_,[],_,[],hW',trodAll_mk1 (shut_bool Tryz.underlying4 _),(trodAll_cons_mk (Below.trod laidOut (by kernel_rfl) (of_decide_eq_true (by kernel_rfl)) k0 bel lt0) (trodAll_cons_mk (Below.trod laidOut (by kernel_rfl) (of_decide_eq_true (by kernel_rfl)) k1 bel lt1) (trodAll_cons_mk (shut_string Tryz.underlying9 ws2) trodAll_mk0))),rfl,bel.frame _,fun h=>by cases h⟩
theorem lifted (os:Os) (started:os.Started) (H:Type) (enc:TypeId×Value→H) :
  ReturnsInHanded {} Tryz.checked os 4 .any (Rows.memidxForksSpec.pre6 enc Tryz.prog Tryz.f4 Rows.memidxForksRow.domain false) (Rows.memidxForksSpec.post enc Tryz.prog Tryz.f4 false true false false):=by
 refine returnsInHanded_of_change (C:=Tryz.checked) own started (by kernel_rfl) Tryz.func4
  (ChangeSpec.witness6 (enc:=enc) (C:=Tryz.checked) false ⟨#[],#[.slice none 0 0,.agg #[.int .i64 0,.slice none 0 0],.string ⟨#[]⟩],[]⟩ 8 (by kernel_rfl) (by kernel_rfl) (by kernel_rfl) (by kernel_rfl)) ?_
 intro W base args ds gs before hval hW _ _
 exact contract H enc W args ds gs before hval hW
theorem said:Rows.MemidxForksSaid :=
 OpenClaim.holds_of_wide 4 Tryz.f4 rfl rfl rfl rfl rfl rfl rfl ⟨rfl,rfl,rfl,rfl,rfl⟩ rfl rfl rfl rfl rfl (by kernel_rfl) Tryz.func4 (by kernel_rfl)
  (of_decide_eq_true (by kernel_rfl)) (by unfold Func.isWrapper;first | (rw [if_pos (by decide +kernel)];kernel_rfl) | (rw [if_neg (by decide +kernel)];exact ⟨rfl,rfl⟩))
  (fun os started H enc _=>lifted os started H enc)
end Go.Proofs.YtidhgicajlaafaaGreat.MF4
namespace Go.Proofs.YtidhgicajlaafaaGreat
theorem memidxForks_holds:Rows.MemidxForksSaid:=MF4.said
end Go.Proofs.YtidhgicajlaafaaGreat
