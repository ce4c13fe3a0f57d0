import Derived.ProofKit
import Derived.OpenShut
import Derived.ShutString
import Derived.Test.YtdfibahafilklaaGreatDoorCards
import Derived.Test.YtdfibahafilklaaGreatDoorTie
import Derived.Stop.LaidErr
import Derived.Stop.ErrReads
import Derived.Test.YtdfibahafilklaaGreatDoorZC53
import Derived.Deep.DeepHandedRow
set_option maxRecDepth 100000
set_option maxHeartbeats 8000000
set_option linter.unusedVariables false
set_option linter.unusedSimpArgs false
namespace Go.Proofs.YtdfibahafilklaaGreatDoor.MM
open Go.ChangeShapes Go.WideShapes Go.ChangeAt Go.RowKit Go.Proofs
theorem own:ownKnob Tryz.prog.godebug=none:=by kernel_rfl
theorem laidOut:laidOutB Tryz.prog=true:=by kernel_rfl
theorem cell_lt {w:World} {b o:Nat} {v:Value} (h:w.cell? ⟨b,o,none⟩=some v):b<w.heap.size:=by
 by_cases hb:b<w.heap.size
 ·exact hb
 ·simp [World.cell?,Array.getElem?_eq_none (Nat.le_of_not_lt hb)] at h
theorem i64_of_wf {x:Int} (h:(Lit.int .i64 x).wf=true) : -9223372036854775808≤x∧x≤9223372036854775807:=by
 simp only [Lit.wf,Bool.and_eq_true,decide_eq_true_eq] at h
 have h1:IntKind.i64.min = -9223372036854775808:=by decide
 have h2:IntKind.i64.max=9223372036854775807:=by decide
 rw [h1,h2] at h
 exact h
end Go.Proofs.YtdfibahafilklaaGreatDoor.MM
namespace Go.Proofs.YtdfibahafilklaaGreatDoor.MM
open Go Go.RowKit Go.ChangeShapes Go.WideShapes
def Reads (P:Program) {α:Type} (C:Codec α) (G:α→Prop) (t:TypeId):Prop :=
 ∀ {H:Type} {enc:TypeId×Value→H} {W:World} {base n:Nat} {cs:List Value} {x:DataW H×List MemPlace},DataW.trod enc P W base (fun _=>true) true n t cs=some x→∃ a,C.on (fun _=>True) W cs a∧G a
def FitI (z:Int):Prop := -9223372036854775808≤z∧z≤9223372036854775807
theorem reads_int {P:Program} {t:TypeId} (ht:P.underlying t=some (.int .i64)):Reads P cInt FitI t:=fun h=>by
 obtain ⟨z,rfl,_,hw⟩:=DataW.trod_int ht h
 refine ⟨z,rfl,?_⟩
 simp only [Lit.wf,Bool.and_eq_true,decide_eq_true_eq] at hw
 have h1:IntKind.i64.min = -9223372036854775808:=by decide
 have h2:IntKind.i64.max=9223372036854775807:=by decide
 rw [h1,h2] at hw
 exact hw
theorem reads_str {P:Program} {t:TypeId} (ht:P.underlying t=some .string):Reads P cStr (fun l=>l.length≤maxLen) t:=fun h=>by
 obtain ⟨s,rfl,_,hs⟩:=DataW.trod_string ht h
 exact ⟨s.data.toList,rfl,by simpa using hs⟩
theorem reads_row {P:Program} {α:Type} [Inhabited α] {C:Codec α} {G:α→Prop} {T e:TypeId} (ht:P.underlying T=some (.slice e)) (hc:P.cellsOf e=C.size) (he:Reads P C G e):Reads P (cRow C) (fun l=>(∀ a∈l,G a)∧l.length≤maxLen) T:=fun {H enc W base n cs x} h=>by
 rcases Deep.open_slice ht h with ⟨rfl,_⟩ | ⟨a,len,cap,m,k,D,Pl,rfl,_,hl,hm,hmm,_,hx⟩
 ·exact ⟨[],⟨_,rfl,ROn.nil_ _ _⟩,by simp,by simp [maxLen]⟩
 ·simp only [if_true] at hmm
  subst hmm
  have each:∀ i,i<len→∃ q:α×List Value,W.cells? base (a.add (i*C.size)) C.size=some q.2∧C.on (fun _=>True) W q.2 q.1∧G q.1:=fun i hi=>by
   obtain ⟨cs',h1,h2⟩:=hx i (by omega)
   obtain ⟨d,h3,h4⟩:=he h2
   rw [hc] at h1
   exact ⟨(d,cs'),h1,h3,h4⟩
  obtain ⟨q,hq⟩:=Deep.choose_lt each
  refine ⟨(List.range len).map fun i=>(q i).1,⟨_,rfl,some a,m,(List.range len).map fun i=>(q i).2,by simp,by simpa using hl,hm,(fun h=>by cases h),⟨by simp,fun i hi hi' => ?_⟩,?_⟩,fun d hd => ?_,by simp;omega⟩
  ·have hi2:i<len:=by simpa using hi
   simp only [List.getElem_map,List.getElem_range]
   exact (hq i hi2).2.1
  ·by_cases h0:len=0
   ·left;simp [h0]
   ·right
    have hlens:∀ r∈(List.range len).map (fun i=>(q i).2),r.length=C.size:=fun r hr=>by
     obtain ⟨i,hi,rfl⟩:=List.mem_map.1 hr
     exact C.len (hq i (List.mem_range.1 hi)).2.1
    have cell:∀ i,i<len→∀ j u,(q i).2[j]? = some u→W.cell? ((a.add (i*C.size)).add j)=some u:=fun i hi j u hj=>by
     obtain ⟨_,hlen,hcell⟩:=World.cells?_some (hq i hi).1
     have hjl:=(List.getElem?_eq_some_iff.1 hj).1
     have:=hcell j (by omega)
     rw [this]
     simpa using hj
    have hp:=C.pos
    have hl0:=C.len (hq 0 (by omega)).2.1
    obtain ⟨u0,hu0⟩:∃ u,(q 0).2[0]? = some u:=⟨_,List.getElem?_eq_getElem (by omega)⟩
    have c0:=cell 0 (by omega) 0 u0 hu0
    obtain ⟨b,off,spot⟩:=a
    have hspot:spot=none:=by
     have:=World.cell?_spot c0
     simpa [Addr.add] using this
    subst hspot
    refine ⟨b,off,rfl,?_,trivial,fun j u hj => ?_⟩
    ·rw [add_at,add_at] at c0
     by_cases hb:b<W.heap.size
     ·exact hb
     ·simp [World.cell?,Array.getElem?_eq_none (Nat.le_of_not_lt hb)] at c0
    ·have hjl:=(List.getElem?_eq_some_iff.1 hj).1
     rw [flat_len hlens,List.length_map,List.length_range] at hjl
     have hi:j / C.size<len:=(Nat.div_lt_iff_lt_mul hp).2 hjl
     have hmod:=Nat.mod_lt j hp
     have hdm:=Nat.div_add_mod j C.size
     have hli:=C.len (hq _ hi).2.1
     obtain ⟨u',hu'⟩:∃ u,(q (j / C.size)).2[j%C.size]? = some u:=⟨_,List.getElem?_eq_getElem (by omega)⟩
     have hf:=flat_get hlens (j / C.size) (by simpa using hi) (j%C.size) u' (by simpa using hu')
     have e:j / C.size*C.size+j%C.size=j:=by rw [Nat.mul_comm];exact hdm
     rw [e,hj] at hf
     obtain rfl:=Option.some.inj hf
     have:=cell _ hi _ _ hu'
     rw [add_at,add_at,Nat.add_assoc,e] at this
     exact this
  ·obtain ⟨i,hi,rfl⟩:=List.mem_map.1 hd
   exact (hq i (List.mem_range.1 hi)).2.2
theorem reads_pair {P:Program} {α β:Type} {C:Codec α} {D:Codec β} {G:α→Prop} {F:β→Prop} {t:TypeId} {f0 f1:Field} (ht:P.underlying t=some (.struct #[f0,f1]))
  (ho0:f0.offset=0) (ho1:f1.offset=C.size) (hc0:P.cellsOf f0.type=C.size) (hc1:P.cellsOf f1.type=D.size) (hc:P.cellsOf t=C.size+D.size) (h0:Reads P C G f0.type) (h1:Reads P D F f1.type) :
  Reads P (cPair C D) (fun p=>G p.1∧F p.2) t:=fun {H enc W base n cs x} h=>by
 obtain ⟨y0,y1,k,_,hl,g0,g1⟩:=trod_struct2 ht h
 obtain ⟨a,a1,a2⟩:=h0 g0
 obtain ⟨b,b1,b2⟩:=h1 g1
 rw [ho0,hc0,List.drop_zero] at a1
 rw [ho1,hc1] at b1
 rw [hc] at hl
 have e:(cs.drop C.size).take D.size=cs.drop C.size:=List.take_of_length_le (by rw [List.length_drop];omega)
 rw [e] at b1
 exact ⟨(a,b),⟨cs.take C.size,cs.drop C.size,(List.take_append_drop _ _).symm,a1,b1⟩,a2,b2⟩
theorem argC_struct {P:Program} {α:Type} {C:Codec α} {G:α→Prop} {t:TypeId} {fs:Array Field} {H:Type} {enc:TypeId×Value→H} {W:World} {base base2:Nat} {v:Value} {d:DataW H} {p:List MemPlace} (R:Reads P C G t) (ht:P.underlying t=some (.struct fs))
  (hv:Value.okWide P W .any base2 t v) (h:∃ fuel,DataW.trod enc P W base (fun _=>true) true fuel t v.cells.toList=some (d,p)):∃ cs a,v=.agg cs∧C.on (fun _=>True) W cs.toList a∧G a:=by
 obtain ⟨cs,rfl,hsz⟩:=okWide_struct ht hv
 obtain ⟨fuel,hf⟩:=h
 obtain ⟨a,a1,a2⟩:=R hf
 exact ⟨cs,a,rfl,a1,a2⟩
end Go.Proofs.YtdfibahafilklaaGreatDoor.MM
namespace Go.Proofs.YtdfibahafilklaaGreatDoor.EV
open Go Go.RowKit MM EM
def FitS (p:Fld):Prop:=p.1.length≤maxLen∧p.2.length≤maxLen
theorem reads_fld:Reads Tryz.prog fldC FitS 84:=reads_pair Tryz.underlying84 rfl rfl (by kernel_rfl) (by kernel_rfl) (by kernel_rfl) (reads_str Tryz.underlying9) (reads_str Tryz.underlying9)
def FitEv (e:Ev):Prop:=FitI e.1∧(∀ f∈e.2,FitS f)∧e.2.length≤maxLen
theorem reads_ev:Reads Tryz.prog evC FitEv 87:=reads_pair Tryz.underlying87 rfl rfl (by kernel_rfl) (by kernel_rfl) (by kernel_rfl) (reads_int Tryz.underlying3) (reads_row Tryz.underlying85 (by kernel_rfl) reads_fld)
end Go.Proofs.YtdfibahafilklaaGreatDoor.EV
namespace Go.Proofs.YtdfibahafilklaaGreatDoor.EV
open Go Go.RowKit MM EM
def FitBat (b:Bat):Prop:=FitI b.1∧(∀ e∈b.2,FitEv e)∧b.2.length≤maxLen
theorem reads_bat:Reads Tryz.prog batC FitBat 82:=reads_pair Tryz.underlying82 rfl rfl (by kernel_rfl) (by kernel_rfl) (by kernel_rfl) (reads_int Tryz.underlying3) (reads_row Tryz.underlying80 (by kernel_rfl) reads_ev)
end Go.Proofs.YtdfibahafilklaaGreatDoor.EV
namespace Go.Proofs.YtdfibahafilklaaGreatDoor.WL
open Go Go.ChangeShapes Go.WideShapes Go.ChangeAt Go.RowKit Go.Proofs MM
theorem data_pow:(Rows.laid_internal_strconv_uint64pow10:DataW Unit)=Lib.tabData .u64 Lib.pow10Tab:=by kernel_rfl
theorem err_star : "*" ++ "errors.errorString" = "*errors.errorString" := by decide
theorem err_row (u:TypeId) (h:Tryz.prog.typeName? 3 u=some "*errors.errorString"):u=239 :=
 typeName_ptr_named (nm := "errors.errorString") (by rw [err_star];kernel_rfl) (by kernel_rfl) (by decide) u (by rw [err_star];exact h)
def laidL:List (String×DataW Unit):=[("math/bits.deBruijn32tab", Rows.laid_math_bits_deBruijn32tab),("math/bits.deBruijn64tab", Rows.laid_math_bits_deBruijn64tab),("internal/strconv.uint64pow10", Rows.laid_internal_strconv_uint64pow10),("strconv.ErrRange", Rows.laid_strconv_ErrRange),("strconv.ErrSyntax", Rows.laid_strconv_ErrSyntax)]
theorem tabs_of_laid {W:World} (h:laidMetH Tryz.prog laidL W):TabsW W:=by
 rw [MakeChecks.laidMetH_plain _ _ _ (by kernel_rfl)] at h
 have h3:=(laidMet.tail (laidMet.tail h))
 have h4:=laidMet.tail h3
 have h5:=laidMet.tail h4
 rw [data_pow] at h3
 obtain ⟨a,s,hv,_,_,_⟩:=laid_sentinel (g:=1) (ti:=96) (tp:=239) (te:=241) (ts:=9) h4 (by kernel_rfl) (by kernel_rfl) Tryz.underlying96 err_row Tryz.underlying239 Tryz.underlying241 rfl rfl Tryz.underlying9 (by kernel_rfl) (by kernel_rfl)
 obtain ⟨a',s',hv',_,_,_⟩:=laid_sentinel (g:=0) (ti:=96) (tp:=239) (te:=241) (ts:=9) h5 (by kernel_rfl) (by kernel_rfl) Tryz.underlying96 err_row Tryz.underlying239 Tryz.underlying241 rfl rfl Tryz.underlying9 (by kernel_rfl) (by kernel_rfl)
 refine ⟨?_,⟨239,.pointer (some a'),?_⟩,⟨239,.pointer (some a),?_⟩⟩
 ·exact Lib.tabIs_of_head (g:=2) (t:=235) (e:=156) (n:=20) (by kernel_rfl) (by kernel_rfl) (by kernel_rfl) (by kernel_rfl) (by kernel_rfl) (by kernel_rfl) h3
 ·simpa using World.var?_cell (g:=0) (by kernel_rfl) hv' 0
 ·simpa using World.var?_cell (g:=1) (by kernel_rfl) hv 0
noncomputable def low:Nat:=(World.holding Tryz.prog default ⟨#[],#[],[]⟩).heap.size
def setCells (cs:Array Value):Obj→Obj
 | .cells _ t frozen=>.cells cs t frozen
 | o=>o
def powCells:Array Value:=(Lib.pow10Tab.map (Value.int .u64)).toArray
def b32Cells:Array Value:=(([0,1,28,2,29,14,24,3,30,22,20,15,25,17,4,8,31,27,13,23,21,19,16,7,26,12,18,6,11,5,10,9]:List Int).map (Value.int .u8)).toArray
def b64Cells:Array Value:=(([0,1,56,2,57,49,28,3,61,58,42,50,38,29,17,4,62,47,59,36,45,43,51,22,53,39,33,30,24,18,12,5,63,55,48,27,60,41,37,16,46,35,44,21,52,32,23,11,54,26,40,15,34,20,31,10,25,14,19,9,13,8,7,6]:List Int).map (Value.int .u8)).toArray
def ranS:ByteArray:=⟨#[118,97,108,117,101,32,111,117,116,32,111,102,32,114,97,110,103,101]⟩
def synS:ByteArray:=⟨#[105,110,118,97,108,105,100,32,115,121,110,116,97,120]⟩
noncomputable def laidWorld (os:Os):World :=
 let w0:=World.holding Tryz.prog os ⟨#[.cells #[.string ranS] 241,.cells #[.string synS] 241],#[],[]⟩
 { w0 with heap:=((((w0.heap.modify 4 (setCells b32Cells)).modify 5 (setCells b64Cells)).modify 2 (setCells powCells)).modify 1 (setCells #[.iface 239 (.pointer (some ⟨low,0,none⟩))])).modify 0 (setCells #[.iface 239 (.pointer (some ⟨low+1,0,none⟩))]) }
theorem laid_met (os:Os) (args:Array Value):laidMet Tryz.prog laidL ((laidWorld os).forCall (fun _ _=>0) ⟨#[],args,[]⟩).memory :=
 laidMet_of_run' 8 (by kernel_rfl) (by kernel_rfl)
end Go.Proofs.YtdfibahafilklaaGreatDoor.WL
namespace Go.Proofs.YtdfibahafilklaaGreatDoor.WF5
open WL
open Go Go.ChangeShapes Go.WideShapes Go.ChangeAt Go.RowKit MM
open Go.ChangeMaps (open_string shut_string)
theorem contract (H:Type) (enc:TypeId×Value→H) (W:World) (base:Nat) (args:Array Value) (ds gs:List (DataW H)) (before:List MemPlace)
  (hval:∀ (j:Nat) t v,Tryz.f7.params[j]? = some t→args[j]? = some v→Value.okWide Tryz.prog W .any base t v)
  (hW:DataW.Whole enc Tryz.prog Tryz.f7.params.toList Rows.walNobodySpec.vars false W args.toList ds gs before) (hL:laidMetH Tryz.prog Rows.walNobodyRow.laid W)
  (hsz:∀ (j:Nat) t bytes,Tryz.f7.params[j]? = some t→ds[j]? = some (.lit (.string bytes))→bytes.length≤reachBytes) :
  Calls Tryz.prog 7 args W fun e W'=>∃ v,e=.returned v∧Rows.walNobodySpec.post enc Tryz.prog Tryz.f7 false true false false W args v W':=by
 have hT:=tabs_of_laid (W:=W) hL
 have hW':=hW
 obtain ⟨p,q,hA0,hV,rfl,hfz,hnd⟩:=hW
 have hA:DataW.TrodAll enc Tryz.prog W 0 (fun _=>true) true Tryz.f7.params.toList args.toList ds p:=hA0
 rw [Tryz.params7] at hA hval
 obtain ⟨v0,vs0,d0,ds0,p0,q0,hargs,rfl,rfl,h0,r0⟩:=trodAll_cons hA
 obtain ⟨v1,vs1,d1,ds1,p1,q1,rfl,rfl,rfl,h1,r1⟩:=trodAll_cons r0
 obtain ⟨rfl,rfl,rfl⟩:=trodAll_nil r1
 obtain rfl:args=#[v0,v1]:=by cases args;simp_all
 obtain ⟨rfl,rfl⟩:=trodVars_none hV
 have k0:=h0
 have lt0:∀ x∈p0,x.block<W.heap.size:=by obtain ⟨m,hm⟩:=k0;exact DataW.trod_lt m _ _ _ hm
 obtain ⟨cs0,e0,rfl,b0,g0⟩:=argC_struct EV.reads_bat Tryz.underlying82 (hval 0 82 v0 rfl rfl) h0
 obtain ⟨x1,rfl,rfl,rfl,wx1⟩:=open_int Tryz.underlying3 (hval 1 3 v1 rfl rfl) h1
 obtain ⟨lo1,hi1⟩:=i64_of_wf wx1
 clear hA0
 refine (WL.nobody_walk2 cs0 x1 e0 W b0 hT).mono fun e W' ⟨he,bel⟩ => ?_
 subst he
 exact ⟨_,rfl,_,_,_,[],_,[],hW',trodAll_mk1 (shut_bool Tryz.underlying4 _),(trodAll_cons_mk (Below.trod laidOut (by kernel_rfl) (of_decide_eq_true (by kernel_rfl)) k0 bel lt0) (trodAll_cons_mk (shut_int Tryz.underlying3 wx1) trodAll_mk0)),rfl,bel.frame _,fun h=>by cases h⟩
theorem reads (os:Os) {H:Type} (enc:TypeId×Value→H):∃ places,DataW.whole enc Tryz.prog ((laidWorld os).forCall (fun _ _=>0) ⟨#[],#[.agg #[.int .i64 0,.slice none 0 0],.int .i64 0],[]⟩).memory Tryz.f7.params.toList Rows.walNobodySpec.vars false (#[.agg #[.int .i64 0,.slice none 0 0],.int .i64 0]:Array Value).toList 8=some ([.agg [.lit (.int .i64 0),.nil],.lit (.int .i64 0)],[],places) :=
 ⟨[],by kernel_rfl⟩
theorem lifted (os:Os) (started:os.Started) (H:Type) (enc:TypeId×Value→H) (F:Stop.Interp) :
  ReturnsInHanded {} Tryz.checked os 7 .any ((OpenSpec.ofChange Rows.walNobodySpec).preRow enc Tryz.prog Tryz.f7 Rows.walNobodyRow.domain false Rows.walNobodyRow.laid) (((OpenSpec.ofChange Rows.walNobodySpec).at F).post enc Tryz.prog Tryz.f7 false true false false):=by
 obtain ⟨places,hx⟩:=reads os enc
 refine returnsInHanded_of_row (C:=Tryz.checked) (s:=OpenSpec.ofChange Rows.walNobodySpec) own started (by kernel_rfl) Tryz.func7
  (witness_row_at (enc:=enc) (C:=Tryz.checked) false (laidWorld os) #[.agg #[.int .i64 0,.slice none 0 0],.int .i64 0] rfl (by kernel_rfl) (by kernel_rfl) (by kernel_rfl)
   (OpenSpec.preRow_of_cond 8 hx (by kernel_rfl) (fun k hk=>by cases hk) (by kernel_rfl) (laid_met os _))) ?_
 intro W base args ds gs before hval hW _ _ hsz hL _ _
 refine contract H enc W base args ds gs before hval hW hL fun j t bytes ht hd => ?_
 refine sized_string hsz (j:=j) (t:=t) ?_ ?_
 ·rw [List.getElem?_append_left (by have:=(Array.getElem?_eq_some_iff.1 ht).1;simpa using this)]
  simpa using ht
 ·rw [List.getElem?_append_left (List.getElem?_eq_some_iff.1 hd).1]
  exact hd
theorem said:Rows.WalNobodySaid :=
 OpenClaim.holds_of_cond 7 Tryz.f7 rfl rfl rfl rfl rfl rfl rfl ⟨rfl,rfl,rfl,rfl,rfl⟩ rfl rfl rfl rfl rfl (by kernel_rfl) Tryz.func7 (by kernel_rfl)
  (of_decide_eq_true (by kernel_rfl)) (by unfold Func.isWrapper;first | (rw [if_pos (by decide +kernel)];kernel_rfl) | (rw [if_neg (by decide +kernel)];exact ⟨rfl,rfl⟩))
  (fun os started H enc _ F=>by rw [OpenClaim.pre_eq_preRow];exact lifted os started H enc F)
theorem plain (f:FuncId) (fn:Func) (hf:Tryz.pinned.checked.prog.funcNamed "loggia/loggialaw15.WalNobody" = some f) (hfn:Tryz.pinned.checked.prog.funcs[f]? = some fn) :
  true=Tryz.pinned.checked.prog.looks []∧∀ (j:Nat) t,fn.params[j]? = some t→Tryz.pinned.checked.prog.wantsStandIn t=false:=by
 obtain rfl:f=7:=Option.some.inj ((show Tryz.prog.funcNamed "loggia/loggialaw15.WalNobody" = some 7 by kernel_rfl).symm.trans hf) |>.symm
 obtain rfl:fn=Tryz.f7:=(Option.some.inj (Tryz.func7.symm.trans hfn)).symm
 refine ⟨by kernel_rfl,fun j t ht => ?_⟩
 rw [Tryz.params7] at ht
 have hm:t∈[82,3]:=by simpa using Array.mem_of_getElem? ht
 have hall:([82,3].all fun u => !Tryz.prog.wantsStandIn u)=true:=by kernel_rfl
 exact (show Tryz.prog.wantsStandIn t=false by simpa using List.all_eq_true.1 hall t hm)
theorem card:Rows.WalNobodyCardSaid :=
 Claim7.holds_tied_plain_at .later [] _ _ _ _ said (fun _ h=>by cases h) (by kernel_rfl) (fun _ h=>by cases h) walNobody_row_tie rfl ⟨rfl,rfl⟩ (by kernel_rfl) rfl plain (by kernel_rfl)
end Go.Proofs.YtdfibahafilklaaGreatDoor.WF5
namespace Go.Proofs.YtdfibahafilklaaGreatDoor
theorem walNobody_holds:Rows.WalNobodyCardSaid:=WF5.card
end Go.Proofs.YtdfibahafilklaaGreatDoor
