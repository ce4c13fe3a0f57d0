import Derived.ProofKit
import Derived.OpenShut
import Derived.ShutString
import Derived.Test.YtdfibahafilklaaGreatDoorCards
import Derived.Test.YtdfibahafilklaaGreatDoorTie
import Derived.Stop.LaidErr
import Derived.Stop.ErrReads
import Derived.Test.YtdfibahafilklaaGreatDoorZB53
import Derived.Deep.DeepHandedRow
set_option maxRecDepth 100000
set_option maxHeartbeats 8000000
set_option linter.unusedVariables false
set_option linter.unusedSimpArgs false
namespace Go.Proofs.YtdfibahafilklaaGreatDoor.MM
open Go.ChangeShapes Go.WideShapes Go.ChangeAt Go.RowKit Go.Proofs
theorem own:ownKnob Tryz.prog.godebug=none:=by kernel_rfl
theorem laidOut:laidOutB Tryz.prog=true:=by kernel_rfl
theorem cell_lt {w:World} {b o:Nat} {v:Value} (h:w.cell? ⟨b,o,none⟩=some v):b<w.heap.size:=by
 by_cases hb:b<w.heap.size
 ·exact hb
 ·simp [World.cell?,Array.getElem?_eq_none (Nat.le_of_not_lt hb)] at h
theorem row_of_cells {W:World} {a:Addr} {len cap:Nat} {xs:List Value} (hl:xs.length=len) (hlc:len≤cap) (hcm:cap≤maxLen) (hc:∀ i u,xs[i]? = some u→W.cell? (a.add i)=some u):Row W (.slice (some a) len cap) xs:=by
 subst hl
 refine ⟨some a,cap,rfl,hlc,hcm,(fun h=>by cases h),?_⟩
 cases xs with
 | nil=>exact .inl rfl
 | cons x xs =>
   right
   obtain ⟨b,off,spot⟩:=a
   have hc0:=hc 0 x rfl
   have hspot:spot=none:=by simpa [Addr.add] using World.cell?_spot hc0
   subst hspot
   refine ⟨b,off,rfl,cell_lt (o:=off) (v:=x) (by simpa [Addr.add] using hc0),fun i u hi => ?_⟩
   rw [← add_at]
   exact hc i u hi
theorem u8_of_wf {x:Int} (h:(Lit.int .u8 x).wf=true):0≤x∧x<256:=by
 simp only [Lit.wf,Bool.and_eq_true,decide_eq_true_eq] at h
 have h1:IntKind.u8.min=0:=by decide
 have h2:IntKind.u8.max=255:=by decide
 rw [h1,h2] at h
 omega
theorem argBytes {H:Type} {enc:TypeId×Value→H} {W:World} {base:Nat} {T e:TypeId} {a:Option Addr} {len cap:Nat} {d:DataW H} {p:List MemPlace}
  (ht:Tryz.prog.underlying T=some (.slice e)) (he:Tryz.prog.underlying e=some (.int .u8)) (hc:Tryz.prog.cellsOf e=1)
  (h:∃ fuel,DataW.trod enc Tryz.prog W base (fun _=>true) true fuel T (Value.slice a len cap).cells.toList=some (d,p)):∃ l,BRow W (.slice a len cap) l:=by
 obtain ⟨fuel,hf⟩:=h
 rcases open_ints ht he hc hf with ⟨hcs,_⟩ | ⟨x,n,c,zs,hcs,_,hl,hm,hz,_,hcell,hwz⟩
 ·simp [Value.cells] at hcs
  obtain ⟨rfl,rfl,rfl⟩:=hcs
  exact ⟨[],BRow.nil_ W⟩
 ·simp [Value.cells] at hcs
  obtain ⟨rfl,rfl,rfl⟩:=hcs
  have hzl:zs.length=cap:=by simpa using hz
  refine ⟨(zs.take len).map (fun z=>UInt8.ofNat z.toNat),row_of_cells (by rw [byteCells_len,List.length_map,List.length_take];omega) hl hm (fun i u hi => ?_)⟩
  have hi2:i<len:=by
   have:=(List.getElem?_eq_some_iff.1 hi).1
   rw [byteCells_len,List.length_map,List.length_take] at this
   omega
  have hlt:i<zs.length:=by omega
  have hb:=u8_of_wf (hwz zs[i] (List.getElem_mem hlt))
  have hu:u=.int .u8 (zs[i]):=by
   have hg:=hi
   simp only [Lib.byteCells,List.getElem?_map,List.getElem?_take,if_pos hi2,List.getElem?_eq_getElem hlt,Option.map_some,Option.some.injEq] at hg
   rw [← hg]
   refine congrArg (Value.int .u8) ?_
   rw [UInt8.toNat_ofNat']
   omega
  rw [hu,hcell i hlt]
  simp [List.getD,hlt]
end Go.Proofs.YtdfibahafilklaaGreatDoor.MM
namespace Go.Proofs.YtdfibahafilklaaGreatDoor.WL
open Go Go.ChangeShapes Go.WideShapes Go.ChangeAt Go.RowKit Go.Proofs MM
theorem data_pow:(Rows.laid_internal_strconv_uint64pow10:DataW Unit)=Lib.tabData .u64 Lib.pow10Tab:=by kernel_rfl
theorem err_star : "*" ++ "errors.errorString" = "*errors.errorString" := by decide
theorem err_row (u:TypeId) (h:Tryz.prog.typeName? 3 u=some "*errors.errorString"):u=239 :=
 typeName_ptr_named (nm := "errors.errorString") (by rw [err_star];kernel_rfl) (by kernel_rfl) (by decide) u (by rw [err_star];exact h)
def laidL:List (String×DataW Unit):=[("math/bits.deBruijn32tab", Rows.laid_math_bits_deBruijn32tab),("math/bits.deBruijn64tab", Rows.laid_math_bits_deBruijn64tab),("internal/strconv.uint64pow10", Rows.laid_internal_strconv_uint64pow10),("strconv.ErrRange", Rows.laid_strconv_ErrRange),("strconv.ErrSyntax", Rows.laid_strconv_ErrSyntax)]
theorem tabs_of_laid {W:World} (h:laidMetH Tryz.prog laidL W):TabsW W:=by
 rw [MakeChecks.laidMetH_plain _ _ _ (by kernel_rfl)] at h
 have h3:=(laidMet.tail (laidMet.tail h))
 have h4:=laidMet.tail h3
 have h5:=laidMet.tail h4
 rw [data_pow] at h3
 obtain ⟨a,s,hv,_,_,_⟩:=laid_sentinel (g:=1) (ti:=96) (tp:=239) (te:=241) (ts:=9) h4 (by kernel_rfl) (by kernel_rfl) Tryz.underlying96 err_row Tryz.underlying239 Tryz.underlying241 rfl rfl Tryz.underlying9 (by kernel_rfl) (by kernel_rfl)
 obtain ⟨a',s',hv',_,_,_⟩:=laid_sentinel (g:=0) (ti:=96) (tp:=239) (te:=241) (ts:=9) h5 (by kernel_rfl) (by kernel_rfl) Tryz.underlying96 err_row Tryz.underlying239 Tryz.underlying241 rfl rfl Tryz.underlying9 (by kernel_rfl) (by kernel_rfl)
 refine ⟨?_,⟨239,.pointer (some a'),?_⟩,⟨239,.pointer (some a),?_⟩⟩
 ·exact Lib.tabIs_of_head (g:=2) (t:=235) (e:=156) (n:=20) (by kernel_rfl) (by kernel_rfl) (by kernel_rfl) (by kernel_rfl) (by kernel_rfl) (by kernel_rfl) h3
 ·simpa using World.var?_cell (g:=0) (by kernel_rfl) hv' 0
 ·simpa using World.var?_cell (g:=1) (by kernel_rfl) hv 0
noncomputable def low:Nat:=(World.holding Tryz.prog default ⟨#[],#[],[]⟩).heap.size
def setCells (cs:Array Value):Obj→Obj
 | .cells _ t frozen=>.cells cs t frozen
 | o=>o
def powCells:Array Value:=(Lib.pow10Tab.map (Value.int .u64)).toArray
def b32Cells:Array Value:=(([0,1,28,2,29,14,24,3,30,22,20,15,25,17,4,8,31,27,13,23,21,19,16,7,26,12,18,6,11,5,10,9]:List Int).map (Value.int .u8)).toArray
def b64Cells:Array Value:=(([0,1,56,2,57,49,28,3,61,58,42,50,38,29,17,4,62,47,59,36,45,43,51,22,53,39,33,30,24,18,12,5,63,55,48,27,60,41,37,16,46,35,44,21,52,32,23,11,54,26,40,15,34,20,31,10,25,14,19,9,13,8,7,6]:List Int).map (Value.int .u8)).toArray
def ranS:ByteArray:=⟨#[118,97,108,117,101,32,111,117,116,32,111,102,32,114,97,110,103,101]⟩
def synS:ByteArray:=⟨#[105,110,118,97,108,105,100,32,115,121,110,116,97,120]⟩
noncomputable def laidWorld (os:Os):World :=
 let w0:=World.holding Tryz.prog os ⟨#[.cells #[.string ranS] 241,.cells #[.string synS] 241],#[],[]⟩
 { w0 with heap:=((((w0.heap.modify 4 (setCells b32Cells)).modify 5 (setCells b64Cells)).modify 2 (setCells powCells)).modify 1 (setCells #[.iface 239 (.pointer (some ⟨low,0,none⟩))])).modify 0 (setCells #[.iface 239 (.pointer (some ⟨low+1,0,none⟩))]) }
theorem laid_met (os:Os) (args:Array Value):laidMet Tryz.prog laidL ((laidWorld os).forCall (fun _ _=>0) ⟨#[],args,[]⟩).memory :=
 laidMet_of_run' 8 (by kernel_rfl) (by kernel_rfl)
end Go.Proofs.YtdfibahafilklaaGreatDoor.WL
namespace Go.Proofs.YtdfibahafilklaaGreatDoor.WF2
open WL
open Go Go.ChangeShapes Go.WideShapes Go.ChangeAt Go.RowKit MM
open Go.ChangeMaps (open_string shut_string)
theorem contract (H:Type) (enc:TypeId×Value→H) (W:World) (base:Nat) (args:Array Value) (ds gs:List (DataW H)) (before:List MemPlace)
  (hval:∀ (j:Nat) t v,Tryz.f4.params[j]? = some t→args[j]? = some v→Value.okWide Tryz.prog W .any base t v)
  (hW:DataW.Whole enc Tryz.prog Tryz.f4.params.toList Rows.walScansSpec.vars false W args.toList ds gs before) (hL:laidMetH Tryz.prog Rows.walScansRow.laid W)
  (hsz:∀ (j:Nat) t bytes,Tryz.f4.params[j]? = some t→ds[j]? = some (.lit (.string bytes))→bytes.length≤reachBytes) :
  Calls Tryz.prog 4 args W fun e W'=>∃ v,e=.returned v∧Rows.walScansSpec.post enc Tryz.prog Tryz.f4 false true false false W args v W':=by
 have hT:=tabs_of_laid (W:=W) hL
 have hW':=hW
 obtain ⟨p,q,hA0,hV,rfl,hfz,hnd⟩:=hW
 have hA:DataW.TrodAll enc Tryz.prog W 0 (fun _=>true) true Tryz.f4.params.toList args.toList ds p:=hA0
 rw [Tryz.params4] at hA hval
 obtain ⟨v0,vs0,d0,ds0,p0,q0,hargs,rfl,rfl,h0,r0⟩:=trodAll_cons hA
 obtain ⟨rfl,rfl,rfl⟩:=trodAll_nil r0
 obtain rfl:args=#[v0]:=by cases args;simp_all
 obtain ⟨rfl,rfl⟩:=trodVars_none hV
 obtain ⟨a0,len0,cap0,rfl⟩:=okWide_slice Tryz.underlying31 (hval 0 31 v0 rfl rfl)
 have k0:=h0
 have lt0:∀ x∈p0,x.block<W.heap.size:=by obtain ⟨m,hm⟩:=k0;exact DataW.trod_lt m _ _ _ hm
 obtain ⟨l0,b0⟩:=argBytes Tryz.underlying31 Tryz.underlying5 (by kernel_rfl) h0
 clear hA0
 refine (WL.scans_walk (.slice a0 len0 cap0) l0 W b0 hT).mono fun e W' ⟨he,bel⟩ => ?_
 subst he
 exact ⟨_,rfl,_,_,_,[],_,[],hW',trodAll_mk1 (shut_bool Tryz.underlying4 _),(trodAll_cons_mk (Below.trod laidOut (by kernel_rfl) (of_decide_eq_true (by kernel_rfl)) k0 bel lt0) trodAll_mk0),rfl,bel.frame _,fun h=>by cases h⟩
theorem reads (os:Os) {H:Type} (enc:TypeId×Value→H):∃ places,DataW.whole enc Tryz.prog ((laidWorld os).forCall (fun _ _=>0) ⟨#[],#[.slice none 0 0],[]⟩).memory Tryz.f4.params.toList Rows.walScansSpec.vars false (#[.slice none 0 0]:Array Value).toList 8=some ([.nil],[],places) :=
 ⟨[],by kernel_rfl⟩
theorem lifted (os:Os) (started:os.Started) (H:Type) (enc:TypeId×Value→H) (F:Stop.Interp) :
  ReturnsInHanded {} Tryz.checked os 4 .any ((OpenSpec.ofChange Rows.walScansSpec).preRow enc Tryz.prog Tryz.f4 Rows.walScansRow.domain false Rows.walScansRow.laid) (((OpenSpec.ofChange Rows.walScansSpec).at F).post enc Tryz.prog Tryz.f4 false true false false):=by
 obtain ⟨places,hx⟩:=reads os enc
 refine returnsInHanded_of_row (C:=Tryz.checked) (s:=OpenSpec.ofChange Rows.walScansSpec) own started (by kernel_rfl) Tryz.func4
  (witness_row_at (enc:=enc) (C:=Tryz.checked) false (laidWorld os) #[.slice none 0 0] rfl (by kernel_rfl) (by kernel_rfl) (by kernel_rfl)
   (OpenSpec.preRow_of_cond 8 hx (by kernel_rfl) (fun k hk=>by cases hk) (by kernel_rfl) (laid_met os _))) ?_
 intro W base args ds gs before hval hW _ _ hsz hL _ _
 refine contract H enc W base args ds gs before hval hW hL fun j t bytes ht hd => ?_
 refine sized_string hsz (j:=j) (t:=t) ?_ ?_
 ·rw [List.getElem?_append_left (by have:=(Array.getElem?_eq_some_iff.1 ht).1;simpa using this)]
  simpa using ht
 ·rw [List.getElem?_append_left (List.getElem?_eq_some_iff.1 hd).1]
  exact hd
theorem said:Rows.WalScansSaid :=
 OpenClaim.holds_of_cond 4 Tryz.f4 rfl rfl rfl rfl rfl rfl rfl ⟨rfl,rfl,rfl,rfl,rfl⟩ rfl rfl rfl rfl rfl (by kernel_rfl) Tryz.func4 (by kernel_rfl)
  (of_decide_eq_true (by kernel_rfl)) (by unfold Func.isWrapper;first | (rw [if_pos (by decide +kernel)];kernel_rfl) | (rw [if_neg (by decide +kernel)];exact ⟨rfl,rfl⟩))
  (fun os started H enc _ F=>by rw [OpenClaim.pre_eq_preRow];exact lifted os started H enc F)
theorem plain (f:FuncId) (fn:Func) (hf:Tryz.pinned.checked.prog.funcNamed "loggia/loggialaw15.WalScans" = some f) (hfn:Tryz.pinned.checked.prog.funcs[f]? = some fn) :
  true=Tryz.pinned.checked.prog.looks []∧∀ (j:Nat) t,fn.params[j]? = some t→Tryz.pinned.checked.prog.wantsStandIn t=false:=by
 obtain rfl:f=4:=Option.some.inj ((show Tryz.prog.funcNamed "loggia/loggialaw15.WalScans" = some 4 by kernel_rfl).symm.trans hf) |>.symm
 obtain rfl:fn=Tryz.f4:=(Option.some.inj (Tryz.func4.symm.trans hfn)).symm
 refine ⟨by kernel_rfl,fun j t ht => ?_⟩
 rw [Tryz.params4] at ht
 have hm:t∈[31]:=by simpa using Array.mem_of_getElem? ht
 have hall:([31].all fun u => !Tryz.prog.wantsStandIn u)=true:=by kernel_rfl
 exact (show Tryz.prog.wantsStandIn t=false by simpa using List.all_eq_true.1 hall t hm)
theorem card:Rows.WalScansCardSaid :=
 Claim7.holds_tied_plain_at .later [] _ _ _ _ said (fun _ h=>by cases h) (by kernel_rfl) (fun _ h=>by cases h) walScans_row_tie rfl ⟨rfl,rfl⟩ (by kernel_rfl) rfl plain (by kernel_rfl)
end Go.Proofs.YtdfibahafilklaaGreatDoor.WF2
namespace Go.Proofs.YtdfibahafilklaaGreatDoor
theorem walScans_holds:Rows.WalScansCardSaid:=WF2.card
end Go.Proofs.YtdfibahafilklaaGreatDoor
