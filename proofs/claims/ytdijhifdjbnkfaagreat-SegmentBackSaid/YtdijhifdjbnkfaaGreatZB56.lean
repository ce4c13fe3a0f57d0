import Derived.Test.YtdijhifdjbnkfaaGreatRows
import Derived.Test.YtdijhifdjbnkfaaGreatZB2
import Derived.ProofKit
import Derived.OpenShut
import Derived.ShutString
import Derived.ChangeOld
import Derived.Test.YtdijhifdjbnkfaaGreatZB55
import Derived.Test.YtdijhifdjbnkfaaGreatZB6
import Derived.Test.YtdijhifdjbnkfaaGreatZB5
set_option linter.unusedVariables false
set_option linter.unusedSimpArgs false
namespace Go.Proofs.YtdijhifdjbnkfaaGreat.MM
open Go.ChangeShapes Go.WideShapes Go.ChangeAt Go.RowKit Go.Proofs
theorem own:ownKnob Tryz.prog.godebug=none:=by kernel_rfl
theorem laidOut:laidOutB Tryz.prog=true:=by kernel_rfl
theorem cell_lt {w:World} {b o:Nat} {v:Value} (h:w.cell? ⟨b,o,none⟩=some v):b<w.heap.size:=by
 by_cases hb:b<w.heap.size
 ·exact hb
 ·simp [World.cell?,Array.getElem?_eq_none (Nat.le_of_not_lt hb)] at h
theorem row_of_cells {W:World} {a:Addr} {len cap:Nat} {xs:List Value} (hl:xs.length=len) (hlc:len≤cap) (hcm:cap≤maxLen) (hc:∀ i u,xs[i]? = some u→W.cell? (a.add i)=some u):Row W (.slice (some a) len cap) xs:=by
 subst hl
 refine ⟨some a,cap,rfl,hlc,hcm,(fun h=>by cases h),?_⟩
 cases xs with
 | nil=>exact .inl rfl
 | cons x xs =>
   right
   obtain ⟨b,off,spot⟩:=a
   have hc0:=hc 0 x rfl
   have hspot:spot=none:=by simpa [Addr.add] using World.cell?_spot hc0
   subst hspot
   refine ⟨b,off,rfl,cell_lt (o:=off) (v:=x) (by simpa [Addr.add] using hc0),fun i u hi => ?_⟩
   rw [← add_at]
   exact hc i u hi
theorem u8_of_wf {x:Int} (h:(Lit.int .u8 x).wf=true):0≤x∧x<256:=by
 simp only [Lit.wf,Bool.and_eq_true,decide_eq_true_eq] at h
 have h1:IntKind.u8.min=0:=by decide
 have h2:IntKind.u8.max=255:=by decide
 rw [h1,h2] at h
 omega
theorem argBytes {H:Type} {enc:TypeId×Value→H} {W:World} {base:Nat} {T e:TypeId} {a:Option Addr} {len cap:Nat} {d:DataW H} {p:List MemPlace}
  (ht:Tryz.prog.underlying T=some (.slice e)) (he:Tryz.prog.underlying e=some (.int .u8)) (hc:Tryz.prog.cellsOf e=1)
  (h:∃ fuel,DataW.trod enc Tryz.prog W base (fun _=>true) true fuel T (Value.slice a len cap).cells.toList=some (d,p)):∃ l,BRow W (.slice a len cap) l:=by
 obtain ⟨fuel,hf⟩:=h
 rcases open_ints ht he hc hf with ⟨hcs,_⟩ | ⟨x,n,c,zs,hcs,_,hl,hm,hz,_,hcell,hwz⟩
 ·simp [Value.cells] at hcs
  obtain ⟨rfl,rfl,rfl⟩:=hcs
  exact ⟨[],BRow.nil_ W⟩
 ·simp [Value.cells] at hcs
  obtain ⟨rfl,rfl,rfl⟩:=hcs
  have hzl:zs.length=cap:=by simpa using hz
  refine ⟨(zs.take len).map (fun z=>UInt8.ofNat z.toNat),row_of_cells (by rw [byteCells_len,List.length_map,List.length_take];omega) hl hm (fun i u hi => ?_)⟩
  have hi2:i<len:=by
   have:=(List.getElem?_eq_some_iff.1 hi).1
   rw [byteCells_len,List.length_map,List.length_take] at this
   omega
  have hlt:i<zs.length:=by omega
  have hb:=u8_of_wf (hwz zs[i] (List.getElem_mem hlt))
  have hu:u=.int .u8 (zs[i]):=by
   have hg:=hi
   simp only [Lib.byteCells,List.getElem?_map,List.getElem?_take,if_pos hi2,List.getElem?_eq_getElem hlt,Option.map_some,Option.some.injEq] at hg
   rw [← hg]
   refine congrArg (Value.int .u8) ?_
   rw [UInt8.toNat_ofNat']
   omega
  rw [hu,hcell i hlt]
  simp [List.getD,hlt]
end Go.Proofs.YtdijhifdjbnkfaaGreat.MM
namespace Go.Proofs.YtdijhifdjbnkfaaGreat.EV
open Go Go.RowKit Go.Proofs.YtdijhifdjbnkfaaGreat.MM Go.Proofs.YtdijhifdjbnkfaaGreat.EM
def FitS (p:Fld):Prop:=p.1.length≤maxLen∧p.2.length≤maxLen
theorem reads_fld:Reads Tryz.prog fldC FitS 123:=reads_pair Tryz.underlying123 rfl rfl (by kernel_rfl) (by kernel_rfl) (by kernel_rfl) (reads_str Tryz.underlying9) (reads_str Tryz.underlying9)
def FitEv (e:Ev):Prop:=FitI e.1∧(∀ f∈e.2,FitS f)∧e.2.length≤maxLen
theorem reads_ev:Reads Tryz.prog evC FitEv 57:=reads_pair Tryz.underlying57 rfl rfl (by kernel_rfl) (by kernel_rfl) (by kernel_rfl) (reads_int Tryz.underlying3) (reads_row Tryz.underlying55 (by kernel_rfl) reads_fld)
end Go.Proofs.YtdijhifdjbnkfaaGreat.EV
namespace Go.Proofs.YtdijhifdjbnkfaaGreat.ST
open Go Go.RowKit Go.Proofs.YtdijhifdjbnkfaaGreat.MM Go.Proofs.YtdijhifdjbnkfaaGreat.EM
open Go.Proofs.YtdijhifdjbnkfaaGreat.EV (docC evC FitEv reads_ev)
def FitDoc (d:SM.Doc):Prop:=FitI d.1∧FitEv d.2
theorem reads_doc:Reads Tryz.prog docC FitDoc 59:=reads_pair Tryz.underlying59 rfl rfl (by kernel_rfl) (by kernel_rfl) (by kernel_rfl) (reads_int Tryz.underlying3) reads_ev
instance:Inhabited SM.Doc:=⟨SM.noDoc⟩
theorem reads_docs:Reads Tryz.prog (cRow docC) (fun l=>(∀ d∈l,FitDoc d)∧l.length≤maxLen) 22:=reads_row Tryz.underlying22 (by kernel_rfl) reads_doc
theorem fit_docs {l:List SM.Doc} (h:∀ d∈l,FitDoc d):SM.FitS l:=fun d hd=>(h d hd).2.1
end Go.Proofs.YtdijhifdjbnkfaaGreat.ST
namespace Go.Proofs.YtdijhifdjbnkfaaGreat.GF3
open Go.ChangeShapes Go.WideShapes Go.ChangeAt Go.RowKit Go.Proofs.YtdijhifdjbnkfaaGreat.MM
open Go.ChangeMaps (open_string shut_string)
set_option maxRecDepth 100000 in
theorem contract (H:Type) (enc:TypeId×Value→H) (W:World) (args:Array Value) (ds gs:List (DataW H)) (before:List MemPlace)
  (hval:∀ (j:Nat) t v,Tryz.f5.params[j]? = some t→args[j]? = some v→Value.okWide Tryz.prog W .any 0 t v)
  (hW:DataW.Whole enc Tryz.prog Tryz.f5.params.toList Rows.segmentBackSpec.vars false W args.toList ds gs before) :
  Calls Tryz.prog 5 args W fun e W'=>∃ v,e=.returned v∧Rows.segmentBackSpec.post enc Tryz.prog Tryz.f5 false true false false W args v W':=by
 have hW':=hW
 obtain ⟨p,q,hA0,hV,rfl,hfz,hnd⟩:=hW
 have hA:DataW.TrodAll enc Tryz.prog W 0 (fun _=>true) true Tryz.f5.params.toList args.toList ds p:=hA0
 rw [Tryz.params5] at hA hval
 obtain ⟨v0,vs0,d0,ds0,p0,q0,hargs,rfl,rfl,h0,r0⟩:=trodAll_cons hA
 obtain ⟨v1,vs1,d1,ds1,p1,q1,rfl,rfl,rfl,h1,r1⟩:=trodAll_cons r0
 obtain ⟨rfl,rfl,rfl⟩:=trodAll_nil r1
 obtain rfl:args=#[v0,v1]:=by cases args;simp_all
 obtain ⟨rfl,rfl⟩:=trodVars_none hV
 obtain ⟨a0,len0,cap0,rfl⟩:=okWide_slice Tryz.underlying22 (hval 0 22 v0 rfl rfl)
 have k0:=h0
 have lt0:∀ x∈p0,x.block<W.heap.size:=by obtain ⟨m,hm⟩:=k0;exact DataW.trod_lt m _ _ _ hm
 obtain ⟨l0,b0,g0⟩:=argC_slice ST.reads_docs h0
 obtain ⟨a1,len1,cap1,rfl⟩:=okWide_slice Tryz.underlying23 (hval 1 23 v1 rfl rfl)
 have k1:=h1
 have lt1:∀ x∈p1,x.block<W.heap.size:=by obtain ⟨m,hm⟩:=k1;exact DataW.trod_lt m _ _ _ hm
 obtain ⟨l1,b1⟩:=argBytes Tryz.underlying23 Tryz.underlying5 (by kernel_rfl) h1
 clear hA0
 refine (SG.back_walk _ _ l0 l1 W b0 b1 (ST.fit_docs g0.1)).mono fun e W' ⟨he,bel⟩ => ?_
 subst he
 exact ⟨_,rfl,_,_,_,[],_,[],hW',trodAll_mk1 (shut_bool Tryz.underlying4 _),(trodAll_cons_mk (Below.trod laidOut (by kernel_rfl) (of_decide_eq_true (by kernel_rfl)) k0 bel lt0) (trodAll_cons_mk (Below.trod laidOut (by kernel_rfl) (of_decide_eq_true (by kernel_rfl)) k1 bel lt1) trodAll_mk0)),rfl,bel.frame _,fun h=>by cases h⟩
set_option maxRecDepth 100000 in
theorem lifted (os:Os) (started:os.Started) (H:Type) (enc:TypeId×Value→H) :
  ReturnsInHanded {} Tryz.checked os 5 .any (Rows.segmentBackSpec.pre6 enc Tryz.prog Tryz.f5 Rows.segmentBackRow.domain false) (Rows.segmentBackSpec.post enc Tryz.prog Tryz.f5 false true false false):=by
 refine returnsInHanded_of_change (C:=Tryz.checked) own started (by kernel_rfl) Tryz.func5
  (ChangeSpec.witness6 (enc:=enc) (C:=Tryz.checked) false ⟨#[],#[.slice none 0 0,.slice none 0 0],[]⟩ 8 (by kernel_rfl) (by kernel_rfl) (by kernel_rfl) (by kernel_rfl)) ?_
 intro W base args ds gs before hval hW _ _
 exact contract H enc W args ds gs before hval hW
theorem said:Rows.SegmentBackSaid :=
 OpenClaim.holds_of_wide 5 Tryz.f5 rfl rfl rfl rfl rfl rfl rfl ⟨rfl,rfl,rfl,rfl,rfl⟩ rfl rfl rfl rfl rfl (by kernel_rfl) Tryz.func5 (by kernel_rfl)
  (of_decide_eq_true (by kernel_rfl)) (by unfold Func.isWrapper;first | (rw [if_pos (by decide +kernel)];kernel_rfl) | (rw [if_neg (by decide +kernel)];exact ⟨rfl,rfl⟩))
  (fun os started H enc _=>lifted os started H enc)
end Go.Proofs.YtdijhifdjbnkfaaGreat.GF3
namespace Go.Proofs.YtdijhifdjbnkfaaGreat
theorem segmentBack_holds:Rows.SegmentBackSaid:=GF3.said
end Go.Proofs.YtdijhifdjbnkfaaGreat
