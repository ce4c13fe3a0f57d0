import Derived.Test.YtdijhifdjbnkfaaGreatRows
import Derived.Test.YtdijhifdjbnkfaaGreatZD55
set_option maxRecDepth 100000
set_option maxHeartbeats 8000000
set_option linter.unusedVariables false
set_option linter.unusedSimpArgs false
namespace Go.Proofs.YtdijhifdjbnkfaaGreat.MM
open Go.ChangeShapes Go.WideShapes Go.ChangeAt Go.RowKit Go.Proofs
theorem own:ownKnob Tryz.prog.godebug=none:=by kernel_rfl
theorem Zm5:laidOutB Tryz.prog=true:=by kernel_rfl
theorem Zen {w:World} {b o:Nat} {v:Value} (h:w.cell? ⟨b,o,none⟩=some v):b<w.heap.size:=by
 by_cases hb:b<w.heap.size
 ·exact hb
 ·simp [World.cell?,Array.getElem?_eq_none (Nat.le_of_not_lt hb)] at h
theorem Zuh {W:World} {a:Addr} {len cap:Nat} {xs:List Value} (hl:xs.length=len) (hlc:len≤cap) (hcm:cap≤maxLen) (hc:∀ i u,xs[i]? = some u→W.cell? (a.add i)=some u):Row W (.slice (some a) len cap) xs:=by
 subst hl
 refine ⟨some a,cap,rfl,hlc,hcm,(fun h=>by cases h),?_⟩
 cases xs with
 | nil=>exact .inl rfl
 | cons x xs =>
   right
   obtain ⟨b,off,spot⟩:=a
   have hc0:=hc 0 x rfl
   have hspot:spot=none:=by simpa [Addr.add] using World.cell?_spot hc0
   subst hspot
   refine ⟨b,off,rfl,Zen (o:=off) (v:=x) (by simpa [Addr.add] using hc0),fun i u hi => ?_⟩
   rw [← Zb5]
   exact hc i u hi
end Go.Proofs.YtdijhifdjbnkfaaGreat.MM
namespace Go.Proofs.YtdijhifdjbnkfaaGreat.MM
open Go.ChangeShapes Go.WideShapes Go.ChangeAt Go.RowKit Go.Proofs
theorem Zer:Tryz.prog.cellsOf 9=1:=by kernel_rfl
theorem Zcz {H:Type} {enc:TypeId×Value→H} {W:World} {base:Nat} {a:Option Addr} {len cap:Nat} {d:DataW H} {p:List MemPlace}
  (h:∃ fuel,DataW.trod enc Tryz.prog W base (fun _=>true) true fuel 40 (Value.slice a len cap).cells.toList=some (d,p)):∃ ss,TRow W (.slice a len cap) ss:=by
 obtain ⟨fuel,hf⟩:=h
 rcases open_strings Tryz.underlying40 Tryz.underlying9 Zer hf with ⟨hcs,_⟩ | ⟨x,n,c,ss,hcs,_,hl,hm,hz,_,hcell,_⟩
 ·simp [Value.cells] at hcs
  obtain ⟨rfl,rfl,rfl⟩:=hcs
  exact ⟨[],TRow.nil_ W⟩
 ·simp [Value.cells] at hcs
  obtain ⟨rfl,rfl,rfl⟩:=hcs
  have hzl:ss.length=cap:=by simpa using hz
  refine ⟨(ss.take len).map (fun s=>s.data.toList),Zuh (by rw [List.length_map,List.length_map,List.length_take];omega) hl hm (fun i u hi => ?_)⟩
  have hi2:i<len:=by
   have:=(List.getElem?_eq_some_iff.1 hi).1
   rw [List.length_map,List.length_map,List.length_take] at this
   omega
  have hlt:i<ss.length:=by omega
  have hu:u=.string (ss[i]):=by
   have hg:=hi
   simp only [List.getElem?_map,List.getElem?_take,if_pos hi2,List.getElem?_eq_getElem hlt,Option.map_some,Option.some.injEq] at hg
   rw [← hg]
   rfl
  rw [hu,hcell i hlt]
  simp [List.getD,hlt]
end Go.Proofs.YtdijhifdjbnkfaaGreat.MM
namespace Go.Proofs.YtdijhifdjbnkfaaGreat.EV
open Go Go.RowKit MM EM
def FitS (p:Fld):Prop:=p.1.length≤maxLen∧p.2.length≤maxLen
theorem ZsT:Zbj Tryz.prog fldC FitS 123:=ZsV Tryz.underlying123 rfl rfl (by kernel_rfl) (by kernel_rfl) (by kernel_rfl) (ZsX Tryz.underlying9) (ZsX Tryz.underlying9)
def ZaE (e:Ev):Prop:=FitI e.1∧(∀ f∈e.2,FitS f)∧e.2.length≤maxLen
theorem ZsS:Zbj Tryz.prog evC ZaE 57:=ZsV Tryz.underlying57 rfl rfl (by kernel_rfl) (by kernel_rfl) (by kernel_rfl) (ZsU Tryz.underlying3) (ZsW Tryz.underlying55 (by kernel_rfl) ZsT)
end Go.Proofs.YtdijhifdjbnkfaaGreat.EV
namespace Go.Proofs.YtdijhifdjbnkfaaGreat.ST
open Go Go.RowKit MM EM
open EV (docC evC ZaE ZsS)
def ZaD (d:SM.Doc):Prop:=FitI d.1∧ZaE d.2
theorem ZsQ:Zbj Tryz.prog docC ZaD 59:=ZsV Tryz.underlying59 rfl rfl (by kernel_rfl) (by kernel_rfl) (by kernel_rfl) (ZsU Tryz.underlying3) ZsS
instance:Inhabited SM.Doc:=⟨SM.ZoQ⟩
theorem ZsR:Zbj Tryz.prog (cRow docC) (fun l=>(∀ d∈l,ZaD d)∧l.length≤maxLen) 22:=ZsW Tryz.underlying22 (by kernel_rfl) ZsQ
theorem ZiO {l:List SM.Doc} (h:∀ d∈l,ZaD d):SM.FitS l:=fun d hd=>(h d hd).2.1
end Go.Proofs.YtdijhifdjbnkfaaGreat.ST
namespace Go.Proofs.YtdijhifdjbnkfaaGreat.GF4
open Go.ChangeShapes Go.WideShapes Go.ChangeAt Go.RowKit MM
open Go.ChangeMaps (open_string shut_string)
theorem ZfF (H:Type) (enc:TypeId×Value→H) (W:World) (args:Array Value) (ds gs:List (DataW H)) (before:List MemPlace)
  (hval:∀ (j:Nat) t v,Tryz.f6.params[j]? = some t→args[j]? = some v→Value.okWide Tryz.prog W .any 0 t v)
  (hW:DataW.Whole enc Tryz.prog Tryz.f6.params.toList Rows.segmentFindsSpec.vars false W args.toList ds gs before) :
  Calls Tryz.prog 6 args W fun e W'=>∃ v,e=.returned v∧Rows.segmentFindsSpec.post enc Tryz.prog Tryz.f6 false true false false W args v W':=by
 have hW':=hW
 obtain ⟨p,q,hA0,hV,rfl,hfz,hnd⟩:=hW
 have hA:DataW.TrodAll enc Tryz.prog W 0 (fun _=>true) true Tryz.f6.params.toList args.toList ds p:=hA0
 rw [Tryz.params6] at hA hval
 obtain ⟨v0,vs0,d0,ds0,p0,q0,hargs,rfl,rfl,h0,r0⟩:=trodAll_cons hA
 obtain ⟨v1,vs1,d1,ds1,p1,q1,rfl,rfl,rfl,h1,r1⟩:=trodAll_cons r0
 obtain ⟨rfl,rfl,rfl⟩:=trodAll_nil r1
 obtain rfl:args=#[v0,v1]:=by cases args;simp_all
 obtain ⟨rfl,rfl⟩:=trodVars_none hV
 obtain ⟨a0,len0,cap0,rfl⟩:=okWide_slice Tryz.underlying22 (hval 0 22 v0 rfl rfl)
 have k0:=h0
 have lt0:∀ x∈p0,x.block<W.heap.size:=by obtain ⟨m,hm⟩:=k0;exact DataW.trod_lt m _ _ _ hm
 obtain ⟨l0,b0,g0⟩:=Zcy ST.ZsR h0
 obtain ⟨a1,len1,cap1,rfl⟩:=okWide_slice Tryz.underlying40 (hval 1 40 v1 rfl rfl)
 have k1:=h1
 have lt1:∀ x∈p1,x.block<W.heap.size:=by obtain ⟨m,hm⟩:=k1;exact DataW.trod_lt m _ _ _ hm
 obtain ⟨l1,b1⟩:=Zcz h1
 clear hA0
 refine (SG.ZiI _ _ l0 l1 W b0 b1 (ST.ZiO g0.1)).mono fun e W' ⟨he,bel⟩ => ?_
 subst he
 exact ⟨_,rfl,_,_,_,[],_,[],hW',trodAll_mk1 (shut_bool Tryz.underlying4 _),(trodAll_cons_mk (Below.trod Zm5 (by kernel_rfl) (of_decide_eq_true (by kernel_rfl)) k0 bel lt0) (trodAll_cons_mk (Below.trod Zm5 (by kernel_rfl) (of_decide_eq_true (by kernel_rfl)) k1 bel lt1) trodAll_mk0)),rfl,bel.frame _,fun h=>by cases h⟩
theorem Znx (os:Os) (started:os.Started) (H:Type) (enc:TypeId×Value→H) :
  ReturnsInHanded {} Tryz.checked os 6 .any (Rows.segmentFindsSpec.pre6 enc Tryz.prog Tryz.f6 Rows.segmentFindsRow.domain false) (Rows.segmentFindsSpec.post enc Tryz.prog Tryz.f6 false true false false):=by
 refine returnsInHanded_of_change (C:=Tryz.checked) own started (by kernel_rfl) Tryz.func6
  (ChangeSpec.witness6 (enc:=enc) (C:=Tryz.checked) false ⟨#[],#[.slice none 0 0,.slice none 0 0],[]⟩ 8 (by kernel_rfl) (by kernel_rfl) (by kernel_rfl) (by kernel_rfl)) ?_
 intro W base args ds gs before hval hW _ _
 exact ZfF H enc W args ds gs before hval hW
theorem said:Rows.SegmentFindsSaid :=
 OpenClaim.holds_of_wide 6 Tryz.f6 rfl rfl rfl rfl rfl rfl rfl ⟨rfl,rfl,rfl,rfl,rfl⟩ rfl rfl rfl rfl rfl (by kernel_rfl) Tryz.func6 (by kernel_rfl)
  (of_decide_eq_true (by kernel_rfl)) (by unfold Func.isWrapper;first | (rw [if_pos (by decide +kernel)];kernel_rfl) | (rw [if_neg (by decide +kernel)];exact ⟨rfl,rfl⟩))
  (fun os started H enc _=>Znx os started H enc)
end Go.Proofs.YtdijhifdjbnkfaaGreat.GF4
namespace Go.Proofs.YtdijhifdjbnkfaaGreat
theorem segmentFinds_holds:Rows.SegmentFindsSaid:=GF4.said
end Go.Proofs.YtdijhifdjbnkfaaGreat
