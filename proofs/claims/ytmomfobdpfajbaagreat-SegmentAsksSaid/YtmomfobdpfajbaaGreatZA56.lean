/-
  The law SegmentAsks returns true for every input: docs, posts, terms that begin so, the filter and the times of a segment are those of its docs, and what was handed in may be turned behind. No condition.
-/
import Derived.Test.YtmomfobdpfajbaaGreatRows
import Derived.Test.YtmomfobdpfajbaaGreatZA55
set_option maxRecDepth 100000
set_option maxHeartbeats 0
set_option linter.unusedVariables false
set_option linter.unusedSimpArgs false
namespace Go.Proofs.YtmomfobdpfajbaaGreat
namespace MM
open Go.ChangeShapes Go.WideShapes Go.ChangeAt RowKit Go.Proofs
theorem own:ownKnob Tryz.prog.godebug=none:=by kernel_rfl
theorem laidOut:laidOutB Tryz.prog=true:=by kernel_rfl
theorem Zlf {w:World} {b o:Nat} {v:Value} (h:w.cell? ⟨b,o,none⟩=some v):b<w.heap.size:=by
 by_cases a:b<w.heap.size
 ·exact a
 ·simp [World.cell?,Xau (XaR a)] at h
theorem ZpB {W:World} {a:Addr} {len c:Nat} {f:List Value} (m:f.length=len) (k:len<=c) (j:c<=maxLen) (l:∀i u,f[i]? = some u->W.cell? (a.add i)=some u):Row W (.slice (some a) len c) f:=by
 subst m;refine ⟨some a,c,rfl,k,j,(fun h=>by cases h),?_⟩;cases f with
 | nil=>exact .inl rfl
 | cons x f =>
   right;obtain ⟨b,off,e⟩:=a;have g:=l 0 x rfl;have d:e=none:=by simpa [Addr.add] using World.cell?_spot g
   subst d;refine ⟨b,off,rfl,Zlf (o:=off) (v:=x) (by simpa [Addr.add] using g),fun i u hi => ?_⟩;rw [<- ZZ];exact l i u hi
theorem Zj8 {x:Int} (h:(Lit.int .i64 x).wf=true) : -9223372036854775808<=x/\x<=9223372036854775807:=by
 simp only [Lit.wf,Xw,Xg] at h;have a:IntKind.i64.min = -9223372036854775808:=by decide
 have b:IntKind.i64.max=9223372036854775807:=by decide
 rw [a,b] at h;exact h
theorem Zxk:Tryz.prog.cellsOf 9=1:=by kernel_rfl
theorem ZAq {H:Type} {enc:TypeId×Value->H} {W:World} {base:Nat} {a:Option Addr} {len g:Nat} {d:DataW H} {p:List MemPlace}
  (h:∃e,DataW.trod enc Tryz.prog W base (fun _=>true) true e 40 (Value.slice a len g).cells.toList=some (d,p)):∃k,ZcF W (.slice a len g) k:=by
 obtain ⟨e,hf⟩:=h;rcases open_strings Tryz.underlying40 Tryz.underlying9 Zxk hf with ⟨b,_⟩|⟨x,n,c,k,b,_,t,v,o,_,j,_⟩
 ·simp [Value.cells] at b;obtain ⟨rfl,rfl,rfl⟩:=b;exact ⟨[],ZcF.nil_ W⟩
 ·simp [Value.cells] at b;obtain ⟨rfl,rfl,rfl⟩:=b;have q:k.length=g:=by simpa using o
  refine ⟨(k.take len).map (fun s=>s.data.toList),ZpB (by rw [XF,XF,Xi];omega) t v (fun i u hi => ?_)⟩
  have l:i<len:=by
   have:=(Xak.1 hi).1;rw [XF,XF,Xi] at this;omega
  have f:i<k.length:=by omega
  have r:u=.string (k[i]):=by
   have m:=hi;simp only [Xa1,List.getElem?_take,Xe l,XZ f,Xae,Xx] at m;rw [<- m];rfl
  rw [r,j i f];simp [List.getD,f]
end MM
namespace EV
open RowKit MM EM
def ZaS (p:Fld):Prop:=p.1.length<=maxLen/\p.2.length<=maxLen
theorem Zv4:ZgC Tryz.prog Zae ZaS 123:=ZiJ Tryz.underlying123 rfl rfl (by kernel_rfl) (by kernel_rfl) (by kernel_rfl) (ZoB Tryz.underlying9) (ZoB Tryz.underlying9)
def ZwV (e:Ev):Prop:=ZCh e.1/\(∀f∈e.2,ZaS f)/\e.2.length<=maxLen
theorem Zrr:ZgC Tryz.prog evC ZwV 57:=ZiJ Tryz.underlying57 rfl rfl (by kernel_rfl) (by kernel_rfl) (by kernel_rfl) (Zoz Tryz.underlying3) (ZoA Tryz.underlying55 (by kernel_rfl) Zv4)
end EV
namespace ST
open RowKit MM EM
open EV (ZD evC ZwV Zrr)
def Zr2 (d:SM.Zq):Prop:=ZCh d.1/\ZwV d.2
theorem Zv3:ZgC Tryz.prog ZD Zr2 59:=ZiJ Tryz.underlying59 rfl rfl (by kernel_rfl) (by kernel_rfl) (by kernel_rfl) (Zoz Tryz.underlying3) Zrr
instance:Inhabited SM.Zq:=⟨SM.ZcA⟩
theorem Zs8:ZgC Tryz.prog (Zfq ZD) (fun l=>(∀d∈l,Zr2 d)/\l.length<=maxLen) 22:=ZoA Tryz.underlying22 (by kernel_rfl) Zv3
theorem Zx0 {l:List SM.Zq} (h:∀d∈l,Zr2 d):SM.ZaS l:=fun d a=>(h d a).2.1
end ST
namespace GF2
open Go.ChangeShapes Go.WideShapes Go.ChangeAt RowKit MM
open Go.ChangeMaps (open_string shut_string)
theorem Zxr (H:Type) (enc:TypeId×Value->H) (W:World) (args:Array Value) (w gs:List (DataW H)) (b:List MemPlace)
  (a:∀(j:Nat) t v,Tryz.f4.params[j]? = some t->args[j]? = some v->Value.okWide Tryz.prog W .any 0 t v)
  (A:DataW.Whole enc Tryz.prog Tryz.f4.params.toList Rows.segmentAsksSpec.vars false W args.toList w gs b) :
  Calls Tryz.prog 4 args W fun e G=>∃v,e=.returned v/\Rows.segmentAsksSpec.post enc Tryz.prog Tryz.f4 false true false false W args v G:=by
 have k:=A;obtain ⟨p,q,g,hV,rfl,aj,ac⟩:=A;have B:DataW.TrodAll enc Tryz.prog W 0 (fun _=>true) true Tryz.f4.params.toList args.toList w p:=g;rw [Tryz.params4] at B a;obtain ⟨v0,ai,d0,am,J,q0,l,rfl,rfl,y,r0⟩:=trodAll_cons B;obtain ⟨I,O,d1,ah,p1,q1,rfl,rfl,rfl,z,r1⟩:=trodAll_cons r0;obtain ⟨E,af,d2,ak,p2,q2,rfl,rfl,rfl,U,R⟩:=trodAll_cons r1;obtain ⟨v3,al,d3,Z,p3,q3,rfl,rfl,rfl,S,r3⟩:=trodAll_cons R;obtain ⟨v4,ae,d4,aa,p4,q4,rfl,rfl,rfl,h4,r4⟩:=trodAll_cons r3;obtain ⟨rfl,rfl,rfl⟩:=trodAll_nil r4;obtain rfl:args=#[v0,I,E,v3,v4]:=by cases args;simp_all
 obtain ⟨rfl,rfl⟩:=trodVars_none hV;obtain ⟨a0,C,r,rfl⟩:=okWide_slice Tryz.underlying22 (a 0 22 v0 rfl rfl);have D:=y;have i:∀x∈J,x.block<W.heap.size:=by obtain ⟨m,o⟩:=D;exact DataW.trod_lt m _ _ _ o
 obtain ⟨l0,X,g0⟩:=Zr7 ST.Zs8 y;obtain ⟨a1,s,u,rfl⟩:=okWide_slice Tryz.underlying40 (a 1 40 I rfl rfl);have F:=z;have n:∀x∈p1,x.block<W.heap.size:=by obtain ⟨m,o⟩:=F;exact DataW.trod_lt m _ _ _ o
 obtain ⟨T,V⟩:=ZAq z;obtain ⟨x2,rfl,rfl,rfl,d⟩:=open_int Tryz.underlying3 (a 2 3 E rfl rfl) U;obtain ⟨ab,L⟩:=Zj8 d;obtain ⟨x3,rfl,rfl,rfl,f⟩:=open_int Tryz.underlying3 (a 3 3 v3 rfl rfl) S;obtain ⟨ad,Y⟩:=Zj8 f;obtain ⟨x4,rfl,rfl,rfl,c⟩:=open_int Tryz.underlying3 (a 4 3 v4 rfl rfl) h4;obtain ⟨ag,N⟩:=Zj8 c;clear g;refine (SG.ZuF _ _ l0 T x2 x3 x4 W X V (ST.Zx0 g0.1)).mono fun e G ⟨M,bel⟩ => ?_;subst M;exact ⟨_,rfl,_,_,_,[],_,[],k,trodAll_mk1 (shut_bool Tryz.underlying4 _),(trodAll_cons_mk (Below.trod laidOut (by kernel_rfl) (of_decide_eq_true (by kernel_rfl)) D bel i) (trodAll_cons_mk (Below.trod laidOut (by kernel_rfl) (of_decide_eq_true (by kernel_rfl)) F bel n) (trodAll_cons_mk (shut_int Tryz.underlying3 d) (trodAll_cons_mk (shut_int Tryz.underlying3 f) (trodAll_cons_mk (shut_int Tryz.underlying3 c) trodAll_mk0))))),rfl,bel.frame _,fun h=>by cases h⟩
theorem lifted (d:Os) (a:d.Started) (H:Type) (enc:TypeId×Value->H) :
  ReturnsInHanded {} Tryz.checked d 4 .any (Rows.segmentAsksSpec.pre6 enc Tryz.prog Tryz.f4 Rows.segmentAsksRow.domain false) (Rows.segmentAsksSpec.post enc Tryz.prog Tryz.f4 false true false false):=by
 refine returnsInHanded_of_change (C:=Tryz.checked) own a (by kernel_rfl) Tryz.func4
  (ChangeSpec.witness6 (enc:=enc) (C:=Tryz.checked) false ⟨#[],#[.slice none 0 0,.slice none 0 0,.int .i64 0,.int .i64 0,.int .i64 0],[]⟩ 8 (by kernel_rfl) (by kernel_rfl) (by kernel_rfl) (by kernel_rfl)) ?_
 intro W base args f e b c g _ _;exact Zxr H enc W args f e b c g
theorem ZDk:Rows.SegmentAsksSaid :=
 OpenClaim.holds_of_wide 4 Tryz.f4 rfl rfl rfl rfl rfl rfl rfl ⟨rfl,rfl,rfl,rfl,rfl⟩ rfl rfl rfl rfl rfl (by kernel_rfl) Tryz.func4 (by kernel_rfl)
  (of_decide_eq_true (by kernel_rfl)) (by unfold Func.isWrapper;first|(rw [Xe (by decide +kernel)];kernel_rfl)|(rw [Xc (by decide +kernel)];exact ⟨rfl,rfl⟩))
  (fun b a H enc _=>lifted b a H enc)
end GF2
theorem segmentAsks_holds:Rows.SegmentAsksSaid:=GF2.ZDk
