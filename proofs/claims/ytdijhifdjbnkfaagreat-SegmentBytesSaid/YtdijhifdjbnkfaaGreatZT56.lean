/-
  The law SegmentBytes returns true for every input: the bytes of a segment of any docs, and which bytes are a segment's. No condition.
-/
import Derived.Test.YtdijhifdjbnkfaaGreatRows
import Derived.Test.YtdijhifdjbnkfaaGreatZT55
set_option maxRecDepth 100000
set_option maxHeartbeats 0
set_option linter.unusedVariables false
set_option linter.unusedSimpArgs false
namespace Go.Proofs.YtdijhifdjbnkfaaGreat
namespace MM
open Go.ChangeShapes Go.WideShapes Go.ChangeAt RowKit Go.Proofs
variable {W:World} {len cap:Nat}
theorem own:ownKnob Tryz.prog.godebug=none:=by kernel_rfl
theorem laidOut:laidOutB Tryz.prog=true:=by kernel_rfl
theorem Zlb {w:World} {b o:Nat} {v:Value} (h:w.cell? ⟨b,o,none⟩=some v):b<w.heap.size:=by
 by_cases a:b<w.heap.size
 ·exact a
 ·simp [World.cell?,Xaw (XaS a)] at h
theorem Zpn {a:Addr} {e:List Value} (l:e.length=len) (g:len<=cap) (j:cap<=maxLen) (k:∀i u,e[i]? = some u->W.cell? (a.add i)=some u):Row W (.slice (some a) len cap) e:=by
 subst l;refine ⟨some a,cap,rfl,g,j,(fun h=>by cases h),?_⟩;cases e with
 | nil=>exact .inl rfl
 | cons x e =>
   right;obtain ⟨b,off,d⟩:=a;have f:=k 0 x rfl;have c:d=none:=by simpa [Addr.add] using World.cell?_spot f
   subst c;refine ⟨b,off,rfl,Zlb (o:=off) (v:=x) (by simpa [Addr.add] using f),fun i u hi => ?_⟩;rw [<- ZY];exact k i u hi
theorem Zzv {x:Int} (h:(Lit.int .u8 x).wf=true):0<=x/\x<256:=by
 simp only [Lit.wf,Xy,Xg] at h;have a:IntKind.u8.min=0:=by decide
 have b:IntKind.u8.max=255:=by decide
 rw [a,b] at h;omega
theorem ZwH {H:Type} {enc:TypeId×Value->H} {base:Nat} {T e:TypeId} {a:Option Addr} {d:DataW H} {p:List MemPlace}
  (w:Tryz.prog.underlying T=some (.slice e)) (r:Tryz.prog.underlying e=some (.int .u8)) (s:Tryz.prog.cellsOf e=1)
  (h:∃g,DataW.trod enc Tryz.prog W base (fun _=>true) true g T (Value.slice a len cap).cells.toList=some (d,p)):∃l,Zq W (.slice a len cap) l:=by
 obtain ⟨g,A⟩:=h;rcases open_ints w r s A with ⟨b,_⟩|⟨x,n,c,k,b,_,C,v,y,_,j,o⟩
 ·simp [Value.cells] at b;obtain ⟨rfl,rfl,rfl⟩:=b;exact ⟨[],Zq.nil_ W⟩
 ·simp [Value.cells] at b;obtain ⟨rfl,rfl,rfl⟩:=b;have t:k.length=cap:=by simpa using y
  refine ⟨(k.take len).map (fun z=>UInt8.ofNat z.toNat),Zpn (by rw [Zi,XE,Xi];omega) C v (fun i u hi => ?_)⟩
  have m:i<len:=by
   have:=(Xal.1 hi).1;rw [Zi,XE,Xi] at this;omega
  have f:i<k.length:=by omega
  have hb:=Zzv (o k[i] (XH f))
  have B:u=.int .u8 (k[i]):=by
   have q:=hi;simp only [Lib.byteCells,Xa1,List.getElem?_take,Xe m,XW f,Xai,Xv] at q;rw [<- q];refine Xp (Value.int .u8) ?_;rw [UInt8.toNat_ofNat'];omega
  rw [B,j i f];simp [List.getD,f]
end MM
namespace EV
open RowKit MM EM
def ZaH (p:Fld):Prop:=p.1.length<=maxLen/\p.2.length<=maxLen
theorem Zvw:ZgG Tryz.prog Z8 ZaH 123:=ZiD Tryz.underlying123 rfl rfl (by kernel_rfl) (by kernel_rfl) (by kernel_rfl) (Zot Tryz.underlying9) (Zot Tryz.underlying9)
def Zwt (e:Ev):Prop:=ZBZ e.1/\(∀f∈e.2,ZaH f)/\e.2.length<=maxLen
theorem Zq3:ZgG Tryz.prog evC Zwt 57:=ZiD Tryz.underlying57 rfl rfl (by kernel_rfl) (by kernel_rfl) (by kernel_rfl) (Zor Tryz.underlying3) (Zos Tryz.underlying55 (by kernel_rfl) Zvw)
end EV
namespace ST
open RowKit MM EM
open EV (ZA evC Zwt Zq3)
def Zry (d:SM.Zo):Prop:=ZBZ d.1/\Zwt d.2
theorem Zvv:ZgG Tryz.prog ZA Zry 59:=ZiD Tryz.underlying59 rfl rfl (by kernel_rfl) (by kernel_rfl) (by kernel_rfl) (Zor Tryz.underlying3) Zq3
instance:Inhabited SM.Zo:=⟨SM.Zhc⟩
theorem ZsC:ZgG Tryz.prog (Zfu ZA) (fun l=>(∀d∈l,Zry d)/\l.length<=maxLen) 22:=Zos Tryz.underlying22 (by kernel_rfl) Zvv
theorem Zxx {l:List SM.Zo} (h:∀d∈l,Zry d):SM.ZaH l:=fun d a=>(h d a).2.1
end ST
namespace GF1
open Go.ChangeShapes Go.WideShapes Go.ChangeAt RowKit MM
open Go.ChangeMaps (open_string shut_string)
theorem ZwW (H:Type) (enc:TypeId×Value->H) (W:World) (args:Array Value) (B Z:List (DataW H)) (b:List MemPlace)
  (a:∀(j:Nat) t v,Tryz.f3.params[j]? = some t->args[j]? = some v->Value.okWide Tryz.prog W .any 0 t v)
  (C:DataW.Whole enc Tryz.prog Tryz.f3.params.toList Rows.segmentBytesSpec.vars false W args.toList B Z b) :
  Calls Tryz.prog 3 args W fun e n=>∃v,e=.returned v/\Rows.segmentBytesSpec.post enc Tryz.prog Tryz.f3 false true false false W args v n:=by
 have g:=C;obtain ⟨p,q,c,L,rfl,F,N⟩:=C;have r:DataW.TrodAll enc Tryz.prog W 0 (fun _=>true) true Tryz.f3.params.toList args.toList B p:=c;rw [Tryz.params3] at r a;obtain ⟨v0,O,d0,aa,M,q0,k,rfl,rfl,s,U⟩:=trodAll_cons r;obtain ⟨z,T,d1,Y,E,q1,rfl,rfl,rfl,D,J⟩:=trodAll_cons U;obtain ⟨rfl,rfl,rfl⟩:=trodAll_nil J;obtain rfl:args=#[v0,z]:=by cases args;simp_all
 obtain ⟨rfl,rfl⟩:=trodVars_none L;obtain ⟨a0,u,y,rfl⟩:=okWide_slice Tryz.underlying22 (a 0 22 v0 rfl rfl);have w:=s;have f:∀x∈M,x.block<W.heap.size:=by obtain ⟨m,i⟩:=w;exact DataW.trod_lt m _ _ _ i
 obtain ⟨I,G,X⟩:=ZrD ST.ZsC s;obtain ⟨a1,A,l,rfl⟩:=okWide_slice Tryz.underlying23 (a 1 23 z rfl rfl);have o:=D;have d:∀x∈E,x.block<W.heap.size:=by obtain ⟨m,i⟩:=o;exact DataW.trod_lt m _ _ _ i
 obtain ⟨R,V⟩:=ZwH Tryz.underlying23 Tryz.underlying5 (by kernel_rfl) D;clear c;refine (SG.ZrK SG.Zvy _ _ I R W G V (ST.Zxx X.1)).mono fun e n ⟨S,bel⟩ => ?_;subst S;exact ⟨_,rfl,_,_,_,[],_,[],g,trodAll_mk1 (shut_bool Tryz.underlying4 _),(trodAll_cons_mk (Below.trod laidOut (by kernel_rfl) (of_decide_eq_true (by kernel_rfl)) w bel f) (trodAll_cons_mk (Below.trod laidOut (by kernel_rfl) (of_decide_eq_true (by kernel_rfl)) o bel d) trodAll_mk0)),rfl,bel.frame _,fun h=>by cases h⟩
theorem lifted (d:Os) (a:d.Started) (H:Type) (enc:TypeId×Value->H) :
  ReturnsInHanded {} Tryz.checked d 3 .any (Rows.segmentBytesSpec.pre6 enc Tryz.prog Tryz.f3 Rows.segmentBytesRow.domain false) (Rows.segmentBytesSpec.post enc Tryz.prog Tryz.f3 false true false false):=by
 refine returnsInHanded_of_change (C:=Tryz.checked) own a (by kernel_rfl) Tryz.func3
  (ChangeSpec.witness6 (enc:=enc) (C:=Tryz.checked) false ⟨#[],#[.slice none 0 0,.slice none 0 0],[]⟩ 8 (by kernel_rfl) (by kernel_rfl) (by kernel_rfl) (by kernel_rfl)) ?_
 intro W base args f e b c g _ _;exact ZwW H enc W args f e b c g
theorem ZC6:Rows.SegmentBytesSaid :=
 OpenClaim.holds_of_wide 3 Tryz.f3 rfl rfl rfl rfl rfl rfl rfl ⟨rfl,rfl,rfl,rfl,rfl⟩ rfl rfl rfl rfl rfl (by kernel_rfl) Tryz.func3 (by kernel_rfl)
  (of_decide_eq_true (by kernel_rfl)) (by unfold Func.isWrapper;first|(rw [Xe (by decide +kernel)];kernel_rfl)|(rw [Xa (by decide +kernel)];exact ⟨rfl,rfl⟩))
  (fun b a H enc _=>lifted b a H enc)
end GF1
theorem segmentBytes_holds:Rows.SegmentBytesSaid:=GF1.ZC6
