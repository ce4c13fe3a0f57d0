import Derived.Shelf.SlSortCmp.WholeK
import Derived.Laws.Cover1
import Derived.Test.YtmomfobdpfajbaaGreatZA4
import Derived.Test.YtmomfobdpfajbaaGreatZA3
set_option maxRecDepth 100000
set_option maxHeartbeats 0
set_option linter.unusedVariables false
set_option linter.unusedSimpArgs false
namespace Go.Proofs.YtmomfobdpfajbaaGreat
open Tryz
end Go.Proofs.YtmomfobdpfajbaaGreat
namespace Go.Proofs
open Go.Shelf
def Tryz.sortTerm_ren:Go.Shelf.Ren:=⟨fun|6=>183|15=>188|14=>226|28=>237|29=>238|20=>250|21=>251|22=>252|23=>253|24=>254|25=>255|26=>256|27=>257|46=>272|47=>259|48=>260|49=>273|50=>274|57=>281|n=>n,fun|22=>202|24=>204|25=>270|3=>3|39=>185|0=>0|53=>183|55=>180|4=>4|46=>297|45=>296|50=>289|5=>5|9=>9|66=>317|70=>321|76=>331|77=>261|n=>n,fun|n=>n⟩
theorem Tryz.sortTerm:Go.Proofs.SlLaysF0.n6 Tryz.prog Tryz.sortTerm_ren:={
 mixed:=by kernel_rfl
 f6:=⟨Tryz.f183.name,by decide,Tryz.func183.trans (congrArg some (by kernel_rfl))⟩
 f14:=⟨Tryz.f226.name,by decide,Tryz.func226.trans (congrArg some (by kernel_rfl))⟩
 f15:=Tryz.func188.trans (congrArg some (by kernel_rfl))
 f20:=⟨Tryz.f250.name,by decide,Tryz.func250.trans (congrArg some (by kernel_rfl))⟩
 f21:=⟨Tryz.f251.name,by decide,Tryz.func251.trans (congrArg some (by kernel_rfl))⟩
 f22:=⟨Tryz.f252.name,by decide,Tryz.func252.trans (congrArg some (by kernel_rfl))⟩
 f23:=⟨Tryz.f253.name,by decide,Tryz.func253.trans (congrArg some (by kernel_rfl))⟩
 f24:=⟨Tryz.f254.name,by decide,Tryz.func254.trans (congrArg some (by kernel_rfl))⟩
 f25:=⟨Tryz.f255.name,by decide,Tryz.func255.trans (congrArg some (by kernel_rfl))⟩
 f26:=⟨Tryz.f256.name,by decide,Tryz.func256.trans (congrArg some (by kernel_rfl))⟩
 f27:=⟨Tryz.f257.name,by decide,Tryz.func257.trans (congrArg some (by kernel_rfl))⟩
 f28:=Tryz.func237.trans (congrArg some (by kernel_rfl))
 f29:=Tryz.func238.trans (congrArg some (by kernel_rfl))
 f46:=⟨Tryz.f272.name,by decide,Tryz.func272.trans (congrArg some (by kernel_rfl))⟩
 f47:=Tryz.func259.trans (congrArg some (by kernel_rfl))
 f48:=Tryz.func260.trans (congrArg some (by kernel_rfl))
 f49:=⟨Tryz.f273.name,by decide,Tryz.func273.trans (congrArg some (by kernel_rfl))⟩
 f50:=⟨Tryz.f274.name,by decide,Tryz.func274.trans (congrArg some (by kernel_rfl))⟩
 f57:=⟨Tryz.f281.name,by decide,Tryz.func281.trans (congrArg some (by kernel_rfl))⟩
 t0:=Tryz.underlying0
 a0:=Tryz.isAgg0
 z0:=Tryz.sizeOf0
 v0:=Tryz.zeroValue0
 t3:=Tryz.underlying3
 a3:=Tryz.isAgg3
 z3:=Tryz.sizeOf3
 v3:=Tryz.zeroValue3
 t4:=Tryz.underlying4
 a4:=Tryz.isAgg4
 z4:=Tryz.sizeOf4
 v4:=Tryz.zeroValue4
 t5:=Tryz.underlying5
 a5:=Tryz.isAgg5
 z5:=Tryz.sizeOf5
 v5:=Tryz.zeroValue5
 t9:=Tryz.underlying9
 a9:=Tryz.isAgg9
 z9:=Tryz.sizeOf9
 v9:=Tryz.zeroValue9
 t22:=Tryz.underlying202
 a22:=Tryz.isAgg202
 z22:=Tryz.sizeOf202
 v22:=Tryz.zeroValue202
 t25:=Tryz.underlying270
 a25:=Tryz.isAgg270
 z25:=Tryz.sizeOf270
 v25:=Tryz.zeroValue270
 t39:=Tryz.underlying185
 a39:=Tryz.isAgg185
 z39:=Tryz.sizeOf185
 v39:=Tryz.zeroValue185
 t45:=Tryz.underlying296
 a45:=Tryz.isAgg296
 z45:=Tryz.sizeOf296
 v45:=Tryz.zeroValue296
 t46:=Tryz.underlying297
 a46:=Tryz.isAgg297
 z46:=Tryz.sizeOf297
 v46:=Tryz.zeroValue297
 t50:=Tryz.underlying289
 a50:=Tryz.isAgg289
 z50:=Tryz.sizeOf289
 v50:=Tryz.zeroValue289
 t53:=Tryz.underlying183
 a53:=Tryz.isAgg183
 z53:=Tryz.sizeOf183
 v53:=Tryz.zeroValue183
 t55:=Tryz.underlying180
 a55:=Tryz.isAgg180
 z55:=Tryz.sizeOf180
 v55:=Tryz.zeroValue180
 t66:=Tryz.underlying317
 a66:=Tryz.isAgg317
 z66:=Tryz.sizeOf317
 v66:=Tryz.zeroValue317
 t70:=Tryz.underlying321
 a70:=Tryz.isAgg321
 z70:=Tryz.sizeOf321
 v70:=Tryz.zeroValue321
 t76:=Tryz.underlying331
 a76:=Tryz.isAgg331
 z76:=Tryz.sizeOf331
 v76:=Tryz.zeroValue331
 t77:=Tryz.underlying261
 a77:=Tryz.isAgg261
 z77:=Tryz.sizeOf261
 v77:=Tryz.zeroValue261 }
end Go.Proofs
namespace Go.Proofs.YtmomfobdpfajbaaGreat
open Tryz
namespace EV
open Go.Shelf RowKit MM EM Go.Sort
variable {w:World} {g:Nat}
theorem Zug (s:ByteArray) (w:World):Calls prog 227 #[.string s] w fun e w'=>e=.returned (.bool false)/\w=w':=by
 have h:(s.toList != s.toList)=false:=by simp
 go_enter func227,ntmps227;go_wp2_with fail;go_ret;exact ⟨rfl,rfl⟩
def cmpL (a b:Xu):Int:=if Zg a b=true then -1 else if Zg b a=true then 1 else 0
theorem ZlU (a b:Xu):(Zg a b=true/\cmpL a b = -1)\/(Zg a b=false/\a=b/\cmpL a b=0)\/(Zg a b=false/\a≠b/\cmpL a b=1):=by
 unfold cmpL
 by_cases h:Zg a b=true
 ·exact .inl ⟨h,by rw [Xe h]⟩
 ·have c:Zg a b=false:=by simpa using h
  by_cases e:a=b
  ·subst e;exact .inr (.inl ⟨c,rfl,by rw [Xc h,Xc h]⟩)
  ·exact .inr (.inr ⟨c,e,by rw [Xc h,Xe (ZaC c e)]⟩)
theorem ZAx (a b:Xu) (w:World):Calls prog 185 #[.string ⟨a.toArray⟩,.string ⟨b.toArray⟩] w fun e w'=>e=.returned (.int .i64 (cmpL a b))/\w=w':=by
 have f:=Y4 (Zug ⟨a.toArray⟩ w);have c:=Y4 (Zug ⟨b.toArray⟩ w);have s1:=Zc3 a b;rcases ZlU a b with ⟨h,i⟩|⟨h,d,i⟩|⟨h,d,i⟩
 all_goals
  rw [i];have k:=Zan a b;rw [h] at k
 ·clear s1 i h;go_enter func185,ntmps185;go_wp2_with fail;refine f.z.mono ?_;rintro e j ⟨rfl,rfl⟩;go_wp2_with fail;refine c.z.mono ?_;rintro e j ⟨rfl,rfl⟩;go_wp2_with fail;go_ret;exact ⟨rfl,rfl⟩
 ·rw [Xs d] at s1;have s3:(a == b)=true:=by rw [Xaj];exact d
  clear d i h;go_enter func185,ntmps185;go_wp2_with fail;refine f.z.mono ?_;rintro e j ⟨rfl,rfl⟩;go_wp2_with fail;refine c.z.mono ?_;rintro e j ⟨rfl,rfl⟩;go_wp2_with fail;go_ret;exact ⟨rfl,rfl⟩
 ·rw [Xz d] at s1;have s3:(a == b)=false:=by rw [X6];exact d
  clear d i h;go_enter func185,ntmps185;go_wp2_with fail;refine f.z.mono ?_;rintro e j ⟨rfl,rfl⟩;go_wp2_with fail;refine c.z.mono ?_;rintro e j ⟨rfl,rfl⟩;go_wp2_with fail;go_ret;exact ⟨rfl,rfl⟩
abbrev ZCX:={v:Value // v.oneCell'=true}
abbrev ZcX:=Xu×ZCX
instance instTCell:Inhabited ZcX:=⟨([],⟨.slice none 0 0,rfl⟩)⟩
def ZgM (x:ZcX):List Value:=[.string ⟨x.1.toArray⟩,x.2.1]
def cfT (x y:ZcX):Int:=cmpL x.1 y.1
theorem ltT (x y:ZcX):ltOf cfT x y=Zg x.1 y.1:=by
 unfold ltOf cfT;rcases ZlU x.1 y.1 with ⟨a,b⟩|⟨a,c,b⟩|⟨a,c,b⟩<;>rw [a,b]<;>rfl
theorem ZDm:SWO (ltOf cfT) where
 irrefl x:=by rw [ltT];exact Zbc _
 trans x y z h1 h2:=by rw [ltT] at *;exact Zaq h1 h2
 ntrans x y z h1 h2:=by
  rw [ltT] at *;cases h:Zg x.1 z.1 with
  | false=>rfl
  | true =>
    by_cases e:x.1=y.1
    ·rw [e] at h;rw [h] at h2;cases h2
    ·have a:=Zaq (ZaC h1 e) h;rw [a] at h2;cases h2
theorem ZAw (a b:Xu) (u v:Value) (hu:u.oneCell'=true) (hv:v.oneCell'=true) (W:World):Calls prog 184 #[.agg #[.string ⟨a.toArray⟩,u],.agg #[.string ⟨b.toArray⟩,v]] W fun e w'=>e=.returned (.int .i64 (cmpL a b))/\∃q c,w'=grow (W.drewN q) c:=by
 have f:=Y4 (fun d=>ZAx a b d);generalize cmpL a b=r at *;go_enter func184,ntmps184;go_wp2_with fail;refine (f.z _).mono ?_;rintro e w2 ⟨rfl,rfl⟩;go_wp2_with fail;go_ret;exact ⟨rfl,0,_,by rw [alloc_eq_grow,alloc_eq_grow,grow_grow];rfl⟩
def Zih (w:World) (g:Nat) (d:List ZcX):Prop:=∀i (h:i<d.length),w.cell? ⟨g,i*2,none⟩=some (.string ⟨d[i].1.toArray⟩)/\w.cell? ⟨g,i*2+1,none⟩=some d[i].2.1
theorem holds_of {d:List ZcX} (h:Zih w g d) (hf:∀j,w.frozen? ⟨g,j,none⟩=false):HoldsK ZgM 2 w g 0 d.toArray:=by
 intro j c;rw [size_flatK] at c;have f:j<d.length*2:=by simpa using c
 refine ⟨?_,hf _⟩;rw [get_flatK _ _ _ _ c,XL];have hi:j / 2<d.length:=by omega
 have e:d.toArray[j / 2]! = d[j / 2]:=by rw [getElem!_pos d.toArray (j / 2) (by simpa using hi)];simp
 rw [e];rcases (by omega:j%2=0\/j%2=1) with b|b
 ·rw [b];have a:j=j / 2*2:=by omega
  rw [show (⟨g,j,none⟩:Addr)=⟨g,j / 2*2,none⟩ by rw [<- a]];exact (h _ hi).1
 ·rw [b];have a:j=j / 2*2+1:=by omega
  rw [show (⟨g,j,none⟩:Addr)=⟨g,j / 2*2+1,none⟩ by rw [<- a]];exact (h _ hi).2
theorem ZlQ {d:Array ZcX} (h:HoldsK ZgM 2 w g 0 d):Zih w g d.toList:=fun i hi=>by
 have a:i<d.size:=by simpa using hi
 have e:=(h.cell a (c:=0) (by omega)).1;have b:=(h.cell a (c:=1) (by omega)).1;rw [XL,Xad] at e;rw [XL] at b;rw [getElem!_pos d i a] at e b;exact ⟨by simpa [ZgM] using e,by simpa [ZgM] using b⟩
theorem Zzz (g h:Nat) (d:List ZcX) (w:World) (F:Zih w g d) (hf:∀j,w.frozen? ⟨g,j,none⟩=false) (z:g<w.heap.size) (m:d.length<4611686018427387904) :
  Calls prog 183 #[.slice (some ⟨g,0,none⟩) d.length h,.func (.func 184) #[] #[]] w fun e w'=>e=.returned (.tuple #[])/\∃a:List ZcX,a.Perm d/\a.Pairwise (fun x y=>Zg y.1 x.1=false)/\Zih w' g a/\Kep (fun k=>k≠g) w w':=by
 have C:∀args w,(callFunc 184 args).run prog w=.ok (.enter 184 args) w:=enters_of func184 (by kernel_rfl) rfl;have f:CmpLays prog 184 #[] ZgM 2 cfT g 0 d.toArray.size w:=fun _ _ _ _ x y=>ZAw x.1 y.1 x.2.1 y.2.1 x.2.2 y.2.2 _;have A:=holds_of F hf
 have:=AnyQ.slices_SortFunc Tryz.sortTerm 2 Tryz.isAgg204 Tryz.sizeOf204 ZgM (fun _=>rfl) (fun x v u=>by
  simp only [ZgM,XT,Xbk,or_false] at u;rcases u with rfl|rfl
  ·rfl
  ·exact x.2.2) cfT ZDm 184 #[] g 0 h d.toArray w C f A z (by simpa using m)
 rw [Xar] at this;refine this.mono ?_;rintro e w' ⟨rfl,a,n,l,⟨hs,_,B⟩,b,rfl⟩;have c:a.size=d.length:=by simpa using hs
 have s:a.toList.Perm d:=by
  have p:a.extract 0 d.length=a:=by rw [<- c];exact Array.extract_size
  have H:d.toArray.extract 0 d.length=d.toArray:=by rw [show d.length=d.toArray.size by simp];exact Array.extract_size
  rw [p,H] at B;simpa using B
 refine ⟨rfl,a.toList,s,?_,?_,?_⟩
 ·rw [List.pairwise_iff_getElem];intro i j hi D r;have o:i<a.size:=by simpa using hi
  have t:j<a.size:=by simpa using D
  have:=b i j (XX _) r (by omega);rw [ltT,getElem!_pos a i o,getElem!_pos a j t] at this;simpa using this
 ·have E:=holdsK_putRowK ZgM 2 (Sort.ahead w n) g 0 d.toArray a (holdsK_ahead ZgM 2 w n g 0 _ A) (by rw [c];simp);exact ZlQ (holdsK_grow ZgM 2 _ l g 0 a (by show g<(putRow id _ g 0 _).heap.size;rw [size_putRow];exact z) E)
 ·refine ⟨rfl,rfl,rfl,?_,fun k G q => ?_⟩
  ·show w.heap.size<=(grow (putRow id _ g 0 _) l).heap.size
   rw [size_grow,size_putRow];exact Nat.le_add_right _ _
  ·have p:(grow (putRowK ZgM 2 (Sort.ahead w n) g 0 a) l).heap[k]? = (putRowK ZgM 2 (Sort.ahead w n) g 0 a).heap[k]? := by
    show ((putRowK ZgM 2 (Sort.ahead w n) g 0 a).heap++l)[k]? = _
    rw [Array.getElem?_append_left (by show k<(putRow id _ g 0 _).heap.size;rw [size_putRow];exact G)]
   refine p.trans ?_
   show ((Sort.ahead w n).heap.modify g _)[k]? = _
   rw [Array.getElem?_modify,Xc (fun e=>q e.symm)];rfl
