import Derived.Shelf.SlSortCmp.WholeK
import Derived.Laws.Cover1
import Derived.Test.YtdijhifdjbnkfaaGreatZT4
import Derived.Test.YtdijhifdjbnkfaaGreatZT3
set_option maxRecDepth 100000
set_option maxHeartbeats 0
set_option linter.unusedVariables false
set_option linter.unusedSimpArgs false
namespace Go.Proofs.YtdijhifdjbnkfaaGreat
open Lib (hid)
open Tryz
end Go.Proofs.YtdijhifdjbnkfaaGreat
namespace Go.Proofs
open Go.Shelf
def Tryz.sortTerm_ren:Go.Shelf.Ren:=⟨fun|6=>183|15=>188|14=>226|28=>237|29=>238|20=>250|21=>251|22=>252|23=>253|24=>254|25=>255|26=>256|27=>257|46=>272|47=>259|48=>260|49=>273|50=>274|57=>281|n=>n,fun|22=>202|24=>204|25=>270|3=>3|39=>185|0=>0|53=>183|55=>180|4=>4|46=>297|45=>296|50=>289|5=>5|9=>9|66=>317|70=>321|76=>331|77=>261|n=>n,fun|n=>n⟩
theorem Tryz.sortTerm:Go.Proofs.SlLaysF0.n6 Tryz.prog Tryz.sortTerm_ren:={
 mixed:=by kernel_rfl
 f6:=⟨Tryz.f183.name,by decide,Tryz.func183.trans (congrArg some (by kernel_rfl))⟩
 f14:=⟨Tryz.f226.name,by decide,Tryz.func226.trans (congrArg some (by kernel_rfl))⟩
 f15:=Tryz.func188.trans (congrArg some (by kernel_rfl))
 f20:=⟨Tryz.f250.name,by decide,Tryz.func250.trans (congrArg some (by kernel_rfl))⟩
 f21:=⟨Tryz.f251.name,by decide,Tryz.func251.trans (congrArg some (by kernel_rfl))⟩
 f22:=⟨Tryz.f252.name,by decide,Tryz.func252.trans (congrArg some (by kernel_rfl))⟩
 f23:=⟨Tryz.f253.name,by decide,Tryz.func253.trans (congrArg some (by kernel_rfl))⟩
 f24:=⟨Tryz.f254.name,by decide,Tryz.func254.trans (congrArg some (by kernel_rfl))⟩
 f25:=⟨Tryz.f255.name,by decide,Tryz.func255.trans (congrArg some (by kernel_rfl))⟩
 f26:=⟨Tryz.f256.name,by decide,Tryz.func256.trans (congrArg some (by kernel_rfl))⟩
 f27:=⟨Tryz.f257.name,by decide,Tryz.func257.trans (congrArg some (by kernel_rfl))⟩
 f28:=Tryz.func237.trans (congrArg some (by kernel_rfl))
 f29:=Tryz.func238.trans (congrArg some (by kernel_rfl))
 f46:=⟨Tryz.f272.name,by decide,Tryz.func272.trans (congrArg some (by kernel_rfl))⟩
 f47:=Tryz.func259.trans (congrArg some (by kernel_rfl))
 f48:=Tryz.func260.trans (congrArg some (by kernel_rfl))
 f49:=⟨Tryz.f273.name,by decide,Tryz.func273.trans (congrArg some (by kernel_rfl))⟩
 f50:=⟨Tryz.f274.name,by decide,Tryz.func274.trans (congrArg some (by kernel_rfl))⟩
 f57:=⟨Tryz.f281.name,by decide,Tryz.func281.trans (congrArg some (by kernel_rfl))⟩
 t0:=Tryz.underlying0
 a0:=Tryz.isAgg0
 z0:=Tryz.sizeOf0
 v0:=Tryz.zeroValue0
 t3:=Tryz.underlying3
 a3:=Tryz.isAgg3
 z3:=Tryz.sizeOf3
 v3:=Tryz.zeroValue3
 t4:=Tryz.underlying4
 a4:=Tryz.isAgg4
 z4:=Tryz.sizeOf4
 v4:=Tryz.zeroValue4
 t5:=Tryz.underlying5
 a5:=Tryz.isAgg5
 z5:=Tryz.sizeOf5
 v5:=Tryz.zeroValue5
 t9:=Tryz.underlying9
 a9:=Tryz.isAgg9
 z9:=Tryz.sizeOf9
 v9:=Tryz.zeroValue9
 t22:=Tryz.underlying202
 a22:=Tryz.isAgg202
 z22:=Tryz.sizeOf202
 v22:=Tryz.zeroValue202
 t25:=Tryz.underlying270
 a25:=Tryz.isAgg270
 z25:=Tryz.sizeOf270
 v25:=Tryz.zeroValue270
 t39:=Tryz.underlying185
 a39:=Tryz.isAgg185
 z39:=Tryz.sizeOf185
 v39:=Tryz.zeroValue185
 t45:=Tryz.underlying296
 a45:=Tryz.isAgg296
 z45:=Tryz.sizeOf296
 v45:=Tryz.zeroValue296
 t46:=Tryz.underlying297
 a46:=Tryz.isAgg297
 z46:=Tryz.sizeOf297
 v46:=Tryz.zeroValue297
 t50:=Tryz.underlying289
 a50:=Tryz.isAgg289
 z50:=Tryz.sizeOf289
 v50:=Tryz.zeroValue289
 t53:=Tryz.underlying183
 a53:=Tryz.isAgg183
 z53:=Tryz.sizeOf183
 v53:=Tryz.zeroValue183
 t55:=Tryz.underlying180
 a55:=Tryz.isAgg180
 z55:=Tryz.sizeOf180
 v55:=Tryz.zeroValue180
 t66:=Tryz.underlying317
 a66:=Tryz.isAgg317
 z66:=Tryz.sizeOf317
 v66:=Tryz.zeroValue317
 t70:=Tryz.underlying321
 a70:=Tryz.isAgg321
 z70:=Tryz.sizeOf321
 v70:=Tryz.zeroValue321
 t76:=Tryz.underlying331
 a76:=Tryz.isAgg331
 z76:=Tryz.sizeOf331
 v76:=Tryz.zeroValue331
 t77:=Tryz.underlying261
 a77:=Tryz.isAgg261
 z77:=Tryz.sizeOf261
 v77:=Tryz.zeroValue261 }
end Go.Proofs
namespace Go.Proofs.YtdijhifdjbnkfaaGreat
open Lib (hid)
open Tryz
namespace EV
open Go.Shelf RowKit MM EM Go.Sort
variable {w:World} {g:Nat}
theorem ZtH (s:ByteArray) (w:World):Calls prog 227 #[.string s] w fun e w'=>e=.returned (.bool false)/\w=w':=by
 have h:(s.toList != s.toList)=false:=by simp
 go_enter func227,ntmps227;go_wp2_with fail;go_ret;exact ⟨rfl,rfl⟩
def cmpL (a b:Xu):Int:=if Zj a b=true then -1 else if Zj b a=true then 1 else 0
theorem ZlW (a b:Xu):(Zj a b=true/\cmpL a b = -1)\/(Zj a b=false/\a=b/\cmpL a b=0)\/(Zj a b=false/\a≠b/\cmpL a b=1):=by
 unfold cmpL
 by_cases h:Zj a b=true
 ·exact .inl ⟨h,by rw [Xe h]⟩
 ·have c:Zj a b=false:=by simpa using h
  by_cases e:a=b
  ·subst e;exact .inr (.inl ⟨c,rfl,by rw [Xa h,Xa h]⟩)
  ·exact .inr (.inr ⟨c,e,by rw [Xa h,Xe (ZaC c e)]⟩)
theorem ZAd (a b:Xu) (w:World):Calls prog 185 #[.string ⟨a.toArray⟩,.string ⟨b.toArray⟩] w fun e w'=>e=.returned (.int .i64 (cmpL a b))/\w=w':=by
 have d:=hid (ZtH ⟨a.toArray⟩ w);have c:=hid (ZtH ⟨b.toArray⟩ w);have s1:=Zb5 a b;rcases ZlW a b with ⟨i,h⟩|⟨i,f,h⟩|⟨i,f,h⟩
 all_goals
  rw [h];have k:=Zaq a b;rw [i] at k
 ·clear s1 h i;go_enter func185,ntmps185;go_wp2_with fail;refine d.out.mono ?_;rintro e j ⟨rfl,rfl⟩;go_wp2_with fail;refine c.out.mono ?_;rintro e j ⟨rfl,rfl⟩;go_wp2_with fail;go_ret;exact ⟨rfl,rfl⟩
 ·rw [Xw f] at s1;have s3:(a == b)=true:=by rw [Xan];exact f
  clear f h i;go_enter func185,ntmps185;go_wp2_with fail;refine d.out.mono ?_;rintro e j ⟨rfl,rfl⟩;go_wp2_with fail;refine c.out.mono ?_;rintro e j ⟨rfl,rfl⟩;go_wp2_with fail;go_ret;exact ⟨rfl,rfl⟩
 ·rw [XB f] at s1;have s3:(a == b)=false:=by rw [Xab];exact f
  clear f h i;go_enter func185,ntmps185;go_wp2_with fail;refine d.out.mono ?_;rintro e j ⟨rfl,rfl⟩;go_wp2_with fail;refine c.out.mono ?_;rintro e j ⟨rfl,rfl⟩;go_wp2_with fail;go_ret;exact ⟨rfl,rfl⟩
abbrev ZCH:={v:Value // v.oneCell'=true}
abbrev ZcZ:=Xu×ZCH
instance instTCell:Inhabited ZcZ:=⟨([],⟨.slice none 0 0,rfl⟩)⟩
def ZgQ (x:ZcZ):List Value:=[.string ⟨x.1.toArray⟩,x.2.1]
def cfT (x y:ZcZ):Int:=cmpL x.1 y.1
theorem ltT (x y:ZcZ):ltOf cfT x y=Zj x.1 y.1:=by
 unfold ltOf cfT;rcases ZlW x.1 y.1 with ⟨b,a⟩|⟨b,c,a⟩|⟨b,c,a⟩<;>rw [b,a]<;>rfl
theorem ZC8:SWO (ltOf cfT) where
 irrefl x:=by rw [ltT];exact Za9 _
 trans x y z h1 h2:=by rw [ltT] at *;exact ZaD h1 h2
 ntrans x y z h1 h2:=by
  rw [ltT] at *;cases h:Zj x.1 z.1 with
  | false=>rfl
  | true =>
    by_cases e:x.1=y.1
    ·rw [e] at h;rw [h] at h2;cases h2
    ·have a:=ZaD (ZaC h1 e) h;rw [a] at h2;cases h2
theorem ZAc (a b:Xu) (u v:Value) (hu:u.oneCell'=true) (hv:v.oneCell'=true) (W:World):Calls prog 184 #[.agg #[.string ⟨a.toArray⟩,u],.agg #[.string ⟨b.toArray⟩,v]] W fun e w'=>e=.returned (.int .i64 (cmpL a b))/\∃q c,w'=grow (W.drewN q) c:=by
 have f:=hid (fun d=>ZAd a b d);generalize cmpL a b=r at *;go_enter func184,ntmps184;go_wp2_with fail;refine (f.out _).mono ?_;rintro e w2 ⟨rfl,rfl⟩;go_wp2_with fail;go_ret;exact ⟨rfl,0,_,by rw [alloc_eq_grow,alloc_eq_grow,grow_grow];rfl⟩
def Zib (w:World) (g:Nat) (d:List ZcZ):Prop:=∀i (h:i<d.length),w.cell? ⟨g,i*2,none⟩=some (.string ⟨d[i].1.toArray⟩)/\w.cell? ⟨g,i*2+1,none⟩=some d[i].2.1
theorem holds_of {d:List ZcZ} (h:Zib w g d) (i:∀j,w.frozen? ⟨g,j,none⟩=false):HoldsK ZgQ 2 w g 0 d.toArray:=by
 intro j b;rw [size_flatK] at b;have f:j<d.length*2:=by simpa using b
 refine ⟨?_,i _⟩;rw [get_flatK _ _ _ _ b,XL];have hi:j / 2<d.length:=by omega
 have e:d.toArray[j / 2]! = d[j / 2]:=by rw [getElem!_pos d.toArray (j / 2) (by simpa using hi)];simp
 rw [e];rcases (by omega:j%2=0\/j%2=1) with c|c
 ·rw [c];have a:j=j / 2*2:=by omega
  rw [show (⟨g,j,none⟩:Addr)=⟨g,j / 2*2,none⟩ by rw [<- a]];exact (h _ hi).1
 ·rw [c];have a:j=j / 2*2+1:=by omega
  rw [show (⟨g,j,none⟩:Addr)=⟨g,j / 2*2+1,none⟩ by rw [<- a]];exact (h _ hi).2
theorem ZlS {d:Array ZcZ} (h:HoldsK ZgQ 2 w g 0 d):Zib w g d.toList:=fun i hi=>by
 have a:i<d.size:=by simpa using hi
 have e:=(h.cell a (c:=0) (by omega)).1;have b:=(h.cell a (c:=1) (by omega)).1;rw [XL,Xah] at e;rw [XL] at b;rw [getElem!_pos d i a] at e b;exact ⟨by simpa [ZgQ] using e,by simpa [ZgQ] using b⟩
theorem Zzc (g h:Nat) (d:List ZcZ) (w:World) (D:Zib w g d) (H:∀j,w.frozen? ⟨g,j,none⟩=false) (z:g<w.heap.size) (p:d.length<4611686018427387904) :
  Calls prog 183 #[.slice (some ⟨g,0,none⟩) d.length h,.func (.func 184) #[] #[]] w fun e w'=>e=.returned (.tuple #[])/\∃a:List ZcZ,a.Perm d/\a.Pairwise (fun x y=>Zj y.1 x.1=false)/\Zib w' g a/\Kep (fun k=>k≠g) w w':=by
 have C:∀args w,(callFunc 184 args).run prog w=.ok (.enter 184 args) w:=enters_of func184 (by kernel_rfl) rfl;have c:CmpLays prog 184 #[] ZgQ 2 cfT g 0 d.toArray.size w:=fun _ _ _ _ x y=>ZAc x.1 y.1 x.2.1 y.2.1 x.2.2 y.2.2 _;have u:=holds_of D H
 have:=AnyQ.slices_SortFunc Tryz.sortTerm 2 Tryz.isAgg204 Tryz.sizeOf204 ZgQ (fun _=>rfl) (fun x v A=>by
  simp only [ZgQ,XS,Xbi,or_false] at A;rcases A with rfl|rfl
  ·rfl
  ·exact x.2.2) cfT ZC8 184 #[] g 0 h d.toArray w C c u z (by simpa using p)
 rw [Xat] at this;refine this.mono ?_;rintro e w' ⟨rfl,a,n,l,⟨hs,_,B⟩,b,rfl⟩;have f:a.size=d.length:=by simpa using hs
 have o:a.toList.Perm d:=by
  have r:a.extract 0 d.length=a:=by rw [<- f];exact Array.extract_size
  have F:d.toArray.extract 0 d.length=d.toArray:=by rw [show d.length=d.toArray.size by simp];exact Array.extract_size
  rw [r,F] at B;simpa using B
 refine ⟨rfl,a.toList,o,?_,?_,?_⟩
 ·rw [List.pairwise_iff_getElem];intro i j hi E t;have m:i<a.size:=by simpa using hi
  have q:j<a.size:=by simpa using E
  have:=b i j (XU _) t (by omega);rw [ltT,getElem!_pos a i m,getElem!_pos a j q] at this;simpa using this
 ·have I:=holdsK_putRowK ZgQ 2 (Sort.ahead w n) g 0 d.toArray a (holdsK_ahead ZgQ 2 w n g 0 _ u) (by rw [f];simp);exact ZlS (holdsK_grow ZgQ 2 _ l g 0 a (by show g<(putRow id _ g 0 _).heap.size;rw [size_putRow];exact z) I)
 ·refine ⟨rfl,rfl,rfl,?_,fun k G s => ?_⟩
  ·show w.heap.size<=(grow (putRow id _ g 0 _) l).heap.size
   rw [size_grow,size_putRow];exact Nat.le_add_right _ _
  ·have r:(grow (putRowK ZgQ 2 (Sort.ahead w n) g 0 a) l).heap[k]? = (putRowK ZgQ 2 (Sort.ahead w n) g 0 a).heap[k]? := by
    show ((putRowK ZgQ 2 (Sort.ahead w n) g 0 a).heap++l)[k]? = _
    rw [Array.getElem?_append_left (by show k<(putRow id _ g 0 _).heap.size;rw [size_putRow];exact G)]
   refine r.trans ?_
   show ((Sort.ahead w n).heap.modify g _)[k]? = _
   rw [Array.getElem?_modify,Xa (fun e=>s e.symm)];rfl
