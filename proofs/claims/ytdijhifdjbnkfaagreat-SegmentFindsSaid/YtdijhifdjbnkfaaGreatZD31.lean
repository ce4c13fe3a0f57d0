import Derived.Shelf.SlSortCmp.WholeK
import Derived.Laws.Cover1
import Derived.Test.YtdijhifdjbnkfaaGreatZD7
import Derived.Test.YtdijhifdjbnkfaaGreatZD4
set_option maxRecDepth 100000
set_option maxHeartbeats 8000000
set_option linter.unusedVariables false
set_option linter.unusedSimpArgs false
namespace Go.Proofs
open Go.Shelf
def Tryz.sortTerm_ren:Go.Shelf.Ren:=⟨fun | 6=>183 | 15=>188 | 14=>226 | 28=>237 | 29=>238 | 20=>250 | 21=>251 | 22=>252 | 23=>253 | 24=>254 | 25=>255 | 26=>256 | 27=>257 | 46=>272 | 47=>259 | 48=>260 | 49=>273 | 50=>274 | 57=>281 | n=>n,fun | 22=>202 | 24=>204 | 25=>270 | 3=>3 | 39=>185 | 0=>0 | 53=>183 | 55=>180 | 4=>4 | 46=>297 | 45=>296 | 50=>289 | 5=>5 | 9=>9 | 66=>317 | 70=>321 | 76=>331 | 77=>261 | n=>n,fun | n=>n⟩
theorem Tryz.sortTerm:Go.Proofs.SlLaysF0.n6 Tryz.prog Tryz.sortTerm_ren:={
 mixed:=by kernel_rfl
 f6:=⟨Tryz.f183.name,by decide,Tryz.func183.trans (congrArg some (by kernel_rfl))⟩
 f14:=⟨Tryz.f226.name,by decide,Tryz.func226.trans (congrArg some (by kernel_rfl))⟩
 f15:=Tryz.func188.trans (congrArg some (by kernel_rfl))
 f20:=⟨Tryz.f250.name,by decide,Tryz.func250.trans (congrArg some (by kernel_rfl))⟩
 f21:=⟨Tryz.f251.name,by decide,Tryz.func251.trans (congrArg some (by kernel_rfl))⟩
 f22:=⟨Tryz.f252.name,by decide,Tryz.func252.trans (congrArg some (by kernel_rfl))⟩
 f23:=⟨Tryz.f253.name,by decide,Tryz.func253.trans (congrArg some (by kernel_rfl))⟩
 f24:=⟨Tryz.f254.name,by decide,Tryz.func254.trans (congrArg some (by kernel_rfl))⟩
 f25:=⟨Tryz.f255.name,by decide,Tryz.func255.trans (congrArg some (by kernel_rfl))⟩
 f26:=⟨Tryz.f256.name,by decide,Tryz.func256.trans (congrArg some (by kernel_rfl))⟩
 f27:=⟨Tryz.f257.name,by decide,Tryz.func257.trans (congrArg some (by kernel_rfl))⟩
 f28:=Tryz.func237.trans (congrArg some (by kernel_rfl))
 f29:=Tryz.func238.trans (congrArg some (by kernel_rfl))
 f46:=⟨Tryz.f272.name,by decide,Tryz.func272.trans (congrArg some (by kernel_rfl))⟩
 f47:=Tryz.func259.trans (congrArg some (by kernel_rfl))
 f48:=Tryz.func260.trans (congrArg some (by kernel_rfl))
 f49:=⟨Tryz.f273.name,by decide,Tryz.func273.trans (congrArg some (by kernel_rfl))⟩
 f50:=⟨Tryz.f274.name,by decide,Tryz.func274.trans (congrArg some (by kernel_rfl))⟩
 f57:=⟨Tryz.f281.name,by decide,Tryz.func281.trans (congrArg some (by kernel_rfl))⟩
 t0:=Tryz.underlying0
 a0:=Tryz.isAgg0
 z0:=Tryz.sizeOf0
 v0:=Tryz.zeroValue0
 t3:=Tryz.underlying3
 a3:=Tryz.isAgg3
 z3:=Tryz.sizeOf3
 v3:=Tryz.zeroValue3
 t4:=Tryz.underlying4
 a4:=Tryz.isAgg4
 z4:=Tryz.sizeOf4
 v4:=Tryz.zeroValue4
 t5:=Tryz.underlying5
 a5:=Tryz.isAgg5
 z5:=Tryz.sizeOf5
 v5:=Tryz.zeroValue5
 t9:=Tryz.underlying9
 a9:=Tryz.isAgg9
 z9:=Tryz.sizeOf9
 v9:=Tryz.zeroValue9
 t22:=Tryz.underlying202
 a22:=Tryz.isAgg202
 z22:=Tryz.sizeOf202
 v22:=Tryz.zeroValue202
 t25:=Tryz.underlying270
 a25:=Tryz.isAgg270
 z25:=Tryz.sizeOf270
 v25:=Tryz.zeroValue270
 t39:=Tryz.underlying185
 a39:=Tryz.isAgg185
 z39:=Tryz.sizeOf185
 v39:=Tryz.zeroValue185
 t45:=Tryz.underlying296
 a45:=Tryz.isAgg296
 z45:=Tryz.sizeOf296
 v45:=Tryz.zeroValue296
 t46:=Tryz.underlying297
 a46:=Tryz.isAgg297
 z46:=Tryz.sizeOf297
 v46:=Tryz.zeroValue297
 t50:=Tryz.underlying289
 a50:=Tryz.isAgg289
 z50:=Tryz.sizeOf289
 v50:=Tryz.zeroValue289
 t53:=Tryz.underlying183
 a53:=Tryz.isAgg183
 z53:=Tryz.sizeOf183
 v53:=Tryz.zeroValue183
 t55:=Tryz.underlying180
 a55:=Tryz.isAgg180
 z55:=Tryz.sizeOf180
 v55:=Tryz.zeroValue180
 t66:=Tryz.underlying317
 a66:=Tryz.isAgg317
 z66:=Tryz.sizeOf317
 v66:=Tryz.zeroValue317
 t70:=Tryz.underlying321
 a70:=Tryz.isAgg321
 z70:=Tryz.sizeOf321
 v70:=Tryz.zeroValue321
 t76:=Tryz.underlying331
 a76:=Tryz.isAgg331
 z76:=Tryz.sizeOf331
 v76:=Tryz.zeroValue331
 t77:=Tryz.underlying261
 a77:=Tryz.isAgg261
 z77:=Tryz.sizeOf261
 v77:=Tryz.zeroValue261 }
end Go.Proofs
namespace Go.Proofs.YtdijhifdjbnkfaaGreat.EV
open Go Go.Shelf Go.RowKit MM EM Go.Sort
theorem ZoA (s:ByteArray) (w:World):Calls Tryz.prog 227 #[.string s] w fun e w'=>e=.returned (.bool false)∧w=w':=by
 have h:(s.toList != s.toList)=false:=by simp
 go_enter Tryz.func227,Tryz.ntmps227
 go_wp2_with fail
 go_ret
 exact ⟨rfl,rfl⟩
def cmpL (a b:List UInt8):Int:=if Znl a b=true then -1 else if Znl b a=true then 1 else 0
theorem Zfj (a b:List UInt8):(Znl a b=true∧cmpL a b = -1)∨(Znl a b=false∧a=b∧cmpL a b=0)∨(Znl a b=false∧a≠b∧cmpL a b=1):=by
 unfold cmpL
 by_cases h:Znl a b=true
 ·exact .inl ⟨h,by rw [if_pos h]⟩
 ·have h0:Znl a b=false:=by simpa using h
  by_cases e:a=b
  ·subst e
   exact .inr (.inl ⟨h0,rfl,by rw [if_neg h,if_neg h]⟩)
  ·exact .inr (.inr ⟨h0,e,by rw [if_neg h,if_pos (Znr h0 e)]⟩)
theorem Zfk (a b:List UInt8) (w:World):Calls Tryz.prog 185 #[.string ⟨a.toArray⟩,.string ⟨b.toArray⟩] w fun e w'=>e=.returned (.int .i64 (cmpL a b))∧w=w':=by
 have HN1:=Lib.hid (ZoA ⟨a.toArray⟩ w)
 have HN2:=Lib.hid (ZoA ⟨b.toArray⟩ w)
 have s1:=Zvq a b
 rcases Zfj a b with ⟨h1,h2⟩ | ⟨h1,h3,h2⟩ | ⟨h1,h3,h2⟩
 all_goals
  rw [h2]
  have hb:=Znt a b
  rw [h1] at hb
 ·clear s1 h2 h1
  go_enter Tryz.func185,Tryz.ntmps185
  go_wp2_with fail
  refine HN1.out.mono ?_
  rintro e w2 ⟨rfl,rfl⟩
  go_wp2_with fail
  refine HN2.out.mono ?_
  rintro e w2 ⟨rfl,rfl⟩
  go_wp2_with fail
  go_ret
  exact ⟨rfl,rfl⟩
 ·rw [decide_eq_true h3] at s1
  have s3:(a == b)=true:=by rw [beq_iff_eq];exact h3
  clear h3 h2 h1
  go_enter Tryz.func185,Tryz.ntmps185
  go_wp2_with fail
  refine HN1.out.mono ?_
  rintro e w2 ⟨rfl,rfl⟩
  go_wp2_with fail
  refine HN2.out.mono ?_
  rintro e w2 ⟨rfl,rfl⟩
  go_wp2_with fail
  go_ret
  exact ⟨rfl,rfl⟩
 ·rw [decide_eq_false h3] at s1
  have s3:(a == b)=false:=by rw [beq_eq_false_iff_ne];exact h3
  clear h3 h2 h1
  go_enter Tryz.func185,Tryz.ntmps185
  go_wp2_with fail
  refine HN1.out.mono ?_
  rintro e w2 ⟨rfl,rfl⟩
  go_wp2_with fail
  refine HN2.out.mono ?_
  rintro e w2 ⟨rfl,rfl⟩
  go_wp2_with fail
  go_ret
  exact ⟨rfl,rfl⟩
abbrev Zak:={v:Value // v.oneCell'=true}
abbrev Zbu:=List UInt8×Zak
instance instTCell:Inhabited Zbu:=⟨([],⟨.slice none 0 0,rfl⟩)⟩
def encT (x:Zbu):List Value:=[.string ⟨x.1.toArray⟩,x.2.1]
def cfT (x y:Zbu):Int:=cmpL x.1 y.1
theorem ltT (x y:Zbu):ltOf cfT x y=Znl x.1 y.1:=by
 unfold ltOf cfT
 rcases Zfj x.1 y.1 with ⟨h1,h2⟩ | ⟨h1,h3,h2⟩ | ⟨h1,h3,h2⟩<;>rw [h1,h2]<;>rfl
theorem swoT:SWO (ltOf cfT) where
 irrefl x:=by rw [ltT];exact Znp _
 trans x y z h1 h2:=by rw [ltT] at *;exact Zns h1 h2
 ntrans x y z h1 h2:=by
  rw [ltT] at *
  cases h:Znl x.1 z.1 with
  | false=>rfl
  | true =>
    by_cases e:x.1=y.1
    ·rw [e] at h;rw [h] at h2;cases h2
    ·have h3:=Zns (Znr h1 e) h
     rw [h3] at h2;cases h2
theorem Zff (a b:List UInt8) (u v:Value) (hu:u.oneCell'=true) (hv:v.oneCell'=true) (W:World):Calls Tryz.prog 184 #[.agg #[.string ⟨a.toArray⟩,u],.agg #[.string ⟨b.toArray⟩,v]] W fun e w'=>e=.returned (.int .i64 (cmpL a b))∧∃ q os',w'=grow (W.drewN q) os':=by
 have HC:=Lib.hid (fun W'=>Zfk a b W')
 generalize cmpL a b=r at *
 go_enter Tryz.func184,Tryz.ntmps184
 go_wp2_with fail
 refine (HC.out _).mono ?_
 rintro e w2 ⟨rfl,rfl⟩
 go_wp2_with fail
 go_ret
 exact ⟨rfl,0,_,by rw [alloc_eq_grow,alloc_eq_grow,grow_grow];rfl⟩
def Zal (w:World) (g:Nat) (d:List Zbu):Prop:=∀ i (h:i<d.length),w.cell? ⟨g,i*2,none⟩=some (.string ⟨d[i].1.toArray⟩)∧w.cell? ⟨g,i*2+1,none⟩=some d[i].2.1
theorem ZlO {w:World} {g:Nat} {d:List Zbu} (h:Zal w g d) (hf:∀ j,w.frozen? ⟨g,j,none⟩=false):HoldsK encT 2 w g 0 d.toArray:=by
 intro j hj
 rw [size_flatK] at hj
 have hj2:j<d.length*2:=by simpa using hj
 refine ⟨?_,hf _⟩
 rw [get_flatK _ _ _ _ hj,Nat.zero_add]
 have hi:j / 2<d.length:=by omega
 have e:d.toArray[j / 2]! = d[j / 2]:=by rw [getElem!_pos d.toArray (j / 2) (by simpa using hi)];simp
 rw [e]
 rcases (by omega:j%2=0∨j%2=1) with h2 | h2
 ·rw [h2]
  have hjj:j=j / 2*2:=by omega
  rw [show (⟨g,j,none⟩:Addr)=⟨g,j / 2*2,none⟩ by rw [← hjj]]
  exact (h _ hi).1
 ·rw [h2]
  have hjj:j=j / 2*2+1:=by omega
  rw [show (⟨g,j,none⟩:Addr)=⟨g,j / 2*2+1,none⟩ by rw [← hjj]]
  exact (h _ hi).2
theorem Zev {w:World} {g:Nat} {d:Array Zbu} (h:HoldsK encT 2 w g 0 d):Zal w g d.toList:=fun i hi=>by
 have hi2:i<d.size:=by simpa using hi
 have h0:=(h.cell hi2 (c:=0) (by omega)).1
 have h1:=(h.cell hi2 (c:=1) (by omega)).1
 rw [Nat.zero_add,Nat.add_zero] at h0
 rw [Nat.zero_add] at h1
 rw [getElem!_pos d i hi2] at h0 h1
 exact ⟨by simpa [encT] using h0,by simpa [encT] using h1⟩
theorem Zwb (g cap:Nat) (d:List Zbu) (w:World) (hc:Zal w g d) (hf:∀ j,w.frozen? ⟨g,j,none⟩=false) (hg:g<w.heap.size) (hsz:d.length<4611686018427387904) :
  Calls Tryz.prog 183 #[.slice (some ⟨g,0,none⟩) d.length cap,.func (.func 184) #[] #[]] w fun e w'=>e=.returned (.tuple #[])∧∃ d':List Zbu,d'.Perm d∧d'.Pairwise (fun x y=>Znl y.1 x.1=false)∧Zal w' g d'∧Kep (fun k=>k≠g) w w':=by
 have eg:∀ args w,(callFunc 184 args).run Tryz.prog w=.ok (.enter 184 args) w:=enters_of Tryz.func184 (by kernel_rfl) rfl
 have hcmp:CmpLays Tryz.prog 184 #[] encT 2 cfT g 0 d.toArray.size w:=fun _ _ _ _ x y=>Zff x.1 y.1 x.2.1 y.2.1 x.2.2 y.2.2 _
 have hH:=ZlO hc hf
 have:=AnyQ.slices_SortFunc Tryz.sortTerm 2 Tryz.isAgg204 Tryz.sizeOf204 encT (fun _=>rfl) (fun x v hv=>by
  simp only [encT,List.mem_cons,List.not_mem_nil,or_false] at hv
  rcases hv with rfl | rfl
  ·rfl
  ·exact x.2.2) cfT swoT 184 #[] g 0 cap d.toArray w eg hcmp hH hg (by simpa using hsz)
 rw [List.size_toArray] at this
 refine this.mono ?_
 rintro e w' ⟨rfl,d',n,os,⟨hs,_,hp⟩,hsort,rfl⟩
 have hs2:d'.size=d.length:=by simpa using hs
 have hp2:d'.toList.Perm d:=by
  have e1:d'.extract 0 d.length=d':=by rw [← hs2];exact Array.extract_size
  have e2:d.toArray.extract 0 d.length=d.toArray:=by rw [show d.length=d.toArray.size by simp];exact Array.extract_size
  rw [e1,e2] at hp
  simpa using hp
 refine ⟨rfl,d'.toList,hp2,?_,?_,?_⟩
 ·rw [List.pairwise_iff_getElem]
  intro i j hi hj hij
  have hi2:i<d'.size:=by simpa using hi
  have hj2:j<d'.size:=by simpa using hj
  have:=hsort i j (Nat.zero_le _) hij (by omega)
  rw [ltT,getElem!_pos d' i hi2,getElem!_pos d' j hj2] at this
  simpa using this
 ·have h1:=holdsK_putRowK encT 2 (Sort.ahead w n) g 0 d.toArray d' (holdsK_ahead encT 2 w n g 0 _ hH) (by rw [hs2];simp)
  exact Zev (holdsK_grow encT 2 _ os g 0 d' (by show g<(putRow id _ g 0 _).heap.size;rw [size_putRow];exact hg) h1)
 ·refine ⟨rfl,rfl,rfl,?_,fun k hk hne => ?_⟩
  ·show w.heap.size≤(grow (putRow id _ g 0 _) os).heap.size
   rw [size_grow,size_putRow]
   exact Nat.le_add_right _ _
  ·have e1:(grow (putRowK encT 2 (Sort.ahead w n) g 0 d') os).heap[k]? = (putRowK encT 2 (Sort.ahead w n) g 0 d').heap[k]? := by
    show ((putRowK encT 2 (Sort.ahead w n) g 0 d').heap++os)[k]? = _
    rw [Array.getElem?_append_left (by show k<(putRow id _ g 0 _).heap.size;rw [size_putRow];exact hk)]
   refine e1.trans ?_
   show ((Sort.ahead w n).heap.modify g _)[k]? = _
   rw [Array.getElem?_modify,if_neg (fun e=>hne e.symm)]
   rfl
end Go.Proofs.YtdijhifdjbnkfaaGreat.EV
