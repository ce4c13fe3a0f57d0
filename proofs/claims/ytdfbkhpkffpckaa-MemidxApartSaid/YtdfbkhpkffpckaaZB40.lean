import Derived.Shelf.SlSortCmp.WholeK
import Derived.Laws.Cover1
import Derived.Test.YtdfbkhpkffpckaaZB11
import Derived.Test.YtdfbkhpkffpckaaZB5
import Derived.Test.YtdfbkhpkffpckaaZB18
set_option maxRecDepth 100000
set_option maxHeartbeats 8000000
set_option linter.unusedVariables false
set_option linter.unusedSimpArgs false
namespace Go.Proofs
open Go.Shelf
def Try.sortTerm_ren:Go.Shelf.Ren:=⟨fun | 6=>43 | 15=>83 | 14=>82 | 28=>112 | 29=>113 | 20=>104 | 21=>105 | 22=>106 | 23=>107 | 24=>108 | 25=>109 | 26=>110 | 27=>111 | 46=>122 | 47=>123 | 48=>124 | 49=>125 | 50=>126 | 57=>132 | n=>n,fun | 22=>35 | 24=>40 | 25=>98 | 3=>3 | 39=>144 | 0=>0 | 53=>169 | 55=>126 | 4=>4 | 46=>162 | 45=>161 | 50=>166 | 5=>5 | 9=>9 | 66=>175 | 70=>179 | 76=>186 | 77=>115 | n=>n,fun | n=>n⟩
theorem Try.sortTerm:Go.Proofs.SlLaysF0.n6 Try.prog Try.sortTerm_ren:={
 mixed:=by kernel_rfl
 f6:=⟨Try.f43.name,by decide,Try.func43.trans (congrArg some (by kernel_rfl))⟩
 f14:=⟨Try.f82.name,by decide,Try.func82.trans (congrArg some (by kernel_rfl))⟩
 f15:=Try.func83.trans (congrArg some (by kernel_rfl))
 f20:=⟨Try.f104.name,by decide,Try.func104.trans (congrArg some (by kernel_rfl))⟩
 f21:=⟨Try.f105.name,by decide,Try.func105.trans (congrArg some (by kernel_rfl))⟩
 f22:=⟨Try.f106.name,by decide,Try.func106.trans (congrArg some (by kernel_rfl))⟩
 f23:=⟨Try.f107.name,by decide,Try.func107.trans (congrArg some (by kernel_rfl))⟩
 f24:=⟨Try.f108.name,by decide,Try.func108.trans (congrArg some (by kernel_rfl))⟩
 f25:=⟨Try.f109.name,by decide,Try.func109.trans (congrArg some (by kernel_rfl))⟩
 f26:=⟨Try.f110.name,by decide,Try.func110.trans (congrArg some (by kernel_rfl))⟩
 f27:=⟨Try.f111.name,by decide,Try.func111.trans (congrArg some (by kernel_rfl))⟩
 f28:=Try.func112.trans (congrArg some (by kernel_rfl))
 f29:=Try.func113.trans (congrArg some (by kernel_rfl))
 f46:=⟨Try.f122.name,by decide,Try.func122.trans (congrArg some (by kernel_rfl))⟩
 f47:=Try.func123.trans (congrArg some (by kernel_rfl))
 f48:=Try.func124.trans (congrArg some (by kernel_rfl))
 f49:=⟨Try.f125.name,by decide,Try.func125.trans (congrArg some (by kernel_rfl))⟩
 f50:=⟨Try.f126.name,by decide,Try.func126.trans (congrArg some (by kernel_rfl))⟩
 f57:=⟨Try.f132.name,by decide,Try.func132.trans (congrArg some (by kernel_rfl))⟩
 t0:=Try.underlying0
 a0:=Try.isAgg0
 z0:=Try.sizeOf0
 v0:=Try.zeroValue0
 t3:=Try.underlying3
 a3:=Try.isAgg3
 z3:=Try.sizeOf3
 v3:=Try.zeroValue3
 t4:=Try.underlying4
 a4:=Try.isAgg4
 z4:=Try.sizeOf4
 v4:=Try.zeroValue4
 t5:=Try.underlying5
 a5:=Try.isAgg5
 z5:=Try.sizeOf5
 v5:=Try.zeroValue5
 t9:=Try.underlying9
 a9:=Try.isAgg9
 z9:=Try.sizeOf9
 v9:=Try.zeroValue9
 t22:=Try.underlying35
 a22:=Try.isAgg35
 z22:=Try.sizeOf35
 v22:=Try.zeroValue35
 t25:=Try.underlying98
 a25:=Try.isAgg98
 z25:=Try.sizeOf98
 v25:=Try.zeroValue98
 t39:=Try.underlying144
 a39:=Try.isAgg144
 z39:=Try.sizeOf144
 v39:=Try.zeroValue144
 t45:=Try.underlying161
 a45:=Try.isAgg161
 z45:=Try.sizeOf161
 v45:=Try.zeroValue161
 t46:=Try.underlying162
 a46:=Try.isAgg162
 z46:=Try.sizeOf162
 v46:=Try.zeroValue162
 t50:=Try.underlying166
 a50:=Try.isAgg166
 z50:=Try.sizeOf166
 v50:=Try.zeroValue166
 t53:=Try.underlying169
 a53:=Try.isAgg169
 z53:=Try.sizeOf169
 v53:=Try.zeroValue169
 t55:=Try.underlying126
 a55:=Try.isAgg126
 z55:=Try.sizeOf126
 v55:=Try.zeroValue126
 t66:=Try.underlying175
 a66:=Try.isAgg175
 z66:=Try.sizeOf175
 v66:=Try.zeroValue175
 t70:=Try.underlying179
 a70:=Try.isAgg179
 z70:=Try.sizeOf179
 v70:=Try.zeroValue179
 t76:=Try.underlying186
 a76:=Try.isAgg186
 z76:=Try.sizeOf186
 v76:=Try.zeroValue186
 t77:=Try.underlying115
 a77:=Try.isAgg115
 z77:=Try.sizeOf115
 v77:=Try.zeroValue115 }
end Go.Proofs
namespace Go.Proofs.Ytdfbkhpkffpckaa.EV
open Go Go.Shelf Go.RowKit MM EM Go.Sort
theorem nan_any (s:ByteArray) (w:World):Calls Try.prog 84 #[.string s] w fun e w'=>e=.returned (.bool false)∧w=w':=by
 have h:(s.toList != s.toList)=false:=by simp
 go_enter Try.func84,Try.ntmps84
 go_wp2_with fail
 go_ret
 exact ⟨rfl,rfl⟩
def cmpL (a b:List UInt8):Int:=if lessL a b=true then -1 else if lessL b a=true then 1 else 0
theorem cmpL_cases (a b:List UInt8):(lessL a b=true∧cmpL a b = -1)∨(lessL a b=false∧a=b∧cmpL a b=0)∨(lessL a b=false∧a≠b∧cmpL a b=1):=by
 unfold cmpL
 by_cases h:lessL a b=true
 ·exact .inl ⟨h,by rw [if_pos h]⟩
 ·have h0:lessL a b=false:=by simpa using h
  by_cases e:a=b
  ·subst e
   exact .inr (.inl ⟨h0,rfl,by rw [if_neg h,if_neg h]⟩)
  ·exact .inr (.inr ⟨h0,e,by rw [if_neg h,if_pos (lessL_total h0 e)]⟩)
theorem cmp_any (a b:List UInt8) (w:World):Calls Try.prog 45 #[.string ⟨a.toArray⟩,.string ⟨b.toArray⟩] w fun e w'=>e=.returned (.int .i64 (cmpL a b))∧w=w':=by
 have HN1:=Lib.hid (nan_any ⟨a.toArray⟩ w)
 have HN2:=Lib.hid (nan_any ⟨b.toArray⟩ w)
 have s1:=same_list a b
 rcases cmpL_cases a b with ⟨h1,h2⟩ | ⟨h1,h3,h2⟩ | ⟨h1,h3,h2⟩
 all_goals
  rw [h2]
  have hb:=less_bytes a b
  rw [h1] at hb
 ·clear s1 h2 h1
  go_enter Try.func45,Try.ntmps45
  go_wp2_with fail
  refine HN1.out.mono ?_
  rintro e w2 ⟨rfl,rfl⟩
  go_wp2_with fail
  refine HN2.out.mono ?_
  rintro e w2 ⟨rfl,rfl⟩
  go_wp2_with fail
  go_ret
  exact ⟨rfl,rfl⟩
 ·rw [decide_eq_true h3] at s1
  have s3:(a == b)=true:=by rw [beq_iff_eq];exact h3
  clear h3 h2 h1
  go_enter Try.func45,Try.ntmps45
  go_wp2_with fail
  refine HN1.out.mono ?_
  rintro e w2 ⟨rfl,rfl⟩
  go_wp2_with fail
  refine HN2.out.mono ?_
  rintro e w2 ⟨rfl,rfl⟩
  go_wp2_with fail
  go_ret
  exact ⟨rfl,rfl⟩
 ·rw [decide_eq_false h3] at s1
  have s3:(a == b)=false:=by rw [beq_eq_false_iff_ne];exact h3
  clear h3 h2 h1
  go_enter Try.func45,Try.ntmps45
  go_wp2_with fail
  refine HN1.out.mono ?_
  rintro e w2 ⟨rfl,rfl⟩
  go_wp2_with fail
  refine HN2.out.mono ?_
  rintro e w2 ⟨rfl,rfl⟩
  go_wp2_with fail
  go_ret
  exact ⟨rfl,rfl⟩
abbrev Cell1:={v:Value // v.oneCell'=true}
abbrev TCell:=List UInt8×Cell1
instance instTCell:Inhabited TCell:=⟨([],⟨.slice none 0 0,rfl⟩)⟩
def encT (x:TCell):List Value:=[.string ⟨x.1.toArray⟩,x.2.1]
def cfT (x y:TCell):Int:=cmpL x.1 y.1
theorem ltT (x y:TCell):ltOf cfT x y=lessL x.1 y.1:=by
 unfold ltOf cfT
 rcases cmpL_cases x.1 y.1 with ⟨h1,h2⟩ | ⟨h1,h3,h2⟩ | ⟨h1,h3,h2⟩<;>rw [h1,h2]<;>rfl
theorem swoT:SWO (ltOf cfT) where
 irrefl x:=by rw [ltT];exact lessL_irr _
 trans x y z h1 h2:=by rw [ltT] at *;exact lessL_trans h1 h2
 ntrans x y z h1 h2:=by
  rw [ltT] at *
  cases h:lessL x.1 z.1 with
  | false=>rfl
  | true =>
    by_cases e:x.1=y.1
    ·rw [e] at h;rw [h] at h2;cases h2
    ·have h3:=lessL_trans (lessL_total h1 e) h
     rw [h3] at h2;cases h2
theorem clo_any (a b:List UInt8) (u v:Value) (hu:u.oneCell'=true) (hv:v.oneCell'=true) (W:World):Calls Try.prog 44 #[.agg #[.string ⟨a.toArray⟩,u],.agg #[.string ⟨b.toArray⟩,v]] W fun e w'=>e=.returned (.int .i64 (cmpL a b))∧∃ q os',w'=grow (W.drewN q) os':=by
 have HC:=Lib.hid (fun W'=>cmp_any a b W')
 generalize cmpL a b=r at *
 go_enter Try.func44,Try.ntmps44
 go_wp2_with fail
 refine (HC.out _).mono ?_
 rintro e w2 ⟨rfl,rfl⟩
 go_wp2_with fail
 go_ret
 exact ⟨rfl,0,_,by rw [alloc_eq_grow,alloc_eq_grow,grow_grow];rfl⟩
def CellsT (w:World) (g:Nat) (d:List TCell):Prop:=∀ i (h:i<d.length),w.cell? ⟨g,i*2,none⟩=some (.string ⟨d[i].1.toArray⟩)∧w.cell? ⟨g,i*2+1,none⟩=some d[i].2.1
theorem holds_of {w:World} {g:Nat} {d:List TCell} (h:CellsT w g d) (hf:∀ j,w.frozen? ⟨g,j,none⟩=false):HoldsK encT 2 w g 0 d.toArray:=by
 intro j hj
 rw [size_flatK] at hj
 have hj2:j<d.length*2:=by simpa using hj
 refine ⟨?_,hf _⟩
 rw [get_flatK _ _ _ _ hj,Nat.zero_add]
 have hi:j / 2<d.length:=by omega
 have e:d.toArray[j / 2]! = d[j / 2]:=by rw [getElem!_pos d.toArray (j / 2) (by simpa using hi)];simp
 rw [e]
 rcases (by omega:j%2=0∨j%2=1) with h2 | h2
 ·rw [h2]
  have hjj:j=j / 2*2:=by omega
  rw [show (⟨g,j,none⟩:Addr)=⟨g,j / 2*2,none⟩ by rw [← hjj]]
  exact (h _ hi).1
 ·rw [h2]
  have hjj:j=j / 2*2+1:=by omega
  rw [show (⟨g,j,none⟩:Addr)=⟨g,j / 2*2+1,none⟩ by rw [← hjj]]
  exact (h _ hi).2
theorem cells_of_holds {w:World} {g:Nat} {d:Array TCell} (h:HoldsK encT 2 w g 0 d):CellsT w g d.toList:=fun i hi=>by
 have hi2:i<d.size:=by simpa using hi
 have h0:=(h.cell hi2 (c:=0) (by omega)).1
 have h1:=(h.cell hi2 (c:=1) (by omega)).1
 rw [Nat.zero_add,Nat.add_zero] at h0
 rw [Nat.zero_add] at h1
 rw [getElem!_pos d i hi2] at h0 h1
 exact ⟨by simpa [encT] using h0,by simpa [encT] using h1⟩
theorem sort_any (g cap:Nat) (d:List TCell) (w:World) (hc:CellsT w g d) (hf:∀ j,w.frozen? ⟨g,j,none⟩=false) (hg:g<w.heap.size) (hsz:d.length<4611686018427387904) :
  Calls Try.prog 43 #[.slice (some ⟨g,0,none⟩) d.length cap,.func (.func 44) #[] #[]] w fun e w'=>e=.returned (.tuple #[])∧∃ d':List TCell,d'.Perm d∧d'.Pairwise (fun x y=>lessL y.1 x.1=false)∧CellsT w' g d'∧Kep (fun k=>k≠g) w w':=by
 have eg:∀ args w,(callFunc 44 args).run Try.prog w=.ok (.enter 44 args) w:=enters_of Try.func44 (by kernel_rfl) rfl
 have hcmp:CmpLays Try.prog 44 #[] encT 2 cfT g 0 d.toArray.size w:=fun _ _ _ _ x y=>clo_any x.1 y.1 x.2.1 y.2.1 x.2.2 y.2.2 _
 have hH:=holds_of hc hf
 have:=AnyQ.slices_SortFunc Try.sortTerm 2 Try.isAgg40 Try.sizeOf40 encT (fun _=>rfl) (fun x v hv=>by
  simp only [encT,List.mem_cons,List.not_mem_nil,or_false] at hv
  rcases hv with rfl | rfl
  ·rfl
  ·exact x.2.2) cfT swoT 44 #[] g 0 cap d.toArray w eg hcmp hH hg (by simpa using hsz)
 rw [List.size_toArray] at this
 refine this.mono ?_
 rintro e w' ⟨rfl,d',n,os,⟨hs,_,hp⟩,hsort,rfl⟩
 have hs2:d'.size=d.length:=by simpa using hs
 have hp2:d'.toList.Perm d:=by
  have e1:d'.extract 0 d.length=d':=by rw [← hs2];exact Array.extract_size
  have e2:d.toArray.extract 0 d.length=d.toArray:=by rw [show d.length=d.toArray.size by simp];exact Array.extract_size
  rw [e1,e2] at hp
  simpa using hp
 refine ⟨rfl,d'.toList,hp2,?_,?_,?_⟩
 ·rw [List.pairwise_iff_getElem]
  intro i j hi hj hij
  have hi2:i<d'.size:=by simpa using hi
  have hj2:j<d'.size:=by simpa using hj
  have:=hsort i j (Nat.zero_le _) hij (by omega)
  rw [ltT,getElem!_pos d' i hi2,getElem!_pos d' j hj2] at this
  simpa using this
 ·have h1:=holdsK_putRowK encT 2 (Sort.ahead w n) g 0 d.toArray d' (holdsK_ahead encT 2 w n g 0 _ hH) (by rw [hs2];simp)
  exact cells_of_holds (holdsK_grow encT 2 _ os g 0 d' (by show g<(putRow id _ g 0 _).heap.size;rw [size_putRow];exact hg) h1)
 ·refine ⟨rfl,rfl,rfl,?_,fun k hk hne => ?_⟩
  ·show w.heap.size≤(grow (putRow id _ g 0 _) os).heap.size
   rw [size_grow,size_putRow]
   exact Nat.le_add_right _ _
  ·have e1:(grow (putRowK encT 2 (Sort.ahead w n) g 0 d') os).heap[k]? = (putRowK encT 2 (Sort.ahead w n) g 0 d').heap[k]? := by
    show ((putRowK encT 2 (Sort.ahead w n) g 0 d').heap++os)[k]? = _
    rw [Array.getElem?_append_left (by show k<(putRow id _ g 0 _).heap.size;rw [size_putRow];exact hk)]
   refine e1.trans ?_
   show ((Sort.ahead w n).heap.modify g _)[k]? = _
   rw [Array.getElem?_modify,if_neg (fun e=>hne e.symm)]
   rfl
end Go.Proofs.Ytdfbkhpkffpckaa.EV
