import Derived.Shelf.SlSortCmp.WholeK
import Derived.Laws.Cover1
import Derived.Test.YtidhgicajlaafaaGreatZD10
set_option maxRecDepth 100000
set_option maxHeartbeats 8000000
set_option linter.unusedVariables false
set_option linter.unusedSimpArgs false
namespace Go.Proofs
open Go.Shelf
def Tryz.sortTerm_ren:Go.Shelf.Ren:=⟨fun | 6=>85 | 15=>74 | 14=>108 | 28=>98 | 29=>99 | 20=>130 | 21=>131 | 22=>132 | 23=>133 | 24=>134 | 25=>135 | 26=>136 | 27=>137 | 46=>147 | 47=>111 | 48=>112 | 49=>148 | 50=>149 | 57=>154 | n=>n,fun | 22=>118 | 24=>120 | 25=>138 | 3=>3 | 39=>125 | 0=>0 | 53=>150 | 55=>152 | 4=>4 | 46=>142 | 45=>141 | 50=>147 | 5=>5 | 9=>9 | 66=>159 | 70=>163 | 76=>181 | 77=>64 | n=>n,fun | n=>n⟩
theorem Tryz.sortTerm:Go.Proofs.SlLaysF0.n6 Tryz.prog Tryz.sortTerm_ren:={
 mixed:=by kernel_rfl
 f6:=⟨Tryz.f85.name,by decide,Tryz.func85.trans (congrArg some (by kernel_rfl))⟩
 f14:=⟨Tryz.f108.name,by decide,Tryz.func108.trans (congrArg some (by kernel_rfl))⟩
 f15:=Tryz.func74.trans (congrArg some (by kernel_rfl))
 f20:=⟨Tryz.f130.name,by decide,Tryz.func130.trans (congrArg some (by kernel_rfl))⟩
 f21:=⟨Tryz.f131.name,by decide,Tryz.func131.trans (congrArg some (by kernel_rfl))⟩
 f22:=⟨Tryz.f132.name,by decide,Tryz.func132.trans (congrArg some (by kernel_rfl))⟩
 f23:=⟨Tryz.f133.name,by decide,Tryz.func133.trans (congrArg some (by kernel_rfl))⟩
 f24:=⟨Tryz.f134.name,by decide,Tryz.func134.trans (congrArg some (by kernel_rfl))⟩
 f25:=⟨Tryz.f135.name,by decide,Tryz.func135.trans (congrArg some (by kernel_rfl))⟩
 f26:=⟨Tryz.f136.name,by decide,Tryz.func136.trans (congrArg some (by kernel_rfl))⟩
 f27:=⟨Tryz.f137.name,by decide,Tryz.func137.trans (congrArg some (by kernel_rfl))⟩
 f28:=Tryz.func98.trans (congrArg some (by kernel_rfl))
 f29:=Tryz.func99.trans (congrArg some (by kernel_rfl))
 f46:=⟨Tryz.f147.name,by decide,Tryz.func147.trans (congrArg some (by kernel_rfl))⟩
 f47:=Tryz.func111.trans (congrArg some (by kernel_rfl))
 f48:=Tryz.func112.trans (congrArg some (by kernel_rfl))
 f49:=⟨Tryz.f148.name,by decide,Tryz.func148.trans (congrArg some (by kernel_rfl))⟩
 f50:=⟨Tryz.f149.name,by decide,Tryz.func149.trans (congrArg some (by kernel_rfl))⟩
 f57:=⟨Tryz.f154.name,by decide,Tryz.func154.trans (congrArg some (by kernel_rfl))⟩
 t0:=Tryz.underlying0
 a0:=Tryz.isAgg0
 z0:=Tryz.sizeOf0
 v0:=Tryz.zeroValue0
 t3:=Tryz.underlying3
 a3:=Tryz.isAgg3
 z3:=Tryz.sizeOf3
 v3:=Tryz.zeroValue3
 t4:=Tryz.underlying4
 a4:=Tryz.isAgg4
 z4:=Tryz.sizeOf4
 v4:=Tryz.zeroValue4
 t5:=Tryz.underlying5
 a5:=Tryz.isAgg5
 z5:=Tryz.sizeOf5
 v5:=Tryz.zeroValue5
 t9:=Tryz.underlying9
 a9:=Tryz.isAgg9
 z9:=Tryz.sizeOf9
 v9:=Tryz.zeroValue9
 t22:=Tryz.underlying118
 a22:=Tryz.isAgg118
 z22:=Tryz.sizeOf118
 v22:=Tryz.zeroValue118
 t25:=Tryz.underlying138
 a25:=Tryz.isAgg138
 z25:=Tryz.sizeOf138
 v25:=Tryz.zeroValue138
 t39:=Tryz.underlying125
 a39:=Tryz.isAgg125
 z39:=Tryz.sizeOf125
 v39:=Tryz.zeroValue125
 t45:=Tryz.underlying141
 a45:=Tryz.isAgg141
 z45:=Tryz.sizeOf141
 v45:=Tryz.zeroValue141
 t46:=Tryz.underlying142
 a46:=Tryz.isAgg142
 z46:=Tryz.sizeOf142
 v46:=Tryz.zeroValue142
 t50:=Tryz.underlying147
 a50:=Tryz.isAgg147
 z50:=Tryz.sizeOf147
 v50:=Tryz.zeroValue147
 t53:=Tryz.underlying150
 a53:=Tryz.isAgg150
 z53:=Tryz.sizeOf150
 v53:=Tryz.zeroValue150
 t55:=Tryz.underlying152
 a55:=Tryz.isAgg152
 z55:=Tryz.sizeOf152
 v55:=Tryz.zeroValue152
 t66:=Tryz.underlying159
 a66:=Tryz.isAgg159
 z66:=Tryz.sizeOf159
 v66:=Tryz.zeroValue159
 t70:=Tryz.underlying163
 a70:=Tryz.isAgg163
 z70:=Tryz.sizeOf163
 v70:=Tryz.zeroValue163
 t76:=Tryz.underlying181
 a76:=Tryz.isAgg181
 z76:=Tryz.sizeOf181
 v76:=Tryz.zeroValue181
 t77:=Tryz.underlying64
 a77:=Tryz.isAgg64
 z77:=Tryz.sizeOf64
 v77:=Tryz.zeroValue64 }
end Go.Proofs
namespace Go.Proofs.YtidhgicajlaafaaGreat.EV
open Go Go.Shelf Go.RowKit MM EM Go.Sort
theorem nan_any (s:ByteArray) (w:World):Calls Tryz.prog 109 #[.string s] w fun e w'=>e=.returned (.bool false)∧w=w':=by
 have h:(s.toList != s.toList)=false:=by simp
 go_enter Tryz.func109,Tryz.ntmps109
 go_wp2_with fail
 go_ret
 exact ⟨rfl,rfl⟩
def cmpL (a b:List UInt8):Int:=if lessL a b=true then -1 else if lessL b a=true then 1 else 0
theorem cmpL_cases (a b:List UInt8):(lessL a b=true∧cmpL a b = -1)∨(lessL a b=false∧a=b∧cmpL a b=0)∨(lessL a b=false∧a≠b∧cmpL a b=1):=by
 unfold cmpL
 by_cases h:lessL a b=true
 ·exact .inl ⟨h,by rw [if_pos h]⟩
 ·have h0:lessL a b=false:=by simpa using h
  by_cases e:a=b
  ·subst e
   exact .inr (.inl ⟨h0,rfl,by rw [if_neg h,if_neg h]⟩)
  ·exact .inr (.inr ⟨h0,e,by rw [if_neg h,if_pos (lessL_total h0 e)]⟩)
theorem cmp_any (a b:List UInt8) (w:World):Calls Tryz.prog 87 #[.string ⟨a.toArray⟩,.string ⟨b.toArray⟩] w fun e w'=>e=.returned (.int .i64 (cmpL a b))∧w=w':=by
 have HN1:=Lib.hid (nan_any ⟨a.toArray⟩ w)
 have HN2:=Lib.hid (nan_any ⟨b.toArray⟩ w)
 have s1:=same_list a b
 rcases cmpL_cases a b with ⟨h1,h2⟩ | ⟨h1,h3,h2⟩ | ⟨h1,h3,h2⟩
 all_goals
  rw [h2]
  have hb:=less_bytes a b
  rw [h1] at hb
 ·clear s1 h2 h1
  go_enter Tryz.func87,Tryz.ntmps87
  go_wp2_with fail
  refine HN1.out.mono ?_
  rintro e w2 ⟨rfl,rfl⟩
  go_wp2_with fail
  refine HN2.out.mono ?_
  rintro e w2 ⟨rfl,rfl⟩
  go_wp2_with fail
  go_ret
  exact ⟨rfl,rfl⟩
 ·rw [decide_eq_true h3] at s1
  have s3:(a == b)=true:=by rw [beq_iff_eq];exact h3
  clear h3 h2 h1
  go_enter Tryz.func87,Tryz.ntmps87
  go_wp2_with fail
  refine HN1.out.mono ?_
  rintro e w2 ⟨rfl,rfl⟩
  go_wp2_with fail
  refine HN2.out.mono ?_
  rintro e w2 ⟨rfl,rfl⟩
  go_wp2_with fail
  go_ret
  exact ⟨rfl,rfl⟩
 ·rw [decide_eq_false h3] at s1
  have s3:(a == b)=false:=by rw [beq_eq_false_iff_ne];exact h3
  clear h3 h2 h1
  go_enter Tryz.func87,Tryz.ntmps87
  go_wp2_with fail
  refine HN1.out.mono ?_
  rintro e w2 ⟨rfl,rfl⟩
  go_wp2_with fail
  refine HN2.out.mono ?_
  rintro e w2 ⟨rfl,rfl⟩
  go_wp2_with fail
  go_ret
  exact ⟨rfl,rfl⟩
abbrev Cell1:={v:Value // v.oneCell'=true}
abbrev TCell:=List UInt8×Cell1
instance instTCell:Inhabited TCell:=⟨([],⟨.slice none 0 0,rfl⟩)⟩
def encT (x:TCell):List Value:=[.string ⟨x.1.toArray⟩,x.2.1]
def cfT (x y:TCell):Int:=cmpL x.1 y.1
theorem ltT (x y:TCell):ltOf cfT x y=lessL x.1 y.1:=by
 unfold ltOf cfT
 rcases cmpL_cases x.1 y.1 with ⟨h1,h2⟩ | ⟨h1,h3,h2⟩ | ⟨h1,h3,h2⟩<;>rw [h1,h2]<;>rfl
theorem swoT:SWO (ltOf cfT) where
 irrefl x:=by rw [ltT];exact lessL_irr _
 trans x y z h1 h2:=by rw [ltT] at *;exact lessL_trans h1 h2
 ntrans x y z h1 h2:=by
  rw [ltT] at *
  cases h:lessL x.1 z.1 with
  | false=>rfl
  | true =>
    by_cases e:x.1=y.1
    ·rw [e] at h;rw [h] at h2;cases h2
    ·have h3:=lessL_trans (lessL_total h1 e) h
     rw [h3] at h2;cases h2
theorem clo_any (a b:List UInt8) (u v:Value) (hu:u.oneCell'=true) (hv:v.oneCell'=true) (W:World):Calls Tryz.prog 86 #[.agg #[.string ⟨a.toArray⟩,u],.agg #[.string ⟨b.toArray⟩,v]] W fun e w'=>e=.returned (.int .i64 (cmpL a b))∧∃ q os',w'=grow (W.drewN q) os':=by
 have HC:=Lib.hid (fun W'=>cmp_any a b W')
 generalize cmpL a b=r at *
 go_enter Tryz.func86,Tryz.ntmps86
 go_wp2_with fail
 refine (HC.out _).mono ?_
 rintro e w2 ⟨rfl,rfl⟩
 go_wp2_with fail
 go_ret
 exact ⟨rfl,0,_,by rw [alloc_eq_grow,alloc_eq_grow,grow_grow];rfl⟩
def CellsT (w:World) (g:Nat) (d:List TCell):Prop:=∀ i (h:i<d.length),w.cell? ⟨g,i*2,none⟩=some (.string ⟨d[i].1.toArray⟩)∧w.cell? ⟨g,i*2+1,none⟩=some d[i].2.1
theorem holds_of {w:World} {g:Nat} {d:List TCell} (h:CellsT w g d) (hf:∀ j,w.frozen? ⟨g,j,none⟩=false):HoldsK encT 2 w g 0 d.toArray:=by
 intro j hj
 rw [size_flatK] at hj
 have hj2:j<d.length*2:=by simpa using hj
 refine ⟨?_,hf _⟩
 rw [get_flatK _ _ _ _ hj,Nat.zero_add]
 have hi:j / 2<d.length:=by omega
 have e:d.toArray[j / 2]! = d[j / 2]:=by rw [getElem!_pos d.toArray (j / 2) (by simpa using hi)];simp
 rw [e]
 rcases (by omega:j%2=0∨j%2=1) with h2 | h2
 ·rw [h2]
  have hjj:j=j / 2*2:=by omega
  rw [show (⟨g,j,none⟩:Addr)=⟨g,j / 2*2,none⟩ by rw [← hjj]]
  exact (h _ hi).1
 ·rw [h2]
  have hjj:j=j / 2*2+1:=by omega
  rw [show (⟨g,j,none⟩:Addr)=⟨g,j / 2*2+1,none⟩ by rw [← hjj]]
  exact (h _ hi).2
theorem cells_of_holds {w:World} {g:Nat} {d:Array TCell} (h:HoldsK encT 2 w g 0 d):CellsT w g d.toList:=fun i hi=>by
 have hi2:i<d.size:=by simpa using hi
 have h0:=(h.cell hi2 (c:=0) (by omega)).1
 have h1:=(h.cell hi2 (c:=1) (by omega)).1
 rw [Nat.zero_add,Nat.add_zero] at h0
 rw [Nat.zero_add] at h1
 rw [getElem!_pos d i hi2] at h0 h1
 exact ⟨by simpa [encT] using h0,by simpa [encT] using h1⟩
theorem sort_any (g cap:Nat) (d:List TCell) (w:World) (hc:CellsT w g d) (hf:∀ j,w.frozen? ⟨g,j,none⟩=false) (hg:g<w.heap.size) (hsz:d.length<4611686018427387904) :
  Calls Tryz.prog 85 #[.slice (some ⟨g,0,none⟩) d.length cap,.func (.func 86) #[] #[]] w fun e w'=>e=.returned (.tuple #[])∧∃ d':List TCell,d'.Perm d∧d'.Pairwise (fun x y=>lessL y.1 x.1=false)∧CellsT w' g d'∧Kep (fun k=>k≠g) w w':=by
 have eg:∀ args w,(callFunc 86 args).run Tryz.prog w=.ok (.enter 86 args) w:=enters_of Tryz.func86 (by kernel_rfl) rfl
 have hcmp:CmpLays Tryz.prog 86 #[] encT 2 cfT g 0 d.toArray.size w:=fun _ _ _ _ x y=>clo_any x.1 y.1 x.2.1 y.2.1 x.2.2 y.2.2 _
 have hH:=holds_of hc hf
 have:=AnyQ.slices_SortFunc Tryz.sortTerm 2 Tryz.isAgg120 Tryz.sizeOf120 encT (fun _=>rfl) (fun x v hv=>by
  simp only [encT,List.mem_cons,List.not_mem_nil,or_false] at hv
  rcases hv with rfl | rfl
  ·rfl
  ·exact x.2.2) cfT swoT 86 #[] g 0 cap d.toArray w eg hcmp hH hg (by simpa using hsz)
 rw [List.size_toArray] at this
 refine this.mono ?_
 rintro e w' ⟨rfl,d',n,os,⟨hs,_,hp⟩,hsort,rfl⟩
 have hs2:d'.size=d.length:=by simpa using hs
 have hp2:d'.toList.Perm d:=by
  have e1:d'.extract 0 d.length=d':=by rw [← hs2];exact Array.extract_size
  have e2:d.toArray.extract 0 d.length=d.toArray:=by rw [show d.length=d.toArray.size by simp];exact Array.extract_size
  rw [e1,e2] at hp
  simpa using hp
 refine ⟨rfl,d'.toList,hp2,?_,?_,?_⟩
 ·rw [List.pairwise_iff_getElem]
  intro i j hi hj hij
  have hi2:i<d'.size:=by simpa using hi
  have hj2:j<d'.size:=by simpa using hj
  have:=hsort i j (Nat.zero_le _) hij (by omega)
  rw [ltT,getElem!_pos d' i hi2,getElem!_pos d' j hj2] at this
  simpa using this
 ·have h1:=holdsK_putRowK encT 2 (Sort.ahead w n) g 0 d.toArray d' (holdsK_ahead encT 2 w n g 0 _ hH) (by rw [hs2];simp)
  exact cells_of_holds (holdsK_grow encT 2 _ os g 0 d' (by show g<(putRow id _ g 0 _).heap.size;rw [size_putRow];exact hg) h1)
 ·refine ⟨rfl,rfl,rfl,?_,fun k hk hne => ?_⟩
  ·show w.heap.size≤(grow (putRow id _ g 0 _) os).heap.size
   rw [size_grow,size_putRow]
   exact Nat.le_add_right _ _
  ·have e1:(grow (putRowK encT 2 (Sort.ahead w n) g 0 d') os).heap[k]? = (putRowK encT 2 (Sort.ahead w n) g 0 d').heap[k]? := by
    show ((putRowK encT 2 (Sort.ahead w n) g 0 d').heap++os)[k]? = _
    rw [Array.getElem?_append_left (by show k<(putRow id _ g 0 _).heap.size;rw [size_putRow];exact hk)]
   refine e1.trans ?_
   show ((Sort.ahead w n).heap.modify g _)[k]? = _
   rw [Array.getElem?_modify,if_neg (fun e=>hne e.symm)]
   rfl
end Go.Proofs.YtidhgicajlaafaaGreat.EV
namespace Go.Proofs.YtidhgicajlaafaaGreat.MX
open Go MM
open EM (Ev Trm termsE Rising posOf placesT)
open PM (Post)
open RM (rowsE rowsE_rising rowsE_posts postsT postsT_mem posOf_mem posOf_some)
def sortI (l:List Int):List Int:=l.mergeSort fun x y=>decide (x≤y)
theorem sortI_perm (l:List Int):(sortI l).Perm l:=List.mergeSort_perm _ _
theorem sortI_len (l:List Int):(sortI l).length=l.length:=(sortI_perm l).length_eq
theorem sortI_sorted (l:List Int):(sortI l).Pairwise (·≤·):=by
 have tr:∀ a b c:Int,decide (a≤b)=true→decide (b≤c)=true→decide (a≤c)=true:=fun a b c h1 h2=>by simp only [decide_eq_true_eq] at *;omega
 have to:∀ a b:Int,(decide (a≤b)||decide (b≤a))=true:=fun a b=>by simp only [Bool.or_eq_true,decide_eq_true_eq];omega
 exact (List.pairwise_mergeSort tr to l).imp fun {a b} h=>of_decide_eq_true h
theorem beg_ofE {es:List Ev} {rs:List RowP} {s:List UInt8} {k:Nat} (hk:k<es.length) (hrs:rs.Perm (rowsE es)):sortI (totM rs s (k:Int))=ofE es[k] s false:=beg_sorted hk hrs (sortI_perm _) (sortI_sorted _)
theorem tot_small {es:List Ev} {rs rest:List RowP} (h:(rs++rest).Perm (rowsE es)) (s:List UInt8) (d:Int):(totM rs s d).length≤1048576:=by
 have h1:(totM rs s d).length≤(totM (rowsE es) s d).length:=by
  rw [← (totM_perm h s d).length_eq]
  unfold totM
  rw [List.filter_append,List.flatMap_append,List.length_append]
  omega
 by_cases hn:totM (rowsE es) s d=[]
 ·rw [hn,List.length_nil] at h1;omega
 ·obtain ⟨k,hk,rfl,_⟩:=tot_none (List.Perm.refl _) hn
  have h2:=beg_ofE (s:=s) hk (List.Perm.refl (rowsE es))
  have h3:=PM.riseL_len (ofE_rise es[k] s false)
  rw [← h2,sortI_len] at h3
  omega
def restR (R:List RowP) (left:List UInt8→Bool):List RowP:=R.filter fun r=>left r.1
theorem rest_same {R:List RowP} {left left':List UInt8→Bool} (h:∀ r∈R,left r.1=left' r.1):restR R left=restR R left':=List.filter_congr fun r hr=>h r hr
theorem rest_step:∀ {R:List RowP} {left:List UInt8→Bool} {r:RowP},Rising R→r∈R→left r.1=true→(restR R left).Perm (r::restR R fun k=>left k && !decide (k=r.1))
 | [],_,_,_,h,_=>by cases h
 | x::R,left,r,hR,h,hl=>by
   have hp:=List.pairwise_cons.1 hR
   by_cases e:x.1=r.1
   ·have hx:r=x:=by
     rcases List.mem_cons.1 h with h1 | h1
     ·exact h1
     ·have h2:=hp.1 r h1
      rw [e,EM.lessL_irr] at h2
      cases h2
    subst hx
    have h3:restR R left=restR R fun k=>left k && !decide (k=r.1):=rest_same fun y hy=>by
     have h4:y.1≠r.1:=fun e=>by
      have h2:=hp.1 y hy
      rw [e,EM.lessL_irr] at h2
      cases h2
     simp [h4]
    unfold restR at h3 ⊢
    rw [List.filter_cons_of_pos (by simpa using hl),List.filter_cons_of_neg (by simp),h3]
   ·have h1:r∈R:=(List.mem_cons.1 h).resolve_left fun q=>e (by rw [q])
    have ih:=rest_step hp.2 h1 hl
    unfold restR at ih ⊢
    by_cases hx:left x.1=true
    ·rw [List.filter_cons_of_pos (by simpa using hx),List.filter_cons_of_pos (by simp [hx,e])]
     exact (ih.cons x).trans (List.Perm.swap r x _)
    ·rw [List.filter_cons_of_neg (by simpa using hx),List.filter_cons_of_neg (by simp [hx])]
     exact ih
theorem rest_next {R rs:List RowP} {left:List UInt8→Bool} {r:RowP} (hR:Rising R) (h:(rs++restR R left).Perm R) (hr:r∈R) (hl:left r.1=true):((rs++[r])++restR R fun k=>left k && !decide (k=r.1)).Perm R:=by
 rw [List.append_assoc]
 exact ((List.Perm.refl rs).append (rest_step hR hr hl).symm).trans h
theorem rest_start {R:List RowP} {left:List UInt8→Bool} (h:∀ r∈R,left r.1=true):(([]:List RowP)++restR R left).Perm R:=by
 rw [List.nil_append]
 unfold restR
 rw [List.filter_eq_self.2 fun r hr=>h r hr]
theorem rest_end {R rs:List RowP} {left:List UInt8→Bool} (h:(rs++restR R left).Perm R) (hl:∀ n,left n=false):rs.Perm R:=by
 unfold restR at h
 rw [List.filter_eq_nil_iff.2 fun r _=>by simp [hl],List.append_nil] at h
 exact h
theorem beg_end {es:List Ev} {rs:List RowP} {s:List UInt8} {ks:List Int} (hrs:rs.Perm (rowsE es)) (hks:ks.Pairwise (·<·)) (hm:∀ d,d∈ks↔totM rs s d≠[]):ks.map (fun d=>(d,sortI (totM rs s d)))=postsM es s false:=by
 refine beg_posts (f:=fun d=>sortI (totM rs s d)) hks (fun d => ?_) fun k hk _=>beg_ofE hk hrs
 rw [hm]
 constructor
 ·exact tot_none hrs
 ·rintro ⟨k,hk,rfl,hne⟩ e
  rw [← beg_ofE hk hrs,e] at hne
  exact hne (by simp [sortI])
theorem row_post {es:List Ev} {r:RowP} (hr:r∈rowsE es) {p:Post} (hp:p∈r.2):∃ k:Nat,k<es.length∧p.1=(k:Int)∧p.2≠[]:=by
 rw [row_posts hr] at hp
 obtain ⟨k,hk,rfl,hne⟩:=postsT_mem.1 hp
 rw [List.length_map] at hk
 exact ⟨k,hk,by show (0:Int)+(k:Int)=_;omega,hne⟩
theorem posAt_part (x:List UInt8) (l:List Post) (j:Nat) (d:Int):(posAt (x,l.take j) d).length≤(posAt (x,l) d).length:=by
 unfold posAt
 have h:l=l.take j++l.drop j:=(List.take_append_drop j l).symm
 show ((l.take j).filter _ |>.flatMap _).length≤(l.filter _ |>.flatMap _).length
 conv=>rhs;rw [h]
 rw [List.filter_append,List.flatMap_append,List.length_append]
 omega
theorem tot_part {es:List Ev} {rs rest:List RowP} {r:RowP} (h:((rs++[r])++rest).Perm (rowsE es)) {s:List UInt8} (hs:selM s false r.1=true) (j:Nat) (d:Int):(totM rs s d++posAt (r.1,r.2.take j) d).length≤1048576:=by
 have h1:=tot_small h s d
 rw [totM_next,if_pos hs] at h1
 have h2:=posAt_part r.1 r.2 j d
 rw [List.length_append] at h1 ⊢
 have h3:(posAt r d).length=(posAt (r.1,r.2) d).length:=rfl
 omega
end Go.Proofs.YtidhgicajlaafaaGreat.MX
