import Derived.Test.YtdfibahafilklaaGreatDoorZB21
import Derived.Test.YtdfibahafilklaaGreatDoorZB34
import Derived.RangeFuncNested
import Derived.Test.YtdfibahafilklaaGreatDoorZB33
set_option maxRecDepth 100000
set_option maxHeartbeats 8000000
set_option linter.unusedVariables false
set_option linter.unusedSimpArgs false
namespace Go.Proofs.YtdfibahafilklaaGreatDoor.WM
open Go VM DK
open EM (Ev Bat checkB encB)
def foldV (x:Nat) (l:List UInt8):Nat:=l.foldl (fun n c=>10*n+(c.toNat - 48)) x
theorem fold_cons (x:Nat) (c:UInt8) (l:List UInt8):foldV x (c::l)=foldV (10*x+(c.toNat - 48)) l:=by unfold foldV;rw [List.foldl_cons]
theorem fold_lo (l:List UInt8):∀ (x:Nat),x*10^l.length≤foldV x l:=by
 induction l with
 | nil=>intro x;show x*10^0≤x;rw [Nat.pow_zero,Nat.mul_one];exact Nat.le_refl _
 | cons c l ih =>
   intro x
   rw [fold_cons]
   refine Nat.le_trans ?_ (ih _)
   rw [List.length_cons,Nat.pow_succ',← Nat.mul_assoc]
   exact Nat.mul_le_mul_right _ (by omega)
theorem fold_hi (l:List UInt8):∀ (x:Nat),l.all digitW=true→foldV x l<(x+1)*10^l.length:=by
 induction l with
 | nil=>intro x _;show x<(x+1)*10^0;rw [Nat.pow_zero,Nat.mul_one];exact Nat.lt_succ_self _
 | cons c l ih =>
   intro x h
   rw [List.all_cons,Bool.and_eq_true] at h
   rw [fold_cons]
   refine Nat.lt_of_lt_of_le (ih _ h.2) ?_
   have:=(dig_lt h.1).1
   rw [List.length_cons,Nat.pow_succ',← Nat.mul_assoc]
   exact Nat.mul_le_mul_right _ (by omega)
theorem fold_less:∀ (l m:List UInt8) (x:Nat),l.length=m.length→l.all digitW=true→m.all digitW=true→foldV x l<foldV x m→lessL l m=true
 | [],[],x,_,_,_,h=>absurd h (Nat.lt_irrefl _)
 | [],_::_,_,h,_,_,_=>by cases h
 | _::_,[],_,h,_,_,_=>by cases h
 | a::l,b::m,x,hl,h1,h2,h=>by
   rw [List.all_cons,Bool.and_eq_true] at h1 h2
   rw [fold_cons,fold_cons] at h
   have hl':l.length=m.length:=by simpa using hl
   unfold lessL
   by_cases e:a=b
   ·subst e
    rw [if_pos rfl]
    exact fold_less l m _ hl' h1.2 h2.2 h
   ·rw [if_neg e,decide_eq_true_eq,UInt8.lt_iff_toNat_lt]
    have e2:a.toNat≠b.toNat:=fun k=>e (UInt8.toNat_inj.1 k)
    refine Classical.byContradiction fun hn => ?_
    have g1:=(dig_lt h1.1).2
    have g2:=(dig_lt h2.1).2
    have h3:=fold_lo l (10*x+(a.toNat - 48))
    have h4:=fold_hi m (10*x+(b.toNat - 48)) h2.2
    have h5:(10*x+(b.toNat - 48)+1)*10^m.length≤(10*x+(a.toNat - 48))*10^l.length:=by
     rw [hl']
     exact Nat.mul_le_mul_right _ (by omega)
    omega
theorem less_app:∀ (p l m:List UInt8),lessL (p++l) (p++m)=lessL l m
 | [],_,_=>rfl
 | a::p,l,m=>by
   rw [List.cons_append,List.cons_append,lessL,if_pos rfl]
   exact less_app p l m
theorem name_parts (n:Nat):nameW n=[108,111,103,45]++(nameW n).drop 4:=rfl
theorem name_digs (n:Nat):((nameW n).drop 4).all digitW=true:=by
 show ([digW n 0,digW n 1,digW n 2,digW n 3,digW n 4,digW n 5,digW n 6,digW n 7]:List UInt8).all digitW=true
 simp only [List.all_cons,List.all_nil,digitW_dig,Bool.and_self]
theorem name_val {n:Nat} (h:n≤99999999):foldV 0 ((nameW n).drop 4)=n:=by
 have h1:=numberW_name h
 unfold numberW at h1
 split at h1
 ·exact Option.some.inj h1
 ·cases h1
theorem name_less {a b:Nat} (hb:b≤99999999) (h:a<b):lessL (nameW a) (nameW b)=true:=by
 rw [name_parts a,name_parts b,less_app]
 refine fold_less _ _ 0 rfl (name_digs a) (name_digs b) ?_
 rw [name_val hb,name_val (by omega)]
 exact h
def durF (x:Nat×List Bat):FileD:=⟨nameW x.1,fileB x.2,(fileB x.2).length⟩
def lastF (n:Nat) (cur:List Bat) (s:Nat):List FileD:=if cur=[] then [] else [⟨nameW n,fileB cur,s⟩]
def batsW (fs:List (Nat×List Bat)):List Bat:=(fs.map (·.2)).flatten
structure BackI (d:DiskD) (n:Nat) (fs:List (Nat×List Bat)) (cur:List Bat) (j:Nat):Prop where
 quota:d.quota=0
 armed:d.armed=0
 live:d.stopped=false
 files:∃ s,d.L=fs.map durF++lastF n cur s∧(fileB (cur.take j)).length≤s∧s≤(fileB cur).length
 jle:j≤cur.length
 rise:(fs.map (·.1)++[n]).Pairwise (·<·)
 nle:n≤99999999
 chain:ChainW 1 (batsW fs++cur)
 small:(fileB cur).length≤20000*cur.length
theorem rise_app_one:∀ {A:List FileD} {f:FileD},Rise A→(∀ a∈A,lessL a.name f.name=true)→Rise (A++[f])
 | [],f,_,_=>⟨fun g hg=>(by cases hg),trivial⟩
 | a::A,f,h,hf=>by
   refine ⟨fun g hg => ?_,rise_app_one h.2 fun b hb=>hf b (List.mem_cons_of_mem _ hb)⟩
   rcases List.mem_append.1 hg with hg | hg
   ·exact h.1 g hg
   ·rw [List.mem_singleton.1 hg]
    exact hf a (List.mem_cons_self ..)
theorem BackI.less {d:DiskD} {n:Nat} {fs:List (Nat×List Bat)} {cur:List Bat} {j:Nat} (h:BackI d n fs cur j):∀ a∈fs.map durF,lessL a.name (nameW n)=true:=fun a ha=>by
 obtain ⟨x,hx,rfl⟩:=List.mem_map.1 ha
 have h1:=h.rise
 rw [List.pairwise_append] at h1
 exact name_less h.nle (h1.2.2 x.1 (List.mem_map_of_mem hx) n (List.mem_singleton.2 rfl))
theorem dur_rise:∀ {fs:List (Nat×List Bat)},(fs.map (·.1)).Pairwise (·<·)→(∀ x∈fs,x.1≤99999999)→Rise (fs.map durF)
 | [],_,_=>trivial
 | x::fs,h,hl=>by
   rw [List.map_cons,List.pairwise_cons] at h
   rw [List.map_cons]
   refine ⟨fun g hg => ?_,dur_rise h.2 fun y hy=>hl y (List.mem_cons_of_mem _ hy)⟩
   obtain ⟨y,hy,rfl⟩:=List.mem_map.1 hg
   exact name_less (hl y (List.mem_cons_of_mem _ hy)) (h.1 y.1 (List.mem_map_of_mem hy))
theorem BackI.lt {d:DiskD} {n:Nat} {fs:List (Nat×List Bat)} {cur:List Bat} {j:Nat} (h:BackI d n fs cur j):∀ x∈fs,x.1<n:=fun x hx=>by
 have h1:=h.rise
 rw [List.pairwise_append] at h1
 exact h1.2.2 x.1 (List.mem_map_of_mem hx) n (List.mem_singleton.2 rfl)
theorem BackI.riseA {d:DiskD} {n:Nat} {fs:List (Nat×List Bat)} {cur:List Bat} {j:Nat} (h:BackI d n fs cur j):Rise (fs.map durF):=by
 have h1:=h.rise
 rw [List.pairwise_append] at h1
 exact dur_rise h1.1 fun x hx=>by have:=h.lt x hx;have:=h.nle;omega
theorem BackI.good {d:DiskD} {n:Nat} {fs:List (Nat×List Bat)} {cur:List Bat} {j:Nat} (h:BackI d n fs cur j):DK.Good d:=by
 obtain ⟨s,hs,h1,h2⟩:=h.files
 refine ⟨?_,fun f hf => ?_⟩
 ·rw [hs]
  unfold lastF
  split
  ·rw [List.append_nil];exact h.riseA
  ·exact rise_app_one h.riseA h.less
 ·rw [hs] at hf
  rcases List.mem_append.1 hf with hf | hf
  ·obtain ⟨x,_,rfl⟩:=List.mem_map.1 hf
   exact Nat.le_refl _
  ·unfold lastF at hf
   split at hf
   ·cases hf
   ·rw [List.mem_singleton.1 hf]
    exact h2
theorem logs_app (a b:List (List UInt8)):logsL (a++b)=logsL a++logsL b:=by unfold logsL;rw [List.filterMap_append]
theorem logs_dur:∀ {fs:List (Nat×List Bat)},(∀ x∈fs,x.1≤99999999)→logsL ((fs.map durF).map (·.name))=fs.map (·.1)
 | [],_=>rfl
 | x::fs,h=>by
   have h1:=logs_dur fun y hy=>h y (List.mem_cons_of_mem x hy)
   unfold logsL at h1 ⊢
   rw [List.map_cons,List.map_cons,List.filterMap_cons]
   rw [show numberW (durF x).name=some x.1 from numberW_name (h x (List.mem_cons_self ..))]
   dsimp only
   rw [h1,List.map_cons]
theorem above_all {l:List Nat}:aboveL 0 l=l:=by
 unfold aboveL
 refine List.filter_eq_self.2 fun n _ => ?_
 rw [decide_eq_true_eq]
 omega
theorem told_dur {s:Int}:∀ {bs:List Bat},ChainW s bs→toldW (fileB bs)=bs:=fun h=>told_of (scans_all h)
theorem told_all:∀ {fs:List (Nat×List Bat)} {s:Int},ChainW s (batsW fs)→(fs.map fun x=>toldW (fileB x.2)).flatten=batsW fs
 | [],_,_=>rfl
 | x::fs,s,h=>by
   have e:batsW (x::fs)=x.2++batsW fs:=by unfold batsW;simp
   rw [e] at h ⊢
   obtain ⟨h1,h2⟩:=chainW_append.1 h
   rw [List.map_cons,List.flatten_cons,told_dur h1,told_all h2]
theorem repl_files {d:DiskD} {n m:Nat} {fs:List (Nat×List Bat)} {cur:List Bat} {t:Nat} (hst:d.stopped=false) (hL:d.L=fs.map durF++if cur=[] then [] else [⟨nameW n,(fileB cur).take m,t⟩]) (hlt:∀ x∈fs,x.1<n) (hr:Rise d.L) (hn:n≤99999999)
  (hc:ChainW 1 (batsW fs++cur)) (hm:m≤(fileB cur).length):∃ i,i≤cur.length∧replW d 0 1=batsW fs++cur.take i∧∀ j,j≤cur.length→(fileB (cur.take j)).length≤m→j≤i:=by
 obtain ⟨c1,c2⟩:=chainW_append.1 hc
 have hfind:∀ f∈d.L,((findL d.L f.name).map (·.b)).getD []=f.b:=fun f hf=>by rw [rise_find hr hf];rfl
 have hA:∀ x∈fs,bytesW d x.1=fileB x.2:=fun x hx=>hfind (durF x) (by rw [hL];exact List.mem_append_left _ (List.mem_map_of_mem hx))
 have hle:∀ x∈fs,x.1≤99999999:=fun x hx=>by have:=hlt x hx;omega
 have hmap:(fs.map (·.1)).map (fun n=>toldW (bytesW d n))=fs.map fun x=>toldW (fileB x.2):=by
  rw [List.map_map]
  exact List.map_congr_left fun x hx=>by show toldW (bytesW d x.1)=_;rw [hA x hx]
 unfold replW replL logsW namesW
 rw [if_neg (by simp [hst]),above_all]
 by_cases hcur:cur=[]
 ·subst hcur
  rw [if_pos rfl,List.append_nil] at hL
  refine ⟨0,Nat.le_refl _,?_,fun j hj _=>hj⟩
  rw [hL,logs_dur hle,hmap,told_all c1,List.take_nil,List.append_nil]
  exact chainT_chain c1
 ·rw [if_neg hcur] at hL
  obtain ⟨i,k,e,hi,hs,_,hmax⟩:=scans_take (p:=none) c2 (fun n hn=>by cases hn) hm
  refine ⟨i,hi,?_,fun j hj hl=>hmax j hj hl⟩
  have hB:bytesW d n=(fileB cur).take m:=hfind ⟨nameW n,(fileB cur).take m,t⟩ (by rw [hL];exact List.mem_append_right _ (List.mem_singleton.2 rfl))
  have hlogs:logsL (d.L.map (·.name))=fs.map (·.1)++[n]:=by
   rw [hL,List.map_append,logs_app,logs_dur hle]
   unfold logsL
   rw [List.map_singleton,List.filterMap_cons,numberW_name hn]
   rfl
  rw [hlogs,List.map_append,List.flatten_append,hmap,told_all c1,List.map_singleton,List.flatten_singleton,hB,told_of hs]
  have:=replay_part hc i
  rw [this,List.take_append,List.take_of_length_le (l:=batsW fs) (by omega),Nat.add_sub_cancel_left]
theorem BackI.fits {d:DiskD} {n:Nat} {fs:List (Nat×List Bat)} {cur:List Bat} {j:Nat} (h:BackI d n fs cur j) (hfs:fs.length≤100) (hcl:cur.length≤100) (hd:∀ x∈fs,(fileB x.2).length≤2000000):Fits d:=by
 obtain ⟨s,hs,h1,h2⟩:=h.files
 have hsm:=h.small
 refine ⟨h.good,?_,fun f hf => ?_,fun f hf => ?_,by rw [h.quota];omega,by rw [h.quota];omega⟩
 ·rw [hs]
  unfold lastF
  split<;>simp<;>omega
 ·rw [hs] at hf
  rcases List.mem_append.1 hf with hf | hf
  ·obtain ⟨x,hx,rfl⟩:=List.mem_map.1 hf
   have:=hd x hx
   show (fileB x.2).length≤_
   omega
  ·unfold lastF at hf
   split at hf
   ·cases hf
   ·rw [List.mem_singleton.1 hf]
    show (fileB cur).length≤_
    omega
 ·rw [hs] at hf
  rcases List.mem_append.1 hf with hf | hf
  ·obtain ⟨x,hx,rfl⟩:=List.mem_map.1 hf
   show (nameW x.1).length≤64
   rw [nameW_len]
   omega
  ·unfold lastF at hf
   split at hf
   ·cases hf
   ·rw [List.mem_singleton.1 hf]
    show (nameW n).length≤64
    rw [nameW_len]
    omega
end Go.Proofs.YtdfibahafilklaaGreatDoor.WM
namespace Go.Proofs.YtdfibahafilklaaGreatDoor.RF
open Go Go.RowKit MM
def Steady {β:Type} (D:Nat) (er:TypeId) (I:β→World→Prop):Prop :=
 ∀ s A B (T:Nat→Prop),I s A→Kep T A B→(∀ b,b<D→T b)→(∀ b cur t fr,A.heap[b]? = some (.cells cur t fr)→t≠er→T b)→I s B
theorem kep_row' {D:Nat} {W W':World} {row:Option Nat} (hg:W.grownBy W' row) (hr:∀ r,row=some r→D≤r∧∃ o:Obj,W.heap[r]? = some o∧o.isCells=false) :
  Kep (fun b=>row≠some b) W W'∧(∀ b,b<D→row≠some b)∧(∀ b cur t fr,W.heap[b]? = some (.cells cur t fr)→row≠some b):=by
 refine ⟨kep_grown hg fun k hk hne=>hne hk,fun b hb e=>by have:=(hr b e).1;omega,fun b cur t fr hc e => ?_⟩
 obtain ⟨_,o,ho,hn⟩:=hr b e
 rw [hc] at ho
 cases ho
 cases hn
theorem Steady.own {β:Type} {D:Nat} {er:TypeId} {I:β→World→Prop} (h:Steady D er I):OwnFrom D I:=fun s W W' row hi hg hr=>by
 obtain ⟨k1,k2,k3⟩:=kep_row' hg hr
 exact h s W W' _ hi k1 k2 fun b cur t fr hc _=>k3 b cur t fr hc
theorem Steady.grows {β:Type} {D:Nat} {er:TypeId} {I:β→World→Prop} (h:Steady D er I):GrowsT D er I:=fun s A B hi hk =>
 h s A B _ hi hk (fun b hb ⟨h1,_⟩=>by omega) fun b cur t fr hc ht ⟨_,cur',fr',h'⟩=>by
   rw [hc] at h'
   simp only [Option.some.injEq,Obj.cells.injEq] at h'
   exact ht h'.2.1
theorem boxed_kep {T:Nat→Prop} {W W':World} {B:Nat} {t:TypeId} {v:Value} (h:Boxed W B t v) (hk:Kep T W W') (hB:T B):Boxed W' B t v:=(hk.block B h.lt hB).trans h
theorem boxed_below {C:Nat} {W W':World} {B:Nat} {t:TypeId} {v:Value} (h:Boxed W B t v) (hb:Below C W W') (hB:B<C):Boxed W' B t v:=(hb.block B hB).trans h
theorem grows_below {β:Type} {D:Nat} {er:TypeId} {I:β→World→Prop} (h:GrowsT D er I) {s:β} {A B:World} (hi:I s A) (hb:Below A.heap.size A B):I s B:=h s A B hi (kep_below _ hb)
theorem wide_normal {n:Nat} {P:Program} {c:Code} {Q:Exit→Act→World→Prop} {a:Act} {w:World} (h:c.wp P (fun e a w=>e=.normal∧Q .normal a w) a w):c.wpIn Fence.wide n P Q a w :=
 wpIn_mono (wpIn_wide.2 h) fun e a w ⟨he,hq⟩=>by subst he;exact hq
end Go.Proofs.YtdfibahafilklaaGreatDoor.RF
namespace Go.Proofs.YtdfibahafilklaaGreatDoor.WL
open Go Go.RowKit Go.Shelf Go.Maps MM WM DK
open RF (VowsT GrowsT FreeT TagT Steady grows_below boxed_kep)
attribute [local go_sem] Oper.semAt_some
theorem owns_mono {w:World} {B C:Nat} {e:TypeId} {v:Value} {n:Nat} {xs:List Value} (h:w.ownsRow B e 1 v n xs) (hC:C≤B):w.ownsRow C e 1 v n xs:=by
 refine ⟨h.1,?_⟩
 rcases h.2 with h0 | ⟨g,cap,cur,hv,hg,rest⟩
 ·exact .inl h0
 ·exact .inr ⟨g,cap,cur,hv,Nat.le_trans hC hg,rest⟩
def NamesOwn (D:Nat) (W:World) (v:Value) (ns:List (List UInt8)):Prop:=∃ n,W.ownsRow D 9 1 v n (ns.map encStr)
theorem NamesOwn.sin {D:Nat} {W:World} {v:Value} {ns:List (List UInt8)} (h:NamesOwn D W v ns):SIn W.heap.size W v ns:=by
 obtain ⟨n,h⟩:=h
 exact sin_of_own h
theorem NamesOwn.keep {D:Nat} {T:Nat→Prop} {W W':World} {v:Value} {ns:List (List UInt8)} (h:NamesOwn D W v ns) (hk:Kep T W W') (hT:∀ b cur fr,D≤b→W.heap[b]? = some (.cells cur 9 fr)→T b):NamesOwn D W' v ns:=by
 obtain ⟨n,h⟩:=h
 refine ⟨n,own_row_kep h hk fun g hg => ?_⟩
 have h1:=own_cells h hg
 obtain ⟨cur,fr,hc⟩:=h1.2
 exact hT g cur fr h1.1 hc
theorem list_own {S:Nat→Prop} {w:World} {g mb:Nat} {V:List UInt8→Value} {c:Int} {d:DiskD} (h:CObj S w g mb V c d) (hF:Fits d) :
  Calls Tryz.prog 78 #[.pointer (some ⟨g,0,none⟩)] w fun e w'=>∃ v,e=.returned v∧NamesOwn w.heap.size w' v (namesW d)∧Below w.heap.size w w':=by
 have h3:=h.g3
 have HN:=Lib.hid (names_own S g mb V c d w h hF)
 clear h hF
 unfold namesW
 generalize d.L.map (·.name)=ns at *
 generalize d.stopped=st at *
 cases st with
 | true =>
   have HF:=Lib.hid (show ∃ v,Ending.returned (.slice none 0 0)=.returned v∧NamesOwn w.heap.size w v (if true=true then [] else ns)∧Below w.heap.size w w from ⟨_,rfl,⟨0,World.ownsRow_nil _ _ _ _⟩,Below.refl _ _⟩)
   clear HN
   go_enter Tryz.func78,Tryz.ntmps78
   go_wp2_with fail
   go_ret
   exact HF.out
 | false =>
   go_enter Tryz.func78,Tryz.ntmps78
   go_wp2_with fail
   refine HN.out.mono ?_
   rintro e w1 ⟨v,B,n,rfl,hB,hs,hb⟩
   have HF:=Lib.hid (show ∃ u,Ending.returned v=.returned u∧NamesOwn w.heap.size w1 u (if false=true then [] else ns)∧Below w.heap.size w w1 from ⟨_,rfl,⟨n,owns_mono hs hB⟩,hb⟩)
   clear hs hb
   go_wp2_with fail
   go_ret
   exact HF.out
theorem names_few {d:DiskD} (hF:Fits d):(namesW d).length≤1024∧∀ s∈namesW d,s.length≤64:=by
 unfold namesW
 split
 ·exact ⟨Nat.zero_le _,fun s hs=>by cases hs⟩
 ·refine ⟨by rw [List.length_map];exact hF.len,fun s hs => ?_⟩
  obtain ⟨f,hf,rfl⟩:=List.mem_map.1 hs
  exact hF.name f hf
theorem logs_next {ns:List (List UInt8)} {k:Nat} (hk:k<ns.length):logsL (ns.take (k+1))=logsL (ns.take k)++(numberW ns[k]).toList:=by
 rw [List.take_succ_eq_append_getElem hk]
 unfold logsL
 rw [List.filterMap_append]
 cases h:numberW ns[k]<;>simp [h]
theorem logs_le (ns:List (List UInt8)):(logsL ns).length≤ns.length:=List.length_filterMap_le _ _
theorem logs_take (ns:List (List UInt8)) (k:Nat):∃ j,logsL (ns.take k)=(logsL ns).take j:=by
 refine ⟨(logsL (ns.take k)).length,?_⟩
 have e:logsL ns=logsL (ns.take k)++logsL (ns.drop k):=by
  unfold logsL
  rw [← List.filterMap_append,List.take_append_drop]
 rw [e,List.take_left]
abbrev encL (n:Nat):Array Value:=#[.int .i64 (n:Int),.string ⟨(nameW n).toArray⟩]
def TabT (T:Nat→Prop):Prop:=T 2∧T 0∧T 1
theorem TabsW.tag {T:Nat→Prop} {D:Nat} {et:TypeId} {A B:World} (h:TabsW A) (hT:TabT T) (hk:Kep (TagT T D et A) A B):TabsW B:=h.keep hk (.inl hT.1) (.inl hT.2.1) (.inl hT.2.2)
theorem files_in (n:Nat) (hn:1≤n) (y bx g D:Nat) (T:Nat→Prop) (et er:TypeId) (het:et≠9) (hTT:TabT T) {S:Nat→Prop} {mb:Nat} {V:List UInt8→Value} {c:Int} {d:DiskD} (hF:Fits d) (J Jx:List Nat→World→Prop) (hJ:GrowsT D er J)
  (hY:∀ pre x A,J pre A→x∈logsW d→pre.length<1025→YieldAt Fence.wide (n - 1) Tryz.prog y (encL x) A fun e B =>
   (e=.returned (.bool true)∧J (pre++[x]) B∧Kep (TagT T D et A) A B)∨(e=.returned (.bool false)∧Jx (pre++[x]) B))
  (W:World) (hD:D≤W.heap.size) (ho:CObj S W g mb V c d) (htab:TabsW W) (hbx:W.cell? ⟨bx,0,none⟩=some (.pointer (some ⟨g,0,none⟩))) (h0:J [] W) :
  CallsIn Fence.wide n Tryz.prog 108 #[.func (.yield y) #[] #[],.pointer (some ⟨bx,0,none⟩)] W fun e B=>(∃ v,e=.returned v) ∧
   ((∃ xs,xs=logsW d∧J xs B)∨(∃ pre,(∃ k,pre=(logsW d).take k)∧Jx pre B)):=by
 have HL:=Lib.hid (list_own ho hF)
 obtain ⟨hfew,hlen⟩:=names_few hF
 have hmem:∀ s∈namesW d,∀ k,numberW s=some k→k∈logsW d:=fun s hs k hk=>by
  unfold logsW logsL
  exact List.mem_filterMap.2 ⟨s,hs,hk⟩
 have hlg:logsW d=logsL (namesW d):=rfl
 rw [hlg] at hmem hY ⊢
 obtain ⟨ns,hns⟩:∃ ns,namesW d=ns:=⟨_,rfl⟩
 rw [hns] at HL hfew hlen hmem hY ⊢
 have HJ:=Lib.hid hJ
 have HY:=Lib.hid hY
 have HM:=Lib.hid hmem
 have HLN:=Lib.hid hlen
 have HT:=Lib.hid htab
 have H0:=Lib.hid h0
 have HTT:=Lib.hid hTT
 have HET:=Lib.hid het
 clear hJ hY hmem hlen htab h0 hTT het hlg hns ho hF
 refine callsIn_of_wp Tryz.func108 rfl trivial ?_ rfl
 simp only [Tryz.ntmps108,List.size_toArray,List.length_cons,List.length_nil,Nat.reduceAdd,Nat.reduceSub,Array.replicate_succ,Array.replicate_zero,List.push_toArray,List.append_toArray,List.nil_append,List.cons_append]
 gi_wp2
 refine ⟨trivial,(callsIn_wide.2 HL.out).mono ?_⟩
 rintro e w1 ⟨v,rfl,hr,hb1⟩
 obtain ⟨pv,cv,hvs,_⟩:=hr.sin.shape
 subst hvs
 have HR1:Hid (NamesOwn D w1 (.slice pv ns.length cv) ns):=Lib.hid (by obtain ⟨k,hr⟩:=hr;exact ⟨k,owns_mono hr hD⟩)
 have HJ1:=Lib.hid (grows_below HJ.out H0.out hb1)
 have HT1:=Lib.hid (HT.out.below hb1)
 clear hr hb1 HL HT H0
 gi_wp2
 gi_loopw [10] (fun iv wr=>∃ i:Nat,iv=.int .i64 i∧i≤ns.length∧Hid (NamesOwn D wr (.slice pv ns.length cv) ns)∧Hid (TabsW wr)∧Hid (J (logsL (ns.take i)) wr)) (fun iv _=>ns.length - (intOf iv).toNat)
 case atStart=>exact ⟨0,rfl,by omega,HR1,HT1,HJ1⟩
 case round =>
  obtain ⟨i,rfl,hi,HR,HT,HJX⟩:=hrel
  clear HR1 HT1 HJ1
  by_cases hlt:i<ns.length
  ·have t1:decide ((i:Int)<(ns.length:Int))=true:=by rw [decide_eq_true_eq];omega
   have t2:decide (i<ns.length)=true:=decide_eq_true hlt
   have t3:(i:Int)<(ns.length:Int):=by omega
   obtain ⟨b,off,hpv,c0⟩:=HR.out.sin.at_ (List.getElem?_eq_getElem hlt)
   subst hpv
   have hnx:=logs_next hlt
   have hmem:=HM.out ns[i] (List.getElem_mem hlt)
   have hsl:=HLN.out ns[i] (List.getElem_mem hlt)
   have hle:=logs_le (ns.take i)
   rw [List.length_take] at hle
   obtain ⟨s,hs⟩:∃ s,ns[i]=s:=⟨_,rfl⟩
   rw [hs] at c0 hnx hmem hsl
   have HN:=Lib.hid (number_any s wr (by omega) HT.out)
   have hnm:∀ k,numberW s=some k→nameW k=s:=fun k hk=>(name_number hk).1
   unfold NumLeft numT at HN
   obtain ⟨o,hO⟩:∃ o,numberW s=o:=⟨_,rfl⟩
   rw [hO] at hnx hmem HN hnm
   have HNX:=Lib.hid hnx
   have HMM:=Lib.hid hmem
   have HNM:=Lib.hid hnm
   have HLT:=Lib.hid hlt
   have HLE:Hid ((logsL (ns.take i)).length<1025):=Lib.hid (by omega)
   clear hs hO hnx hmem hnm hlt hle
   gi_wp2
   refine ⟨trivial,(callsIn_wide.2 HN.out).mono ?_⟩
   rintro e w2 ⟨rfl,hb2⟩
   have HR2:=Lib.hid (HR.out.keep (kep_below (fun _=>True) hb2) fun _ _ _ _ _=>trivial)
   have HT2:=Lib.hid (HT.out.below hb2)
   have HJ2:=Lib.hid (grows_below HJ.out HJX.out hb2)
   clear hb2 HN HR HT HJX c0
   cases o with
   | none =>
     rw [show ((none:Option Nat).toList)=[] from rfl,List.append_nil] at HNX
     gi_wp2
     refine ⟨fun f h=>(by cases h),?_⟩
     gi_wp2
     have hlt:=HLT.out
     go_roundw
     case rel=>exact ⟨i+1,by go_num,by omega,HR2,HT2,by rw [HNX.out];exact HJ2⟩
     case measure=>simp [intOf];omega
   | some k =>
     obtain rfl:=HNM.out k rfl
     obtain ⟨fn,tmps,assign,body,hy,hRd⟩:=HY.out (logsL (ns.take i)) k w2 HJ2.out (HMM.out k rfl) HLE.out
     have hnx:logsL (ns.take (i+1))=logsL (ns.take i)++[k]:=HNX.out
     have HNX2:=Lib.hid hnx
     dsimp only [encL] at hy
     have HRd:=Lib.hid hRd
     clear hRd HNX HMM HNM hnx HLE
     gi_wp2
     refine HRd.out.mono ?_
     rintro e w5 (⟨rfl,hJ5,hb5⟩ | ⟨rfl,hJ5⟩)
     ·have HJ5:Hid (J (logsL (ns.take (i+1))) w5):=Lib.hid (by rw [HNX2.out];exact hJ5)
      have HR5:=Lib.hid (HR2.out.keep hb5 fun b cur fr hb hc=>.inr ⟨hb,cur,_,fr,hc,fun e=>HET.out e.symm⟩)
      have HT5:=Lib.hid (HT2.out.tag HTT.out hb5)
      clear hJ5 hb5 HRd hy HR2 HT2 HJ2
      gi_wp2
      have hlt:=HLT.out
      go_roundw
      case rel=>exact ⟨i+1,by go_num,by omega,HR5,HT5,HJ5⟩
      case measure=>simp [intOf];omega
     ·have HJ5:=Lib.hid hJ5
      clear hJ5 HRd hy HR2 HT2 HJ2
      gi_wp2
      refine bodyPost_ret (results_none rfl _ _ _) rfl ?_
      refine ⟨⟨_,rfl⟩,.inr ⟨_,?_,HJ5.out⟩⟩
      rw [← HNX2.out]
      exact logs_take ns (i+1)
  ·obtain rfl:i=ns.length:=by omega
   have t1:decide ((ns.length:Int)<(ns.length:Int))=false:=by simp
   have t2:decide (ns.length<ns.length)=false:=by simp
   have hj:=HJX.out
   rw [List.take_length] at hj
   have HQ:=Lib.hid hj
   clear hlt hj HR HT HJX
   gi_wp2
   go_end0
   exact ⟨⟨_,rfl⟩,.inl ⟨_,rfl,HQ.out⟩⟩
theorem files_vow (n:Nat) (hn:1≤n) (bx g D:Nat) (T:Nat→Prop) (et er:TypeId) (het:et≠9) (hTT:TabT T) {S:Nat→Prop} {mb:Nat} {V:List UInt8→Value} {c:Int} {d:DiskD} (hF:Fits d) (w:World) (ho:CObj S w g mb V c d) (htab:TabsW w)
  (hbx:w.cell? ⟨bx,0,none⟩=some (.pointer (some ⟨g,0,none⟩))) (hbw:bx<w.heap.size) :
  VowsT Fence.wide n Tryz.prog 108 #[.pointer (some ⟨bx,0,none⟩)] encL T D et er (fun x _=>x∈logsW d) (fun xs=>xs=logsW d) (fun pre=>∃ k,pre=(logsW d).take k) 1025 w :=
 fun y J Jx W hW hD hJ _ hY h0=>files_in n hn y bx g D T et er het hTT hF J Jx hJ hY W hD (ho.below hW) (htab.below hW) ((hW.cell (p:=⟨bx,0,none⟩) hbw).trans hbx) h0
def FilesLeft (v:Value) (w:World) (e:Ending) (w':World):Prop:=e=.returned (.func (.func 108) #[] #[.pointer (some ⟨w.heap.size,0,none⟩)])∧w'=w.alloc (.cells #[v] 40)
theorem files_any (p:Option Addr) (w:World):Calls Tryz.prog 59 #[.pointer p] w (FilesLeft (.pointer p) w):=by
 go_enter Tryz.func59,Tryz.ntmps59
 go_wp2_with fail
 go_ret
 exact ⟨rfl,rfl⟩
end Go.Proofs.YtdfibahafilklaaGreatDoor.WL
namespace Go.Proofs.YtdfibahafilklaaGreatDoor.MM
open Go Go.RowKit
variable {α : Type} {C : Codec α}
theorem wpListIn_append_none {F:Fence} {n:Nat} {P:Program} {w:World} {ops:Array Oper} {rest:List Oper} {o:Oper} {a:Act} {Q:Exit→Act→World→Prop} (hgd:o.guard=none) (s x:Operand) (t:TypeId)
  (ho:o.op=.call { callee:=.builtin .append,args:=#[s,x],argTypes:=#[t,t] })
  (base:Nat) (e:TypeId) (i:TypeInfo) (size:Nat) (ht:P.underlying t=some (.slice e)) (hi:P.info? e=some i)
  (v:Value) (k:Nat) (xs:List Value) (hs:a.eval s=v) (hown:w.ownsRow base e size v k xs) (hx:a.eval x=.slice none 0 0)
  (h:wpListIn F n P ops Q rest (a.put o.dst v) w):wpListIn F n P ops Q (o::rest) a w:=by
 refine wpListIn_plain hgd fun K hK' => ?_
 have hrun:=run_append_owned_none (P:=P) (w:=w) base t o.type e i size ht hi v k xs hown
 unfold Oper.wpIn
 refine ⟨?_,?_⟩
 ·simp [Oper.about,ho,resolve,Target.leads,Sem.run_pure]
 ·rw [Oper.semAt_plain F _ _ (by rw [ho];intro c hc';cases hc')]
  simp [execOp,ho,resolve,invoke,builtin,hs,hx,hrun,Result.andThen]
  exact hK' _ _ h
theorem wpListIn_append_any {F:Fence} {n:Nat} {P:Program} {T e:TypeId} {bytes:Nat} (E:Elem C P T e bytes) {S:Nat→Prop} {w:World} {ops:Array Oper} {rest:List Oper} {o:Oper} {a:Act} {Q:Exit→Act→World→Prop} (hgd:o.guard=none) (s x:Operand)
  (ho:o.op=.call { callee:=.builtin .append,args:=#[s,x],argTypes:=#[T,T] }) (B:Nat) (v:Value) (es:List α) (hs:a.eval s=v) (hown:OwnX C e B S w v es) (hS:∀ b,b<w.heap.size→S b→Apt e B w b)
  (src:Value) (ds:List α) (hx:a.eval x=src) (hr:SrcX C S w src ds) (hlen:es.length+ds.length≤maxLen) (hby:(es.length+ds.length)*bytes≤140737488355328) (hbase:B≤w.heap.size)
  (h:∀ v' w',OwnX C e B S w' v' (es++ds)→Below B w w'→w.grownBy w' v.ownBlock→wpListIn F n P ops Q rest (a.put o.dst v') w'):wpListIn F n P ops Q (o::rest) a w:=by
 obtain ⟨p,cap,raw,rfl,h1,h3,hm,hc⟩:=hr
 obtain ⟨i,z,hi,hz,hsz,hbt,hzs⟩:=E.info
 have hlo:∀ k,v.ownBlock=some k→B≤k:=fun k hk=>by obtain ⟨raw1,g1,_⟩:=hown;exact (World.ownsRow.lt g1 k hk).1
 cases p with
 | none =>
   have h0:=h3 rfl
   subst h0
   have hd:ds=[]:=List.eq_nil_of_length_eq_zero (by omega)
   subst hd
   obtain ⟨raw1,g1,g2⟩:=id hown
   refine wpListIn_append_none hgd s x T ho B e i C.size E.under hi v es.length _ hs g1 hx (h v w ?_ (Below.refl _ _) ?_)
   ·rw [List.append_nil];exact hown
   ·exact World.grownBy.refl _ _
 | some ad =>
   obtain ⟨raw1,g1,g2⟩:=hown
   have hl:raw.flatten.length=ds.length*C.size:=by rw [flat_len hm.lens,hm.1]
   refine wpListIn_append_own w hgd s x T ho B e i z C.size bytes E.under hi hz hsz hbt hzs C.pos v es.length _ hs g1 ad ds.length cap raw.flatten hx hl ?_ hm.ones hlen hby hbase (fun v' w' h4 hg _ => ?_)
   ·intro j u hj
    rcases hc with hc | ⟨b,off,he,hc⟩
    ·subst hc
     have:raw=[]:=List.eq_nil_of_length_eq_zero (by rw [hm.1];rfl)
     subst this
     simp at hj
    ·obtain rfl:ad=⟨b,off,none⟩:=Option.some.inj he
     rw [add_at]
     exact hc j u hj
   ·have hb:Below B w w':=(Below.refl B w).grown hg hbase hlo
    have hk:Kep (Apt e B w) w w':=kep_grown hg fun k hk hA=>apt_not_own g1 hA hk
    refine h v' w' ⟨raw1++raw,?_,?_⟩ hb hg
    ·rw [List.length_append,List.flatten_append]
     exact h4
    ·have hm2:=g2.append hm
     refine ⟨hm2.1,fun i hi hi' => ?_⟩
     exact C.keep (C.keep (hm2.2 i hi hi') (Kep.refl _ _) (T:=fun b=>S b∧b<w.heap.size) fun b hb hs=>⟨hs,hb⟩) (hk.mono' (T:=fun b=>S b∧b<w.heap.size) fun b hb hs=>hS b hb hs.1) fun b hb hs=>hs.1
end Go.Proofs.YtdfibahafilklaaGreatDoor.MM
