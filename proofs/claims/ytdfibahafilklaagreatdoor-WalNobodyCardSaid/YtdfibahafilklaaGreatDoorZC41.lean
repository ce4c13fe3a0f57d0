import Derived.Test.YtdfibahafilklaaGreatDoorZC27
import Derived.Test.YtdfibahafilklaaGreatDoorZC40
set_option maxRecDepth 100000
set_option maxHeartbeats 8000000
set_option linter.unusedVariables false
set_option linter.unusedSimpArgs false
namespace Go.Proofs.YtdfibahafilklaaGreatDoor.WM
open Go VM DK
open EM (Ev Bat checkB encB)
def foldV (x:Nat) (l:List UInt8):Nat:=l.foldl (fun n c=>10*n+(c.toNat - 48)) x
theorem fold_cons (x:Nat) (c:UInt8) (l:List UInt8):foldV x (c::l)=foldV (10*x+(c.toNat - 48)) l:=by unfold foldV;rw [List.foldl_cons]
theorem fold_lo (l:List UInt8):∀ (x:Nat),x*10^l.length≤foldV x l:=by
 induction l with
 | nil=>intro x;show x*10^0≤x;rw [Nat.pow_zero,Nat.mul_one];exact Nat.le_refl _
 | cons c l ih =>
   intro x
   rw [fold_cons]
   refine Nat.le_trans ?_ (ih _)
   rw [List.length_cons,Nat.pow_succ',← Nat.mul_assoc]
   exact Nat.mul_le_mul_right _ (by omega)
theorem fold_hi (l:List UInt8):∀ (x:Nat),l.all digitW=true→foldV x l<(x+1)*10^l.length:=by
 induction l with
 | nil=>intro x _;show x<(x+1)*10^0;rw [Nat.pow_zero,Nat.mul_one];exact Nat.lt_succ_self _
 | cons c l ih =>
   intro x h
   rw [List.all_cons,Bool.and_eq_true] at h
   rw [fold_cons]
   refine Nat.lt_of_lt_of_le (ih _ h.2) ?_
   have:=(dig_lt h.1).1
   rw [List.length_cons,Nat.pow_succ',← Nat.mul_assoc]
   exact Nat.mul_le_mul_right _ (by omega)
theorem fold_less:∀ (l m:List UInt8) (x:Nat),l.length=m.length→l.all digitW=true→m.all digitW=true→foldV x l<foldV x m→lessL l m=true
 | [],[],x,_,_,_,h=>absurd h (Nat.lt_irrefl _)
 | [],_::_,_,h,_,_,_=>by cases h
 | _::_,[],_,h,_,_,_=>by cases h
 | a::l,b::m,x,hl,h1,h2,h=>by
   rw [List.all_cons,Bool.and_eq_true] at h1 h2
   rw [fold_cons,fold_cons] at h
   have hl':l.length=m.length:=by simpa using hl
   unfold lessL
   by_cases e:a=b
   ·subst e
    rw [if_pos rfl]
    exact fold_less l m _ hl' h1.2 h2.2 h
   ·rw [if_neg e,decide_eq_true_eq,UInt8.lt_iff_toNat_lt]
    have e2:a.toNat≠b.toNat:=fun k=>e (UInt8.toNat_inj.1 k)
    refine Classical.byContradiction fun hn => ?_
    have g1:=(dig_lt h1.1).2
    have g2:=(dig_lt h2.1).2
    have h3:=fold_lo l (10*x+(a.toNat - 48))
    have h4:=fold_hi m (10*x+(b.toNat - 48)) h2.2
    have h5:(10*x+(b.toNat - 48)+1)*10^m.length≤(10*x+(a.toNat - 48))*10^l.length:=by
     rw [hl']
     exact Nat.mul_le_mul_right _ (by omega)
    omega
theorem less_app:∀ (p l m:List UInt8),lessL (p++l) (p++m)=lessL l m
 | [],_,_=>rfl
 | a::p,l,m=>by
   rw [List.cons_append,List.cons_append,lessL,if_pos rfl]
   exact less_app p l m
theorem name_parts (n:Nat):nameW n=[108,111,103,45]++(nameW n).drop 4:=rfl
theorem name_digs (n:Nat):((nameW n).drop 4).all digitW=true:=by
 show ([digW n 0,digW n 1,digW n 2,digW n 3,digW n 4,digW n 5,digW n 6,digW n 7]:List UInt8).all digitW=true
 simp only [List.all_cons,List.all_nil,digitW_dig,Bool.and_self]
theorem name_val {n:Nat} (h:n≤99999999):foldV 0 ((nameW n).drop 4)=n:=by
 have h1:=numberW_name h
 unfold numberW at h1
 split at h1
 ·exact Option.some.inj h1
 ·cases h1
theorem name_less {a b:Nat} (hb:b≤99999999) (h:a<b):lessL (nameW a) (nameW b)=true:=by
 rw [name_parts a,name_parts b,less_app]
 refine fold_less _ _ 0 rfl (name_digs a) (name_digs b) ?_
 rw [name_val hb,name_val (by omega)]
 exact h
def durF (x:Nat×List Bat):FileD:=⟨nameW x.1,fileB x.2,(fileB x.2).length⟩
def lastF (n:Nat) (cur:List Bat) (s:Nat):List FileD:=if cur=[] then [] else [⟨nameW n,fileB cur,s⟩]
def batsW (fs:List (Nat×List Bat)):List Bat:=(fs.map (·.2)).flatten
structure BackI (d:DiskD) (n:Nat) (fs:List (Nat×List Bat)) (cur:List Bat) (j:Nat):Prop where
 quota:d.quota=0
 armed:d.armed=0
 live:d.stopped=false
 files:∃ s,d.L=fs.map durF++lastF n cur s∧(fileB (cur.take j)).length≤s∧s≤(fileB cur).length
 jle:j≤cur.length
 rise:(fs.map (·.1)++[n]).Pairwise (·<·)
 nle:n≤99999999
 chain:ChainW 1 (batsW fs++cur)
 small:(fileB cur).length≤20000*cur.length
theorem rise_app_one:∀ {A:List FileD} {f:FileD},Rise A→(∀ a∈A,lessL a.name f.name=true)→Rise (A++[f])
 | [],f,_,_=>⟨fun g hg=>(by cases hg),trivial⟩
 | a::A,f,h,hf=>by
   refine ⟨fun g hg => ?_,rise_app_one h.2 fun b hb=>hf b (List.mem_cons_of_mem _ hb)⟩
   rcases List.mem_append.1 hg with hg | hg
   ·exact h.1 g hg
   ·rw [List.mem_singleton.1 hg]
    exact hf a (List.mem_cons_self ..)
theorem BackI.less {d:DiskD} {n:Nat} {fs:List (Nat×List Bat)} {cur:List Bat} {j:Nat} (h:BackI d n fs cur j):∀ a∈fs.map durF,lessL a.name (nameW n)=true:=fun a ha=>by
 obtain ⟨x,hx,rfl⟩:=List.mem_map.1 ha
 have h1:=h.rise
 rw [List.pairwise_append] at h1
 exact name_less h.nle (h1.2.2 x.1 (List.mem_map_of_mem hx) n (List.mem_singleton.2 rfl))
theorem dur_rise:∀ {fs:List (Nat×List Bat)},(fs.map (·.1)).Pairwise (·<·)→(∀ x∈fs,x.1≤99999999)→Rise (fs.map durF)
 | [],_,_=>trivial
 | x::fs,h,hl=>by
   rw [List.map_cons,List.pairwise_cons] at h
   rw [List.map_cons]
   refine ⟨fun g hg => ?_,dur_rise h.2 fun y hy=>hl y (List.mem_cons_of_mem _ hy)⟩
   obtain ⟨y,hy,rfl⟩:=List.mem_map.1 hg
   exact name_less (hl y (List.mem_cons_of_mem _ hy)) (h.1 y.1 (List.mem_map_of_mem hy))
theorem BackI.lt {d:DiskD} {n:Nat} {fs:List (Nat×List Bat)} {cur:List Bat} {j:Nat} (h:BackI d n fs cur j):∀ x∈fs,x.1<n:=fun x hx=>by
 have h1:=h.rise
 rw [List.pairwise_append] at h1
 exact h1.2.2 x.1 (List.mem_map_of_mem hx) n (List.mem_singleton.2 rfl)
theorem BackI.riseA {d:DiskD} {n:Nat} {fs:List (Nat×List Bat)} {cur:List Bat} {j:Nat} (h:BackI d n fs cur j):Rise (fs.map durF):=by
 have h1:=h.rise
 rw [List.pairwise_append] at h1
 exact dur_rise h1.1 fun x hx=>by have:=h.lt x hx;have:=h.nle;omega
theorem BackI.good {d:DiskD} {n:Nat} {fs:List (Nat×List Bat)} {cur:List Bat} {j:Nat} (h:BackI d n fs cur j):DK.Good d:=by
 obtain ⟨s,hs,h1,h2⟩:=h.files
 refine ⟨?_,fun f hf => ?_⟩
 ·rw [hs]
  unfold lastF
  split
  ·rw [List.append_nil];exact h.riseA
  ·exact rise_app_one h.riseA h.less
 ·rw [hs] at hf
  rcases List.mem_append.1 hf with hf | hf
  ·obtain ⟨x,_,rfl⟩:=List.mem_map.1 hf
   exact Nat.le_refl _
  ·unfold lastF at hf
   split at hf
   ·cases hf
   ·rw [List.mem_singleton.1 hf]
    exact h2
theorem logs_app (a b:List (List UInt8)):logsL (a++b)=logsL a++logsL b:=by unfold logsL;rw [List.filterMap_append]
theorem logs_dur:∀ {fs:List (Nat×List Bat)},(∀ x∈fs,x.1≤99999999)→logsL ((fs.map durF).map (·.name))=fs.map (·.1)
 | [],_=>rfl
 | x::fs,h=>by
   have h1:=logs_dur fun y hy=>h y (List.mem_cons_of_mem x hy)
   unfold logsL at h1 ⊢
   rw [List.map_cons,List.map_cons,List.filterMap_cons]
   rw [show numberW (durF x).name=some x.1 from numberW_name (h x (List.mem_cons_self ..))]
   dsimp only
   rw [h1,List.map_cons]
theorem above_all {l:List Nat}:aboveL 0 l=l:=by
 unfold aboveL
 refine List.filter_eq_self.2 fun n _ => ?_
 rw [decide_eq_true_eq]
 omega
theorem told_dur {s:Int}:∀ {bs:List Bat},ChainW s bs→toldW (fileB bs)=bs:=fun h=>told_of (scans_all h)
theorem told_all:∀ {fs:List (Nat×List Bat)} {s:Int},ChainW s (batsW fs)→(fs.map fun x=>toldW (fileB x.2)).flatten=batsW fs
 | [],_,_=>rfl
 | x::fs,s,h=>by
   have e:batsW (x::fs)=x.2++batsW fs:=by unfold batsW;simp
   rw [e] at h ⊢
   obtain ⟨h1,h2⟩:=chainW_append.1 h
   rw [List.map_cons,List.flatten_cons,told_dur h1,told_all h2]
theorem repl_files {d:DiskD} {n m:Nat} {fs:List (Nat×List Bat)} {cur:List Bat} {t:Nat} (hst:d.stopped=false) (hL:d.L=fs.map durF++if cur=[] then [] else [⟨nameW n,(fileB cur).take m,t⟩]) (hlt:∀ x∈fs,x.1<n) (hr:Rise d.L) (hn:n≤99999999)
  (hc:ChainW 1 (batsW fs++cur)) (hm:m≤(fileB cur).length):∃ i,i≤cur.length∧replW d 0 1=batsW fs++cur.take i∧∀ j,j≤cur.length→(fileB (cur.take j)).length≤m→j≤i:=by
 obtain ⟨c1,c2⟩:=chainW_append.1 hc
 have hfind:∀ f∈d.L,((findL d.L f.name).map (·.b)).getD []=f.b:=fun f hf=>by rw [rise_find hr hf];rfl
 have hA:∀ x∈fs,bytesW d x.1=fileB x.2:=fun x hx=>hfind (durF x) (by rw [hL];exact List.mem_append_left _ (List.mem_map_of_mem hx))
 have hle:∀ x∈fs,x.1≤99999999:=fun x hx=>by have:=hlt x hx;omega
 have hmap:(fs.map (·.1)).map (fun n=>toldW (bytesW d n))=fs.map fun x=>toldW (fileB x.2):=by
  rw [List.map_map]
  exact List.map_congr_left fun x hx=>by show toldW (bytesW d x.1)=_;rw [hA x hx]
 unfold replW replL logsW namesW
 rw [if_neg (by simp [hst]),above_all]
 by_cases hcur:cur=[]
 ·subst hcur
  rw [if_pos rfl,List.append_nil] at hL
  refine ⟨0,Nat.le_refl _,?_,fun j hj _=>hj⟩
  rw [hL,logs_dur hle,hmap,told_all c1,List.take_nil,List.append_nil]
  exact chainT_chain c1
 ·rw [if_neg hcur] at hL
  obtain ⟨i,k,e,hi,hs,_,hmax⟩:=scans_take (p:=none) c2 (fun n hn=>by cases hn) hm
  refine ⟨i,hi,?_,fun j hj hl=>hmax j hj hl⟩
  have hB:bytesW d n=(fileB cur).take m:=hfind ⟨nameW n,(fileB cur).take m,t⟩ (by rw [hL];exact List.mem_append_right _ (List.mem_singleton.2 rfl))
  have hlogs:logsL (d.L.map (·.name))=fs.map (·.1)++[n]:=by
   rw [hL,List.map_append,logs_app,logs_dur hle]
   unfold logsL
   rw [List.map_singleton,List.filterMap_cons,numberW_name hn]
   rfl
  rw [hlogs,List.map_append,List.flatten_append,hmap,told_all c1,List.map_singleton,List.flatten_singleton,hB,told_of hs]
  have:=replay_part hc i
  rw [this,List.take_append,List.take_of_length_le (l:=batsW fs) (by omega),Nat.add_sub_cancel_left]
theorem BackI.fits {d:DiskD} {n:Nat} {fs:List (Nat×List Bat)} {cur:List Bat} {j:Nat} (h:BackI d n fs cur j) (hfs:fs.length≤100) (hcl:cur.length≤100) (hd:∀ x∈fs,(fileB x.2).length≤2000000):Fits d:=by
 obtain ⟨s,hs,h1,h2⟩:=h.files
 have hsm:=h.small
 refine ⟨h.good,?_,fun f hf => ?_,fun f hf => ?_,by rw [h.quota];omega,by rw [h.quota];omega⟩
 ·rw [hs]
  unfold lastF
  split<;>simp<;>omega
 ·rw [hs] at hf
  rcases List.mem_append.1 hf with hf | hf
  ·obtain ⟨x,hx,rfl⟩:=List.mem_map.1 hf
   have:=hd x hx
   show (fileB x.2).length≤_
   omega
  ·unfold lastF at hf
   split at hf
   ·cases hf
   ·rw [List.mem_singleton.1 hf]
    show (fileB cur).length≤_
    omega
 ·rw [hs] at hf
  rcases List.mem_append.1 hf with hf | hf
  ·obtain ⟨x,hx,rfl⟩:=List.mem_map.1 hf
   show (nameW x.1).length≤64
   rw [nameW_len]
   omega
  ·unfold lastF at hf
   split at hf
   ·cases hf
   ·rw [List.mem_singleton.1 hf]
    show (nameW n).length≤64
    rw [nameW_len]
    omega
end Go.Proofs.YtdfibahafilklaaGreatDoor.WM
namespace Go.Proofs.YtdfibahafilklaaGreatDoor.WL
open Go Go.RowKit MM WM DK
def WNob (w:World) (v:Value):Prop:=v=.pointer none∨∃ g,v=.pointer (some ⟨g,0,none⟩)∧Three w g 90 (.pointer none) (.string ⟨#[]⟩) (.int .i64 0)
theorem WNob.shape {w:World} {v:Value} (h:WNob w v):∃ p,v=.pointer p:=by
 rcases h with rfl | ⟨g,rfl,_⟩
 ·exact ⟨_,rfl⟩
 ·exact ⟨_,rfl⟩
theorem WNob.below {w w':World} {v:Value} (h:WNob w v) (hb:Below w.heap.size w w'):WNob w' v:=by
 rcases h with rfl | ⟨g,rfl,h⟩
 ·exact .inl rfl
 ·exact .inr ⟨g,rfl,h.below hb h.lt⟩
theorem made_nob (w:World) (v:Value) (h:WNob w v):Calls Tryz.prog 52 #[v] w fun e w'=>e=.returned (.bool false)∧w=w':=by
 rcases h with rfl | ⟨g,rfl,h⟩
 ·go_enter Tryz.func52,Tryz.ntmps52
  go_wp2_with fail
  go_ret
  exact ⟨rfl,rfl⟩
 ·obtain ⟨c0,c1,c2⟩:=h.cells
  have hlt:=h.lt
  clear h
  go_enter Tryz.func52,Tryz.ntmps52
  go_wp2_with fail
  go_ret
  exact ⟨rfl,rfl⟩
theorem wnumber_nob (w:World) (v:Value) (h:WNob w v):Calls Tryz.prog 34 #[v] w fun e w'=>e=.returned (.int .i64 0)∧w=w':=by
 have HM:=Lib.hid (made_nob w v h)
 obtain ⟨p,rfl⟩:=h.shape
 clear h
 go_enter Tryz.func34,Tryz.ntmps34
 go_wp2_with fail
 refine HM.out.mono ?_
 rintro e w1 ⟨rfl,rfl⟩
 clear HM
 go_wp2_with fail
 go_ret
 exact ⟨rfl,rfl⟩
theorem wsize_nob (w:World) (v:Value) (h:WNob w v):Calls Tryz.prog 35 #[v] w fun e w'=>e=.returned (.int .i64 0)∧w=w':=by
 have HM:=Lib.hid (made_nob w v h)
 obtain ⟨p,rfl⟩:=h.shape
 clear h
 go_enter Tryz.func35,Tryz.ntmps35
 go_wp2_with fail
 refine HM.out.mono ?_
 rintro e w1 ⟨rfl,rfl⟩
 clear HM
 go_wp2_with fail
 go_ret
 exact ⟨rfl,rfl⟩
theorem wsync_nob (w:World) (v:Value) (h:WNob w v):Calls Tryz.prog 22 #[v] w fun e w'=>e=.returned (.int .i64 4)∧w=w':=by
 have HM:=Lib.hid (made_nob w v h)
 obtain ⟨p,rfl⟩:=h.shape
 clear h
 go_enter Tryz.func22,Tryz.ntmps22
 go_wp2_with fail
 refine HM.out.mono ?_
 rintro e w1 ⟨rfl,rfl⟩
 clear HM
 go_wp2_with fail
 go_ret
 exact ⟨rfl,rfl⟩
theorem wappend_nob (w:World) (v u:Value) (h:WNob w v):Calls Tryz.prog 20 #[v,u] w fun e w'=>e=.returned (.int .i64 4)∧w=w':=by
 have HM:=Lib.hid (made_nob w v h)
 obtain ⟨p,rfl⟩:=h.shape
 clear h
 go_enter Tryz.func20,Tryz.ntmps20
 go_wp2_with fail
 refine HM.out.mono ?_
 rintro e w1 ⟨rfl,rfl⟩
 clear HM
 go_wp2_with fail
 go_ret
 exact ⟨rfl,rfl⟩
end Go.Proofs.YtdfibahafilklaaGreatDoor.WL
