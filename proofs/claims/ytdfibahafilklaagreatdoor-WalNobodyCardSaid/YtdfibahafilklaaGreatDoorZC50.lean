import Derived.Test.YtdfibahafilklaaGreatDoorZC49
set_option maxRecDepth 100000
set_option maxHeartbeats 8000000
set_option linter.unusedVariables false
set_option linter.unusedSimpArgs false
namespace Go.Proofs.YtdfibahafilklaaGreatDoor.WL
open Go Go.RowKit Go.Shelf Go.Maps MM WM DK BR EM
open EV (batC evC EvS EvB IsF)
open RF (VowsT GrowsT FreeT TagT LeftT rangeT_ Steady boxed_kep boxed_below)
attribute [local go_sem] Oper.semAt_some
theorem replay_any {S:Nat→Prop} {w:World} {g mb:Nat} {V:List UInt8→Value} {c:Int} {d:DiskD} (h:CObj S w g mb V c d) (hF:Fits d) (fr nx:Int) (hT:TabsW w) :
  Calls Tryz.prog 24 #[.pointer (some ⟨g,0,none⟩),.int .i64 fr,.int .i64 nx] w (RepLeft d fr nx w):=by
 have hmx:Tryz.prog.follows .mixedOrders=true:=by kernel_rfl
 have hgl:=h.glt
 have hlow:=hT.low
 obtain ⟨R,hR⟩:∃ R,w.heap.size=R:=⟨_,rfl⟩
 obtain ⟨w0,hw0⟩:∃ w0,(((((w.alloc (.cells #[.pointer (some ⟨g,0,none⟩)] 40)).alloc (.cells #[.int .i64 fr] 3)).alloc (.cells #[.int .i64 nx] 3)).alloc (.cells #[.slice none 0 0] 32)).alloc (.cells #[.int .i64 0] 3)).alloc (.cells #[.int .i64 0] 22)=w0:=⟨_,rfl⟩
 have hb0:Below w.heap.size w w0:=by
  rw [← hw0]
  exact ((((((Below.refl _ w).alloc (Nat.le_refl _) _).alloc (by simp) _).alloc (by simp;omega) _).alloc (by simp;omega) _).alloc (by simp;omega) _).alloc (by simp;omega) _
 have hs0:w0.heap.size=R+6:=by rw [← hw0,← hR];simp
 have b0:Boxed w0 R 40 (.pointer (some ⟨g,0,none⟩)):=by
  rw [← hw0,← hR]
  exact (((((Boxed.new w 40 _).alloc _).alloc _).alloc _).alloc _).alloc _
 have b1:Boxed w0 (R+1) 3 (.int .i64 fr):=by
  have:=((((Boxed.new (w.alloc (.cells #[.pointer (some ⟨g,0,none⟩)] 40)) 3 (.int .i64 fr)).alloc (.cells #[.int .i64 nx] 3)).alloc (.cells #[.slice none 0 0] 32)).alloc (.cells #[.int .i64 0] 3)).alloc (.cells #[.int .i64 0] 22)
  simp only [World.size_alloc,hR] at this
  rw [← hw0]
  exact this
 have b2:Boxed w0 (R+2) 3 (.int .i64 nx):=by
  have:=(((Boxed.new ((w.alloc (.cells #[.pointer (some ⟨g,0,none⟩)] 40)).alloc (.cells #[.int .i64 fr] 3)) 3 (.int .i64 nx)).alloc (.cells #[.slice none 0 0] 32)).alloc (.cells #[.int .i64 0] 3)).alloc (.cells #[.int .i64 0] 22)
  simp only [World.size_alloc,hR] at this
  rw [← hw0]
  exact this
 have b3:Boxed w0 (R+3) 32 (.slice none 0 0):=by
  have:=((Boxed.new (((w.alloc (.cells #[.pointer (some ⟨g,0,none⟩)] 40)).alloc (.cells #[.int .i64 fr] 3)).alloc (.cells #[.int .i64 nx] 3)) 32 (.slice none 0 0)).alloc (.cells #[.int .i64 0] 3)).alloc (.cells #[.int .i64 0] 22)
  simp only [World.size_alloc,hR] at this
  rw [← hw0]
  exact this
 have b4:Boxed w0 (R+4) 3 (.int .i64 0):=by
  have:=(Boxed.new ((((w.alloc (.cells #[.pointer (some ⟨g,0,none⟩)] 40)).alloc (.cells #[.int .i64 fr] 3)).alloc (.cells #[.int .i64 nx] 3)).alloc (.cells #[.slice none 0 0] 32)) 3 (.int .i64 0)).alloc (.cells #[.int .i64 0] 22)
  simp only [World.size_alloc,hR] at this
  rw [← hw0]
  exact this
 have b5:Boxed w0 (R+5) 22 (.int .i64 0):=by
  have:=Boxed.new (((((w.alloc (.cells #[.pointer (some ⟨g,0,none⟩)] 40)).alloc (.cells #[.int .i64 fr] 3)).alloc (.cells #[.int .i64 nx] 3)).alloc (.cells #[.slice none 0 0] 32)).alloc (.cells #[.int .i64 0] 3)) 22 (.int .i64 0)
  simp only [World.size_alloc,hR] at this
  rw [← hw0]
  exact this
 have HN:=Lib.hid (nobodys_disk (h.below hb0) hF)
 have HO:=Lib.hid h
 have HT:=Lib.hid hT
 have HFT:=Lib.hid hF
 have HB0:=Lib.hid hb0
 have HBX:=Lib.hid (And.intro b0 (And.intro b1 (And.intro b2 (And.intro b3 (And.intro b4 b5)))))
 have HW0:=Lib.hid hw0
 have HLOW:=Lib.hid hlow
 have c0:=b0.cell
 clear h hT hF hb0 hw0 b0 b1 b2 b3 b4 b5 hlow
 refine (callsIn_wide (n:=5)).1 ?_
 refine callsIn_of_wp_marks Tryz.func24 rfl trivial ?_ rfl
 simp only [Tryz.ntmps24,List.size_toArray,List.length_cons,List.length_nil,Nat.reduceAdd,Nat.reduceSub,Array.replicate_succ,Array.replicate_zero,List.push_toArray,List.append_toArray,List.nil_append,List.cons_append]
 gi_wp2
 rw [HW0.out]
 rw [show R+1+1=R+2 from rfl,show R+2+1=R+3 from rfl,show R+3+1=R+4 from rfl,show R+4+1=R+5 from rfl]
 refine ⟨trivial,(callsIn_wide.2 HN.out).mono ?_⟩
 rintro e w1 ⟨rfl,hb1⟩
 have HB1:=Lib.hid hb1
 obtain ⟨A,hA⟩:∃ A,w1.heap.size=A:=⟨_,rfl⟩
 have c0:w1.cell? ⟨R,0,none⟩=some (.pointer (some ⟨g,0,none⟩)):=(boxed_below HBX.out.1 hb1 (by omega)).cell
 obtain ⟨w2,hw2⟩:∃ w2,(((w1.alloc (.cells #[.slice none 0 0] 32)).alloc (.cells #[.int .i64 (-1)] 3)).alloc (.cells #[.bool false] 4))=w2:=⟨_,rfl⟩
 have hb2:Below w1.heap.size w1 w2:=by
  rw [← hw2]
  exact (((Below.refl _ w1).alloc (Nat.le_refl _) _).alloc (by simp) _).alloc (by simp;omega) _
 have hs2:w2.heap.size=A+3:=by rw [← hw2,← hA];simp
 have a0:Boxed w2 A 32 (.slice none 0 0):=by
  rw [← hw2,← hA]
  exact ((Boxed.new w1 32 _).alloc _).alloc _
 have a1:Boxed w2 (A+1) 3 (.int .i64 (-1)):=by
  have:=(Boxed.new (w1.alloc (.cells #[.slice none 0 0] 32)) 3 (.int .i64 (-1))).alloc (.cells #[.bool false] 4)
  simp only [World.size_alloc,hA] at this
  rw [← hw2]
  exact this
 have a2:Boxed w2 (A+2) 4 (.bool false):=by
  have:=Boxed.new ((w1.alloc (.cells #[.slice none 0 0] 32)).alloc (.cells #[.int .i64 (-1)] 3)) 4 (.bool false)
  simp only [World.size_alloc,hA] at this
  rw [← hw2]
  exact this
 have hs1:=hb1.size
 have hbb:Below w.heap.size w w2:=HB0.out.trans ((hb1.mono (by omega)).trans (hb2.mono (by omega)))
 have x0:=boxed_below (boxed_below HBX.out.1 hb1 (by omega)) hb2 (by omega)
 have x1:=boxed_below (boxed_below HBX.out.2.1 hb1 (by omega)) hb2 (by omega)
 have x2:=boxed_below (boxed_below HBX.out.2.2.1 hb1 (by omega)) hb2 (by omega)
 have x3:=boxed_below (boxed_below HBX.out.2.2.2.1 hb1 (by omega)) hb2 (by omega)
 have x4:=boxed_below (boxed_below HBX.out.2.2.2.2.1 hb1 (by omega)) hb2 (by omega)
 have x5:=boxed_below (boxed_below HBX.out.2.2.2.2.2 hb1 (by omega)) hb2 (by omega)
 have d0:(((w1.alloc (.cells #[.slice none 0 0] 32)).alloc (.cells #[.int .i64 (-1)] 3)).alloc (.cells #[.bool false] 4)).cell? ⟨R,0,none⟩=some (.pointer (some ⟨g,0,none⟩)):=by rw [hw2];exact x0.cell
 have HFI:=Lib.hid (files_any (some ⟨g,0,none⟩) w2)
 have HW2:=Lib.hid hw2
 have HX:=Lib.hid (And.intro x0 (And.intro x1 (And.intro x2 (And.intro x3 (And.intro x4 x5)))))
 have HA:=Lib.hid (And.intro a0 (And.intro a1 a2))
 have HBB:=Lib.hid hbb
 unfold FilesLeft at HFI
 rw [hs2] at HFI
 clear hb1 HN hw2 hb2 a0 a1 a2 hbb x0 x1 x2 x3 x4 x5 HBX HB0
 gi_wp2
 rw [HW2.out,show A+1+1=A+2 from rfl]
 refine ⟨trivial,(callsIn_wide.2 HFI.out).mono ?_⟩
 rintro e w3 ⟨rfl,hw3⟩
 have hb3:Below w2.heap.size w2 w3:=by rw [hw3];exact (Below.refl _ _).alloc (Nat.le_refl _) _
 have hs3:w3.heap.size=A+4:=by rw [hw3];simp [hs2]
 have hbx:Boxed w3 (A+3) 40 (.pointer (some ⟨g,0,none⟩)):=by rw [hw3,← hs2];exact Boxed.new w2 40 _
 obtain ⟨T,hT⟩:∃ T:Nat→Prop,(fun k=>k<A+4∧k≠A∧k≠A+1∧k≠A+2)=T:=⟨_,rfl⟩
 have hTi:∀ k,T k↔(k<A+4∧k≠A∧k≠A+1∧k≠A+2):=fun k=>by rw [← hT]
 have hTD:∀ k,T k→k<w3.heap.size:=fun k hk=>by rw [hs3];exact ((hTi k).1 hk).1
 have hb03:Below w.heap.size w w3:=HBB.out.trans (hb3.mono (by have:=HBB.out.size;omega))
 have hTT:TabT T:=by
  obtain ⟨l1,l2,l3⟩:=HLOW.out
  exact ⟨(hTi _).2 (by omega),(hTi _).2 (by omega),(hTi _).2 (by omega)⟩
 have hvow:=files_vow 4 (by omega) (A+3) g w3.heap.size T 82 40 (by decide) hTT HFT.out w3 (HO.out.below hb03) (HT.out.below hb03) hbx.cell hbx.lt
 obtain ⟨x0,x1,x2,x3,x4,x5⟩:=HX.out
 obtain ⟨a0,a1,a2⟩:=HA.out
 have hrb:RepB w g A (A+4) fr nx (.slice none 0 0) (lastL []) false w3:=by
  refine ⟨?_,?_,?_,?_,?_,?_,boxed_below a0 hb3 (by omega),boxed_below a1 hb3 (by omega),boxed_below a2 hb3 (by omega),hb03,by omega,by omega,by omega⟩
  all_goals rw [hR]
  ·exact boxed_below x0 hb3 (by omega)
  ·exact boxed_below x1 hb3 (by omega)
  ·exact boxed_below x2 hb3 (by omega)
  ·exact boxed_below x3 hb3 (by omega)
  ·exact boxed_below x4 hb3 (by omega)
  ·exact boxed_below x5 hb3 (by omega)
 have hI0:RepI w d g A (A+4) fr nx [] w3:=⟨_,[],false,hrb,BatsOwn.nil_ _ _,rfl,Nat.zero_le _,fun x hx=>(by cases hx)⟩
 have HVOW:=Lib.hid hvow
 have HI0:=Lib.hid hI0
 have HTD:=Lib.hid hTD
 have HTI:=Lib.hid hTi
 have hst:=repI_steady w d g A (A+4) fr nx
 have hnv:=never_steady (A+4)
 rw [hs3] at HVOW
 clear hw3 hb3 hbx hT hTi hTD hb03 hTT hvow x0 x1 x2 x3 x4 x5 a0 a1 a2 hrb hI0 HX HA HBB HFI HW2 HW0 d0 c0
 gi_wp2
 refine rangeT_ (T:=T) (et:=82) (er:=40) rfl (by omega) (gf:=108) (lb:=#[.pointer (some ⟨A+3,0,none⟩)]) rfl trivial (enters_of Tryz.func108 (by kernel_rfl) rfl)
  (by rw [hs3];exact HVOW.out) (Below.refl _ _) HTD.out (fun _=>rfl)
  (RepI w d g A (A+4) fr nx) (fun _ _=>False) (by rw [hs3];exact hst.own) (by rw [hs3];exact hnv.own) (by rw [hs3];exact hst.grows) (by rw [hs3];exact hnv.grows) (own_const _ _) HI0.out
  (fun x=>{ tmps:=#[.pointer (some ⟨g,0,none⟩),.int .i64 fr,.int .i64 nx,.pointer (some ⟨R,0,none⟩),.pointer (some ⟨R+1,0,none⟩),.pointer (some ⟨R+2,0,none⟩),.pointer (some ⟨R+3,0,none⟩),.pointer (some ⟨R+4,0,none⟩),.pointer (some ⟨R+5,0,none⟩),.pointer (some ⟨A,0,none⟩),.pointer (some ⟨A+1,0,none⟩),.pointer (some ⟨A+2,0,none⟩),.int .i64 (x:Int),.string ⟨(nameW x).toArray⟩,undef,undef,undef,undef,undef,.pointer (some ⟨g,0,none⟩),.bool false,.pointer (some ⟨g,0,none⟩),.func (.func 108) #[] #[.pointer (some ⟨A+3,0,none⟩)],.int .i64 (x:Int),.string ⟨(nameW x).toArray⟩,undef,undef,undef,undef,undef,undef,undef,undef,undef,undef,undef,undef,undef,undef,undef,undef,undef,undef,undef,undef,undef,undef,undef,undef,undef,undef,undef,undef,undef,undef,undef,undef,undef,undef,undef,undef,undef,undef,undef,undef,undef,undef],defers:=[] }) ?assign ?body ?done ?stop
 case assign =>
  intro y x W K hK
  gi_wp2
  exact hK
 case stop =>
  rintro Dk pre W hD hp hx
  exact hx.elim
 case done =>
  rintro Dk xs W hD hS ⟨v,acc,en,hB,ho,h1,h2,h3⟩ hK
  subst hS
  rw [hs3] at hD
  obtain ⟨pa,ca,hva,hac,ham,_⟩:=ho.any.shape
  subst hva
  have hlogs:(logsW d).length≤1024:=Nat.le_trans (logs_le _) (names_few HFT.out).1
  have hrep:replW d fr nx=acc:=by
   have:=acc_all d fr nx (logsW d)
   rw [h1] at this
   exact this.symm
  obtain ⟨LA,hLA⟩:∃ z,lastL (logsW d)=z:=⟨_,rfl⟩
  rw [hLA] at hB
  have hsW:=hB.sz
  have hlo:=hB.lo
  have hsw:=hB.bel.size
  have HBI:=Lib.hid hB
  have HOI:=Lib.hid ho
  have HREP:=Lib.hid hrep
  have HLA:=Lib.hid hLA
  have HACL:Hid (acc.length≤100000000000):=Lib.hid (by omega)
  have HKD:=Lib.hid hK
  clear hB ho h1 h2 h3 hrep hLA HI0 HVOW hK hlogs
  gi_wp2
  refine RF.wide_normal ?_
  refine RK.begin_ (T:=fun k=>k≠R+3∧k≠R+4∧k≠R+5) [(0,true),(1,true),(2,false),(3,false),(4,false)] hmx (by kernel_rfl) rfl (by kernel_rfl) (fun _ _ _ _ _ h=>by cases h.1) ?_
  simp only [RK.ordered,List.map_cons,List.map_nil,List.getElem?_toArray,List.getElem?_cons_succ,List.getElem?_cons_zero]
  obtain ⟨wd,hwd⟩:∃ wd,W.drew=wd:=⟨_,rfl⟩
  have hbd:Below W.heap.size W wd:=by rw [← hwd];exact (Below.refl _ _).drew
  have hBd:=HBI.out.below hbd
  have hOd:=HOI.out.below hbd
  have hKd:wd.heap[Dk]? = some (.deferred (some [])):=(hbd.block Dk (Array.getElem?_eq_some_iff.1 HKD.out).1).trans HKD.out
  have hsz:W.heap.size=wd.heap.size:=by rw [← hwd];rfl
  rw [hwd]
  clear hwd hbd HBI HOI HKD
  have F0:=fun W' (hW:Kep (fun k=>k≠R+3∧k≠R+4∧k≠R+5) wd W')=>(boxed_kep hBd.all hW ⟨by omega,by omega,by omega⟩).cell
  have F1:=fun W' (hW:Kep (fun k=>k≠R+3∧k≠R+4∧k≠R+5) wd W')=>(boxed_kep hBd.last hW ⟨by omega,by omega,by omega⟩).cell
  repeat (refine RK.take (by rfl) (by intro W' hW;have f0:=F0 W' hW;have f1:=F1 W' hW;go_simp;with_reducible rfl) ?_;simp only [Act.put,List.setIfInBounds_toArray,List.set_cons_zero,List.set_cons_succ])
  clear F0 F1
  have r0:=hBd.r0
  have r1:=hBd.r1
  have r2:=hBd.r2
  rw [hR] at r0 r1 r2
  have k1:Kep (fun b=>b≠R+3) wd (wd.setCell ⟨R+3,0,none⟩ (.slice pa acc.length ca)):=kep_set0 _
  have p0:=r0.cell
  have p1:=r0.frozen
  refine RK.alone (by rfl) (fun K hK => ?_)
  go_simp
  refine hK.out _ _ (k1.mono fun b hb=>hb.1) ?_
  clear hK K p0 p1
  try simp only [Act.put,List.setIfInBounds_toArray,List.set_cons_zero,List.set_cons_succ]
  obtain ⟨W1,hW1⟩:∃ x,wd.setCell ⟨R+3,0,none⟩ (.slice pa acc.length ca)=x:=⟨_,rfl⟩
  have s0:Boxed W1 (R+3) 32 (.slice pa acc.length ca):=by rw [← hW1];exact r0.set _
  rw [hW1] at k1 ⊢
  have s1:=boxed_kep r1 k1 (by omega)
  have s2:=boxed_kep r2 k1 (by omega)
  have k2:Kep (fun b=>b≠R+4) W1 (W1.setCell ⟨R+4,0,none⟩ (.int .i64 LA)):=kep_set0 _
  have p0:=s1.cell
  have p1:=s1.frozen
  refine RK.alone (by rfl) (fun K hK => ?_)
  go_simp
  refine hK.out _ _ (k2.mono fun b hb=>hb.2.1) ?_
  clear hK K p0 p1
  try simp only [Act.put,List.setIfInBounds_toArray,List.set_cons_zero,List.set_cons_succ]
  obtain ⟨W2,hW2⟩:∃ x,W1.setCell ⟨R+4,0,none⟩ (.int .i64 LA)=x:=⟨_,rfl⟩
  have u1:Boxed W2 (R+4) 3 (.int .i64 LA):=by rw [← hW2];exact s1.set _
  rw [hW2] at k2 ⊢
  have u0:=boxed_kep s0 k2 (by omega)
  have u2:=boxed_kep s2 k2 (by omega)
  have k3:Kep (fun b=>b≠R+5) W2 (W2.setCell ⟨R+5,0,none⟩ (.int .i64 0)):=kep_set0 _
  have p0:=u2.cell
  have p1:=u2.frozen
  refine RK.alone (by rfl) (fun K hK => ?_)
  go_simp
  refine hK.out _ _ (k3.mono fun b hb=>hb.2.2) ?_
  clear hK K p0 p1
  try simp only [Act.put,List.setIfInBounds_toArray,List.set_cons_zero,List.set_cons_succ]
  obtain ⟨W3,hW3⟩:∃ x,W2.setCell ⟨R+5,0,none⟩ (.int .i64 0)=x:=⟨_,rfl⟩
  have z2:Boxed W3 (R+5) 22 (.int .i64 0):=by rw [← hW3];exact u2.set _
  rw [hW3] at k3 ⊢
  have z0:=boxed_kep u0 k3 (by omega)
  have z1:=boxed_kep u1 k3 (by omega)
  refine RK.done ⟨rfl,?_⟩
  have kk:Kep (fun b=>b≠R+3∧b≠R+4∧b≠R+5) wd W3:=((k1.mono fun b hb=>hb.1).trans (k2.mono fun b hb=>hb.2.1)).trans (k3.mono fun b hb=>hb.2.2)
  have hlt:=(Array.getElem?_eq_some_iff.1 hKd).1
  have hK3:W3.heap[Dk]? = some (.deferred (some [])):=(kk.block Dk hlt ⟨by omega,by omega,by omega⟩).trans hKd
  have o3:=hOd.keepB kk fun b hb=>⟨by omega,by omega,by omega⟩
  have kd:Kep (fun b=>b≠Dk) W3 (W3.putObj Dk (.deferred none)):=kep_grown (grownBy_putObj' W3 Dk (.deferred none)) fun k hk hne=>by cases hk;exact hne rfl
  have hap:∀ b cur t fr,W3.heap[b]? = some (.cells cur t fr)→b≠Dk:=fun b cur t fr hc e=>by rw [e,hK3] at hc;cases hc
  have o4:BatsOwn (A+4) (W3.putObj Dk (.deferred none)) (.slice pa acc.length ca) acc:=o3.keep kd (fun b hb=>by
   rcases hb.2 with ⟨cur,fr,h⟩ | ⟨cur,fr,h⟩<;>exact hap b cur _ fr h) (fun q hq=>by obtain ⟨_,_,cur,fr,h⟩:=OwnX.cells o3 hq;exact hap q cur _ fr h)
  have y0:=(boxed_kep z0 kd (hap _ _ _ _ z0)).cell
  have y1:=(boxed_kep z1 kd (hap _ _ _ _ z1)).cell
  have y2:=(boxed_kep z2 kd (hap _ _ _ _ z2)).cell
  have hbl:Below w.heap.size w (W3.putObj Dk (.deferred none)):=(hBd.bel.trans (kk.below (by omega) fun k hk=>⟨by omega,by omega,by omega⟩)).trans (kd.below (by have:=kk.size;omega) fun k hk=>by omega)
  have HQ:Hid (RepLeft d fr nx w (.returned (.tuple #[.slice pa acc.length ca,.int .i64 LA,.int .i64 0])) (W3.putObj Dk (.deferred none))):=Lib.hid ⟨_,by rw [HLA.out],by rw [HREP.out];exact o4.base (by omega),by rw [HREP.out];exact HACL.out,hbl⟩
  have Y0:=Lib.hid y0
  have Y1:=Lib.hid y1
  have Y2:=Lib.hid y2
  have HK3:=Lib.hid hK3
  clear hBd hOd hKd r0 r1 r2 k1 s0 s1 s2 k2 u0 u1 u2 k3 z0 z1 z2 kk hK3 o3 kd hap o4 y0 y1 y2 hbl hW1 hW2 hW3 HREP HLA HACL
  gi_wp2
  refine ⟨by simp,.inl ⟨_,_,rfl,run_takeDeferred HK3.out,?_⟩⟩
  refine ⟨.tuple #[.slice pa acc.length ca,.int .i64 LA,.int .i64 0],?_,HQ.out⟩
  have c0:=Y0.out
  have c1:=Y1.out
  have c2:=Y2.out
  simp [results,Tryz.f24,go_sem,c0,c1,c2]
 case body =>
  rintro y pre x W ⟨v,acc,en,hB,ho,h1,h2,h3⟩ hx hlt
  rw [hs3]
  obtain ⟨hrd,hbl⟩:=read_log HFT.out hx
  obtain ⟨W1,hW1⟩:∃ W1,W.setCell ⟨A+1,0,none⟩ (.int .i64 (x:Int))=W1:=⟨_,rfl⟩
  have hB1:=hB.setLast (x:Int)
  have hk1:Kep (TurnX A v) W W1:=by rw [← hW1];exact turn_last _
  rw [hW1] at hB1
  have ho1:BatsOwn (A+4) W1 v acc:=by rw [← hW1];exact ho.keepB (kep_set0 _) fun b hb=>by omega
  have cl:W.cell? ⟨A+1,0,none⟩=some (.int .i64 (lastL pre)):=hB.last.cell
  have fl:W.frozen? ⟨A+1,0,none⟩=false:=hB.last.frozen
  have cf:(W.setCell ⟨A+1,0,none⟩ (.int .i64 (x:Int))).cell? ⟨R+1,0,none⟩=some (.int .i64 fr):=by rw [hW1,← hR];exact hB1.fr.cell
  have ce:(W.setCell ⟨A+1,0,none⟩ (.int .i64 (x:Int))).cell? ⟨A+2,0,none⟩=some (.bool en):=by rw [hW1];exact hB1.en.cell
  have cd:(W.setCell ⟨A+1,0,none⟩ (.int .i64 (x:Int))).cell? ⟨R,0,none⟩=some (.pointer (some ⟨g,0,none⟩)):=by rw [hW1,← hR];exact hB1.d.cell
  have hTi:=HTI.out
  have hlen1:acc.length≤67108864*(pre++[x]).length:=by rw [List.length_append,List.length_singleton];omega
  have HOW:=Lib.hid ho
  have HK1:=Lib.hid hk1
  have HB1:=Lib.hid hB1
  have HO1:=Lib.hid ho1
  have HW1:=Lib.hid hW1
  have H1:=Lib.hid h1
  have H2:=Lib.hid h2
  have H3:=Lib.hid h3
  have HL1:=Lib.hid hlen1
  have HPL:=Lib.hid hlt
  have HLS:=Lib.hid (last_snoc pre x)
  have hAD:A+3≤A+4:=by omega
  clear hB ho h1 h2 h3 hW1 hk1 hB1 ho1 hlen1 hlt HI0 HVOW
  by_cases hlo:(x:Int)<fr
  ·have t1:decide ((x:Int)<fr)=true:=decide_eq_true hlo
   have hend:KeepsFrom (A+4) W W1∧Kep (TagT T (A+4) 82 W) W W1∧RepI w d g A (A+4) fr nx (pre++[x]) W1:=by
    obtain ⟨k1,k2⟩:=rep_left HOW.out hAD (fun k hk=>(hTi k).1 hk) HK1.out
    exact ⟨k1,k2,v,acc,en,by rw [HLS.out];exact HB1.out,HO1.out,by rw [acc_low d nx pre hlo];exact H1.out,HL1.out,H3.out⟩
   have HE:=Lib.hid hend
   clear hend hlo
   gi_wp2
   rw [HW1.out]
   exact HE.out
  ·have t1:decide ((x:Int)<fr)=false:=decide_eq_false hlo
   have hhi:=acc_high d nx pre hlo
   cases en with
   | true =>
     have hend:KeepsFrom (A+4) W W1∧Kep (TagT T (A+4) 82 W) W W1∧RepI w d g A (A+4) fr nx (pre++[x]) W1:=by
      obtain ⟨k1,k2⟩:=rep_left HOW.out hAD (fun k hk=>(hTi k).1 hk) HK1.out
      exact ⟨k1,k2,v,acc,true,by rw [HLS.out];exact HB1.out,HO1.out,by rw [hhi,H1.out];rfl,HL1.out,H3.out⟩
     have HE:=Lib.hid hend
     clear hend hlo hhi
     gi_wp2
     rw [HW1.out]
     exact HE.out
   | false =>
     have hbw1:=HB1.out.bel
     have hRD:=cread_any S g mb V c d (nameW x) 0 67108864 W1 (HO.out.below hbw1) HFT.out (by rw [nameW_len];omega) (by omega) (by omega) (by omega) (by omega)
     rw [hrd] at hRD
     unfold PartC at hRD
     dsimp only at hRD
     rw [H1.out] at hhi
     obtain ⟨bb,hbb⟩:∃ b,bytesW d x=b:=⟨_,rfl⟩
     rw [hbb] at hRD hhi hbl
     have HRD:=Lib.hid hRD
     have HHI:=Lib.hid hhi
     have hbl2:bb.length≤1000000000000:=by omega
     clear hlo hhi hRD hbw1 hrd hbb
     gi_wp2
     rw [HW1.out]
     refine ⟨trivial,(CallsIn.inRound y (callsIn_wide.2 HRD.out)).mono ?_⟩
     rintro e W2 ⟨vb,rfl,hvb,hbl3⟩
     have HSC:=Lib.hid (scan_any vb bb W2 hvb hbl2)
     have HB2:=Lib.hid (HB1.out.below hbl3)
     have HO2:=Lib.hid (HO1.out.below hbl3)
     have HK2:=Lib.hid (HK1.out.trans (turn_below hbl3))
     obtain ⟨pb,cb,rfl,_⟩:=hvb.shape
     have t2:((0:Int) != 0)=false:=rfl
     clear hvb hbl3 HRD HB1 HO1 HK1 HW1
     gi_wp2
     refine ⟨trivial,(CallsIn.inRound y (callsIn_wide.2 HSC.out)).mono ?_⟩
     rintro e W3 ⟨bs,k,er,vt,hsc,hok,hlen,rfl,hbs,hbl4⟩
     have htold:=scan_told hsc
     have hhi:=HHI.out
     rw [htold] at hhi
     have hsz2:=HB2.out.sz
     have HBS:=Lib.hid (hbs.base hsz2)
     have HB3:=Lib.hid (HB2.out.below hbl4)
     have HO3:=Lib.hid (HO2.out.below hbl4)
     have HK3:=Lib.hid (HK2.out.trans (turn_below hbl4))
     have HOK:=Lib.hid hok
     obtain ⟨pt,ct,rfl,htc,htm,_⟩:=hbs.any.shape
     have hbn:=fun (i:Nat) (hi:i<bs.length)=>bat_at HBS.out.any hi
     have HBSL:Hid (bs.length≤67108864):=Lib.hid (by omega)
     have HACC:Hid (acc.length≤67108864*1025):=Lib.hid (by have:=H2.out;have:=HPL.out;omega)
     clear hbs hbl4 hsc htold HHI HSC HB2 HO2 HK2 hok hlen
     obtain ⟨pa,ca,hva,hac,ham,_⟩:=HO3.out.any.shape
     subst hva
     unfold maxLen at ham htm
     cases bs with
     | nil =>
       have HHJ:Hid (accR d fr nx (pre++[x])=(acc++[],false)):=Lib.hid (by rw [hhi,List.append_nil];rfl)
       have q0:decide ((0:Int)>0)=false:=rfl
       clear hbn hhi
       gi_wp2
       refine RF.beginR (T:=fun k=>k≠A+2) (.take 0<|.take 1<|.take 2<|.take 3<|.take 4<|.take 5<|.take 6<|.take 7<|.take 8<|.take 9<|.alone 10<|.take 11<|.take 12<|.alone 13<|.done) hmx (by kernel_rfl) rfl (by kernel_rfl) (fun ⟨_,_,h⟩=>h) (by kernel_rfl) (fun _ _ d _ _ h=>by cases d<;>exact h) ?_
       simp only [RT.ordered,List.getElem?_toArray,List.getElem?_cons_succ,List.getElem?_cons_zero]
       obtain ⟨wd,hwd⟩:∃ wd,W3.drew=wd:=⟨_,rfl⟩
       have hbd:Below W3.heap.size W3 wd:=by rw [← hwd];exact (Below.refl _ _).drew
       have hBd:=HB3.out.below hbd
       have hOd:=HO3.out.below hbd
       have HSd:=Lib.hid (HBS.out.below hbd)
       have HKd:=Lib.hid (HK3.out.trans (turn_below hbd))
       have HBd:=Lib.hid hBd
       have HOd:=Lib.hid hOd
       rw [hwd]
       have F3:∀ W',Kep (fun k=>k≠A+2) wd W'→True:=fun _ _=>trivial
       have F4:=fun W' (hW:Kep (fun k=>k≠A+2) wd W')=>(boxed_kep hBd.all hW (by omega)).cell
       have F5:∀ W',Kep (fun k=>k≠A+2) wd W'→W'.cell? ⟨R+2,0,none⟩=some (.int .i64 nx):=fun W' hW=>by rw [← hR];exact (boxed_kep hBd.nx hW (by have:=hBd.lo;omega)).cell
       clear hwd hbd HO3 HB3 HBS HK3 hBd hOd
       repeat (first | (refine RT.take (by rfl) (by intro W' hW;have g3:=F3 W' hW;have g4:=F4 W' hW;have g5:=F5 W' hW;go_simp;with_reducible rfl) ?_;simp only [Act.put,List.setIfInBounds_toArray,List.set_cons_zero,List.set_cons_succ]) | (refine RT.skip (by rfl) ?_;simp only [Act.put,List.setIfInBounds_toArray,List.set_cons_zero,List.set_cons_succ]))
       clear F3 F4 F5
       refine RT.alone (RT.step_skip (by rfl) ?_)
       simp only [Act.put,List.setIfInBounds_toArray,List.set_cons_zero,List.set_cons_succ]
       repeat (first | (refine RT.take (by rfl) (by intro W' hW;go_simp;with_reducible rfl) ?_;simp only [Act.put,List.setIfInBounds_toArray,List.set_cons_zero,List.set_cons_succ]) | (refine RT.skip (by rfl) ?_;simp only [Act.put,List.setIfInBounds_toArray,List.set_cons_zero,List.set_cons_succ]))
       obtain ⟨W4,hW4⟩:∃ W4,wd=W4:=⟨_,rfl⟩
       have HB4:=HBd
       have HO4:=HOd
       have HS4:=HSd
       have HK4:=HKd
       clear HBd HOd HSd HKd
       subst hW4
       refine RT.alone (RT.step (by rfl) (fun K hK => ?_))
       have ge:=HB4.out.en.cell
       have gf:=HB4.out.en.frozen
       go_simp
       refine hK.out _ _ (kep_set0 _) ?_
       clear hK K ge gf
       try simp only [Act.put,List.setIfInBounds_toArray,List.set_cons_zero,List.set_cons_succ]
       refine RT.done ?_
       obtain ⟨W5,hW5⟩:∃ W5,wd.setCell ⟨A+2,0,none⟩ (.bool false)=W5:=⟨_,rfl⟩
       have hB5:=HB4.out.setEn false
       have hk5:=HK4.out.trans (turn_en (A:=A) (v:=.slice pa acc.length ca) (W:=wd) (.bool false))
       have ho5:BatsOwn (A+4) W5 (.slice pa acc.length ca) acc:=by rw [← hW5];exact HO4.out.keepB (kep_set0 _) fun b hb=>by omega
       have hs5:BatsOwn (A+4) W5 (.slice pt 0 ct) []:=by rw [← hW5];exact HS4.out.keepB (kep_set0 _) fun b hb=>by omega
       rw [hW5] at hB5 hk5
       have HB5:=Lib.hid hB5
       have HK5:=Lib.hid hk5
       have HO5:=Lib.hid ho5
       have HS5:=Lib.hid hs5
       have ce:W5.cell? ⟨A+2,0,none⟩=some (.bool false):=hB5.en.cell
       have ca5:W5.cell? ⟨A,0,none⟩=some (.slice pa acc.length ca):=hB5.all.cell
       have HW5:=Lib.hid hW5
       rw [hW5]
       clear hB5 hk5 ho5 hs5 hW5 HB4 HO4 HS4 HK4
       have hlA:=HACC.out
       gi_wp2_with (gi_at_builtin;refine wpListIn_append_any batE rfl _ _ rfl (A+4) (.slice pa acc.length ca) acc rfl HO5.out (fun b _ hb=>evB_apt hb.2) (.slice pt 0 ct) ([]:List Bat) rfl HS5.out.src (by show acc.length+0≤_;unfold maxLen;omega) (by show (acc.length+0)*32≤_;omega) HB5.out.sz ?_;intro v6 W6 ho6 hb6 hg6;have hk6:Kep (fun b=>(Value.slice pa acc.length ca).ownBlock≠some b) W5 W6:=kep_grown hg6 (fun k hk hne=>hne hk);have hB6:=HB5.out.keep hk6 (fun b hb e=>by have:=(OwnX.cells HO5.out e).1;omega);obtain ⟨p6,c6,rfl,_⟩:=(OwnX.any ho6).shape;have HB6:=Lib.hid hB6;have HK6:=Lib.hid (HK5.out.trans (hk6.mono fun b hb=>hb.2.2.2));have HO6:Hid (BatsOwn (A+4) W6 (.slice p6 acc.length c6) (acc++([]:List Bat))):=Lib.hid (by have hq:=OwnX.weak (T:=EvS (A+4) W6) ho6 (fun b _ hb=>evS_keep hk6 hb (HO5.out.own_ne hb.2));rw [show (acc++([]:List Bat)).length=acc.length by rw [List.append_nil]] at hq;exact hq);have ca6:W6.cell? ⟨A,0,none⟩=some (.slice pa acc.length ca):=hB6.all.cell;have fa6:W6.frozen? ⟨A,0,none⟩=false:=hB6.all.frozen;clear ho6 hb6 hg6 hk6 hB6)
       have hend:KeepsFrom (A+4) W (W6.setCell ⟨A,0,none⟩ (.slice p6 acc.length c6))∧Kep (TagT T (A+4) 82 W) W (W6.setCell ⟨A,0,none⟩ (.slice p6 acc.length c6))∧RepI w d g A (A+4) fr nx (pre++[x]) (W6.setCell ⟨A,0,none⟩ (.slice p6 acc.length c6)):=by
        obtain ⟨k1,k2⟩:=rep_left HOW.out hAD (fun k hk=>(hTi k).1 hk) (HK6.out.trans (turn_all (A:=A) (v:=.slice pa acc.length ca) (W:=W6) (.slice p6 acc.length c6)))
        refine ⟨k1,k2,.slice p6 acc.length c6,acc++([]:List Bat),false,by rw [HLS.out];exact HB6.out.setAll _,HO6.out.keepB (kep_set0 _) fun b hb=>by omega,HHJ.out,?_,fun z hz=>(List.mem_append.1 hz).elim (H3.out z) (HOK.out z)⟩
        have:=H2.out
        rw [List.append_nil]
        rw [List.length_append,List.length_singleton]
        omega
       exact hend
     | cons b0 r =>
       obtain ⟨b,off,ev,hpt,hbl5,_,k0,k1,_⟩:=hbn 0 (by simp)
       subst hpt
       have hl0:0<(b0::r).length:=by simp
       have q0:decide (((b0::r).length:Int)>0)=true:=by rw [decide_eq_true_eq];omega
       have q1:decide (0<(b0::r).length)=true:=decide_eq_true hl0
       have q2:(0:Int)<((b0::r).length:Int):=by omega
       replace k0:W3.cell? ⟨b,off,none⟩=some (.int .i64 b0.1):=by simpa using k0
       have hbA:A+4≤b:=(OwnX.cells HBS.out (g:=b) rfl).1
       have hbW:b<W3.heap.size:=(OwnX.cells HBS.out (g:=b) rfl).2.1
       clear hbn
       obtain ⟨BL,hBL⟩:∃ n,(b0::r).length=n:=⟨_,rfl⟩
       obtain ⟨z0,hz0⟩:∃ z,b0.1=z:=⟨_,rfl⟩
       have HSAME:Hid (z0=behindW acc nx→accR d fr nx (pre++[x])=(acc++(b0::r),false)):=Lib.hid (fun h=>by rw [hhi];exact rep_same (by rw [hz0];exact h))
       have HDIFF:Hid (z0≠behindW acc nx→accR d fr nx (pre++[x])=(acc,true)):=Lib.hid (fun h=>by rw [hhi];exact rep_other (by rw [hz0];exact h))
       rw [hz0] at k0
       obtain ⟨BS,hBS⟩:∃ L,b0::r=L:=⟨_,rfl⟩
       rw [hBS] at HBS HOK HSAME HBSL hl0 q0 q1 q2 hBL htc ⊢
       rw [hBL] at HBS HBSL hl0 q0 q1 q2 htc ⊢
       have HBL:=Lib.hid hBL
       have HBH:=Lib.hid (fun W (h:RAny batC W (.slice pa acc.length ca) acc)=>behind_any (.slice pa acc.length ca) acc nx W h H3.out)
       clear hhi hz0 hBS hBL k1
       by_cases hq:z0=behindW acc nx
       ·have HHJ:=Lib.hid (HSAME.out hq)
        have t3:(z0 != behindW acc nx)=false:=by rw [bne_eq_false_iff_eq];exact hq
        clear HSAME HDIFF hq
        gi_wp2
        refine RF.beginR (T:=fun k=>k≠A+2) (.take 0<|.take 1<|.take 2<|.take 3<|.take 4<|.take 5<|.take 6<|.take 7<|.take 8<|.take 9<|.alone 10<|.take 11<|.take 12<|.alone 13<|.done) hmx (by kernel_rfl) rfl (by kernel_rfl) (fun ⟨_,_,h⟩=>h) (by kernel_rfl) (fun _ _ d _ _ h=>by cases d<;>exact h) ?_
        simp only [RT.ordered,List.getElem?_toArray,List.getElem?_cons_succ,List.getElem?_cons_zero]
        obtain ⟨wd,hwd⟩:∃ wd,W3.drew=wd:=⟨_,rfl⟩
        have hbd:Below W3.heap.size W3 wd:=by rw [← hwd];exact (Below.refl _ _).drew
        have hBd:=HB3.out.below hbd
        have hOd:=HO3.out.below hbd
        have HSd:=Lib.hid (HBS.out.below hbd)
        have HKd:=Lib.hid (HK3.out.trans (turn_below hbd))
        have HBd:=Lib.hid hBd
        have HOd:=Lib.hid hOd
        rw [hwd]
        have F3:∀ W',Kep (fun k=>k≠A+2) wd W'→W'.cell? ⟨b,off,none⟩=some (.int .i64 z0):=fun W' hW=>(hW.cell (by have:=hbd.size;omega) (by omega) off).trans ((hbd.cell (p:=⟨b,off,none⟩) hbW).trans k0)
        have F4:=fun W' (hW:Kep (fun k=>k≠A+2) wd W')=>(boxed_kep hBd.all hW (by omega)).cell
        have F5:∀ W',Kep (fun k=>k≠A+2) wd W'→W'.cell? ⟨R+2,0,none⟩=some (.int .i64 nx):=fun W' hW=>by rw [← hR];exact (boxed_kep hBd.nx hW (by have:=hBd.lo;omega)).cell
        clear hwd hbd HO3 HB3 HBS HK3 hBd hOd k0
        repeat (first | (refine RT.take (by rfl) (by intro W' hW;have g3:=F3 W' hW;have g4:=F4 W' hW;have g5:=F5 W' hW;go_simp;with_reducible rfl) ?_;simp only [Act.put,List.setIfInBounds_toArray,List.set_cons_zero,List.set_cons_succ]) | (refine RT.skip (by rfl) ?_;simp only [Act.put,List.setIfInBounds_toArray,List.set_cons_zero,List.set_cons_succ]))
        clear F3 F4 F5
        refine RT.alone (RT.step (by rfl) (fun K hK => ?_))
        go_simp
        refine (HBH.out wd HOd.out.any).mono ?_
        rintro e W4 ⟨rfl,hb4⟩
        go_simp
        refine hK.out _ _ (kep_below _ hb4) ?_
        clear hK K
        have HB4:=Lib.hid (HBd.out.below hb4)
        have HO4:=Lib.hid (HOd.out.below hb4)
        have HS4:=Lib.hid (HSd.out.below hb4)
        have HK4:=Lib.hid (HKd.out.trans (turn_below hb4))
        clear hb4 HBd HOd HSd HKd HBH
        try simp only [Act.put,List.setIfInBounds_toArray,List.set_cons_zero,List.set_cons_succ]
        repeat (first | (refine RT.take (by rfl) (by intro W' hW;go_simp;with_reducible rfl) ?_;simp only [Act.put,List.setIfInBounds_toArray,List.set_cons_zero,List.set_cons_succ]))
        refine RT.alone (RT.step (by rfl) (fun K hK => ?_))
        have ge:=HB4.out.en.cell
        have gf:=HB4.out.en.frozen
        go_simp
        refine hK.out _ _ (kep_set0 _) ?_
        clear hK K ge gf
        try simp only [Act.put,List.setIfInBounds_toArray,List.set_cons_zero,List.set_cons_succ]
        refine RT.done ?_
        obtain ⟨W5,hW5⟩:∃ W5,W4.setCell ⟨A+2,0,none⟩ (.bool false)=W5:=⟨_,rfl⟩
        have hB5:=HB4.out.setEn false
        have hk5:=HK4.out.trans (turn_en (A:=A) (v:=.slice pa acc.length ca) (W:=W4) (.bool false))
        have ho5:BatsOwn (A+4) W5 (.slice pa acc.length ca) acc:=by rw [← hW5];exact HO4.out.keepB (kep_set0 _) fun b hb=>by omega
        have hs5:BatsOwn (A+4) W5 (.slice (some ⟨b,off,none⟩) BL ct) BS:=by rw [← hW5];exact HS4.out.keepB (kep_set0 _) fun b hb=>by omega
        rw [hW5] at hB5 hk5
        have HB5:=Lib.hid hB5
        have HK5:=Lib.hid hk5
        have HO5:=Lib.hid ho5
        have HS5:=Lib.hid hs5
        have ce:W5.cell? ⟨A+2,0,none⟩=some (.bool false):=hB5.en.cell
        have ca5:W5.cell? ⟨A,0,none⟩=some (.slice pa acc.length ca):=hB5.all.cell
        have HW5:=Lib.hid hW5
        rw [hW5]
        clear hB5 hk5 ho5 hs5 hW5 HB4 HO4 HS4 HK4
        have hlA:=HACC.out
        have hlB:=HBSL.out
        gi_wp2_with (gi_at_builtin;refine wpListIn_append_any batE rfl _ _ rfl (A+4) (.slice pa acc.length ca) acc rfl HO5.out (fun b _ hb=>evB_apt hb.2) (.slice (some ⟨b,off,none⟩) BL ct) BS rfl HS5.out.src (by rw [HBL.out];unfold maxLen;omega) (by rw [HBL.out];omega) HB5.out.sz ?_;intro v6 W6 ho6 hb6 hg6;have hk6:Kep (fun b=>(Value.slice pa acc.length ca).ownBlock≠some b) W5 W6:=kep_grown hg6 (fun k hk hne=>hne hk);have hB6:=HB5.out.keep hk6 (fun b hb e=>by have:=(OwnX.cells HO5.out e).1;omega);obtain ⟨p6,c6,rfl,_⟩:=(OwnX.any ho6).shape;have HB6:=Lib.hid hB6;have HK6:=Lib.hid (HK5.out.trans (hk6.mono fun b hb=>hb.2.2.2));have HO6:Hid (BatsOwn (A+4) W6 (.slice p6 (acc.length+BS.length) c6) (acc++BS)):=Lib.hid (by have hq:=OwnX.weak (T:=EvS (A+4) W6) ho6 (fun b _ hb=>evS_keep hk6 hb (HO5.out.own_ne hb.2));rw [List.length_append] at hq;exact hq);have ca6:W6.cell? ⟨A,0,none⟩=some (.slice pa acc.length ca):=hB6.all.cell;have fa6:W6.frozen? ⟨A,0,none⟩=false:=hB6.all.frozen;clear ho6 hb6 hg6 hk6 hB6)
        have hend:KeepsFrom (A+4) W (W6.setCell ⟨A,0,none⟩ (.slice p6 (acc.length+BS.length) c6))∧Kep (TagT T (A+4) 82 W) W (W6.setCell ⟨A,0,none⟩ (.slice p6 (acc.length+BS.length) c6))∧RepI w d g A (A+4) fr nx (pre++[x]) (W6.setCell ⟨A,0,none⟩ (.slice p6 (acc.length+BS.length) c6)):=by
         obtain ⟨k1,k2⟩:=rep_left HOW.out hAD (fun k hk=>(hTi k).1 hk) (HK6.out.trans (turn_all (A:=A) (v:=.slice pa acc.length ca) (W:=W6) (.slice p6 (acc.length+BS.length) c6)))
         refine ⟨k1,k2,.slice p6 (acc.length+BS.length) c6,acc++BS,false,by rw [HLS.out];exact HB6.out.setAll _,HO6.out.keepB (kep_set0 _) fun b hb=>by omega,HHJ.out,?_,fun z hz=>(List.mem_append.1 hz).elim (H3.out z) (HOK.out z)⟩
         have:=H2.out
         have:=HBL.out
         rw [List.length_append,List.length_append,List.length_singleton]
         omega
        exact hend
       ·have HHJ:=Lib.hid (HDIFF.out hq)
        have t3:(z0 != behindW acc nx)=true:=by rw [bne_iff_ne];exact hq
        clear HSAME HDIFF hq
        gi_wp2
        refine RF.beginR (T:=fun k=>k≠A+2) (.take 0<|.take 1<|.take 2<|.take 3<|.take 4<|.take 5<|.take 6<|.take 7<|.take 8<|.take 9<|.alone 10<|.take 11<|.take 12<|.alone 13<|.done) hmx (by kernel_rfl) rfl (by kernel_rfl) (fun ⟨_,_,h⟩=>h) (by kernel_rfl) (fun _ _ d _ _ h=>by cases d<;>exact h) ?_
        simp only [RT.ordered,List.getElem?_toArray,List.getElem?_cons_succ,List.getElem?_cons_zero]
        obtain ⟨wd,hwd⟩:∃ wd,W3.drew=wd:=⟨_,rfl⟩
        have hbd:Below W3.heap.size W3 wd:=by rw [← hwd];exact (Below.refl _ _).drew
        have hBd:=HB3.out.below hbd
        have hOd:=HO3.out.below hbd
        have HSd:=Lib.hid (HBS.out.below hbd)
        have HKd:=Lib.hid (HK3.out.trans (turn_below hbd))
        have HBd:=Lib.hid hBd
        have HOd:=Lib.hid hOd
        rw [hwd]
        have F3:∀ W',Kep (fun k=>k≠A+2) wd W'→W'.cell? ⟨b,off,none⟩=some (.int .i64 z0):=fun W' hW=>(hW.cell (by have:=hbd.size;omega) (by omega) off).trans ((hbd.cell (p:=⟨b,off,none⟩) hbW).trans k0)
        have F4:=fun W' (hW:Kep (fun k=>k≠A+2) wd W')=>(boxed_kep hBd.all hW (by omega)).cell
        have F5:∀ W',Kep (fun k=>k≠A+2) wd W'→W'.cell? ⟨R+2,0,none⟩=some (.int .i64 nx):=fun W' hW=>by rw [← hR];exact (boxed_kep hBd.nx hW (by have:=hBd.lo;omega)).cell
        clear hwd hbd HO3 HB3 HBS HK3 hBd hOd k0
        repeat (first | (refine RT.take (by rfl) (by intro W' hW;have g3:=F3 W' hW;have g4:=F4 W' hW;have g5:=F5 W' hW;go_simp;with_reducible rfl) ?_;simp only [Act.put,List.setIfInBounds_toArray,List.set_cons_zero,List.set_cons_succ]) | (refine RT.skip (by rfl) ?_;simp only [Act.put,List.setIfInBounds_toArray,List.set_cons_zero,List.set_cons_succ]))
        clear F3 F4 F5
        refine RT.alone (RT.step (by rfl) (fun K hK => ?_))
        go_simp
        refine (HBH.out wd HOd.out.any).mono ?_
        rintro e W4 ⟨rfl,hb4⟩
        go_simp
        refine hK.out _ _ (kep_below _ hb4) ?_
        clear hK K
        have HB4:=Lib.hid (HBd.out.below hb4)
        have HO4:=Lib.hid (HOd.out.below hb4)
        have HS4:=Lib.hid (HSd.out.below hb4)
        have HK4:=Lib.hid (HKd.out.trans (turn_below hb4))
        clear hb4 HBd HOd HSd HKd HBH
        try simp only [Act.put,List.setIfInBounds_toArray,List.set_cons_zero,List.set_cons_succ]
        repeat (first | (refine RT.take (by rfl) (by intro W' hW;go_simp;with_reducible rfl) ?_;simp only [Act.put,List.setIfInBounds_toArray,List.set_cons_zero,List.set_cons_succ]))
        refine RT.alone (RT.step (by rfl) (fun K hK => ?_))
        have ge:=HB4.out.en.cell
        have gf:=HB4.out.en.frozen
        go_simp
        refine hK.out _ _ (kep_set0 _) ?_
        clear hK K ge gf
        try simp only [Act.put,List.setIfInBounds_toArray,List.set_cons_zero,List.set_cons_succ]
        refine RT.done ?_
        obtain ⟨W5,hW5⟩:∃ W5,W4.setCell ⟨A+2,0,none⟩ (.bool true)=W5:=⟨_,rfl⟩
        have hB5:=HB4.out.setEn true
        have hk5:=HK4.out.trans (turn_en (A:=A) (v:=.slice pa acc.length ca) (W:=W4) (.bool true))
        have ho5:BatsOwn (A+4) W5 (.slice pa acc.length ca) acc:=by rw [← hW5];exact HO4.out.keepB (kep_set0 _) fun b hb=>by omega
        have hs5:BatsOwn (A+4) W5 (.slice (some ⟨b,off,none⟩) BL ct) BS:=by rw [← hW5];exact HS4.out.keepB (kep_set0 _) fun b hb=>by omega
        rw [hW5] at hB5 hk5
        have HB5:=Lib.hid hB5
        have HK5:=Lib.hid hk5
        have HO5:=Lib.hid ho5
        have HS5:=Lib.hid hs5
        have ce:W5.cell? ⟨A+2,0,none⟩=some (.bool true):=hB5.en.cell
        have ca5:W5.cell? ⟨A,0,none⟩=some (.slice pa acc.length ca):=hB5.all.cell
        have HW5:=Lib.hid hW5
        rw [hW5]
        clear hB5 hk5 ho5 hs5 hW5 HB4 HO4 HS4 HK4
        have hend:KeepsFrom (A+4) W W5∧Kep (TagT T (A+4) 82 W) W W5∧RepI w d g A (A+4) fr nx (pre++[x]) W5:=by
         obtain ⟨k1,k2⟩:=rep_left HOW.out hAD (fun k hk=>(hTi k).1 hk) HK5.out
         exact ⟨k1,k2,.slice pa acc.length ca,acc,true,by rw [HLS.out];exact HB5.out,HO5.out,HHJ.out,HL1.out,H3.out⟩
        have HE:=Lib.hid hend
        clear hend
        gi_wp2
        exact HE.out
end Go.Proofs.YtdfibahafilklaaGreatDoor.WL
