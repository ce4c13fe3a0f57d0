import Derived.Test.YtdijhifdjbnkfaaGreatZD23
import Derived.Test.YtdijhifdjbnkfaaGreatZD36
set_option maxRecDepth 100000
set_option maxHeartbeats 8000000
set_option linter.unusedVariables false
set_option linter.unusedSimpArgs false
namespace Go.Proofs.YtdijhifdjbnkfaaGreat.DT
open Go Go.RowKit Go.Shelf MM DM
open RF (ZbE ZaM)
attribute [local go_sem] Oper.semAt_some
abbrev Part:=Value×List Ent
abbrev encP (x:Part):Array Value:=#[x.1]
def VowP (T:Nat→Prop) (l:List Ent) (x:Part) (W:World):Prop:=ROn entC T W x.1 x.2∧∃ k,x.2=ZeK l k
theorem ZtW {α:Type} {C:Codec α} {S:Nat→Prop} {w:World} {p:Option Addr} {n cap cap':Nat} {es:List α} (h:ROn C S w (.slice p n cap) es) (h1:n≤cap') (h2:cap'≤maxLen) (h3:p≠none):ROn C S w (.slice p n cap') es:=by
 obtain ⟨p',c',raw,hv,a1,a2,a3,hm,hc⟩:=h
 simp only [Value.slice.injEq] at hv
 obtain ⟨rfl,rfl,rfl⟩:=hv
 exact ⟨_,cap',raw,rfl,h1,h2,fun h=>absurd h h3,hm,hc⟩
theorem ZeS (l:List Ent) (k m:Nat) (h:m=min 16 (l.length - 16*k)):(l.drop (16*k)).take m=ZeK l k:=by
 unfold ZeK
 subst h
 by_cases h2:16≤l.length - 16*k
 ·rw [Nat.min_eq_left h2]
 ·rw [Nat.min_eq_right (by omega),List.take_of_length_le (by rw [List.length_drop];exact Nat.le_refl _),List.take_of_length_le (by rw [List.length_drop];omega)]
theorem ZeU (n:Nat) (hn:1≤n) (y bs bn:Nat) (T:Nat→Prop) (v0:Value) (l:List Ent) (J Jx:List Part→World→Prop) (hJ:ZaM J)
  (hY:∀ pre x A,J pre A→VowP T l x A→pre.length<Ze3 l→YieldAt Fence.wide (n - 1) Tryz.prog y (encP x) A fun e B =>
   (e=.returned (.bool true)∧J (pre++[x]) B∧Kep T A B)∨(e=.returned (.bool false)∧Jx (pre++[x]) B))
  (W:World) (hbs:W.cell? ⟨bs,0,none⟩=some v0) (hbn:W.cell? ⟨bn,0,none⟩=some (.int .i64 16)) (hbs1:T bs) (hbn1:T bn) (hl:ROn entC T W v0 l) (h0:J [] W) (hlen:l.length≤262144) :
  CallsIn Fence.wide n Tryz.prog 196 #[.func (.yield y) #[] #[],.pointer (some ⟨bs,0,none⟩),.pointer (some ⟨bn,0,none⟩)] W fun e B=>(∃ v,e=.returned v) ∧
   ((∃ xs,xs.map (·.2)=Ze4 l∧J xs B)∨(∃ pre,True∧Jx pre B)):=by
 obtain ⟨p0,cap0,rfl,hlc,hcm,_⟩:=hl.shape
 unfold maxLen at hcm
 have hmx:Tryz.prog.follows .mixedOrders=true:=by kernel_rfl
 have HB0:=Lib.hid (And.intro hl (And.intro hbs hbn))
 have HT0:Hid (([]:List Part).map (·.2)=(List.range 0).map (ZeK l)):=Lib.hid rfl
 have HY:=Lib.hid hY
 clear hl hY hbs hbn
 refine callsIn_of_wp Tryz.func196 rfl trivial ?_ rfl
 simp only [Tryz.ntmps196,List.size_toArray,List.length_cons,List.length_nil,Nat.reduceAdd,Nat.reduceSub,Array.replicate_succ,Array.replicate_zero,List.push_toArray,List.append_toArray,List.nil_append,List.cons_append]
 gi_wp2
 gi_loopw [4] (fun iv wr=>∃ (k:Nat) (xs:List Part),iv=.int .i64 ((16*k:Nat):Int)∧k≤Ze3 l∧xs.length=k∧Hid (xs.map (·.2)=(List.range k).map (ZeK l))∧Hid (ROn entC T wr (.slice p0 l.length cap0) l∧wr.cell? ⟨bs,0,none⟩=some (.slice p0 l.length cap0)∧wr.cell? ⟨bn,0,none⟩=some (.int .i64 16))∧J xs wr) (fun iv _=>16*Ze3 l+16 - (intOf iv).toNat)
 case atStart=>exact ⟨0,[],rfl,Nat.zero_le _,rfl,HT0,HB0,h0⟩
 case round =>
  obtain ⟨k,xs,rfl,hk,hxl,HT,HR,hJs⟩:=hrel
  clear HT0 HB0 h0
  obtain ⟨hr,hcs,hcn⟩:=HR.out
  have hNd:Ze3 l=(l.length+15) / 16:=rfl
  obtain ⟨i,hi⟩:∃ i,16*k=i:=⟨_,rfl⟩
  rw [hi]
  by_cases hlt:i<l.length
  ·have q1:decide ((i:Int)<(l.length:Int))=true:=by rw [decide_eq_true_eq];omega
   have q2:decide (i<l.length)=true:=by rw [decide_eq_true_eq];omega
   have q3:(i:Int)≤(l.length:Int):=by omega
   obtain ⟨m,hm⟩:∃ m,min 16 (l.length - i)=m:=⟨_,rfl⟩
   have hmin1:min (16:Int) ((l.length - i:Nat):Int)=(m:Int):=by omega
   have hmin2:(if l.length - i<16 then ((l.length - i:Nat):Int) else 16)=(m:Int):=by split<;>omega
   obtain ⟨e,he⟩:∃ e,i+m=e:=⟨_,rfl⟩
   have hie:(i:Int)+(m:Int)=(e:Int):=by omega
   have hiw:IntKind.i64.wrap ((i:Int)+(m:Int))=(e:Int):=by rw [IntKind.wrap_i64];omega
   have q4:(e:Int)≤(cap0:Int):=by omega
   have q5:(i:Int)≤(e:Int):=by omega
   obtain ⟨b,off,rfl,hbl,hbn₀,_⟩:=Zht hr hlt
   have hrow:=(ROn.drop hr i (by omega)).take m (by omega)
   rw [if_neg (by omega),Option.map_some,Zb5,Zhz] at hrow
   have hrow2:=ZtW (cap':=m) hrow (Nat.le_refl _) (by unfold maxLen;omega) (by simp)
   rw [show (l.drop i).take m=ZeK l k by rw [← hi];exact ZeS l k m (by omega)] at hrow2
   rw [show m=e - i by omega] at hrow2
   obtain ⟨wd,hwd⟩:∃ wd,wr.drew=wd:=⟨_,rfl⟩
   have hbd:Below wr.heap.size wr wd:=by rw [← hwd];exact (Below.refl _ _).drew
   have hgd:wr.grownBy wd none:=⟨hbd.os,hbd.tape,hbd.output,hbd.size,fun k hk _=>hbd.block k hk⟩
   have hJd:=hJ xs wr wd hJs hgd
   obtain ⟨fn,tmps,assign,body,hy,hRd⟩:=HY.out xs (.slice (some ⟨b,off+i*4,none⟩) (e - i) (e - i),ZeK l k) wd hJd ⟨ROn.keep hrow2 (ZmT T hbd) (fun _ _ h=>h),k,rfl⟩ (by omega)
   dsimp only [encP] at hy
   rw [← hwd] at hy
   have HRd:=Lib.hid hRd
   have HWD:=Lib.hid hwd
   have HQ:Hid (ROn entC T wd (.slice (some ⟨b,off,none⟩) l.length cap0) l∧wd.cell? ⟨bs,0,none⟩=some (.slice (some ⟨b,off,none⟩) l.length cap0)∧wd.cell? ⟨bn,0,none⟩=some (.int .i64 16)):=Lib.hid ⟨ROn.keep hr (ZmT T hbd) (fun _ _ h=>h),(hbd.cell (p:=⟨bs,0,none⟩) (World.block_lt_of_cell? _ _ hcs)).trans hcs,(hbd.cell (p:=⟨bn,0,none⟩) (World.block_lt_of_cell? _ _ hcn)).trans hcn⟩
   have HXN:Hid ((xs++[((.slice (some ⟨b,off+i*4,none⟩) (e - i) (e - i):Value),ZeK l k)]).map (·.2)=(List.range (k+1)).map (ZeK l)):=Lib.hid (by rw [List.map_append,HT.out,List.range_succ,List.map_append];rfl)
   have HI:Hid (16*k=i):=Lib.hid hi
   have hkl:k+1≤Ze3 l:=by omega
   have HLK:Hid (k<Ze3 l):=Lib.hid (by omega)
   clear hrow hrow2 hbd hgd hwd hRd hr HR HT hJs hi HY
   gi_wp2
   gi_region_with_o (fail)
   all_goals gi_wp2
   all_goals rw [HWD.out]
   all_goals refine HRd.out.mono ?_
   all_goals rintro e w3 (⟨rfl,hJ3,hb3⟩ | ⟨rfl,hJ3⟩)
   all_goals first
    | (have hr3:ROn entC T w3 (.slice (some ⟨b,off,none⟩) l.length cap0) l:=ROn.keep HQ.out.1 hb3 (fun _ _ h=>h)
       have cs3:w3.cell? ⟨bs,0,none⟩=some (.slice (some ⟨b,off,none⟩) l.length cap0):=(hb3.cell (World.block_lt_of_cell? _ _ HQ.out.2.1) hbs1 0).trans HQ.out.2.1
       have cn3:w3.cell? ⟨bn,0,none⟩=some (.int .i64 16):=(hb3.cell (World.block_lt_of_cell? _ _ HQ.out.2.2) hbn1 0).trans HQ.out.2.2
       have HR3:=Lib.hid (And.intro hr3 (And.intro cs3 cn3))
       clear hr3 hb3 HRd hy HQ HWD HLK
       gi_wp2
       have hi:=HI.out
       go_roundw
       case rel=>exact ⟨k+1,_,by rw [show ((16*(k+1):Nat):Int)=(i:Int)+16 by omega],hkl,by rw [List.length_append,hxl];rfl,HXN,HR3,hJ3⟩
       case measure=>simp [intOf];omega)
    | (clear HRd hy HQ HWD
       gi_wp2
       refine bodyPost_ret (results_none rfl _ _ _) rfl ?_
       exact ⟨⟨_,rfl⟩,.inr ⟨_,trivial,hJ3⟩⟩)
  ·have q1:decide ((i:Int)<(l.length:Int))=false:=by rw [decide_eq_false_iff_not];omega
   have q2:decide (i<l.length)=false:=by rw [decide_eq_false_iff_not];omega
   have hkN:k=Ze3 l:=by omega
   have ht:=HT.out
   rw [hkN] at ht
   have HT9:Hid (xs.map (·.2)=Ze4 l):=Lib.hid ht
   clear ht HT hi hkN hlt
   gi_wp2
   go_end0
   exact ⟨⟨_,rfl⟩,.inl ⟨xs,HT9.out,hJs⟩⟩
theorem ZeJ (n:Nat) (p:Option Addr) (m c:Nat) (W:World) :
  CallsIn Fence.wide n Tryz.prog 133 #[.slice p m c,.int .i64 16] W fun e B=>e=.returned (.func (.func 196) #[] #[.pointer (some ⟨W.heap.size,0,none⟩),.pointer (some ⟨W.heap.size+1,0,none⟩)])∧B=(W.alloc (.cells #[.slice p m c] 97)).alloc (.cells #[.int .i64 16] 3):=by
 refine callsIn_of_wp Tryz.func133 rfl trivial ?_ rfl
 simp only [Tryz.ntmps133,List.size_toArray,List.length_cons,List.length_nil,Nat.reduceAdd,Nat.reduceSub,Array.replicate_succ,Array.replicate_zero,List.push_toArray,List.append_toArray,List.nil_append,List.cons_append]
 gi_wp2
 go_ret
 exact ⟨rfl,rfl⟩
theorem ZeZ (n:Nat) (hn:1≤n) (bs bn:Nat) (T:Nat→Prop) (v:Value) (l:List Ent) (w:World) (hlen:l.length≤262144) (hbs:T bs) (hbn:T bn) (hT:∀ k,T k→k<w.heap.size) (hcs:w.cell? ⟨bs,0,none⟩=some v) (hcn:w.cell? ⟨bn,0,none⟩=some (.int .i64 16)) (hl:ROn entC T w v l) :
  ZbE Fence.wide n Tryz.prog 196 #[.pointer (some ⟨bs,0,none⟩),.pointer (some ⟨bn,0,none⟩)] encP T (VowP T l) (fun xs=>xs.map (·.2)=Ze4 l) (fun _=>True) (Ze3 l) w :=
 fun y J Jx W hW hJ _ hY h0=>ZeU n hn y bs bn T v l J Jx hJ hY W ((hW.cell (p:=⟨bs,0,none⟩) (hT _ hbs)).trans hcs) ((hW.cell (p:=⟨bn,0,none⟩) (hT _ hbn)).trans hcn) hbs hbn (ROn.keep hl (ZmT T hW) (fun _ _ h=>h)) h0 hlen
end Go.Proofs.YtdijhifdjbnkfaaGreat.DT
namespace Go.Proofs.YtdijhifdjbnkfaaGreat.DT
open Go Go.RowKit Go.Shelf MM DM VM GB
open RF (ZbE ZaM Za0 Zsr)
attribute [local go_sem] Oper.semAt_some
theorem Zch (l:List Ent):l.any oddX=false↔∀ x∈l,okW x:=by
 rw [List.any_eq_false]
 constructor
 ·intro h x hx
  have:=h x hx
  unfold oddX at this
  simpa using this
 ·intro h x hx
  unfold oddX
  simpa using h x hx
theorem Zg2 (v:Value) (l:List Ent) (w:World) (hv:RAny entC w v l) (h:areD l=false):Calls Tryz.prog 79 #[v] w fun e w'=>e=.returned (.tuple #[.slice none 0 0,.int .i64 110])∧Below w.heap.size w w':=by
 have HR:=Lib.hid (Zty v l [] w hv)
 have HO:=Lib.hid (fun W (hW:Below w.heap.size w W)=>ZeA v l W (RAny.below hv hW))
 obtain ⟨p,cap,rfl,hlc,hcm,_⟩:=hv.shape
 clear hv
 by_cases hn:l.length≤262144
 ·have q1:decide ((l.length:Int)>262144)=false:=by rw [decide_eq_false_iff_not];omega
  have q2:decide (262144<l.length)=false:=by rw [decide_eq_false_iff_not];omega
  cases hr:Ztt [] l with
  | false =>
    rw [hr] at HR
    clear hr hn HO h
    go_enter Tryz.func79,Tryz.ntmps79
    go_wp2_with fail
    refine HR.out.mono ?_
    rintro e w1 ⟨rfl,hb1⟩
    have HB:=Lib.hid hb1
    clear hb1 HR
    go_wp2_with fail
    go_ret2
    exact ⟨rfl,HB.out⟩
  | true =>
    rw [hr] at HR
    have ho:l.any oddX=true:=by
     cases ho:l.any oddX with
     | true=>rfl
     | false =>
       unfold areD at h
       rw [(Zcw l).2 ⟨(Zch l).1 ho,hr⟩,decide_eq_true hn] at h
       cases h
    rw [ho] at HO
    clear hr hn ho h
    go_enter Tryz.func79,Tryz.ntmps79
    go_wp2_with fail
    refine HR.out.mono ?_
    rintro e w1 ⟨rfl,hb1⟩
    have HO1:=Lib.hid (HO.out w1 hb1)
    have HB:=Lib.hid hb1
    clear hb1 HR HO
    go_wp2_with fail
    refine HO1.out.mono ?_
    rintro e w2 ⟨rfl,hb2⟩
    have HB2:=Lib.hid (HB.out.trans (hb2.mono HB.out.size))
    clear hb2 HO1 HB
    go_wp2_with fail
    go_ret2
    exact ⟨rfl,HB2.out⟩
 ·have q1:decide ((l.length:Int)>262144)=true:=by rw [decide_eq_true_eq];omega
  have q2:decide (262144<l.length)=true:=by rw [decide_eq_true_eq];omega
  clear hn h HR HO
  go_enter Tryz.func79,Tryz.ntmps79
  go_wp2_with fail
  go_ret2
  exact ⟨rfl,Below.refl _ _⟩
theorem Zqs {W W':World} {row:Option Nat} {base e size n:Nat} {v:Value} {xs:List Value} (h:W.ownsRow base e size v n xs) (hg:W.grownBy W' row) (hr:∀ r,row=some r→∃ o:Obj,W.heap[r]? = some o∧o.isCells=false):W'.ownsRow base e size v n xs:=by
 refine h.kept hg ?_
 rcases h.2 with ⟨rfl,_⟩ | ⟨g,cap,cur,rfl,_,hgb,_⟩
 ·exact .inl rfl
 ·refine .inr fun e' => ?_
  obtain ⟨o,ho,hc⟩:=hr g (by simpa [Value.ownBlock] using e'.symm)
  rw [hgb] at ho
  cases ho
  cases hc
theorem ZdL {W W':World} {row:Option Nat} {B:Nat} {t:TypeId} {v:Value} (h:Boxed W B t v) (hg:W.grownBy W' row) (hr:∀ r,row=some r→∃ o:Obj,W.heap[r]? = some o∧o.isCells=false):Boxed W' B t v :=
 h.kept hg (fun e=>by
  obtain ⟨o,ho,hc⟩:=hr B e.symm
  rw [show W.heap[B]? = _ from h] at ho
  cases ho
  cases hc)
theorem Zyw (T:Nat→Prop) (l:List Ent) (D:Nat) (hD:∀ k,T k→k<D):OwnFrom D (VowP T l):=fun x W W' row h hg hr =>
 ⟨ROn.keep h.1 (ZmW hg fun k hk hT=>by have:=(hr k hk).1;have:=hD k hT;omega) (fun _ _ h=>h),h.2⟩
def InvE (w:World) (B0 Bb:Nat) (T:Nat→Prop) (l:List Ent) (H:List UInt8) (pre:List Part) (W:World):Prop :=
 ∃ v,Boxed W Bb 23 v∧OwnB B0 W v (H++(pre.map (·.2)).flatMap blkB)∧(∀ g,v.ownBlock=some g→¬ T g)∧(∀ x∈pre,∃ k,x.2=ZeK l k)∧Below B0 w W∧B0≤Bb∧∀ k,T k→k<W.heap.size
theorem Zmp (w:World) (B0 Bb:Nat) (T:Nat→Prop) (l:List Ent) (H:List UInt8) (D:Nat) (hD:B0≤D) (hw:B0≤w.heap.size):OwnFrom D (InvE w B0 Bb T l H):=fun pre W W' row h hg hr=>by
 obtain ⟨v,h1,h2,h3,h4,h5,h6,h7⟩:=h
 have hsz:=h5.size
 exact ⟨v,ZdL h1 hg fun r e=>(hr r e).2,Zqs h2 hg fun r e=>(hr r e).2,h3,h4,h5.grown hg (by omega) (fun k hk=>by have:=(hr k hk).1;omega),h6,fun k hk=>Nat.lt_of_lt_of_le (h7 k hk) hg.size⟩
theorem ZcX {l:List Ent} (hw:∀ x∈l,okW x) (k:Nat):(blkB (ZeK l k)).length≤2000:=by
 have h1:=Zdr (ZeK l k) [] (Ze0 hw k)
 have h2:=ZeX l k
 have h3:=(EM.Zxv (Zdm [] (ZeK l k))).1
 unfold blkB
 omega
theorem Zq0 {l:List Ent} (hw:∀ x∈l,okW x):∀ {pre:List Part},(∀ x∈pre,∃ k,x.2=ZeK l k)→((pre.map (·.2)).flatMap blkB).length≤2000*pre.length
 | [],_=>by simp
 | x::pre,h=>by
   have ih:=Zq0 hw (pre:=pre) fun y hy=>h y (by simp [hy])
   obtain ⟨k,hk⟩:=h x (by simp)
   have:=ZcX hw k
   rw [List.map_cons,List.flatMap_cons,List.length_append,List.length_cons,hk]
   omega
theorem Zg3 (v:Value) (l:List Ent) (w:World) (hv:RAny entC w v l) (h:areD l=true):Calls Tryz.prog 79 #[v] w (Zam (encD l) 0 w):=by
 obtain ⟨hw,hr,hn⟩:=ZkO h
 have HR:=Lib.hid (Zty v l [] w hv)
 have HO:=Lib.hid (fun W (hW:Below w.heap.size w W)=>ZeA v l W (RAny.below hv hW))
 rw [hr] at HR
 rw [(Zch l).2 hw] at HO
 have HV:=Lib.hid (RAny.bel hv)
 have HP:=Lib.hid (fun W=>VP.Zr2 (.slice none 0 0) [] l.length W (by omega) (BRow.nil_ W) (by simp))
 simp only [List.nil_append] at HP
 obtain ⟨p,cap,rfl,hlc,hcm,_⟩:=hv.shape
 have q1:decide ((l.length:Int)>262144)=false:=by rw [decide_eq_false_iff_not];omega
 have q2:decide (262144<l.length)=false:=by rw [decide_eq_false_iff_not];omega
 have hwr:IntKind.u64.wrap (l.length:Int)=(l.length:Int):=by rw [IntKind.wrap_u64];omega
 have HENC:=Lib.hid (ZgO l)
 clear hv hr
 refine (callsIn_wide (n:=5)).1 ?_
 refine callsIn_of_wp_marks Tryz.func79 rfl trivial ?_ rfl
 simp only [Tryz.ntmps79,List.size_toArray,List.length_cons,List.length_nil,Nat.reduceAdd,Nat.reduceSub,Array.replicate_succ,Array.replicate_zero,List.push_toArray,List.append_toArray,List.nil_append,List.cons_append]
 gi_wp2
 refine ⟨trivial,(callsIn_wide.2 HR.out).mono ?_⟩
 rintro e w1 ⟨rfl,hb1⟩
 have HO1:=Lib.hid (HO.out w1 hb1)
 have HB1:=Lib.hid hb1
 clear hb1 HR HO
 gi_wp2
 refine ⟨trivial,(callsIn_wide.2 HO1.out).mono ?_⟩
 rintro e w2 ⟨rfl,hb2⟩
 have HB2:=Lib.hid (HB1.out.trans (hb2.mono HB1.out.size))
 clear hb2 HO1 HB1
 gi_wp2
 refine ⟨trivial,(callsIn_wide.2 (HP.out w2)).mono ?_⟩
 rintro e w3 ⟨v3,rfl,ho3,hb3⟩
 have hs2:=HB2.out.size
 have hb03:Below w.heap.size w w3:=HB2.out.trans (hb3.mono hs2)
 obtain ⟨H,hH⟩:∃ H,Zd8 l.length=H:=⟨_,rfl⟩
 rw [hH] at ho3 HENC
 have hHl:H.length≤10:=by rw [← hH];exact (Zea _).2
 have hlt3:=Zqh ho3
 have ho3':OwnB w.heap.size w3 v3 H:=OwnB.weaken ho3 hs2
 obtain ⟨p3,c3,rfl,_⟩:=(OwnB.brow ho3).shape
 clear ho3 hb3 HP HB2 hH
 gi_wp2
 refine ⟨trivial,(ZeJ 4 p l.length cap _).mono ?_⟩
 rintro e w5 ⟨rfl,rfl⟩
 obtain ⟨Bb,hBb⟩:∃ b,w3.heap.size=b:=⟨_,rfl⟩
 have hs3:=hb03.size
 have bB:=Boxed.new w3 23 (.slice p3 H.length c3)
 obtain ⟨w4,hw4⟩:∃ W,w3.alloc (.cells #[.slice p3 H.length c3] 23)=W:=⟨_,rfl⟩
 have hb4:Below w3.heap.size w3 w4:=by rw [← hw4];exact (Below.refl _ _).alloc (Nat.le_refl _) _
 have hs4:w4.heap.size=Bb+1:=by rw [← hw4,← hBb];simp
 have hc1:((w4.alloc (.cells #[.slice p l.length cap] 97)).alloc (.cells #[.int .i64 16] 3)).cell? ⟨Bb+1,0,none⟩=some (.slice p l.length cap):=by
  rw [((Below.refl (w4.alloc (.cells #[.slice p l.length cap] 97)).heap.size _).alloc (Nat.le_refl _) (.cells #[.int .i64 16] 3)).cell (p:=⟨Bb+1,0,none⟩) (by simp [hs4]),← hs4,cell_of_row _ _ 0 _ _ _ (heap_alloc_new w4 _)]
  rfl
 have hc2:((w4.alloc (.cells #[.slice p l.length cap] 97)).alloc (.cells #[.int .i64 16] 3)).cell? ⟨Bb+1+1,0,none⟩=some (.int .i64 16):=by
  have e:(w4.alloc (.cells #[.slice p l.length cap] 97)).heap.size=Bb+1+1:=by simp [hs4]
  rw [← e,cell_of_row _ _ 0 _ _ _ (heap_alloc_new _ _)]
  rfl
 have hb45:Below w4.heap.size w4 ((w4.alloc (.cells #[.slice p l.length cap] 97)).alloc (.cells #[.int .i64 16] 3)):=((Below.refl _ _).alloc (Nat.le_refl _) _).alloc (by simp) _
 have hs5:((w4.alloc (.cells #[.slice p l.length cap] 97)).alloc (.cells #[.int .i64 16] 3)).heap.size=Bb+3:=by simp [hs4]
 rw [hw4,hBb] at bB
 have hmx:Tryz.prog.follows .mixedOrders=true:=by kernel_rfl
 rw [hw4]
 rw [hs4]
 obtain ⟨w5,hw5⟩:∃ W,((w4.alloc (.cells #[.slice p l.length cap] 97)).alloc (.cells #[.int .i64 16] 3))=W:=⟨_,rfl⟩
 rw [hw5] at hc1 hc2 hb45 hs5 ⊢
 rw [hBb] at hlt3 hs3 hb4
 have hb05:Below w.heap.size w w5:=(hb03.trans (hb4.mono (by omega))).trans (hb45.mono (by omega))
 have hown5:OwnB w.heap.size w5 (.slice p3 H.length c3) H:=(ho3'.keep (by rw [hBb];exact hb4)).keep hb45
 have hlo3:∀ g,(Value.slice p3 H.length c3).ownBlock=some g→w.heap.size≤g∧g<Bb:=fun g hg=>⟨(World.ownsRow.lt ho3' g hg).1,hlt3 g hg⟩
 obtain ⟨T,hT⟩:∃ T:Nat→Prop,(fun k=>k<w.heap.size∨k=Bb+1∨k=Bb+1+1)=T:=⟨_,rfl⟩
 have hTi:∀ k,T k↔(k<w.heap.size∨k=Bb+1∨k=Bb+1+1):=fun k=>by rw [← hT]
 have hTD:∀ k,T k→k<w5.heap.size:=fun k hk=>by rw [hTi] at hk;omega
 have hI0:InvE w w.heap.size Bb T l H [] w5:=by
  refine ⟨.slice p3 H.length c3,(hb45.block Bb (by omega)).trans bB,?_,?_,by simp,hb05,hs3,hTD⟩
  ·simpa using hown5
  ·intro g hg hTg
   have:=hlo3 g hg
   rw [hTi] at hTg
   omega
 have hrow5:ROn entC T w5 (.slice p l.length cap) l:=ROn.weak (RBel.below HV.out hb05) fun b _ hb=>(hTi b).2 (.inl hb)
 have HTI:=Lib.hid hTi
 have HS5:=Lib.hid hs5
 have HVOW:=Lib.hid (ZeZ 4 (by omega) (Bb+1) (Bb+1+1) T _ l w5 hn ((hTi _).2 (.inr (.inl rfl))) ((hTi _).2 (.inr (.inr rfl))) hTD hc1 hc2 hrow5)
 have HS3:=Lib.hid hs3
 clear hT hTi hs5 hw5 hw4 hb4 hb45 hs4 bB hc1 hc2 hown5 hlo3 ho3' hlt3 hb03 hrow5 hb05 hs2
 gi_wp2
 refine Zsr rfl (by omega) (gf:=196) (lb:=#[.pointer (some ⟨Bb+1,0,none⟩),.pointer (some ⟨Bb+1+1,0,none⟩)]) rfl trivial (enters_of Tryz.func196 (by kernel_rfl) rfl)
  HVOW.out (Below.refl _ _) hTD (fun _=>rfl)
  (InvE w w.heap.size Bb T l H) (fun _ _=>False) (Zmp w w.heap.size Bb T l H _ (by have:=HS5.out;omega) (Nat.le_refl _)) (fun _ _ _ _ h _ _=>h) (Zyw T l _ hTD) hI0
  (fun x=>{ tmps:=#[.slice p l.length cap,undef,.slice none 0 0,.int .i64 0,.pointer (some ⟨Bb,0,none⟩),x.1,.slice p l.length cap,.int .i64 (l.length:Int),.bool false,.bool false,.slice p l.length cap,.bool true,.bool false,.bool false,.bool false,.slice p l.length cap,.bool false,.bool false,.slice p l.length cap,.int .i64 (l.length:Int),.int .u64 (l.length:Int),.slice p3 H.length c3,.slice p l.length cap,.func (.func 196) #[] #[.pointer (some ⟨Bb+1,0,none⟩),.pointer (some ⟨Bb+1+1,0,none⟩)],x.1,undef,undef,undef,undef],defers:=[] }) ?assign ?body ?done ?stop
 case assign =>
  intro y x W K hK
  gi_wp2
  exact hK
 case body =>
  rintro y pre ⟨xv,xc⟩ W ⟨v,b1,o1,t1,m1,bl1,hB0,hTW⟩ ⟨hrow,k,hxk⟩ hlt
  dsimp only at hrow hxk
  subst hxk
  have hpl:=Zq0 hw m1
  have hchk:=ZeX l k
  have hNb:Ze3 l≤16384:=by unfold Ze3;omega
  obtain ⟨A,hA⟩:∃ A,H++(pre.map (·.2)).flatMap blkB=A:=⟨_,rfl⟩
  have hAl:A.length≤1000000000:=by rw [← hA,List.length_append];omega
  rw [hA] at o1
  have HAB:=Lib.hid (Zcl v xv A (ZeK l k) W (OwnB.zero o1) hrow.any (Ze0 hw k) (by omega) hAl)
  have cB:=b1.cell
  have fB:=b1.frozen
  obtain ⟨q,qc,rfl,_⟩:=(OwnB.brow o1).shape
  obtain ⟨qx,qxc,rfl,_⟩:=hrow.shape
  have HB1:=Lib.hid b1
  have HO1:=Lib.hid o1
  have HT1:=Lib.hid t1
  have HBL:=Lib.hid bl1
  have HM1:=Lib.hid m1
  have HAE:Hid (H++((pre++[((.slice qx (ZeK l k).length qxc:Value),ZeK l k)]).map (·.2)).flatMap blkB=A++blkB (ZeK l k)):=Lib.hid (by rw [List.map_append,List.flatMap_append,← hA];simp)
  have HTW:=Lib.hid hTW
  obtain ⟨Z,hZ⟩:∃ Z,A++blkB (ZeK l k)=Z:=⟨_,rfl⟩
  rw [hZ] at HAB HAE
  clear b1 o1 t1 m1 bl1 hA hpl hchk hNb hrow hTW hZ
  gi_wp2
  refine ⟨trivial,(CallsIn.inRound y (callsIn_wide.2 HAB.out)).mono ?_⟩
  rintro e w6 ⟨v6,rfl,ho6,hg6⟩
  obtain ⟨q6,qc6,rfl,_⟩:=(OwnB.brow ho6).shape
  obtain ⟨v6,hv6⟩:∃ u,(.slice q6 Z.length qc6:Value)=u:=⟨_,rfl⟩
  rw [hv6] at ho6 hg6
  have hnr:=HB1.out.not_row (by decide:(23:TypeId)≠5) HO1.out
  have hb6:Boxed w6 Bb 23 (.slice q A.length qc):=HB1.out.kept hg6.1 hnr
  have f6:=hb6.frozen
  have c6:=hb6.cell
  have hnr6:=hb6.not_row (by decide:(23:TypeId)≠5) ho6
  have hend:KeepsFrom w5.heap.size W (w6.setCell ⟨Bb,0,none⟩ v6)∧Kep T W (w6.setCell ⟨Bb,0,none⟩ v6)∧InvE w w.heap.size Bb T l H (pre++[((.slice qx (ZeK l k).length qxc:Value),ZeK l k)]) (w6.setCell ⟨Bb,0,none⟩ v6):=by
   have hk6:Kep T W w6:=hg6.kep.mono fun j hj e=>HT1.out j e hj
   have hTB:¬ T Bb:=fun h=>by have:=(HTI.out Bb).1 h;have:=HS3.out;omega
   have hlo:∀ g,(Value.slice q A.length qc).ownBlock=some g→w.heap.size≤g:=fun g hg=>(World.ownsRow.lt HO1.out g hg).1
   have hsW:=HBL.out.size
   refine ⟨?_,hk6.trans (ZmZ hTB v6),?_⟩
   ·have h1:KeepsOthers W w6:=⟨hg6.1.size,fun j o hj ho=>by
     have hlt:=(Array.getElem?_eq_some_iff.1 hj).1
     rw [hg6.1.block j hlt fun e => ?_]
     ·exact hj
     ·obtain ⟨_,cur,fr,hc⟩:=Zp8 HO1.out e.symm
      rw [hj] at hc
      cases hc
      cases ho⟩
    exact (h1.trans (KeepsOthers.setCell _ _ _)).from _
   ·have hbel6:Below w.heap.size w w6:=HBL.out.trans (hg6.kep.below hsW fun j hj e=>by have:=hlo j e;omega)
    refine ⟨v6,hb6.set v6,?_,?_,?_,hbel6.setCell (p:=⟨Bb,0,none⟩) HS3.out v6,HS3.out,fun j hj=>Nat.lt_of_lt_of_le (HTW.out j hj) (by have:=hg6.1.size;simpa using this)⟩
    ·rw [HAE.out]
     have ho:OwnB w.heap.size w6 v6 Z:=OwnB.from ho6 fun g hg=>by
      rcases hg6.2 g hg with e | e
      ·exact hlo g e
      ·omega
     exact World.ownsRow.kept ho (grownBy_setCell' w6 Bb v6) (.inr hnr6.symm)
    ·intro g hg hTg
     rcases hg6.2 g hg with e | e
     ·exact HT1.out g e hTg
     ·have:=HTW.out g hTg;omega
    ·intro x hx
     rcases List.mem_append.1 hx with hx | hx
     ·exact HM1.out x hx
     ·simp only [List.mem_singleton] at hx
      subst hx
      exact ⟨k,rfl⟩
  subst hv6
  have HE:=Lib.hid hend
  clear hend hnr hb6 hnr6 ho6 hg6 HAB cB fB
  gi_wp2
  exact HE.out
 case done =>
  rintro D xs W hD hS ⟨v,b1,o1,t1,m1,bl1,hB0,hTW⟩ hK
  rw [hS,← HENC.out] at o1
  have cB:=b1.cell
  obtain ⟨q,qc,rfl,_⟩:=(OwnB.brow o1).shape
  have HO1:=Lib.hid o1
  have HBL:=Lib.hid bl1
  clear o1 bl1 t1 m1 hTW
  gi_wp2
  refine ⟨by simp,.inl ⟨_,_,rfl,run_takeDeferred hK,?_⟩⟩
  have hgp:=grownBy_putObj' W D (.deferred none)
  have hnc:∀ r,some D=some r→∃ o:Obj,W.heap[r]? = some o∧o.isCells=false:=fun r e=>by cases e;exact ⟨_,hK,rfl⟩
  refine ⟨.tuple #[.slice q (encD l).length qc,.int .i64 0],?_,.slice q (encD l).length qc,rfl,Zqs HO1.out hgp hnc,HBL.out.grown hgp (by have:=HBL.out.size;omega) (fun k e=>by cases e;have:=HS5.out;omega)⟩
  simp [results,Tryz.f79,go_sem]
 case stop =>
  rintro D pre W hD _ hF hK
  exact hF.elim
theorem Zg1 (v:Value) (l:List Ent) (w:World) (hv:RAny entC w v l):Calls Tryz.prog 79 #[v] w (Zam (if areD l then encD l else []) (if areD l then 0 else 110) w):=by
 cases h:areD l with
 | true =>
   rw [if_pos rfl,if_pos rfl]
   exact Zg3 v l w hv h
 | false =>
   rw [if_neg (by simp),if_neg (by simp)]
   refine (Zg2 v l w hv h).mono ?_
   rintro e w' ⟨rfl,hb⟩
   exact ⟨_,rfl,World.ownsRow_nil _ _ _ _,hb⟩
end Go.Proofs.YtdijhifdjbnkfaaGreat.DT
