import Derived.Test.YtdfibahafilklaaGreatDoorZC38
import Derived.Test.YtdfibahafilklaaGreatDoorZC39
set_option maxRecDepth 100000
set_option maxHeartbeats 8000000
set_option linter.unusedVariables false
set_option linter.unusedSimpArgs false
namespace Go.Proofs.YtdfibahafilklaaGreatDoor.BR
open Go Go.RowKit MM EM
open EV (batC bat_on evC ev_at EvS EvB IsF)
theorem batE:Elem batC Tryz.prog 32 82 32:=⟨Tryz.underlying32,by
 have h:(Tryz.prog.info? 82).map (fun i=>(i.zero,i.size,i.bytes))=some (some (.agg #[.int .i64 0,.slice none 0 0]),2,32):=by kernel_rfl
 obtain ⟨i,h1,h2,h3,h4⟩:=info_parts h
 exact ⟨i,_,h1,h2,h3,h4,rfl⟩⟩
theorem bat_at {S:Nat→Prop} {w:World} {p:Option Addr} {n cap:Nat} {bs:List Bat} (h:ROn batC S w (.slice p n cap) bs) {k:Nat} (hk:k<bs.length) :
  ∃ b off v,p=some ⟨b,off,none⟩∧b<w.heap.size∧S b∧w.cell? ⟨b,off+k*2,none⟩=some (.int .i64 bs[k].1)∧w.cell? ⟨b,off+k*2+1,none⟩=some v∧ROn evC S w v bs[k].2:=by
 obtain ⟨b,off,vs,hp,hlt,hS,hon,hc⟩:=h.at_ hk
 rw [bat_on] at hon
 obtain ⟨v,rfl,hr⟩:=hon
 exact ⟨b,off,v,hp,hlt,hS,hc 0 _ rfl,hc 1 _ rfl,hr⟩
theorem evB_apt {B:Nat} {w:World} {b:Nat} (h:EvB w b):Apt 82 B w b:=.inr fun cur fr hc=>by
 rcases h with ⟨c2,f2,h2⟩ | ⟨c2,f2,h2⟩ <;>
 ·rw [h2] at hc
  simp only [Option.some.injEq,Obj.cells.injEq] at hc
  exact absurd hc.2.1 (by decide)
def BatsOwn (B:Nat) (w:World) (v:Value) (bs:List Bat):Prop:=OwnX batC 82 B (EvS B w) w v bs
theorem BatsOwn.nil_ (B:Nat) (w:World):BatsOwn B w (.slice none 0 0) []:=OwnX.nil_ _ _ _ _
theorem BatsOwn.own_ne {B:Nat} {w:World} {v:Value} {bs:List Bat} (h:BatsOwn B w v bs) {b:Nat} (hb:EvB w b):v.ownBlock≠some b:=fun e=>by
 obtain ⟨_,_,c1,f1,h1⟩:=OwnX.cells h e
 rcases hb with ⟨c2,f2,h2⟩ | ⟨c2,f2,h2⟩ <;>
 ·rw [h2] at h1
  simp only [Option.some.injEq,Obj.cells.injEq] at h1
  exact absurd h1.2.1 (by decide)
theorem evS_keep {B:Nat} {T:Nat→Prop} {w w':World} (hk:Kep T w w') {b:Nat} (h:EvS B w b) (hT:T b):EvS B w' b:=⟨h.1,h.2.keep hk hT⟩
theorem BatsOwn.keep {B:Nat} {T:Nat→Prop} {w w':World} {v:Value} {bs:List Bat} (h:BatsOwn B w v bs) (hk:Kep T w w') (hS:∀ b,EvS B w b→T b) (hg:∀ g,v.ownBlock=some g→T g):BatsOwn B w' v bs :=
 (OwnX.keep h hk (fun b _ hb=>hS b hb) hg).weak (S:=EvS B w) fun b _ hb=>evS_keep hk hb (hS b hb)
theorem BatsOwn.keepB {B:Nat} {T:Nat→Prop} {w w':World} {v:Value} {bs:List Bat} (h:BatsOwn B w v bs) (hk:Kep T w w') (hT:∀ b,B≤b→T b):BatsOwn B w' v bs:=h.keep hk (fun b hb=>hT b hb.1) fun g hg=>hT g (OwnX.cells h hg).1
theorem BatsOwn.below {B:Nat} {w w':World} {v:Value} {bs:List Bat} (h:BatsOwn B w v bs) (hb:Below w.heap.size w w'):BatsOwn B w' v bs:=h.keepB (kep_below (fun _=>True) hb) fun _ _=>trivial
theorem BatsOwn.base {B C:Nat} {w:World} {v:Value} {bs:List Bat} (h:BatsOwn B w v bs) (hC:C≤B):BatsOwn C w v bs:=by
 obtain ⟨raw,h1,h2⟩:=OwnX.weak (T:=EvS C w) h fun b _ hb=>⟨Nat.le_trans hC hb.1,hb.2⟩
 refine ⟨raw,⟨h1.1,?_⟩,h2⟩
 rcases h1.2 with h0 | ⟨g,cap,cur,hv,hg,rest⟩
 ·exact .inl h0
 ·exact .inr ⟨g,cap,cur,hv,Nat.le_trans hC hg,rest⟩
theorem BatsOwn.any {B:Nat} {w:World} {v:Value} {bs:List Bat} (h:BatsOwn B w v bs):RAny batC w v bs:=OwnX.any h
theorem BatsOwn.src {B:Nat} {w:World} {v:Value} {bs:List Bat} (h:BatsOwn B w v bs):SrcX batC (EvS B w) w v bs:=by
 obtain ⟨raw,h1,h2⟩:=id h
 obtain ⟨p,cap,raw2,hv,hlc,h3,hm,hc⟩:=ROn.src (OwnX.ron (T:=fun b=>EvS B w b∨v.ownBlock=some b) h (fun g hg=>.inr hg) fun b _ hb=>.inl hb)
 rcases h1.2 with ⟨rfl,h0⟩ | ⟨g,cap',cur,rfl,hg,hh,hnc,hmx,hs,ht⟩
 ·have:bs=[]:=List.eq_nil_of_length_eq_zero h0
  subst this
  exact ⟨none,0,[],rfl,Nat.le_refl _,fun _=>rfl,Mean.nil_ _ _,.inl rfl⟩
 ·refine ⟨some ⟨g,0,none⟩,cap',raw,rfl,hnc,(fun h=>by cases h),h2,.inr ⟨g,0,rfl,fun j u hj => ?_⟩⟩
  have:=Lib.cells_of_row hh (bs.length*batC.size) j u (by rw [ht];exact hj)
  rw [add_at] at this
  exact this
end Go.Proofs.YtdfibahafilklaaGreatDoor.BR
namespace Go.Proofs.YtdfibahafilklaaGreatDoor.RG
open Go Go.RowKit
section
variable {P : Program} {ops : Array Oper} {Q : Exit → Act → World → Prop} {md : Region.Mode}
def Grew (w w':World):Prop:=Below w.heap.size w w'
theorem Grew.refl (w:World):Grew w w:=Below.refl _ w
theorem Grew.trans {a b c:World} (h:Grew a b) (k:Grew b c):Grew a c:=Below.trans h (Below.mono k h.size)
theorem held_weaken {S S':World→Prop} (hS:∀ w,S' w→S w):∀ (fuel:Nat) (listed:Array Bool) (a:Act) (w:World),wpAnyH P md ops Q S' fuel listed a w→wpAnyH P md ops Q S fuel listed a w
 | 0,_,_,_,h=>h
 | fuel+1,_,_,_,h=>⟨h.1,fun i hi=>wpOp_mono (fun a' w' h'=>⟨hS _ h'.1,held_weaken hS fuel _ a' w' h'.2⟩) (h.2 i hi)⟩
def Way (p:Prop):Prop:=p
theorem Way.out {p:Prop} (h:Way p):p:=h
def walk (P:Program) (ops:Array Oper) (Q:Exit→Act→World→Prop):List (Option Oper×Bool)→Act→World→Prop
 | [],a,w=>Q .normal a w
 | (some o,true)::rest,a,w=>∃ v,YieldsIf P ops (Grew w) o v a∧walk P ops Q rest (a.put o.dst v) w
 | (some o,false)::rest,a,w=>∀ K:Act→World→Prop,(∀ a' w',Grew w w'→walk P ops Q rest a' w'→K a' w')→if Region.wanted o (yielded ops a.tmps)=true then o.wp P a w K Q else K (a.put o.dst undef) w
 | (none,_)::_,_,_=>False
def ordered (ops:Array Oper) (l:List (Nat×Bool)):List (Option Oper×Bool):=l.map fun p=>(ops[p.1]?,p.2)
def planned (md:Region.Mode) (ops:Array Oper):List (Nat×Bool)→Array Bool→Bool
 | [],listed=>(Region.ready md ops listed).isEmpty
 | (i,true)::rest,listed=>Region.free md ops listed i&&(Region.ready md ops listed).contains i&&planned md ops rest (listed.setIfInBounds i true)
 | (i,false)::rest,listed=>(Region.ready md ops listed == [i])&&planned md ops rest (listed.setIfInBounds i true)
theorem held_of_walk (hs:Region.noSelect ops=true) (hQ:∀ c a d v w,Q (.panic c) (Act.put a d v) w→Q (.panic c) a w) :
  ∀ (l:List (Nat×Bool)) (listed:Array Bool) (a:Act) (w:World),planned md ops l listed=true→walk P ops Q (ordered ops l) a w→wpAnyH P md ops Q (Grew w) l.length listed a w
 | [],listed,a,w,hp,h=>⟨by simpa [planned] using hp,h⟩
 | (i,b)::rest,listed,a,w,hp,h=>by
   have h':walk P ops Q ((ops[i]?,b)::ordered ops rest) a w:=h
   cases ho:ops[i]? with
   | none=>rw [ho] at h';cases b<;>exact h'.elim
   | some o =>
     rw [ho] at h'
     cases b with
     | true =>
       obtain ⟨v,hy,hr⟩:=h'
       simp only [planned,Bool.and_eq_true] at hp
       exact wpAnyH_take ho hs hp.1.1 hp.1.2 (fun c a w=>hQ c a _ _ w) hy (Grew.refl w) (held_of_walk hs hQ rest _ _ _ hp.2 hr)
     | false =>
       simp only [planned,Bool.and_eq_true] at hp
       refine wpAnyH_all (rs:=[i]) (by simpa using hp.1) (by simp) (fun j hj => ?_)
       obtain rfl:j=i:=by simpa using hj
       exact wpOp_step ho (fun K hK=>h' K (fun a' w' h1 h2=>hK a' w' ⟨h1,held_weaken (fun W hW=>Grew.trans h1 hW) _ _ _ _ (held_of_walk hs hQ rest _ _ _ hp.2 h2)⟩))
theorem begin_ (l:List (Nat×Bool)) {id:Nat} {a:Act} {w:World} (hm:P.follows .mixedOrders=true) (hs:Region.noSelect ops=true) (hl:l.length=ops.size)
  (hp:planned .any ops l (Array.replicate ops.size false)=true) (hQ:∀ c a d v w,Q (.panic c) (Act.put a d v) w→Q (.panic c) a w)
  (h:walk P ops Q (ordered ops l) a w.drew):(Code.region id ops true).wp P Q a w:=by
 refine wp_region_held (S:=Grew w.drew) hm ?_
 rw [← hl]
 have:=held_of_walk (md:=.any) hs hQ l (Array.replicate ops.size false) a w.drew hp h
 rw [← hl] at this
 exact this
theorem take {rest:List (Option Oper×Bool)} {a:Act} {w:World} {o:Oper} {v:Value} (hw:Region.wanted o (yielded ops a.tmps)=true)
  (hy:∀ W,Grew w W→(execOp a.eval o).run P W=.ok (.value v) W) (h:walk P ops Q rest (a.put o.dst v) w):walk P ops Q ((some o,true)::rest) a w :=
 ⟨v,.inl ⟨hw,hy⟩,h⟩
theorem skip {rest:List (Option Oper×Bool)} {a:Act} {w:World} {o:Oper} (hw:Region.wanted o (yielded ops a.tmps)=false)
  (h:walk P ops Q rest (a.put o.dst undef) w):walk P ops Q ((some o,true)::rest) a w :=
 ⟨undef,.inr ⟨hw,rfl⟩,h⟩
theorem alone {rest:List (Option Oper×Bool)} {a:Act} {w:World} {o:Oper} (hw:Region.wanted o (yielded ops a.tmps)=true)
  (h:∀ K:Act→World→Prop,Way (∀ a' w',Grew w w'→walk P ops Q rest a' w'→K a' w')→o.wp P a w K Q):walk P ops Q ((some o,false)::rest) a w:=by
 intro K hK
 rw [if_pos hw]
 exact h K hK
theorem done {a:Act} {w:World} (h:Q .normal a w):walk P ops Q [] a w:=h
end
end Go.Proofs.YtdfibahafilklaaGreatDoor.RG
namespace Go.Proofs.YtdfibahafilklaaGreatDoor.WL
open Go Go.RowKit MM EM BR
open EV (batC evC samebat_any)
noncomputable def sameB (xs ys:List Bat):Bool:=@decide (xs=ys) (Classical.propDecidable _)
theorem sameB_iff {xs ys:List Bat}:sameB xs ys=true↔xs=ys:=by unfold sameB;exact @decide_eq_true_iff _ (Classical.propDecidable _)
theorem sameB_ne {xs ys:List Bat} (h:xs≠ys):sameB xs ys=false:=by
 cases hb:sameB xs ys with
 | false=>rfl
 | true=>exact absurd (sameB_iff.1 hb) h
theorem same_next {xs ys:List Bat} {i:Nat} (hx:i<xs.length) (hy:i<ys.length):sameB (xs.drop i) (ys.drop i)=(decide (xs[i]=ys[i])&&sameB (xs.drop (i+1)) (ys.drop (i+1))):=by
 rw [List.drop_eq_getElem_cons hx,List.drop_eq_getElem_cons hy,Bool.eq_iff_iff,sameB_iff,Bool.and_eq_true,sameB_iff,decide_eq_true_iff]
 constructor
 ·intro h;exact List.cons.inj h
 ·intro h;rw [h.1,h.2]
theorem rsame_any (u v:Value) (xs ys:List Bat) (w:World) (hu:RAny batC w u xs) (hv:RAny batC w v ys):Calls Tryz.prog 15 #[u,v] w fun e w'=>e=.returned (.bool (sameB xs ys))∧Below w.heap.size w w':=by
 have hmx:Tryz.prog.follows .mixedOrders=true:=by kernel_rfl
 obtain ⟨p1,cap1,rfl,hl1,hm1,_⟩:=hu.shape
 obtain ⟨p2,cap2,rfl,hl2,hm2,_⟩:=hv.shape
 unfold maxLen at hm1 hm2
 by_cases hlen:xs.length=ys.length
 ·obtain ⟨n,hn⟩:∃ n,ys.length=n:=⟨_,rfl⟩
  have hnx:xs.length=n:=by omega
  rw [hn] at hl2 hv ⊢
  rw [hnx] at hl1 hu ⊢
  have t0:(((n:Int)) != ((n:Int)))=false:=by simp
  have HU:=Lib.hid hu.bel
  have HV:=Lib.hid hv.bel
  have HNX:=Lib.hid hnx
  have HNY:=Lib.hid hn
  have HI0:Hid (sameB (xs.drop 0) (ys.drop 0)=sameB xs ys):=Lib.hid rfl
  obtain ⟨R,hR⟩:∃ R,sameB xs ys=R:=⟨_,rfl⟩
  rw [hR] at HI0 ⊢
  have HB0:=Lib.hid (Below.refl w.heap.size w)
  clear hu hv hlen hn hnx hR
  go_enter Tryz.func15,Tryz.ntmps15
  go_wp2_with fail
  go_loopw [5] (fun iv wr=>∃ i:Nat,i≤n∧iv=.int .i64 i∧Hid (sameB (xs.drop i) (ys.drop i)=R)∧Hid (Below w.heap.size w wr)) (fun iv _=>n - (intOf iv).toNat)
  case atStart=>exact ⟨0,by omega,rfl,HI0,HB0⟩
  case round =>
   obtain ⟨i,hi,rfl,HI,HB⟩:=hrel
   clear HI0 HB0
   by_cases hlt:i<n
   ·have q1:decide ((i:Int)<(n:Int))=true:=by rw [decide_eq_true_eq];omega
    have q2:decide (i<n)=true:=decide_eq_true hlt
    have q3:(i:Int)<(n:Int):=by omega
    have hx:i<xs.length:=by rw [HNX.out];exact hlt
    have hy:i<ys.length:=by rw [HNY.out];exact hlt
    obtain ⟨b,off,ev,rfl,hbl,_,c0,c1,hf⟩:=bat_at (RBel.below HU.out HB.out) hx
    obtain ⟨b2,off2,ev2,rfl,hbl2,_,d0,d1,hf2⟩:=bat_at (RBel.below HV.out HB.out) hy
    have hnx:=same_next hx hy
    rw [HI.out] at hnx
    obtain ⟨⟨s1,e1⟩,hd1⟩:∃ d,xs[i]=d:=⟨_,rfl⟩
    obtain ⟨⟨s2,e2⟩,hd2⟩:∃ d,ys[i]=d:=⟨_,rfl⟩
    rw [hd1] at c0 hf hnx
    rw [hd2] at d0 hf2 hnx
    change ROn evC _ wr ev e1 at hf
    change ROn evC _ wr ev2 e2 at hf2
    change wr.cell? ⟨b,off+i*2,none⟩=some (.int .i64 s1) at c0
    change wr.cell? ⟨b2,off2+i*2,none⟩=some (.int .i64 s2) at d0
    obtain ⟨pe,ce,rfl,_⟩:=hf.shape
    obtain ⟨pe2,ce2,rfl,_⟩:=hf2.shape
    have HC:=Lib.hid (fun W (hW:Below wr.heap.size wr W)=>samebat_any s1 s2 (.slice pe e1.length ce) (.slice pe2 e2.length ce2) e1 e2 W (RAny.below hf.any hW) (RAny.below hf2.any hW))
    generalize decide ((s1,e1)=((s2,e2):Bat))=eq at hnx HC
    have HN:=Lib.hid hnx
    have HLT:=Lib.hid hlt
    clear hf hf2 hd1 hd2 hnx hx hy hlt HI
    go_wp2_with fail
    refine RG.begin_ [(0,true),(1,true),(2,true),(3,true),(4,true),(5,true),(6,true),(7,true),(8,false),(9,true)] hmx (by kernel_rfl) rfl (by kernel_rfl) (fun _ _ d _ _ h=>by cases d<;>exact h) ?_
    simp only [RG.ordered,List.map_cons,List.map_nil,List.getElem?_toArray,List.getElem?_cons_succ,List.getElem?_cons_zero]
    obtain ⟨wd,hwd⟩:∃ wd,wr.drew=wd:=⟨_,rfl⟩
    have hbd:Below wr.heap.size wr wd:=by rw [← hwd];exact (Below.refl _ _).drew
    have hsd:=hbd.size
    have F1:=fun W (hW:RG.Grew wd W)=>((Below.cell hW (p:=⟨b,off+i*2,none⟩) (show b<wd.heap.size by omega)).trans (hbd.cell (p:=⟨b,off+i*2,none⟩) hbl)).trans c0
    have F2:=fun W (hW:RG.Grew wd W)=>((Below.cell hW (p:=⟨b,off+i*2+1,none⟩) (show b<wd.heap.size by omega)).trans (hbd.cell (p:=⟨b,off+i*2+1,none⟩) hbl)).trans c1
    have F3:=fun W (hW:RG.Grew wd W)=>((Below.cell hW (p:=⟨b2,off2+i*2,none⟩) (show b2<wd.heap.size by omega)).trans (hbd.cell (p:=⟨b2,off2+i*2,none⟩) hbl2)).trans d0
    have F4:=fun W (hW:RG.Grew wd W)=>((Below.cell hW (p:=⟨b2,off2+i*2+1,none⟩) (show b2<wd.heap.size by omega)).trans (hbd.cell (p:=⟨b2,off2+i*2+1,none⟩) hbl2)).trans d1
    have HBD:=Lib.hid hbd
    rw [hwd]
    clear hwd hbd hsd c0 c1 d0 d1
    repeat (refine RG.take (by rfl) (by intro W hW;have f1:=F1 W hW;have f2:=F2 W hW;have f3:=F3 W hW;have f4:=F4 W hW;go_simp;with_reducible rfl) ?_;simp only [Act.put,List.setIfInBounds_toArray,List.set_cons_zero,List.set_cons_succ])
    refine RG.alone (by rfl) (fun K hK => ?_)
    go_simp
    refine (HC.out wd HBD.out).mono ?_
    rintro e w2 ⟨rfl,hb2⟩
    go_simp
    refine hK.out _ _ hb2 ?_
    clear hK K F1 F2 F3 F4
    have HB2:=Lib.hid (HB.out.trans ((HBD.out.trans (hb2.mono HBD.out.size)).mono HB.out.size))
    clear hb2 HC HBD HB
    repeat (refine RG.take (by rfl) (by intro W hW;go_simp;with_reducible rfl) ?_;simp only [Act.put,List.setIfInBounds_toArray,List.set_cons_zero,List.set_cons_succ])
    refine RG.done ?_
    cases eq with
    | true =>
      have hn:=HN.out
      rw [Bool.true_and] at hn
      have HN2:=Lib.hid hn.symm
      clear hn HN
      go_wp2_with fail
      have hlt:=HLT.out
      go_roundw
      case rel=>exact ⟨i+1,by omega,by go_num,HN2,HB2⟩
      case measure=>simp [intOf];omega
    | false =>
      have hn:=HN.out
      rw [Bool.false_and] at hn
      subst hn
      go_wp2_with fail
      go_ret
      exact ⟨rfl,HB2.out⟩
   ·obtain rfl:i=n:=by omega
    have q1:decide ((i:Int)<(i:Int))=false:=by simp
    have q2:decide (i<i)=false:=by simp
    have hf:R=true:=by
     rw [← HI.out,List.drop_of_length_le (by rw [HNX.out];exact Nat.le_refl _),List.drop_of_length_le (by rw [HNY.out];exact Nat.le_refl _)]
     exact sameB_iff.2 rfl
    subst hf
    clear HI
    go_wp2_with fail
    go_ret
    exact ⟨rfl,HB.out⟩
 ·have t0:(((xs.length:Int)) != ((ys.length:Int)))=true:=by simp;omega
  have e:sameB xs ys=false:=sameB_ne fun h=>hlen (by rw [h])
  rw [e]
  clear hu hv e hlen
  go_enter Tryz.func15,Tryz.ntmps15
  go_wp2_with fail
  go_ret
  exact ⟨rfl,Below.refl _ _⟩
end Go.Proofs.YtdfibahafilklaaGreatDoor.WL
