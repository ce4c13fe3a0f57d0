import Derived.Test.YtidhgicajlaafaaGreatZD40
import Derived.Test.YtidhgicajlaafaaGreatZD42
import Derived.Test.YtidhgicajlaafaaGreatZD46
set_option maxRecDepth 100000
set_option maxHeartbeats 8000000
set_option linter.unusedVariables false
set_option linter.unusedSimpArgs false
namespace Go.Proofs.YtidhgicajlaafaaGreat.MX
open Go Go.RowKit MM Go.Maps EM SM
open SG (PostD postC postE Tab found)
theorem make_hint (x:Int) (w:World):(Instr.makeMap 58 (some (.int .i64 x))).run Tryz.prog w=.ok (.map (some w.heap.size)) (w.alloc (.map #[] 0)):=by kernel_rfl
def ForkR (T:List (EM.Tr PostD)) (w:World) (e:Ending) (w':World):Prop:=(∃ mq X F,e=.returned (.map (some mq))∧RowsU (fun b=>w.heap.size≤b∧b<w'.heap.size) mq T X F w')∧Below w.heap.size w w'
theorem left_put {seen left:List UInt8→Bool} {F:List UInt8→Option Value} {n:List UInt8} (hF:(F n).isSome=true):(fun k=>((F k).isSome && !left k)||decide (k=n))=fun k=>(F k).isSome && !(left k && !decide (k=n)):=by
 funext k
 by_cases e:k=n
 ·subst e;simp [hF]
 ·simp [e]
theorem rfork_any (mb:Nat) (X:Nat→Prop) (T:List (EM.Tr PostD)) (F:List UInt8→Option Value) (w:World) (h:Tab 0 mb X T F w) (hT:T.length≤8000000000000) (hf:∀ s,FewP (posOf T s)) :
  Calls Tryz.prog 42 #[.map (some mb)] w (ForkR T w):=by
 have hln:=tlen h
 have hmm:=make_hint (T.length:Int) w
 obtain ⟨W3,hW3⟩:∃ W,w.alloc (.map #[] 0)=W:=⟨_,rfl⟩
 have b13:Below w.heap.size w W3:=by rw [← hW3];exact (Below.refl _ _).alloc (Nat.le_refl _) _
 have s3:W3.heap.size=w.heap.size+1:=by rw [← hW3];simp
 have m3:FkT (w.heap.size+2) w.heap.size 0 T (fun _=>False) (fun _=>false) (fun _=>Option.none) W3:=by
  rw [← hW3]
  exact FkT.made w _ T
 have hmbl:=h.map.lt
 have HM:=Lib.hid (h.below b13).map
 have HQ:=Lib.hid m3
 have HB:=Lib.hid b13
 have HH:=Lib.hid h
 have HW3:=Lib.hid hW3
 have HS3:=Lib.hid s3
 have HF:=Lib.hid hf
 clear h m3 b13 hW3 s3 hf
 go_enter Tryz.func42,Tryz.ntmps42
 go_wp2_with (at_range;go_loud (rw [HW3.out];refine wpList_range_map Tryz.underlying58 rfl _ rfl mb _ _ rfl HM.out ?_;intro w0 cnt0 hrg0 hb0 hs0))
 have hc0:=RangeV.cnt_le hrg0
 have HQ0:Hid (FkT (w.heap.size+2) w.heap.size 0 T (fun _=>False) (fun k=>(F k).isSome && !(F k).isSome) (fun _=>Option.none) w0):=Lib.hid (by
  have e:(fun k=>(F k).isSome && !(F k).isSome)=fun _:List UInt8=>false:=by funext k;simp
  rw [e]
  exact HQ.out.below hb0)
 have HB0:=Lib.hid (HB.out.trans (hb0.mono HB.out.size))
 have HR0:=Lib.hid hrg0
 have hw0:w.heap.size+2≤w0.heap.size:=by have:=HS3.out;omega
 have HW0:=Lib.hid hw0
 clear hrg0 hb0 hs0 hln hmm HQ HB HM hw0
 go_frame
 go_loopw [4] (fun v wr=>∃ (left:List UInt8→Bool) (cnt c:Nat) (X':Nat→Prop) (F':List UInt8→Option Value),c+cnt≤T.length∧Hid (RangeV wr mb W3.heap.size T.length F left cnt)∧Hid (FkT (w.heap.size+2) w.heap.size c T X' (fun k=>(F k).isSome && !left k) F' wr)∧Hid (Below w.heap.size w wr)∧Hid (w.heap.size+2≤wr.heap.size)) (fun _ wr=>wr.rangeLeft mb W3.heap.size)
 case atStart=>exact ⟨_,cnt0,0,_,_,by omega,HR0,HQ0,HB0,HW0⟩
 case round =>
  obtain ⟨left,cnt,c,X',F',hcc,HRG,HQ,HB,HW⟩:=hrel
  clear HR0 HQ0 HB0 HW0
  go_wp2_with (at_next;go_loud (refine wpList_next_map rfl _ rfl mb W3.heap.size _ _ left cnt rfl HRG.out ?_ ?_))
  ·intro hl0
   have hq:=HQ.out.rows HH.out (fun s=>by rw [hl0];simp) (by omega) (Nat.le_refl _)
   have HF9:=Lib.hid (show ForkR T w (.returned (.map (some w.heap.size))) wr from ⟨⟨_,_,_,rfl,hq⟩,HB.out⟩)
   clear hq hl0
   go_wp2_with fail
   go_ret
   exact HF9.out
  ·intro n v w1 cnt1 hn hl hFn hrg1 hlt hk1 hsz hen
   have hle0:=HB.out.size
   have s3:=HS3.out
   have hbw1:Below w.heap.size w w1:=HB.out.trans (hk1.below hle0 (fun k hk e=>by omega))
   have hq1:FkT (w.heap.size+2) w.heap.size c T X' (fun k=>(F k).isSome && !left k) F' w1:=HQ.out.keep hk1 (by omega) fun b hb=>by omega
   have ht1:=HH.out.below hbw1
   have hfd:=ht1.found n
   have HC:=Lib.hid (rposts_own (some mb) (found F n) n (posOf T n) w1 (fun W2 hb2=>tlook (ht1.below hb2) n hn) (OwnS.any hfd.1) (HF.out n))
   have HRL:=Lib.hid HRG.out.left_eq
   have HQ1:=Lib.hid hq1
   have HB1:=Lib.hid hbw1
   have HR1:=Lib.hid hrg1
   have HN:=Lib.hid hn
   have HFN:=Lib.hid hFn
   have hws:w.heap.size+2≤w1.heap.size:=by have:=HW.out;omega
   have HCN:=Lib.hid hlt
   clear s3 hq1 ht1 hfd hbw1 hrg1 hn hFn hlt hk1 hsz HQ HB HRG HW hl
   go_wp2_with fail
   refine HC.out.mono ?_
   rintro e w2 ⟨⟨u,rfl,k,hk,hgk,ho⟩,hb2⟩
   have hq2:=HQ1.out.below hb2
   obtain ⟨m,hm,hmv⟩:=hq2.map
   have hput:=fun w3 hm3 hk3=>HQ1.out.put (w2:=w3) hb2 hws hk hgk ho hm3 hk3
   have HPUT:=Lib.hid hput
   have HMV:=Lib.hid hmv
   have hr2:=HR1.out.kep (kep_below (fun _=>True) hb2) trivial trivial
   have HR2:=Lib.hid hr2
   have HB2:=Lib.hid (HB1.out.trans (hb2.mono HB1.out.size))
   have HS2:=Lib.hid hb2.size
   clear hput hmv hr2 hq2 ho hb2 HQ1 HR1 HC hgk hk
   go_wp2_with (go_loud (refine wpList_plain rfl fun K hK => ?_;refine wp_mapV_store Tryz.underlying58 _ _ _ rfl w.heap.size m F' rfl HMV.out (by unfold maxLen;omega) n u rfl rfl HN.out ?_;intro w3 hm3 hk3;refine hK _ _ ?_;clear hK K))
   have hp3:=HPUT.out w3 ⟨_,by split<;>omega,hm3⟩ hk3
   rw [left_put (seen:=fun _=>true) (left:=left) (by rw [HFN.out];rfl)] at hp3
   have s3:=HS3.out
   have hr3:=HR2.out.kep hk3 (by omega) (by omega)
   have hb3:Below w.heap.size w w3:=HB2.out.trans (hk3.below HB2.out.size (fun k hk e=>by omega))
   have HQ5:=Lib.hid hp3
   have HR5:=Lib.hid hr3
   have HB5:=Lib.hid hb3
   have HW5:Hid (w.heap.size+2≤w3.heap.size):=Lib.hid (by have:=HS2.out;have:=hk3.size;omega)
   clear s3 hp3 hr3 hb3 hm3 hk3 HPUT HMV HR2 HB2
   have hcn:=HCN.out
   go_wp2_with fail
   go_roundw
   case rel=>exact ⟨_,_,_,_,_,_,_,_,_,_,⟨_,cnt1,c+1,_,_,by omega,HR5,HQ5,HB5,HW5⟩,rfl⟩
   case measure =>
    rw [HRL.out,HR5.out.left_eq]
    exact HCN.out
end Go.Proofs.YtidhgicajlaafaaGreat.MX
namespace Go.Proofs.YtidhgicajlaafaaGreat.MX
open Go Go.RowKit MM Go.Maps EM SM
open SG (PostD postC postE Tab found)
open EV (docC)
open RM (rowsE)
def ForkLeft (l:List Doc) (w:World) (e:Ending) (w':World):Prop:=(∃ g,e=.returned (.pointer (some ⟨g,0,none⟩))∧Idx (fun b=>w.heap.size≤b∧b<w'.heap.size) w' g l)∧Below w.heap.size w w'
theorem fork_idx {A:Nat→Prop} {w:World} {g:Nat} {l:List Doc} (h:Idx A w g l):Calls Tryz.prog 17 #[.pointer (some ⟨g,0,none⟩)] w (ForkLeft l w):=by
 have HM:=Lib.hid (made_any h)
 have HBG:=Lib.hid h.big
 obtain ⟨_,U,D,mb,X,F,dv,h⟩:=h
 obtain ⟨dp,dc,rfl,_⟩:=(OwnS.any h.docs).shape
 obtain ⟨wd,hwd⟩:∃ wd,w.drew=wd:=⟨_,rfl⟩
 have hkd:Below w.heap.size w wd:=by rw [← hwd];exact (Below.refl _ _).drew
 have hd:=h.keep (kep_below (fun _=>True) hkd) fun _ _=>trivial
 have hmx:Tryz.prog.follows .mixedOrders=true:=by kernel_rfl
 have HG:=Lib.hid (fun W (hW:Kep (fun _=>True) wd W)=>((ix_row hd.cells).keep hW trivial).all.1)
 have HC:=Lib.hid (copies_own (.slice dp l.length dc) l wd (OwnS.any hd.docs) (big_wide HBG.out))
 have HT:=Lib.hid (fun W (hW:Below wd.heap.size wd W)=>rfork_any mb X (rowsE (evM l)) F W (hd.rows.tab.below hW) (by have:=rows_big HBG.out;omega) (fewp_rows HBG.out))
 have HKD:=Lib.hid hkd
 have HWD:=Lib.hid hwd
 clear h hd hkd hwd
 go_enter Tryz.func17,Tryz.ntmps17
 go_wp2_with fail
 refine HM.out.mono ?_
 rintro e w9 ⟨rfl,rfl⟩
 go_wp2_with fail
 refine RS.begin_ (T:=fun _=>True) [(0,true),(1,true),(2,true),(3,true),(4,true),(5,true),(6,true),(7,true),(9,true),(10,true),(11,true),(12,true),(8,false),(13,false)] hmx (by kernel_rfl) (fun _ _ d _ _ h=>by cases d<;>exact h) ?_
 simp only [RS.ordered,List.map_cons,List.map_nil,List.getElem?_toArray,List.getElem?_cons_succ,List.getElem?_cons_zero]
 rw [HWD.out]
 repeat (refine RS.take (by rfl) (by intro W' hW;obtain ⟨c0,c1,c2,c3,c4,c5,c6,c7⟩:=HG.out W' hW;go_simp;with_reducible rfl) ?_;simp only [Act.put,List.setIfInBounds_toArray,List.set_cons_zero,List.set_cons_succ])
 refine RS.alone (by rfl) (fun K hK => ?_)
 go_simp
 refine HC.out.mono ?_
 rintro e w2 ⟨⟨u,rfl,hu,hug⟩,hb2⟩
 go_simp
 refine hK.out _ _ (kep_below _ hb2) ?_
 clear hK K
 obtain ⟨pu,cu,rfl,_⟩:=(OwnS.any hu).shape
 refine RS.alone (by rfl) (fun K hK => ?_)
 go_simp
 refine (HT.out w2 hb2).mono ?_
 rintro e w3 ⟨⟨mq,X3,F3,rfl,hr3⟩,hb3⟩
 go_simp
 refine hK.out _ _ (kep_below _ hb3) ?_
 clear hK K
 obtain ⟨w4,hw4⟩:∃ w4,w3.alloc (.cells (ixA l (.slice pu l.length cu) (.map (some mq))) 60)=w4:=⟨_,rfl⟩
 have hb4:Below w3.heap.size w3 w4:=by rw [← hw4];exact (Below.refl _ _).alloc (Nat.le_refl _) _
 have hs4:w4.heap.size=w3.heap.size+1:=by rw [← hw4];simp
 have hu2:=OwnS.weak (T:=fun b=>wd.heap.size≤b∧b≠wd.heap.size∧b<w2.heap.size) hu (fun b hb h=>⟨h.1,h.2,hb⟩) fun g hg h=>h.2.1 (hug g hg)
 have hu4:=(hu2.keep (kep_below (fun _=>True) hb3) (fun _ _ _=>trivial) fun _ _=>trivial).keep (kep_below (fun _=>True) hb4) (fun _ _ _=>trivial) fun _ _=>trivial
 have hs0:=HKD.out.size
 have hs2:=hb2.size
 have hs3:=hb3.size
 have hlu:∀ b,(Value.slice pu l.length cu).ownBlock=some b→b=wd.heap.size∧b<w2.heap.size:=fun b hb=>⟨hug b hb,(OwnS.lt hu b hb).1⟩
 have hidx:Idx (fun b=>w.heap.size≤b∧b<w4.heap.size) w4 w3.heap.size l:=⟨HBG.out,fun b=>w2.heap.size≤b∧b<w3.heap.size,fun b=>wd.heap.size≤b∧b≠wd.heap.size∧b<w2.heap.size,mq,X3,F3,.slice pu l.length cu,{
  cells:=by rw [← hw4];exact heap_alloc_new _ _
  rows:=hr3.keep (kep_below (fun _=>True) hb4) fun _ _ _=>trivial
  docs:=hu4
  ag:=⟨by omega,by omega⟩
  au:=fun b hb=>⟨⟨by omega,by omega⟩,by omega⟩
  ad:=fun b hb=>⟨⟨by omega,by omega⟩,by omega,fun h=>by omega⟩
  ao:=fun b hb=>by have:=hlu b hb;exact ⟨⟨by omega,by omega⟩,by omega,fun h=>by omega⟩
  alt:=fun b hb=>hb.2 }⟩
 have HF:Hid (ForkLeft l w (.returned (.pointer (some ⟨w3.heap.size,0,none⟩))) w4):=Lib.hid ⟨⟨_,rfl,hidx⟩,((HKD.out.trans (hb2.mono hs0)).trans (hb3.mono (by omega))).trans (hb4.mono (by omega))⟩
 have HW4:=Lib.hid hw4
 clear hb4 hs4 hu2 hu4 hlu hidx hw4 hr3 hb3 hu hug hb2 HT HC HG
 refine RS.done ?_
 simp only [List.length_cons,List.length_nil,List.drop_succ_cons,List.drop_zero]
 unfold ixA at HW4
 go_wp2_with (rw [HW4.out])
 go_ret
 exact HF.out
end Go.Proofs.YtidhgicajlaafaaGreat.MX
namespace Go.Proofs.YtidhgicajlaafaaGreat.IM
open Go Go.RowKit MM Go.Maps
abbrev R0:Value→Option (DataW Value×List MemPlace):=fun v=>some (.held v,[])
def InI (n:Int):Prop := -9223372036854775808≤n∧n≤9223372036854775807
theorem intKeyed:Keyed Tryz.prog 3:=int_keyed Tryz.underlying3
def MapI (w:World) (mb m:Nat) (F:Int→Option Value):Prop :=
 ∃ D:DataW Value,w.ownsMap Tryz.prog 3 R0 mb m D∧Maps.size D=m∧∀ n,Maps.has D (.int .i64 n)=(F n).isSome∧∀ v,F n=some v→∀ z,D.atKey (.int .i64 n) z=.held v
theorem keyI (n:Int) (hn:InI n):keyOf Tryz.prog 3 (.int .i64 n)=some (.int .i64 n):=keyOf_int_mk Tryz.underlying3 (by unfold InI at hn;simp only [Lit.wf,Bool.and_eq_true,decide_eq_true_eq];exact hn)
theorem MapI.lt {w:World} {mb m:Nat} {F:Int→Option Value} (h:MapI w mb m F):mb<w.heap.size:=by
 obtain ⟨D,hD,_⟩:=h
 exact hD.lt
theorem owns_kep {S:Nat→Prop} {w w':World} {R:Value→Option (DataW Value×List MemPlace)} {mb m:Nat} {D:DataW Value} (h:w.ownsMap Tryz.prog 3 R mb m D) (hk:Kep S w w') (hS:S mb):w'.ownsMap Tryz.prog 3 R mb m D:=by
 have hlt:=h.lt
 obtain ⟨es,clock,hb,F,hs,hD⟩:=h
 exact ⟨es,clock,(hk.block mb hlt hS).trans hb,F,hs,hD⟩
theorem MapI.kep {S:Nat→Prop} {w w':World} {mb m:Nat} {F:Int→Option Value} (h:MapI w mb m F) (hk:Kep S w w') (hS:S mb):MapI w' mb m F:=by
 obtain ⟨D,hD,h2⟩:=h
 exact ⟨D,owns_kep hD hk hS,h2⟩
theorem MapI.below {w w':World} {mb m:Nat} {F:Int→Option Value} (h:MapI w mb m F) (hb:Below w.heap.size w w'):MapI w' mb m F:=h.kep (kep_below (fun _=>True) hb) trivial
theorem MapI.made (w:World):MapI (w.alloc (.map #[] 0)) w.heap.size 0 (fun _=>none) :=
 ⟨.map [],World.ownsMap_made _ _ _ _,rfl,fun n=>⟨rfl,fun v h=>by cases h⟩⟩
theorem MapI.look {T E:TypeId} (hT:Tryz.prog.underlying T=some (.map 3 E)) {Z:Value} (hZ:∀ w,(zeroValue E).run Tryz.prog w=.ok Z w) {w:World} {mb m:Nat} {F:Int→Option Value} (h:MapI w mb m F) (n:Int) (hn:InI n) :
  (Instr.lookup T (.map (some mb)) (.int .i64 n) false).run Tryz.prog w=.ok ((F n).getD Z) w:=by
 obtain ⟨D,hD,_,hF⟩:=h
 obtain ⟨v,ps,hrun,hv⟩:=World.ownsMap.lookup hD intKeyed hT (hZ w) (zd:=.held Z) (zp:=[]) rfl (keyI n hn)
 obtain ⟨h1,h2⟩:=hF n
 have hv:DataW.held v=D.atKey (.int .i64 n) (.held Z):=by
  simp only [R0,Option.some.injEq,Prod.mk.injEq] at hv
  exact hv.1
 rw [hrun]
 cases hf:F n with
 | none =>
   rw [hf] at h1
   rw [atKey_of_not_has h1] at hv
   have hv:=DataW.held.inj hv
   rw [hv]
   rfl
 | some u =>
   rw [h2 u hf] at hv
   have hv:=DataW.held.inj hv
   rw [hv]
   rfl
theorem MapI.len {T E:TypeId} (hT:Tryz.prog.underlying T=some (.map 3 E)) {w:World} {mb m:Nat} {F:Int→Option Value} (h:MapI w mb m F) (ty:TypeId):(Builtin.len_ #[T] ty #[.map (some mb)]).run Tryz.prog w=.ok (.int .i64 (m:Int)) w:=by
 obtain ⟨D,hD,hm,_⟩:=h
 have:=hD.len hT ty
 rw [hm] at this
 exact this
theorem own_tight {w:World} {mb m:Nat} {D:DataW Value} (h:w.ownsMap Tryz.prog 3 R0 mb m D):w.ownsMap Tryz.prog 3 R0 mb (Maps.size D) D:=by
 obtain ⟨es,c,hb,F,hs,rfl⟩:=h
 exact ⟨es,c,hb,F,by simp [Maps.size,length_sorted],rfl⟩
theorem key_ne {n k:Int} (h:n≠k):(Lit.int .i64 n)≠Lit.int .i64 k:=fun e=>h (by injection e)
theorem MapI.put_of {w':World} {mb m j:Nat} {F:Int→Option Value} {D:DataW Value} {n:Int} {v:Value} (hT:Tidy D) (hm:Maps.size D=m) (hF:∀ n,Maps.has D (.int .i64 n)=(F n).isSome∧∀ v,F n=some v→∀ z,D.atKey (.int .i64 n) z=.held v)
  (h:w'.ownsMap Tryz.prog 3 R0 mb j (D.put (.int .i64 n) (.held v))):MapI w' mb (if (F n).isSome then m else m+1) (fun k=>if k=n then some v else F k):=by
 have hk:WideAt.IsKeyLit (.int .i64 n):=trivial
 have hs:Maps.size (D.put (.int .i64 n) (.held v))=if (F n).isSome then m else m+1:=by rw [size_put hT,(hF n).1,hm]
 refine ⟨_,hs▸own_tight h,hs,fun k => ?_⟩
 show Maps.has (D.put (.int .i64 n) (.held v)) (.int .i64 k)=(if k=n then some v else F k).isSome∧∀ u,(if k=n then some v else F k)=some u→∀ z,(D.put (.int .i64 n) (.held v)).atKey (.int .i64 k) z=.held u
 by_cases e:k=n
 ·subst e
  rw [has_put_same hT.isMap hk]
  refine ⟨by simp,fun u hu z => ?_⟩
  rw [if_pos rfl] at hu
  have hu:=Option.some.inj hu
  rw [atKey_put_same hT.isMap hk,hu]
 ·rw [has_put_other (key_ne e),if_neg e]
  refine ⟨(hF k).1,fun u hu z => ?_⟩
  rw [atKey_put_other (key_ne e)]
  exact (hF k).2 u hu z
theorem turned_kep {w w':World} {mb:Nat} (h:w.mapTurned w' mb):Kep (fun k=>k≠mb) w w':=kep_grown h.grown (fun k e hk=>hk (by injection e with e;exact e.symm))
theorem MapI.store {T E:TypeId} (hT:Tryz.prog.underlying T=some (.map 3 E)) {w:World} {mb m:Nat} {F:Int→Option Value} (h:MapI w mb m F) (n:Int) (v:Value) (hn:InI n) (hm:m<maxLen) :
  ∃ w',(Instr.mapUpdate T (.map (some mb)) (.int .i64 n) v).run Tryz.prog w=.ok () w'∧MapI w' mb (if (F n).isSome then m else m+1) (fun k=>if k=n then some v else F k)∧Kep (fun k=>k≠mb) w w':=by
 obtain ⟨D,hD,hs,hF⟩:=h
 obtain ⟨w',hrun,h1,h2⟩:=World.ownsMap.store hD intKeyed hT hm (keyI n hn) (val:=v) (d:=.held v) (ps:=[]) rfl
 exact ⟨w',hrun,MapI.put_of (hD.tidy intKeyed) hs hF h1,turned_kep h2⟩
theorem wp_mapI_store {T E:TypeId} (hT:Tryz.prog.underlying T=some (.map 3 E)) {w:World} {o:Oper} {a:Act} {K:Act→World→Prop} {Q:Exit→Act→World→Prop} (x y z:Operand) (hop:o.op=Op.mapUpdate T x y z) (mb m:Nat) (F:Int→Option Value) (hx:a.eval x=.map (some mb)) (h:MapI w mb m F) (hm:m<maxLen)
  (n:Int) (v:Value) (hy:a.eval y=.int .i64 n) (hz:a.eval z=v) (hn:InI n)
  (hK:∀ w',MapI w' mb (if (F n).isSome then m else m+1) (fun k=>if k=n then some v else F k)→Kep (fun k=>k≠mb) w w'→K (a.put o.dst undef) w'):o.wp Tryz.prog a w K Q:=by
 obtain ⟨w',hrun,h1,h2⟩:=MapI.store hT h n v hn hm
 unfold Oper.wp
 simp [execOp,hop,hx,hy,hz,hrun,Result.andThen]
 exact hK w' h1 h2
end Go.Proofs.YtidhgicajlaafaaGreat.IM
namespace Go.Proofs.YtidhgicajlaafaaGreat.MX
open Go Go.RowKit MM Go.Maps IM
theorem zeroInts (w:World):(zeroValue 73).run Tryz.prog w=.ok (.slice none 0 0) w:=by kernel_rfl
theorem own_int_kep {S:Nat→Prop} {e:TypeId} {B:Nat} {w w':World} {v:Value} {zs:List Int} (h:OwnC cInt e B w v zs) (hk:Kep S w w') (hg:∀ g,v.ownBlock=some g→S g):OwnC cInt e B w' v zs:=by
 obtain ⟨raw,h1,h2⟩:=h
 exact ⟨raw,own_row_kep h1 hk hg,h2.1,fun i hi hi'=>h2.2 i hi hi'⟩
def foundI (F:Int→Option Value) (d:Int):Value:=(F d).getD (.slice none 0 0)
structure PlT (B mb c:Nat) (G:Int→List Int) (F:Int→Option Value) (w:World):Prop where
 map:∃ m,m≤c∧MapI w mb m F
 none:∀ d,F d=none→G d=[]
 own:∀ d v,F d=some v→OwnC cInt 3 B w v (G d)∧∀ g,v.ownBlock=some g→g≠mb
 apart:∀ d e u v g,F d=some u→F e=some v→u.ownBlock=some g→v.ownBlock=some g→d=e
variable {B mb c : Nat} {G : Int → List Int} {F : Int → Option Value} {w w' : World}
theorem PlT.lt (h:PlT B mb c G F w):mb<w.heap.size:=by
 obtain ⟨m,_,hm⟩:=h.map
 exact hm.lt
theorem PlT.keep {S:Nat→Prop} (h:PlT B mb c G F w) (hk:Kep S w w') (hSm:S mb) (hS:∀ b,B≤b→S b):PlT B mb c G F w':=by
 obtain ⟨m,hm,hv⟩:=h.map
 exact ⟨⟨m,hm,hv.kep hk hSm⟩,h.none,fun d v hf=>⟨own_int_kep (h.own d v hf).1 hk fun g hg=>hS g (OwnC.lt (h.own d v hf).1 g hg).1,(h.own d v hf).2⟩,h.apart⟩
theorem PlT.below (h:PlT B mb c G F w) (hb:Below w.heap.size w w'):PlT B mb c G F w':=h.keep (kep_below (fun _=>True) hb) trivial fun _ _=>trivial
theorem PlT.made (w:World) (B:Nat):PlT B w.heap.size 0 (fun _=>[]) (fun _=>Option.none) (w.alloc (.map #[] 0)) :=
 ⟨⟨0,Nat.le_refl _,MapI.made w⟩,fun _ _=>rfl,fun _ _ h=>(by cases h),fun _ _ _ _ _ h=>(by cases h)⟩
theorem PlT.look (h:PlT B mb c G F w) (d:Int) (hd:InI d):(Instr.lookup 98 (.map (some mb)) (.int .i64 d) false).run Tryz.prog w=.ok (foundI F d) w:=by
 obtain ⟨m,_,hm⟩:=h.map
 exact MapI.look Tryz.underlying98 zeroInts hm d hd
theorem PlT.found (h:PlT B mb c G F w) (d:Int):OwnC cInt 3 B w (foundI F d) (G d)∧∀ g,(foundI F d).ownBlock=some g→B≤g∧g≠mb∧g<w.heap.size:=by
 unfold foundI
 cases hf:F d with
 | none =>
   rw [h.none d hf]
   exact ⟨OwnC.nil_ _ _ w,fun g hg=>by cases hg⟩
 | some v =>
   obtain ⟨h1,h2⟩:=h.own d v hf
   exact ⟨h1,fun g hg=>⟨(OwnC.lt h1 g hg).1,h2 g hg,(OwnC.lt h1 g hg).2⟩⟩
theorem PlT.put {w1 w2:World} {d:Int} {zs:List Int} {v:Value} (h:PlT B mb c G F w)
  (hk1:Kep (fun k=>(foundI F d).ownBlock≠some k) w w1) (ho:OwnC cInt 3 B w1 v (G d++zs)) (hg:∀ g,v.ownBlock=some g→(foundI F d).ownBlock=some g∨w.heap.size≤g)
  (hm:∃ m,m≤c+1∧MapI w2 mb m (fun k=>if k=d then some v else F k)) (hk2:Kep (fun k=>k≠mb) w1 w2):PlT B mb (c+1) (fun k=>if k=d then G k++zs else G k) (fun k=>if k=d then some v else F k) w2:=by
 have hf:=h.found d
 have hlt:=h.lt
 have hvm:∀ g,v.ownBlock=some g→g≠mb:=fun g hv=>by
  rcases hg g hv with h1 | h1
  ·exact (hf.2 g h1).2.1
  ·omega
 have hoth:∀ t u,t≠d→F t=some u→∀ g,u.ownBlock=some g→(foundI F d).ownBlock≠some g:=fun t u hne hu g hg e=>by
  unfold foundI at e
  cases hF:F d with
  | none=>rw [hF] at e;cases e
  | some u2 =>
    rw [hF] at e
    exact hne (h.apart t d u u2 g hu hF hg e)
 refine ⟨hm,fun t ht => ?_,fun t u hu => ?_,fun t t' u u' g hu hu' h1 h2 => ?_⟩
 ·by_cases e:t=d
  ·rw [if_pos e] at ht;cases ht
  ·rw [if_neg e] at ht ⊢
   exact h.none t ht
 ·by_cases e:t=d
  ·rw [if_pos e] at hu ⊢
   obtain rfl:=Option.some.inj hu
   subst e
   exact ⟨own_int_kep ho hk2 fun g hg=>hvm g hg,hvm⟩
  ·rw [if_neg e] at hu ⊢
   obtain ⟨h1,h2⟩:=h.own t u hu
   exact ⟨own_int_kep (own_int_kep h1 hk1 (hoth t u e hu)) hk2 fun g hg=>h2 g hg,h2⟩
 ·by_cases e:t=d
  ·by_cases e':t'=d
   ·rw [e,e']
   ·rw [if_pos e] at hu
    rw [if_neg e'] at hu'
    obtain rfl:=Option.some.inj hu
    rcases hg g h1 with h3 | h3
    ·exact absurd h3 (hoth t' u' e' hu' g h2)
    ·have:=(OwnC.lt (h.own t' u' hu').1 g h2).2
     omega
  ·by_cases e':t'=d
   ·rw [if_neg e] at hu
    rw [if_pos e'] at hu'
    obtain rfl:=Option.some.inj hu'
    rcases hg g h2 with h3 | h3
    ·exact absurd h3 (hoth t u e hu g h1)
    ·have:=(OwnC.lt (h.own t u hu).1 g h1).2
     omega
   ·rw [if_neg e] at hu
    rw [if_neg e'] at hu'
    exact h.apart t t' u u' g hu hu' h1 h2
theorem PlT.turn {d:Int} {v:Value} {zs:List Int} (h:PlT B mb c G F w) (hF:F d=some v) (hk:Kep (fun b=>v.ownBlock≠some b) w w') (ho:OwnC cInt 3 B w' v zs):PlT B mb c (fun k=>if k=d then zs else G k) F w':=by
 obtain ⟨m,hm,hv⟩:=h.map
 refine ⟨⟨m,hm,hv.kep hk fun e=>(h.own d v hF).2 _ e rfl⟩,fun t ht => ?_,fun t u hu => ?_,h.apart⟩
 ·by_cases e:t=d
  ·subst e;rw [hF] at ht;cases ht
  ·rw [if_neg e];exact h.none t ht
 ·by_cases e:t=d
  ·subst e
   rw [hF] at hu
   obtain rfl:=Option.some.inj hu
   rw [if_pos rfl]
   exact ⟨ho,(h.own t v hF).2⟩
  ·rw [if_neg e]
   obtain ⟨h1,h2⟩:=h.own t u hu
   exact ⟨own_int_kep h1 hk fun g hg e2=>e (h.apart t d u v g hu hF hg e2),h2⟩
end Go.Proofs.YtidhgicajlaafaaGreat.MX
