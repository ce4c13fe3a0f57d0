import Derived.Test.YtidhgicajlaafaaGreatZC29
import Derived.Test.YtidhgicajlaafaaGreatZC28
import Derived.Test.YtidhgicajlaafaaGreatZC30
set_option maxRecDepth 100000
set_option maxHeartbeats 8000000
set_option linter.unusedVariables false
set_option linter.unusedSimpArgs false
namespace Go.Proofs.YtidhgicajlaafaaGreat.MM
open Go Go.RowKit
section
variable {α : Type} (C : Codec α)
def HalfX (e:TypeId) (S:Nat→Prop) (w:World) (g n:Nat) (es:List α):Prop :=
 g<w.heap.size∧w.there g 0 (n*C.size)∧∃ raw,Mean C S w raw es∧w.rangeAt g 0 raw.flatten
variable {C}
theorem HalfX.start {e:TypeId} {S:Nat→Prop} {B:Nat} {w:World} {g n:Nat} {xs:List Value} (h:w.ownsRow B e C.size (.slice (some ⟨g,0,none⟩) n n) n xs):HalfX C e S w g n []:=by
 rcases h.2 with ⟨hv,_⟩ | ⟨g',cap,cur,hv,hb,hh,hn,hm,hs,ht⟩
 ·cases hv
 ·simp only [Value.slice.injEq,Option.some.injEq,Addr.mk.injEq] at hv
  obtain ⟨⟨rfl,_⟩,_,rfl⟩:=hv
  refine ⟨(Array.getElem?_eq_some_iff.1 hh).1,fun j hj=>⟨?_,frozen_of_row w g _ cur _ hh⟩,[],Mean.nil_ _ _,fun j v hj=>by simp at hj⟩
  obtain ⟨u,hu⟩:∃ u,(cur.toList.take (n*C.size))[j]? = some u:=⟨_,List.getElem?_eq_getElem (by rw [List.length_take,Array.length_toList];omega)⟩
  have:=Lib.cells_of_row hh (n*C.size) j u hu
  rw [add_at] at this
  rw [this];rfl
theorem HalfX.keep {e:TypeId} {S T:Nat→Prop} {w w':World} {g n:Nat} {es:List α} (h:HalfX C e S w g n es) (hk:Kep T w w') (hg:T g) (hS:∀ b,b<w.heap.size→S b→T b):HalfX C e S w' g n es:=by
 obtain ⟨h1,h2,raw,hm,hr⟩:=h
 refine ⟨Nat.lt_of_lt_of_le h1 hk.size,fun j hj => ?_,raw,⟨hm.1,fun i hi hi' => ?_⟩,fun j v hj => ?_⟩
 ·have hb:=hk.block g h1 hg
  rw [World.cell?_of_block (a:=⟨g,0+j,none⟩) hb,World.frozen?_of_block (a:=⟨g,0+j,none⟩) hb]
  exact h2 j hj
 ·exact C.keep (C.keep (hm.2 i hi hi') (Kep.refl _ _) (T:=fun b=>S b∧b<w.heap.size) fun b hb hs=>⟨hs,hb⟩) (hk.mono' (T:=fun b=>S b∧b<w.heap.size) fun b hb hs=>hS b hb hs.1) fun b hb hs=>hs.1
 ·rw [hk.cell h1 hg];exact hr j v hj
theorem kep_sets {g:Nat} (vs:List Value):∀ (w:World) (o:Nat),Kep (fun b=>b≠g) w (w.setCells g o vs):=by
 induction vs with
 | nil=>exact fun w _=>Kep.refl _ w
 | cons v vs ih=>exact fun w o=>(kep_set (fun h=>h rfl) v).trans (ih _ _)
theorem HalfX.there {e:TypeId} {S:Nat→Prop} {w:World} {g n:Nat} {es:List α} (h:HalfX C e S w g n es) {k:Nat} (hk:k<n):w.there g (k*C.size) C.size:=fun j hj=>by
 have hm:=Nat.mul_le_mul_right C.size (show k+1≤n from hk)
 rw [Nat.succ_mul] at hm
 have:=h.2.1 (k*C.size+j) (by omega)
 rw [Nat.zero_add] at this
 exact this
theorem HalfX.next {e:TypeId} {S:Nat→Prop} {w:World} {g n:Nat} {es:List α} (h:HalfX C e S w g n es) (hk:es.length<n) {vs:List Value} {d:α} (hd:C.on S w vs d) (hS:¬ S g) :
  HalfX C e S (w.setCells g (es.length*C.size) vs) g n (es++[d]):=by
 have hth:=h.there hk
 obtain ⟨h1,h2,raw,hm,hr⟩:=h
 have hl:=C.len hd
 have hks:Kep (fun b=>b≠g) w (w.setCells g (es.length*C.size) vs):=kep_sets vs w _
 have hkS:Kep S w (w.setCells g (es.length*C.size) vs):=hks.mono fun b hb e=>hS (e▸hb)
 refine ⟨Nat.lt_of_lt_of_le h1 hks.size,World.there_setCells h2 _ _ _,raw++[vs],(hm.append (Mean.single hd)).keep hkS fun _ _ h=>h,?_⟩
 have hfl:=flat_len hm.lens
 have e1:=World.rangeAt_setCells_apart hr g (es.length*C.size) vs (.inr (.inl (by rw [hfl,hm.1];omega)))
 have e2:=World.rangeAt_setCells_same w g (es.length*C.size) vs (by rw [hl];exact hth)
 intro j v hj
 rw [List.flatten_append,List.flatten_singleton] at hj
 by_cases hlt:j<raw.flatten.length
 ·rw [List.getElem?_append_left hlt] at hj
  exact e1 j v hj
 ·rw [List.getElem?_append_right (by omega)] at hj
  have:=e2 _ v hj
  rw [hfl,hm.1] at this
  rw [hfl,hm.1] at hlt
  rw [show es.length*C.size+(j - es.length*C.size)=0+j by omega] at this
  exact this
theorem HalfX.ron {e:TypeId} {S T:Nat→Prop} {w:World} {g n:Nat} {es:List α} (h:HalfX C e S w g n es) (hn:es.length=n) (hm:n≤maxLen) (hg:T g) (hS:∀ b,b<w.heap.size→S b→T b):ROn C T w (.slice (some ⟨g,0,none⟩) n n) es:=by
 obtain ⟨h1,h2,raw,hmn,hr⟩:=h
 subst hn
 exact ⟨some ⟨g,0,none⟩,es.length,raw,rfl,Nat.le_refl _,hm,(fun h=>by cases h),hmn.keep (Kep.refl _ _) hS,.inr ⟨g,0,rfl,h1,hg,hr⟩⟩
end
end Go.Proofs.YtidhgicajlaafaaGreat.MM
namespace Go.Proofs.YtidhgicajlaafaaGreat.EV
open Go Go.RowKit MM EM
def docsL (seq:Int) (es:List Ev):List Doc:=es.zipIdx.map fun p=>(seq+(p.2:Int),p.1)
theorem docsL_next (seq:Int) {es:List Ev} {k:Nat} (hk:k<es.length):docsL seq (es.take (k+1))=docsL seq (es.take k)++[(seq+(k:Int),es[k])]:=by
 unfold docsL
 rw [List.take_succ_eq_append_getElem hk,List.zipIdx_append,List.map_append]
 simp [Nat.min_eq_left (Nat.le_of_lt hk)]
theorem docsL_len (seq:Int) (es:List Ev):(docsL seq es).length=es.length:=by simp [docsL]
def docsB (b:Bat):List Doc:=if checkB b≠0 then [] else docsL b.1 b.2
theorem clone_any (v:Value) (fs:List Fld) (w:World) (hr:RAny fldC w v fs) (hl:fs.length≤100000):Calls Tryz.prog 67 #[v] w fun e w'=>∃ u,e=.returned u∧ROn fldC (fun b=>w.heap.size≤b) w' u fs∧Below w.heap.size w w':=by
 obtain ⟨p,cap,rfl,hlc,hcm,hn⟩:=hr.shape
 have hq:=fun (w:World) (a:Option Addr) (n c:Nat)=>Lib.run_eql_slice_nil (P:=Tryz.prog) w 49 93 a n c 0 0 Tryz.underlying49
 cases p with
 | none =>
   have h0:=hn rfl
   subst h0
   have hf:fs=[]:=List.eq_nil_of_length_eq_zero (by omega)
   subst hf
   clear hr
   go_enter Tryz.func67,Tryz.ntmps67
   go_wp2_with fail
   go_ret
   exact ⟨_,rfl,ROn.nil_ _ _,Below.refl _ _⟩
 | some ad =>
   have hb0:Below w.heap.size w (w.alloc (.cells #[] 93)):=(Below.refl _ _).alloc (Nat.le_refl _) _
   have HO0:=Lib.hid (OwnX.lit0 (C:=fldC) 93 (fun _=>False) w (Nat.le_refl _))
   have HS:=Lib.hid (fld_src (S':=fun _=>False) (RAny.below hr hb0))
   have HB0:=Lib.hid hb0
   clear hr hb0
   go_enter Tryz.func67,Tryz.ntmps67
   go_wp2_with (at_builtin;go_loud (refine wpList_append_x fldE rfl _ _ rfl w.heap.size _ [] rfl HO0.out (fun b _ hb=>hb.elim) _ fs rfl HS.out (by unfold maxLen;simp;omega) (by simp;omega) (by simp) ?_;intro v' w4 ho4 hb4 _;rw [List.nil_append] at ho4;obtain ⟨q4,c4,rfl,_⟩:=ho4.any.shape;have HO4:=Lib.hid ho4;have HB4:=Lib.hid (HB0.out.trans hb4);clear ho4 hb4))
   go_ret
   exact ⟨_,rfl,HO4.out.ron (fun g hg=>(HO4.out.cells hg).1) (fun _ _ h=>h.elim),HB4.out⟩
def DocsNew (ds:List Doc) (w:World) (e:Ending) (w':World):Prop:=∃ u,e=.returned u∧ROn docC (fun b=>w.heap.size≤b) w' u ds∧Below w.heap.size w w'
theorem docs_new (seq:Int) (v:Value) (es:List Ev) (w:World) (hr:RAny evC w v es):Calls Tryz.prog 44 #[.agg #[.int .i64 seq,v]] w (DocsNew (docsB (seq,es)) w):=by
 have hbx:=btbox_below w seq v
 have hck:=cbatch_any seq v es _ (RAny.below hr hbx)
 obtain ⟨p,cap,rfl,hlc,hcm,_⟩:=hr.shape
 unfold maxLen at hcm
 have HCK:=Lib.hid hck
 obtain ⟨DS,hDS⟩:∃ DS,docsB (seq,es)=DS:=⟨_,rfl⟩
 rw [hDS]
 have HDS:=Lib.hid hDS
 clear hck hbx hDS
 go_enter Tryz.func44,Tryz.ntmps44
 go_wp2_with fail
 refine HCK.out.mono ?_
 rintro e w2 ⟨rfl,hb2⟩
 have HB2:=Lib.hid hb2
 obtain ⟨c0,c1,hbw⟩:=btbox_in hb2
 have HBW:=Lib.hid hbw
 obtain ⟨c,hc⟩:∃ c,checkB (seq,es)=c:=⟨_,rfl⟩
 rw [hc]
 by_cases h0:c=0
 ·subst h0
  obtain ⟨hl1,hl64,hall,_,hs1,hs2⟩:=checkB_ok hc
  have hl1:1≤es.length:=hl1
  have hl64:es.length≤64:=hl64
  have hs1:1≤seq:=hs1
  have hs2:seq≤1099511627776:=by have:seq≤1099511627776 - ((es.length:Int) - 1):=hs2;omega
  have e1:docsB (seq,es)=docsL seq es:=by unfold docsB;rw [if_neg (by simp [hc])]
  have e2:DS=docsL seq es:=by rw [← HDS.out,e1]
  have HE2:=Lib.hid e2
  have HALL:Hid (∀ e∈es,checkE e=0):=Lib.hid hall
  have HR:=Lib.hid hr
  obtain ⟨iD,hiD,hzD0,hzD1,hzD2⟩:=info_parts (show (Tryz.prog.info? 67).map (fun i=>(i.zero,i.size,i.bytes))=some (some (.agg #[.int .i64 0,.int .i64 0,.slice none 0 0]),3,40) by kernel_rfl)
  clear hb2 hbw hc hall e1 e2 hr HCK
  go_wp2_with (at_make;go_loud (refine wpList_make_full w2 rfl _ _ 28 rfl w2.heap.size 67 iD (.agg #[.int .i64 0,.int .i64 0,.slice none 0 0]) 3 Tryz.underlying28 hiD hzD0 hzD1 .i64 .i64 _ _ es.length rfl rfl rfl rfl (by rw [hzD2];omega) (by unfold maxLen;omega) (Nat.le_refl _) ?_))
  intro w3 hown3 hg3
  have b3:=(Below.refl w2.heap.size w2).grown hg3 (Nat.le_refl _) (fun k h=>by cases h)
  have HH3:=Lib.hid (HalfX.start (C:=docC) (e:=67) (S:=fun b=>w.heap.size≤b∧b≠w2.heap.size) hown3)
  have HB3:=Lib.hid b3
  have HBB3:=Lib.hid (HB2.out.trans (b3.mono HB2.out.size))
  have HS0:Hid (docsL seq (es.take 0)=[]):=Lib.hid (by simp [docsL])
  clear hown3 hg3 b3 c0 c1 hzD0 hzD1 hzD2 hiD
  obtain ⟨_,c1,_⟩:=btbox_in HBB3.out
  go_wp2_with fail
  go_loopw [16] (fun iv wr=>∃ i:Nat,i≤es.length∧iv=.int .i64 i∧Hid (HalfX docC 67 (fun b=>w.heap.size≤b∧b≠w2.heap.size) wr w2.heap.size es.length (docsL seq (es.take i)))∧Hid (Below (btBox w seq (.slice p es.length cap)).heap.size (btBox w seq (.slice p es.length cap)) wr)∧Hid (Below w2.heap.size w2 wr)) (fun iv _=>es.length - (intOf iv).toNat)
  case atStart=>exact ⟨0,by omega,rfl,Lib.hid (by rw [HS0.out];exact HH3.out),HBB3,HB3⟩
  case round =>
   obtain ⟨i,hi,rfl,HH,HBB,HB⟩:=hrel
   clear HH3 HBB3 HB3 HS0
   obtain ⟨d0,d1,hbw⟩:=btbox_in HBB.out
   by_cases hlt:i<es.length
   ·have q1:decide ((i:Int)<(es.length:Int))=true:=by rw [decide_eq_true_eq];omega
    have q2:decide (i<es.length)=true:=by rw [decide_eq_true_eq];omega
    have q3:(i:Int)<es.length:=by omega
    obtain ⟨b,off,vf,rfl,hbl,_,k1,k2,hf⟩:=ev_at (HR.out.below hbw) hlt
    have hnx:=docsL_next seq hlt
    have hlen:=docsL_len seq (es.take i)
    rw [List.length_take,Nat.min_eq_left (by omega)] at hlen
    have hok:=(checkE_ok.1 (HALL.out es[i] (List.getElem_mem hlt))).1
    obtain ⟨⟨z,fs⟩,hz2⟩:∃ e,es[i]=e:=⟨_,rfl⟩
    rw [hz2] at k1 hf hnx hok
    change ROn fldC _ wr vf fs at hf
    change wr.cell? ⟨b,off+i*2,none⟩=some (.int .i64 z) at k1
    have hok:fs.length≤16:=hok
    obtain ⟨pf,cf,rfl,_⟩:=hf.shape
    have HNX:=Lib.hid hnx
    have HLEN:=Lib.hid hlen
    have HLT:=Lib.hid hlt
    have HF:=Lib.hid hf
    have hg2:=HB.out.size
    have hgH:w2.heap.size<wr.heap.size:=HH.out.1
    have hw2:=hbw.size
    have hww:w.heap.size<w2.heap.size:=by have:=HB2.out.size;rw [btbox_size] at this;omega
    clear hnx hlen hf hz2 hbw
    go_wp2_with fail
    refine RK.begin_ (T:=fun b=>b≠w2.heap.size) [(0,true),(1,true),(2,true),(3,true),(4,true),(5,true),(6,true),(7,true),(8,true),(9,true),(10,false),(11,true),(12,true),(13,true),(14,false)] (by kernel_rfl) (by kernel_rfl) rfl (by kernel_rfl) (fun _ _ d _ _ h=>by cases d<;>exact h) ?_
    simp only [RK.ordered,List.map_cons,List.map_nil,List.getElem?_toArray,List.getElem?_cons_succ,List.getElem?_cons_zero]
    obtain ⟨wd,hwd⟩:∃ wd,(wr.alloc (.cells #[.int .i64 z,.slice pf fs.length cf] 51)).drew=wd:=⟨_,rfl⟩
    have hbd:Below wr.heap.size wr wd:=by rw [← hwd];exact ((Below.refl _ _).alloc (Nat.le_refl _) _).drew
    have n0:wd.cell? ⟨wr.heap.size,0,none⟩=some (.int .i64 z):=by rw [← hwd];exact (new_two wr _ _ _).1
    have n1:wd.cell? ⟨wr.heap.size,1,none⟩=some (.slice pf fs.length cf):=by rw [← hwd];exact (new_two wr _ _ _).2
    have hsd:wr.heap.size<wd.heap.size:=by rw [← hwd];simp
    have G:=Lib.hid (fun W (hW:Kep (fun b=>b≠w2.heap.size) wd W)=>(show W.cell? ⟨w.heap.size,0,none⟩=some (.int .i64 seq)∧W.cell? ⟨wr.heap.size,0,none⟩=some (.int .i64 z)∧W.cell? ⟨wr.heap.size,1,none⟩=some (.slice pf fs.length cf) from
     ⟨(hW.cell (by omega) (by omega) 0).trans ((hbd.cell (p:=⟨w.heap.size,0,none⟩) (show w.heap.size<wr.heap.size by omega)).trans d0),(hW.cell hsd (by omega) 0).trans n0,(hW.cell hsd (by omega) 1).trans n1⟩))
    have HFD:=Lib.hid (RAny.below HF.out hbd)
    have HHD:=Lib.hid (HH.out.keep (kep_below (fun _=>True) hbd) trivial fun _ _ _=>trivial)
    have HBD:=Lib.hid hbd
    rw [hwd]
    clear hwd hbd n0 n1 hlt
    repeat (refine RK.take (by rfl) (by intro W hW;obtain ⟨f1,f2,f3⟩:=G.out W hW;go_simp;with_reducible rfl) ?_;simp only [Act.put,List.setIfInBounds_toArray,List.set_cons_zero,List.set_cons_succ])
    refine RK.alone (by rfl) (fun K hK => ?_)
    go_simp
    refine (clone_any _ fs wd HFD.out (by omega)).mono ?_
    rintro e w5 ⟨u5,rfl,hu5,hb5⟩
    obtain ⟨p5,c5,rfl,_⟩:=hu5.shape
    go_simp
    refine hK.out _ _ (kep_below _ hb5) ?_
    clear hK K
    have HU5:=Lib.hid hu5
    have HB5:=Lib.hid hb5
    clear hu5 hb5
    have hwrp:IntKind.i64.wrap (seq+(i:Int))=seq+(i:Int):=by rw [IntWalk.i64_left];exact IntWalk.wrap64_in _ ⟨by omega,by omega⟩
    try rw [hwrp]
    repeat (refine RK.take (by rfl) (by intro W hW;go_simp;with_reducible rfl) ?_;simp only [Act.put,List.setIfInBounds_toArray,List.set_cons_zero,List.set_cons_succ])
    refine RK.alone (by rfl) (fun K hK => ?_)
    have HH5:=HHD.out.keep (kep_below (fun _=>True) HB5.out) trivial fun _ _ _=>trivial
    have hth:=HalfX.there HH5 (k:=i) (HLT.out)
    have hon:docC.on (fun b=>w.heap.size≤b∧b≠w2.heap.size) w5 [.int .i64 (seq+(i:Int)),.int .i64 z,.slice p5 fs.length c5] (seq+(i:Int),(z,fs)):=doc_on.2 ⟨_,rfl,HU5.out.weak fun b _ hb=>by have:wd.heap.size≤b:=hb;exact ⟨by omega,by omega⟩⟩
    have hnext:=HalfX.next HH5 (by rw [HLEN.out];exact HLT.out) hon (fun h=>h.2 rfl)
    rw [HLEN.out,← HNX.out] at hnext
    have HNEXT:=Lib.hid hnext
    refine wp_store_mid 67 _ _ rfl w2.heap.size (i*3) #[.int .i64 (seq+(i:Int)),.int .i64 z,.slice p5 fs.length c5] rfl rfl hth (by kernel_rfl) (all_oneCell_toArray (cs:=[.int .i64 (seq+(i:Int)),.int .i64 z,.slice p5 fs.length c5]) (by intro v hv;simp only [List.mem_cons,List.not_mem_nil,or_false] at hv;rcases hv with rfl | rfl | rfl<;>rfl)) ?_
    have hk6:=kep_sets (g:=w2.heap.size) [.int .i64 (seq+(i:Int)),.int .i64 z,.slice p5 fs.length c5] w5 (i*3)
    change K _ (w5.setCells w2.heap.size (i*3) [.int .i64 (seq+(i:Int)),.int .i64 z,.slice p5 fs.length c5])
    change Hid (HalfX docC 67 (fun b=>w.heap.size≤b∧b≠w2.heap.size) (w5.setCells w2.heap.size (i*3) [.int .i64 (seq+(i:Int)),.int .i64 z,.slice p5 fs.length c5]) w2.heap.size es.length (docsL seq (es.take (i+1)))) at HNEXT
    generalize w5.setCells w2.heap.size (i*3) [.int .i64 (seq+(i:Int)),.int .i64 z,.slice p5 fs.length c5]=w6 at *
    refine hK.out _ _ hk6 ?_
    clear hK K
    have h25:=(HBD.out.trans (HB5.out.mono (by omega)))
    have HBB6:=Lib.hid ((HBB.out.trans (h25.mono HBB.out.size)).trans (hk6.below (by have:=HBB.out.size;have:=h25.size;omega) fun k hk e=>by rw [btbox_size] at hk;omega))
    have HB6:=Lib.hid ((HB.out.trans (h25.mono HB.out.size)).trans (hk6.below (by have:=h25.size;omega) fun k hk e=>by omega))
    clear HH5 hth hon hnext hk6 h25 G HFD HHD HBD HU5 HB5 hwrp
    refine RK.done ?_
    go_wp2_with fail
    have hlt:=HLT.out
    go_roundw
    case rel=>exact ⟨i+1,by omega,by go_num,HNEXT,HBB6,HB6⟩
    case measure=>simp [intOf];omega
   ·obtain rfl:i=es.length:=by omega
    have q1:decide ((es.length:Int)<(es.length:Int))=false:=by simp
    have q2:decide (es.length<es.length)=false:=by simp
    have HBW9:=Lib.hid hbw
    have hh:=HH.out
    rw [List.take_length] at hh
    have HROW:=Lib.hid (HalfX.ron (T:=fun b=>w.heap.size≤b) hh (docsL_len seq es) (by unfold maxLen;omega) (by have:=HB2.out.size;rw [btbox_size] at this;omega) fun _ _ h=>h.1)
    have hds:=HE2.out
    subst hds
    clear hlt hbw hh HH HDS HE2
    go_wp2_with fail
    go_ret
    exact ⟨_,rfl,(by have:=HROW.out;exact this),HBW9.out⟩
 ·have q1:(c != 0)=true:=by simp [h0]
  have e1:docsB (seq,es)=[]:=by unfold docsB;rw [if_pos (by rw [hc];exact h0)]
  have e2:DS=[]:=by rw [← HDS.out,e1]
  subst e2
  clear hb2 hbw hc e1 h0 hr HCK HDS
  go_wp2_with fail
  go_ret
  exact ⟨_,rfl,ROn.nil_ _ _,HBW.out⟩
end Go.Proofs.YtidhgicajlaafaaGreat.EV
namespace Go.Proofs.YtidhgicajlaafaaGreat.SG
open Go Go.RowKit MM PW
theorem ron_ion {S:Nat→Prop} {w:World} {v:Value} {zs:List Int} (h:ROn cInt S w v zs):IOn S w v zs:=by
 obtain ⟨p,cap,raw,hv,h1,h2,h3,hm,hc⟩:=h
 refine ⟨p,cap,hv,h1,h2,h3,?_⟩
 rcases hc with hc | ⟨b,off,hp,hlt,hS,hc⟩
 ·exact .inl hc
 ·refine .inr ⟨b,off,hp,hlt,hS,fun i hi => ?_⟩
  have hi':i<raw.length:=by rw [hm.1];exact hi
  have e:raw[i]=[.int .i64 zs[i]]:=hm.2 i hi' hi
  have hf:=flat_get hm.lens i hi' 0 (.int .i64 zs[i]) (by rw [e];rfl)
  have hz:cInt.size=1:=rfl
  rw [hz,Nat.mul_one,Nat.add_zero] at hf
  exact hc i _ hf
def cellsP:List Value→Int×Value
 | [.int _ z,u]=>(z,u)
 | _=>(0,.bool false)
theorem ron_pon {S:Nat→Prop} {w:World} {v:Value} {ps:List (Int×List Int)} (h:ROn postC S w v ps):POn S w v ps:=by
 obtain ⟨p,cap,raw,hv,h1,h2,h3,hm,hc⟩:=h
 have hon:∀ i (hi:i<raw.length) (hi':i<ps.length),∃ u,raw[i]=[.int .i64 ps[i].1,u]∧ROn cInt S w u ps[i].2:=fun i hi hi'=>by
  obtain ⟨x,y,hxy,hx,u,hy,hr⟩:=hm.2 i hi hi'
  have hx:x=[.int .i64 ps[i].1]:=hx
  exact ⟨u,by rw [hxy,hx,hy];rfl,hr⟩
 refine ⟨p,cap,raw.map cellsP,hv,h1,h2,h3,⟨by rw [List.length_map];exact hm.1,fun i hi hi' => ?_⟩,?_⟩
 ·rw [List.length_map] at hi
  obtain ⟨u,e,hr⟩:=hon i hi hi'
  rw [List.getElem_map,e]
  exact ⟨rfl,ron_ion hr⟩
 ·rcases hc with hc | ⟨b,off,hp,hlt,hS,hc⟩
  ·exact .inl hc
  ·refine .inr ⟨b,off,hp,hlt,hS,fun i hi => ?_⟩
   rw [List.length_map] at hi
   have hi':i<ps.length:=by rw [← hm.1];exact hi
   obtain ⟨u,e,hr⟩:=hon i hi hi'
   have hz:postC.size=2:=rfl
   have f0:=flat_get hm.lens i hi 0 (.int .i64 ps[i].1) (by rw [e];rfl)
   have f1:=flat_get hm.lens i hi 1 u (by rw [e];rfl)
   rw [hz,Nat.add_zero] at f0
   rw [hz] at f1
   rw [List.getElem_map,e]
   exact ⟨hc _ _ f0,by have:=hc _ _ f1;rw [← Nat.add_assoc] at this;exact this⟩
end Go.Proofs.YtidhgicajlaafaaGreat.SG
