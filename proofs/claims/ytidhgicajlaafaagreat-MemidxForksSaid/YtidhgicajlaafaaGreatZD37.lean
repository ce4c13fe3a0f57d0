import Derived.Test.YtidhgicajlaafaaGreatZD36
import Derived.Test.YtidhgicajlaafaaGreatZD35
set_option maxRecDepth 100000
set_option maxHeartbeats 8000000
set_option linter.unusedVariables false
set_option linter.unusedSimpArgs false
namespace Go.Proofs.YtidhgicajlaafaaGreat.EV
open Go Go.RowKit MM EM
def docsL (seq:Int) (es:List Ev):List Doc:=es.zipIdx.map fun p=>(seq+(p.2:Int),p.1)
theorem docsL_next (seq:Int) {es:List Ev} {k:Nat} (hk:k<es.length):docsL seq (es.take (k+1))=docsL seq (es.take k)++[(seq+(k:Int),es[k])]:=by
 unfold docsL
 rw [List.take_succ_eq_append_getElem hk,List.zipIdx_append,List.map_append]
 simp [Nat.min_eq_left (Nat.le_of_lt hk)]
theorem docsL_len (seq:Int) (es:List Ev):(docsL seq es).length=es.length:=by simp [docsL]
def docsB (b:Bat):List Doc:=if checkB b≠0 then [] else docsL b.1 b.2
theorem clone_any (v:Value) (fs:List Fld) (w:World) (hr:RAny fldC w v fs) (hl:fs.length≤100000):Calls Tryz.prog 67 #[v] w fun e w'=>∃ u,e=.returned u∧ROn fldC (fun b=>w.heap.size≤b) w' u fs∧Below w.heap.size w w':=by
 obtain ⟨p,cap,rfl,hlc,hcm,hn⟩:=hr.shape
 have hq:=fun (w:World) (a:Option Addr) (n c:Nat)=>Lib.run_eql_slice_nil (P:=Tryz.prog) w 49 93 a n c 0 0 Tryz.underlying49
 cases p with
 | none =>
   have h0:=hn rfl
   subst h0
   have hf:fs=[]:=List.eq_nil_of_length_eq_zero (by omega)
   subst hf
   clear hr
   go_enter Tryz.func67,Tryz.ntmps67
   go_wp2_with fail
   go_ret
   exact ⟨_,rfl,ROn.nil_ _ _,Below.refl _ _⟩
 | some ad =>
   have hb0:Below w.heap.size w (w.alloc (.cells #[] 93)):=(Below.refl _ _).alloc (Nat.le_refl _) _
   have HO0:=Lib.hid (OwnX.lit0 (C:=fldC) 93 (fun _=>False) w (Nat.le_refl _))
   have HS:=Lib.hid (fld_src (S':=fun _=>False) (RAny.below hr hb0))
   have HB0:=Lib.hid hb0
   clear hr hb0
   go_enter Tryz.func67,Tryz.ntmps67
   go_wp2_with (at_builtin;go_loud (refine wpList_append_x fldE rfl _ _ rfl w.heap.size _ [] rfl HO0.out (fun b _ hb=>hb.elim) _ fs rfl HS.out (by unfold maxLen;simp;omega) (by simp;omega) (by simp) ?_;intro v' w4 ho4 hb4 _;rw [List.nil_append] at ho4;obtain ⟨q4,c4,rfl,_⟩:=ho4.any.shape;have HO4:=Lib.hid ho4;have HB4:=Lib.hid (HB0.out.trans hb4);clear ho4 hb4))
   go_ret
   exact ⟨_,rfl,HO4.out.ron (fun g hg=>(HO4.out.cells hg).1) (fun _ _ h=>h.elim),HB4.out⟩
def DocsNew (ds:List Doc) (w:World) (e:Ending) (w':World):Prop:=∃ u,e=.returned u∧ROn docC (fun b=>w.heap.size≤b) w' u ds∧Below w.heap.size w w'
theorem docs_new (seq:Int) (v:Value) (es:List Ev) (w:World) (hr:RAny evC w v es):Calls Tryz.prog 44 #[.agg #[.int .i64 seq,v]] w (DocsNew (docsB (seq,es)) w):=by
 have hbx:=btbox_below w seq v
 have hck:=cbatch_any seq v es _ (RAny.below hr hbx)
 obtain ⟨p,cap,rfl,hlc,hcm,_⟩:=hr.shape
 unfold maxLen at hcm
 have HCK:=Lib.hid hck
 obtain ⟨DS,hDS⟩:∃ DS,docsB (seq,es)=DS:=⟨_,rfl⟩
 rw [hDS]
 have HDS:=Lib.hid hDS
 clear hck hbx hDS
 go_enter Tryz.func44,Tryz.ntmps44
 go_wp2_with fail
 refine HCK.out.mono ?_
 rintro e w2 ⟨rfl,hb2⟩
 have HB2:=Lib.hid hb2
 obtain ⟨c0,c1,hbw⟩:=btbox_in hb2
 have HBW:=Lib.hid hbw
 obtain ⟨c,hc⟩:∃ c,checkB (seq,es)=c:=⟨_,rfl⟩
 rw [hc]
 by_cases h0:c=0
 ·subst h0
  obtain ⟨hl1,hl64,hall,_,hs1,hs2⟩:=checkB_ok hc
  have hl1:1≤es.length:=hl1
  have hl64:es.length≤64:=hl64
  have hs1:1≤seq:=hs1
  have hs2:seq≤1099511627776:=by have:seq≤1099511627776 - ((es.length:Int) - 1):=hs2;omega
  have e1:docsB (seq,es)=docsL seq es:=by unfold docsB;rw [if_neg (by simp [hc])]
  have e2:DS=docsL seq es:=by rw [← HDS.out,e1]
  have HE2:=Lib.hid e2
  have HALL:Hid (∀ e∈es,checkE e=0):=Lib.hid hall
  have HR:=Lib.hid hr
  obtain ⟨iD,hiD,hzD0,hzD1,hzD2⟩:=info_parts (show (Tryz.prog.info? 67).map (fun i=>(i.zero,i.size,i.bytes))=some (some (.agg #[.int .i64 0,.int .i64 0,.slice none 0 0]),3,40) by kernel_rfl)
  clear hb2 hbw hc hall e1 e2 hr HCK
  go_wp2_with (at_make;go_loud (refine wpList_make_full w2 rfl _ _ 28 rfl w2.heap.size 67 iD (.agg #[.int .i64 0,.int .i64 0,.slice none 0 0]) 3 Tryz.underlying28 hiD hzD0 hzD1 .i64 .i64 _ _ es.length rfl rfl rfl rfl (by rw [hzD2];omega) (by unfold maxLen;omega) (Nat.le_refl _) ?_))
  intro w3 hown3 hg3
  have b3:=(Below.refl w2.heap.size w2).grown hg3 (Nat.le_refl _) (fun k h=>by cases h)
  have HH3:=Lib.hid (HalfX.start (C:=docC) (e:=67) (S:=fun b=>w.heap.size≤b∧b≠w2.heap.size) hown3)
  have HB3:=Lib.hid b3
  have HBB3:=Lib.hid (HB2.out.trans (b3.mono HB2.out.size))
  have HS0:Hid (docsL seq (es.take 0)=[]):=Lib.hid (by simp [docsL])
  clear hown3 hg3 b3 c0 c1 hzD0 hzD1 hzD2 hiD
  obtain ⟨_,c1,_⟩:=btbox_in HBB3.out
  go_wp2_with fail
  go_loopw [16] (fun iv wr=>∃ i:Nat,i≤es.length∧iv=.int .i64 i∧Hid (HalfX docC 67 (fun b=>w.heap.size≤b∧b≠w2.heap.size) wr w2.heap.size es.length (docsL seq (es.take i)))∧Hid (Below (btBox w seq (.slice p es.length cap)).heap.size (btBox w seq (.slice p es.length cap)) wr)∧Hid (Below w2.heap.size w2 wr)) (fun iv _=>es.length - (intOf iv).toNat)
  case atStart=>exact ⟨0,by omega,rfl,Lib.hid (by rw [HS0.out];exact HH3.out),HBB3,HB3⟩
  case round =>
   obtain ⟨i,hi,rfl,HH,HBB,HB⟩:=hrel
   clear HH3 HBB3 HB3 HS0
   obtain ⟨d0,d1,hbw⟩:=btbox_in HBB.out
   by_cases hlt:i<es.length
   ·have q1:decide ((i:Int)<(es.length:Int))=true:=by rw [decide_eq_true_eq];omega
    have q2:decide (i<es.length)=true:=by rw [decide_eq_true_eq];omega
    have q3:(i:Int)<es.length:=by omega
    obtain ⟨b,off,vf,rfl,hbl,_,k1,k2,hf⟩:=ev_at (HR.out.below hbw) hlt
    have hnx:=docsL_next seq hlt
    have hlen:=docsL_len seq (es.take i)
    rw [List.length_take,Nat.min_eq_left (by omega)] at hlen
    have hok:=(checkE_ok.1 (HALL.out es[i] (List.getElem_mem hlt))).1
    obtain ⟨⟨z,fs⟩,hz2⟩:∃ e,es[i]=e:=⟨_,rfl⟩
    rw [hz2] at k1 hf hnx hok
    change ROn fldC _ wr vf fs at hf
    change wr.cell? ⟨b,off+i*2,none⟩=some (.int .i64 z) at k1
    have hok:fs.length≤16:=hok
    obtain ⟨pf,cf,rfl,_⟩:=hf.shape
    have HNX:=Lib.hid hnx
    have HLEN:=Lib.hid hlen
    have HLT:=Lib.hid hlt
    have HF:=Lib.hid hf
    have hg2:=HB.out.size
    have hgH:w2.heap.size<wr.heap.size:=HH.out.1
    have hw2:=hbw.size
    have hww:w.heap.size<w2.heap.size:=by have:=HB2.out.size;rw [btbox_size] at this;omega
    clear hnx hlen hf hz2 hbw
    go_wp2_with fail
    refine RK.begin_ (T:=fun b=>b≠w2.heap.size) [(0,true),(1,true),(2,true),(3,true),(4,true),(5,true),(6,true),(7,true),(8,true),(9,true),(10,false),(11,true),(12,true),(13,true),(14,false)] (by kernel_rfl) (by kernel_rfl) rfl (by kernel_rfl) (fun _ _ d _ _ h=>by cases d<;>exact h) ?_
    simp only [RK.ordered,List.map_cons,List.map_nil,List.getElem?_toArray,List.getElem?_cons_succ,List.getElem?_cons_zero]
    obtain ⟨wd,hwd⟩:∃ wd,(wr.alloc (.cells #[.int .i64 z,.slice pf fs.length cf] 51)).drew=wd:=⟨_,rfl⟩
    have hbd:Below wr.heap.size wr wd:=by rw [← hwd];exact ((Below.refl _ _).alloc (Nat.le_refl _) _).drew
    have n0:wd.cell? ⟨wr.heap.size,0,none⟩=some (.int .i64 z):=by rw [← hwd];exact (new_two wr _ _ _).1
    have n1:wd.cell? ⟨wr.heap.size,1,none⟩=some (.slice pf fs.length cf):=by rw [← hwd];exact (new_two wr _ _ _).2
    have hsd:wr.heap.size<wd.heap.size:=by rw [← hwd];simp
    have G:=Lib.hid (fun W (hW:Kep (fun b=>b≠w2.heap.size) wd W)=>(show W.cell? ⟨w.heap.size,0,none⟩=some (.int .i64 seq)∧W.cell? ⟨wr.heap.size,0,none⟩=some (.int .i64 z)∧W.cell? ⟨wr.heap.size,1,none⟩=some (.slice pf fs.length cf) from
     ⟨(hW.cell (by omega) (by omega) 0).trans ((hbd.cell (p:=⟨w.heap.size,0,none⟩) (show w.heap.size<wr.heap.size by omega)).trans d0),(hW.cell hsd (by omega) 0).trans n0,(hW.cell hsd (by omega) 1).trans n1⟩))
    have HFD:=Lib.hid (RAny.below HF.out hbd)
    have HHD:=Lib.hid (HH.out.keep (kep_below (fun _=>True) hbd) trivial fun _ _ _=>trivial)
    have HBD:=Lib.hid hbd
    rw [hwd]
    clear hwd hbd n0 n1 hlt
    repeat (refine RK.take (by rfl) (by intro W hW;obtain ⟨f1,f2,f3⟩:=G.out W hW;go_simp;with_reducible rfl) ?_;simp only [Act.put,List.setIfInBounds_toArray,List.set_cons_zero,List.set_cons_succ])
    refine RK.alone (by rfl) (fun K hK => ?_)
    go_simp
    refine (clone_any _ fs wd HFD.out (by omega)).mono ?_
    rintro e w5 ⟨u5,rfl,hu5,hb5⟩
    obtain ⟨p5,c5,rfl,_⟩:=hu5.shape
    go_simp
    refine hK.out _ _ (kep_below _ hb5) ?_
    clear hK K
    have HU5:=Lib.hid hu5
    have HB5:=Lib.hid hb5
    clear hu5 hb5
    have hwrp:IntKind.i64.wrap (seq+(i:Int))=seq+(i:Int):=by rw [IntWalk.i64_left];exact IntWalk.wrap64_in _ ⟨by omega,by omega⟩
    try rw [hwrp]
    repeat (refine RK.take (by rfl) (by intro W hW;go_simp;with_reducible rfl) ?_;simp only [Act.put,List.setIfInBounds_toArray,List.set_cons_zero,List.set_cons_succ])
    refine RK.alone (by rfl) (fun K hK => ?_)
    have HH5:=HHD.out.keep (kep_below (fun _=>True) HB5.out) trivial fun _ _ _=>trivial
    have hth:=HalfX.there HH5 (k:=i) (HLT.out)
    have hon:docC.on (fun b=>w.heap.size≤b∧b≠w2.heap.size) w5 [.int .i64 (seq+(i:Int)),.int .i64 z,.slice p5 fs.length c5] (seq+(i:Int),(z,fs)):=doc_on.2 ⟨_,rfl,HU5.out.weak fun b _ hb=>by have:wd.heap.size≤b:=hb;exact ⟨by omega,by omega⟩⟩
    have hnext:=HalfX.next HH5 (by rw [HLEN.out];exact HLT.out) hon (fun h=>h.2 rfl)
    rw [HLEN.out,← HNX.out] at hnext
    have HNEXT:=Lib.hid hnext
    refine wp_store_mid 67 _ _ rfl w2.heap.size (i*3) #[.int .i64 (seq+(i:Int)),.int .i64 z,.slice p5 fs.length c5] rfl rfl hth (by kernel_rfl) (all_oneCell_toArray (cs:=[.int .i64 (seq+(i:Int)),.int .i64 z,.slice p5 fs.length c5]) (by intro v hv;simp only [List.mem_cons,List.not_mem_nil,or_false] at hv;rcases hv with rfl | rfl | rfl<;>rfl)) ?_
    have hk6:=kep_sets (g:=w2.heap.size) [.int .i64 (seq+(i:Int)),.int .i64 z,.slice p5 fs.length c5] w5 (i*3)
    change K _ (w5.setCells w2.heap.size (i*3) [.int .i64 (seq+(i:Int)),.int .i64 z,.slice p5 fs.length c5])
    change Hid (HalfX docC 67 (fun b=>w.heap.size≤b∧b≠w2.heap.size) (w5.setCells w2.heap.size (i*3) [.int .i64 (seq+(i:Int)),.int .i64 z,.slice p5 fs.length c5]) w2.heap.size es.length (docsL seq (es.take (i+1)))) at HNEXT
    generalize w5.setCells w2.heap.size (i*3) [.int .i64 (seq+(i:Int)),.int .i64 z,.slice p5 fs.length c5]=w6 at *
    refine hK.out _ _ hk6 ?_
    clear hK K
    have h25:=(HBD.out.trans (HB5.out.mono (by omega)))
    have HBB6:=Lib.hid ((HBB.out.trans (h25.mono HBB.out.size)).trans (hk6.below (by have:=HBB.out.size;have:=h25.size;omega) fun k hk e=>by rw [btbox_size] at hk;omega))
    have HB6:=Lib.hid ((HB.out.trans (h25.mono HB.out.size)).trans (hk6.below (by have:=h25.size;omega) fun k hk e=>by omega))
    clear HH5 hth hon hnext hk6 h25 G HFD HHD HBD HU5 HB5 hwrp
    refine RK.done ?_
    go_wp2_with fail
    have hlt:=HLT.out
    go_roundw
    case rel=>exact ⟨i+1,by omega,by go_num,HNEXT,HBB6,HB6⟩
    case measure=>simp [intOf];omega
   ·obtain rfl:i=es.length:=by omega
    have q1:decide ((es.length:Int)<(es.length:Int))=false:=by simp
    have q2:decide (es.length<es.length)=false:=by simp
    have HBW9:=Lib.hid hbw
    have hh:=HH.out
    rw [List.take_length] at hh
    have HROW:=Lib.hid (HalfX.ron (T:=fun b=>w.heap.size≤b) hh (docsL_len seq es) (by unfold maxLen;omega) (by have:=HB2.out.size;rw [btbox_size] at this;omega) fun _ _ h=>h.1)
    have hds:=HE2.out
    subst hds
    clear hlt hbw hh HH HDS HE2
    go_wp2_with fail
    go_ret
    exact ⟨_,rfl,(by have:=HROW.out;exact this),HBW9.out⟩
 ·have q1:(c != 0)=true:=by simp [h0]
  have e1:docsB (seq,es)=[]:=by unfold docsB;rw [if_pos (by rw [hc];exact h0)]
  have e2:DS=[]:=by rw [← HDS.out,e1]
  subst e2
  clear hb2 hbw hc e1 h0 hr HCK HDS
  go_wp2_with fail
  go_ret
  exact ⟨_,rfl,ROn.nil_ _ _,HBW.out⟩
end Go.Proofs.YtidhgicajlaafaaGreat.EV
namespace Go.Proofs.YtidhgicajlaafaaGreat.EV
open Go Go.RowKit MM EM
def BoxW (w:World) (b:Nat) (t:TypeId):Prop:=∃ cs fr,w.heap[b]? = some (.cells cs t fr)
def DocsOn (S:Nat→Prop) (ds:List Doc) (w:World) (e:Ending) (w':World):Prop:=∃ u,e=.returned u∧OwnX docC 67 w.heap.size (fun b=>b<w.heap.size∧S b) w' u ds∧Below w.heap.size w w'
theorem rdocs_on (S:Nat→Prop) (seq:Int) (v:Value) (es:List Ev) (w:World) (hr:ROn evC S w v es):Calls Tryz.prog 50 #[.agg #[.int .i64 seq,v]] w (DocsOn S (docsB (seq,es)) w):=by
 have hbx:=btbox_below w seq v
 have hck:=rcbatch_any seq v es _ (RAny.below hr.any hbx)
 obtain ⟨p,cap,rfl,hlc,hcm,_⟩:=hr.shape
 unfold maxLen at hcm
 have HCK:=Lib.hid hck
 obtain ⟨DS,hDS⟩:∃ DS,docsB (seq,es)=DS:=⟨_,rfl⟩
 rw [hDS]
 have HDS:=Lib.hid hDS
 clear hck hbx hDS
 go_enter Tryz.func50,Tryz.ntmps50
 go_wp2_with fail
 refine HCK.out.mono ?_
 rintro e w2 ⟨rfl,hb2⟩
 have HB2:=Lib.hid hb2
 obtain ⟨c0,c1,hbw⟩:=btbox_in hb2
 have HBW:=Lib.hid hbw
 obtain ⟨c,hc⟩:∃ c,checkB (seq,es)=c:=⟨_,rfl⟩
 rw [hc]
 by_cases h0:c=0
 ·subst h0
  obtain ⟨hl1,hl64,hall,_,hs1,hs2⟩:=checkB_ok hc
  have hl1:1≤es.length:=hl1
  have hl64:es.length≤64:=hl64
  have hs1:1≤seq:=hs1
  have hs2:seq≤1099511627776:=by have:seq≤1099511627776 - ((es.length:Int) - 1):=hs2;omega
  have e1:docsB (seq,es)=docsL seq es:=by unfold docsB;rw [if_neg (by simp [hc])]
  have e2:DS=docsL seq es:=by rw [← HDS.out,e1]
  have HE2:=Lib.hid e2
  have HR:=Lib.hid (show ROn evC (fun b=>b<w.heap.size∧S b) w (.slice p es.length cap) es from ROn.weak hr fun _ h h2=>⟨h,h2⟩)
  have HO0:=Lib.hid (OwnX.nil_ (C:=docC) 67 w.heap.size (fun b=>b<w.heap.size∧S b) w2)
  have HS0:Hid (docsL seq (es.take 0)=[]):=Lib.hid (by simp [docsL])
  clear hb2 hbw hc hall e1 e2 hr HCK
  go_wp2_with fail
  go_loopw [3,4] (fun lv iv wr=>∃ (i:Nat) (q:Option Addr) (m c:Nat),i≤es.length∧m=i∧lv=.slice q m c∧iv=.int .i64 i∧Hid (OwnX docC 67 w.heap.size (fun b=>b<w.heap.size∧S b) wr (.slice q m c) (docsL seq (es.take i)))∧Hid (Below (btBox w seq (.slice p es.length cap)).heap.size (btBox w seq (.slice p es.length cap)) wr)) (fun _ iv _=>es.length - (intOf iv).toNat)
  case atStart=>exact ⟨0,none,0,0,by omega,rfl,rfl,rfl,Lib.hid (by rw [HS0.out];exact HO0.out),HB2⟩
  case round =>
   obtain ⟨i,q,m,c,hi,rfl,rfl,rfl,HO,HBB⟩:=hrel
   clear HO0 HB2 HS0
   obtain ⟨d0,d1,hbw⟩:=btbox_in HBB.out
   by_cases hlt:m<es.length
   ·have q1:decide ((m:Int)<(es.length:Int))=true:=by rw [decide_eq_true_eq];omega
    have q2:decide (m<es.length)=true:=by rw [decide_eq_true_eq];omega
    have q3:(m:Int)<es.length:=by omega
    obtain ⟨b,off,vf,rfl,hbl,⟨hbB,_⟩,k1,k2,hf⟩:=ev_at (ROn.keep HR.out ((kep_lt hbw).mono fun _ h=>h.1) fun _ _ h=>h) hlt
    have hnx:=docsL_next seq hlt
    have hlen:=docsL_len seq (es.take m)
    rw [List.length_take,Nat.min_eq_left (by omega)] at hlen
    obtain ⟨⟨z,fs⟩,hz2⟩:∃ e,es[m]=e:=⟨_,rfl⟩
    rw [hz2] at k1 hf hnx
    change ROn fldC _ wr vf fs at hf
    change wr.cell? ⟨b,off+m*2,none⟩=some (.int .i64 z) at k1
    obtain ⟨pf,cf,rfl,_⟩:=hf.shape
    have HNX:=Lib.hid hnx
    have HLEN:=Lib.hid hlen
    have HLT:=Lib.hid hlt
    have hwr:=HBB.out.size
    rw [btbox_size] at hwr
    have hbt:BoxW wr w.heap.size 45:=⟨_,_,HBB.out.block w.heap.size (by rw [btbox_size];omega) |>.trans (heap_alloc_new w _)⟩
    have hob:∀ g,(Value.slice q m c).ownBlock=some g→g≠w.heap.size:=fun g hg e=>by
     obtain ⟨_,_,c1,f1,h1⟩:=HO.out.cells hg
     obtain ⟨c2,f2,h2⟩:=hbt
     rw [e,h2] at h1
     simp only [Option.some.injEq,Obj.cells.injEq] at h1
     exact absurd h1.2.1 (by decide)
    have hoB:∀ g,(Value.slice q m c).ownBlock=some g→w.heap.size≤g:=fun g hg=>(HO.out.cells hg).1
    go_wp2_with fail
    refine RK.begin_ (T:=fun k=>(Value.slice q m c).ownBlock≠some k) [(0,true),(1,true),(2,true),(3,true),(4,true),(5,true),(6,true),(7,true),(8,true),(9,true),(10,true),(11,false),(12,false),(13,true)] (by kernel_rfl) (by kernel_rfl) rfl (by kernel_rfl) (fun _ _ d _ _ h=>by cases d<;>exact h) ?_
    simp only [RK.ordered,List.map_cons,List.map_nil,List.getElem?_toArray,List.getElem?_cons_succ,List.getElem?_cons_zero]
    obtain ⟨wd,hwd⟩:∃ wd,wr.drew=wd:=⟨_,rfl⟩
    have hkd:Kep (fun _=>True) wr wd:=by rw [← hwd];exact kep_draw _ _
    have hsd:wd.heap.size=wr.heap.size:=by rw [← hwd];rfl
    have G:=Lib.hid (fun W (hW:Kep (fun k=>(Value.slice q m c).ownBlock≠some k) wd W)=>(show W.cell? ⟨w.heap.size,0,none⟩=some (.int .i64 seq)∧W.cell? ⟨w.heap.size,1,none⟩=some (.slice (some ⟨b,off,none⟩) es.length cap)∧W.cell? ⟨b,off+m*2,none⟩=some (.int .i64 z)∧W.cell? ⟨b,off+m*2+1,none⟩=some (.slice pf fs.length cf) from
     ⟨(hW.cell (by omega) (fun e=>hob _ e rfl) 0).trans ((hkd.cell (by omega) trivial 0).trans d0),(hW.cell (by omega) (fun e=>hob _ e rfl) 1).trans ((hkd.cell (by omega) trivial 1).trans d1),
      (hW.cell (by omega) (fun e=>by have:=hoB _ e;omega) _).trans ((hkd.cell hbl trivial _).trans k1),(hW.cell (by omega) (fun e=>by have:=hoB _ e;omega) _).trans ((hkd.cell hbl trivial _).trans k2)⟩))
    have HOD:=Lib.hid (HO.out.keep hkd (fun _ _ _=>trivial) fun _ _=>trivial)
    have HFD:=Lib.hid (ROn.keep hf (hkd.mono fun _ _=>trivial) (fun _ _ h=>h))
    have HBBD:=Lib.hid (show Below (btBox w seq (.slice (some ⟨b,off,none⟩) es.length cap)).heap.size (btBox w seq (.slice (some ⟨b,off,none⟩) es.length cap)) wd by rw [← hwd];exact HBB.out.drew)
    have HOB:=Lib.hid hob
    have HOB2:=Lib.hid hoB
    rw [hwd]
    clear hwd hkd hnx hlen hf hz2 hbw hlt hob hoB hbt
    repeat (refine RK.take (by rfl) (by intro W hW;obtain ⟨f1,f2,f3,f4⟩:=G.out W hW;go_simp;with_reducible rfl) ?_;simp only [Act.put,List.setIfInBounds_toArray,List.set_cons_zero,List.set_cons_succ])
    have hwrp:IntKind.i64.wrap (seq+(m:Int))=seq+(m:Int):=by rw [IntWalk.i64_left];exact IntWalk.wrap64_in _ ⟨by omega,by omega⟩
    try rw [hwrp]
    clear hwrp
    refine RK.alone (by rfl) (fun K hK => ?_)
    go_simp
    refine hK.out _ _ (kep_alloc _ _ _) ?_
    clear hK K
    refine RK.alone (by rfl) (fun K hK => ?_)
    try rw [← hsd]
    have hlen:=HLEN.out
    refine wp_append_x1 docE (S:=fun b=>b<w.heap.size∧S b) _ _ rfl w.heap.size _ (docsL seq (es.take m)) wd [.int .i64 (seq+(m:Int)),.int .i64 z,.slice pf fs.length cf] (seq+(m:Int),(z,fs)) rfl rfl HOD.out (fun b _ hb=>.inl hb.1) (doc_on.2 ⟨_,rfl,HFD.out⟩) rfl (by unfold maxLen;omega) (by omega) (by omega) ?_
    rintro v' w6 ho6 hb6 hk6 ⟨g6,c6,rfl⟩
    refine hK.out _ _ hk6 ?_
    clear hK K
    rw [hlen,← HNX.out] at ho6
    rw [hlen]
    have HO6:=Lib.hid ho6
    have HBB6:=Lib.hid (HBBD.out.trans (((kep_alloc (fun k=>(Value.slice q m c).ownBlock≠some k) wd (.cells #[.int .i64 (seq+(m:Int)),.int .i64 z,.slice pf fs.length cf] 67)).trans hk6).below (by have:=HBBD.out.size;omega) fun k hk e=>by
     rw [btbox_size] at hk
     have h1:=HOB.out _ e
     have h2:=HOB2.out _ e
     omega))
    clear ho6 hb6 hk6 hlen
    repeat (refine RK.take (by rfl) (by intro W hW;go_simp;with_reducible rfl) ?_;simp only [Act.put,List.setIfInBounds_toArray,List.set_cons_zero,List.set_cons_succ])
    refine RK.done ?_
    go_wp2_with fail
    have hlt:=HLT.out
    go_roundw
    case rel=>exact ⟨m+1,some ⟨g6,0,none⟩,m+1,c6,by omega,rfl,rfl,by go_num,HO6,HBB6⟩
    case measure=>simp [intOf];omega
   ·obtain rfl:m=es.length:=by omega
    have q1:decide ((es.length:Int)<(es.length:Int))=false:=by simp
    have q2:decide (es.length<es.length)=false:=by simp
    have HBW9:=Lib.hid hbw
    have hh:=HO.out
    rw [List.take_length] at hh
    have HROW:=Lib.hid hh
    have hds:=HE2.out
    subst hds
    clear hlt hbw hh HO HDS HE2
    go_wp2_with fail
    go_ret
    exact ⟨_,rfl,HROW.out,HBW9.out⟩
 ·have q1:(c != 0)=true:=by simp [h0]
  have e1:docsB (seq,es)=[]:=by unfold docsB;rw [if_pos (by rw [hc];exact h0)]
  have e2:DS=[]:=by rw [← HDS.out,e1]
  subst e2
  clear hb2 hbw hc e1 h0 hr HCK HDS
  go_wp2_with fail
  go_ret
  exact ⟨_,rfl,OwnX.nil_ _ _ _ _,HBW.out⟩
end Go.Proofs.YtidhgicajlaafaaGreat.EV
