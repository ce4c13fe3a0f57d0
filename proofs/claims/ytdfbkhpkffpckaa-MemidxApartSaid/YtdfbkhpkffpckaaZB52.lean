import Derived.Test.YtdfbkhpkffpckaaZB46
set_option maxRecDepth 100000
set_option maxHeartbeats 8000000
set_option linter.unusedVariables false
set_option linter.unusedSimpArgs false
namespace Go.Proofs.Ytdfbkhpkffpckaa.EV
open Go Go.RowKit MM EM
def BoxW (w:World) (b:Nat) (t:TypeId):Prop:=∃ cs fr,w.heap[b]? = some (.cells cs t fr)
def DocsOn (S:Nat→Prop) (ds:List Doc) (w:World) (e:Ending) (w':World):Prop:=∃ u,e=.returned u∧OwnX docC 65 w.heap.size (fun b=>b<w.heap.size∧S b) w' u ds∧Below w.heap.size w w'
theorem rdocs_on (S:Nat→Prop) (seq:Int) (v:Value) (es:List Ev) (w:World) (hr:ROn evC S w v es):Calls Try.prog 58 #[.agg #[.int .i64 seq,v]] w (DocsOn S (docsB (seq,es)) w):=by
 have hbx:=btbox_below w seq v
 have hck:=rcbatch_any seq v es _ (RAny.below hr.any hbx)
 obtain ⟨p,cap,rfl,hlc,hcm,_⟩:=hr.shape
 unfold maxLen at hcm
 have HCK:=Lib.hid hck
 obtain ⟨DS,hDS⟩:∃ DS,docsB (seq,es)=DS:=⟨_,rfl⟩
 rw [hDS]
 have HDS:=Lib.hid hDS
 clear hck hbx hDS
 go_enter Try.func58,Try.ntmps58
 go_wp2_with fail
 refine HCK.out.mono ?_
 rintro e w2 ⟨rfl,hb2⟩
 have HB2:=Lib.hid hb2
 obtain ⟨c0,c1,hbw⟩:=btbox_in hb2
 have HBW:=Lib.hid hbw
 obtain ⟨c,hc⟩:∃ c,checkB (seq,es)=c:=⟨_,rfl⟩
 rw [hc]
 by_cases h0:c=0
 ·subst h0
  obtain ⟨hl1,hl64,hall,_,hs1,hs2⟩:=checkB_ok hc
  have hl1:1≤es.length:=hl1
  have hl64:es.length≤64:=hl64
  have hs1:1≤seq:=hs1
  have hs2:seq≤1099511627776:=by have:seq≤1099511627776 - ((es.length:Int) - 1):=hs2;omega
  have e1:docsB (seq,es)=docsL seq es:=by unfold docsB;rw [if_neg (by simp [hc])]
  have e2:DS=docsL seq es:=by rw [← HDS.out,e1]
  have HE2:=Lib.hid e2
  have HR:=Lib.hid (show ROn evC (fun b=>b<w.heap.size∧S b) w (.slice p es.length cap) es from ROn.weak hr fun _ h h2=>⟨h,h2⟩)
  have HO0:=Lib.hid (OwnX.nil_ (C:=docC) 65 w.heap.size (fun b=>b<w.heap.size∧S b) w2)
  have HS0:Hid (docsL seq (es.take 0)=[]):=Lib.hid (by simp [docsL])
  clear hb2 hbw hc hall e1 e2 hr HCK
  go_wp2_with fail
  go_loopw [3,4] (fun lv iv wr=>∃ (i:Nat) (q:Option Addr) (m c:Nat),i≤es.length∧m=i∧lv=.slice q m c∧iv=.int .i64 i∧Hid (OwnX docC 65 w.heap.size (fun b=>b<w.heap.size∧S b) wr (.slice q m c) (docsL seq (es.take i)))∧Hid (Below (btBox w seq (.slice p es.length cap)).heap.size (btBox w seq (.slice p es.length cap)) wr)) (fun _ iv _=>es.length - (intOf iv).toNat)
  case atStart=>exact ⟨0,none,0,0,by omega,rfl,rfl,rfl,Lib.hid (by rw [HS0.out];exact HO0.out),HB2⟩
  case round =>
   obtain ⟨i,q,m,c,hi,rfl,rfl,rfl,HO,HBB⟩:=hrel
   clear HO0 HB2 HS0
   obtain ⟨d0,d1,hbw⟩:=btbox_in HBB.out
   by_cases hlt:m<es.length
   ·have q1:decide ((m:Int)<(es.length:Int))=true:=by rw [decide_eq_true_eq];omega
    have q2:decide (m<es.length)=true:=by rw [decide_eq_true_eq];omega
    have q3:(m:Int)<es.length:=by omega
    obtain ⟨b,off,vf,rfl,hbl,⟨hbB,_⟩,k1,k2,hf⟩:=ev_at (ROn.keep HR.out ((kep_lt hbw).mono fun _ h=>h.1) fun _ _ h=>h) hlt
    have hnx:=docsL_next seq hlt
    have hlen:=docsL_len seq (es.take m)
    rw [List.length_take,Nat.min_eq_left (by omega)] at hlen
    obtain ⟨⟨z,fs⟩,hz2⟩:∃ e,es[m]=e:=⟨_,rfl⟩
    rw [hz2] at k1 hf hnx
    change ROn fldC _ wr vf fs at hf
    change wr.cell? ⟨b,off+m*2,none⟩=some (.int .i64 z) at k1
    obtain ⟨pf,cf,rfl,_⟩:=hf.shape
    have HNX:=Lib.hid hnx
    have HLEN:=Lib.hid hlen
    have HLT:=Lib.hid hlt
    have hwr:=HBB.out.size
    rw [btbox_size] at hwr
    have hbt:BoxW wr w.heap.size 53:=⟨_,_,HBB.out.block w.heap.size (by rw [btbox_size];omega) |>.trans (heap_alloc_new w _)⟩
    have hob:∀ g,(Value.slice q m c).ownBlock=some g→g≠w.heap.size:=fun g hg e=>by
     obtain ⟨_,_,c1,f1,h1⟩:=HO.out.cells hg
     obtain ⟨c2,f2,h2⟩:=hbt
     rw [e,h2] at h1
     simp only [Option.some.injEq,Obj.cells.injEq] at h1
     exact absurd h1.2.1 (by decide)
    have hoB:∀ g,(Value.slice q m c).ownBlock=some g→w.heap.size≤g:=fun g hg=>(HO.out.cells hg).1
    go_wp2_with fail
    refine RK.begin_ (T:=fun k=>(Value.slice q m c).ownBlock≠some k) [(0,true),(1,true),(2,true),(3,true),(4,true),(5,true),(6,true),(7,true),(8,true),(9,true),(10,true),(11,false),(12,false),(13,true)] (by kernel_rfl) (by kernel_rfl) rfl (by kernel_rfl) (fun _ _ d _ _ h=>by cases d<;>exact h) ?_
    simp only [RK.ordered,List.map_cons,List.map_nil,List.getElem?_toArray,List.getElem?_cons_succ,List.getElem?_cons_zero]
    obtain ⟨wd,hwd⟩:∃ wd,wr.drew=wd:=⟨_,rfl⟩
    have hkd:Kep (fun _=>True) wr wd:=by rw [← hwd];exact kep_draw _ _
    have hsd:wd.heap.size=wr.heap.size:=by rw [← hwd];rfl
    have G:=Lib.hid (fun W (hW:Kep (fun k=>(Value.slice q m c).ownBlock≠some k) wd W)=>(show W.cell? ⟨w.heap.size,0,none⟩=some (.int .i64 seq)∧W.cell? ⟨w.heap.size,1,none⟩=some (.slice (some ⟨b,off,none⟩) es.length cap)∧W.cell? ⟨b,off+m*2,none⟩=some (.int .i64 z)∧W.cell? ⟨b,off+m*2+1,none⟩=some (.slice pf fs.length cf) from
     ⟨(hW.cell (by omega) (fun e=>hob _ e rfl) 0).trans ((hkd.cell (by omega) trivial 0).trans d0),(hW.cell (by omega) (fun e=>hob _ e rfl) 1).trans ((hkd.cell (by omega) trivial 1).trans d1),
      (hW.cell (by omega) (fun e=>by have:=hoB _ e;omega) _).trans ((hkd.cell hbl trivial _).trans k1),(hW.cell (by omega) (fun e=>by have:=hoB _ e;omega) _).trans ((hkd.cell hbl trivial _).trans k2)⟩))
    have HOD:=Lib.hid (HO.out.keep hkd (fun _ _ _=>trivial) fun _ _=>trivial)
    have HFD:=Lib.hid (ROn.keep hf (hkd.mono fun _ _=>trivial) (fun _ _ h=>h))
    have HBBD:=Lib.hid (show Below (btBox w seq (.slice (some ⟨b,off,none⟩) es.length cap)).heap.size (btBox w seq (.slice (some ⟨b,off,none⟩) es.length cap)) wd by rw [← hwd];exact HBB.out.drew)
    have HOB:=Lib.hid hob
    have HOB2:=Lib.hid hoB
    rw [hwd]
    clear hwd hkd hnx hlen hf hz2 hbw hlt hob hoB hbt
    repeat (refine RK.take (by rfl) (by intro W hW;obtain ⟨f1,f2,f3,f4⟩:=G.out W hW;go_simp;with_reducible rfl) ?_;simp only [Act.put,List.setIfInBounds_toArray,List.set_cons_zero,List.set_cons_succ])
    have hwrp:IntKind.i64.wrap (seq+(m:Int))=seq+(m:Int):=by rw [IntWalk.i64_left];exact IntWalk.wrap64_in _ ⟨by omega,by omega⟩
    try rw [hwrp]
    clear hwrp
    refine RK.alone (by rfl) (fun K hK => ?_)
    go_simp
    refine hK.out _ _ (kep_alloc _ _ _) ?_
    clear hK K
    refine RK.alone (by rfl) (fun K hK => ?_)
    try rw [← hsd]
    have hlen:=HLEN.out
    refine wp_append_x1 docE (S:=fun b=>b<w.heap.size∧S b) _ _ rfl w.heap.size _ (docsL seq (es.take m)) wd [.int .i64 (seq+(m:Int)),.int .i64 z,.slice pf fs.length cf] (seq+(m:Int),(z,fs)) rfl rfl HOD.out (fun b _ hb=>.inl hb.1) (doc_on.2 ⟨_,rfl,HFD.out⟩) rfl (by unfold maxLen;omega) (by omega) (by omega) ?_
    rintro v' w6 ho6 hb6 hk6 ⟨g6,c6,rfl⟩
    refine hK.out _ _ hk6 ?_
    clear hK K
    rw [hlen,← HNX.out] at ho6
    rw [hlen]
    have HO6:=Lib.hid ho6
    have HBB6:=Lib.hid (HBBD.out.trans (((kep_alloc (fun k=>(Value.slice q m c).ownBlock≠some k) wd (.cells #[.int .i64 (seq+(m:Int)),.int .i64 z,.slice pf fs.length cf] 65)).trans hk6).below (by have:=HBBD.out.size;omega) fun k hk e=>by
     rw [btbox_size] at hk
     have h1:=HOB.out _ e
     have h2:=HOB2.out _ e
     omega))
    clear ho6 hb6 hk6 hlen
    repeat (refine RK.take (by rfl) (by intro W hW;go_simp;with_reducible rfl) ?_;simp only [Act.put,List.setIfInBounds_toArray,List.set_cons_zero,List.set_cons_succ])
    refine RK.done ?_
    go_wp2_with fail
    have hlt:=HLT.out
    go_roundw
    case rel=>exact ⟨m+1,some ⟨g6,0,none⟩,m+1,c6,by omega,rfl,rfl,by go_num,HO6,HBB6⟩
    case measure=>simp [intOf];omega
   ·obtain rfl:m=es.length:=by omega
    have q1:decide ((es.length:Int)<(es.length:Int))=false:=by simp
    have q2:decide (es.length<es.length)=false:=by simp
    have HBW9:=Lib.hid hbw
    have hh:=HO.out
    rw [List.take_length] at hh
    have HROW:=Lib.hid hh
    have hds:=HE2.out
    subst hds
    clear hlt hbw hh HO HDS HE2
    go_wp2_with fail
    go_ret
    exact ⟨_,rfl,HROW.out,HBW9.out⟩
 ·have q1:(c != 0)=true:=by simp [h0]
  have e1:docsB (seq,es)=[]:=by unfold docsB;rw [if_pos (by rw [hc];exact h0)]
  have e2:DS=[]:=by rw [← HDS.out,e1]
  subst e2
  clear hb2 hbw hc e1 h0 hr HCK HDS
  go_wp2_with fail
  go_ret
  exact ⟨_,rfl,OwnX.nil_ _ _ _ _,HBW.out⟩
end Go.Proofs.Ytdfbkhpkffpckaa.EV
