import Derived.Test.YtdfibahafilklaaGreatDoorZC27
import Derived.Test.YtdfibahafilklaaGreatDoorZC40
import Derived.Test.YtdfibahafilklaaGreatDoorZC42
set_option maxRecDepth 100000
set_option maxHeartbeats 8000000
set_option linter.unusedVariables false
set_option linter.unusedSimpArgs false
namespace Go.Proofs.YtdfibahafilklaaGreatDoor.WL
open Go Go.RowKit MM EM WM DK BR
open EV (batC bat_on evC cencode_any CodeLeft)
open CR (PRow)
open FM (framesL)
open FP (join_fr PutsLeft)
def bytC:Codec (List UInt8):=cRow cU8
theorem flat_one:∀ (raw:List (List Value)) (i:Nat) (u:Value),(∀ x∈raw,x.length=1)→raw[i]? = some [u]→raw.flatten[i]? = some u
 | [],i,u,_,h=>by simp at h
 | x::raw,i,u,hl,h=>by
   have hx:=hl x (List.mem_cons_self ..)
   obtain ⟨y,rfl⟩:∃ y,x=[y]:=List.length_eq_one_iff.1 hx
   cases i with
   | zero=>simp only [List.getElem?_cons_zero,Option.some.injEq,List.cons.injEq,and_true] at h;subst h;rfl
   | succ i =>
     rw [List.getElem?_cons_succ] at h
     rw [List.flatten_cons,List.singleton_append,List.getElem?_cons_succ]
     exact flat_one raw i u (fun z hz=>hl z (List.mem_cons_of_mem _ hz)) h
theorem prow_ron {S:Nat→Prop} {w:World} {v:Value} {ls:List (List UInt8)} (h:ROn bytC S w v ls):PRow w v ls:=by
 obtain ⟨p,cap,raw,rfl,h1,h2,h3,hm,hc⟩:=h
 have hone:∀ x∈raw,x.length=1:=hm.lens
 have hfl:=flat_len hm.lens
 have hsz:bytC.size=1:=rfl
 rw [hsz,Nat.mul_one] at hfl
 refine ⟨raw.flatten,⟨p,cap,by rw [hfl,hm.1],by rw [hfl,hm.1];exact h1,h2,h3,?_⟩,by rw [hfl,hm.1],fun i hi => ?_⟩
 ·rcases hc with hc | ⟨b,off,hp,hlt,_,hc⟩
  ·left
   have:raw=[]:=List.eq_nil_of_length_eq_zero (by rw [hm.1,hc];rfl)
   rw [this];rfl
  ·exact .inr ⟨b,off,hp,hlt,hc⟩
 ·have hi':i<raw.length:=by rw [hm.1];exact hi
  obtain ⟨x,hx,hr⟩:=hm.2 i hi' hi
  refine ⟨x,flat_one raw i x hone (by rw [List.getElem?_eq_getElem hi',hx]),BOn.brow hr⟩
theorem encs_snoc {bs:List Bat} {i:Nat} (h:i<bs.length):(bs.take (i+1)).map encB=(bs.take i).map encB++[encB bs[i]]:=by
 rw [List.take_succ_eq_append_getElem h,List.map_append]
 rfl
theorem errW_next {bs:List Bat} {i:Nat} (h:i<bs.length) (h0:errW (bs.take i)=0) (hc:checkB bs[i]=0):errW (bs.take (i+1))=0:=errW_of fun b hb=>by
 rw [List.take_succ_eq_append_getElem h] at hb
 rcases List.mem_append.1 hb with hb | hb
 ·exact errW_all h0 b hb
 ·rw [List.mem_singleton.1 hb];exact hc
theorem errW_bad {bs:List Bat} {i:Nat} (h:i<bs.length) (h0:errW (bs.take i)=0) (hc:checkB bs[i]≠0):errW bs=checkB bs[i]:=by rw [errW_at h h0,if_pos hc]
theorem app_err {d:DiskD} {n:Nat} {bs:List Bat} (h:errW bs≠0):appendW d n bs=(d,errW bs):=by unfold appendW;rw [if_pos h]
theorem app_nil (d:DiskD) (n:Nat):appendW d n []=(d,0):=rfl
theorem app_ok {d:DiskD} {n:Nat} {bs:List Bat} (h:errW bs=0) (hne:bs≠[]):appendW d n bs=appendD d (nameW n) (fileB bs):=by unfold appendW;rw [if_neg (by simp [h]),if_neg hne]
theorem wappend_any {S:Nat→Prop} {w:World} {g mb:Nat} {V:List UInt8→Value} {c:Int} {d:DiskD} (h:CObj S w g mb V c d) (hF:Fits d) (gw n:Nat) (hw:WrtAt w gw g n) (hgs:¬ S gw)
  (v:Value) (bs:List Bat) (hr:RAny batC w v bs) (hf:∀ b∈bs,∀ e∈b.2,FitE e) (hl:bs.length≤1000):Calls Tryz.prog 20 #[.pointer (some ⟨gw,0,none⟩),v] w (DoneC g mb (appendW d n bs) S w):=by
 have hmx:Tryz.prog.follows .mixedOrders=true:=by kernel_rfl
 have HM:=Lib.hid (made_any w gw g n hw)
 obtain ⟨p,cap,rfl,hlc,hcm,_⟩:=hr.shape
 have HS0:=Lib.hid (Ext.refl_ (Kep.refl (fun k=>¬ S k) w))
 have HO:=Lib.hid h
 by_cases h0:bs=[]
 ·subst h0
  rw [app_nil]
  have t1:((0:Int) == 0)=true:=rfl
  clear hr hF hw hgs hf h
  go_enter Tryz.func20,Tryz.ntmps20
  go_wp2_with fail
  refine HM.out.mono ?_
  rintro e w1 ⟨rfl,rfl⟩
  clear HM
  go_wp2_with fail
  go_ret
  exact ⟨rfl,S,V,c,HO.out,HS0.out⟩
 ·have hpos:0<bs.length:=List.length_pos_iff.2 h0
  have t1:((bs.length:Int) == 0)=false:=by rw [beq_eq_false_iff_ne];omega
  have HR:=Lib.hid hr.bel
  have HFE:=Lib.hid hf
  have HFT:=Lib.hid hF
  have HW:=Lib.hid hw
  have HGS:=Lib.hid hgs
  have HNE:=Lib.hid h0
  have hgl:=hw.lt
  obtain ⟨iD,hiD,hzD0,hzD1,hzD2⟩:=info_parts (show (Tryz.prog.info? 31).map (fun i=>(i.zero,i.size,i.bytes))=some (some (.slice none 0 0),1,24) by kernel_rfl)
  obtain ⟨q,hq⟩:∃ q,w.heap.size=q:=⟨_,rfl⟩
  have HQ0:=Lib.hid hq
  clear hr hF hw hgs hf h h0 hq
  go_enter Tryz.func20,Tryz.ntmps20
  go_wp2_with fail
  refine HM.out.mono ?_
  rintro e w1 ⟨rfl,rfl⟩
  clear HM
  go_wp2_with (at_make;go_loud (refine wpList_make_full w rfl _ _ 113 rfl w.heap.size 31 iD (.slice none 0 0) 1 Tryz.underlying113 hiD hzD0 hzD1 .i64 .i64 _ _ bs.length rfl rfl rfl rfl (by rw [hzD2];omega) (by unfold maxLen;omega) (Nat.le_refl _) ?_))
  intro w3 hown3 hg3
  have b3:=(Below.refl w.heap.size w).grown hg3 (Nat.le_refl _) (fun k h=>by cases h)
  have hh3:=HalfX.start (C:=bytC) (e:=31) (S:=fun b=>q≤b∧b≠q) hown3
  rw [HQ0.out] at hh3 b3
  have HH3:=Lib.hid hh3
  have HB3:=Lib.hid b3
  clear hown3 hg3 b3 hh3 hzD0 hzD1 hzD2 hiD
  rw [HQ0.out]
  go_wp2_with fail
  go_loopw [23] (fun iv wr=>∃ i:Nat,i≤bs.length∧iv=.int .i64 i∧Hid (errW (bs.take i)=0)∧Hid (HalfX bytC 31 (fun b=>q≤b∧b≠q) wr q bs.length ((bs.take i).map encB))∧Hid (Below q w wr)) (fun iv _=>bs.length - (intOf iv).toNat)
  case atStart=>exact ⟨0,by omega,rfl,Lib.hid rfl,HH3,HB3⟩
  case round =>
   obtain ⟨i,hi,rfl,HE,HH,HB⟩:=hrel
   clear HH3 HB3
   by_cases hlt:i<bs.length
   ·have q1:decide ((i:Int)<(bs.length:Int))=true:=by rw [decide_eq_true_eq];omega
    have q2:decide (i<bs.length)=true:=by rw [decide_eq_true_eq];omega
    have q3:(i:Int)<(bs.length:Int):=by omega
    have hbw:Below w.heap.size w wr:=by rw [HQ0.out];exact HB.out
    obtain ⟨b,off,ev,rfl,hbl,_,k0,k1,hfv⟩:=bat_at (RBel.below HR.out hbw) hlt
    have hfe:=HFE.out bs[i] (List.getElem_mem hlt)
    have hsn:=encs_snoc hlt
    have hnx:=errW_next hlt HE.out
    have hbd:=errW_bad hlt HE.out
    have hlen:((bs.take i).map encB).length=i:=by rw [List.length_map,List.length_take];omega
    replace k0:wr.cell? ⟨b,off+i*2,none⟩=some (.int .i64 (bs[i]).1):=k0
    replace hfv:ROn evC (fun b=>b<w.heap.size) wr ev (bs[i]).2:=hfv
    obtain ⟨⟨sq,es⟩,hd⟩:∃ d,bs[i]=d:=⟨_,rfl⟩
    rw [hd] at k0 hfv hfe hsn hnx hbd
    change ROn evC _ wr ev es at hfv
    change wr.cell? ⟨b,off+i*2,none⟩=some (.int .i64 sq) at k0
    obtain ⟨pe,ce,rfl,_⟩:=hfv.shape
    obtain ⟨w4,hw4⟩:∃ w4,wr.alloc (.cells #[.int .i64 sq,.slice pe es.length ce] 82)=w4:=⟨_,rfl⟩
    have hb4:Below wr.heap.size wr w4:=by rw [← hw4];exact (Below.refl _ _).alloc (Nat.le_refl _) _
    have hx4:Two w4 wr.heap.size 82 (.int .i64 sq) (.slice pe es.length ce):=by rw [← hw4];exact two_new wr _ _ _
    have y0:=hx4.c0
    have y1:=hx4.c1
    have hqw:q<wr.heap.size:=HH.out.1
    have hC:=cencode_any sq (.slice pe es.length ce) es w4 (RAny.below hfv.any hb4) hfe
    obtain ⟨ck,hck⟩:∃ ck,checkB (sq,es)=ck:=⟨_,rfl⟩
    obtain ⟨X,hX⟩:∃ X,EV.encR (sq,es)=X:=⟨_,rfl⟩
    have hXe:ck=0→X=encB (sq,es):=fun h=>by rw [← hX];unfold EV.encR;rw [if_pos (by rw [hck];exact h)]
    rw [hck,hX] at hC
    rw [hck] at hnx hbd
    unfold CodeLeft at hC
    have HC:=Lib.hid hC
    have HXE:=Lib.hid hXe
    have HNX:=Lib.hid hnx
    have HBD:=Lib.hid hbd
    have HSN:=Lib.hid hsn
    have HH4:=Lib.hid (HH.out.keep (kep_below (fun _=>True) hb4) trivial fun _ _ _=>trivial)
    have HB4:=Lib.hid (HB.out.trans (hb4.mono (by omega)))
    have HW4:=Lib.hid hw4
    have HLEN:=Lib.hid hlen
    have HLT:=Lib.hid hlt
    have hq4:q<w4.heap.size:=by have:=hb4.size;omega
    clear hbw hfv hfe hd hlen hw4 hb4 hx4 hlt HH HB hC hXe hnx hbd hsn hck hX
    go_wp2_with (rw [HW4.out])
    refine HC.out.mono ?_
    rintro e w5 ⟨u,rfl,hu,hb5⟩
    obtain ⟨pu,cu,hus,_⟩:=OwnB.brow hu |>.shape
    subst hus
    by_cases hc:ck=0
    ·subst hc
     obtain rfl:=HXE.out rfl
     have hh5:=HH4.out.keep (kep_below (fun _=>True) hb5) trivial fun _ _ _=>trivial
     have HTH:=HalfX.there hh5 (k:=i) HLT.out
     have h1:=HTH 0 (by decide)
     rw [show bytC.size=1 from rfl,Nat.mul_one,Nat.add_zero] at h1
     obtain ⟨old,hold⟩:=Option.isSome_iff_exists.1 h1.1
     have hfr:=h1.2
     have hon:bytC.on (fun b=>q≤b∧b≠q) w5 [.slice pu (encB (sq,es)).length cu] (encB (sq,es)):=⟨_,rfl,(BOn.of_own hu).weak fun b _ hb=>by
      have:=World.ownsRow.lt hu b hb
      exact ⟨by omega,by omega⟩⟩
     have hnext:=HalfX.next hh5 (by rw [HLEN.out];exact HLT.out) hon (fun h=>h.2 rfl)
     rw [HLEN.out,← HSN.out,show i*bytC.size=i from Nat.mul_one i] at hnext
     change HalfX bytC 31 _ (w5.setCell ⟨q,i,none⟩ (.slice pu (encB (sq,es)).length cu)) q bs.length _ at hnext
     have hks:Kep (fun b=>b≠q) w5 (w5.setCell ⟨q,i,none⟩ (.slice pu (encB (sq,es)).length cu)):=kep_set0 _
     obtain ⟨w6,hw6⟩:∃ w6,w5.setCell ⟨q,i,none⟩ (.slice pu (encB (sq,es)).length cu)=w6:=⟨_,rfl⟩
     rw [hw6] at hnext hks
     have HNEXT:=Lib.hid hnext
     have HB6:=Lib.hid ((HB4.out.trans (hb5.mono (by omega))).trans (hks.below (by have:=hb5.size;omega) fun k hk=>by omega))
     have HW6:=Lib.hid hw6
     have HE6:=Lib.hid (HNX.out rfl)
     have t2:((0:Int) != 0)=false:=rfl
     generalize (encB (sq,es)).length=XL at *
     clear hu hb5 hh5 HTH h1 hon hnext hks hw6 HC HXE HNX HBD HSN HH4 HB4 HW4 HLEN HE
     go_wp2_with (rw [HW6.out])
     have hlt:=HLT.out
     go_roundw
     case rel=>exact ⟨i+1,by omega,by go_num,HE6,HNEXT,HB6⟩
     case measure=>simp [intOf];omega
    ·have t2:(ck != 0)=true:=by rw [bne_iff_ne];exact hc
     have hbd:=HBD.out hc
     have heq:=app_err (d:=d) (n:=n) (by rw [hbd];exact hc)
     rw [hbd] at heq
     have HEQ:=Lib.hid heq
     have HB5:=Lib.hid (HB4.out.trans (hb5.mono (by omega)))
     have HQ:Hid (DoneC g mb (d,ck) S w (.returned (.int .i64 ck)) w5):=Lib.hid (by
      have hb:Below w.heap.size w w5:=by rw [HQ0.out];exact HB5.out
      exact ⟨rfl,S,V,c,HO.out.below hb,Ext.refl_ (kep_below _ hb)⟩)
     clear hu hb5 HC HXE HNX HBD HSN HH4 HB4 HW4 HLEN HE hbd HB5 heq
     go_wp2_with fail
     go_ret
     rw [HEQ.out]
     exact HQ.out
   ·obtain rfl:i=bs.length:=by omega
    have q1:decide ((bs.length:Int)<(bs.length:Int))=false:=by simp
    have q2:decide (bs.length<bs.length)=false:=by simp
    have he:=HE.out
    have hh:=HH.out
    rw [List.take_length] at he hh
    have hall:=errW_all he
    have hfl:=fileB_le hall
    have heq:=app_ok (d:=d) (n:=n) he HNE.out
    have hrow:=prow_ron (HalfX.ron (T:=fun _=>True) hh (by rw [List.length_map]) (by unfold maxLen;omega) trivial fun _ _ _=>trivial)
    have HJ:=Lib.hid (join_fr _ (bs.map encB) wr hrow (fun x hx=>by obtain ⟨b,hb,rfl⟩:=List.mem_map.1 hx;exact encB_len (hall b hb)) (by show (fileB bs).length≤_;omega))
    rw [show framesL (bs.map encB)=fileB bs from rfl] at HJ
    obtain ⟨X,hX⟩:∃ X,fileB bs=X:=⟨_,rfl⟩
    rw [hX] at HJ hfl heq
    unfold PutsLeft at HJ
    have hbw:Below w.heap.size w wr:=by rw [HQ0.out];exact HB.out
    have HBW:=Lib.hid hbw
    have HC:=Lib.hid (fun W vb (hW:Below w.heap.size w W) (hb:BRow W vb X)=>cappend_any S g mb V c d (nameW n) vb X W (HO.out.below hW) HFT.out HFT.out.used (by rw [nameW_len];omega) hb (by omega))
    unfold DoneC at HC
    unfold WrtAt at HW
    have hxl:X.length≤100000000000:=by omega
    obtain ⟨r,hr⟩:∃ r,appendD d (nameW n) X=r:=⟨_,rfl⟩
    rw [hr] at HC heq
    have HEQ:=Lib.hid heq
    have hq1:=HBW.out.size
    have t2:((0:Int) != 0)=false:=rfl
    generalize nameW n=s at *
    clear he hh hall hfl hrow hX hbw hlt HE HH HB hr heq
    go_wp2_with fail
    refine HJ.out.mono ?_
    rintro e w5 ⟨u,rfl,hu,hb5⟩
    have HU5:=Lib.hid (OwnB.brow hu)
    have HB5:=Lib.hid (HBW.out.trans (hb5.mono hq1))
    obtain ⟨pu,cu,hus,_⟩:=HU5.out.shape
    subst hus
    have hwt5:=HW.out.below HB5.out hgl
    have HW5:=Lib.hid hwt5
    clear hu hb5 HJ hwt5
    go_wp2_with fail
    refine RK.begin_ (T:=fun k=>¬ S k) [(0,true),(1,true),(2,true),(3,true),(4,true),(5,true),(6,true),(7,true),(8,true),(9,false),(10,true)] hmx (by kernel_rfl) rfl (by kernel_rfl) (fun _ _ d _ _ h=>by cases d<;>exact h) ?_
    simp only [RK.ordered,List.map_cons,List.map_nil,List.getElem?_toArray,List.getElem?_cons_succ,List.getElem?_cons_zero]
    obtain ⟨wd,hwd⟩:∃ wd,w5.drew=wd:=⟨_,rfl⟩
    have hbd:Below w5.heap.size w5 wd:=by rw [← hwd];exact (Below.refl _ _).drew
    have hwt:=HW5.out.below hbd HW5.out.lt
    have F0:=fun W (hW:Kep (fun k=>¬ S k) wd W)=>(hwt.keep hW HGS.out).c0
    have F1:=fun W (hW:Kep (fun k=>¬ S k) wd W)=>(hwt.keep hW HGS.out).c1
    have HBD:=Lib.hid (HB5.out.trans (hbd.mono HB5.out.size))
    have HUD:=Lib.hid (HU5.out.below hbd)
    rw [hwd]
    clear hwd hbd hwt HB5 HU5
    repeat (refine RK.take (by rfl) (by intro W hW;have f0:=F0 W hW;have f1:=F1 W hW;go_simp;with_reducible rfl) ?_;simp only [Act.put,List.setIfInBounds_toArray,List.set_cons_zero,List.set_cons_succ])
    refine RK.alone (by rfl) (fun K hK => ?_)
    go_simp
    refine (HC.out wd _ HBD.out HUD.out).mono ?_
    rintro e w2 ⟨rfl,S',V',c',ho,hx⟩
    go_simp
    refine hK.out _ _ hx.kep ?_
    clear hK K F0 F1
    have HX:=Lib.hid (Ext.pre (kep_below (fun k=>¬ S k) HBD.out) hx)
    have HO2:=Lib.hid ho
    clear hx ho
    repeat (refine RK.take (by rfl) (by intro W hW;go_simp;with_reducible rfl) ?_;simp only [Act.put,List.setIfInBounds_toArray,List.set_cons_zero,List.set_cons_succ])
    refine RK.done ?_
    go_wp2_with fail
    go_ret
    rw [HEQ.out]
    exact ⟨rfl,S',V',c',HO2.out,HX.out⟩
end Go.Proofs.YtdfibahafilklaaGreatDoor.WL
