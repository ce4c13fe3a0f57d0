import Derived.Test.YtdfibahafilklaaGreatDoorZC37
import Derived.Test.YtdfibahafilklaaGreatDoorZC29
set_option maxRecDepth 100000
set_option maxHeartbeats 8000000
set_option linter.unusedVariables false
set_option linter.unusedSimpArgs false
namespace Go.Proofs.YtdfibahafilklaaGreatDoor.EV
open Go Go.RowKit MM EM VM
theorem evE:Elem evC Tryz.prog 80 87 32:=⟨Tryz.underlying80,by
 have h:(Tryz.prog.info? 87).map (fun i=>(i.zero,i.size,i.bytes))=some (some (.agg #[.int .i64 0,.slice none 0 0]),2,32):=by kernel_rfl
 obtain ⟨i,h1,h2,h3,h4⟩:=info_parts h
 exact ⟨i,_,h1,h2,h3,h4,rfl⟩⟩
theorem infoBat2:(Tryz.prog.info? 82).map (·.size)=some 2:=by kernel_rfl
def decR (l:List UInt8):Bat×Int:=match decB l with
 | some b=>(b,0)
 | none=>((0,[]),100)
theorem decR_some {l:List UInt8} {b:Bat} (h:decB l=some b):decR l=(b,0):=by unfold decR;rw [h]
theorem decR_none {l:List UInt8} (h:decB l=none):decR l=((0,[]),100):=by unfold decR;rw [h]
theorem dec_bad {l:List UInt8} (h:(decSt l).2.2=true∨0<(decSt l).2.1.length∨checkB (decSt l).1≠0):decB l=none:=by
 unfold decB
 cases hr:rdB l with
 | none=>rfl
 | some p =>
   obtain ⟨b,r⟩:=p
   have e:=decSt_some hr
   rw [e] at h
   dsimp only at h ⊢
   rw [if_pos (h.elim (fun h=>by cases h) id)]
theorem checkB_all {b:Bat} (h:checkB b=0):∀ e∈b.2,checkE e=0:=(checkB_ok h).2.2.1
theorem dec_good {l:List UInt8} (h1:(decSt l).2.2=false) (h2:(decSt l).2.1.length=0) (h3:checkB (decSt l).1=0):decB l=some (decSt l).1:=by
 unfold decB
 cases hr:rdB l with
 | none =>
   rcases decSt_none hr with h | ⟨e,he,hne⟩
   ·rw [h] at h1;cases h1
   ·exact absurd (checkB_all h3 e he) hne
 | some p =>
   obtain ⟨b,r⟩:=p
   have e:=decSt_some hr
   rw [e] at h2 h3 ⊢
   dsimp only at h2 h3 ⊢
   rw [if_neg (fun h=>h.elim (fun h=>by omega) (fun h=>h h3))]
theorem isF_apt {B:Nat} {w:World} {b:Nat} (h:IsF w b):Apt 87 B w b:=.inr fun cur fr hc=>by
 obtain ⟨c2,f2,h2⟩:=h
 rw [h2] at hc
 simp only [Option.some.injEq,Obj.cells.injEq] at hc
 exact absurd hc.2.1 (by decide)
theorem isF_own {B:Nat} {S:Nat→Prop} {w:World} {v:Value} {es:List Ev} (h:OwnX evC 87 B S w v es) {b:Nat} (hb:IsF w b):v.ownBlock≠some b:=fun e=>by
 obtain ⟨_,_,c1,f1,h1⟩:=h.cells e
 obtain ⟨c2,f2,h2⟩:=hb
 rw [h2] at h1
 simp only [Option.some.injEq,Obj.cells.injEq] at h1
 exact absurd h1.2.1 (by decide)
def EvB (w:World) (b:Nat):Prop:=IsF w b∨∃ cur fr,w.heap[b]? = some (.cells cur 87 fr)
theorem EvB.lt {w:World} {b:Nat} (h:EvB w b):b<w.heap.size:=by
 rcases h with ⟨_,_,h⟩ | ⟨_,_,h⟩<;>exact (Array.getElem?_eq_some_iff.1 h).1
theorem EvB.keep {T:Nat→Prop} {w w':World} {b:Nat} (h:EvB w b) (hk:Kep T w w') (hb:T b):EvB w' b:=by
 have:=hk.block b h.lt hb
 rcases h with ⟨c,f,h⟩ | ⟨c,f,h⟩
 ·exact .inl ⟨c,f,this.trans h⟩
 ·exact .inr ⟨c,f,this.trans h⟩
def EvS (B:Nat) (w:World) (b:Nat):Prop:=B≤b∧EvB w b
def DecNew (s:Bat×Int) (w:World) (e:Ending) (w':World):Prop :=
 ∃ u,e=.returned (.tuple #[.agg #[.int .i64 s.1.1,u],.int .i64 s.2])∧ROn evC (EvS w.heap.size w') w' u s.1.2∧Below w.heap.size w w'
theorem cdec_new (v:Value) (l:List UInt8) (w:World) (hv:BRow w v l):Calls Tryz.prog 94 #[v] w (DecNew (decR l) w):=by
 have hmx:Tryz.prog.follows .mixedOrders=true:=by kernel_rfl
 obtain ⟨pv,cv,rfl,_⟩:=hv.shape
 obtain ⟨n,l1,o1,hn⟩:∃ n l1 o1,numSt 1099511627776 l false=(n,l1,o1):=⟨_,_,_,rfl⟩
 obtain ⟨N,l2,o2,hm⟩:∃ N l2 o2,numSt 64 l1 o1=(N,l2,o2):=⟨_,_,_,rfl⟩
 have hN:N≤64:=by have:=num_le 64 l1 o1;rw [hm] at this;exact this
 have hst:decSt l=(((n:Int),(evsN N ([],l2,o2)).1),(evsN N ([],l2,o2)).2.1,(evsN N ([],l2,o2)).2.2):=by
  unfold decSt
  rw [hn]
  dsimp only
  rw [hm]
 have hbad:=dec_bad (l:=l)
 have hgood:=dec_good (l:=l)
 rw [hst] at hbad hgood
 have HBAD:=Lib.hid hbad
 have HGOOD:=Lib.hid hgood
 obtain ⟨R,hR⟩:∃ R,w.heap.size=R:=⟨_,rfl⟩
 obtain ⟨wa,hwa⟩:∃ wa,(w.alloc (.cells #[.int .i64 0,.slice none 0 0] 82)).alloc (.cells #[.slice pv l.length cv,.bool false] 193)=wa:=⟨_,rfl⟩
 have hba:Below w.heap.size w wa:=by rw [← hwa];exact ((Below.refl _ _).alloc (Nat.le_refl _) _).alloc (by simp) _
 have hsa:wa.heap.size=R+2:=by rw [← hwa,← hR];simp
 have t0:Two wa R 82 (.int .i64 0) (.slice none 0 0):=by
  rw [← hwa,← hR];exact (two_new w 82 _ _).keep (kep_alloc (fun _=>True) _ _) trivial
 have hrd:Rd R wa (R+1) l false:=by
  refine ⟨.slice pv l.length cv,?_,by rw [← hR];exact BIn.below hv hba⟩
  rw [← hwa,← hR]
  have:=heap_alloc_new (w.alloc (.cells #[.int .i64 0,.slice none 0 0] 82)) (.cells #[.slice pv l.length cv,.bool false] 193)
  simp only [World.size_alloc] at this
  exact this
 have HN:=Lib.hid (show Calls Tryz.prog 133 #[.pointer (some ⟨R+1,0,none⟩),.int .i64 1099511627776] wa (Took R (R+1) (.int .i64 n) l1 o1 wa) from by have:=number_any R (R+1) 1099511627776 l false wa (by omega) hrd (by omega);rw [hn] at this;exact this)
 have HM:=Lib.hid (fun W (h:Rd R W (R+1) l1 o1)=>(show Calls Tryz.prog 133 #[.pointer (some ⟨R+1,0,none⟩),.int .i64 64] W (Took R (R+1) (.int .i64 N) l2 o2 W) from by have:=number_any R (R+1) 64 l1 o1 W (by omega) h (by omega);rw [hm] at this;exact this))
 have HFAIL:Hid (∀ W a b,Two W R 82 a b→Below w.heap.size w W→decB l=none →
   DecNew (decR l) w (.returned (.tuple #[.agg #[.int .i64 0,.slice none 0 0],.int .i64 100])) ((W.setCell ⟨R,0,none⟩ (.int .i64 0)).setCell ⟨R,1,none⟩ (.slice none 0 0))):=Lib.hid (fun W a b ht hb hn=>by
  rw [decR_none hn]
  exact ⟨_,rfl,ROn.nil_ _ _,hb.trans ((kep_set01 (.int .i64 0) (.slice none 0 0)).below (B:=w.heap.size) (by have:=ht.lt;omega) (fun k hk=>by omega))⟩)
 have T0:=Lib.hid t0
 have HBA:=Lib.hid hba
 have HWA:=Lib.hid hwa
 clear hbad hgood hst hrd t0 hba hv hwa hn hm
 go_enter Tryz.func94,Tryz.ntmps94
 go_wp2_with fail
 rw [HWA.out]
 refine HN.out.mono ?_
 rintro e w1 ⟨rfl,hr1,hk1⟩
 have hs1:=hk1.size
 obtain ⟨q,hq⟩:∃ q,w1.heap.size=q:=⟨_,rfl⟩
 have t1:=T0.out.keep hk1 (by omega)
 have hka:Kep (fun _=>True) w1 (w1.alloc (.cells #[.int .i64 (n:Int),.slice none 0 0] 82)):=kep_alloc _ _ _
 have n1:=two_new w1 82 (.int .i64 (n:Int)) (.slice none 0 0)
 rw [hq] at n1
 have hsq:(w1.alloc (.cells #[.int .i64 (n:Int),.slice none 0 0] 82)).heap.size=q+1:=by simp [hq]
 have HM1:=Lib.hid (HM.out (w1.alloc (.cells #[.int .i64 (n:Int),.slice none 0 0] 82)) (hr1.keep hka trivial (fun _ _=>trivial) (by omega)))
 have HT1:=Lib.hid (t1.keep hka trivial)
 have HX1:=Lib.hid n1
 have HK1:Hid (Kep (fun b=>b≠R+1) wa (w1.alloc (.cells #[.int .i64 (n:Int),.slice none 0 0] 82))):=Lib.hid (hk1.trans (hka.mono fun _ _=>trivial))
 clear hr1 hk1 t1 n1 hka HN HM T0
 go_wp2_with fail
 refine HM1.out.mono ?_
 rintro e w3 ⟨rfl,hr3,hk3⟩
 have hs3:=hk3.size
 rw [hsq] at hs3
 have hqa:R+2≤q:=by omega
 have HR3:=Lib.hid hr3
 have HT3:=Lib.hid (HT1.out.keep hk3 (by omega))
 have HX3:=Lib.hid (HX1.out.keep hk3 (by omega))
 have HK3:=Lib.hid (HK1.out.trans hk3)
 have HO3:=Lib.hid (OwnX.nil_ (C:=evC) 87 (q+1) (fun _=>False) w3)
 have HS3:Hid (∀ b,(fun _=>False) b→q<b∧IsF w3 b):=Lib.hid (fun _ h=>h.elim)
 clear hr3 hk3 HM1 HT1 HX1 HK1
 go_wp2_with fail
 go_loopw [11] (fun iv wr=>∃ (i:Nat) (u:Value) (S:Nat→Prop),i≤N∧iv=.int .i64 i∧Hid (OwnX evC 87 (q+1) S wr u (evsN i ([],l2,o2)).1)∧Hid (∀ b,S b→q<b∧IsF wr b)∧Hid (Two wr q 82 (.int .i64 (n:Int)) u)∧Hid (Two wr R 82 (.int .i64 0) (.slice none 0 0))∧Hid (Rd R wr (R+1) (evsN i ([],l2,o2)).2.1 (evsN i ([],l2,o2)).2.2)∧Hid (Kep (fun b=>b≠R+1) wa wr)) (fun iv _=>N - (intOf iv).toNat)
 case atStart=>exact ⟨0,_,_,by omega,rfl,HO3,HS3,HX3,HT3,HR3,HK3⟩
 case round =>
  obtain ⟨i,u,S,hi,rfl,HO,HS,HX,HT,HR,HK⟩:=hrel
  clear HO3 HS3 HX3 HT3 HR3 HK3
  have hqw:=HX.out.lt
  have hlen:=evsN_len i ([],l2,o2)
  by_cases hlt:i<N
  ·have q1:decide ((i:Int)<(N:Int))=true:=by rw [decide_eq_true_eq];omega
   obtain ⟨es,li,oi,hsi⟩:∃ es li oi,evsN i ([],l2,o2)=(es,li,oi):=⟨_,_,_,rfl⟩
   obtain ⟨z,fs,l4,o4,hev⟩:∃ z fs l4 o4,evSt li oi=((z,fs),l4,o4):=⟨_,_,_,_,rfl⟩
   have hnx:evsN (i+1) ([],l2,o2)=(es++[(z,fs)],l4,o4):=by
    rw [evsN,hsi]
    unfold stepE
    dsimp only
    rw [hev]
   rw [hsi] at HO HR hlen
   have hel:es.length≤64:=by simp at hlen;omega
   have HNX:=Lib.hid hnx
   have HE:=Lib.hid (fun W (h:Rd R W (R+1) li oi)=>(show Calls Tryz.prog 134 #[.pointer (some ⟨R+1,0,none⟩)] W (EvTook R (R+1) ((z,fs),l4,o4) W) from by have:=event_any R (R+1) li oi W h (by omega);rw [hev] at this;exact this))
   have HLT:=Lib.hid hlt
   clear hsi hev hnx hlt hlen
   go_wp2_with fail
   refine RS.begin_ (T:=fun b=>b≠R+1∧u.ownBlock≠some b) [(0,true),(1,true),(2,false),(3,false),(4,false),(5,true)] hmx (by kernel_rfl) (fun _ _ d _ _ h=>by cases d<;>exact h) ?_
   simp only [RS.ordered,List.map_cons,List.map_nil,List.getElem?_toArray,List.getElem?_cons_succ,List.getElem?_cons_zero]
   have hub:u.ownBlock≠some q:=fun e=>by have:=(HO.out.cells e).1;omega
   have hug:u.ownBlock≠some (R+1):=fun e=>by have:=(HO.out.cells e).1;omega
   have huR:u.ownBlock≠some R:=fun e=>by have:=(HO.out.cells e).1;omega
   obtain ⟨wd,hwd⟩:∃ wd,wr.drew=wd:=⟨_,rfl⟩
   have hkd:Kep (fun _=>True) wr wd:=by rw [← hwd];exact kep_draw _ _
   have hsd:wr.heap.size=wd.heap.size:=by rw [← hwd];rfl
   have hxd:=HX.out.keep hkd trivial
   have G:=Lib.hid (fun W (hW:Kep (fun b=>b≠R+1∧u.ownBlock≠some b) wd W)=>(show W.cell? ⟨q,1,none⟩=some u from (hxd.keep hW ⟨by omega,hub⟩).c1))
   have HOd:=Lib.hid (HO.out.keep hkd (fun _ _ _=>trivial) (fun _ _=>trivial))
   have HSd:Hid (∀ b,S b→q<b∧IsF wd b):=Lib.hid (fun b hb=>⟨(HS.out b hb).1,(HS.out b hb).2.keep hkd trivial⟩)
   have HXd:=Lib.hid hxd
   have HTd:=Lib.hid (HT.out.keep hkd trivial)
   have HRd:=Lib.hid (HR.out.keep hkd trivial (fun _ _=>trivial) (by omega))
   have HKd:=Lib.hid (HK.out.trans (hkd.mono fun _ _=>trivial))
   rw [hwd]
   clear hwd hkd hxd HO HS HX HT HR HK
   repeat (refine RS.take (by rfl) (by intro W hW;have f1:=G.out W hW;go_simp;with_reducible rfl) ?_;simp only [Act.put,List.setIfInBounds_toArray,List.set_cons_zero,List.set_cons_succ])
   refine RS.alone (by rfl) (fun K hK => ?_)
   go_simp
   refine (HE.out wd HRd.out).mono ?_
   rintro e w5 ⟨ue,rfl,hue,hr5,hk5⟩
   dsimp only at hue hr5 ⊢
   obtain ⟨pe,ce,rfl,_⟩:=hue.shape
   go_simp
   refine hK.out _ _ (hk5.mono fun _ h=>h.1) ?_
   clear hK K
   have hs5:=hk5.size
   have hS5:∀ b,S b→q<b∧IsF w5 b:=fun b hb=>⟨(HSd.out b hb).1,(HSd.out b hb).2.keep hk5 (by have:=(HSd.out b hb).1;omega)⟩
   have ho5:=(HOd.out.keep hk5 (fun b _ hb=>by have:=(HSd.out b hb).1;omega) (fun k hk=>by have:=(HOd.out.cells hk).1;omega)).weak (T:=fun b=>S b∨NewF wd w5 b) (fun b _ hb=>.inl hb)
   have HO5:=Lib.hid ho5
   have HS5:Hid (∀ b,(S b∨NewF wd w5 b)→q<b∧IsF w5 b):=Lib.hid (fun b hb=>hb.elim (hS5 b) (fun h=>⟨by have:=h.1;omega,h.2⟩))
   have HEV:=Lib.hid (show evC.on (fun b=>S b∨NewF wd w5 b) w5 [.int .i64 z,.slice pe fs.length ce] (z,fs) from ev_on.2 ⟨_,rfl,hue.weak fun b _ hb=>.inr hb⟩)
   have HX5:=Lib.hid (HXd.out.keep hk5 (by omega))
   have HT5:=Lib.hid (HTd.out.keep hk5 (by omega))
   have HR5:=Lib.hid hr5
   have HK5:=Lib.hid (HKd.out.trans hk5)
   clear hr5 hk5 hue hS5 ho5 G HOd HSd HXd HTd HRd HKd HE
   refine RS.alone (by rfl) (fun K hK => ?_)
   go_simp
   refine hK.out _ _ (kep_alloc _ _ _) ?_
   clear hK K
   refine RS.alone (by rfl) (fun K hK => ?_)
   refine wp_append_x1 evE _ _ rfl (q+1) u es w5 [.int .i64 z,.slice pe fs.length ce] (z,fs) rfl rfl HO5.out (fun b _ hb=>isF_apt (HS5.out b hb).2) HEV.out rfl (by unfold maxLen;omega) (by omega) (by omega) ?_
   intro v6 w6 ho6 hb6 hk6 hv6
   obtain ⟨g6,c6,rfl⟩:=hv6
   refine hK.out _ _ (hk6.mono fun _ h=>h.2) ?_
   clear hK K
   have hka:Kep (fun b=>u.ownBlock≠some b) w5 w6:=(kep_alloc _ _ _).trans hk6
   have HO6:=Lib.hid ho6
   have x6:=HX5.out.keep hka hub
   have HX6:=Lib.hid x6
   have HT6:=Lib.hid (HT5.out.keep hka huR)
   have HR6:=Lib.hid (HR5.out.keep hka hug (fun k hk e=>by have:=(HO5.out.cells e).1;omega) (by omega))
   have HK6:=Lib.hid (HK5.out.andThen hka (fun k hk _ e=>by have:=(HO5.out.cells e).1;have h3:k<wa.heap.size:=hk;omega))
   have HS6:Hid (∀ b,(S b∨NewF wd w5 b)→q<b∧IsF w6 b):=Lib.hid (fun b hb=>⟨(HS5.out b hb).1,(HS5.out b hb).2.keep hka (isF_own HO5.out (HS5.out b hb).2)⟩)
   have hs6:=hka.size
   clear hka ho6 hb6 hk6 HO5 HX5 HT5 HR5 HK5 HS5 HEV
   repeat (refine RS.take (by rfl) (by intro W hW;go_simp;with_reducible rfl) ?_;simp only [Act.put,List.setIfInBounds_toArray,List.set_cons_zero,List.set_cons_succ])
   refine RS.done ?_
   simp only [List.length_cons,List.length_nil,List.drop_succ_cons,List.drop_zero,Nat.zero_add,Nat.reduceAdd]
   obtain ⟨k0,k1,k2,k3,_,_⟩:=x6.all (.int .i64 (n:Int))
   have hkb:Kep (fun b=>b≠q) w6 (w6.setCell ⟨q,1,none⟩ (.slice (some ⟨g6,0,none⟩) (es.length+1) c6)):=kep_set0 _
   have HO7:=Lib.hid (HO6.out.keep hkb (fun b _ hb=>by have:=(HS6.out b hb).1;omega) (fun k hk=>by have:=(HO6.out.cells hk).1;omega))
   have HX7:=Lib.hid (x6.s1 (.slice (some ⟨g6,0,none⟩) (es.length+1) c6))
   have HT7:=Lib.hid (HT6.out.keep hkb (by omega))
   have HR7:=Lib.hid (HR6.out.keep hkb (by omega) (fun k hk=>by omega) (by omega))
   have HK7:=Lib.hid (HK6.out.andThen hkb (fun k hk _=>by omega))
   have HS7:Hid (∀ b,(S b∨NewF wd w5 b)→q<b∧IsF (w6.setCell ⟨q,1,none⟩ (.slice (some ⟨g6,0,none⟩) (es.length+1) c6)) b):=Lib.hid (fun b hb=>⟨(HS6.out b hb).1,(HS6.out b hb).2.keep hkb (by have:=(HS6.out b hb).1;omega)⟩)
   have HOr:Hid (OwnX evC 87 (q+1) (fun b=>S b∨NewF wd w5 b) (w6.setCell ⟨q,1,none⟩ (.slice (some ⟨g6,0,none⟩) (es.length+1) c6)) (.slice (some ⟨g6,0,none⟩) (es.length+1) c6) (evsN (i+1) ([],l2,o2)).1):=Lib.hid (by rw [HNX.out];exact HO7.out)
   have HRr:Hid (Rd R (w6.setCell ⟨q,1,none⟩ (.slice (some ⟨g6,0,none⟩) (es.length+1) c6)) (R+1) (evsN (i+1) ([],l2,o2)).2.1 (evsN (i+1) ([],l2,o2)).2.2):=Lib.hid (by rw [HNX.out];exact HR7.out)
   clear hkb x6 HO6 HX6 HT6 HR6 HK6 HO7 HR7 HNX HS6
   go_wp2_with fail
   have hlt:=HLT.out
   go_roundw
   case rel=>exact ⟨i+1,_,_,by omega,by go_num,HOr,HS7,HX7,HT7,HRr,HK7⟩
   case measure=>simp [intOf];omega
  ·obtain rfl:i=N:=by omega
   have q1:decide ((i:Int)<(i:Int))=false:=by simp
   obtain ⟨es,li,oi,hsi⟩:∃ es li oi,evsN i ([],l2,o2)=(es,li,oi):=⟨_,_,_,rfl⟩
   rw [hsi] at HO HR HBAD HGOOD
   have HB9:=Lib.hid (HBA.out.trans (HK.out.below (B:=w.heap.size) (by omega) (fun k hk=>by omega)))
   obtain ⟨vl,hc2,hl2⟩:=HR.out
   obtain ⟨pl,cl,rfl,_⟩:=hl2.shape
   have g0:=cell_of_row wr (R+1) 0 _ _ _ hc2
   have g1:=cell_of_row wr (R+1) 1 _ _ _ hc2
   have e0:=HX.out.c0
   have e1:=HX.out.c1
   obtain ⟨pu,cu,hpu,_⟩:=(OwnX.any HO.out).shape
   subst hpu
   have HU:=Lib.hid (HO.out.ron (T:=fun b=>R<b∧EvB wr b) (fun k hk=>⟨by have:=(HO.out.cells hk).1;omega,.inr (HO.out.cells hk).2.2⟩) (fun b _ hb=>⟨by have:=(HS.out b hb).1;omega,.inl (HS.out b hb).2⟩))
   have HCK:=Lib.hid (cbatch_any (n:Int) _ es wr HU.out.any)
   obtain ⟨c,hc⟩:∃ c,checkB ((n:Int),es)=c:=⟨_,rfl⟩
   rw [hc] at HBAD HGOOD HCK
   have HQ0:=Lib.hid (fun h=>HFAIL.out wr _ _ HT.out HB9.out (HBAD.out h))
   have HXR:=Lib.hid (HT.out.s01 (.int .i64 0) (.slice none 0 0))
   obtain ⟨_,_,b2,b3,b4,b5⟩:=HT.out.all (.int .i64 0)
   clear hsi hlt hlen hc2 hl2 HO HS HK HR hc
   cases oi with
   | true =>
     have HQ:=Lib.hid (HQ0.out (.inl rfl))
     clear HFAIL HBAD HGOOD HQ0 HCK HU HX HT
     go_wp2_with fail
     refine bodyPost_ret (results_box2 (p:=2) (u:=3) rfl Tryz.underlying82 rfl infoBat2 _ _ R _ _ rfl HXR.out) rfl HQ.out
   | false =>
     by_cases hl0:0<li.length
     ·have t1:decide ((li.length:Int)>0)=true:=decide_eq_true (by omega)
      have HQ:=Lib.hid (HQ0.out (.inr (.inl hl0)))
      clear HFAIL HBAD HGOOD HQ0 HCK HU HX HT
      go_wp2_with fail
      refine bodyPost_ret (results_box2 (p:=2) (u:=3) rfl Tryz.underlying82 rfl infoBat2 _ _ R _ _ rfl HXR.out) rfl HQ.out
     ·have t1:decide ((li.length:Int)>0)=false:=decide_eq_false (by omega)
      have HFB:=HFAIL
      clear HQ0 HXR b2 b3 b4 b5
      go_wp2_with fail
      refine HCK.out.mono ?_
      rintro e w10 ⟨rfl,hb10⟩
      have HT10:=Lib.hid (HT.out.below hb10 HT.out.lt)
      have HX10:=Lib.hid (HX.out.below hb10 HX.out.lt)
      have HB10:=Lib.hid (HB9.out.trans (hb10.mono HB9.out.size))
      have HU10:=Lib.hid ((ROn.keep HU.out (kep_below _ hb10) fun _ _ h=>h).weak (T:=fun b=>R<b∧EvB w10 b) fun b _ h=>⟨h.1,h.2.keep (kep_below (fun _=>True) hb10) trivial⟩)
      obtain ⟨_,_,b2,b3,b4,b5⟩:=HT10.out.all (.int .i64 0)
      obtain ⟨_,_,_,_,c4,c5⟩:=HT10.out.all (.int .i64 (n:Int))
      clear hb10 HCK HU HX HT HB9 g0 g1 e0 e1
      by_cases h0:c=0
      ·subst h0
       have hdr:=decR_some (HGOOD.out (by trivial) (by omega) rfl)
       have k0:=HX10.out.c0
       have k1:=HX10.out.c1
       have HX:=Lib.hid (HT10.out.s01 (.int .i64 (n:Int)) (.slice pu es.length cu))
       have hk5:Kep (fun b=>b≠R) w10 ((w10.setCell ⟨R,0,none⟩ (.int .i64 (n:Int))).setCell ⟨R,1,none⟩ (.slice pu es.length cu)):=kep_set01 _ _
       have HQ:Hid (DecNew (decR l) w (.returned (.tuple #[.agg #[.int .i64 (n:Int),.slice pu es.length cu],.int .i64 0])) ((w10.setCell ⟨R,0,none⟩ (.int .i64 (n:Int))).setCell ⟨R,1,none⟩ (.slice pu es.length cu))):=Lib.hid (by
        rw [hdr]
        refine ⟨_,rfl,ROn.keep HU10.out (hk5.mono fun b h=>by have:=h.1;omega) fun b _ h=>⟨by have:=h.1;omega,h.2.keep hk5 (by have:=h.1;omega)⟩,?_⟩
        exact HB10.out.trans (hk5.below (B:=w.heap.size) (by have:=HT10.out.lt;omega) (fun k hk=>by omega)))
       clear hdr hk5 HFB HBAD HGOOD HU10 HX10 HT10 HB10
       go_wp2_with fail
       refine bodyPost_ret (results_box2 (p:=2) (u:=3) rfl Tryz.underlying82 rfl infoBat2 _ _ R _ _ rfl HX.out) rfl HQ.out
      ·have t2:(c != 0)=true:=by rw [bne_iff_ne];exact h0
       have HQ:=Lib.hid (HFB.out w10 _ _ HT10.out HB10.out (HBAD.out (.inr (.inr h0))))
       have HX:=Lib.hid (HT10.out.s01 (.int .i64 0) (.slice none 0 0))
       clear HFB HBAD HGOOD HU10 HX10 HT10 HB10
       go_wp2_with fail
       refine bodyPost_ret (results_box2 (p:=2) (u:=3) rfl Tryz.underlying82 rfl infoBat2 _ _ R _ _ rfl HX.out) rfl HQ.out
end Go.Proofs.YtdfibahafilklaaGreatDoor.EV
