import Derived.Test.YtdijhifdjbnkfaaGreatZD3
import Derived.WalkSpells
set_option maxRecDepth 100000
set_option maxHeartbeats 8000000
set_option linter.unusedVariables false
set_option linter.unusedSimpArgs false
namespace Go.Proofs.YtdijhifdjbnkfaaGreat.BL
open Go.RowKit MM BM
theorem Zv5 (p:Option Addr) (n cap:Nat) (w:World) (hn1:n≤131072):Calls Tryz.prog 172 #[.slice p n cap] w fun e w'=>e=.returned (.int .i64 (8*(n:Int)))∧w=w':=by
 go_enter Tryz.func172,Tryz.ntmps172
 go_wp2_with fail
 go_ret
 exact ⟨rfl,rfl⟩
structure FAt (w:World) (g b cap:Nat) (L:List UInt8):Prop where
 cell:w.cell? ⟨g,0,none⟩=some (.slice (some ⟨b,0,none⟩) L.length cap)
 own:OwnB b w (.slice (some ⟨b,0,none⟩) L.length cap) L
 ne:g≠b
 lo:8≤L.length
 hi:L.length≤131072
theorem FAt.glt {w:World} {g b cap:Nat} {L:List UInt8} (h:FAt w g b cap L):g<w.heap.size:=by
 have hc:=h.cell
 by_cases hb:g<w.heap.size
 ·exact hb
 ·simp [World.cell?,Array.getElem?_eq_none (Nat.le_of_not_lt hb)] at hc
theorem FAt.there {w:World} {g b cap:Nat} {L:List UInt8} (h:FAt w g b cap L) {j:Nat} (hj:j<L.length):w.cell? ⟨b,j,none⟩=some (.int .u8 (L[j].toNat:Int)):=OwnB.cell h.own (List.getElem?_eq_getElem hj)
theorem FAt.blt {w:World} {g b cap:Nat} {L:List UInt8} (h:FAt w g b cap L):b<w.heap.size:=by
 have hc:=h.there (j:=0) (by have:=h.lo;omega)
 by_cases hb:b<w.heap.size
 ·exact hb
 ·simp [World.cell?,Array.getElem?_eq_none (Nat.le_of_not_lt hb)] at hc
theorem Zp6 {w w':World} {b:Nat} {n cap:Nat} {L:List UInt8} (h:OwnB b w (.slice (some ⟨b,0,none⟩) n cap) L) (hb:w'.heap[b]? = w.heap[b]?):OwnB b w' (.slice (some ⟨b,0,none⟩) n cap) L:=by
 refine ⟨h.1,?_⟩
 rcases h.2 with ⟨h0,_⟩ | ⟨g,cap,cur,hv,hg,hh,rest⟩
 ·cases h0
 ·refine .inr ⟨g,cap,cur,hv,hg,?_,rest⟩
  simp only [Value.slice.injEq,Option.some.injEq,Addr.mk.injEq] at hv
  obtain ⟨⟨rfl,_⟩,_⟩:=hv
  rw [hb]
  exact hh
theorem FAt.keep {S:Nat→Prop} {w w':World} {g b cap:Nat} {L:List UInt8} (h:FAt w g b cap L) (hk:Kep S w w') (hg:S g) (hb:S b):FAt w' g b cap L :=
 ⟨(hk.cell h.glt hg 0).trans h.cell,Zp6 h.own (hk.block b h.blt hb),h.ne,h.lo,h.hi⟩
theorem FAt.below {w w':World} {g b cap:Nat} {L:List UInt8} (h:FAt w g b cap L) (hk:Below w.heap.size w w'):FAt w' g b cap L:=h.keep (ZmT (fun _=>True) hk) trivial trivial
theorem FAt.brow {w:World} {g b cap:Nat} {L:List UInt8} (h:FAt w g b cap L):BRow w (.slice (some ⟨b,0,none⟩) L.length cap) L:=h.own.brow
theorem FAt.set {w:World} {g b cap:Nat} {L:List UInt8} (h:FAt w g b cap L) (j:Nat) (c:UInt8):FAt (w.setCell ⟨b,j,none⟩ (.int .u8 (c.toNat:Int))) g b cap (L.set j c):=by
 have hl:(L.set j c).length=L.length:=List.length_set
 refine ⟨?_,?_,h.ne,by rw [hl];exact h.lo,by rw [hl];exact h.hi⟩
 ·rw [hl]
  exact ((ZmZ (S:=fun k=>k≠b) (fun hne=>hne rfl) _).cell h.glt h.ne 0).trans h.cell
 ·rw [hl]
  exact OwnB.set h.own c
theorem Zod (g b cap:Nat) (L:List UInt8) (w:World) (h:FAt w g b cap L):Calls Tryz.prog 141 #[.pointer (some ⟨g,0,none⟩)] w fun e w'=>e=.returned (.bool true)∧w=w':=by
 have hc:=h.cell
 have hq:=fun (w:World) (a:Option Addr) (n c:Nat)=>run_neq_slice_nil_any (P:=Tryz.prog) w 177 5 a n c 0 0 Tryz.underlying177
 clear h
 go_enter Tryz.func141,Tryz.ntmps141
 go_wp2_with fail
 go_ret
 exact ⟨rfl,rfl⟩
theorem ZvJ:∀ c:Fin 256,∀ j:Fin 8,(bits .and .u8 ((c.val:Int) / (2:Int)^j.val) 1 == 1)=bitB (UInt8.ofNat c.val) j.val:=by decide +kernel
theorem ZvK (c:UInt8) {j:Nat} (hj:j<8):(bits .and .u8 ((c.toNat:Int) / (2:Int)^j) 1 == 1)=bitB c j:=by
 have:=ZvJ ⟨c.toNat,c.toNat_lt⟩ ⟨j,hj⟩
 have e:UInt8.ofNat c.toNat=c:=by simp
 dsimp only at this
 rw [e] at this
 exact this
theorem ZpV:∀ c:Fin 256,∀ j:Fin 8,bits .or .u8 (c.val:Int) ((2:Int)^j.val%256)=((putB (UInt8.ofNat c.val) j.val).toNat:Int):=by decide +kernel
theorem ZpW (c:UInt8) {j:Nat} (hj:j<8):bits .or .u8 (c.toNat:Int) ((2:Int)^j%256)=((putB c j).toNat:Int):=by
 have:=ZpV ⟨c.toNat,c.toNat_lt⟩ ⟨j,hj⟩
 have e:UInt8.ofNat c.toNat=c:=by simp
 dsimp only at this
 rw [e] at this
 exact this
theorem Zr3 {L:List UInt8} {k:Nat} (hk:k / 8<L.length):putL L k=L.set (k / 8) (putB L[k / 8] (k%8)):=by
 unfold putL
 simp [List.getD,hk]
theorem ZeC (g b cap:Nat) (L:List UInt8) (k:Nat) (w:World) (h:FAt w g b cap L) (hk:k<8*L.length) :
  Calls Tryz.prog 173 #[.slice (some ⟨b,0,none⟩) L.length cap,.int .i64 k] w fun e w'=>e=.returned (.bool (hasL L k))∧w=w':=by
 have hn1:=h.hi
 have hkl:k / 8<L.length:=by omega
 have hcell:=h.there hkl
 have he:=ZvK L[k / 8] (j:=k%8) (Nat.mod_lt _ (by decide))
 rw [← Zk3] at he
 have HE:=Lib.hid he
 clear h he
 go_enter Tryz.func173,Tryz.ntmps173
 go_wp2_with fail
 go_ret
 exact ⟨congrArg (fun z=>Ending.returned (.bool z)) HE.out,rfl⟩
theorem ZfR (g b cap:Nat) (L:List UInt8) (k:Nat) (w:World) (h:FAt w g b cap L) (hk:k<8*L.length) :
  Calls Tryz.prog 204 #[.slice (some ⟨b,0,none⟩) L.length cap,.int .i64 k] w fun e w'=>e=.returned (.tuple #[])∧FAt w' g b cap (putL L k)∧Kep (fun i=>i≠b) w w':=by
 have hn1:=h.hi
 have hkl:k / 8<L.length:=by omega
 have hcell:=h.there hkl
 have hfz:=OwnB.free h.own (k / 8)
 have HE:=Lib.hid (ZpW L[k / 8] (j:=k%8) (Nat.mod_lt _ (by decide)))
 have HF:=Lib.hid ((h.set (k / 8) (putB L[k / 8] (k%8))).keep ((ZmV (fun _=>True) _)) trivial trivial)
 have HK:=Lib.hid ((ZmZ (w:=w) (g:=b) (i:=k / 8) (S:=fun i=>i≠b) (fun hne=>hne rfl) (.int .u8 ((putB L[k / 8] (k%8)).toNat:Int))).drew)
 rw [← Zr3 hkl] at HF
 clear h
 go_enter Tryz.func204,Tryz.ntmps204
 go_region
 rw [HE.out]
 refine bodyPost_end (results_none rfl _ _ _) rfl ?_
 exact ⟨rfl,HF.out,HK.out⟩
end Go.Proofs.YtdijhifdjbnkfaaGreat.BL
namespace Go.Proofs.YtdijhifdjbnkfaaGreat.BL
open Go.RowKit MM BM
theorem ZlX (m:Nat) (s:List UInt8) (i:Nat) (hi:i<4) (W:World):(Instr.index 257 (.agg (plA m s)) (.int .i64 (i:Int))).run Tryz.prog W=.ok (.int .i64 (Zq3 m s i:Nat)) W:=by
 unfold plA
 match i,hi with
 | 0,_=>generalize Zq3 m s 0=a;generalize Zq3 m s 1=b;generalize Zq3 m s 2=c;generalize Zq3 m s 3=d;rfl
 | 1,_=>generalize Zq3 m s 0=a;generalize Zq3 m s 1=b;generalize Zq3 m s 2=c;generalize Zq3 m s 3=d;rfl
 | 2,_=>generalize Zq3 m s 0=a;generalize Zq3 m s 1=b;generalize Zq3 m s 2=c;generalize Zq3 m s 3=d;rfl
 | 3,_=>generalize Zq3 m s 0=a;generalize Zq3 m s 1=b;generalize Zq3 m s 2=c;generalize Zq3 m s 3=d;rfl
theorem Zoi (g b cap:Nat) (L s:List UInt8) (w:World) (h:FAt w g b cap L) (hs:s.length≤1000000) :
  Calls Tryz.prog 113 #[.pointer (some ⟨g,0,none⟩),.string ⟨s.toArray⟩] w fun e w'=>e=.returned (.bool (mayL L s))∧Below w.heap.size w w':=by
 have hlo:=h.lo
 have hhi:=h.hi
 have HM:=Lib.hid (Zod g b cap L w h)
 have hc:=h.cell
 have HS:=Lib.hid (fun W=>Zv5 (some ⟨b,0,none⟩) L.length cap W hhi)
 have HP:=Lib.hid (fun W=>Zq9 s L.length W (by omega) hlo hhi)
 have HIX:=Lib.hid (fun i hi W=>ZlX (8*L.length) s i hi W)
 obtain ⟨P,hP⟩:∃ P,plA (8*L.length) s=P:=⟨_,rfl⟩
 rw [hP] at HP HIX
 have HF:=Lib.hid h
 have HPL:Hid (∀ i,Zq3 (8*L.length) s i<8*L.length):=Lib.hid (fun i=>Zq4 s i (by omega))
 have HN:=Lib.hid (Zoh L s)
 have HX:=Lib.hid (fun i (hi:i<4) hh=>Zog (L:=L) (s:=s) hi hh)
 have HE:Hid (mayI L s 4=mayL L s):=Lib.hid rfl
 obtain ⟨R,hR⟩:∃ R,mayL L s=R:=⟨_,rfl⟩
 rw [hR] at HX HE ⊢
 clear h hR hP
 go_enter Tryz.func113,Tryz.ntmps113
 go_wp2_with fail
 refine HM.out.mono ?_
 rintro e w1 ⟨rfl,rfl⟩
 go_wp2_with fail
 refine (HS.out _).mono ?_
 rintro e w1 ⟨rfl,rfl⟩
 go_wp2_with fail
 refine (HP.out _).mono ?_
 rintro e w1 ⟨rfl,hb1⟩
 have HB1:=Lib.hid hb1
 have HF1:=Lib.hid (HF.out.below hb1)
 have H0:Hid (mayI L s 0=true):=Lib.hid rfl
 clear hb1 HM HS HP hc
 go_wp2_with fail
 go_loopw [17] (fun iv wr=>∃ i:Nat,i≤4∧iv=.int .i64 i∧Hid (mayI L s i=true)∧wr=w1) (fun iv _=>4 - (intOf iv).toNat)
 case atStart=>exact ⟨0,by omega,rfl,H0,rfl⟩
 case round =>
  obtain ⟨i,hi,rfl,HI,rfl⟩:=hrel
  clear H0
  by_cases hlt:i<4
  ·have t1:decide ((i:Int)<4)=true:=by simp;omega
   have hix:=HIX.out i hlt
   have hc:=HF1.out.cell
   have HH:=Lib.hid (ZeC g b cap L _ wr HF1.out (HPL.out i))
   have hn:=HN.out i
   rw [HI.out,Bool.true_and] at hn
   have hx:=HX.out i hlt
   obtain ⟨X,hX⟩:∃ X,Zq3 (8*L.length) s i=X:=⟨_,rfl⟩
   rw [hX] at hix HH hn hx
   cases hb:hasL L X with
   | true =>
     rw [hb] at hn HH
     have HN2:=Lib.hid hn
     clear hx hb hn hX
     go_wp2_with fail
     refine HH.out.mono ?_
     rintro e w2 ⟨rfl,rfl⟩
     go_wp2_with fail
     go_roundw
     case rel=>exact ⟨i+1,by omega,by go_num,HN2,trivial⟩
     case measure=>simp [intOf];omega
   | false =>
     rw [hb] at HH
     have HR:=Lib.hid (hx hb)
     clear hx hb hn hX
     go_wp2_with fail
     refine HH.out.mono ?_
     rintro e w2 ⟨rfl,rfl⟩
     go_wp2_with fail
     go_ret
     rw [HR.out.symm]
     exact ⟨rfl,HB1.out⟩
  ·obtain rfl:i=4:=by omega
   have t1:decide ((4:Int)<4)=false:=by simp
   have hr:=HE.out
   rw [HI.out] at hr
   have HR:=Lib.hid hr
   clear hr
   go_wp2_with fail
   go_ret
   rw [HR.out.symm]
   exact ⟨rfl,HB1.out⟩
end Go.Proofs.YtdijhifdjbnkfaaGreat.BL
namespace Go.Proofs.YtdijhifdjbnkfaaGreat.BL
open Go.RowKit MM BM
def Zaa (g b cap:Nat) (r:List UInt8×Nat) (w:World) (e:Ending) (w':World):Prop:=e=.returned (.int .i64 (r.2:Int))∧FAt w' g b cap r.1∧Kep (fun i=>i≠b) w w'
theorem ZrZ {st:List UInt8×Nat} {k:Nat} (h:hasL st.1 k=true):put1 st k=st:=by unfold put1;rw [if_pos h]
theorem ZrY {st:List UInt8×Nat} {k:Nat} (h:hasL st.1 k=false):put1 st k=(putL st.1 k,st.2+1):=by unfold put1;rw [if_neg (by rw [h];exact Bool.false_ne_true)]
theorem Zb4 (g b cap:Nat) (L:List UInt8) (ts:Value) (ss:List (List UInt8)) (w:World) (h:FAt w g b cap L) (ht:∀ w',Kep (fun i=>i≠b) w w'→TRow w' ts ss) (hss:ss.length≤200000) (hs:∀ s∈ss,s.length≤1000000) :
  Calls Tryz.prog 140 #[.pointer (some ⟨g,0,none⟩),ts] w (Zaa g b cap (addA L ss) w):=by
 have hlo:=h.lo
 have hhi:=h.hi
 obtain ⟨p,tcap,rfl,htc,htm⟩:=TIn.shape (ht w (Kep.refl _ _))
 have HM:=Lib.hid (Zod g b cap L w h)
 obtain ⟨n,hn⟩:∃ n,L.length=n:=⟨_,rfl⟩
 have HS:=Lib.hid (fun W=>Zv5 (some ⟨b,0,none⟩) n cap W (by omega))
 have HP:=Lib.hid (fun s (h:List.length s≤1000000) W=>Zq9 s n W (by omega) (by omega) (by omega))
 have HIX:=Lib.hid (fun s i hi W=>ZlX (8*n) s i hi W)
 have HLN:=Lib.hid (fun k=>(ZbM L ss k).trans hn)
 have HCN:=Lib.hid (ZbK L ss)
 have HNX:=Lib.hid (fun k (hk:k<ss.length)=>ZbO (L:=L) hk)
 have HSE:=Lib.hid hs
 have HT:=Lib.hid ht
 have HPL:Hid (∀ s i,Zq3 (8*n) s i<8*n):=Lib.hid (fun s i=>Zq4 s i (by omega))
 have HF0:Hid (FAt w g b cap (addA L (ss.take 0)).1):=Lib.hid h
 have HK0:Hid (Kep (fun i=>i≠b) w w):=Lib.hid (Kep.refl _ _)
 obtain ⟨R,hR⟩:∃ R,addA L ss=R:=⟨_,rfl⟩
 rw [hR]
 have HE:Hid (addA L (ss.take ss.length)=R):=Lib.hid (by rw [List.take_length];exact hR)
 clear h hR ht hs hn hlo hhi
 go_enter Tryz.func140,Tryz.ntmps140
 go_wp2_with fail
 refine HM.out.mono ?_
 rintro e w1 ⟨rfl,rfl⟩
 clear HM
 go_wp2_with fail
 go_loopw [5,15] (fun av kv wr=>∃ k:Nat,k≤ss.length∧av=.int .i64 ((addA L (ss.take k)).2:Int)∧kv=.int .i64 k∧Hid (FAt wr g b cap (addA L (ss.take k)).1)∧Hid (Kep (fun i=>i≠b) w wr)) (fun _ kv _=>ss.length - (intOf kv).toNat)
 case atStart=>exact ⟨0,by omega,rfl,rfl,HF0,HK0⟩
 case round =>
  obtain ⟨k,hk,rfl,rfl,HF,HK⟩:=hrel
  clear HF0 HK0
  by_cases hlt:k<ss.length
  ·have t1:decide ((k:Int)<(ss.length:Int))=true:=by simp;omega
   obtain ⟨bt,off,rfl,hbl,hcell⟩:=TIn.at_ (HT.out wr HK.out) hlt
   have hnx:=HNX.out k hlt
   have hcn:=HCN.out k
   have hln:=HLN.out k
   have hse:=HSE.out _ (List.getElem_mem hlt)
   obtain ⟨s,hs⟩:∃ s,ss[k]=s:=⟨_,rfl⟩
   rw [hs] at hcell hnx hse
   obtain ⟨⟨M,c⟩,hM⟩:∃ M,addA L (ss.take k)=M:=⟨_,rfl⟩
   rw [hM] at hnx hcn hln HF ⊢
   dsimp only at hnx hcn hln HF ⊢
   have hc:=HF.out.cell
   rw [hln] at hc
   have HP1:=Lib.hid (HP.out s hse)
   have HIX1:=Lib.hid (HIX.out s)
   have HPL1:=Lib.hid (HPL.out s)
   obtain ⟨P,hP⟩:∃ P,plA (8*n) s=P:=⟨_,rfl⟩
   rw [hP] at HP1 HIX1
   have HIN:=Lib.hid (ZbT M s)
   rw [hln] at HIN
   have HIL:=Lib.hid (fun i=>(ZbS M s i).trans hln)
   have HIC:=Lib.hid (ZbP M s)
   have HA0:Hid (addI M s 0=(M,0)):=Lib.hid rfl
   have HA4:Hid (addA L (ss.take (k+1))=((addI M s 4).1,c+(addI M s 4).2)):=Lib.hid hnx
   clear hs hnx hM hP hse hln
   go_wp2_with fail
   refine (HS.out _).mono ?_
   rintro e w1 ⟨rfl,rfl⟩
   go_wp2_with fail
   refine (HP1.out _).mono ?_
   rintro e w1 ⟨rfl,hb1⟩
   have HF1:Hid (FAt w1 g b cap (addI M s 0).1):=Lib.hid (HF.out.below hb1)
   have HK1:=Lib.hid (HK.out.trans (ZmT _ hb1))
   clear hb1 HF HK hc hcell
   go_wp2_with fail
   go_loopw [5,26] (fun av iv wr2=>∃ i:Nat,i≤4∧av=.int .i64 ((c:Int)+((addI M s i).2:Int))∧iv=.int .i64 i∧Hid (FAt wr2 g b cap (addI M s i).1)∧Hid (Kep (fun i=>i≠b) w wr2)) (fun _ iv _=>4 - (intOf iv).toNat)
   case atStart=>exact ⟨0,by omega,by rw [HA0.out];simp,rfl,HF1,HK1⟩
   case round =>
    obtain ⟨i,hi,rfl,rfl,HF,HK⟩:=hrel
    clear HF1 HK1
    by_cases hlt4:i<4
    ·have t2:decide ((i:Int)<4)=true:=by simp;omega
     have hix:=HIX1.out i hlt4
     have hin:=HIN.out i
     have hil:=HIL.out i
     have hic:=HIC.out i
     have hpl:=HPL1.out i
     obtain ⟨X,hX⟩:∃ X,Zq3 (8*n) s i=X:=⟨_,rfl⟩
     rw [hX] at hix hin hpl
     obtain ⟨⟨A,d⟩,hA⟩:∃ A,addI M s i=A:=⟨_,rfl⟩
     rw [hA] at hin hil hic HF ⊢
     dsimp only at hil hic HF ⊢
     have hc:=HF.out.cell
     have hh:=ZeC g b cap A X _ HF.out (by omega)
     rw [hil] at hc hh
     have hp:=fun W (hF:FAt W g b cap A)=>ZfR g b cap A X W hF (by omega)
     rw [hil] at hp
     have HPU:=Lib.hid hp
     cases hb:hasL A X with
     | true =>
       rw [hb] at hh
       rw [ZrZ (st:=(A,d)) hb] at hin
       have HIN2:=Lib.hid hin
       have HH:=Lib.hid hh
       clear hb hh hp hX hA hin hil hpl
       go_wp2_with fail
       refine HH.out.mono ?_
       rintro e w2 ⟨rfl,rfl⟩
       go_wp2_with fail
       go_roundw
       case rel=>exact ⟨i+1,by omega,by rw [HIN2.out],by go_num,by rw [HIN2.out];exact HF,HK⟩
       case measure=>simp [intOf];omega
     | false =>
       rw [hb] at hh
       rw [ZrY (st:=(A,d)) hb] at hin
       have HIN2:=Lib.hid hin
       have HH:=Lib.hid hh
       clear hb hh hp hX hA hin hil hpl
       go_wp2_with fail
       refine HH.out.mono ?_
       rintro e w2 ⟨rfl,rfl⟩
       go_wp2_with fail
       refine (HPU.out _ HF.out).mono ?_
       rintro e w2 ⟨rfl,hF2,hk2⟩
       have HF2:=Lib.hid hF2
       have HK2:=Lib.hid (HK.out.trans hk2)
       clear hF2 hk2
       go_wp2_with fail
       go_roundw
       case rel=>exact ⟨i+1,by omega,by rw [HIN2.out];go_num,by go_num,by rw [HIN2.out];exact HF2,HK2⟩
       case measure=>simp [intOf];omega
    ·obtain rfl:i=4:=by omega
     have t2:decide ((4:Int)<4)=false:=by simp
     go_wp2_with fail
     go_roundw
     case rel=>exact ⟨k+1,by omega,by rw [HA4.out];go_num,by go_num,by rw [HA4.out];exact HF,HK⟩
     case measure=>simp [intOf];omega
  ·obtain rfl:k=ss.length:=by omega
   have t1:decide ((ss.length:Int)<(ss.length:Int))=false:=by simp
   rw [HE.out] at HF ⊢
   go_wp2_with fail
   go_ret
   exact ⟨rfl,HF.out,HK.out⟩
end Go.Proofs.YtdijhifdjbnkfaaGreat.BL
namespace Go.Proofs.YtdijhifdjbnkfaaGreat.BL
open Go.RowKit MM BM
theorem ZzR {w:World} {B n:Nat} {v:Value} (h:w.ownsRow B 5 1 v n (madeCells #[Value.int .u8 0] n).toList):OwnB B w v (List.replicate n 0):=by
 have e:(madeCells #[Value.int .u8 0] n).toList=Lib.byteCells (List.replicate n 0):=by
  rw [toList_madeCells_one]
  simp [Lib.byteCells]
 rw [e] at h
 unfold OwnB
 rw [List.length_replicate]
 exact h
theorem ZoF (z:Int) (m:Nat) (w:World) (hz:z=(m:Int)) (hm:m≤1048576):Calls Tryz.prog 203 #[.int .i64 z] w (Zbg w.heap.size (List.replicate ((m+7) / 8) 0) w):=by
 obtain ⟨i0,hi,hz0,hz1,hz2⟩:=info_parts ZlZ
 obtain ⟨N,hN⟩:∃ N:Nat,(m+7) / 8=N:=⟨_,rfl⟩
 have hNi:((m:Int)+7) / 8=(N:Int):=by omega
 have hN1:N≤131073:=by omega
 rw [hN]
 subst hz
 clear hN
 go_enter Tryz.func203,Tryz.ntmps203
 go_wp2_with (at_make;go_loud (refine wpList_make_full w rfl _ _ 177 rfl w.heap.size 5 i0 (.int .u8 0) 1 Tryz.underlying177 hi hz0 hz1 .i64 .i64 _ _ N rfl rfl hNi hNi (by rw [hz2];omega) (by unfold maxLen;omega) (Nat.le_refl _) ?_))
 intro w1 hown1 hg1
 have HB:=Lib.hid ((Below.refl w.heap.size w).grown hg1 (Nat.le_refl _) (fun k h=>by cases h))
 have HZ:=Lib.hid (ZzR hown1)
 clear hown1 hg1
 go_wp2_with fail
 go_ret
 exact ⟨_,rfl,HZ.out,HB.out⟩
def Za3 (L:List UInt8) (w:World) (e:Ending) (w':World):Prop:=∃ g b cap,e=.returned (.tuple #[.pointer (some ⟨g,0,none⟩),.int .i64 0])∧FAt w' g b cap L∧w.heap.size≤g∧w.heap.size≤b∧Below w.heap.size w w'
theorem ZoD (n:Nat) (w:World) (h:n≤262144):Calls Tryz.prog 139 #[.int .i64 n] w (Za3 (newL n) w):=by
 have t1:decide ((n:Int)<0)=false:=by rw [decide_eq_false_iff_not];omega
 have t2:decide ((n:Int)>262144)=false:=by rw [decide_eq_false_iff_not];omega
 have hroom:∀ (z:Int) (m:Nat) (W:World),z=(m:Int)→m≤1048576→(m+7) / 8=Zt2 n→Calls Tryz.prog 203 #[.int .i64 z] W (Zbg W.heap.size (newL n) W):=fun z m W h1 h2 h3=>by
  have:=ZoF z m W h1 h2
  rw [h3] at this
  exact this
 have hrm:Zt2 n=(min (max (10*n) 64) 1048576+7) / 8:=rfl
 have HRM:=Lib.hid hrm
 have HROOM:=Lib.hid hroom
 have hnl:=ZoC n
 obtain ⟨h8,h9⟩:=Zt3 n
 rw [← hnl] at h8 h9
 have HLO:=Lib.hid h8
 have HHI:=Lib.hid h9
 obtain ⟨L,hL⟩:∃ L,newL n=L:=⟨_,rfl⟩
 rw [hL] at HROOM HLO HHI ⊢
 have hend:∀ (v:Value) (w1:World),OwnB w.heap.size w1 v L→Below w.heap.size w w1→Za3 L w (.returned (.tuple #[.pointer (some ⟨w1.heap.size,0,none⟩),.int .i64 0])) (w1.alloc (.cells #[v] 179)):=fun v w1 ho hb=>by
  have h0:=HLO.out
  obtain ⟨b,cap,rfl,hbb,hl1,hl2⟩:=OwnB.shape ho (by omega)
  have hsz:=hb.size
  have hk:Below w1.heap.size w1 (w1.alloc (.cells #[.slice (some ⟨b,0,none⟩) L.length cap] 179)):=(Below.refl _ _).alloc (Nat.le_refl _) _
  have ho2:=ho.keep hk
  have hbl:b<w1.heap.size:=by
   have hc:=OwnB.cell ho (List.getElem?_eq_getElem (show 0<L.length by omega))
   by_cases hb:b<w1.heap.size
   ·exact hb
   ·simp [World.cell?,Array.getElem?_eq_none (Nat.le_of_not_lt hb)] at hc
  refine ⟨w1.heap.size,b,cap,rfl,⟨?_,?_,by omega,h0,HHI.out⟩,hsz,hbb,hb.alloc hsz _⟩
  ·rw [cell_of_row _ w1.heap.size 0 _ _ _ (heap_alloc_new _ _)];rfl
  ·refine ⟨ho2.1,?_⟩
   rcases ho2.2 with ⟨h0,_⟩ | ⟨g,cap,cur,hv,hg,rest⟩
   ·cases h0
   ·have hv2:=hv
    simp only [Value.slice.injEq,Option.some.injEq,Addr.mk.injEq] at hv2
    exact .inr ⟨g,cap,cur,hv,by rw [hv2.1.1];exact Nat.le_refl _,rest⟩
 have HEND:=Lib.hid hend
 clear hroom hrm hnl h8 h9 hL hend
 go_enter Tryz.func139,Tryz.ntmps139
 go_wp2_with fail
 ·refine (HROOM.out _ 1048576 _ rfl (by omega) (by rw [HRM.out];omega)).mono ?_
  rintro e w1 ⟨v,rfl,ho,hb⟩
  have HE:=Lib.hid (HEND.out v w1 ho hb)
  have h0:=HLO.out
  obtain ⟨b,cap,rfl,_⟩:=OwnB.shape ho (by omega)
  clear ho hb HEND h0
  go_wp2_with fail
  go_ret2
  exact HE.out
 ·refine (HROOM.out _ 64 _ rfl (by omega) (by rw [HRM.out];omega)).mono ?_
  rintro e w1 ⟨v,rfl,ho,hb⟩
  have HE:=Lib.hid (HEND.out v w1 ho hb)
  have h0:=HLO.out
  obtain ⟨b,cap,rfl,_⟩:=OwnB.shape ho (by omega)
  clear ho hb HEND h0
  go_wp2_with fail
  go_ret2
  exact HE.out
 ·refine (HROOM.out _ (10*n) _ (by omega) (by omega) (by rw [HRM.out];omega)).mono ?_
  rintro e w1 ⟨v,rfl,ho,hb⟩
  have HE:=Lib.hid (HEND.out v w1 ho hb)
  have h0:=HLO.out
  obtain ⟨b,cap,rfl,_⟩:=OwnB.shape ho (by omega)
  clear ho hb HEND h0
  go_wp2_with fail
  go_ret2
  exact HE.out
end Go.Proofs.YtdijhifdjbnkfaaGreat.BL
namespace Go.Proofs.YtdijhifdjbnkfaaGreat.BL
open Go.RowKit MM BM
open Go.RowKit MM BM
theorem Zqa (w:World) (B:Nat) (hB:B≤w.heap.size):OwnB B (w.alloc (.cells #[] 5)) (.slice (some ⟨w.heap.size,0,none⟩) 0 0) []:=Zqg w [] 5 B hB (by unfold maxLen;simp)
theorem Zfg (v:Value) (l:List UInt8) (w:World) (h:BRow w v l) (hl:l.length≤1000000000000):Calls Tryz.prog 106 #[v] w (Zbg w.heap.size l w):=by
 obtain ⟨p,cap,rfl,hlc,_⟩:=h.shape
 have hq:=fun (w:World) (a:Option Addr) (n c:Nat)=>Lib.run_eql_slice_nil (P:=Tryz.prog) w 23 5 a n c 0 0 Tryz.underlying23
 cases p with
 | none =>
   have hl0:l=[]:=by
    obtain ⟨p',cap',hv,h1,h2,h3,h4⟩:=h
    simp only [Value.slice.injEq] at hv
    obtain ⟨rfl,hv2,hv3⟩:=hv
    have:=h3 rfl
    exact List.eq_nil_of_length_eq_zero (by omega)
   subst hl0
   have HF:=Lib.hid (show Zbg w.heap.size [] w (.returned (.slice none 0 0)) w from ⟨_,rfl,World.ownsRow_nil _ _ _ _,Below.refl _ _⟩)
   clear h
   go_enter Tryz.func106,Tryz.ntmps106
   go_wp2_with fail
   go_ret
   exact HF.out
 | some a =>
   have HO:=Lib.hid (Zqa w w.heap.size (Nat.le_refl _))
   have HR:=Lib.hid (fun o=>BRow.below h ((Below.refl w.heap.size w).alloc (Nat.le_refl _) o))
   have HB:=Lib.hid (fun o=>(Below.refl w.heap.size w).alloc (Nat.le_refl _) o)
   clear h
   go_enter Tryz.func106,Tryz.ntmps106
   go_wp2_with (at_builtin;go_loud (refine Zzn rfl _ _ rfl w.heap.size _ [] rfl HO.out _ l rfl (HR.out _) (by simp;omega) (by simp) ?_))
   intro v1 w1 hown hb
   have HF:=Lib.hid (show Zbg w.heap.size l w (.returned v1) w1 from ⟨_,rfl,hown,(HB.out _).trans hb⟩)
   clear hown hb
   go_wp2_with fail
   go_ret
   exact HF.out
theorem Zel (g b cap:Nat) (L:List UInt8) (w:World) (h:FAt w g b cap L):Calls Tryz.prog 83 #[.pointer (some ⟨g,0,none⟩)] w (Zbg w.heap.size L w):=by
 have hc:=h.cell
 have hhi:=h.hi
 have HM:=Lib.hid (Zod g b cap L w h)
 have HC:=Lib.hid (Zfg _ L w h.brow (by omega))
 clear h
 go_enter Tryz.func83,Tryz.ntmps83
 go_wp2_with fail
 refine HM.out.mono ?_
 rintro e w1 ⟨rfl,rfl⟩
 go_wp2_with fail
 refine HC.out.mono ?_
 rintro e w1 ⟨v,rfl,ho,hb⟩
 have HE:=Lib.hid (show Zbg w.heap.size L w (.returned v) w1 from ⟨v,rfl,ho,hb⟩)
 clear ho hb
 go_wp2_with fail
 go_ret
 exact HE.out
theorem Zoe {w w1:World} {v:Value} {L:List UInt8} (ho:OwnB w.heap.size w1 v L) (hb:Below w.heap.size w w1) (hlo:8≤L.length) (hhi:L.length≤131072) :
  Za3 L w (.returned (.tuple #[.pointer (some ⟨w1.heap.size,0,none⟩),.int .i64 0])) (w1.alloc (.cells #[v] 179)):=by
 obtain ⟨b,cap,rfl,hbb,hl1,hl2⟩:=OwnB.shape ho (by omega)
 have hsz:=hb.size
 have hk:Below w1.heap.size w1 (w1.alloc (.cells #[.slice (some ⟨b,0,none⟩) L.length cap] 179)):=(Below.refl _ _).alloc (Nat.le_refl _) _
 have ho2:=ho.keep hk
 have hbl:b<w1.heap.size:=by
  have hc:=OwnB.cell ho (List.getElem?_eq_getElem (show 0<L.length by omega))
  by_cases hb:b<w1.heap.size
  ·exact hb
  ·simp [World.cell?,Array.getElem?_eq_none (Nat.le_of_not_lt hb)] at hc
 refine ⟨w1.heap.size,b,cap,rfl,⟨?_,?_,by omega,hlo,hhi⟩,hsz,hbb,hb.alloc hsz _⟩
 ·rw [cell_of_row _ w1.heap.size 0 _ _ _ (heap_alloc_new _ _)];rfl
 ·refine ⟨ho2.1,?_⟩
  rcases ho2.2 with ⟨h0,_⟩ | ⟨g,cap,cur,hv,hg,rest⟩
  ·cases h0
  ·have hv2:=hv
   simp only [Value.slice.injEq,Option.some.injEq,Addr.mk.injEq] at hv2
   exact .inr ⟨g,cap,cur,hv,by rw [hv2.1.1];exact Nat.le_refl _,rest⟩
theorem ZfS (v:Value) (l:List UInt8) (w:World) (h:BRow w v l) (hlo:8≤l.length) (hhi:l.length≤131072):Calls Tryz.prog 52 #[v] w (Za3 l w):=by
 have HC:=Lib.hid (Zfg v l w h (by omega))
 obtain ⟨p,cap,rfl,_,_⟩:=h.shape
 have t1:decide ((l.length:Int)<8)=false:=by rw [decide_eq_false_iff_not];omega
 have t2:decide ((l.length:Int)>131072)=false:=by rw [decide_eq_false_iff_not];omega
 clear h
 go_enter Tryz.func52,Tryz.ntmps52
 go_wp2_with fail
 refine HC.out.mono ?_
 rintro e w1 ⟨v,rfl,ho,hb⟩
 have HE:=Lib.hid (Zoe ho hb hlo hhi)
 obtain ⟨b,cap,rfl,_⟩:=OwnB.shape ho (by omega)
 clear ho hb
 go_wp2_with fail
 go_ret2
 exact HE.out
def Za7 (L:List UInt8) (w:World) (e:Ending) (w':World):Prop:=∃ g b cap,e=.returned (.pointer (some ⟨g,0,none⟩))∧FAt w' g b cap L∧w.heap.size≤g∧w.heap.size≤b∧Below w.heap.size w w'
theorem Zfn (ts:Value) (ss:List (List UInt8)) (w:World) (ht:TRow w ts ss) (hss:ss.length≤200000) (hs:∀ s∈ss,s.length≤1000000):Calls Tryz.prog 82 #[ts] w (Za7 (addA (newL ss.length) ss).1 w):=by
 have HN:=Lib.hid (ZoD ss.length w (by omega))
 have HT:=Lib.hid ht
 have HA:=Lib.hid (fun g b cap W (h:FAt W g b cap (newL ss.length)) (ht:∀ w',Kep (fun i=>i≠b) W w'→TRow w' ts ss)=>Zb4 g b cap (newL ss.length) ts ss W h ht hss hs)
 obtain ⟨p,tcap,rfl,htc,htm⟩:=TIn.shape ht
 obtain ⟨⟨R,c⟩,hR⟩:∃ R,addA (newL ss.length) ss=R:=⟨_,rfl⟩
 rw [hR] at HA ⊢
 unfold Zaa at HA
 dsimp only at HA ⊢
 obtain ⟨N,hN⟩:∃ N,newL ss.length=N:=⟨_,rfl⟩
 rw [hN] at HN HA
 clear hR hN ht
 have t1:(min (ss.length:Int) 262144)=(ss.length:Int):=by omega
 go_enter Tryz.func82,Tryz.ntmps82
 go_wp2_with fail
 refine HN.out.mono ?_
 rintro e w1 ⟨g,b,cap,rfl,hf,hg,hb,hbl⟩
 have ha:=HA.out g b cap w1 hf (fun w' hk=>TRow.below HT.out (hbl.trans (hk.below hbl.size (fun k hk=>by omega))))
 have HAA:=Lib.hid ha
 have HB:=Lib.hid hbl
 clear ha hf hbl HN HA
 go_wp2_with fail
 refine HAA.out.mono ?_
 rintro e w2 ⟨rfl,hf2,hk2⟩
 have HE:=Lib.hid (show Za7 R w (.returned (.pointer (some ⟨g,0,none⟩))) w2 from ⟨g,b,cap,rfl,hf2,hg,hb,HB.out.trans (hk2.below HB.out.size (fun k hk=>by omega))⟩)
 clear hf2 hk2
 go_wp2_with fail
 go_ret
 exact HE.out
end Go.Proofs.YtdijhifdjbnkfaaGreat.BL
