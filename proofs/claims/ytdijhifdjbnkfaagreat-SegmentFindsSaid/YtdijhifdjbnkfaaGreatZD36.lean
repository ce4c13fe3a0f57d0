import Derived.Test.YtdijhifdjbnkfaaGreatZD20
import Derived.Test.YtdijhifdjbnkfaaGreatZD32
set_option maxRecDepth 100000
set_option maxHeartbeats 8000000
set_option linter.unusedVariables false
set_option linter.unusedSimpArgs false
namespace Go.Proofs.YtdijhifdjbnkfaaGreat.DT
open Go Go.RowKit MM DM VM
def ZaA (s:List Ent×List UInt8×Bool) (w:World) (e:Ending) (w':World):Prop :=
 ∃ v',e=.returned (.tuple #[v',.bool (!s.2.2&&decide (s.2.1=[]))])∧OwnX entC 102 w.heap.size (fun _=>False) w' v' s.1∧Below w.heap.size w w'
theorem Zqx {α:Type} {C:Codec α} {e:TypeId} {B B':Nat} {S:Nat→Prop} {w:World} {v:Value} {es:List α} (h:OwnX C e B S w v es) (hB:B'≤B):OwnX C e B' S w v es:=by
 obtain ⟨raw,h1,h2⟩:=h
 refine ⟨raw,⟨h1.1,?_⟩,h2⟩
 rcases h1.2 with h0 | ⟨g,cap,cur,hv,hg,rest⟩
 ·exact .inl h0
 ·exact .inr ⟨g,cap,cur,hv,Nat.le_trans hB hg,rest⟩
def lenV:Value→Nat | .slice _ n _=>n | _=>0
theorem ZhP (f:Nat) (A:List UInt8) (acc:List Ent) (o:Bool):ZhI f A acc [] o=(acc,[],o):=by cases f<;>simp [ZhI]
theorem ZhO {f:Nat} {A L:List UInt8} {acc:List Ent} {o:Bool} (hl:L≠[]) (hf:0<f):ZhI f A acc L o=ZhI (f - 1) (Zhs A L o).1.1 (acc++[(Zhs A L o).1]) (Zhs A L o).2.1 (Zhs A L o).2.2:=by
 obtain ⟨f,rfl⟩:∃ g,f=g+1:=⟨f - 1,by omega⟩
 rw [ZhI,if_neg hl]
 rfl
theorem ZhM {w wr:World} {s:List Ent×List UInt8×Bool} {lv:Value} {b:Bool} (ho:OwnX entC 102 w.heap.size (fun _=>False) wr lv s.1) (hb:Below w.heap.size w wr) (h:(!s.2.2&&decide (s.2.1=[]))=b) (m:Nat):ZaA s w (.returned (.tuple #[lv,.bool b])) (wr.drewN m) :=
 ⟨lv,by rw [h],ho.keep (ZmT (fun _=>True) (MM.ZcN (Below.refl _ _) m)) (fun _ _ h=>trivial) (fun _ _=>trivial),MM.ZcN hb m⟩
theorem ZhS (B:Nat) (v:Value) (l:List UInt8) (w:World) (hv:BIn B w v l) (hB:B≤w.heap.size):Calls Tryz.prog 104 #[v] w (ZaA (ZhI 16 [] [] l false) w):=by
 obtain ⟨R,hR⟩:∃ R,w.heap.size=R:=⟨_,rfl⟩
 obtain ⟨p0,c0,rfl,_⟩:=hv.shape
 obtain ⟨wa,hwa⟩:∃ wa,w.alloc (.cells #[.slice p0 l.length c0,.bool false] 166)=wa:=⟨_,rfl⟩
 have hba:Below w.heap.size w wa:=by rw [← hwa];exact (Below.refl _ _).alloc (Nat.le_refl _) _
 have HRA:Hid (Rd B wa R l false):=Lib.hid (by
  refine ⟨.slice p0 l.length c0,?_,hv.below (hba.mono hB)⟩
  rw [← hwa,← hR]
  exact heap_alloc_new _ _)
 have HBA:Hid (Below w.heap.size w wa):=Lib.hid hba
 have HSA:Hid (wa.heap.size=R+1):=Lib.hid (by rw [← hwa,← hR];simp)
 obtain ⟨FIN,hF⟩:∃ f,ZhI 16 [] [] l false=f:=⟨_,rfl⟩
 have HF0:=Lib.hid hF
 rw [hF]
 have HO0:=Lib.hid (OwnX.nil_ (C:=entC) 102 (R+1) (fun _=>False) wa)
 have HENT:=Lib.hid (fun A l o W (hA:A.length≤65) (h:Rd B W R l o)=>ZhB B R A l o W hA h (by omega))
 have HBR:Hid (B≤R):=Lib.hid (by omega)
 have HWA:=Lib.hid hwa
 clear hwa hba hv hB hF
 go_enter Tryz.func104,Tryz.ntmps104
 go_wp2_with fail
 rw [HWA.out]
 go_loopw [2,5] (fun lv av wr=>∃ (acc:List Ent) (A:List UInt8) (L:List UInt8) (o:Bool),av=.string ⟨A.toArray⟩∧A.length≤65∧acc.length≤16∧Hid (ZhI (16 - acc.length) A acc L o=FIN)∧Hid (Rd B wr R L o)∧Hid (OwnX entC 102 (R+1) (fun _=>False) wr lv acc)∧Hid (Below w.heap.size w wr)∧Hid (R+1≤wr.heap.size)) (fun lv _ _=>16 - (lenV lv))
 case atStart=>exact ⟨[],[],l,false,rfl,by simp,by simp,HF0,HRA,HO0,HBA,Lib.hid (by have:=HSA.out;omega)⟩
 case round =>
  obtain ⟨acc,A,L,o,rfl,hA,hacc,HF,HRD,HO,HBW,HSW⟩:=hrel
  clear HF0 HRA HO0 HBA HSA HWA
  obtain ⟨pl,cl,rfl,hlc,hlm,_⟩:=HO.out.any.shape
  obtain ⟨v0,hc0,hv0⟩:=HRD.out
  obtain ⟨p1,c1,rfl,_⟩:=hv0.shape
  have f0:wr.cell? ⟨R,0,none⟩=some (.slice p1 L.length c1):=by rw [cell_of_row wr R 0 _ _ _ hc0];rfl
  have f1:wr.cell? ⟨R,1,none⟩=some (.bool o):=by rw [cell_of_row wr R 1 _ _ _ hc0];rfl
  clear hc0 hv0
  obtain ⟨n,hn⟩:∃ n,L.length=n:=⟨_,rfl⟩
  rw [hn] at f0
  have HN:=Lib.hid hn
  have HOI:=HO
  by_cases hL:n=0
  ·have hLe:L=[]:=List.eq_nil_of_length_eq_zero (by omega)
   have hfin:=HF.out
   rw [hLe,ZhP] at hfin
   have q1:decide ((n:Int)>0)=false:=by rw [decide_eq_false_iff_not];omega
   have q2:decide (0<n)=false:=by rw [decide_eq_false_iff_not];omega
   have q3:((n:Int) == 0)=true:=by rw [beq_iff_eq];omega
   subst hfin
   cases o with
   | true =>
     clear hn hL hLe HN HF HENT HRD
     go_wp2_with fail
     go_quiet (fail)
     go_wp2_with fail
     go_ret2
     exact ZhM (Zqx HO.out (by omega)) HBW.out (by rfl) _
   | false =>
     clear hn hL hLe HN HF HENT HRD
     go_wp2_with fail
     go_quiet (fail)
     go_wp2_with fail
     go_ret2
     exact ZhM (Zqx HO.out (by omega)) HBW.out (by rfl) _
  ·have hLe:L≠[]:=fun e=>hL (by rw [← hn,e];rfl)
   have q1:decide ((n:Int)>0)=true:=by rw [decide_eq_true_eq];omega
   have q2:decide (0<n)=true:=by rw [decide_eq_true_eq];omega
   have q5:((n:Int) == 0)=false:=by rw [beq_eq_false_iff_ne];omega
   by_cases h16:acc.length=16
   ·have q3:decide ((acc.length:Int)<16)=false:=by rw [decide_eq_false_iff_not];omega
    have q4:decide (acc.length<16)=false:=by rw [decide_eq_false_iff_not];omega
    have hfin:=HF.out
    rw [h16,Nat.sub_self] at hfin
    rw [show ZhI 0 A acc L o=(acc,L,o) from rfl] at hfin
    subst hfin
    have HLE:=Lib.hid hLe
    cases o with
    | true =>
      clear hn hL hLe h16 HN HF HENT HRD
      go_wp2_with fail
      go_quiet (fail)
      go_wp2_with fail
      go_ret2
      exact ZhM (Zqx HO.out (by omega)) HBW.out (by have:=HLE.out;simp [this]) _
    | false =>
      clear hn hL hLe h16 HN HF HENT HRD
      go_wp2_with fail
      go_quiet (fail)
      go_wp2_with fail
      go_ret2
      exact ZhM (Zqx HO.out (by omega)) HBW.out (by have:=HLE.out;simp [this]) _
   ·have q3:decide ((acc.length:Int)<16)=true:=by rw [decide_eq_true_eq];omega
    have q4:decide (acc.length<16)=true:=by rw [decide_eq_true_eq];omega
    have hfin:=HF.out
    rw [ZhO hLe (by omega),show 16 - acc.length - 1=16 - (acc.length+1) by omega] at hfin
    have HCALL:=HENT.out A L o wr hA HRD.out
    have hwd:=ZhA hA L o
    obtain ⟨⟨⟨X1,x2,x3,x4⟩,L4,o4⟩,hX⟩:∃ s,Zhs A L o=s:=⟨_,rfl⟩
    rw [hX] at hfin HCALL hwd
    dsimp only at hfin HCALL
    unfold entV at HCALL
    dsimp only at HCALL
    have HC:=Lib.hid HCALL
    have HF4:=Lib.hid hfin
    have HX1:Hid (X1.length≤65):=Lib.hid hwd.1
    have HLT:Hid (acc.length<16):=Lib.hid (by omega)
    clear hfin HCALL hwd hX hLe hn hL h16 HN HF HRD
    go_wp2_with fail
    refine HC.out.mono ?_
    rintro e w4 ⟨rfl,h4,k4⟩
    have hs4:=k4.size
    obtain ⟨q,hq⟩:∃ q,w4.heap.size=q:=⟨_,rfl⟩
    have hRq:R+1≤q:=by have:=HSW.out;omega
    have huq:∀ g,(Value.slice pl acc.length cl).ownBlock=some g→R+1≤g∧g<wr.heap.size:=fun g hg=>by have:=HO.out.cells hg;omega
    have o4':=HO.out.keep k4 (fun _ _ h=>h.elim) (fun g hg=>by have:=huq g hg;omega)
    have hq4:Below w.heap.size w w4:=HBW.out.trans (k4.below (B:=w.heap.size) (by have:=HSW.out;omega) (fun b hb=>by omega))
    obtain ⟨w5,hw5⟩:∃ W,w4.alloc (.cells #[.string ⟨X1.toArray⟩,.int .i64 x2,.int .i64 x3,.int .i64 x4] 102)=W:=⟨_,rfl⟩
    have hb5:Below w4.heap.size w4 w5:=by rw [← hw5];exact (Below.refl _ _).alloc (Nat.le_refl _) _
    have F5:Hid (Four w5 q 102 (.string ⟨X1.toArray⟩) (.int .i64 x2) (.int .i64 x3) (.int .i64 x4)):=Lib.hid (by rw [← hw5,← hq];exact Zjz w4 102 _ _ _ _)
    have hs5:w5.heap.size=q+1:=by rw [← hw5,← hq];simp
    obtain ⟨w6,hw6⟩:∃ W,w5.alloc (.cells #[.string ⟨X1.toArray⟩,.int .i64 x2,.int .i64 x3,.int .i64 x4] 102)=W:=⟨_,rfl⟩
    have hb6:Below w5.heap.size w5 w6:=by rw [← hw6];exact (Below.refl _ _).alloc (Nat.le_refl _) _
    have hs6:w6.heap.size=q+2:=by rw [← hw6];simp [hs5]
    have hsr:=Zwe (C:=entC) (S:=fun _=>False) (w:=w5) (vs:=[.string ⟨X1.toArray⟩,.int .i64 x2,.int .i64 x3,.int .i64 x4]) (d:=(X1,(x2,(x3,x4)))) 102 (Zhx.2 rfl)
    rw [hw6,hs5] at hsr
    have HS6:=Lib.hid hsr
    have HO6:=Lib.hid ((o4'.keep (ZmT (fun _=>True) hb5) (fun _ _ h=>h.elim) (fun _ _=>trivial)).keep (ZmT (fun _=>True) hb6) (fun _ _ h=>h.elim) (fun _ _=>trivial))
    have HB6:=Lib.hid ((hq4.trans (hb5.mono (by omega))).trans (hb6.mono (by omega)))
    have HR6:=Lib.hid (Rd.keep (Rd.keep h4 (S:=fun _=>True) (ZmT _ hb5) trivial (fun _ _=>trivial) (by have:=HBR.out;omega)) (S:=fun _=>True) (ZmT _ hb6) trivial (fun _ _=>trivial) (by have:=HBR.out;omega))
    have F6:=Lib.hid (F5.out.below hb6 (by omega))
    have HUQ:=Lib.hid huq
    have HW5:=Lib.hid hw5
    have HW6:=Lib.hid hw6
    have HS6W:=Lib.hid hs6
    clear hsr hw5 hw6 hb5 hb6 h4 k4 o4' hq4 huq HO HOI HBW HC HSW F5 hs6
    go_wp2_with (at_builtin;go_loud (rw [HW5.out,HW6.out];refine Zzv entE rfl _ _ rfl (R+1) (.slice pl acc.length cl) acc rfl HO6.out (fun _ _ h=>h.elim) _ [(X1,(x2,(x3,x4)))] rfl HS6.out (by unfold maxLen;have:=HLT.out;simp;omega) (by have:=HLT.out;simp;omega) (by have:=HS6W.out;omega) ?_;intro v7 w7 ho7 hb7 hk7;obtain ⟨p7,c7,rfl,_⟩:=ho7.any.shape;have g7:=F6.out.keep hk7 (fun e=>by have:=HUQ.out q e;omega);have e0:=g7.c0;have HO7:=Lib.hid ho7;have HB7:=Lib.hid (HB6.out.trans (hb7.mono (by omega)));have HR7:=Lib.hid (HR6.out.keep hk7 (fun e=>by have:=HUQ.out R e;omega) (fun k hk e=>by have:=HUQ.out k e;have:=HBR.out;omega) (by have:=HBR.out;have:=HS6W.out;omega));have hs7:=hk7.size;have HS7:Hid (R+1≤w7.heap.size):=Lib.hid (by have:=HS6W.out;omega);clear ho7 hb7 hk7 g7 HO6 HS6 HB6 HR6 F6 HW5 HW6 HUQ))
    have hlt:=HLT.out
    rw [show (acc++[(X1,(x2,(x3,x4)))]).length=acc.length+1 by simp] at HO7
    have HF8:Hid (ZhI (16 - (acc++[(X1,(x2,(x3,x4)))]).length) X1 (acc++[(X1,(x2,(x3,x4)))]) L4 o4=FIN):=Lib.hid (by rw [List.length_append];exact HF4.out)
    go_roundw
    case rel=>exact ⟨acc++[(X1,(x2,(x3,x4)))],X1,L4,o4,rfl,HX1.out,by simp;omega,HF8,HR7,HO7,HB7,HS7⟩
    case measure=>simp [lenV];omega
end Go.Proofs.YtdijhifdjbnkfaaGreat.DT
namespace Go.Proofs.YtdijhifdjbnkfaaGreat.DT
open Go Go.RowKit MM DM VM
abbrev Blk:=List UInt8×List UInt8
def blkC:Codec Blk:=Zek cStr (cRow cU8)
theorem Zdb {S:Nat→Prop} {w:World} {cs:List Value} {x:Blk}:blkC.on S w cs x↔∃ v,cs=[.string ⟨x.1.toArray⟩,v]∧ROn cU8 S w v x.2:=by
 constructor
 ·rintro ⟨a,b,rfl,ha,v,rfl,hv⟩
  have ha:a=[.string ⟨x.1.toArray⟩]:=ha
  exact ⟨v,by rw [ha];rfl,hv⟩
 ·rintro ⟨v,rfl,hv⟩
  exact ⟨[_],[v],rfl,rfl,v,rfl,hv⟩
def ZcY (c:List Ent):Blk:=((c.headD nilX).1,Zdm [] c)
def Zdf (l:List Ent):List Blk:=(Ze4 l).map ZcY
theorem Zdh (l:List Ent):(Zdf l).length=Ze3 l:=by unfold Zdf;rw [List.length_map,Ze7]
theorem Zdg {l:List Ent} {j:Nat} (h:j<(Zdf l).length):(Zdf l)[j]=ZcY (ZeK l j):=by
 unfold Zdf at h ⊢
 rw [List.getElem_map,Ze5]
theorem Zeg {S:Nat→Prop} {B:Nat} {w:World} {v:Value} {l:List UInt8} (h:ROn cU8 S w v l) (hS:∀ b,b<w.heap.size→S b→b<B):BIn B w v l:=Zt0 h hS
theorem Zed {w:World} {v:Value} {l:List UInt8} (h:RAny cU8 w v l):BIn w.heap.size w v l:=Zeg h fun b hb _=>hb
theorem Zc6 {w:World} {p:Option Addr} {n cap:Nat} {l:List Ent} (h:RAny blkC w (.slice p n cap) (Zdf l)) {k:Nat} (hk:k<Ze3 l) :
  ∃ b off v,p=some ⟨b,off,none⟩∧b<w.heap.size∧w.cell? ⟨b,off+k*2,none⟩=some (.string ⟨((ZeK l k).headD nilX).1.toArray⟩)∧w.cell? ⟨b,off+k*2+1,none⟩=some v∧BIn w.heap.size w v (Zdm [] (ZeK l k)):=by
 have hk':k<(Zdf l).length:=by rw [Zdh];exact hk
 obtain ⟨b,off,vs,hp,hlt,_,hon,hc⟩:=h.at_ hk'
 rw [Zdb] at hon
 obtain ⟨v,rfl,hv⟩:=hon
 rw [Zdg] at hv hc
 exact ⟨b,off,v,hp,hlt,hc 0 _ rfl,hc 1 _ rfl,Zed hv⟩
def Zav (S:Nat→Prop) (w:World) (g:Nat) (l:List Ent):Prop:=∃ v,Two w g 170 (.int .i64 (l.length:Int)) v∧S g∧ROn blkC S w v (Zdf l)
theorem Zav.keep {S T:Nat→Prop} {w w':World} {g:Nat} {l:List Ent} (h:Zav S w g l) (hk:Kep S w w') (hT:∀ b,b<w.heap.size→S b→T b):Zav T w' g l:=by
 obtain ⟨v,h1,h2,h3⟩:=h
 exact ⟨v,h1.keep hk h2,hT g h1.lt h2,h3.keep hk hT⟩
def Zaw (S:Nat→Prop) (w:World) (p:Option Addr) (l:List Ent):Prop:=(p=none∧l=[])∨∃ g,p=some ⟨g,0,none⟩∧Zav S w g l
theorem Zaw.keep {S T:Nat→Prop} {w w':World} {p:Option Addr} {l:List Ent} (h:Zaw S w p l) (hk:Kep S w w') (hT:∀ b,b<w.heap.size→S b→T b):Zaw T w' p l:=by
 rcases h with h | ⟨g,h1,h2⟩
 ·exact .inl h
 ·exact .inr ⟨g,h1,h2.keep hk hT⟩
theorem Zaw.below {w w':World} {p:Option Addr} {l:List Ent} (h:Zaw (fun _=>True) w p l) (hb:Below w.heap.size w w'):Zaw (fun _=>True) w' p l:=h.keep (ZmT _ hb) fun _ _ h=>h
theorem Zaw.any {S:Nat→Prop} {w:World} {p:Option Addr} {l:List Ent} (h:Zaw S w p l):Zaw (fun _=>True) w p l:=h.keep (Kep.refl _ _) fun _ _ _=>trivial
theorem Zni (p:Option Addr) (l:List Ent) (w:World) (h:Zaw (fun _=>True) w p l):Calls Tryz.prog 117 #[.pointer p] w fun e w'=>e=.returned (.int .i64 (l.length:Int))∧w=w':=by
 rcases h with ⟨rfl,rfl⟩ | ⟨g,rfl,v,h2,_⟩
 ·go_enter Tryz.func117,Tryz.ntmps117
  go_wp2_with fail
  go_ret
  exact ⟨rfl,rfl⟩
 ·have c0:=h2.c0
  clear h2
  go_enter Tryz.func117,Tryz.ntmps117
  go_wp2_with fail
  go_ret
  exact ⟨rfl,rfl⟩
def Zaz (l:List Ent) (w:World) (e:Ending) (w':World):Prop:=∃ v',e=.returned v'∧OwnX entC 102 w.heap.size (fun _=>False) w' v' l∧Below w.heap.size w w'
theorem Zde (f:ByteArray) (v:Value) (c:List Ent) (w:World) (hc:∀ x∈c,okW x) (hl:c.length≤16) (hv:BIn w.heap.size w v (Zdm [] c)):Calls Tryz.prog 211 #[.agg #[.string f,v]] w (Zaz c w):=by
 obtain ⟨wa,hwa⟩:∃ wa,w.alloc (.cells #[.string f,v] 176)=wa:=⟨_,rfl⟩
 have hba:Below w.heap.size w wa:=by rw [← hwa];exact (Below.refl _ _).alloc (Nat.le_refl _) _
 have T0:Two wa w.heap.size 176 (.string f) v:=by rw [← hwa];exact Zyf w 176 _ _
 have c0:=T0.c0
 have c1:=T0.c1
 have hs:=hba.size
 have H:=ZhS w.heap.size v (Zdm [] c) wa (hv.below hba) hs
 rw [ZhQ c 16 [] [] false hc (by simp) hl] at H
 have H1:=Lib.hid H
 have HBA:=Lib.hid hba
 have HWA:=Lib.hid hwa
 obtain ⟨p,cp,rfl,_⟩:=hv.shape
 clear H hba hwa hv T0
 go_enter Tryz.func211,Tryz.ntmps211
 go_wp2_with fail
 rw [HWA.out]
 go_wp2_with fail
 refine H1.out.mono ?_
 rintro e w1 ⟨v1,rfl,ho,hb⟩
 have HO:=Lib.hid ho
 have HB:=Lib.hid (HBA.out.trans (hb.mono hs))
 clear ho hb H1
 go_wp2_with fail
 go_ret
 exact ⟨_,rfl,Zqx HO.out hs,HB.out⟩
def atD (l:List Ent) (i:Int):Option Ent:=if 0≤i∧i<(l.length:Int) then l[i.toNat]? else none
theorem Ze0 {l:List Ent} (h:∀ x∈l,okW x) (j:Nat):∀ x∈ZeK l j,okW x:=fun x hx=>h x (List.mem_of_mem_drop (List.mem_of_mem_take hx))
theorem ZcA (p:Option Addr) (l:List Ent) (i:Int) (w:World) (h:Zaw (fun _=>True) w p l) (hw:∀ x∈l,okW x) (hn:l.length≤262144) (h0 : -9223372036854775808≤i) (h1:i≤9223372036854775807):Calls Tryz.prog 165 #[.pointer p,.int .i64 i] w (ZaF (atD l i) w):=by
 obtain ⟨R,hR⟩:∃ R,w.heap.size=R:=⟨_,rfl⟩
 obtain ⟨wa,hwa⟩:∃ wa,w.alloc (.cells #[.string ⟨#[]⟩,.int .i64 0,.int .i64 0,.int .i64 0] 102)=wa:=⟨_,rfl⟩
 have hba:Below w.heap.size w wa:=by rw [← hwa];exact (Below.refl _ _).alloc (Nat.le_refl _) _
 have FR0:Hid (Four wa R 102 (.string ⟨#[]⟩) (.int .i64 0) (.int .i64 0) (.int .i64 0)):=Lib.hid (by rw [← hwa,← hR];exact Zjz w 102 _ _ _ _)
 have hsa:wa.heap.size=R+1:=by rw [← hwa,← hR];simp
 have hd:=h.below hba
 have HLEN:=Lib.hid (Zni p l wa hd)
 have HB0:=Lib.hid hba
 have HWA:=Lib.hid hwa
 clear hwa hba h
 by_cases hi:0≤i∧i<(l.length:Int)
 ·obtain ⟨k,rfl⟩:=Int.eq_ofNat_of_zero_le hi.1
  have hk:k<l.length:=by omega
  have hf:atD l (k:Int)=some l[k]:=by unfold atD;rw [if_pos hi,Int.toNat_natCast,List.getElem?_eq_getElem hk]
  rw [hf]
  clear hf
  have q1:decide ((k:Int)<0)=false:=by rw [decide_eq_false_iff_not];omega
  have q2:decide ((k:Int)≥(l.length:Int))=false:=by rw [decide_eq_false_iff_not];omega
  have q3:decide (k≥l.length)=false:=by rw [decide_eq_false_iff_not];omega
  have q4:decide (l.length≤k)=false:=by rw [decide_eq_false_iff_not];omega
  rcases hd with ⟨_,rfl⟩ | ⟨g,rfl,v,h2,_,h3⟩
  ·simp at hk
  have hj:k / 16<Ze3 l:=by unfold Ze3;omega
  obtain ⟨pb,cb,rfl,hcb,hcm,_⟩:=h3.shape
  rw [Zdh] at h3 h2 hcb
  obtain ⟨bb,off,vb,rfl,hbl,b0,b1,hbody⟩:=Zc6 h3 hj
  obtain ⟨J,hJ⟩:∃ J,k / 16=J:=⟨_,rfl⟩
  obtain ⟨M,hM⟩:∃ M,k%16=M:=⟨_,rfl⟩
  have d1:(k:Int) / 16=(J:Int):=by omega
  have d2:(k:Int).tdiv 16=(J:Int):=by rw [Int.tdiv_eq_ediv_of_nonneg (by omega)];omega
  have d3:(k:Int)%16=(M:Int):=by omega
  have d4:(k:Int).tmod 16=(M:Int):=by rw [Int.tmod_eq_emod_of_nonneg (by omega)];omega
  rw [hJ] at b0 b1 hbody hj
  have hcl:(ZeK l J).length=min 16 (l.length - 16*J):=ZeX l J
  have hMl:M<(ZeK l J).length:=by omega
  have hlk:l[k]=(ZeK l J)[M]:=by rw [ZeP hMl];congr 1;omega
  rw [hlk]
  obtain ⟨FT,hFT⟩:∃ s:ByteArray,(⟨((ZeK l J).headD nilX).1.toArray⟩:ByteArray)=s:=⟨_,rfl⟩
  rw [hFT] at b0
  clear hFT
  have HENTS:=Lib.hid (Zde FT vb (ZeK l J) wa (Ze0 hw J) (by omega) hbody)
  obtain ⟨pv,cv,rfl,_⟩:=hbody.shape
  have c1:=h2.c1
  have hj2:(J:Int)<(Ze3 l:Int):=by omega
  obtain ⟨X,hX⟩:∃ X,(ZeK l J)[M]=X:=⟨_,rfl⟩
  rw [hX]
  obtain ⟨X1,x2,x3,x4⟩:=X
  have HX:=Lib.hid hX
  have HML:=Lib.hid hMl
  have HHM:Hid (Ze3 l≤16384):=Lib.hid (by unfold Ze3;omega)
  generalize Ze3 l=N at *
  have hMi:(M:Int)<((ZeK l J).length:Int):=by omega
  clear hi hk hJ hM h2 h3 hbody hlk hcl hX
  go_enter Tryz.func165,Tryz.ntmps165
  go_wp2_with fail
  rw [HWA.out]
  refine HLEN.out.mono ?_
  rintro e w1 ⟨rfl,rfl⟩
  go_wp2_with fail
  refine HENTS.out.mono ?_
  rintro e w2 ⟨v2,rfl,ho2,hb2⟩
  obtain ⟨p2,c2,rfl,hl2,_⟩:=ho2.any.shape
  have HO2:=ho2.any
  obtain ⟨b2,off2,rfl,hb2l,_,e0,e1,e2,e3⟩:=Zht HO2 HML.out
  rw [HX.out] at e0 e1 e2 e3
  have FR2:=FR0.out.below hb2 (by omega)
  have hs2:=hb2.size
  obtain ⟨m1,m2,m3,m4,⟨k1,k2⟩,⟨k3,k4⟩,k5,k6⟩:=FR2.all (.string ⟨X1.toArray⟩) (.int .i64 x2) (.int .i64 x3)
  have n0:=FR2.c0
  have HXX:=Lib.hid (FR2.set (.string ⟨X1.toArray⟩) (.int .i64 x2) (.int .i64 x3) (.int .i64 x4))
  have HB9:=Lib.hid ((HB0.out.trans (hb2.mono (by omega))).trans ((Zm2 (g:=R) (w:=w2) (.string ⟨X1.toArray⟩) (.int .i64 x2) (.int .i64 x3) (.int .i64 x4)).below (B:=w.heap.size) (by omega) (fun b hb=>by omega)))
  clear ho2 hb2 HO2 FR2 HENTS HLEN FR0
  go_wp2_with fail
  refine bodyPost_ret (Ztb (p:=4) (u:=5) rfl Tryz.underlying102 rfl Zl0 _ _ R _ _ _ _ rfl HXX.out) rfl ?_
  exact ⟨rfl,HB9.out⟩
 ·have hf:atD l i=none:=by unfold atD;rw [if_neg hi]
  rw [hf]
  have f0:=FR0.out
  obtain ⟨m1,m2,m3,m4,⟨k1,k2⟩,⟨k3,k4⟩,k5,k6⟩:=f0.all (.string ⟨#[]⟩) (.int .i64 0) (.int .i64 0)
  obtain ⟨n0,n1,n2,n3⟩:=f0.cells
  have HXX:=FR0
  have HB9:=HB0
  have HX2:=Lib.hid (f0.set (.string ⟨#[]⟩) (.int .i64 0) (.int .i64 0) (.int .i64 0))
  have HB8:=Lib.hid (HB0.out.trans ((Zm2 (g:=R) (w:=wa) (.string ⟨#[]⟩) (.int .i64 0) (.int .i64 0) (.int .i64 0)).below (B:=w.heap.size) (by omega) (fun b hb=>by omega)))
  by_cases hneg:i<0
  ·have q1:decide (i<0)=true:=by rw [decide_eq_true_eq];omega
   clear hi hf hd f0 hneg FR0
   go_enter Tryz.func165,Tryz.ntmps165
   go_wp2_with fail
   rw [HWA.out]
   go_wp2_with fail
   refine bodyPost_ret (Ztb (p:=4) (u:=5) rfl Tryz.underlying102 rfl Zl0 _ _ R _ _ _ _ rfl HXX.out) rfl ?_
   exact ⟨rfl,HB9.out⟩
  ·have q1:decide (i<0)=false:=by rw [decide_eq_false_iff_not];omega
   have q2:decide (i≥(l.length:Int))=true:=by rw [decide_eq_true_eq];omega
   have q3:decide ((l.length:Int)≤i)=true:=by rw [decide_eq_true_eq];omega
   clear hi hf hd f0 hneg FR0
   go_enter Tryz.func165,Tryz.ntmps165
   go_wp2_with fail
   rw [HWA.out]
   refine HLEN.out.mono ?_
   rintro e w1 ⟨rfl,rfl⟩
   go_wp2_with fail
   refine bodyPost_ret (Ztb (p:=4) (u:=5) rfl Tryz.underlying102 rfl Zl0 _ _ R _ _ _ _ rfl HX2.out) rfl ?_
   exact ⟨rfl,HB8.out⟩
end Go.Proofs.YtdijhifdjbnkfaaGreat.DT
namespace Go.Proofs.YtdijhifdjbnkfaaGreat.DT
open Go Go.RowKit MM DM
open EM (Znl Znt Znp Znm Znr)
theorem Znh (x t:List UInt8):(Znl x t||(x == t)) = !Znl t x:=by
 by_cases e:x=t
 ·subst e;simp [Znp]
 ·have e2:(x == t)=false:=by rw [beq_eq_false_iff_ne];exact e
  rw [e2,Bool.or_false]
  cases h:Znl x t with
  | true=>rw [Znm h];rfl
  | false=>rw [Znr h e];rfl
theorem Ztw {l:List Ent} {i:Nat} (hi:i<l.length) (t:List UInt8):Ztt t (l.drop i)=(Znl t l[i].1&&Ztt l[i].1 (l.drop (i+1))):=by
 rw [List.drop_eq_getElem_cons hi,Ztt]
theorem Zty (v:Value) (l:List Ent) (t0:List UInt8) (w:World) (hv:RAny entC w v l):Calls Tryz.prog 105 #[v,.string ⟨t0.toArray⟩] w fun e w'=>e=.returned (.bool (Ztt t0 l))∧Below w.heap.size w w':=by
 obtain ⟨p,cap,rfl,hlc,hcm,_⟩:=hv.shape
 unfold maxLen at hcm
 obtain ⟨RES,hRES⟩:∃ RES,Ztt t0 l=RES:=⟨_,rfl⟩
 have H0:Hid (Ztt t0 (l.drop 0)=RES):=Lib.hid hRES
 rw [hRES]
 have HV:=Lib.hid hv
 clear hv hRES
 go_enter Tryz.func105,Tryz.ntmps105
 go_wp2_with fail
 go_loopw [1,9] (fun tv iv wr=>∃ (i:Nat) (t:List UInt8),i≤l.length∧tv=.string ⟨t.toArray⟩∧iv=.int .i64 i∧Hid (Ztt t (l.drop i)=RES)∧Hid (Below w.heap.size w wr)) (fun _ iv _=>l.length - (intOf iv).toNat)
 case atStart=>exact ⟨0,t0,by omega,rfl,rfl,H0,Lib.hid (Below.refl _ _)⟩
 case round =>
  obtain ⟨i,t,hi,rfl,rfl,HI,HB⟩:=hrel
  clear H0
  by_cases hlt:i<l.length
  ·have q1:decide ((i:Int)<(l.length:Int))=true:=by rw [decide_eq_true_eq];omega
   have q2:decide (i<l.length)=true:=by rw [decide_eq_true_eq];omega
   have q3:(i:Int)<(l.length:Int):=by omega
   obtain ⟨b,off,rfl,hbl,_,c1,c2,c3,c4⟩:=Zht (RAny.below HV.out HB.out) hlt
   have hnx:=HI.out
   rw [Ztw hlt] at hnx
   generalize l[i]=X at *
   obtain ⟨X1,x2,x3,x4⟩:=X
   dsimp only at *
   have hle:=Znh X1 t
   have hlb:=Znt X1 t
   generalize Znl X1 t=b1 at *
   obtain ⟨b2,hb2⟩:∃ b,(X1 == t)=b:=⟨_,rfl⟩
   rw [hb2] at hle
   obtain ⟨W,hW⟩:∃ W,wr.alloc (.cells #[.string ⟨X1.toArray⟩,.int .i64 x2,.int .i64 x3,.int .i64 x4] 102)=W:=⟨_,rfl⟩
   have HB2:Hid (Below w.heap.size w (wr.alloc (.cells #[.string ⟨X1.toArray⟩,.int .i64 x2,.int .i64 x3,.int .i64 x4] 102))):=Lib.hid (HB.out.trans ((Below.refl _ _).alloc HB.out.size _))
   clear HI hW
   obtain ⟨b3,hb3⟩:∃ b,Znl t X1=b:=⟨_,rfl⟩
   rw [hb3] at hle hnx
   clear hb3
   cases b3 with
   | true =>
     rw [Bool.true_and] at hnx
     have HN:=Lib.hid hnx
     obtain ⟨rfl,rfl⟩:b1=false∧b2=false:=by cases b1<;>cases b2<;>simp_all
     clear hnx hle
     go_wp2_with fail
     go_roundw
     case rel=>exact ⟨i+1,X1,by omega,rfl,by go_num,HN,HB2⟩
     case measure=>simp [intOf];omega
   | false =>
     rw [Bool.false_and] at hnx
     subst hnx
     have HLE:Hid ((b1||b2)=true):=Lib.hid hle
     clear hle
     cases b1 with
     | true =>
       clear HLE hb2
       go_wp2_with fail
       go_ret
       exact ⟨rfl,HB2.out⟩
     | false =>
       obtain rfl:b2=true:=by have:=HLE.out;simpa using this
       clear HLE
       go_wp2_with fail
       go_ret
       exact ⟨rfl,HB2.out⟩
  ·obtain rfl:i=l.length:=by omega
   have q1:decide ((l.length:Int)<(l.length:Int))=false:=by simp
   have q2:decide (l.length<l.length)=false:=by simp
   have hf:RES=true:=by rw [← HI.out,List.drop_length];rfl
   subst hf
   clear HI hlt
   go_wp2_with fail
   go_ret
   exact ⟨rfl,HB.out⟩
instance (x:Ent):Decidable (okW x):=by unfold okW;exact inferInstance
theorem ZmK (x:Ent) (w:World):Calls Tryz.prog 131 #[entV x] w fun e w'=>e=.returned (.bool (!decide (okW x)))∧Below w.heap.size w w':=by
 obtain ⟨X1,a,b,c⟩:=x
 unfold entV
 dsimp only
 have hz:=ZwF X1
 have HB:Hid (Below w.heap.size w (w.alloc (.cells #[.string ⟨X1.toArray⟩,.int .i64 a,.int .i64 b,.int .i64 c] 102))):=Lib.hid ((Below.refl _ _).alloc (Nat.le_refl _) _)
 have HW:Hid (decide (okW (X1,a,b,c))=decide (X1.length≤65∧(0≤a∧a≤67108864)∧(0≤b∧b≤67108864)∧(0≤c∧c≤67108864))):=Lib.hid (by simp only [okW])
 go_enter Tryz.func131,Tryz.ntmps131
 go_wp2_with fail
 all_goals go_ret
 all_goals refine ⟨congrArg (fun b=>Ending.returned (.bool b)) ?_,HB.out⟩
 all_goals rw [HW.out,Bool.eq_iff_iff]
 all_goals simp only [Bool.or_eq_true,Bool.not_eq_true',decide_eq_true_eq,decide_eq_false_iff_not,true_iff]
 all_goals omega
end Go.Proofs.YtdijhifdjbnkfaaGreat.DT
namespace Go.Proofs.YtdijhifdjbnkfaaGreat.DT
open Go Go.RowKit MM DM
def oddX (x:Ent):Bool := !decide (okW x)
theorem Zcg {l:List Ent} {i:Nat} (hi:i<l.length):(l.drop i).any oddX=(oddX l[i]||(l.drop (i+1)).any oddX):=by
 rw [List.drop_eq_getElem_cons hi,List.any_cons]
theorem ZmP (v:Value) (l:List Ent) (w:World) (hv:RAny entC w v l):Calls Tryz.prog 192 #[v,.func (.func 131) #[] #[]] w fun e w'=>∃ r:Int,e=.returned (.int .i64 r)∧decide (r≥0)=l.any oddX∧Below w.heap.size w w':=by
 obtain ⟨p,cap,rfl,hlc,hcm,_⟩:=hv.shape
 unfold maxLen at hcm
 obtain ⟨RES,hRES⟩:∃ RES,l.any oddX=RES:=⟨_,rfl⟩
 have H0:Hid ((l.drop 0).any oddX=RES):=Lib.hid hRES
 rw [hRES]
 have HV:=Lib.hid hv
 clear hv hRES
 go_enter Tryz.func192,Tryz.ntmps192
 go_wp2_with fail
 go_loopw [8] (fun iv wr=>∃ i:Nat,i≤l.length∧iv=.int .i64 i∧Hid ((l.drop i).any oddX=RES)∧Hid (Below w.heap.size w wr)) (fun iv _=>l.length - (intOf iv).toNat)
 case atStart=>exact ⟨0,by omega,rfl,H0,Lib.hid (Below.refl _ _)⟩
 case round =>
  obtain ⟨i,hi,rfl,HI,HB⟩:=hrel
  clear H0
  by_cases hlt:i<l.length
  ·have q1:decide ((i:Int)<(l.length:Int))=true:=by rw [decide_eq_true_eq];omega
   have q2:decide (i<l.length)=true:=by rw [decide_eq_true_eq];omega
   have q3:(i:Int)<(l.length:Int):=by omega
   obtain ⟨b,off,rfl,hbl,_,c1,c2,c3,c4⟩:=Zht (RAny.below HV.out HB.out) hlt
   have hnx:=HI.out
   rw [Zcg hlt] at hnx
   generalize l[i]=X at *
   have hC:=ZmK X wr
   have ho:oddX X = !decide (okW X):=rfl
   rw [← ho] at hC
   generalize oddX X=o at *
   obtain ⟨X1,x2,x3,x4⟩:=X
   unfold entV at hC
   dsimp only at *
   have HC:=Lib.hid hC
   clear hC ho HI
   cases o with
   | true =>
     rw [Bool.true_or] at hnx
     subst hnx
     go_wp2_with fail
     refine HC.out.mono ?_
     rintro e w1 ⟨rfl,hb1⟩
     have HB1:=Lib.hid (HB.out.trans (hb1.mono HB.out.size))
     clear hb1 HC
     go_wp2_with fail
     go_ret
     exact ⟨_,rfl,decide_eq_true (by omega),HB1.out⟩
   | false =>
     rw [Bool.false_or] at hnx
     have HN:=Lib.hid hnx
     clear hnx
     go_wp2_with fail
     refine HC.out.mono ?_
     rintro e w1 ⟨rfl,hb1⟩
     have HB1:=Lib.hid (HB.out.trans (hb1.mono HB.out.size))
     clear hb1 HC
     go_wp2_with fail
     go_roundw
     case rel=>exact ⟨i+1,by omega,by go_num,HN,HB1⟩
     case measure=>simp [intOf];omega
  ·obtain rfl:i=l.length:=by omega
   have q1:decide ((l.length:Int)<(l.length:Int))=false:=by simp
   have q2:decide (l.length<l.length)=false:=by simp
   have hf:RES=false:=by rw [← HI.out,List.drop_length];rfl
   subst hf
   clear HI hlt
   go_wp2_with fail
   go_ret
   exact ⟨_,rfl,by decide,HB.out⟩
theorem ZeA (v:Value) (l:List Ent) (w:World) (hv:RAny entC w v l):Calls Tryz.prog 130 #[v,.func (.func 131) #[] #[]] w fun e w'=>e=.returned (.bool (l.any oddX))∧Below w.heap.size w w':=by
 have HC:=Lib.hid (ZmP v l w hv)
 generalize l.any oddX=RES at *
 clear hv
 go_enter Tryz.func130,Tryz.ntmps130
 go_wp2_with fail
 refine HC.out.mono ?_
 rintro e w1 ⟨r,rfl,hr,hb⟩
 have HB:=Lib.hid hb
 clear hb HC
 go_wp2_with fail
 go_ret
 exact ⟨by rw [← hr];rfl,HB.out⟩
end Go.Proofs.YtdijhifdjbnkfaaGreat.DT
namespace Go.Proofs.YtdijhifdjbnkfaaGreat.DT
open Go Go.RowKit MM DM
def tK (l:List Ent) (k:Nat):List UInt8:=(l.getD k nilX).1
theorem ZwP {l:List Ent} {k:Nat} (h:k<l.length):tK l k=l[k].1:=by unfold tK;rw [List.getD_eq_getElem?_getD,List.getElem?_eq_getElem h];rfl
theorem ZwQ {l:List Ent} {j k:Nat} (h:k<(ZeK l j).length):tK (ZeK l j) k=tK l (16*j+k):=by
 have h2:=ZeX l j
 rw [ZwP h,ZwP (by omega),ZeP h]
theorem ZiM {l:List Ent} {j:Nat} (h:j<Ze3 l):((ZeK l j).headD nilX).1=tK l (16*j):=by
 have h2:=ZeX l j
 unfold Ze3 at h
 have h3:0<(ZeK l j).length:=by omega
 rw [← Nat.add_zero (16*j),← ZwQ h3,ZwP h3]
 obtain ⟨c,hc⟩:∃ c,ZeK l j=c:=⟨_,rfl⟩
 simp only [hc] at h3 ⊢
 cases c with
 | nil=>simp at h3
 | cons x r=>rfl
def Zbw (H:Nat) (cb:Array Value) (q:List UInt8→Bool) (w:World):Prop :=
 (∀ args W,(callFunc H args).run Tryz.prog W=.ok (.enter H args) W)∧∀ (W:World) (t:List UInt8),Below w.heap.size w W→Calls Tryz.prog H (#[.string ⟨t.toArray⟩]++cb) W fun e w'=>e=.returned (.bool (q t))∧Below W.heap.size W w'
theorem Zbw.below {H:Nat} {cb:Array Value} {q:List UInt8→Bool} {w w':World} (h:Zbw H cb q w) (hb:Below w.heap.size w w'):Zbw H cb q w':=⟨h.1,fun W t hW=>h.2 W t (hb.trans (hW.mono hb.size))⟩
theorem Zei (H:Nat) (cb:Array Value) (q:List UInt8→Bool) (bh bd g:Nat) (l:List Ent) (j:Nat) (w:World) (hq:Zbw H cb q w) (hh:w.cell? ⟨bh,0,none⟩=some (.func (.func H) #[] cb)) (hd:w.cell? ⟨bd,0,none⟩=some (.pointer (some ⟨g,0,none⟩)))
  (hD:Zav (fun _=>True) w g l) (hj:j<Ze3 l) (hn:l.length≤262144):Calls Tryz.prog 217 (#[.int .i64 (j:Int)]++#[.pointer (some ⟨bh,0,none⟩),.pointer (some ⟨bd,0,none⟩)]) w fun e w'=>e=.returned (.bool (!q (tK l (16*j))))∧Below w.heap.size w w':=by
 have hmx:Tryz.prog.follows .mixedOrders=true:=by kernel_rfl
 have eg:=hq.1
 obtain ⟨v,h2,_,h3⟩:=hD
 obtain ⟨pb,cap,rfl,hcb,hcm,_⟩:=h3.shape
 rw [Zdh] at h3 h2 hcb
 obtain ⟨bb,off,vb,rfl,hbl,b0,b1,hbody⟩:=Zc6 h3 hj
 rw [ZiM hj] at b0
 have c1:=h2.c1
 have hgl:=h2.lt
 obtain ⟨t,ht⟩:∃ t,tK l (16*j)=t:=⟨_,rfl⟩
 rw [ht] at b0 ⊢
 obtain ⟨wd,hwd⟩:∃ wd,w.drew=wd:=⟨_,rfl⟩
 have hbd:Below w.heap.size w wd:=by rw [← hwd];exact (Below.refl _ _).drew
 have hlh:=World.block_lt_of_cell? _ _ hh
 have hld:=World.block_lt_of_cell? _ _ hd
 have hC:=hq.2 wd t hbd
 have HC:=Lib.hid hC
 have HBD:=Lib.hid hbd
 have hNm:Ze3 l≤16384:=by unfold Ze3;omega
 have hjN:(j:Int)<(Ze3 l:Int):=by omega
 generalize Ze3 l=N at *
 have e1:=fun W (hW:Kep (fun _=>True) w W)=>(hW.cell hlh trivial 0).trans hh
 have e2:=fun W (hW:Kep (fun _=>True) w W)=>(hW.cell hld trivial 0).trans hd
 have e3:=fun W (hW:Kep (fun _=>True) w W)=>(hW.cell hgl trivial 1).trans c1
 have e4:=fun W (hW:Kep (fun _=>True) w W)=>(hW.cell hbl trivial (off+j*2)).trans b0
 have hkd:Kep (fun _=>True) w wd:=ZmT _ hbd
 have HKD:=Lib.hid hkd
 have HWD:=Lib.hid hwd
 clear hq hh hd h2 h3 hbody b0 b1 c1 ht hwd hbd hC hkd
 go_enter Tryz.func217,Tryz.ntmps217
 go_wp2_with fail
 refine RK.ZcJ (T:=fun _=>True) [(0,true),(1,true),(2,true),(3,true),(4,true),(5,true),(6,true),(7,true),(8,true),(9,false),(10,true),(11,true)] (by kernel_rfl) (by kernel_rfl) rfl (by kernel_rfl) (fun _ _ d _ _ h=>by cases d<;>exact h) ?_
 simp only [RK.ZpY,List.map_cons,List.map_nil,List.getElem?_toArray,List.getElem?_cons_succ,List.getElem?_cons_zero]
 rw [HWD.out]
 have f1:=fun W (hW:Kep (fun _=>True) wd W)=>e1 W (HKD.out.trans hW)
 have f2:=fun W (hW:Kep (fun _=>True) wd W)=>e2 W (HKD.out.trans hW)
 have f3:=fun W (hW:Kep (fun _=>True) wd W)=>e3 W (HKD.out.trans hW)
 have f4:=fun W (hW:Kep (fun _=>True) wd W)=>e4 W (HKD.out.trans hW)
 clear e1 e2 e3 e4
 repeat ((first | (refine RK.take (by rfl) (by intro W hW;go_simp;with_reducible rfl) ?_));simp only [Act.put,List.setIfInBounds_toArray,List.set_cons_zero,List.set_cons_succ])
 refine RK.alone (by rfl) (fun K hK => ?_)
 go_simp
 refine HC.out.mono ?_
 rintro e w1 ⟨rfl,hb1⟩
 go_simp
 refine hK.out _ _ (ZmT _ hb1) ?_
 clear hK K
 have HB1:=Lib.hid (HBD.out.trans (hb1.mono HBD.out.size))
 clear hb1 HC
 repeat ((first | (refine RK.take (by rfl) (by intro W hW;go_simp;with_reducible rfl) ?_));simp only [Act.put,List.setIfInBounds_toArray,List.set_cons_zero,List.set_cons_succ])
 refine RK.done ?_
 go_wp2_with fail
 go_ret
 exact ⟨rfl,HB1.out⟩
theorem Zej (H:Nat) (cb:Array Value) (q:List UInt8→Bool) (bh bl:Nat) (p:Option Addr) (n cap:Nat) (l:List Ent) (j:Nat) (w:World) (hq:Zbw H cb q w) (hh:w.cell? ⟨bh,0,none⟩=some (.func (.func H) #[] cb)) (hd:w.cell? ⟨bl,0,none⟩=some (.slice p n cap))
  (hD:RAny entC w (.slice p n cap) l) (hj:j<l.length) (hn:l.length≤262144):Calls Tryz.prog 218 (#[.int .i64 (j:Int)]++#[.pointer (some ⟨bh,0,none⟩),.pointer (some ⟨bl,0,none⟩)]) w fun e w'=>e=.returned (.bool (!q (tK l j)))∧Below w.heap.size w w':=by
 have hmx:Tryz.prog.follows .mixedOrders=true:=by kernel_rfl
 have eg:=hq.1
 obtain ⟨p',cap',hv,hcb,hcm,_⟩:=hD.shape
 simp only [Value.slice.injEq] at hv
 obtain ⟨rfl,rfl,rfl⟩:=hv
 obtain ⟨bb,off,rfl,hbl,_,b0,xa,xb,xc⟩:=Zht hD hj
 clear xa xb xc
 rw [← ZwP hj] at b0
 obtain ⟨t,ht⟩:∃ t,tK l j=t:=⟨_,rfl⟩
 rw [ht] at b0 ⊢
 obtain ⟨wd,hwd⟩:∃ wd,w.drew=wd:=⟨_,rfl⟩
 have hbd:Below w.heap.size w wd:=by rw [← hwd];exact (Below.refl _ _).drew
 have hlh:=World.block_lt_of_cell? _ _ hh
 have hld:=World.block_lt_of_cell? _ _ hd
 have HC:=Lib.hid (hq.2 wd t hbd)
 have HBD:=Lib.hid hbd
 have hjN:(j:Int)<(l.length:Int):=by omega
 obtain ⟨N,hN⟩:∃ N,l.length=N:=⟨_,rfl⟩
 rw [hN] at hd hn hcb hjN
 clear hD hj hN
 have HKD:Hid (Kep (fun _=>True) w wd):=Lib.hid (ZmT _ hbd)
 have f1:=fun W (hW:Kep (fun _=>True) wd W)=>((HKD.out.trans hW).cell hlh trivial 0).trans hh
 have f2:=fun W (hW:Kep (fun _=>True) wd W)=>((HKD.out.trans hW).cell hld trivial 0).trans hd
 have f4:=fun W (hW:Kep (fun _=>True) wd W)=>((HKD.out.trans hW).cell hbl trivial (off+j*4)).trans b0
 have HWD:=Lib.hid hwd
 have HF:=Lib.hid (And.intro f1 (And.intro f2 f4))
 clear hq hh hd b0 ht hwd hbd f1 f2 f4
 go_enter Tryz.func218,Tryz.ntmps218
 go_wp2_with fail
 refine RK.ZcJ (T:=fun _=>True) [(0,true),(1,true),(2,true),(3,true),(4,true),(5,true),(6,false),(7,true),(8,true)] (by kernel_rfl) (by kernel_rfl) rfl (by kernel_rfl) (fun _ _ d _ _ h=>by cases d<;>exact h) ?_
 simp only [RK.ZpY,List.map_cons,List.map_nil,List.getElem?_toArray,List.getElem?_cons_succ,List.getElem?_cons_zero]
 rw [HWD.out]
 obtain ⟨f1,f2,f4⟩:=HF.out
 repeat ((first | (refine RK.take (by rfl) (by intro W hW;go_simp;with_reducible rfl) ?_));simp only [Act.put,List.setIfInBounds_toArray,List.set_cons_zero,List.set_cons_succ])
 refine RK.alone (by rfl) (fun K hK => ?_)
 go_simp
 refine HC.out.mono ?_
 rintro e w1 ⟨rfl,hb1⟩
 go_simp
 refine hK.out _ _ (ZmT _ hb1) ?_
 clear hK K
 have HB1:=Lib.hid (HBD.out.trans (hb1.mono HBD.out.size))
 clear hb1 HC
 repeat ((first | (refine RK.take (by rfl) (by intro W hW;go_simp;with_reducible rfl) ?_));simp only [Act.put,List.setIfInBounds_toArray,List.set_cons_zero,List.set_cons_succ])
 refine RK.done ?_
 go_wp2_with fail
 go_ret
 exact ⟨rfl,HB1.out⟩
theorem Zyc (p:Nat→Bool):ZbD p 0 0:=⟨Nat.le_refl _,fun h=>by omega,fun h=>by omega⟩
theorem Zye {l:List Ent} {q:List UInt8→Bool} {r s:Nat} (h1:ZbD (fun j => !q (tK l (16*j))) (Ze3 l) r) (h0:0<r) (h2:ZbD (fun k => !q (tK (ZeK l (r - 1)) k)) (ZeK l (r - 1)).length s):ZbD (fun k => !q (tK l k)) l.length ((r - 1)*16+s):=by
 obtain ⟨a1,a2,a3⟩:=h1
 obtain ⟨b1,b2,b3⟩:=h2
 have hs:=ZeX l (r - 1)
 have hN:Ze3 l=(l.length+15) / 16:=rfl
 have a2:=a2 h0
 dsimp only at a2 a3 b2 b3 ⊢
 have hs0:0<s:=by
  refine Nat.pos_of_ne_zero fun e => ?_
  subst e
  have h:=b3 (by omega)
  rw [ZwQ (by omega),Nat.add_zero,a2] at h
  cases h
 refine ⟨by omega,fun _ => ?_,fun hlt => ?_⟩
 ·have h:=b2 hs0
  rw [ZwQ (by omega)] at h
  rw [show (r - 1)*16+s - 1=16*(r - 1)+(s - 1) by omega]
  exact h
 ·by_cases hsl:s<(ZeK l (r - 1)).length
  ·have h:=b3 hsl
   rw [ZwQ hsl] at h
   rw [show (r - 1)*16+s=16*(r - 1)+s by omega]
   exact h
  ·have h:=a3 (by omega)
   rw [show (r - 1)*16+s=16*r by omega]
   exact h
theorem Zyd {l:List Ent} {q:List UInt8→Bool} (h1:ZbD (fun j => !q (tK l (16*j))) (Ze3 l) 0):ZbD (fun k => !q (tK l k)) l.length 0:=by
 obtain ⟨_,_,a3⟩:=h1
 exact ⟨by omega,fun h=>by omega,fun hlt=>a3 (by unfold Ze3;omega)⟩
def Zas (l:List Ent) (q:List UInt8→Bool) (w:World) (e:Ending) (w':World):Prop:=∃ c:Nat,e=.returned (.int .i64 (c:Int))∧ZbD (fun k => !q (tK l k)) l.length c∧Below w.heap.size w w'
theorem ZfQ (p:Option Addr) (l:List Ent) (H:Nat) (cb:Array Value) (q:List UInt8→Bool) (w:World) (hp:Zaw (fun _=>True) w p l) (hq:Zbw H cb q w) (hw:∀ x∈l,okW x) (hn:l.length≤262144) :
  Calls Tryz.prog 175 #[.pointer p,.func (.func H) #[] cb] w (Zas l q w):=by
 rcases hp with ⟨rfl,rfl⟩ | ⟨g,rfl,hD⟩
 ·have H0:=Lib.hid (show ∀ w',Below w.heap.size w w'→Zas [] q w (.returned (.int .i64 0)) w' from fun w' hb=>⟨0,rfl,Zyc _,hb⟩)
  have HB:Hid (Below w.heap.size w ((w.alloc (.cells #[.pointer none] 81)).alloc (.cells #[.func (.func H) #[] cb] 50))):=Lib.hid (((Below.refl _ _).alloc (Nat.le_refl _) _).alloc (by simp) _)
  clear hq
  go_enter Tryz.func175,Tryz.ntmps175
  go_wp2_with fail
  go_ret
  exact H0.out _ HB.out
 ·obtain ⟨R,hR⟩:∃ R,w.heap.size=R:=⟨_,rfl⟩
  obtain ⟨wa,hwa⟩:∃ W,w.alloc (.cells #[.pointer (some ⟨g,0,none⟩)] 81)=W:=⟨_,rfl⟩
  obtain ⟨wb,hwb⟩:∃ W,wa.alloc (.cells #[.func (.func H) #[] cb] 50)=W:=⟨_,rfl⟩
  have hba:Below w.heap.size w wa:=by rw [← hwa];exact (Below.refl _ _).alloc (Nat.le_refl _) _
  have hsa:wa.heap.size=R+1:=by rw [← hwa,← hR];simp
  have hbb:Below wa.heap.size wa wb:=by rw [← hwb];exact (Below.refl _ _).alloc (Nat.le_refl _) _
  have hsb:wb.heap.size=R+2:=by rw [← hwb];simp [hsa]
  have x2:wb.cell? ⟨R,0,none⟩=some (.pointer (some ⟨g,0,none⟩)):=by rw [hbb.cell (p:=⟨R,0,none⟩) (by show R<_;omega),← hwa,← hR,cell_of_row _ _ 0 _ _ _ (heap_alloc_new w _)];rfl
  have x3:wb.cell? ⟨R+1,0,none⟩=some (.func (.func H) #[] cb):=by rw [← hwb,← hsa,cell_of_row _ _ 0 _ _ _ (heap_alloc_new wa _)];rfl
  have hb0:=hba.trans (hbb.mono (by omega))
  have hDb:Zav (fun _=>True) wb g l:=hD.keep (ZmT _ hb0) fun _ _ h=>h
  have hqb:=hq.below hb0
  have eg1:∀ args W,(callFunc 217 args).run Tryz.prog W=.ok (.enter 217 args) W:=enters_of Tryz.func217 (by kernel_rfl) rfl
  have eg2:∀ args W,(callFunc 218 args).run Tryz.prog W=.ok (.enter 218 args) W:=enters_of Tryz.func218 (by kernel_rfl) rfl
  have hNm:Ze3 l≤16384:=by unfold Ze3;omega
  have HS:=Lib.hid (Zvu 217 #[.pointer (some ⟨R+1,0,none⟩),.pointer (some ⟨R,0,none⟩)] (Ze3 l) (fun j => !q (tK l (16*j))) wb eg1 (by omega)
   (fun W j hj hW=>Zei H cb q (R+1) R g l j W (hqb.below hW) ((hW.cell (p:=⟨R+1,0,none⟩) (by show R+1<_;omega)).trans x3) ((hW.cell (p:=⟨R,0,none⟩) (by show R<_;omega)).trans x2) (hDb.keep (ZmT _ hW) fun _ _ h=>h) hj hn))
  have HQB:=Lib.hid hqb
  have HDB:=Lib.hid hDb
  have HB0:=Lib.hid hb0
  have HWA:=Lib.hid hwa
  have HWB:=Lib.hid hwb
  obtain ⟨v,t2,_,t3⟩:=hDb
  obtain ⟨pb,cap,rfl,hcb,hcm,_⟩:=t3.shape
  rw [Zdh] at t2 hcb
  have c1:=t2.c1
  have c1n:=c1
  rw [← hwb,← hwa] at c1n
  have X2:=Lib.hid x2
  have X3:=Lib.hid x3
  clear hwa hwb hba hbb hD hq hqb hb0 t2 t3 x3
  go_enter Tryz.func175,Tryz.ntmps175
  go_wp2_with fail
  rw [HWA.out,HWB.out]
  go_wp2_with fail
  refine HS.out.mono ?_
  rintro e w1 ⟨r,rfl,hT,hb1⟩
  have hs1:=hb1.size
  have HB1:=Lib.hid (HB0.out.trans (hb1.mono (by omega)))
  by_cases hr0:r=0
  ·subst hr0
   have HT:=Lib.hid (Zyd hT)
   clear hT hb1 HS
   go_wp2_with fail
   go_ret
   exact ⟨0,rfl,HT.out,HB1.out⟩
  ·have q1:((r:Int) == 0)=false:=by rw [beq_eq_false_iff_ne];omega
   have hrN:r≤Ze3 l:=hT.1
   have HT:=Lib.hid hT
   obtain ⟨v1,t1,_,t3⟩:=HDB.out.keep (T:=fun _=>True) (ZmT _ hb1) fun _ _ h=>h
   obtain ⟨pb1,cap1,rfl,hcb1,hcm1,_⟩:=t3.shape
   rw [Zdh] at t3 t1 hcb1
   obtain ⟨bb,off,vb,rfl,hbl,b0,b1,hbody⟩:=Zc6 t3 (k:=r - 1) (by omega)
   have y2:w1.cell? ⟨R,0,none⟩=some (.pointer (some ⟨g,0,none⟩)):=(hb1.cell (p:=⟨R,0,none⟩) (by show R<_;omega)).trans X2.out
   have d1:=t1.c1
   obtain ⟨J,hJ⟩:∃ J,r - 1=J:=⟨_,rfl⟩
   rw [hJ] at b0 b1 hbody
   have hrJ:(r:Int) - 1=(J:Int):=by omega
   have hJN:(J:Int)<(Ze3 l:Int):=by omega
   obtain ⟨Z,hZ⟩:∃ Z:Nat,(r - 1)*16=Z:=⟨_,rfl⟩
   have hJ16:(J:Int)*16=(Z:Int):=by omega
   have HZ:=Lib.hid hZ
   have hZb:Z≤262144:=by omega
   clear hZ
   have hcl:=ZeX l J
   obtain ⟨FT,hFT⟩:∃ s:ByteArray,(⟨((ZeK l J).headD nilX).1.toArray⟩:ByteArray)=s:=⟨_,rfl⟩
   rw [hFT] at b0
   have HENTS:=Lib.hid (Zde FT vb (ZeK l J) w1 (Ze0 hw J) (by omega) hbody)
   obtain ⟨pv,cv,rfl,_⟩:=hbody.shape
   have Y3:Hid (w1.cell? ⟨R+1,0,none⟩=some (.func (.func H) #[] cb)):=Lib.hid ((hb1.cell (p:=⟨R+1,0,none⟩) (by show R+1<_;omega)).trans X3.out)
   have HQ1:=Lib.hid (HQB.out.below hb1)
   have HJ:=Lib.hid hJ
   have HR0:=Lib.hid hr0
   clear hT hb1 HS hFT t1 t3 hbody hJ hr0 c1 c1n x2
   go_wp2_with fail
   refine HENTS.out.mono ?_
   rintro e w2 ⟨v2,rfl,ho2,hb2⟩
   obtain ⟨p2,c2,rfl,hl2,hm2,_⟩:=ho2.any.shape
   have hs2:=hb2.size
   obtain ⟨w3,hw3⟩:∃ W,w2.alloc (.cells #[.slice p2 (ZeK l J).length c2] 97)=W:=⟨_,rfl⟩
   have hb3:Below w2.heap.size w2 w3:=by rw [← hw3];exact (Below.refl _ _).alloc (Nat.le_refl _) _
   have z1:w3.cell? ⟨w2.heap.size,0,none⟩=some (.slice p2 (ZeK l J).length c2):=by rw [← hw3,cell_of_row _ _ 0 _ _ _ (heap_alloc_new w2 _)];rfl
   have z2:w3.cell? ⟨R+1,0,none⟩=some (.func (.func H) #[] cb):=(hb3.cell (p:=⟨R+1,0,none⟩) (by show R+1<_;omega)).trans ((hb2.cell (p:=⟨R+1,0,none⟩) (by show R+1<_;omega)).trans Y3.out)
   have hbt:Below w1.heap.size w1 w3:=hb2.trans (hb3.mono hs2)
   have hs3:=hbt.size
   have ho3:=RAny.below ho2.any hb3
   have HS2:=Lib.hid (Zvu 218 #[.pointer (some ⟨R+1,0,none⟩),.pointer (some ⟨w2.heap.size,0,none⟩)] (ZeK l J).length (fun k => !q (tK (ZeK l J) k)) w3 eg2 (by omega)
    (fun W j hj hW=>Zej H cb q (R+1) w2.heap.size p2 _ c2 (ZeK l J) j W ((HQ1.out.below hbt).below hW) ((hW.cell (p:=⟨R+1,0,none⟩) (by show R+1<_;omega)).trans z2) ((hW.cell (p:=⟨w2.heap.size,0,none⟩) (World.block_lt_of_cell? _ _ z1)).trans z1) (ho3.below hW) hj (by omega)))
   have HB3:=Lib.hid (HB1.out.trans (hbt.mono (by omega)))
   have HW3:=Lib.hid hw3
   have HCL:Hid ((ZeK l J).length≤16):=Lib.hid (by omega)
   clear ho2 hb2 hw3 hb3 z2 hbt ho3 HENTS b0 b1 hcl
   go_wp2_with fail
   rw [HW3.out]
   go_wp2_with fail
   refine HS2.out.mono ?_
   rintro e w4 ⟨s,rfl,hT2,hb4⟩
   have HB4:=Lib.hid (HB3.out.trans (hb4.mono (by omega)))
   have hsc:=hT2.1
   have hc16:=HCL.out
   obtain ⟨Y,hY⟩:∃ Y:Nat,Z+s=Y:=⟨_,rfl⟩
   have hsum:(Z:Int)+(s:Int)=(Y:Int):=by omega
   have HT2:=Lib.hid (Zye HT.out (Nat.pos_of_ne_zero HR0.out) (by rw [HJ.out];exact hT2))
   rw [HZ.out,hY] at HT2
   have hb62:Y≤300000:=by omega
   clear hT2 hb4 HS2 hY
   go_wp2_with fail
   go_ret
   exact ⟨Y,rfl,HT2.out,HB4.out⟩
end Go.Proofs.YtdijhifdjbnkfaaGreat.DT
namespace Go.Proofs.YtdijhifdjbnkfaaGreat.DT
open Go Go.RowKit MM DM
open EM (Znl Znp Zns Znr)
theorem Ztu:∀ {l:List Ent} {t:List UInt8},Ztt t l=true→∀ {j:Nat},j<l.length→Znl t (tK l j)=true
 | [],_,_,j,h=>by simp at h
 | x::r,t,h,j,hj=>by
   rw [Ztt,Bool.and_eq_true] at h
   match j,hj with
   | 0,_=>simpa [tK] using h.1
   | j+1,hj =>
     have e1:tK (x::r) (j+1)=tK r j:=by simp [tK]
     rw [e1]
     exact Zns h.1 (Ztu h.2 (by simpa using hj))
theorem Ztx:∀ {l:List Ent} {t:List UInt8},Ztt t l=true→∀ {i j:Nat},i<j→j<l.length→Znl (tK l i) (tK l j)=true
 | [],_,_,i,j,_,h=>by simp at h
 | x::r,t,h,i,j,hij,hj=>by
   rw [Ztt,Bool.and_eq_true] at h
   obtain ⟨j,rfl⟩:∃ k,j=k+1:=⟨j - 1,by omega⟩
   have hj':j<r.length:=by simpa using hj
   have e1:tK (x::r) (j+1)=tK r j:=by simp [tK]
   rw [e1]
   match i,hij with
   | i+1,hij =>
     have e2:tK (x::r) (i+1)=tK r i:=by simp [tK]
     rw [e2]
     exact Ztx h.2 (by omega) hj'
   | 0,_ =>
     have e2:tK (x::r) 0=x.1:=by simp [tK]
     rw [e2]
     exact Ztu h.2 hj'
theorem Ziz:∀ (p:Ent→Bool) (l:List Ent) (a b:Nat),(∀ k (h:k<l.length),k<a→p l[k]=false)→(∀ k (h:k<l.length),a≤k→k<b→p l[k]=true)→(∀ k (h:k<l.length),b≤k→p l[k]=false)→l.filter p=(l.take b).drop a
 | p,[],a,b,_,_,_=>by simp
 | p,x::r,0,0,h1,h2,h3=>by
   have ih:=Ziz p r 0 0 (fun k h hk=>by omega) (fun k h _ hk=>by omega) (fun k h hk=>h3 (k+1) (Nat.succ_lt_succ h) (by omega))
   have e0:p x=false:=h3 0 (by simp) (by omega)
   simp only [List.filter_cons,e0,ih]
   simp
 | p,x::r,0,b+1,h1,h2,h3=>by
   have ih:=Ziz p r 0 b (fun k h hk=>by omega) (fun k h _ hk=>h2 (k+1) (Nat.succ_lt_succ h) (by omega) (by omega)) (fun k h hk=>h3 (k+1) (Nat.succ_lt_succ h) (by omega))
   have e0:p x=true:=h2 0 (by simp) (by omega) (by omega)
   simp only [List.filter_cons,e0,ih]
   simp
 | p,x::r,a+1,0,h1,h2,h3=>by
   have ih:=Ziz p r a 0 (fun k h hk=>h1 (k+1) (Nat.succ_lt_succ h) (by omega)) (fun k h _ hk=>by omega) (fun k h hk=>h3 (k+1) (Nat.succ_lt_succ h) (by omega))
   have e0:p x=false:=h3 0 (by simp) (by omega)
   simp only [List.filter_cons,e0,ih]
   simp
 | p,x::r,a+1,b+1,h1,h2,h3=>by
   have ih:=Ziz p r a b (fun k h hk=>h1 (k+1) (Nat.succ_lt_succ h) (by omega)) (fun k h hk1 hk=>h2 (k+1) (Nat.succ_lt_succ h) (by omega) (by omega)) (fun k h hk=>h3 (k+1) (Nat.succ_lt_succ h) (by omega))
   have e0:p x=false:=h1 0 (by simp) (by omega)
   simp only [List.filter_cons,e0,ih]
   simp
def Down (q:List UInt8→Bool):Prop:=∀ s t,Znl s t=true→q t=true→q s=true
theorem Zya {l:List Ent} {q:List UInt8→Bool} {c:Nat} {t:List UInt8} (hr:Ztt t l=true) (hq:Down q) (h:ZbD (fun k => !q (tK l k)) l.length c):(∀ k,k<c→q (tK l k)=true)∧(∀ k,c≤k→k<l.length→q (tK l k)=false):=by
 obtain ⟨h1,h2,h3⟩:=h
 dsimp only at h2 h3
 refine ⟨fun k hk => ?_,fun k hk hkl => ?_⟩
 ·have hc:q (tK l (c - 1))=true:=by simpa using h2 (by omega)
  by_cases e:k=c - 1
  ·rw [e];exact hc
  ·exact hq _ _ (Ztx hr (show k<c - 1 by omega) (by omega)) hc
 ·have hc:q (tK l c)=false:=by simpa using h3 (by omega)
  by_cases e:k=c
  ·rw [e];exact hc
  ·cases hq2:q (tK l k) with
   | false=>rfl
   | true =>
     have:=hq _ _ (Ztx hr (show c<k by omega) hkl) hq2
     rw [hc] at this
     cases this
theorem ZgD (u:List UInt8):Down fun t=>Znl t u:=fun s t h1 h2=>Zns h1 h2
theorem Zji {l:List Ent} {u:List UInt8} {c:Nat} {t:List UInt8} (hr:Ztt t l=true) (h:ZbD (fun k => !Znl (tK l k) u) l.length c):Zjf l u=c:=by
 obtain ⟨h1,h2⟩:=Zya hr (ZgD u) h
 have hc:=h.1
 unfold Zjf
 rw [Ziz (fun x=>Znl x.1 u) l 0 c (fun k _ hk=>by omega) (fun k hk _ hkc=>by rw [← ZwP hk];exact h1 k hkc) (fun k hk hkc=>by rw [← ZwP hk];exact h2 k hkc hk),List.drop_zero,List.length_take]
 omega
theorem ZiF {l:List Ent} {u:List UInt8} {t:List UInt8} (hr:Ztt t l=true):ZiB l u=match atD l (Zjf l u:Int) with
  | none=>none
  | some x=>if x.1=u then some x else none:=by
 have hle:=Zjg l u
 have hat:∀ k:Nat,atD l (k:Int)=l[k]? := fun k=>by
  unfold atD
  by_cases h:k<l.length
  ·rw [if_pos ⟨by omega,by omega⟩,Int.toNat_natCast]
  ·rw [if_neg (by omega),List.getElem?_eq_none (by omega)]
 rw [hat]
 have hfil:∀ k (hk:k<l.length),l[k].1=u→Zjf l u=k:=fun k hk he=>by
  refine Zji hr ⟨by omega,fun h0 => ?_,fun _ => ?_⟩
  ·have:=Ztx hr (show k - 1<k by omega) hk
   rw [ZwP hk,he] at this
   dsimp only
   rw [this];rfl
  ·dsimp only
   rw [ZwP hk,he,Znp];rfl
 cases hf:ZiB l u with
 | some x =>
   have hx:=List.find?_some hf
   have hm:=List.mem_of_find?_eq_some hf
   obtain ⟨k,hk,rfl⟩:=List.getElem_of_mem hm
   have he:l[k].1=u:=by simpa using hx
   rw [hfil k hk he,List.getElem?_eq_getElem hk]
   simp [he]
 | none =>
   cases hg:l[Zjf l u]? with
   | none=>rfl
   | some x =>
     obtain ⟨hk,rfl⟩:=List.getElem?_eq_some_iff.1 hg
     have:=List.find?_eq_none.1 hf l[Zjf l u] (List.getElem_mem hk)
     have hne:l[Zjf l u].1≠u:=by simpa using this
     simp [hne]
end Go.Proofs.YtdijhifdjbnkfaaGreat.DT
namespace Go.Proofs.YtdijhifdjbnkfaaGreat.DT
open Go Go.RowKit MM DM
open EM (Znl Znt)
theorem ZkO {l:List Ent} (h:areD l=true):(∀ x∈l,okW x)∧Ztt [] l=true∧l.length≤262144:=by
 unfold areD at h
 rw [Bool.and_eq_true,decide_eq_true_eq,Zcw] at h
 exact ⟨h.2.1,h.2.2,h.1⟩
theorem Zij (bt:Nat) (t u:List UInt8) (w:World) (h:w.cell? ⟨bt,0,none⟩=some (.string ⟨u.toArray⟩)):Calls Tryz.prog 212 (#[.string ⟨t.toArray⟩]++#[.pointer (some ⟨bt,0,none⟩)]) w fun e w'=>e=.returned (.bool (Znl t u))∧Below w.heap.size w w':=by
 have hlb:=Znt t u
 generalize Znl t u=b at *
 go_enter Tryz.func212,Tryz.ntmps212
 go_wp2_with fail
 go_ret
 exact ⟨rfl,Below.refl _ _⟩
theorem Zik (R:Nat) (u:List UInt8) (w:World) (h:w.cell? ⟨R,0,none⟩=some (.string ⟨u.toArray⟩)):Zbw 212 #[.pointer (some ⟨R,0,none⟩)] (fun t=>Znl t u) w :=
 ⟨enters_of Tryz.func212 (by kernel_rfl) rfl,fun W t hW=>Zij R t u W ((hW.cell (p:=⟨R,0,none⟩) (World.block_lt_of_cell? _ _ h)).trans h)⟩
theorem Zjh (p:Option Addr) (l:List Ent) (u:List UInt8) (w:World) (hp:Zaw (fun _=>True) w p l) (hl:areD l=true):Calls Tryz.prog 166 #[.pointer p,.string ⟨u.toArray⟩] w fun e w'=>e=.returned (.int .i64 (Zjf l u:Int))∧ZbD (fun k => !Znl (tK l k) u) l.length (Zjf l u)∧Below w.heap.size w w':=by
 obtain ⟨hw,hr,hn⟩:=ZkO hl
 obtain ⟨R,hR⟩:∃ R,w.heap.size=R:=⟨_,rfl⟩
 obtain ⟨wa,hwa⟩:∃ W,w.alloc (.cells #[.string ⟨u.toArray⟩] 9)=W:=⟨_,rfl⟩
 have hba:Below w.heap.size w wa:=by rw [← hwa];exact (Below.refl _ _).alloc (Nat.le_refl _) _
 have x2:wa.cell? ⟨R,0,none⟩=some (.string ⟨u.toArray⟩):=by rw [← hwa,← hR,cell_of_row _ _ 0 _ _ _ (heap_alloc_new w _)];rfl
 have HC:=Lib.hid (ZfQ p l 212 _ _ wa (hp.below hba) (Zik R u wa x2) hw hn)
 have HBA:=Lib.hid hba
 have HWA:=Lib.hid hwa
 clear hba hwa x2 hp
 go_enter Tryz.func166,Tryz.ntmps166
 go_wp2_with fail
 rw [HWA.out]
 go_wp2_with fail
 refine HC.out.mono ?_
 rintro e w1 ⟨c,rfl,hT,hb1⟩
 have hc:=Zji hr hT
 subst hc
 have HT:=Lib.hid hT
 have HB:=Lib.hid (HBA.out.trans (hb1.mono HBA.out.size))
 clear hT hb1 HC
 go_wp2_with fail
 go_ret
 exact ⟨rfl,HT.out,HB.out⟩
end Go.Proofs.YtdijhifdjbnkfaaGreat.DT
namespace Go.Proofs.YtdijhifdjbnkfaaGreat.DT
open Go Go.RowKit MM DM
open EM (Znl Znt)
def Zq1 (u:List UInt8):Option Ent→Option Ent
 | none=>none
 | some x=>if x.1=u then some x else none
theorem ZkC (p:Option Addr) (l:List Ent) (u:List UInt8) (w:World) (hp:Zaw (fun _=>True) w p l) (hl:areD l=true):Calls Tryz.prog 111 #[.pointer p,.string ⟨u.toArray⟩] w (ZaF (ZiB l u) w):=by
 obtain ⟨hw,hr,hn⟩:=ZkO hl
 have hfind:ZiB l u=Zq1 u (atD l (Zjf l u:Int)):=by rw [ZiF hr];cases atD l (Zjf l u:Int)<;>rfl
 have hfle:=Zjg l u
 obtain ⟨R,hR⟩:∃ R,w.heap.size=R:=⟨_,rfl⟩
 obtain ⟨wa,hwa⟩:∃ wa,w.alloc (.cells #[.string ⟨#[]⟩,.int .i64 0,.int .i64 0,.int .i64 0] 102)=wa:=⟨_,rfl⟩
 have hba:Below w.heap.size w wa:=by rw [← hwa];exact (Below.refl _ _).alloc (Nat.le_refl _) _
 have FR0:Hid (Four wa R 102 (.string ⟨#[]⟩) (.int .i64 0) (.int .i64 0) (.int .i64 0)):=Lib.hid (by rw [← hwa,← hR];exact Zjz w 102 _ _ _ _)
 have hsa:wa.heap.size=R+1:=by rw [← hwa,← hR];simp
 have hd:=hp.below hba
 have HF:=Lib.hid (Zjh p l u wa hd hl)
 have HAT:=Lib.hid (fun W (hW:Below wa.heap.size wa W)=>ZcA p l (Zjf l u:Int) W (hd.below hW) hw hn (by omega) (by omega))
 have HB0:=Lib.hid hba
 have HWA:=Lib.hid hwa
 obtain ⟨o,ho⟩:∃ o,atD l (Zjf l u:Int)=o:=⟨_,rfl⟩
 obtain ⟨c,hc⟩:∃ c,Zjf l u=c:=⟨_,rfl⟩
 rw [hc] at ho hfind HF HAT
 rw [ho] at hfind HAT
 obtain ⟨RES,hRES⟩:∃ r,ZiB l u=r:=⟨_,rfl⟩
 rw [hRES] at hfind ⊢
 have HFIND:=Lib.hid hfind
 clear hwa hba hp hd hfind ho hc hfle hRES
 go_enter Tryz.func111,Tryz.ntmps111
 go_wp2_with fail
 rw [HWA.out]
 refine HF.out.mono ?_
 rintro e w1 ⟨rfl,_,hb1⟩
 have hs1:=hb1.size
 have HA:=Lib.hid (HAT.out w1 hb1)
 have FR1:=Lib.hid (FR0.out.below hb1 (by omega))
 have HB1:=Lib.hid (HB0.out.trans (hb1.mono (by omega)))
 clear hb1 HAT HF FR0
 go_wp2_with fail
 refine HA.out.mono ?_
 rintro e w2 ⟨rfl,hb2⟩
 have hs2:=hb2.size
 obtain ⟨q,hq⟩:∃ q,w2.heap.size=q:=⟨_,rfl⟩
 cases o with
 | none =>
   obtain rfl:RES=none:=HFIND.out
   dsimp only [Option.getD_none,Option.isSome_none]
   clear HFIND
   have FR2:=FR1.out.below hb2 (by omega)
   have hb3:Below w2.heap.size w2 (w2.alloc (.cells #[.string ⟨#[]⟩,.int .i64 0,.int .i64 0,.int .i64 0] 102)):=(Below.refl _ _).alloc (Nat.le_refl _) _
   have FR3:=FR2.below hb3 (by omega)
   obtain ⟨m1,m2,m3,m4,⟨k1,k2⟩,⟨k3,k4⟩,k5,k6⟩:=FR3.all (.string ⟨#[]⟩) (.int .i64 0) (.int .i64 0)
   obtain ⟨n0,n1,n2,n3⟩:=FR3.cells
   have HX1:=Lib.hid FR3
   have HX2:=Lib.hid (FR3.set (.string ⟨#[]⟩) (.int .i64 0) (.int .i64 0) (.int .i64 0))
   have hb4:=(HB1.out.trans (hb2.mono (by omega))).trans (hb3.mono (by omega))
   have HB4:=Lib.hid hb4
   have HB5:=Lib.hid (hb4.trans ((Zm2 (g:=R) (w:=w2.alloc (.cells #[.string ⟨#[]⟩,.int .i64 0,.int .i64 0,.int .i64 0] 102)) (.string ⟨#[]⟩) (.int .i64 0) (.int .i64 0) (.int .i64 0)).below (B:=w.heap.size) (by simp;omega) (fun b hb=>by omega)))
   unfold entV nilX
   clear FR2 hb3 FR3 hb4 hb2 HA FR1 HB1
   go_wp2_with fail
   refine bodyPost_ret (Ztb (p:=4) (u:=5) rfl Tryz.underlying102 rfl Zl0 _ _ R _ _ _ _ rfl HX2.out) rfl ?_
   exact ⟨rfl,HB5.out⟩
 | some X =>
   obtain ⟨X1,x2,x3,x4⟩:=X
   dsimp only [Option.getD_some,Option.isSome_some]
   unfold entV
   dsimp only
   have FR2:=FR1.out.below hb2 (by omega)
   have hb3:Below w2.heap.size w2 (w2.alloc (.cells #[.string ⟨X1.toArray⟩,.int .i64 x2,.int .i64 x3,.int .i64 x4] 102)):=(Below.refl _ _).alloc (Nat.le_refl _) _
   have FR3:=FR2.below hb3 (by omega)
   have FQ3:=Zjz w2 102 (.string ⟨X1.toArray⟩) (.int .i64 x2) (.int .i64 x3) (.int .i64 x4)
   rw [hq] at FQ3
   obtain ⟨n0,n1,n2,n3⟩:=FR3.cells
   obtain ⟨e0,e1,e2,e3⟩:=FQ3.cells
   have hb4:=(HB1.out.trans (hb2.mono (by omega))).trans (hb3.mono (by omega))
   have HB4:=Lib.hid hb4
   have HX1:=Lib.hid FR3
   by_cases he:X1=u
   ·have t0:(X1 == u)=true:=by rw [he];simp
    obtain ⟨m1,m2,m3,m4,⟨k1,k2⟩,⟨k3,k4⟩,k5,k6⟩:=FR3.all (.string ⟨X1.toArray⟩) (.int .i64 x2) (.int .i64 x3)
    have HX2:=Lib.hid (FR3.set (.string ⟨X1.toArray⟩) (.int .i64 x2) (.int .i64 x3) (.int .i64 x4))
    have HB5:=Lib.hid (hb4.trans ((Zm2 (g:=R) (w:=w2.alloc (.cells #[.string ⟨X1.toArray⟩,.int .i64 x2,.int .i64 x3,.int .i64 x4] 102)) (.string ⟨X1.toArray⟩) (.int .i64 x2) (.int .i64 x3) (.int .i64 x4)).below (B:=w.heap.size) (by simp;omega) (fun b hb=>by omega)))
    subst he
    have t0:(X1 == X1)=true:=by simp
    obtain rfl:RES=some (X1,x2,x3,x4):=by have:=HFIND.out;unfold Zq1 at this;dsimp only at this;rw [if_pos rfl] at this;exact this
    clear FR2 hb3 FR3 FQ3 hb4 hb2 HA FR1 HB1 HFIND
    go_wp2_with fail
    refine bodyPost_ret (Ztb (p:=4) (u:=5) rfl Tryz.underlying102 rfl Zl0 _ _ R _ _ _ _ rfl HX2.out) rfl ?_
    exact ⟨rfl,HB5.out⟩
   ·have t0:(X1 == u)=false:=by rw [beq_eq_false_iff_ne];exact he
    obtain ⟨m1,m2,m3,m4,⟨k1,k2⟩,⟨k3,k4⟩,k5,k6⟩:=FR3.all (.string ⟨#[]⟩) (.int .i64 0) (.int .i64 0)
    have HX2:=Lib.hid (FR3.set (.string ⟨#[]⟩) (.int .i64 0) (.int .i64 0) (.int .i64 0))
    have HB5:=Lib.hid (hb4.trans ((Zm2 (g:=R) (w:=w2.alloc (.cells #[.string ⟨X1.toArray⟩,.int .i64 x2,.int .i64 x3,.int .i64 x4] 102)) (.string ⟨#[]⟩) (.int .i64 0) (.int .i64 0) (.int .i64 0)).below (B:=w.heap.size) (by simp;omega) (fun b hb=>by omega)))
    obtain rfl:RES=none:=by have:=HFIND.out;unfold Zq1 at this;dsimp only at this;rw [if_neg he] at this;exact this
    clear FR2 hb3 FR3 FQ3 hb4 hb2 HA FR1 HB1 HFIND he
    go_wp2_with fail
    refine bodyPost_ret (Ztb (p:=4) (u:=5) rfl Tryz.underlying102 rfl Zl0 _ _ R _ _ _ _ rfl HX2.out) rfl ?_
    exact ⟨rfl,HB5.out⟩
end Go.Proofs.YtdijhifdjbnkfaaGreat.DT
