import Derived.Test.YtdijhifdjbnkfaaGreatZB3
import Derived.ChangeArms
import Derived.ChangeSame
import Derived.Deep.Slices
import Derived.ProofKit
import Derived.OpenShut
import Derived.Test.YtdijhifdjbnkfaaGreatZB16
import Derived.Test.YtdijhifdjbnkfaaGreatZB44
import Derived.Test.YtdijhifdjbnkfaaGreatZB19
import Derived.Test.YtdijhifdjbnkfaaGreatZB46
import Derived.Test.YtdijhifdjbnkfaaGreatZB52
import Derived.Test.YtdijhifdjbnkfaaGreatZB53
import Derived.Test.YtdijhifdjbnkfaaGreatZB22
import Derived.Test.YtdijhifdjbnkfaaGreatZB17
import Derived.Test.YtdijhifdjbnkfaaGreatZB10
import Derived.Test.YtdijhifdjbnkfaaGreatZB21
import Derived.Test.YtdijhifdjbnkfaaGreatZB51
import Derived.Test.YtdijhifdjbnkfaaGreatZB54
set_option linter.unusedVariables false
set_option linter.unusedSimpArgs false
namespace Go.Proofs.YtdijhifdjbnkfaaGreat.MM
open Go Go.RowKit Go.ChangeShapes Go.WideShapes
def Reads (P:Program) {α:Type} (C:Codec α) (G:α→Prop) (t:TypeId):Prop :=
 ∀ {H:Type} {enc:TypeId×Value→H} {W:World} {base n:Nat} {cs:List Value} {x:DataW H×List MemPlace},DataW.trod enc P W base (fun _=>true) true n t cs=some x→∃ a,C.on (fun _=>True) W cs a∧G a
def FitI (z:Int):Prop := -9223372036854775808≤z∧z≤9223372036854775807
theorem reads_int {P:Program} {t:TypeId} (ht:P.underlying t=some (.int .i64)):Reads P cInt FitI t:=fun h=>by
 obtain ⟨z,rfl,_,hw⟩:=DataW.trod_int ht h
 refine ⟨z,rfl,?_⟩
 simp only [Lit.wf,Bool.and_eq_true,decide_eq_true_eq] at hw
 have h1:IntKind.i64.min = -9223372036854775808:=by decide
 have h2:IntKind.i64.max=9223372036854775807:=by decide
 rw [h1,h2] at hw
 exact hw
theorem reads_str {P:Program} {t:TypeId} (ht:P.underlying t=some .string):Reads P cStr (fun l=>l.length≤maxLen) t:=fun h=>by
 obtain ⟨s,rfl,_,hs⟩:=DataW.trod_string ht h
 exact ⟨s.data.toList,rfl,by simpa using hs⟩
theorem reads_row {P:Program} {α:Type} [Inhabited α] {C:Codec α} {G:α→Prop} {T e:TypeId} (ht:P.underlying T=some (.slice e)) (hc:P.cellsOf e=C.size) (he:Reads P C G e):Reads P (cRow C) (fun l=>(∀ a∈l,G a)∧l.length≤maxLen) T:=fun {H enc W base n cs x} h=>by
 rcases Deep.open_slice ht h with ⟨rfl,_⟩ | ⟨a,len,cap,m,k,D,Pl,rfl,_,hl,hm,hmm,_,hx⟩
 ·exact ⟨[],⟨_,rfl,ROn.nil_ _ _⟩,by simp,by simp [maxLen]⟩
 ·simp only [if_true] at hmm
  subst hmm
  have each:∀ i,i<len→∃ q:α×List Value,W.cells? base (a.add (i*C.size)) C.size=some q.2∧C.on (fun _=>True) W q.2 q.1∧G q.1:=fun i hi=>by
   obtain ⟨cs',h1,h2⟩:=hx i (by omega)
   obtain ⟨d,h3,h4⟩:=he h2
   rw [hc] at h1
   exact ⟨(d,cs'),h1,h3,h4⟩
  obtain ⟨q,hq⟩:=Deep.choose_lt each
  refine ⟨(List.range len).map fun i=>(q i).1,⟨_,rfl,some a,m,(List.range len).map fun i=>(q i).2,by simp,by simpa using hl,hm,(fun h=>by cases h),⟨by simp,fun i hi hi' => ?_⟩,?_⟩,fun d hd => ?_,by simp;omega⟩
  ·have hi2:i<len:=by simpa using hi
   simp only [List.getElem_map,List.getElem_range]
   exact (hq i hi2).2.1
  ·by_cases h0:len=0
   ·left;simp [h0]
   ·right
    have hlens:∀ r∈(List.range len).map (fun i=>(q i).2),r.length=C.size:=fun r hr=>by
     obtain ⟨i,hi,rfl⟩:=List.mem_map.1 hr
     exact C.len (hq i (List.mem_range.1 hi)).2.1
    have cell:∀ i,i<len→∀ j u,(q i).2[j]? = some u→W.cell? ((a.add (i*C.size)).add j)=some u:=fun i hi j u hj=>by
     obtain ⟨_,hlen,hcell⟩:=World.cells?_some (hq i hi).1
     have hjl:=(List.getElem?_eq_some_iff.1 hj).1
     have:=hcell j (by omega)
     rw [this]
     simpa using hj
    have hp:=C.pos
    have hl0:=C.len (hq 0 (by omega)).2.1
    obtain ⟨u0,hu0⟩:∃ u,(q 0).2[0]? = some u:=⟨_,List.getElem?_eq_getElem (by omega)⟩
    have c0:=cell 0 (by omega) 0 u0 hu0
    obtain ⟨b,off,spot⟩:=a
    have hspot:spot=none:=by
     have:=World.cell?_spot c0
     simpa [Addr.add] using this
    subst hspot
    refine ⟨b,off,rfl,?_,trivial,fun j u hj => ?_⟩
    ·rw [add_at,add_at] at c0
     by_cases hb:b<W.heap.size
     ·exact hb
     ·simp [World.cell?,Array.getElem?_eq_none (Nat.le_of_not_lt hb)] at c0
    ·have hjl:=(List.getElem?_eq_some_iff.1 hj).1
     rw [flat_len hlens,List.length_map,List.length_range] at hjl
     have hi:j / C.size<len:=(Nat.div_lt_iff_lt_mul hp).2 hjl
     have hmod:=Nat.mod_lt j hp
     have hdm:=Nat.div_add_mod j C.size
     have hli:=C.len (hq _ hi).2.1
     obtain ⟨u',hu'⟩:∃ u,(q (j / C.size)).2[j%C.size]? = some u:=⟨_,List.getElem?_eq_getElem (by omega)⟩
     have hf:=flat_get hlens (j / C.size) (by simpa using hi) (j%C.size) u' (by simpa using hu')
     have e:j / C.size*C.size+j%C.size=j:=by rw [Nat.mul_comm];exact hdm
     rw [e,hj] at hf
     obtain rfl:=Option.some.inj hf
     have:=cell _ hi _ _ hu'
     rw [add_at,add_at,Nat.add_assoc,e] at this
     exact this
  ·obtain ⟨i,hi,rfl⟩:=List.mem_map.1 hd
   exact (hq i (List.mem_range.1 hi)).2.2
theorem reads_pair {P:Program} {α β:Type} {C:Codec α} {D:Codec β} {G:α→Prop} {F:β→Prop} {t:TypeId} {f0 f1:Field} (ht:P.underlying t=some (.struct #[f0,f1]))
  (ho0:f0.offset=0) (ho1:f1.offset=C.size) (hc0:P.cellsOf f0.type=C.size) (hc1:P.cellsOf f1.type=D.size) (hc:P.cellsOf t=C.size+D.size) (h0:Reads P C G f0.type) (h1:Reads P D F f1.type) :
  Reads P (cPair C D) (fun p=>G p.1∧F p.2) t:=fun {H enc W base n cs x} h=>by
 obtain ⟨y0,y1,k,_,hl,g0,g1⟩:=trod_struct2 ht h
 obtain ⟨a,a1,a2⟩:=h0 g0
 obtain ⟨b,b1,b2⟩:=h1 g1
 rw [ho0,hc0,List.drop_zero] at a1
 rw [ho1,hc1] at b1
 rw [hc] at hl
 have e:(cs.drop C.size).take D.size=cs.drop C.size:=List.take_of_length_le (by rw [List.length_drop];omega)
 rw [e] at b1
 exact ⟨(a,b),⟨cs.take C.size,cs.drop C.size,(List.take_append_drop _ _).symm,a1,b1⟩,a2,b2⟩
theorem argC_slice {P:Program} {α:Type} {C:Codec α} {G:List α→Prop} {t:TypeId} {H:Type} {enc:TypeId×Value→H} {W:World} {base:Nat} {a:Option Addr} {len cap:Nat} {d:DataW H} {p:List MemPlace} (R:Reads P (cRow C) G t)
  (h:∃ fuel,DataW.trod enc P W base (fun _=>true) true fuel t (Value.slice a len cap).cells.toList=some (d,p)):∃ l,RAny C W (.slice a len cap) l∧G l:=by
 obtain ⟨fuel,hf⟩:=h
 obtain ⟨l,⟨v,hv,hr⟩,hG⟩:=R hf
 have e:(Value.slice a len cap).cells.toList=[.slice a len cap]:=rfl
 rw [e] at hv
 obtain rfl:Value.slice a len cap=v:=by simpa using hv
 exact ⟨l,hr,hG⟩
end Go.Proofs.YtdijhifdjbnkfaaGreat.MM
namespace Go.Proofs.YtdijhifdjbnkfaaGreat.SG
open Go Go.RowKit Go.Proofs.YtdijhifdjbnkfaaGreat.MM
open Go.Proofs.YtdijhifdjbnkfaaGreat.EV (docC fldC)
open Go.Proofs.YtdijhifdjbnkfaaGreat.SM (Doc isS FitS decS)
open Go.Proofs.YtdijhifdjbnkfaaGreat.DT (DictP DictAt)
open Go.Proofs.YtdijhifdjbnkfaaGreat.DM (encD)
open Go.Proofs.YtdijhifdjbnkfaaGreat.SR (DocsOwn)
open Go.Proofs.YtdijhifdjbnkfaaGreat.GM (Six OpenSmall docsIn docsIn_fit docsIn_small open_yes open_no six_none sectsG encG encG_cases encG_ok decG entsG postsG rowsG footG filterG filterG_len sized)
theorem sect_at {S:Nat→Prop} {w:World} {g off n cap:Nat} {L:List (List UInt8)} (h:ROn (cRow cU8) S w (.slice (some ⟨g,off,none⟩) n cap) L) (k:Nat) (hk:k<L.length):∃ u,BOn S w u L[k]∧w.cell? ⟨g,off+k,none⟩=some u:=by
 obtain ⟨b,o,vs,hp,_,_,⟨u,hu,hon⟩,hc⟩:=h.at_ hk
 simp only [Option.some.injEq,Addr.mk.injEq,and_true] at hp
 obtain ⟨rfl,rfl⟩:=hp
 refine ⟨u,hon,?_⟩
 have:=hc 0 u (by rw [hu];rfl)
 rwa [show (cRow cU8).size=1 from rfl,Nat.mul_one,Nat.add_zero] at this
theorem row_below {S:Nat→Prop} {w w':World} {v:Value} {L:List (List UInt8)} (h:ROn (cRow cU8) S w v L) (hb:Below w.heap.size w w'):ROn (cRow cU8) S w' v L:=h.keep (kep_below S hb) fun _ _ h=>h
theorem sect_stays {w W:World} {g k:Nat} {u:Value} (h:w.cell? ⟨g,k,none⟩=some u) (hb:Below w.heap.size w W):W.cell? ⟨g,k,none⟩=some u:=by
 have hlt:g<w.heap.size:=by
  cases hh:w.heap[g]? with
  | none=>simp [World.cell?,hh] at h
  | some x=>exact (Array.getElem?_eq_some_iff.1 hh).1
 rw [hb.cell hlt]
 exact h
theorem docs_ron {B:Nat} {w:World} {v:Value} {l:List Doc} (h:DocsOwn B w v l):ROn docC (fun k=>B≤k) w v l:=by
 obtain ⟨S,h1,h2⟩:=h
 exact h2.ron (fun g hg=>(h2.cells hg).1) fun b _ hb=>(h1 b hb).1
def OpenG (b:List UInt8) (w:World) (e:Ending) (w':World):Prop :=
 ∃ p,e=.returned (.tuple #[.pointer p,.int .i64 (if (decG b).isSome then 0 else 130)])∧SegP (fun k=>w.heap.size≤k) w' p ((decG b).getD [])∧(decG b=none→p=none)∧Below w.heap.size w w'
theorem openG_no {b:List UInt8} {w w':World} (h:decG b=none) (hb:Below w.heap.size w w'):OpenG b w (.returned (.tuple #[.pointer none,.int .i64 130])) w':=by
 refine ⟨none,by rw [h];rfl,.inl ⟨rfl,by rw [h];rfl⟩,fun _=>rfl,hb⟩
set_option maxRecDepth 100000 in
set_option maxHeartbeats 1000000 in
theorem open_any (v:Value) (b:List UInt8) (w:World) (hr:BRow w v b) (hs:OpenSmall b):Calls Tryz.prog 12 #[v] w (OpenG b w):=by
 have HC:=Lib.hid (sin_any v b w hr)
 obtain ⟨pv,cv,hpv,_⟩:=hr.shape
 have HR:=Lib.hid hr
 rw [hpv] at HR HC ⊢
 clear hr hpv
 go_enter Tryz.func12,Tryz.ntmps12
 go_wp2_with fail
 refine HC.out.mono ?_
 rintro e w1 ⟨hb1,⟨vs,rfl,hone,hno⟩ | ⟨vs,L,rfl,h6,hrow⟩⟩
 ·have HQ:=Lib.hid (openG_no (six_none hno) hb1)
  clear hb1 hno HC HR
  go_wp2_with fail
  go_ret2
  exact HQ.out
 ·have hl6:=h6.six
  obtain ⟨g,off,cap,hp0⟩:∃ (g off cap:Nat),vs=.slice (some ⟨g,off,none⟩) 6 cap:=by
   obtain ⟨p,cap,rfl,_⟩:=hrow.shape
   obtain ⟨b',o',vs',rfl,_⟩:=hrow.at_ (k:=0) (by omega)
   exact ⟨b',o',cap,by rw [hl6]⟩
  subst hp0
  obtain ⟨u0,hu0,c0⟩:=sect_at hrow 0 (by omega)
  rw [Nat.add_zero] at c0
  have hhead:L[0]=L.headD []:=by
   cases L with
   | nil=>simp at hl6
   | cons a t=>rfl
  rw [hhead] at hu0
  have hsm:=hs.2 L h6
  have HD:=Lib.hid (SR.dec_any u0 _ w1 hu0.brow (by omega))
  obtain ⟨pu0,cu0,rfl,_⟩:=hu0.shape
  obtain ⟨X,hX⟩:∃ X,L.headD []=X:=⟨_,rfl⟩
  rw [hX] at HD c0
  have HX:=Lib.hid hX
  have H6:=Lib.hid h6
  have HROW:=Lib.hid hrow
  have HB1:=Lib.hid hb1
  have HSM:=Lib.hid hsm
  clear hb1 hrow h6 hu0 hX hsm HC hhead
  go_wp2_with fail
  refine HD.out.mono ?_
  rintro e w2 ⟨ud,rfl,hdo,hb2⟩
  have hdoc:(decS X).getD []=docsIn L:=by rw [← HX.out];rfl
  rw [hdoc] at hdo
  have HE:=Lib.hid (enc_any ud (docsIn L) w2 hdo.any (docsIn_small HSM.out) (docsIn_fit L))
  obtain ⟨l,hl⟩:∃ l,docsIn L=l:=⟨_,rfl⟩
  have HL:=Lib.hid hl
  rw [hl] at hdo HE
  obtain ⟨pd,cd,rfl,_⟩:=hdo.any.shape
  have HDO:=Lib.hid (hdo.base HB1.out.size)
  have HB2:=Lib.hid (HB1.out.trans (hb2.mono HB1.out.size))
  have HROW2:=Lib.hid (row_below HROW.out hb2)
  clear hdo hb2 hl HD hdoc HROW c0
  go_wp2_with fail
  refine HE.out.mono ?_
  rintro e w3 ⟨ue,rfl,heo,hb3⟩
  have HB3:=Lib.hid (HB2.out.trans (hb3.mono HB2.out.size))
  have HROW3:=Lib.hid (row_below HROW2.out hb3)
  have HDO3:=Lib.hid (HDO.out.keep (kep_below (fun _=>True) hb3) fun _ _ _=>trivial)
  have HR3:=Lib.hid (BRow.below HR.out HB3.out)
  have hcs:=encG_cases l
  obtain ⟨⟨x,z⟩,hxz⟩:∃ r,encG l=r:=⟨_,rfl⟩
  rw [hxz] at heo hcs ⊢
  dsimp only at heo ⊢
  have HXZ:=Lib.hid hxz
  have HEO:=Lib.hid (OwnB.brow heo)
  obtain ⟨px,cx,rfl,_⟩:=HEO.out.shape
  clear heo hb3 HE HDO HROW2 HB2 HB1 HR hxz
  by_cases hz:z=0
  ·subst hz
   have HEQ:=Lib.hid (equal_any _ _ x b w3 HEO.out HR3.out)
   by_cases hxb:x=b
   ·rw [decide_eq_true hxb] at HEQ
    subst hxb
    clear hcs
    have hyes:=open_yes H6.out (by rw [HL.out];exact HXZ.out)
    rw [HL.out] at hyes
    obtain ⟨hdg,hLs⟩:=hyes
    have hS:=(encG_ok HXZ.out).1
    have hne:=(encG_ok HXZ.out).2.1
    have hsm:=docsIn_small HSM.out
    rw [HL.out] at hsm
    have hz:=sized hS hsm
    subst hLs
    obtain ⟨es,hes⟩:∃ es,entsG 0 (rowsG l)=es:=⟨_,rfl⟩
    obtain ⟨ps,hps⟩:∃ ps,postsG (rowsG l)=ps:=⟨_,rfl⟩
    obtain ⟨fs,hfs⟩:∃ fs,filterG (rowsG l)=fs:=⟨_,rfl⟩
    obtain ⟨u3,hu3,c3⟩:=sect_at HROW3.out 3 (show 3<6 by omega)
    have hu3:BOn (fun k=>w.heap.size≤k) w3 u3 (encD es):=by rw [← hes];exact hu3
    have hlen3:(encD es).length≤1000000000000:=by
     have:=hz.sects (encD (entsG 0 (rowsG l))) (by unfold sectsG;simp)
     rw [hes] at this
     omega
    have hdd:DM.decD (encD es)=some es:=DM.decD_put (by rw [← hes];exact hz.are)
    have hlo:8≤fs.length∧fs.length≤131072:=by rw [← hfs,filterG_len];exact BM.roomL_le _
    have HDI:=Lib.hid (DT.open_any u3 (encD es) w3 hu3.brow hlen3)
    rw [hdd] at HDI
    obtain ⟨pu3,cu3,rfl,_⟩:=hu3.shape
    have HES:=Lib.hid hes
    have HES0:=Lib.hid hes
    have HPS0:=Lib.hid hps
    have HFS0:=Lib.hid hfs
    have HPS:=Lib.hid hps
    have HFS:=Lib.hid hfs
    have HDG:=Lib.hid hdg
    have HNE:=Lib.hid hne
    have HLO:=Lib.hid hlo
    obtain ⟨n3,hn3⟩:∃ n,(encD es).length=n:=⟨_,rfl⟩
    rw [hn3] at HDI c3
    clear hsm hz hes hps hfs hdg hne hlo hdd hu3 hlen3 HEO HR3 HXZ HX HSM hn3
    go_wp2_with fail
    refine HEQ.out.mono ?_
    rintro e w4 ⟨rfl,rfl⟩
    clear HEQ
    go_wp2_with fail
    refine HDI.out.mono ?_
    rintro e w5 ⟨pt,rfl,_,hpt,hb5⟩
    obtain ⟨gt,rfl,hdt⟩:=hpt es rfl
    have HDT:=Lib.hid hdt
    have HROW5:=Lib.hid (row_below HROW3.out hb5)
    have HDO5:=Lib.hid (HDO3.out.keep (kep_below (fun _=>True) hb5) fun _ _ _=>trivial)
    have HB5:=Lib.hid (HB3.out.trans (hb5.mono HB3.out.size))
    obtain ⟨u4,hu4,c4⟩:=sect_at HROW5.out 4 (show 4<6 by omega)
    have hu4:BOn (fun k=>w.heap.size≤k) w5 u4 fs:=by rw [← HFS.out];exact hu4
    have HFR:=Lib.hid (BL.cread_any u4 fs w5 hu4.brow HLO.out.1 HLO.out.2)
    obtain ⟨pu4,cu4,rfl,_⟩:=hu4.shape
    clear hdt hb5 HDI hpt HROW3 HDO3 hu4 c3
    go_wp2_with fail
    refine HFR.out.mono ?_
    rintro e w6 ⟨gf,bf,cf,rfl,hft,hgf,hbf,hb6⟩
    have HB6:=Lib.hid (HB5.out.trans (hb6.mono HB5.out.size))
    obtain ⟨wd,hwd⟩:∃ wd,w6.drew=wd:=⟨_,rfl⟩
    have hbd:Below w6.heap.size w6 wd:=by rw [← hwd];exact (Below.refl _ _).drew
    have HWD:=Lib.hid hwd
    have hb6d:=hb6.trans (hbd.mono hb6.size)
    have HBD:=Lib.hid (HB6.out.trans (hbd.mono HB6.out.size))
    have HROWD:=row_below HROW5.out hb6d
    have HDOD:=HDO5.out.keep (kep_below (fun _=>True) hb6d) fun _ _ _=>trivial
    have HFT:BL.FAt wd gf bf cf fs:=hft.keep (kep_below (fun _=>True) hbd) trivial trivial
    have HDTD:DictAt (fun b=>w.heap.size≤b) wd gt es:=HDT.out.keep (kep_below _ hb6d) fun b _ hb=>by have:=HB3.out.size;omega
    obtain ⟨u2,hu2,c2⟩:=sect_at HROWD 2 (show 2<6 by omega)
    have hu2:BOn (fun k=>w.heap.size≤k) wd u2 ps:=by rw [← HPS.out];exact hu2
    obtain ⟨pu2,cu2,rfl,_⟩:=hu2.shape
    have HFO:=Lib.hid (footof_any _ l wd HDOD.any HNE.out)
    have hg1:w.heap.size≤gf:=by have:=HB5.out.size;omega
    have hg2:w.heap.size≤bf:=by have:=HB5.out.size;omega
    have HFTD:=Lib.hid HFT
    have HDT:=Lib.hid HDTD
    have HDOC:=Lib.hid HDOD
    have HPO:=Lib.hid hu2
    have HG1:=Lib.hid hg1
    have HG2:=Lib.hid hg2
    have i2:(2:Int)<6:=by omega
    clear HROW5 HDO5 hft hgf hbf hb6 hbd hb6d hwd HFT HDTD HDOD HROWD hu2 hg1 hg2 HFR HB6 HB5 HB3 c4 HFS HES HPS HLO
    go_wp2_with fail
    refine RG.begin_ [(0,true),(1,true),(2,true),(3,true),(4,true),(5,true),(6,true),(7,true),(8,false),(9,true),(10,false),(11,true),(12,true)] (by kernel_rfl) (by kernel_rfl) rfl (by kernel_rfl) (fun _ _ d _ _ h=>by cases d<;>exact h) ?_
    simp only [RG.ordered,List.map_cons,List.map_nil,List.getElem?_toArray,List.getElem?_cons_succ,List.getElem?_cons_zero]
    rw [HWD.out]
    iterate 4 (refine RG.take (by rfl) (by intro W hW;go_simp;with_reducible rfl) ?_;simp only [Act.put,List.setIfInBounds_toArray,List.set_cons_zero,List.set_cons_succ])
    refine RG.take (v:=.slice pu2 ps.length cu2) (by rfl) (by intro W hW;have cW:=(sect_stays c2 hW);go_simp) ?_
    simp only [Act.put,List.setIfInBounds_toArray,List.set_cons_zero,List.set_cons_succ]
    iterate 3 (refine RG.take (by rfl) (by intro W hW;go_simp;with_reducible rfl) ?_;simp only [Act.put,List.setIfInBounds_toArray,List.set_cons_zero,List.set_cons_succ])
    refine RG.alone (by rfl) (fun K hK => ?_)
    go_simp
    refine HFO.out.mono ?_
    rintro e w7 ⟨rfl,hb7⟩
    go_simp
    refine hK.out _ _ hb7 ?_
    clear hK K
    iterate 1 (refine RG.take (by rfl) (by intro W hW;go_simp;with_reducible rfl) ?_;simp only [Act.put,List.setIfInBounds_toArray,List.set_cons_zero,List.set_cons_succ])
    refine RG.alone (by rfl) (fun K hK => ?_)
    go_simp
    refine hK.out _ _ ((Below.refl _ _).alloc (Nat.le_refl _) _) ?_
    clear hK K
    obtain ⟨w8,hw8⟩:∃ w8,w7.alloc (.cells (segA (.slice pd l.length cd) (some ⟨gt,0,none⟩) (.slice pu2 ps.length cu2) (some ⟨gf,0,none⟩) (footG l)) 88)=w8:=⟨_,rfl⟩
    have hg8:w8.heap[w7.heap.size]? = some (.cells (segA (.slice pd l.length cd) (some ⟨gt,0,none⟩) (.slice pu2 ps.length cu2) (some ⟨gf,0,none⟩) (footG l)) 88 (0,0)):=by rw [← hw8];exact heap_alloc_new _ _
    have hb8:Below w7.heap.size w7 w8:=by rw [← hw8];exact (Below.refl _ _).alloc (Nat.le_refl _) _
    have HG8:=Lib.hid hg8
    have HW8:Hid (w7.alloc (.cells #[.slice pd l.length cd,.pointer (some ⟨gt,0,none⟩),.slice pu2 ps.length cu2,.pointer (some ⟨gf,0,none⟩),.int .i64 0,.int .i64 0,.int .i64 (footG l).1,.int .i64 (footG l).2.1,.int .i64 (footG l).2.2.1,.int .i64 (footG l).2.2.2.1,.int .i64 ((footG l).2.2.2.2:Int)] 88)=w8):=Lib.hid hw8
    have HB8:=Lib.hid (hb7.trans (hb8.mono hb7.size))
    have HB7:=Lib.hid hb7
    clear hb7 hb8 hg8 hw8 HFO
    rw [HW8.out]
    iterate 2 (refine RG.take (by rfl) (by intro W hW;go_simp;with_reducible rfl) ?_;simp only [Act.put,List.setIfInBounds_toArray,List.set_cons_zero,List.set_cons_succ])
    refine RG.done ?_
    go_wp2_with fail
    go_ret2
    have hb68:Below wd.heap.size wd w8:=HB8.out
    refine ⟨some ⟨w7.heap.size,0,none⟩,by rw [HDG.out];rfl,?_,(fun h=>by rw [HDG.out] at h;cases h),HBD.out.trans (hb68.mono HBD.out.size)⟩
    rw [HDG.out,Option.getD_some]
    refine .inr ⟨w7.heap.size,_,_,_,_,rfl,Nat.le_trans HBD.out.size HB7.out.size,HG8.out,?_⟩
    have hdoc:DocsOwn w.heap.size w8 (.slice pd l.length cd) l:=HDOC.out.keep (kep_below (fun _=>True) hb68) fun _ _ _=>trivial
    refine ⟨docs_ron hdoc,.inr ⟨gt,rfl,by rw [HES0.out];exact HDT.out.keep (kep_below _ hb68) fun _ _ h=>h⟩,?_,.inr ⟨HNE.out,gf,bf,cf,rfl,?_,HG1.out,HG2.out⟩⟩
    ·rw [HPS0.out]
     exact HPO.out.below hb68
    ·rw [HFS0.out]
     exact HFTD.out.keep (kep_below (fun _=>True) hb68) trivial trivial
   ·rw [decide_eq_false hxb] at HEQ
    have HQ:=Lib.hid (openG_no (open_no H6.out (fun h=>hxb (by rw [HL.out,HXZ.out] at h;exact (Prod.mk.inj h).1))) HB3.out)
    clear hcs hxb HEO HR3 HDO3 HROW3
    go_wp2_with fail
    refine HEQ.out.mono ?_
    rintro e w4 ⟨rfl,rfl⟩
    go_wp2_with fail
    go_ret2
    exact HQ.out
  ·have HQ:=Lib.hid (openG_no (open_no H6.out (fun h=>hz (by rw [HL.out,HXZ.out] at h;exact (Prod.mk.inj h).2))) HB3.out)
   have hz2:z=130∨z=2:=by
    rcases hcs with h | h | h
    ·exact .inl (Prod.mk.inj h).2
    ·exact .inr (Prod.mk.inj h).2
    ·exact absurd (Prod.mk.inj h).2 hz
   clear hcs HEO HR3 HDO3 HROW3
   rcases hz2 with rfl | rfl
   all_goals
    go_wp2_with fail
    go_ret2
    exact HQ.out
end Go.Proofs.YtdijhifdjbnkfaaGreat.SG
namespace Go.Proofs.YtdijhifdjbnkfaaGreat.SG
open Go Go.RowKit Go.Proofs.YtdijhifdjbnkfaaGreat.MM
open Go.Proofs.YtdijhifdjbnkfaaGreat.EV (docC fldC NewF newf_keep)
open Go.Proofs.YtdijhifdjbnkfaaGreat.SR (infoDoc3)
open Go.Proofs.YtdijhifdjbnkfaaGreat.EM (posOf)
open Go.Proofs.YtdijhifdjbnkfaaGreat.SM (Doc isS FitS decS noDoc)
open Go.Proofs.YtdijhifdjbnkfaaGreat.GM (Small Sized sized entsG postsG rowsG footG filterG entsG_len)
theorem seg_f0 (a b c d e f g h i j k:Value) (w:World):(Instr.field 88 (.agg #[a,b,c,d,e,f,g,h,i,j,k]) 0).run Tryz.prog w=.ok a w:=by kernel_rfl
theorem seg_f1 (a b c d e f g h i j k:Value) (w:World):(Instr.field 88 (.agg #[a,b,c,d,e,f,g,h,i,j,k]) 1).run Tryz.prog w=.ok (.agg #[b,c,d]) w:=by kernel_rfl
theorem seg_f2 (a b c d e f g h i j k:Value) (w:World):(Instr.field 88 (.agg #[a,b,c,d,e,f,g,h,i,j,k]) 2).run Tryz.prog w=.ok (.agg #[e,f,g,h,i,j,k]) w:=by kernel_rfl
set_option maxRecDepth 100000 in
theorem len_any (p:Option Addr) (l:List Doc) (w:World) (h:SegP (fun _=>True) w p l):Calls Tryz.prog 28 #[.pointer p] w fun e w'=>e=.returned (.int .i64 (l.length:Int))∧Below w.heap.size w w':=by
 have HO:=Lib.hid (ornone_any p l w h)
 clear h
 go_enter Tryz.func28,Tryz.ntmps28
 go_wp2_with fail
 refine HO.out.mono ?_
 rintro e w1 ⟨ev,tp,rv,fp,rfl,hD,hb⟩
 have HC:=Lib.hid (count_any ev l w1 hD.docs)
 have HB:=Lib.hid hb
 obtain ⟨pe,ce,rfl,_⟩:=hD.docs.shape
 obtain ⟨pr,cr,rfl,_⟩:=hD.rws.shape
 have f0:=seg_f0 (.slice pe l.length ce) (.pointer tp) (.slice pr (postsG (rowsG l)).length cr) (.pointer fp) (.int .i64 0) (.int .i64 0) (.int .i64 (footG l).1) (.int .i64 (footG l).2.1) (.int .i64 (footG l).2.2.1) (.int .i64 (footG l).2.2.2.1) (.int .i64 ((footG l).2.2.2.2:Int)) w1
 clear hD hb HO
 go_wp2_with fail
 refine HC.out.mono ?_
 rintro e w2 ⟨rfl,rfl⟩
 go_wp2_with fail
 go_ret
 exact ⟨rfl,HB.out⟩
set_option maxRecDepth 100000 in
theorem docs_any (p:Option Addr) (l:List Doc) (w:World) (h:SegP (fun _=>True) w p l) (hF:Wide l) (hl:l.length≤65536):Calls Tryz.prog 15 #[.pointer p] w fun e w'=>(∃ u,e=.returned u∧RAny docC w' u l)∧Below w.heap.size w w':=by
 have HO:=Lib.hid (ornone_any p l w h)
 clear h
 go_enter Tryz.func15,Tryz.ntmps15
 go_wp2_with fail
 refine HO.out.mono ?_
 rintro e w1 ⟨ev,tp,rv,fp,rfl,hD,hb⟩
 have HC:=Lib.hid (all_any ev l w1 hD.docs hF hl)
 have HB:=Lib.hid hb
 obtain ⟨pe,ce,rfl,_⟩:=hD.docs.shape
 obtain ⟨pr,cr,rfl,_⟩:=hD.rws.shape
 have f0:=seg_f0 (.slice pe l.length ce) (.pointer tp) (.slice pr (postsG (rowsG l)).length cr) (.pointer fp) (.int .i64 0) (.int .i64 0) (.int .i64 (footG l).1) (.int .i64 (footG l).2.1) (.int .i64 (footG l).2.2.1) (.int .i64 (footG l).2.2.2.1) (.int .i64 ((footG l).2.2.2.2:Int)) w1
 clear hD hb HO
 go_wp2_with fail
 refine HC.out.mono ?_
 rintro e w2 ⟨⟨u,rfl,hu⟩,hb2⟩
 have HQ:=Lib.hid (And.intro hu (HB.out.trans (hb2.mono HB.out.size)))
 obtain ⟨pu,cu,rfl,_⟩:=hu.shape
 clear hu hb2 HC HB
 go_wp2_with fail
 go_ret
 exact ⟨⟨_,rfl,HQ.out.1⟩,HQ.out.2⟩
set_option maxRecDepth 100000 in
theorem posts_any2 (p:Option Addr) (l:List Doc) (u:List UInt8) (w:World) (h:SegP (fun _=>True) w p l) (hS:isS l=true) (hsm:Small l):Calls Tryz.prog 20 #[.pointer p,.string ⟨u.toArray⟩] w (PostsLeft (posOf (rowsG l) u) w):=by
 have hz:=sized hS hsm
 have HO:=Lib.hid (ornone_any p l w h)
 clear h
 go_enter Tryz.func20,Tryz.ntmps20
 go_wp2_with fail
 refine HO.out.mono ?_
 rintro e w1 ⟨ev,tp,rv,fp,rfl,hD,hb⟩
 have HC:=Lib.hid (posts_any tp rv (.pointer fp) rfl (rowsG l) u w1 hD.dict hz.are (BOn.brow hD.rws) (by have:=hz.posts;omega) (fun r hr=>(hz.row r hr).2.2.2.1))
 have HB:=Lib.hid hb
 obtain ⟨pe,ce,rfl,_⟩:=hD.docs.shape
 obtain ⟨pr,cr,rfl,_⟩:=hD.rws.shape
 have f0:=seg_f1 (.slice pe l.length ce) (.pointer tp) (.slice pr (postsG (rowsG l)).length cr) (.pointer fp) (.int .i64 0) (.int .i64 0) (.int .i64 (footG l).1) (.int .i64 (footG l).2.1) (.int .i64 (footG l).2.2.1) (.int .i64 (footG l).2.2.2.1) (.int .i64 ((footG l).2.2.2.2:Int)) w1
 clear hD hb HO hz
 go_wp2_with fail
 refine HC.out.mono ?_
 rintro e w2 ⟨v,rfl,hv,hb2⟩
 have HQ:=Lib.hid (And.intro hv (HB.out.trans (hb2.mono HB.out.size)))
 obtain ⟨pu,cu,rfl,_⟩:=PW.POn.shape hv
 clear hv hb2 HC HB
 go_wp2_with fail
 go_ret
 exact ⟨_,rfl,HQ.out.1,HQ.out.2⟩
set_option maxRecDepth 100000 in
theorem may_any2 (p:Option Addr) (l:List Doc) (u:List UInt8) (w:World) (h:SegP (fun _=>True) w p l) (hu:l≠[]→u.length≤1000000):Calls Tryz.prog 22 #[.pointer p,.string ⟨u.toArray⟩] w fun e w'=>e=.returned (.bool (!l.isEmpty&&BM.mayL (filterG (rowsG l)) u))∧Below w.heap.size w w':=by
 have HO:=Lib.hid (ornone_any p l w h)
 clear h
 go_enter Tryz.func22,Tryz.ntmps22
 go_wp2_with fail
 refine HO.out.mono ?_
 rintro e w1 ⟨ev,tp,rv,fp,rfl,hD,hb⟩
 have hC:Calls Tryz.prog (61) #[.agg #[.pointer tp,rv,.pointer fp],.string ⟨u.toArray⟩] w1 fun e w'=>e=.returned (.bool (!l.isEmpty&&BM.mayL (filterG (rowsG l)) u))∧Below w1.heap.size w1 w':=by
  rcases hD.fil with ⟨rfl,rfl⟩ | ⟨hne,g,b,cap,rfl,hf,_,_⟩
  ·exact may_none _ _ rfl hD.rws.oneCell u w1
  ·have:l.isEmpty=false:=by simpa using hne
   rw [this]
   exact may_some _ _ rfl hD.rws.oneCell g b cap _ u w1 hf (hu hne)
 have HC:=Lib.hid hC
 have HB:=Lib.hid hb
 obtain ⟨pe,ce,rfl,_⟩:=hD.docs.shape
 obtain ⟨pr,cr,rfl,_⟩:=hD.rws.shape
 obtain ⟨B,hB⟩:∃ B,(!l.isEmpty&&BM.mayL (filterG (rowsG l)) u)=B:=⟨_,rfl⟩
 have HB0:=Lib.hid hB
 rw [hB] at HC
 have f0:=seg_f1 (.slice pe l.length ce) (.pointer tp) (.slice pr (postsG (rowsG l)).length cr) (.pointer fp) (.int .i64 0) (.int .i64 0) (.int .i64 (footG l).1) (.int .i64 (footG l).2.1) (.int .i64 (footG l).2.2.1) (.int .i64 (footG l).2.2.2.1) (.int .i64 ((footG l).2.2.2.2:Int)) w1
 clear hD hb HO hC hB
 go_wp2_with fail
 refine HC.out.mono ?_
 rintro e w2 ⟨rfl,hb2⟩
 have HQ:=Lib.hid (HB.out.trans (hb2.mono HB.out.size))
 clear hb2 HC HB
 go_wp2_with fail
 go_ret
 exact ⟨by rw [HB0.out];rfl,HQ.out⟩
set_option maxRecDepth 100000 in
theorem terms_any2 (p:Option Addr) (l:List Doc) (w:World) (h:SegP (fun _=>True) w p l):Calls Tryz.prog 31 #[.pointer p] w fun e w'=>e=.returned (.int .i64 ((rowsG l).length:Int))∧Below w.heap.size w w':=by
 have HO:=Lib.hid (ornone_any p l w h)
 clear h
 go_enter Tryz.func31,Tryz.ntmps31
 go_wp2_with fail
 refine HO.out.mono ?_
 rintro e w1 ⟨ev,tp,rv,fp,rfl,hD,hb⟩
 have HC:=Lib.hid (terms_count tp rv (.pointer fp) hD.rws.oneCell rfl _ w1 hD.dict)
 rw [entsG_len] at HC
 have HB:=Lib.hid hb
 obtain ⟨pe,ce,rfl,_⟩:=hD.docs.shape
 obtain ⟨pr,cr,rfl,_⟩:=hD.rws.shape
 have f0:=seg_f1 (.slice pe l.length ce) (.pointer tp) (.slice pr (postsG (rowsG l)).length cr) (.pointer fp) (.int .i64 0) (.int .i64 0) (.int .i64 (footG l).1) (.int .i64 (footG l).2.1) (.int .i64 (footG l).2.2.1) (.int .i64 (footG l).2.2.2.1) (.int .i64 ((footG l).2.2.2.2:Int)) w1
 clear hD hb HO
 go_wp2_with fail
 refine HC.out.mono ?_
 rintro e w2 ⟨rfl,hb2⟩
 have HQ:=Lib.hid (HB.out.trans (hb2.mono HB.out.size))
 clear hb2 HC HB
 go_wp2_with fail
 go_ret
 exact ⟨rfl,HQ.out⟩
set_option maxRecDepth 100000 in
set_option maxHeartbeats 1000000 in
theorem part_any (p:Option Addr) (l:List Doc) (w:World) (h:SegP (fun _=>True) w p l):Calls Tryz.prog 29 #[.pointer p] w fun e w'=>e=.returned (.agg #[.int .i64 0,.int .i64 0,.int .i64 (footG l).1,.int .i64 (footG l).2.1,.int .i64 (footG l).2.2.1,.int .i64 (footG l).2.2.2.1,.int .i64 ((footG l).2.2.2.2:Int)])∧Below w.heap.size w w':=by
 obtain ⟨wa,hwa⟩:∃ wa,w.alloc (.cells #[.int .i64 0,.int .i64 0,.int .i64 0,.int .i64 0,.int .i64 0,.int .i64 0,.int .i64 0] 65)=wa:=⟨_,rfl⟩
 have hba:Below w.heap.size w wa:=by rw [← hwa];exact (Below.refl _ _).alloc (Nat.le_refl _) _
 have hg:wa.heap[w.heap.size]? = some (.cells #[.int .i64 0,.int .i64 0,.int .i64 0,.int .i64 0,.int .i64 0,.int .i64 0,.int .i64 0] 65 (0,0)):=by rw [← hwa];exact heap_alloc_new _ _
 have HO:=Lib.hid (ornone_any p l wa (h.below hba))
 have HBA:=Lib.hid hba
 have HG:=Lib.hid hg
 have HWA:=Lib.hid hwa
 have hlt:w.heap.size<wa.heap.size:=(Array.getElem?_eq_some_iff.1 hg).1
 have HLT:=Lib.hid hlt
 clear h hba hg hwa hlt
 go_enter Tryz.func29,Tryz.ntmps29
 go_wp2_with (rw [HWA.out])
 refine HO.out.mono ?_
 rintro e w1 ⟨ev,tp,rv,fp,rfl,hD,hb⟩
 have HC:=Lib.hid (fun W=>told_any (footG l).1 (footG l).2.1 (footG l).2.2.1 (footG l).2.2.2.1 ((footG l).2.2.2.2:Int) W)
 obtain ⟨pe,ce,rfl,_⟩:=hD.docs.shape
 obtain ⟨pr,cr,rfl,_⟩:=hD.rws.shape
 have f0:=seg_f2 (.slice pe l.length ce) (.pointer tp) (.slice pr (postsG (rowsG l)).length cr) (.pointer fp) (.int .i64 0) (.int .i64 0) (.int .i64 (footG l).1) (.int .i64 (footG l).2.1) (.int .i64 (footG l).2.2.1) (.int .i64 (footG l).2.2.2.1) (.int .i64 ((footG l).2.2.2.2:Int)) w1
 have HB1:=Lib.hid (HBA.out.trans (hb.mono HBA.out.size))
 have HG1:=Lib.hid ((hb.block _ HLT.out).trans HG.out)
 have HLT1:Hid (w.heap.size<w1.heap.size):=Lib.hid (Nat.lt_of_lt_of_le HLT.out hb.size)
 clear hD hb HO HBA HG HLT
 go_wp2_with fail
 refine (HC.out _).mono ?_
 rintro e w2 ⟨rfl,hb2⟩
 obtain ⟨X,hX⟩:∃ X:Array Value,#[.int .i64 0,.int .i64 0,.int .i64 (footG l).1,.int .i64 (footG l).2.1,.int .i64 (footG l).2.2.1,.int .i64 (footG l).2.2.2.1,.int .i64 ((footG l).2.2.2.2:Int)]=X:=⟨_,rfl⟩
 have hxs:X.size=7:=by rw [← hX];rfl
 have hx1:X.all (·.oneCell')=true:=by rw [← hX];simp [Value.oneCell']
 have hg2:=(hb2.block _ HLT1.out).trans HG1.out
 have hi:(Tryz.prog.info? 65).map (·.size)=some X.size:=by rw [hxs];exact infoPart
 have HG2:=Lib.hid (setRow_heap w2 w.heap.size _ X _ _ hg2)
 have HB2:=Lib.hid (below_row (g:=w.heap.size) X (HB1.out.trans (hb2.mono HB1.out.size)) (Nat.le_refl _))
 have HI:=Lib.hid hi
 have HXS:Hid ((#[.int .i64 0,.int .i64 0,.int .i64 0,.int .i64 0,.int .i64 0,.int .i64 0,.int .i64 0]:Array Value).size=X.size):=Lib.hid (by rw [hxs];rfl)
 have HX1:=Lib.hid hx1
 have HZ:=Lib.hid hg2
 have HX:=Lib.hid hX
 clear hb2 hg2 hi hxs hx1 HG1 HLT1 HB1 HC
 rw [hX]
 clear hX
 go_wp2_with (go_loud (refine wpList_store_row rfl 65 (.tmp 2) (.tmp 6) rfl w.heap.size X rfl rfl 65 #[.int .i64 0,.int .i64 0,.int .i64 0,.int .i64 0,.int .i64 0,.int .i64 0,.int .i64 0] HZ.out HI.out HXS.out HX1.out ?_))
 refine bodyPost_ret (v:=.agg X) (results_cell_row rfl _ _ w.heap.size 65 X (0,0) _ rfl HG2.out Tryz.underlying65 rfl HI.out) rfl ⟨by rw [HX.out],HB2.out⟩
end Go.Proofs.YtdijhifdjbnkfaaGreat.SG
namespace Go.Proofs.YtdijhifdjbnkfaaGreat.SG
open Go Go.RowKit Go.Proofs.YtdijhifdjbnkfaaGreat.MM
open Go.Proofs.YtdijhifdjbnkfaaGreat.EV (docC fldC fld_on doc_on)
open Go.Proofs.YtdijhifdjbnkfaaGreat.GM
theorem part_f2 (a b c d e f g:Value) (w:World):(Instr.field 65 (.agg #[a,b,c,d,e,f,g]) 2).run Tryz.prog w=.ok c w:=by kernel_rfl
theorem open_put (v:Value) (l:List SM.Doc) (w:World) (hv:BRow w v (bytesG l)) (hS:SM.isS l=true) (hsm:Small l) (hf:SM.FitS l) (h0:l≠[]):Calls Tryz.prog 12 #[v] w fun e w'=>∃ g,e=.returned (.tuple #[.pointer (some ⟨g,0,none⟩),.int .i64 0])∧SegP (fun k=>w.heap.size≤k) w' (some ⟨g,0,none⟩) l∧Below w.heap.size w w':=by
 have hd:decG (bytesG l)=some l:=decG_put hf (enc_ok hS hsm h0)
 refine (open_any v (bytesG l) w hv (openSmall_bytes hS hsm)).mono ?_
 rintro e w' ⟨p,rfl,hp,_,hb⟩
 rw [hd] at hp ⊢
 rcases hp with ⟨_,h⟩ | ⟨g,ev,tp,rv,fp,rfl,h⟩
 ·exact absurd h h0
 ·exact ⟨g,rfl,.inr ⟨g,ev,tp,rv,fp,rfl,h⟩,hb⟩
set_option maxRecDepth 100000 in
set_option maxHeartbeats 1000000 in
theorem awake_any (w:World):Calls Tryz.prog 16 #[] w fun e w'=>e=.returned (.bool true)∧Below w.heap.size w w':=by
 obtain ⟨wf,hwf⟩:∃ W,w.alloc (.cells #[.string ⟨#[109,115,103]⟩,.string ⟨#[120]⟩] 123)=W:=⟨_,rfl⟩
 have hbf:Below w.heap.size w wf:=by rw [← hwf];exact (Below.refl _ _).alloc (Nat.le_refl _) _
 have hsf:wf.heap.size=w.heap.size+1:=by rw [← hwf];simp
 have hfl:RAny fldC wf (.slice (some ⟨w.heap.size,0,none⟩) 1 1) [([109,115,103],[120])]:=by
  rw [← hwf]
  exact ROn.any (ron_lit (e:=123) (S:=fun _=>True) w [[.string ⟨#[109,115,103]⟩,.string ⟨#[120]⟩]] [([109,115,103],[120])] (by unfold maxLen;simp) (Mean.single (fld_on.2 rfl)))
 obtain ⟨w0,hw0⟩:∃ W,wf.alloc (.cells #[.int .i64 1,.int .i64 7,.slice (some ⟨w.heap.size,0,none⟩) 1 1] 59)=W:=⟨_,rfl⟩
 have hb0:Below w.heap.size w w0:=by rw [← hw0];exact hbf.alloc (by omega) _
 have hlit:RAny docC w0 (.slice (some ⟨wf.heap.size,0,none⟩) 1 1) exA:=by
  rw [← hw0]
  exact ROn.any (ron_lit (e:=59) (S:=fun _=>True) wf [[.int .i64 1,.int .i64 7,.slice (some ⟨w.heap.size,0,none⟩) 1 1]] exA (by unfold maxLen;simp [exA]) (Mean.single (doc_on.2 ⟨_,rfl,hfl⟩)))
 have HE:=Lib.hid (enc_good _ exA w0 hlit exA_is exA_small exA_fit (by unfold exA;simp))
 have HB0:=Lib.hid hb0
 have HWF:=Lib.hid hwf
 have HW0:=Lib.hid hw0
 have HSF:=Lib.hid hsf
 clear hwf hbf hfl hw0 hb0 hlit hsf
 go_enter Tryz.func16,Tryz.ntmps16
 go_wp2_with (first | (rw [HW0.out]) | (rw [HWF.out]))
 refine HE.out.mono ?_
 rintro e w1 ⟨v1,rfl,ho1,hb1⟩
 have HO:=Lib.hid (open_put v1 exA w1 (OwnB.brow ho1) exA_is exA_small exA_fit (by unfold exA;simp))
 have HB1:=Lib.hid (HB0.out.trans (hb1.mono HB0.out.size))
 obtain ⟨p1,c1,rfl,_⟩:=(OwnB.brow ho1).shape
 clear ho1 hb1 HE HB0 HWF HW0 HSF
 go_wp2_with fail
 refine HO.out.mono ?_
 rintro e w2 ⟨g,rfl,hs2,hb2⟩
 have hs2:=hs2.any
 have HB2:=Lib.hid (HB1.out.trans (hb2.mono HB1.out.size))
 obtain ⟨w3,hw3⟩:∃ W,w2.alloc (.cells #[.int .i64 4,.int .i64 0,.slice none 0 0] 59)=W:=⟨_,rfl⟩
 have hb3:Below w2.heap.size w2 w3:=by rw [← hw3];exact (Below.refl _ _).alloc (Nat.le_refl _) _
 have hlit:RAny docC w3 (.slice (some ⟨w2.heap.size,0,none⟩) 1 1) exC:=by
  rw [← hw3]
  exact ROn.any (ron_lit (e:=59) (S:=fun _=>True) w2 [[.int .i64 4,.int .i64 0,.slice none 0 0]] exC (by unfold maxLen;simp [exC]) (Mean.single (doc_on.2 ⟨_,rfl,ROn.nil_ _ _⟩)))
 have HE:=Lib.hid (enc_good _ exC w3 hlit exC_is exC_small exC_fit (by unfold exC;simp))
 have HS3:=Lib.hid (hs2.below hb3)
 have HB3:=Lib.hid (HB2.out.trans (hb3.mono HB2.out.size))
 have HW3:=Lib.hid hw3
 clear hs2 hb2 hw3 hb3 hlit HO HB1 HB2
 go_wp2_with (rw [HW3.out])
 refine HE.out.mono ?_
 rintro e w4 ⟨v4,rfl,ho4,hb4⟩
 have HO:=Lib.hid (open_put v4 exC w4 (OwnB.brow ho4) exC_is exC_small exC_fit (by unfold exC;simp))
 have HB4:=Lib.hid (HB3.out.trans (hb4.mono HB3.out.size))
 have HS4:=Lib.hid (HS3.out.below hb4)
 obtain ⟨p4,c4,rfl,_⟩:=(OwnB.brow ho4).shape
 clear ho4 hb4 HE HB3 HW3 HS3
 go_wp2_with fail
 refine HO.out.mono ?_
 rintro e w5 ⟨g',rfl,ht5,hb5⟩
 have HT5:=Lib.hid ht5.any
 have HS5:=Lib.hid (HS4.out.below hb5)
 have HB5:=Lib.hid (HB4.out.trans (hb5.mono HB4.out.size))
 have HP:=Lib.hid (posts_any2 (some ⟨g,0,none⟩) exA [109,115,103,58,120] w5 HS5.out exA_is exA_small)
 rw [exA_posts] at HP
 clear ht5 hb5 HO HS4 HB4
 go_wp2_with fail
 refine HP.out.mono ?_
 rintro e w6 ⟨v6,rfl,hp6,hb6⟩
 have HS6:=Lib.hid (HS5.out.below hb6)
 have HT6:=Lib.hid (HT5.out.below hb6)
 have HB6:=Lib.hid (HB5.out.trans (hb6.mono HB5.out.size))
 have HP6:=Lib.hid hp6
 obtain ⟨p6,c6,rfl,_⟩:=PW.POn.shape hp6
 have HE:=Lib.hid (enc_odd (.slice none 0 0) [] w6 (ROn.nil_ _ _) (.inr rfl))
 clear hp6 hb6 HP HS5 HT5 HB5
 go_wp2_with fail
 refine HE.out.mono ?_
 rintro e w7 ⟨v7,rfl,ho7,hb7⟩
 have HS7:=Lib.hid (HS6.out.below hb7)
 have HT7:=Lib.hid (HT6.out.below hb7)
 have HB7:=Lib.hid (HB6.out.trans (hb7.mono HB6.out.size))
 have hp7:=PW.PRow.below HP6.out hb7
 obtain ⟨b7,o7,x7,rfl,_,_,c0,_,_⟩:=PW.POn.at_ hp7 (k:=0) (by simp)
 rw [Nat.zero_mul,Nat.add_zero] at c0
 have c0:w7.cell? ⟨b7,o7,none⟩=some (.int .i64 0):=c0
 obtain ⟨p7,c7,rfl,_⟩:=(OwnB.brow ho7).shape
 have HC:=Lib.hid (part_any (some ⟨g,0,none⟩) exA w7 HS7.out)
 rw [exA_foot] at HC
 dsimp only at HC
 clear ho7 hb7 hp7 HE HS6 HT6 HB6 HP6
 go_wp2_with fail
 refine HC.out.mono ?_
 rintro e w8 ⟨rfl,hb8⟩
 have HS8:=Lib.hid (HS7.out.below hb8)
 have HT8:=Lib.hid (HT7.out.below hb8)
 have HB8:=Lib.hid (HB7.out.trans (hb8.mono HB7.out.size))
 have f2:=part_f2 (.int .i64 0) (.int .i64 0) (.int .i64 7) (.int .i64 7) (.int .i64 1) (.int .i64 1) (.int .i64 1) w8
 have HC:=Lib.hid (len_any (some ⟨g,0,none⟩) exA w8 HS8.out)
 clear hb8 c0 HS7 HT7 HB7
 go_wp2_with fail
 refine HC.out.mono ?_
 rintro e w9 ⟨rfl,hb9⟩
 have HS9:=Lib.hid (HS8.out.below hb9)
 have HT9:=Lib.hid (HT8.out.below hb9)
 have HB9:=Lib.hid (HB8.out.trans (hb9.mono HB8.out.size))
 have HC:=Lib.hid (may_any2 (some ⟨g,0,none⟩) exA [109,115,103,58,120] w9 HS9.out (fun _=>by simp))
 rw [exA_may] at HC
 have hl1:(exA.length:Int)=1:=rfl
 rw [hl1]
 clear hb9 f2 HS8 HT8 HB8
 go_wp2_with fail
 refine HC.out.mono ?_
 rintro e w10 ⟨rfl,hb10⟩
 have HT10:=Lib.hid (HT9.out.below hb10)
 have HB10:=Lib.hid (HB9.out.trans (hb10.mono HB9.out.size))
 have HC:=Lib.hid (terms_any2 (some ⟨g',0,none⟩) exC w10 HT10.out)
 rw [exC_rows] at HC
 clear hb10 HS9 HT9 HB9
 go_wp2_with fail
 refine HC.out.mono ?_
 rintro e w11 ⟨rfl,hb11⟩
 have HT11:=Lib.hid (HT10.out.below hb11)
 have HB11:=Lib.hid (HB10.out.trans (hb11.mono HB10.out.size))
 have HC:=Lib.hid (may_any2 (some ⟨g',0,none⟩) exC [109,115,103,58,120] w11 HT11.out (fun _=>by simp))
 rw [exC_may] at HC
 clear hb11 HT10 HB10
 go_wp2_with fail
 refine HC.out.mono ?_
 rintro e w12 ⟨rfl,hb12⟩
 have HB12:=Lib.hid (HB11.out.trans (hb12.mono HB11.out.size))
 clear hb12 HT11 HB11 HC
 go_wp2_with fail
 go_ret
 exact ⟨rfl,HB12.out⟩
end Go.Proofs.YtdijhifdjbnkfaaGreat.SG
namespace Go.Proofs.YtdijhifdjbnkfaaGreat.SG
open Go Go.RowKit Go.Proofs.YtdijhifdjbnkfaaGreat.MM
open Go.Proofs.YtdijhifdjbnkfaaGreat.EV (docC fldC)
open Go.Proofs.YtdijhifdjbnkfaaGreat.GM
theorem below3 {a w w1:World} (h:Below a.heap.size a w) (k:Below w.heap.size w w1):Below a.heap.size a w1:=h.trans (k.mono h.size)
def Held (w:World) (e:Ending) (w':World):Prop:=e=.returned (.bool true)∧Below w.heap.size w w'
end Go.Proofs.YtdijhifdjbnkfaaGreat.SG
namespace Go.Proofs.YtdijhifdjbnkfaaGreat.SG
open Go Go.RowKit Go.Proofs.YtdijhifdjbnkfaaGreat.MM
open Go.Proofs.YtdijhifdjbnkfaaGreat.EV (docC fldC samedocs_any)
open Go.Proofs.YtdijhifdjbnkfaaGreat.SM (Doc isS isS_iff isS_at FitS)
open Go.Proofs.YtdijhifdjbnkfaaGreat.GM
theorem wide_is {l:List Doc} (h:isS l=true):Wide l:=fun d hd=>by
 obtain ⟨k,hk,rfl⟩:=List.mem_iff_getElem.1 hd
 have:=(EM.checkE_ok.1 (isS_at h hk).2.2).1
 have h2:l[k].2.2.length≤16:=this
 omega
theorem dec_good {b:List UInt8} {r:List Doc} (h:decG b=some r) (hb:b.length≤100000):isS r=true∧r≠[]∧Small r∧FitS r∧bytesG r=b:=by
 obtain ⟨h1,hf⟩:=decG_back h
 obtain ⟨hS,hne,_,_,_,he⟩:=encG_ok h1
 exact ⟨hS,hne,fun _=>Nat.le_trans (six_len (six_dec h)) hb,hf,he.symm⟩
set_option maxRecDepth 100000 in
set_option maxHeartbeats 4000000 in
theorem back_call (u v:Value) (l:List Doc) (b:List UInt8) (w:World) (hu:RAny docC w u l) (hv:BRow w v b) (hf:FitS l):Calls Tryz.prog 5 #[u,v] w (Held w):=by
 have HF1:=Lib.hid (few_any u l w hu)
 have HV:=Lib.hid hv
 have HFT:=Lib.hid (fewG_fit hf)
 have HSM:=Lib.hid (fewG_small l)
 have HN:=Lib.hid (fewG_len l)
 obtain ⟨pu,cu,rfl,_⟩:=hu.shape
 obtain ⟨pv,cv,rfl,_⟩:=hv.shape
 obtain ⟨L,hL⟩:∃ L,fewG l=L:=⟨_,rfl⟩
 rw [hL] at HF1 HFT HSM HN
 clear hu hv hf hL
 go_enter Tryz.func5,Tryz.ntmps5
 go_wp2_with fail
 refine HF1.out.mono ?_
 rintro e w1 ⟨u1,rfl,ho1,hb1⟩
 have HU1:=Lib.hid ho1.any
 have HB1:=Lib.hid hb1
 have HC:=Lib.hid (cut_any w1.heap.size _ b w1 (BIn.mono (BIn.below HV.out hb1) hb1.size))
 obtain ⟨p1,c1,rfl,_⟩:=ho1.any.shape
 clear ho1 hb1 HF1 HV
 go_wp2_with fail
 refine HC.out.mono ?_
 rintro e w2 ⟨⟨u2,rfl,hb2⟩,rfl⟩
 obtain ⟨C,hC⟩:∃ C,b.take 9000=C:=⟨_,rfl⟩
 have HCL:Hid (C.length≤9000):=Lib.hid (by rw [← hC,List.length_take];omega)
 rw [hC] at hb2
 have HB2:=Lib.hid hb2
 have HE:=Lib.hid (enc_any _ L w1 HU1.out HSM.out HFT.out)
 obtain ⟨p2,c2,rfl,_⟩:=hb2.shape
 clear hb2 hC HC
 go_wp2_with fail
 refine HE.out.mono ?_
 rintro e w3 ⟨v3,rfl,ho3,hb3⟩
 have HB3:=Lib.hid (below3 HB1.out hb3)
 have HR3:=Lib.hid (BRow.below (show BRow w1 _ C from HB2.out) hb3)
 have HU3:=Lib.hid (HU1.out.below hb3)
 have hg:=encG_small HSM.out
 by_cases hok:isS L=true∧L≠[]
 ·rw [if_pos hok] at hg
  rw [hg] at ho3 ⊢
  have HOK:=Lib.hid hok
  have HW:=Lib.hid (wide_is hok.1)
  have HP:=Lib.hid (open_put v3 L w3 (OwnB.brow ho3) hok.1 HSM.out HFT.out hok.2)
  obtain ⟨p3,c3,rfl,_⟩:=(OwnB.brow ho3).shape
  dsimp only
  clear ho3 hb3 hg hok HE HB1 HB2 HU1
  go_wp2_with fail
  refine HP.out.mono ?_
  rintro e w4 ⟨g,rfl,hs4,hb4⟩
  have hl9:L.length≤65536:=by have:=HN.out;omega
  have HD:=Lib.hid (docs_any _ L w4 hs4.any HW.out hl9)
  have HB4:=Lib.hid (below3 HB3.out hb4)
  have HR4:=Lib.hid (BRow.below HR3.out hb4)
  have HU4:=Lib.hid (HU3.out.below hb4)
  clear hs4 hb4 hl9 HP HB3 HR3 HU3
  go_wp2_with fail
  refine HD.out.mono ?_
  rintro e w5 ⟨⟨u5,rfl,hd5⟩,hb5⟩
  have hsd:=samedocs_any u5 _ L L w5 hd5 (HU4.out.below hb5)
  rw [decide_eq_true rfl] at hsd
  have HSD:=Lib.hid hsd
  have HB5:=Lib.hid (below3 HB4.out hb5)
  have HR5:=Lib.hid (BRow.below HR4.out hb5)
  obtain ⟨p5,c5,rfl,_⟩:=hd5.shape
  clear hd5 hb5 hsd HD HB4 HR4 HU4
  go_wp2_with fail
  refine HSD.out.mono ?_
  rintro e w6 ⟨rfl,hb6⟩
  have HB7:=Lib.hid (below3 HB5.out hb6)
  have HR7:=Lib.hid (BRow.below HR5.out hb6)
  clear hb6 HSD HB5 HR5
  have HO:=Lib.hid (open_any _ C w6 HR7.out (openSmall_short (by have:=HCL.out;omega)))
  go_wp2_with fail
  refine HO.out.mono ?_
  rintro e w8 ⟨p8,rfl,hp8,hn8,hb8⟩
  have HB8:=Lib.hid (below3 HB7.out hb8)
  have HR8:=Lib.hid (BRow.below HR7.out hb8)
  cases hd:decG C with
  | none =>
    obtain rfl:=hn8 hd
    have HA:=Lib.hid (awake_any w8)
    clear hp8 hn8 hb8 hd HO HB7 HR7
    go_wp2_with fail
    refine HA.out.mono ?_
    rintro e w9 ⟨rfl,hb9⟩
    have HQ:=Lib.hid (below3 HB8.out hb9)
    clear hb9 HA HB8
    go_wp2_with fail
    go_ret
    exact ⟨rfl,HQ.out⟩
  | some r =>
    obtain ⟨hS,hne,hsm,hfit,hby⟩:=dec_good hd (by have:=HCL.out;omega)
    rw [hd] at hp8
    have HD:=Lib.hid (docs_any p8 r w8 hp8.any (wide_is hS) (isS_iff.1 hS).1)
    have HEN:=Lib.hid (fun W x (h:RAny docC W x r)=>enc_good x r W h hS hsm hfit hne)
    rw [hby] at HEN
    clear hp8 hn8 hb8 hd hS hne hsm hfit hby HO HB7 HR7
    go_wp2_with fail
    refine HD.out.mono ?_
    rintro e w9 ⟨⟨u9,rfl,hd9⟩,hb9⟩
    have HB9:=Lib.hid (below3 HB8.out hb9)
    have HR9:=Lib.hid (BRow.below HR8.out hb9)
    have HE9:=Lib.hid (HEN.out w9 u9 hd9)
    obtain ⟨p9,c9,rfl,_⟩:=hd9.shape
    clear hd9 hb9 HD HB8 HR8 HEN
    go_wp2_with fail
    refine HE9.out.mono ?_
    rintro e w10 ⟨u10,rfl,ho10,hb10⟩
    have h1:=BIn.conv (OwnB.brow ho10)
    have h2:=BIn.conv (BRow.below HR9.out hb10)
    have HB10:=Lib.hid (below3 HB9.out hb10)
    have HA:=Lib.hid (awake_any w10)
    obtain ⟨p10,c10,rfl,_⟩:=(OwnB.brow ho10).shape
    clear ho10 hb10 HE9 HB9 HR9
    go_wp2_with fail
    refine HA.out.mono ?_
    rintro e w11 ⟨rfl,hb11⟩
    have HQ:=Lib.hid (below3 HB10.out hb11)
    clear hb11 HA HB10 h1 h2
    go_wp2_with fail
    go_ret
    exact ⟨rfl,HQ.out⟩
 ·rw [if_neg hok] at hg
  rw [hg] at ho3 ⊢
  have HB7:=HB3
  have HR7:=HR3
  obtain ⟨p3,c3,rfl,_⟩:=(OwnB.brow ho3).shape
  dsimp only
  clear ho3 hb3 hg hok HE HB1 HB2 HU1 HU3 HB3 HR3
  have HO:=Lib.hid (open_any _ C w3 HR7.out (openSmall_short (by have:=HCL.out;omega)))
  go_wp2_with fail
  refine HO.out.mono ?_
  rintro e w8 ⟨p8,rfl,hp8,hn8,hb8⟩
  have HB8:=Lib.hid (below3 HB7.out hb8)
  have HR8:=Lib.hid (BRow.below HR7.out hb8)
  cases hd:decG C with
  | none =>
    obtain rfl:=hn8 hd
    have HA:=Lib.hid (awake_any w8)
    clear hp8 hn8 hb8 hd HO HB7 HR7
    go_wp2_with fail
    refine HA.out.mono ?_
    rintro e w9 ⟨rfl,hb9⟩
    have HQ:=Lib.hid (below3 HB8.out hb9)
    clear hb9 HA HB8
    go_wp2_with fail
    go_ret
    exact ⟨rfl,HQ.out⟩
  | some r =>
    obtain ⟨hS,hne,hsm,hfit,hby⟩:=dec_good hd (by have:=HCL.out;omega)
    rw [hd] at hp8
    have HD:=Lib.hid (docs_any p8 r w8 hp8.any (wide_is hS) (isS_iff.1 hS).1)
    have HEN:=Lib.hid (fun W x (h:RAny docC W x r)=>enc_good x r W h hS hsm hfit hne)
    rw [hby] at HEN
    clear hp8 hn8 hb8 hd hS hne hsm hfit hby HO HB7 HR7
    go_wp2_with fail
    refine HD.out.mono ?_
    rintro e w9 ⟨⟨u9,rfl,hd9⟩,hb9⟩
    have HB9:=Lib.hid (below3 HB8.out hb9)
    have HR9:=Lib.hid (BRow.below HR8.out hb9)
    have HE9:=Lib.hid (HEN.out w9 u9 hd9)
    obtain ⟨p9,c9,rfl,_⟩:=hd9.shape
    clear hd9 hb9 HD HB8 HR8 HEN
    go_wp2_with fail
    refine HE9.out.mono ?_
    rintro e w10 ⟨u10,rfl,ho10,hb10⟩
    have h1:=BIn.conv (OwnB.brow ho10)
    have h2:=BIn.conv (BRow.below HR9.out hb10)
    have HB10:=Lib.hid (below3 HB9.out hb10)
    have HA:=Lib.hid (awake_any w10)
    obtain ⟨p10,c10,rfl,_⟩:=(OwnB.brow ho10).shape
    clear ho10 hb10 HE9 HB9 HR9
    go_wp2_with fail
    refine HA.out.mono ?_
    rintro e w11 ⟨rfl,hb11⟩
    have HQ:=Lib.hid (below3 HB10.out hb11)
    clear hb11 HA HB10 h1 h2
    go_wp2_with fail
    go_ret
    exact ⟨rfl,HQ.out⟩
theorem back_walk (u v:Value) (l:List Doc) (b:List UInt8) (w:World) (hu:RAny docC w u l) (hv:BRow w v b) (hf:FitS l):Calls Tryz.prog 5 #[u,v] w (Held w):=back_call u v l b w hu hv hf
end Go.Proofs.YtdijhifdjbnkfaaGreat.SG
