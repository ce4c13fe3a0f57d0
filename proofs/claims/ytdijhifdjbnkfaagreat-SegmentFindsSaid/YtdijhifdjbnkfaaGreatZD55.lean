import Derived.Test.YtdijhifdjbnkfaaGreatZD13
import Derived.Test.YtdijhifdjbnkfaaGreatZD43
import Derived.Test.YtdijhifdjbnkfaaGreatZD45
import Derived.Test.YtdijhifdjbnkfaaGreatZD51
import Derived.Test.YtdijhifdjbnkfaaGreatZD52
import Derived.Test.YtdijhifdjbnkfaaGreatZD54
set_option maxRecDepth 100000
set_option maxHeartbeats 8000000
set_option linter.unusedVariables false
set_option linter.unusedSimpArgs false
namespace Go.Proofs.YtdijhifdjbnkfaaGreat.MM
open Go Go.RowKit Go.ChangeShapes Go.WideShapes
def Zbj (P:Program) {α:Type} (C:Codec α) (G:α→Prop) (t:TypeId):Prop :=
 ∀ {H:Type} {enc:TypeId×Value→H} {W:World} {base n:Nat} {cs:List Value} {x:DataW H×List MemPlace},DataW.trod enc P W base (fun _=>true) true n t cs=some x→∃ a,C.on (fun _=>True) W cs a∧G a
def FitI (z:Int):Prop := -9223372036854775808≤z∧z≤9223372036854775807
theorem ZsU {P:Program} {t:TypeId} (ht:P.underlying t=some (.int .i64)):Zbj P cInt FitI t:=fun h=>by
 obtain ⟨z,rfl,_,hw⟩:=DataW.trod_int ht h
 refine ⟨z,rfl,?_⟩
 simp only [Lit.wf,Bool.and_eq_true,decide_eq_true_eq] at hw
 have h1:IntKind.i64.min = -9223372036854775808:=by decide
 have h2:IntKind.i64.max=9223372036854775807:=by decide
 rw [h1,h2] at hw
 exact hw
theorem ZsX {P:Program} {t:TypeId} (ht:P.underlying t=some .string):Zbj P cStr (fun l=>l.length≤maxLen) t:=fun h=>by
 obtain ⟨s,rfl,_,hs⟩:=DataW.trod_string ht h
 exact ⟨s.data.toList,rfl,by simpa using hs⟩
theorem ZsW {P:Program} {α:Type} [Inhabited α] {C:Codec α} {G:α→Prop} {T e:TypeId} (ht:P.underlying T=some (.slice e)) (hc:P.cellsOf e=C.size) (he:Zbj P C G e):Zbj P (cRow C) (fun l=>(∀ a∈l,G a)∧l.length≤maxLen) T:=fun {H enc W base n cs x} h=>by
 rcases Deep.open_slice ht h with ⟨rfl,_⟩ | ⟨a,len,cap,m,k,D,Pl,rfl,_,hl,hm,hmm,_,hx⟩
 ·exact ⟨[],⟨_,rfl,ROn.nil_ _ _⟩,by simp,by simp [maxLen]⟩
 ·simp only [if_true] at hmm
  subst hmm
  have each:∀ i,i<len→∃ q:α×List Value,W.cells? base (a.add (i*C.size)) C.size=some q.2∧C.on (fun _=>True) W q.2 q.1∧G q.1:=fun i hi=>by
   obtain ⟨cs',h1,h2⟩:=hx i (by omega)
   obtain ⟨d,h3,h4⟩:=he h2
   rw [hc] at h1
   exact ⟨(d,cs'),h1,h3,h4⟩
  obtain ⟨q,hq⟩:=Deep.choose_lt each
  refine ⟨(List.range len).map fun i=>(q i).1,⟨_,rfl,some a,m,(List.range len).map fun i=>(q i).2,by simp,by simpa using hl,hm,(fun h=>by cases h),⟨by simp,fun i hi hi' => ?_⟩,?_⟩,fun d hd => ?_,by simp;omega⟩
  ·have hi2:i<len:=by simpa using hi
   simp only [List.getElem_map,List.getElem_range]
   exact (hq i hi2).2.1
  ·by_cases h0:len=0
   ·left;simp [h0]
   ·right
    have hlens:∀ r∈(List.range len).map (fun i=>(q i).2),r.length=C.size:=fun r hr=>by
     obtain ⟨i,hi,rfl⟩:=List.mem_map.1 hr
     exact C.len (hq i (List.mem_range.1 hi)).2.1
    have cell:∀ i,i<len→∀ j u,(q i).2[j]? = some u→W.cell? ((a.add (i*C.size)).add j)=some u:=fun i hi j u hj=>by
     obtain ⟨_,hlen,hcell⟩:=World.cells?_some (hq i hi).1
     have hjl:=(List.getElem?_eq_some_iff.1 hj).1
     have:=hcell j (by omega)
     rw [this]
     simpa using hj
    have hp:=C.pos
    have hl0:=C.len (hq 0 (by omega)).2.1
    obtain ⟨u0,hu0⟩:∃ u,(q 0).2[0]? = some u:=⟨_,List.getElem?_eq_getElem (by omega)⟩
    have c0:=cell 0 (by omega) 0 u0 hu0
    obtain ⟨b,off,spot⟩:=a
    have hspot:spot=none:=by
     have:=World.cell?_spot c0
     simpa [Addr.add] using this
    subst hspot
    refine ⟨b,off,rfl,?_,trivial,fun j u hj => ?_⟩
    ·rw [Zb5,Zb5] at c0
     by_cases hb:b<W.heap.size
     ·exact hb
     ·simp [World.cell?,Array.getElem?_eq_none (Nat.le_of_not_lt hb)] at c0
    ·have hjl:=(List.getElem?_eq_some_iff.1 hj).1
     rw [Zi0 hlens,List.length_map,List.length_range] at hjl
     have hi:j / C.size<len:=(Nat.div_lt_iff_lt_mul hp).2 hjl
     have hmod:=Nat.mod_lt j hp
     have hdm:=Nat.div_add_mod j C.size
     have hli:=C.len (hq _ hi).2.1
     obtain ⟨u',hu'⟩:∃ u,(q (j / C.size)).2[j%C.size]? = some u:=⟨_,List.getElem?_eq_getElem (by omega)⟩
     have hf:=ZiZ hlens (j / C.size) (by simpa using hi) (j%C.size) u' (by simpa using hu')
     have e:j / C.size*C.size+j%C.size=j:=by rw [Nat.mul_comm];exact hdm
     rw [e,hj] at hf
     obtain rfl:=Option.some.inj hf
     have:=cell _ hi _ _ hu'
     rw [Zb5,Zb5,Nat.add_assoc,e] at this
     exact this
  ·obtain ⟨i,hi,rfl⟩:=List.mem_map.1 hd
   exact (hq i (List.mem_range.1 hi)).2.2
theorem ZsV {P:Program} {α β:Type} {C:Codec α} {D:Codec β} {G:α→Prop} {F:β→Prop} {t:TypeId} {f0 f1:Field} (ht:P.underlying t=some (.struct #[f0,f1]))
  (ho0:f0.offset=0) (ho1:f1.offset=C.size) (hc0:P.cellsOf f0.type=C.size) (hc1:P.cellsOf f1.type=D.size) (hc:P.cellsOf t=C.size+D.size) (h0:Zbj P C G f0.type) (h1:Zbj P D F f1.type) :
  Zbj P (Zek C D) (fun p=>G p.1∧F p.2) t:=fun {H enc W base n cs x} h=>by
 obtain ⟨y0,y1,k,_,hl,g0,g1⟩:=trod_struct2 ht h
 obtain ⟨a,a1,a2⟩:=h0 g0
 obtain ⟨b,b1,b2⟩:=h1 g1
 rw [ho0,hc0,List.drop_zero] at a1
 rw [ho1,hc1] at b1
 rw [hc] at hl
 have e:(cs.drop C.size).take D.size=cs.drop C.size:=List.take_of_length_le (by rw [List.length_drop];omega)
 rw [e] at b1
 exact ⟨(a,b),⟨cs.take C.size,cs.drop C.size,(List.take_append_drop _ _).symm,a1,b1⟩,a2,b2⟩
theorem Zcy {P:Program} {α:Type} {C:Codec α} {G:List α→Prop} {t:TypeId} {H:Type} {enc:TypeId×Value→H} {W:World} {base:Nat} {a:Option Addr} {len cap:Nat} {d:DataW H} {p:List MemPlace} (R:Zbj P (cRow C) G t)
  (h:∃ fuel,DataW.trod enc P W base (fun _=>true) true fuel t (Value.slice a len cap).cells.toList=some (d,p)):∃ l,RAny C W (.slice a len cap) l∧G l:=by
 obtain ⟨fuel,hf⟩:=h
 obtain ⟨l,⟨v,hv,hr⟩,hG⟩:=R hf
 have e:(Value.slice a len cap).cells.toList=[.slice a len cap]:=rfl
 rw [e] at hv
 obtain rfl:Value.slice a len cap=v:=by simpa using hv
 exact ⟨l,hr,hG⟩
end Go.Proofs.YtdijhifdjbnkfaaGreat.MM
namespace Go.Proofs.YtdijhifdjbnkfaaGreat.SG
open Go Go.RowKit MM
open EV (docC fldC)
open SM (Doc isS FitS decS)
open DT (Zaw Zav)
open DM (encD)
open SR (Zax)
open GM (Six Zba Zgq Zgr Zgt ZpT ZpR ZvS Zvz encG ZgQ ZgS decG ZhC Zrw Zuv Zjt Ziw Zix Zv7)
theorem Zvx {S:Nat→Prop} {w:World} {g off n cap:Nat} {L:List (List UInt8)} (h:ROn (cRow cU8) S w (.slice (some ⟨g,off,none⟩) n cap) L) (k:Nat) (hk:k<L.length):∃ u,BOn S w u L[k]∧w.cell? ⟨g,off+k,none⟩=some u:=by
 obtain ⟨b,o,vs,hp,_,_,⟨u,hu,hon⟩,hc⟩:=h.at_ hk
 simp only [Option.some.injEq,Addr.mk.injEq,and_true] at hp
 obtain ⟨rfl,rfl⟩:=hp
 refine ⟨u,hon,?_⟩
 have:=hc 0 u (by rw [hu];rfl)
 rwa [show (cRow cU8).size=1 from rfl,Nat.mul_one,Nat.add_zero] at this
theorem Zuc {S:Nat→Prop} {w w':World} {v:Value} {L:List (List UInt8)} (h:ROn (cRow cU8) S w v L) (hb:Below w.heap.size w w'):ROn (cRow cU8) S w' v L:=h.keep (ZmT S hb) fun _ _ h=>h
theorem Zvy {w W:World} {g k:Nat} {u:Value} (h:w.cell? ⟨g,k,none⟩=some u) (hb:Below w.heap.size w W):W.cell? ⟨g,k,none⟩=some u:=by
 have hlt:g<w.heap.size:=by
  cases hh:w.heap[g]? with
  | none=>simp [World.cell?,hh] at h
  | some x=>exact (Array.getElem?_eq_some_iff.1 hh).1
 rw [hb.cell hlt]
 exact h
theorem ZgC {B:Nat} {w:World} {v:Value} {l:List Doc} (h:Zax B w v l):ROn docC (fun k=>B≤k) w v l:=by
 obtain ⟨S,h1,h2⟩:=h
 exact h2.ron (fun g hg=>(h2.cells hg).1) fun b _ hb=>(h1 b hb).1
def Za8 (b:List UInt8) (w:World) (e:Ending) (w':World):Prop :=
 ∃ p,e=.returned (.tuple #[.pointer p,.int .i64 (if (decG b).isSome then 0 else 130)])∧SegP (fun k=>w.heap.size≤k) w' p ((decG b).getD [])∧(decG b=none→p=none)∧Below w.heap.size w w'
theorem ZpK {b:List UInt8} {w w':World} (h:decG b=none) (hb:Below w.heap.size w w'):Za8 b w (.returned (.tuple #[.pointer none,.int .i64 130])) w':=by
 refine ⟨none,by rw [h];rfl,.inl ⟨rfl,by rw [h];rfl⟩,fun _=>rfl,hb⟩
theorem ZpO (v:Value) (b:List UInt8) (w:World) (hr:BRow w v b) (hs:Zba b):Calls Tryz.prog 12 #[v] w (Za8 b w):=by
 have HC:=Lib.hid (ZvL v b w hr)
 obtain ⟨pv,cv,hpv,_⟩:=hr.shape
 have HR:=Lib.hid hr
 rw [hpv] at HR HC ⊢
 clear hr hpv
 go_enter Tryz.func12,Tryz.ntmps12
 go_wp2_with fail
 refine HC.out.mono ?_
 rintro e w1 ⟨hb1,⟨vs,rfl,hone,hno⟩ | ⟨vs,L,rfl,h6,hrow⟩⟩
 ·have HQ:=Lib.hid (ZpK (ZvS hno) hb1)
  clear hb1 hno HC HR
  go_wp2_with fail
  go_ret2
  exact HQ.out
 ·have hl6:=h6.six
  obtain ⟨g,off,cap,hp0⟩:∃ (g off cap:Nat),vs=.slice (some ⟨g,off,none⟩) 6 cap:=by
   obtain ⟨p,cap,rfl,_⟩:=hrow.shape
   obtain ⟨b',o',vs',rfl,_⟩:=hrow.at_ (k:=0) (by omega)
   exact ⟨b',o',cap,by rw [hl6]⟩
  subst hp0
  obtain ⟨u0,hu0,c0⟩:=Zvx hrow 0 (by omega)
  rw [Nat.add_zero] at c0
  have hhead:L[0]=L.headD []:=by
   cases L with
   | nil=>simp at hl6
   | cons a t=>rfl
  rw [hhead] at hu0
  have hsm:=hs.2 L h6
  have HD:=Lib.hid (SR.Zgc u0 _ w1 hu0.brow (by omega))
  obtain ⟨pu0,cu0,rfl,_⟩:=hu0.shape
  obtain ⟨X,hX⟩:∃ X,L.headD []=X:=⟨_,rfl⟩
  rw [hX] at HD c0
  have HX:=Lib.hid hX
  have H6:=Lib.hid h6
  have HROW:=Lib.hid hrow
  have HB1:=Lib.hid hb1
  have HSM:=Lib.hid hsm
  clear hb1 hrow h6 hu0 hX hsm HC hhead
  go_wp2_with fail
  refine HD.out.mono ?_
  rintro e w2 ⟨ud,rfl,hdo,hb2⟩
  have hdoc:(decS X).getD []=Zgq L:=by rw [← HX.out];rfl
  rw [hdoc] at hdo
  have HE:=Lib.hid (Zg1 ud (Zgq L) w2 hdo.any (Zgt HSM.out) (Zgr L))
  obtain ⟨l,hl⟩:∃ l,Zgq L=l:=⟨_,rfl⟩
  have HL:=Lib.hid hl
  rw [hl] at hdo HE
  obtain ⟨pd,cd,rfl,_⟩:=hdo.any.shape
  have HDO:=Lib.hid (hdo.base HB1.out.size)
  have HB2:=Lib.hid (HB1.out.trans (hb2.mono HB1.out.size))
  have HROW2:=Lib.hid (Zuc HROW.out hb2)
  clear hdo hb2 hl HD hdoc HROW c0
  go_wp2_with fail
  refine HE.out.mono ?_
  rintro e w3 ⟨ue,rfl,heo,hb3⟩
  have HB3:=Lib.hid (HB2.out.trans (hb3.mono HB2.out.size))
  have HROW3:=Lib.hid (Zuc HROW2.out hb3)
  have HDO3:=Lib.hid (HDO.out.keep (ZmT (fun _=>True) hb3) fun _ _ _=>trivial)
  have HR3:=Lib.hid (BRow.below HR.out HB3.out)
  have hcs:=ZgQ l
  obtain ⟨⟨x,z⟩,hxz⟩:∃ r,encG l=r:=⟨_,rfl⟩
  rw [hxz] at heo hcs ⊢
  dsimp only at heo ⊢
  have HXZ:=Lib.hid hxz
  have HEO:=Lib.hid (OwnB.brow heo)
  obtain ⟨px,cx,rfl,_⟩:=HEO.out.shape
  clear heo hb3 HE HDO HROW2 HB2 HB1 HR hxz
  by_cases hz:z=0
  ·subst hz
   have HEQ:=Lib.hid (ZhT _ _ x b w3 HEO.out HR3.out)
   by_cases hxb:x=b
   ·rw [decide_eq_true hxb] at HEQ
    subst hxb
    clear hcs
    have hyes:=ZpT H6.out (by rw [HL.out];exact HXZ.out)
    rw [HL.out] at hyes
    obtain ⟨hdg,hLs⟩:=hyes
    have hS:=(ZgS HXZ.out).1
    have hne:=(ZgS HXZ.out).2.1
    have hsm:=Zgt HSM.out
    rw [HL.out] at hsm
    have hz:=Zv7 hS hsm
    subst hLs
    obtain ⟨es,hes⟩:∃ es,ZhC 0 (Zuv l)=es:=⟨_,rfl⟩
    obtain ⟨ps,hps⟩:∃ ps,Zrw (Zuv l)=ps:=⟨_,rfl⟩
    obtain ⟨fs,hfs⟩:∃ fs,Ziw (Zuv l)=fs:=⟨_,rfl⟩
    obtain ⟨u3,hu3,c3⟩:=Zvx HROW3.out 3 (show 3<6 by omega)
    have hu3:BOn (fun k=>w.heap.size≤k) w3 u3 (encD es):=by rw [← hes];exact hu3
    have hlen3:(encD es).length≤1000000000000:=by
     have:=hz.sects (encD (ZhC 0 (Zuv l))) (by unfold Zvz;simp)
     rw [hes] at this
     omega
    have hdd:DM.decD (encD es)=some es:=DM.Zf4 (by rw [← hes];exact hz.are)
    have hlo:8≤fs.length∧fs.length≤131072:=by rw [← hfs,Zix];exact BM.Zt3 _
    have HDI:=Lib.hid (DT.ZpO u3 (encD es) w3 hu3.brow hlen3)
    rw [hdd] at HDI
    obtain ⟨pu3,cu3,rfl,_⟩:=hu3.shape
    have HES:=Lib.hid hes
    have HES0:=Lib.hid hes
    have HPS0:=Lib.hid hps
    have HFS0:=Lib.hid hfs
    have HPS:=Lib.hid hps
    have HFS:=Lib.hid hfs
    have HDG:=Lib.hid hdg
    have HNE:=Lib.hid hne
    have HLO:=Lib.hid hlo
    obtain ⟨n3,hn3⟩:∃ n,(encD es).length=n:=⟨_,rfl⟩
    rw [hn3] at HDI c3
    clear hsm hz hes hps hfs hdg hne hlo hdd hu3 hlen3 HEO HR3 HXZ HX HSM hn3
    go_wp2_with fail
    refine HEQ.out.mono ?_
    rintro e w4 ⟨rfl,rfl⟩
    clear HEQ
    go_wp2_with fail
    refine HDI.out.mono ?_
    rintro e w5 ⟨pt,rfl,_,hpt,hb5⟩
    obtain ⟨gt,rfl,hdt⟩:=hpt es rfl
    have HDT:=Lib.hid hdt
    have HROW5:=Lib.hid (Zuc HROW3.out hb5)
    have HDO5:=Lib.hid (HDO3.out.keep (ZmT (fun _=>True) hb5) fun _ _ _=>trivial)
    have HB5:=Lib.hid (HB3.out.trans (hb5.mono HB3.out.size))
    obtain ⟨u4,hu4,c4⟩:=Zvx HROW5.out 4 (show 4<6 by omega)
    have hu4:BOn (fun k=>w.heap.size≤k) w5 u4 fs:=by rw [← HFS.out];exact hu4
    have HFR:=Lib.hid (BL.ZfS u4 fs w5 hu4.brow HLO.out.1 HLO.out.2)
    obtain ⟨pu4,cu4,rfl,_⟩:=hu4.shape
    clear hdt hb5 HDI hpt HROW3 HDO3 hu4 c3
    go_wp2_with fail
    refine HFR.out.mono ?_
    rintro e w6 ⟨gf,bf,cf,rfl,hft,hgf,hbf,hb6⟩
    have HB6:=Lib.hid (HB5.out.trans (hb6.mono HB5.out.size))
    obtain ⟨wd,hwd⟩:∃ wd,w6.drew=wd:=⟨_,rfl⟩
    have hbd:Below w6.heap.size w6 wd:=by rw [← hwd];exact (Below.refl _ _).drew
    have HWD:=Lib.hid hwd
    have hb6d:=hb6.trans (hbd.mono hb6.size)
    have HBD:=Lib.hid (HB6.out.trans (hbd.mono HB6.out.size))
    have HROWD:=Zuc HROW5.out hb6d
    have HDOD:=HDO5.out.keep (ZmT (fun _=>True) hb6d) fun _ _ _=>trivial
    have HFT:BL.FAt wd gf bf cf fs:=hft.keep (ZmT (fun _=>True) hbd) trivial trivial
    have HDTD:Zav (fun b=>w.heap.size≤b) wd gt es:=HDT.out.keep (ZmT _ hb6d) fun b _ hb=>by have:=HB3.out.size;omega
    obtain ⟨u2,hu2,c2⟩:=Zvx HROWD 2 (show 2<6 by omega)
    have hu2:BOn (fun k=>w.heap.size≤k) wd u2 ps:=by rw [← HPS.out];exact hu2
    obtain ⟨pu2,cu2,rfl,_⟩:=hu2.shape
    have HFO:=Lib.hid (Zjy _ l wd HDOD.any HNE.out)
    have hg1:w.heap.size≤gf:=by have:=HB5.out.size;omega
    have hg2:w.heap.size≤bf:=by have:=HB5.out.size;omega
    have HFTD:=Lib.hid HFT
    have HDT:=Lib.hid HDTD
    have HDOC:=Lib.hid HDOD
    have HPO:=Lib.hid hu2
    have HG1:=Lib.hid hg1
    have HG2:=Lib.hid hg2
    have i2:(2:Int)<6:=by omega
    clear HROW5 HDO5 hft hgf hbf hb6 hbd hb6d hwd HFT HDTD HDOD HROWD hu2 hg1 hg2 HFR HB6 HB5 HB3 c4 HFS HES HPS HLO
    go_wp2_with fail
    refine RG.ZcJ [(0,true),(1,true),(2,true),(3,true),(4,true),(5,true),(6,true),(7,true),(8,false),(9,true),(10,false),(11,true),(12,true)] (by kernel_rfl) (by kernel_rfl) rfl (by kernel_rfl) (fun _ _ d _ _ h=>by cases d<;>exact h) ?_
    simp only [RG.ZpY,List.map_cons,List.map_nil,List.getElem?_toArray,List.getElem?_cons_succ,List.getElem?_cons_zero]
    rw [HWD.out]
    iterate 4 (refine RG.take (by rfl) (by intro W hW;go_simp;with_reducible rfl) ?_;simp only [Act.put,List.setIfInBounds_toArray,List.set_cons_zero,List.set_cons_succ])
    refine RG.take (v:=.slice pu2 ps.length cu2) (by rfl) (by intro W hW;have cW:=(Zvy c2 hW);go_simp) ?_
    simp only [Act.put,List.setIfInBounds_toArray,List.set_cons_zero,List.set_cons_succ]
    iterate 3 (refine RG.take (by rfl) (by intro W hW;go_simp;with_reducible rfl) ?_;simp only [Act.put,List.setIfInBounds_toArray,List.set_cons_zero,List.set_cons_succ])
    refine RG.alone (by rfl) (fun K hK => ?_)
    go_simp
    refine HFO.out.mono ?_
    rintro e w7 ⟨rfl,hb7⟩
    go_simp
    refine hK.out _ _ hb7 ?_
    clear hK K
    iterate 1 (refine RG.take (by rfl) (by intro W hW;go_simp;with_reducible rfl) ?_;simp only [Act.put,List.setIfInBounds_toArray,List.set_cons_zero,List.set_cons_succ])
    refine RG.alone (by rfl) (fun K hK => ?_)
    go_simp
    refine hK.out _ _ ((Below.refl _ _).alloc (Nat.le_refl _) _) ?_
    clear hK K
    obtain ⟨w8,hw8⟩:∃ w8,w7.alloc (.cells (segA (.slice pd l.length cd) (some ⟨gt,0,none⟩) (.slice pu2 ps.length cu2) (some ⟨gf,0,none⟩) (Zjt l)) 88)=w8:=⟨_,rfl⟩
    have hg8:w8.heap[w7.heap.size]? = some (.cells (segA (.slice pd l.length cd) (some ⟨gt,0,none⟩) (.slice pu2 ps.length cu2) (some ⟨gf,0,none⟩) (Zjt l)) 88 (0,0)):=by rw [← hw8];exact heap_alloc_new _ _
    have hb8:Below w7.heap.size w7 w8:=by rw [← hw8];exact (Below.refl _ _).alloc (Nat.le_refl _) _
    have HG8:=Lib.hid hg8
    have HW8:Hid (w7.alloc (.cells #[.slice pd l.length cd,.pointer (some ⟨gt,0,none⟩),.slice pu2 ps.length cu2,.pointer (some ⟨gf,0,none⟩),.int .i64 0,.int .i64 0,.int .i64 (Zjt l).1,.int .i64 (Zjt l).2.1,.int .i64 (Zjt l).2.2.1,.int .i64 (Zjt l).2.2.2.1,.int .i64 ((Zjt l).2.2.2.2:Int)] 88)=w8):=Lib.hid hw8
    have HB8:=Lib.hid (hb7.trans (hb8.mono hb7.size))
    have HB7:=Lib.hid hb7
    clear hb7 hb8 hg8 hw8 HFO
    rw [HW8.out]
    iterate 2 (refine RG.take (by rfl) (by intro W hW;go_simp;with_reducible rfl) ?_;simp only [Act.put,List.setIfInBounds_toArray,List.set_cons_zero,List.set_cons_succ])
    refine RG.done ?_
    go_wp2_with fail
    go_ret2
    have hb68:Below wd.heap.size wd w8:=HB8.out
    refine ⟨some ⟨w7.heap.size,0,none⟩,by rw [HDG.out];rfl,?_,(fun h=>by rw [HDG.out] at h;cases h),HBD.out.trans (hb68.mono HBD.out.size)⟩
    rw [HDG.out,Option.getD_some]
    refine .inr ⟨w7.heap.size,_,_,_,_,rfl,Nat.le_trans HBD.out.size HB7.out.size,HG8.out,?_⟩
    have hdoc:Zax w.heap.size w8 (.slice pd l.length cd) l:=HDOC.out.keep (ZmT (fun _=>True) hb68) fun _ _ _=>trivial
    refine ⟨ZgC hdoc,.inr ⟨gt,rfl,by rw [HES0.out];exact HDT.out.keep (ZmT _ hb68) fun _ _ h=>h⟩,?_,.inr ⟨HNE.out,gf,bf,cf,rfl,?_,HG1.out,HG2.out⟩⟩
    ·rw [HPS0.out]
     exact HPO.out.below hb68
    ·rw [HFS0.out]
     exact HFTD.out.keep (ZmT (fun _=>True) hb68) trivial trivial
   ·rw [decide_eq_false hxb] at HEQ
    have HQ:=Lib.hid (ZpK (ZpR H6.out (fun h=>hxb (by rw [HL.out,HXZ.out] at h;exact (Prod.mk.inj h).1))) HB3.out)
    clear hcs hxb HEO HR3 HDO3 HROW3
    go_wp2_with fail
    refine HEQ.out.mono ?_
    rintro e w4 ⟨rfl,rfl⟩
    go_wp2_with fail
    go_ret2
    exact HQ.out
  ·have HQ:=Lib.hid (ZpK (ZpR H6.out (fun h=>hz (by rw [HL.out,HXZ.out] at h;exact (Prod.mk.inj h).2))) HB3.out)
   have hz2:z=130∨z=2:=by
    rcases hcs with h | h | h
    ·exact .inl (Prod.mk.inj h).2
    ·exact .inr (Prod.mk.inj h).2
    ·exact absurd (Prod.mk.inj h).2 hz
   clear hcs HEO HR3 HDO3 HROW3
   rcases hz2 with rfl | rfl
   all_goals
    go_wp2_with fail
    go_ret2
    exact HQ.out
end Go.Proofs.YtdijhifdjbnkfaaGreat.SG
namespace Go.Proofs.YtdijhifdjbnkfaaGreat.SG
open Go Go.RowKit MM
open EV (docC fldC NewF ZoG)
open EM (Zrf)
open SM (Doc isS FitS decS ZoQ)
open GM (Zbs Sized Zv7 ZhC Zrw Zuv Zjt Ziw ZhF)
theorem ZvB (a b c d e f g h i j k:Value) (w:World):(Instr.field 88 (.agg #[a,b,c,d,e,f,g,h,i,j,k]) 0).run Tryz.prog w=.ok a w:=by kernel_rfl
theorem ZvC (a b c d e f g h i j k:Value) (w:World):(Instr.field 88 (.agg #[a,b,c,d,e,f,g,h,i,j,k]) 1).run Tryz.prog w=.ok (.agg #[b,c,d]) w:=by kernel_rfl
theorem ZvD (a b c d e f g h i j k:Value) (w:World):(Instr.field 88 (.agg #[a,b,c,d,e,f,g,h,i,j,k]) 2).run Tryz.prog w=.ok (.agg #[e,f,g,h,i,j,k]) w:=by kernel_rfl
theorem Zni (p:Option Addr) (l:List Doc) (w:World) (h:SegP (fun _=>True) w p l):Calls Tryz.prog 28 #[.pointer p] w fun e w'=>e=.returned (.int .i64 (l.length:Int))∧Below w.heap.size w w':=by
 have HO:=Lib.hid (ZpZ p l w h)
 clear h
 go_enter Tryz.func28,Tryz.ntmps28
 go_wp2_with fail
 refine HO.out.mono ?_
 rintro e w1 ⟨ev,tp,rv,fp,rfl,hD,hb⟩
 have HC:=Lib.hid (ZfQ ev l w1 hD.docs)
 have HB:=Lib.hid hb
 obtain ⟨pe,ce,rfl,_⟩:=hD.docs.shape
 obtain ⟨pr,cr,rfl,_⟩:=hD.rws.shape
 have f0:=ZvB (.slice pe l.length ce) (.pointer tp) (.slice pr (Zrw (Zuv l)).length cr) (.pointer fp) (.int .i64 0) (.int .i64 0) (.int .i64 (Zjt l).1) (.int .i64 (Zjt l).2.1) (.int .i64 (Zjt l).2.2.1) (.int .i64 (Zjt l).2.2.2.1) (.int .i64 ((Zjt l).2.2.2.2:Int)) w1
 clear hD hb HO
 go_wp2_with fail
 refine HC.out.mono ?_
 rintro e w2 ⟨rfl,rfl⟩
 go_wp2_with fail
 go_ret
 exact ⟨rfl,HB.out⟩
theorem ZrF (p:Option Addr) (l:List Doc) (u:List UInt8) (w:World) (h:SegP (fun _=>True) w p l) (hS:isS l=true) (hsm:Zbs l):Calls Tryz.prog 20 #[.pointer p,.string ⟨u.toArray⟩] w (Zbe (Zrf (Zuv l) u) w):=by
 have hz:=Zv7 hS hsm
 have HO:=Lib.hid (ZpZ p l w h)
 clear h
 go_enter Tryz.func20,Tryz.ntmps20
 go_wp2_with fail
 refine HO.out.mono ?_
 rintro e w1 ⟨ev,tp,rv,fp,rfl,hD,hb⟩
 have HC:=Lib.hid (ZrE tp rv (.pointer fp) rfl (Zuv l) u w1 hD.dict hz.are (BOn.brow hD.rws) (by have:=hz.posts;omega) (fun r hr=>(hz.row r hr).2.2.2.1))
 have HB:=Lib.hid hb
 obtain ⟨pe,ce,rfl,_⟩:=hD.docs.shape
 obtain ⟨pr,cr,rfl,_⟩:=hD.rws.shape
 have f0:=ZvC (.slice pe l.length ce) (.pointer tp) (.slice pr (Zrw (Zuv l)).length cr) (.pointer fp) (.int .i64 0) (.int .i64 0) (.int .i64 (Zjt l).1) (.int .i64 (Zjt l).2.1) (.int .i64 (Zjt l).2.2.1) (.int .i64 (Zjt l).2.2.2.1) (.int .i64 ((Zjt l).2.2.2.2:Int)) w1
 clear hD hb HO hz
 go_wp2_with fail
 refine HC.out.mono ?_
 rintro e w2 ⟨v,rfl,hv,hb2⟩
 have HQ:=Lib.hid (And.intro hv (HB.out.trans (hb2.mono HB.out.size)))
 obtain ⟨pu,cu,rfl,_⟩:=PW.POn.shape hv
 clear hv hb2 HC HB
 go_wp2_with fail
 go_ret
 exact ⟨_,rfl,HQ.out.1,HQ.out.2⟩
theorem Zoj (p:Option Addr) (l:List Doc) (u:List UInt8) (w:World) (h:SegP (fun _=>True) w p l) (hu:l≠[]→u.length≤1000000):Calls Tryz.prog 22 #[.pointer p,.string ⟨u.toArray⟩] w fun e w'=>e=.returned (.bool (!l.isEmpty&&BM.mayL (Ziw (Zuv l)) u))∧Below w.heap.size w w':=by
 have HO:=Lib.hid (ZpZ p l w h)
 clear h
 go_enter Tryz.func22,Tryz.ntmps22
 go_wp2_with fail
 refine HO.out.mono ?_
 rintro e w1 ⟨ev,tp,rv,fp,rfl,hD,hb⟩
 have hC:Calls Tryz.prog (61) #[.agg #[.pointer tp,rv,.pointer fp],.string ⟨u.toArray⟩] w1 fun e w'=>e=.returned (.bool (!l.isEmpty&&BM.mayL (Ziw (Zuv l)) u))∧Below w1.heap.size w1 w':=by
  rcases hD.fil with ⟨rfl,rfl⟩ | ⟨hne,g,b,cap,rfl,hf,_,_⟩
  ·exact Zom _ _ rfl hD.rws.oneCell u w1
  ·have:l.isEmpty=false:=by simpa using hne
   rw [this]
   exact Zon _ _ rfl hD.rws.oneCell g b cap _ u w1 hf (hu hne)
 have HC:=Lib.hid hC
 have HB:=Lib.hid hb
 obtain ⟨pe,ce,rfl,_⟩:=hD.docs.shape
 obtain ⟨pr,cr,rfl,_⟩:=hD.rws.shape
 obtain ⟨B,hB⟩:∃ B,(!l.isEmpty&&BM.mayL (Ziw (Zuv l)) u)=B:=⟨_,rfl⟩
 have HB0:=Lib.hid hB
 rw [hB] at HC
 have f0:=ZvC (.slice pe l.length ce) (.pointer tp) (.slice pr (Zrw (Zuv l)).length cr) (.pointer fp) (.int .i64 0) (.int .i64 0) (.int .i64 (Zjt l).1) (.int .i64 (Zjt l).2.1) (.int .i64 (Zjt l).2.2.1) (.int .i64 (Zjt l).2.2.2.1) (.int .i64 ((Zjt l).2.2.2.2:Int)) w1
 clear hD hb HO hC hB
 go_wp2_with fail
 refine HC.out.mono ?_
 rintro e w2 ⟨rfl,hb2⟩
 have HQ:=Lib.hid (HB.out.trans (hb2.mono HB.out.size))
 clear hb2 HC HB
 go_wp2_with fail
 go_ret
 exact ⟨by rw [HB0.out];rfl,HQ.out⟩
theorem Zxo (p:Option Addr) (l:List Doc) (w:World) (h:SegP (fun _=>True) w p l):Calls Tryz.prog 31 #[.pointer p] w fun e w'=>e=.returned (.int .i64 ((Zuv l).length:Int))∧Below w.heap.size w w':=by
 have HO:=Lib.hid (ZpZ p l w h)
 clear h
 go_enter Tryz.func31,Tryz.ntmps31
 go_wp2_with fail
 refine HO.out.mono ?_
 rintro e w1 ⟨ev,tp,rv,fp,rfl,hD,hb⟩
 have HC:=Lib.hid (Zxp tp rv (.pointer fp) hD.rws.oneCell rfl _ w1 hD.dict)
 rw [ZhF] at HC
 have HB:=Lib.hid hb
 obtain ⟨pe,ce,rfl,_⟩:=hD.docs.shape
 obtain ⟨pr,cr,rfl,_⟩:=hD.rws.shape
 have f0:=ZvC (.slice pe l.length ce) (.pointer tp) (.slice pr (Zrw (Zuv l)).length cr) (.pointer fp) (.int .i64 0) (.int .i64 0) (.int .i64 (Zjt l).1) (.int .i64 (Zjt l).2.1) (.int .i64 (Zjt l).2.2.1) (.int .i64 (Zjt l).2.2.2.1) (.int .i64 ((Zjt l).2.2.2.2:Int)) w1
 clear hD hb HO
 go_wp2_with fail
 refine HC.out.mono ?_
 rintro e w2 ⟨rfl,hb2⟩
 have HQ:=Lib.hid (HB.out.trans (hb2.mono HB.out.size))
 clear hb2 HC HB
 go_wp2_with fail
 go_ret
 exact ⟨rfl,HQ.out⟩
theorem ZqX (p:Option Addr) (l:List Doc) (w:World) (h:SegP (fun _=>True) w p l):Calls Tryz.prog 29 #[.pointer p] w fun e w'=>e=.returned (.agg #[.int .i64 0,.int .i64 0,.int .i64 (Zjt l).1,.int .i64 (Zjt l).2.1,.int .i64 (Zjt l).2.2.1,.int .i64 (Zjt l).2.2.2.1,.int .i64 ((Zjt l).2.2.2.2:Int)])∧Below w.heap.size w w':=by
 obtain ⟨wa,hwa⟩:∃ wa,w.alloc (.cells #[.int .i64 0,.int .i64 0,.int .i64 0,.int .i64 0,.int .i64 0,.int .i64 0,.int .i64 0] 65)=wa:=⟨_,rfl⟩
 have hba:Below w.heap.size w wa:=by rw [← hwa];exact (Below.refl _ _).alloc (Nat.le_refl _) _
 have hg:wa.heap[w.heap.size]? = some (.cells #[.int .i64 0,.int .i64 0,.int .i64 0,.int .i64 0,.int .i64 0,.int .i64 0,.int .i64 0] 65 (0,0)):=by rw [← hwa];exact heap_alloc_new _ _
 have HO:=Lib.hid (ZpZ p l wa (h.below hba))
 have HBA:=Lib.hid hba
 have HG:=Lib.hid hg
 have HWA:=Lib.hid hwa
 have hlt:w.heap.size<wa.heap.size:=(Array.getElem?_eq_some_iff.1 hg).1
 have HLT:=Lib.hid hlt
 clear h hba hg hwa hlt
 go_enter Tryz.func29,Tryz.ntmps29
 go_wp2_with (rw [HWA.out])
 refine HO.out.mono ?_
 rintro e w1 ⟨ev,tp,rv,fp,rfl,hD,hb⟩
 have HC:=Lib.hid (fun W=>ZxS (Zjt l).1 (Zjt l).2.1 (Zjt l).2.2.1 (Zjt l).2.2.2.1 ((Zjt l).2.2.2.2:Int) W)
 obtain ⟨pe,ce,rfl,_⟩:=hD.docs.shape
 obtain ⟨pr,cr,rfl,_⟩:=hD.rws.shape
 have f0:=ZvD (.slice pe l.length ce) (.pointer tp) (.slice pr (Zrw (Zuv l)).length cr) (.pointer fp) (.int .i64 0) (.int .i64 0) (.int .i64 (Zjt l).1) (.int .i64 (Zjt l).2.1) (.int .i64 (Zjt l).2.2.1) (.int .i64 (Zjt l).2.2.2.1) (.int .i64 ((Zjt l).2.2.2.2:Int)) w1
 have HB1:=Lib.hid (HBA.out.trans (hb.mono HBA.out.size))
 have HG1:=Lib.hid ((hb.block _ HLT.out).trans HG.out)
 have HLT1:Hid (w.heap.size<w1.heap.size):=Lib.hid (Nat.lt_of_lt_of_le HLT.out hb.size)
 clear hD hb HO HBA HG HLT
 go_wp2_with fail
 refine (HC.out _).mono ?_
 rintro e w2 ⟨rfl,hb2⟩
 obtain ⟨X,hX⟩:∃ X:Array Value,#[.int .i64 0,.int .i64 0,.int .i64 (Zjt l).1,.int .i64 (Zjt l).2.1,.int .i64 (Zjt l).2.2.1,.int .i64 (Zjt l).2.2.2.1,.int .i64 ((Zjt l).2.2.2.2:Int)]=X:=⟨_,rfl⟩
 have hxs:X.size=7:=by rw [← hX];rfl
 have hx1:X.all (·.oneCell')=true:=by rw [← hX];simp [Value.oneCell']
 have hg2:=(hb2.block _ HLT1.out).trans HG1.out
 have hi:(Tryz.prog.info? 65).map (·.size)=some X.size:=by rw [hxs];exact Zl6
 have HG2:=Lib.hid (setRow_heap w2 w.heap.size _ X _ _ hg2)
 have HB2:=Lib.hid (ZcO (g:=w.heap.size) X (HB1.out.trans (hb2.mono HB1.out.size)) (Nat.le_refl _))
 have HI:=Lib.hid hi
 have HXS:Hid ((#[.int .i64 0,.int .i64 0,.int .i64 0,.int .i64 0,.int .i64 0,.int .i64 0,.int .i64 0]:Array Value).size=X.size):=Lib.hid (by rw [hxs];rfl)
 have HX1:=Lib.hid hx1
 have HZ:=Lib.hid hg2
 have HX:=Lib.hid hX
 clear hb2 hg2 hi hxs hx1 HG1 HLT1 HB1 HC
 rw [hX]
 clear hX
 go_wp2_with (go_loud (refine wpList_store_row rfl 65 (.tmp 2) (.tmp 6) rfl w.heap.size X rfl rfl 65 #[.int .i64 0,.int .i64 0,.int .i64 0,.int .i64 0,.int .i64 0,.int .i64 0,.int .i64 0] HZ.out HI.out HXS.out HX1.out ?_))
 refine bodyPost_ret (v:=.agg X) (results_cell_row rfl _ _ w.heap.size 65 X (0,0) _ rfl HG2.out Tryz.underlying65 rfl HI.out) rfl ⟨by rw [HX.out],HB2.out⟩
end Go.Proofs.YtdijhifdjbnkfaaGreat.SG
namespace Go.Proofs.YtdijhifdjbnkfaaGreat.SG
open Go Go.RowKit MM
open EV (docC fldC Zi8 Zgo)
open GM
theorem ZqZ (a b c d e f g:Value) (w:World):(Instr.field 65 (.agg #[a,b,c,d,e,f,g]) 2).run Tryz.prog w=.ok c w:=by kernel_rfl
theorem ZpS (v:Value) (l:List SM.Doc) (w:World) (hv:BRow w v (Zd6 l)) (hS:SM.isS l=true) (hsm:Zbs l) (hf:SM.FitS l) (h0:l≠[]):Calls Tryz.prog 12 #[v] w fun e w'=>∃ g,e=.returned (.tuple #[.pointer (some ⟨g,0,none⟩),.int .i64 0])∧SegP (fun k=>w.heap.size≤k) w' (some ⟨g,0,none⟩) l∧Below w.heap.size w w':=by
 have hd:decG (Zd6 l)=some l:=Zf7 hf (Zg7 hS hsm h0)
 refine (ZpO v (Zd6 l) w hv (ZpL hS hsm)).mono ?_
 rintro e w' ⟨p,rfl,hp,_,hb⟩
 rw [hd] at hp ⊢
 rcases hp with ⟨_,h⟩ | ⟨g,ev,tp,rv,fp,rfl,h⟩
 ·exact absurd h h0
 ·exact ⟨g,rfl,.inr ⟨g,ev,tp,rv,fp,rfl,h⟩,hb⟩
theorem ZcB (w:World):Calls Tryz.prog 16 #[] w fun e w'=>e=.returned (.bool true)∧Below w.heap.size w w':=by
 obtain ⟨wf,hwf⟩:∃ W,w.alloc (.cells #[.string ⟨#[109,115,103]⟩,.string ⟨#[120]⟩] 123)=W:=⟨_,rfl⟩
 have hbf:Below w.heap.size w wf:=by rw [← hwf];exact (Below.refl _ _).alloc (Nat.le_refl _) _
 have hsf:wf.heap.size=w.heap.size+1:=by rw [← hwf];simp
 have hfl:RAny fldC wf (.slice (some ⟨w.heap.size,0,none⟩) 1 1) [([109,115,103],[120])]:=by
  rw [← hwf]
  exact ROn.any (ZtY (e:=123) (S:=fun _=>True) w [[.string ⟨#[109,115,103]⟩,.string ⟨#[120]⟩]] [([109,115,103],[120])] (by unfold maxLen;simp) (Mean.single (Zi8.2 rfl)))
 obtain ⟨w0,hw0⟩:∃ W,wf.alloc (.cells #[.int .i64 1,.int .i64 7,.slice (some ⟨w.heap.size,0,none⟩) 1 1] 59)=W:=⟨_,rfl⟩
 have hb0:Below w.heap.size w w0:=by rw [← hw0];exact hbf.alloc (by omega) _
 have hlit:RAny docC w0 (.slice (some ⟨wf.heap.size,0,none⟩) 1 1) exA:=by
  rw [← hw0]
  exact ROn.any (ZtY (e:=59) (S:=fun _=>True) wf [[.int .i64 1,.int .i64 7,.slice (some ⟨w.heap.size,0,none⟩) 1 1]] exA (by unfold maxLen;simp [exA]) (Mean.single (Zgo.2 ⟨_,rfl,hfl⟩)))
 have HE:=Lib.hid (Zg3 _ exA w0 hlit Zh5 Zh8 Zh3 (by unfold exA;simp))
 have HB0:=Lib.hid hb0
 have HWF:=Lib.hid hwf
 have HW0:=Lib.hid hw0
 have HSF:=Lib.hid hsf
 clear hwf hbf hfl hw0 hb0 hlit hsf
 go_enter Tryz.func16,Tryz.ntmps16
 go_wp2_with (first | (rw [HW0.out]) | (rw [HWF.out]))
 refine HE.out.mono ?_
 rintro e w1 ⟨v1,rfl,ho1,hb1⟩
 have HO:=Lib.hid (ZpS v1 exA w1 (OwnB.brow ho1) Zh5 Zh8 Zh3 (by unfold exA;simp))
 have HB1:=Lib.hid (HB0.out.trans (hb1.mono HB0.out.size))
 obtain ⟨p1,c1,rfl,_⟩:=(OwnB.brow ho1).shape
 clear ho1 hb1 HE HB0 HWF HW0 HSF
 go_wp2_with fail
 refine HO.out.mono ?_
 rintro e w2 ⟨g,rfl,hs2,hb2⟩
 have hs2:=hs2.any
 have HB2:=Lib.hid (HB1.out.trans (hb2.mono HB1.out.size))
 obtain ⟨w3,hw3⟩:∃ W,w2.alloc (.cells #[.int .i64 4,.int .i64 0,.slice none 0 0] 59)=W:=⟨_,rfl⟩
 have hb3:Below w2.heap.size w2 w3:=by rw [← hw3];exact (Below.refl _ _).alloc (Nat.le_refl _) _
 have hlit:RAny docC w3 (.slice (some ⟨w2.heap.size,0,none⟩) 1 1) exC:=by
  rw [← hw3]
  exact ROn.any (ZtY (e:=59) (S:=fun _=>True) w2 [[.int .i64 4,.int .i64 0,.slice none 0 0]] exC (by unfold maxLen;simp [exC]) (Mean.single (Zgo.2 ⟨_,rfl,ROn.nil_ _ _⟩)))
 have HE:=Lib.hid (Zg3 _ exC w3 hlit Zia Zid Zh9 (by unfold exC;simp))
 have HS3:=Lib.hid (hs2.below hb3)
 have HB3:=Lib.hid (HB2.out.trans (hb3.mono HB2.out.size))
 have HW3:=Lib.hid hw3
 clear hs2 hb2 hw3 hb3 hlit HO HB1 HB2
 go_wp2_with (rw [HW3.out])
 refine HE.out.mono ?_
 rintro e w4 ⟨v4,rfl,ho4,hb4⟩
 have HO:=Lib.hid (ZpS v4 exC w4 (OwnB.brow ho4) Zia Zid Zh9 (by unfold exC;simp))
 have HB4:=Lib.hid (HB3.out.trans (hb4.mono HB3.out.size))
 have HS4:=Lib.hid (HS3.out.below hb4)
 obtain ⟨p4,c4,rfl,_⟩:=(OwnB.brow ho4).shape
 clear ho4 hb4 HE HB3 HW3 HS3
 go_wp2_with fail
 refine HO.out.mono ?_
 rintro e w5 ⟨g',rfl,ht5,hb5⟩
 have HT5:=Lib.hid ht5.any
 have HS5:=Lib.hid (HS4.out.below hb5)
 have HB5:=Lib.hid (HB4.out.trans (hb5.mono HB4.out.size))
 have HP:=Lib.hid (ZrF (some ⟨g,0,none⟩) exA [109,115,103,58,120] w5 HS5.out Zh5 Zh8)
 rw [Zh7] at HP
 clear ht5 hb5 HO HS4 HB4
 go_wp2_with fail
 refine HP.out.mono ?_
 rintro e w6 ⟨v6,rfl,hp6,hb6⟩
 have HS6:=Lib.hid (HS5.out.below hb6)
 have HT6:=Lib.hid (HT5.out.below hb6)
 have HB6:=Lib.hid (HB5.out.trans (hb6.mono HB5.out.size))
 have HP6:=Lib.hid hp6
 obtain ⟨p6,c6,rfl,_⟩:=PW.POn.shape hp6
 have HE:=Lib.hid (Zg6 (.slice none 0 0) [] w6 (ROn.nil_ _ _) (.inr rfl))
 clear hp6 hb6 HP HS5 HT5 HB5
 go_wp2_with fail
 refine HE.out.mono ?_
 rintro e w7 ⟨v7,rfl,ho7,hb7⟩
 have HS7:=Lib.hid (HS6.out.below hb7)
 have HT7:=Lib.hid (HT6.out.below hb7)
 have HB7:=Lib.hid (HB6.out.trans (hb7.mono HB6.out.size))
 have hp7:=PW.PRow.below HP6.out hb7
 obtain ⟨b7,o7,x7,rfl,_,_,c0,_,_⟩:=PW.POn.at_ hp7 (k:=0) (by simp)
 rw [Nat.zero_mul,Nat.add_zero] at c0
 have c0:w7.cell? ⟨b7,o7,none⟩=some (.int .i64 0):=c0
 obtain ⟨p7,c7,rfl,_⟩:=(OwnB.brow ho7).shape
 have HC:=Lib.hid (ZqX (some ⟨g,0,none⟩) exA w7 HS7.out)
 rw [Zh4] at HC
 dsimp only at HC
 clear ho7 hb7 hp7 HE HS6 HT6 HB6 HP6
 go_wp2_with fail
 refine HC.out.mono ?_
 rintro e w8 ⟨rfl,hb8⟩
 have HS8:=Lib.hid (HS7.out.below hb8)
 have HT8:=Lib.hid (HT7.out.below hb8)
 have HB8:=Lib.hid (HB7.out.trans (hb8.mono HB7.out.size))
 have f2:=ZqZ (.int .i64 0) (.int .i64 0) (.int .i64 7) (.int .i64 7) (.int .i64 1) (.int .i64 1) (.int .i64 1) w8
 have HC:=Lib.hid (Zni (some ⟨g,0,none⟩) exA w8 HS8.out)
 clear hb8 c0 HS7 HT7 HB7
 go_wp2_with fail
 refine HC.out.mono ?_
 rintro e w9 ⟨rfl,hb9⟩
 have HS9:=Lib.hid (HS8.out.below hb9)
 have HT9:=Lib.hid (HT8.out.below hb9)
 have HB9:=Lib.hid (HB8.out.trans (hb9.mono HB8.out.size))
 have HC:=Lib.hid (Zoj (some ⟨g,0,none⟩) exA [109,115,103,58,120] w9 HS9.out (fun _=>by simp))
 rw [Zh6] at HC
 have hl1:(exA.length:Int)=1:=rfl
 rw [hl1]
 clear hb9 f2 HS8 HT8 HB8
 go_wp2_with fail
 refine HC.out.mono ?_
 rintro e w10 ⟨rfl,hb10⟩
 have HT10:=Lib.hid (HT9.out.below hb10)
 have HB10:=Lib.hid (HB9.out.trans (hb10.mono HB9.out.size))
 have HC:=Lib.hid (Zxo (some ⟨g',0,none⟩) exC w10 HT10.out)
 rw [Zic] at HC
 clear hb10 HS9 HT9 HB9
 go_wp2_with fail
 refine HC.out.mono ?_
 rintro e w11 ⟨rfl,hb11⟩
 have HT11:=Lib.hid (HT10.out.below hb11)
 have HB11:=Lib.hid (HB10.out.trans (hb11.mono HB10.out.size))
 have HC:=Lib.hid (Zoj (some ⟨g',0,none⟩) exC [109,115,103,58,120] w11 HT11.out (fun _=>by simp))
 rw [Zib] at HC
 clear hb11 HT10 HB10
 go_wp2_with fail
 refine HC.out.mono ?_
 rintro e w12 ⟨rfl,hb12⟩
 have HB12:=Lib.hid (HB11.out.trans (hb12.mono HB11.out.size))
 clear hb12 HT11 HB11 HC
 go_wp2_with fail
 go_ret
 exact ⟨rfl,HB12.out⟩
end Go.Proofs.YtdijhifdjbnkfaaGreat.SG
namespace Go.Proofs.YtdijhifdjbnkfaaGreat.SG
open Go Go.RowKit MM
open EV (docC fldC)
open GM
theorem ZcK {a w w1:World} (h:Below a.heap.size a w) (k:Below w.heap.size w w1):Below a.heap.size a w1:=h.trans (k.mono h.size)
def Held (w:World) (e:Ending) (w':World):Prop:=e=.returned (.bool true)∧Below w.heap.size w w'
end Go.Proofs.YtdijhifdjbnkfaaGreat.SG
namespace Go.Proofs.YtdijhifdjbnkfaaGreat.GM
open Go
open EM (Ev Tr Trm Zrf Zxa Zbl)
open PM (Post)
open PW (ZiC ZiE)
open SM (Doc)
open RM (ZrB ZrC Zup Zut Zrl Zrn Zxh)
theorem ZiD:∀ {ps:List Post} {d:Int},(∀ p∈ps,p.1≠d)→ZiC ps d=none
 | [],_,_=>rfl
 | p::ps,d,h=>by rw [ZiC,if_neg (h p (by simp)),ZiD fun q hq=>h q (List.mem_cons_of_mem _ hq)]
theorem ZiG:∀ (tss:List (List Trm)) (b:Int) (x:List UInt8) (k:Nat) (hk:k<tss.length),ZiC (ZrB b tss x) (b+(k:Int))=if Zrf tss[k] x=[] then none else some (Zrf tss[k] x)
 | ts::r,b,x,0,_=>by
   have h0:ZiC (ZrB (b+1) r x) b=none:=ZiD fun p hp e=>by
    obtain ⟨j,_,rfl,_⟩:=ZrC.1 hp
    have e:b+1+(j:Int)=b:=e
    omega
   rw [ZrB,List.getElem_cons_zero,Int.natCast_zero,Int.add_zero]
   by_cases h:Zrf ts x=[]
   ·rw [if_pos h,if_pos h,List.nil_append,h0]
   ·rw [if_neg h,if_neg h,List.singleton_append,ZiC,if_pos rfl]
 | ts::r,b,x,k+1,hk=>by
   have ih:=ZiG r (b+1) x k (by simpa using hk)
   rw [show b+1+(k:Int)=b+((k+1:Nat):Int) by push_cast;omega] at ih
   rw [ZrB,List.getElem_cons_succ,ZiE _ _ _ (fun p hp e => ?_),ih]
   split at hp
   ·simp at hp
   ·obtain rfl:=List.mem_singleton.1 hp
    have e:b=b+((k+1:Nat):Int):=e
    omega
theorem ZuI {l:List Doc} {i:Nat} (hi:i<l.length) (x:List UInt8):ZiC (Zrf (Zuv l) x) (i:Int)=if Zrf (Zxa l[i].2) x=[] then none else some (Zrf (Zxa l[i].2) x):=by
 have hl:i<((evs l).map Zxa).length:=by unfold evs;simp [hi]
 have h:=ZiG ((evs l).map Zxa) 0 x i hl
 rw [Int.zero_add] at h
 unfold Zuv
 rw [Zut,h]
 simp [evs]
theorem Zw8 {l:List Doc} {i:Nat} (hi:i<l.length) {k:Nat} (hk:k<(Zxa l[i].2).length):ZiC (Zrf (Zuv l) ((Zxa l[i].2)[k]).1) (i:Int)=some ((Zxa l[i].2)[k]).2:=by
 have hm:=Zrl (Zxh l[i].2) (List.getElem_mem hk)
 rw [ZuI hi,hm,if_neg (RM.Zxd l[i].2 _ (List.getElem_mem hk))]
theorem Zk4 {l:List Doc} {i:Nat} (hi:i<l.length) (x:List UInt8):(ZiC (Zrf (Zuv l) x) (i:Int)).isSome=decide (x∈(Zxa l[i].2).map (·.1)):=by
 rw [ZuI hi]
 by_cases h:Zrf (Zxa l[i].2) x=[]
 ·rw [if_pos h]
  symm
  rw [Option.isSome_none,decide_eq_false_iff_not]
  intro hm
  obtain ⟨t,ht,e⟩:=List.mem_map.1 hm
  have hp:=Zrl (Zxh l[i].2) ht
  rw [e,h] at hp
  exact RM.Zxd l[i].2 t ht hp.symm
 ·rw [if_neg h]
  symm
  rw [Option.isSome_some,decide_eq_true_eq]
  exact List.mem_map.2 ⟨_,Zrn h,rfl⟩
end Go.Proofs.YtdijhifdjbnkfaaGreat.GM
namespace Go.Proofs.YtdijhifdjbnkfaaGreat.SG
open Go Go.RowKit MM
open EV (docC fldC Zgn Zx1 trmC RNew ZuP)
open EM (Zrf Zxa Trm)
open SM (Doc isS FitS)
open PW (ZiC ZaG IOn PRow)
open GM
theorem Zoo {l:List Doc} {i:Nat} (hi:i<l.length) {k:Nat} (hk:k<(Zxa l[i].2).length):∃ r∈Zuv l,r.1=((Zxa l[i].2)[k]).1:=by
 have h:=Zw8 hi hk
 refine ⟨_,RM.Zrn fun h0 => ?_,rfl⟩
 rw [h0] at h
 cases h
theorem Zx8 {w w':World} {v:Value} {ss:List (List UInt8)} (h:TRow w v ss) (hb:Below w.heap.size w w'):TRow w' v ss:=TIn.mono (TIn.below h hb) hb.size
theorem ZiH (u v:Value) (l:List Doc) (ask:List (List UInt8)) (w:World) (hu:RAny docC w u l) (hv:TRow w v ask) (hf:FitS l):Calls Tryz.prog 6 #[u,v] w (Held w):=by
 have HF1:=Lib.hid (Zit u l w hu)
 have HV:=Lib.hid hv
 have HFT:=Lib.hid (Ziq hf)
 have HSM:=Lib.hid (Zis l)
 have HN:=Lib.hid (Zir l)
 obtain ⟨pu,cu,rfl,_⟩:=hu.shape
 obtain ⟨pv,cv,rfl,hva,hvb⟩:=TIn.shape hv
 unfold maxLen at hvb
 obtain ⟨L,hL⟩:∃ L,fewG l=L:=⟨_,rfl⟩
 rw [hL] at HF1 HFT HSM HN
 clear hu hv hf hL
 go_enter Tryz.func6,Tryz.ntmps6
 go_wp2_with fail
 refine HF1.out.mono ?_
 rintro e w1 ⟨u1,rfl,ho1,hb1⟩
 have HU1:=Lib.hid ho1.any
 have HB1:=Lib.hid hb1
 have HV1:=Lib.hid (show TRow w1 _ ask from Zx8 HV.out hb1)
 have HE:=Lib.hid (Zg1 _ L w1 HU1.out HSM.out HFT.out)
 obtain ⟨p1,c1,rfl,_⟩:=ho1.any.shape
 clear ho1 hb1 HF1 HV
 go_wp2_with fail
 refine HE.out.mono ?_
 rintro e w3 ⟨v3,rfl,ho3,hb3⟩
 have HB3:=Lib.hid (ZcK HB1.out hb3)
 have HV3:=Lib.hid (show TRow w3 _ ask from Zx8 HV1.out hb3)
 have HU3:=Lib.hid (HU1.out.below hb3)
 have hg:=ZgT HSM.out
 by_cases hok:isS L=true∧L≠[]
 ·rw [if_pos hok] at hg
  rw [hg] at ho3 ⊢
  have hz:=Zv7 hok.1 HSM.out
  have HOK:=Lib.hid hok
  have HZ:=Lib.hid hz
  have HP:=Lib.hid (ZpS v3 L w3 (OwnB.brow ho3) hok.1 HSM.out HFT.out hok.2)
  obtain ⟨p3,c3,rfl,_⟩:=(OwnB.brow ho3).shape
  dsimp only
  clear ho3 hb3 hg hok hz HE HB1 HU1 HV1
  go_wp2_with fail
  refine HP.out.mono ?_
  rintro e w4 ⟨g,rfl,hs4,hb4⟩
  have HS4:=Lib.hid hs4.any
  have HB4:=Lib.hid (ZcK HB3.out hb4)
  have HU4:=Lib.hid (HU3.out.below hb4)
  have HV4:=Lib.hid (show TRow w4 _ ask from Zx8 HV3.out hb4)
  clear hs4 hb4 HP HB3 HU3 HV3
  go_wp2_with fail
  go_loopw [9] (fun iv wr=>∃ i:Nat,i≤L.length∧iv=.int .i64 i∧Hid (Below w4.heap.size w4 wr)) (fun iv _=>L.length - (intOf iv).toNat)
  case atStart=>exact ⟨0,by omega,by go_simp,Lib.hid (Below.refl _ _)⟩
  case round =>
   obtain ⟨i,hi,rfl,HB⟩:=hrel
   by_cases hlt:i<L.length
   ·obtain ⟨wo,hwo⟩:∃ wo,wo=wr:=⟨_,rfl⟩
    subst hwo
    have t1:decide ((i:Int)<(L.length:Int))=true:=by rw [decide_eq_true_eq];omega
    have t2:(i:Int)<(L.length:Int):=by omega
    obtain ⟨b,off,vf,rfl,hbl,_,c1',c2,c3',hf⟩:=Zgn (HU4.out.below HB.out) hlt
    have hti:=fun k (hk:k<(Zxa L[i].2).length)=>Zw8 hlt hk
    have hmt:=fun k (hk:k<(Zxa L[i].2).length)=>Zoo hlt hk
    have hhf:=fun x=>Zk4 hlt x
    obtain ⟨⟨sq,z,fs⟩,hd⟩:∃ d,L[i]=d:=⟨_,rfl⟩
    rw [hd] at c2 hf hti hmt hhf
    change wo.cell? ⟨b,off+i*3+1,none⟩=some (.int .i64 z) at c2
    change ROn fldC _ wo vf fs at hf
    have HT:=Lib.hid (ZuP z vf fs wo hf.any)
    obtain ⟨pf,cf,rfl,_⟩:=hf.shape
    obtain ⟨T,hT⟩:∃ T,Zxa (z,fs)=T:=⟨_,rfl⟩
    change ∀ k (hk:k<(Zxa (z,fs)).length),ZiC (Zrf (Zuv L) ((Zxa (z,fs))[k]).1) (i:Int)=some ((Zxa (z,fs))[k]).2 at hti
    change ∀ k (hk:k<(Zxa (z,fs)).length),∃ r∈Zuv L,r.1=((Zxa (z,fs))[k]).1 at hmt
    change ∀ x,(ZiC (Zrf (Zuv L) x) (i:Int)).isSome=decide (x∈(Zxa (z,fs)).map (·.1)) at hhf
    rw [hT] at hti hmt hhf HT
    have HTI:=Lib.hid hti
    have HMT:=Lib.hid hmt
    have HHF:=Lib.hid hhf
    have HLT:=Lib.hid hlt
    clear hf hti hmt hhf hT hd hlt c1'
    go_wp2_with fail
    refine HT.out.mono ?_
    rintro e w5 ⟨tv,rfl,ht5,hb5⟩
    have HB5:=Lib.hid (ZcK HB.out hb5)
    have HT5:=Lib.hid ht5
    obtain ⟨pt,ct,rfl,htc,htm,_⟩:=ht5.shape
    unfold maxLen at htm
    clear ht5 hb5 HT c2 c3'
    go_wp2_with fail
    have HT5:=Lib.hid (show RAny trmC w5 _ T from HT5.out.any)
    have HLP:=HLT
    clear HB
    go_loopw [11] (fun kv wr=>∃ k:Nat,k≤T.length∧kv=.int .i64 k∧Hid (Below w4.heap.size w4 wr)∧Hid (RAny trmC wr (.slice pt T.length ct) T)) (fun kv _=>T.length - (intOf kv).toNat)
    case atStart=>exact ⟨0,by omega,by go_simp,HB5,HT5⟩
    case round =>
     obtain ⟨k,hk,rfl,HB,HT⟩:=hrel
     obtain ⟨wk,hwk⟩:∃ wk,wk=wr:=⟨_,rfl⟩
     subst hwk
     clear HB5 HT5
     by_cases hkl:k<T.length
     ·have s1:decide ((k:Int)<(T.length:Int))=true:=by rw [decide_eq_true_eq];omega
      have s2:(k:Int)<(T.length:Int):=by omega
      obtain ⟨bt,ot,vt,rfl,hbt,_,d1,d2,hpos⟩:=Zx1 HT.out hkl
      have hti:=HTI.out k hkl
      obtain ⟨r,hr,hre⟩:=HMT.out k hkl
      obtain ⟨⟨x,ps⟩,hx⟩:∃ t,T[k]=t:=⟨_,rfl⟩
      rw [hx] at d1 hpos hti hre
      dsimp only at d1 hpos hti hre
      have hxl:x.length≤1000000:=by have:=(HZ.out.row r hr).2.2.1;rw [hre] at this;omega
      have hmy:BM.mayL (Ziw (Zuv L)) x=true:=by rw [← hre];exact Ziy hr
      have hS4:=HS4.out.below HB.out
      have HP:=Lib.hid (ZrF _ L x wk hS4 HOK.out.1 HSM.out)
      have HTIx:=Lib.hid hti
      have HMYx:=Lib.hid hmy
      have HXL:=Lib.hid hxl
      have HPOS:=Lib.hid (RAny.below (show RAny Go.Proofs.YtdijhifdjbnkfaaGreat.MM.cInt wk vt ps from hpos.any) (Below.refl _ _))
      have HD:=Lib.hid (And.intro d1 d2)
      have HBT:=Lib.hid hbt
      have HKL:=Lib.hid hkl
      obtain ⟨pp,cp,rfl,_⟩:=hpos.shape
      clear hx hpos hti hre hr hmy hS4 hxl
      go_wp2_with fail
      refine HP.out.mono ?_
      rintro e wp ⟨vp,rfl,hvp,hbp⟩
      have HF:=Lib.hid (PW.Zti vp (Zrf (Zuv L) x) (i:Int) wp hvp)
      rw [HTIx.out] at HF
      obtain ⟨q1,r1,rfl,_⟩:=PW.POn.shape hvp
      have HBp:=Lib.hid hbp
      have e1:=(hbp.cell (p:=⟨bt,ot+k*2,none⟩) HBT.out).trans HD.out.1
      have e2:=(hbp.cell (p:=⟨bt,ot+k*2+1,none⟩) HBT.out).trans HD.out.2
      clear hvp hbp HP d1 d2
      go_wp2_with fail
      refine HF.out.mono ?_
      rintro e wf ⟨vq,rfl,hvq,hbq⟩
      have hvq:IOn (fun _=>True) wf vq ps:=hvq
      have hbkf:Below wk.heap.size wk wf:=ZcK HBp.out hbq
      have HSI:=Lib.hid (PW.Zvt vq (.slice pp ps.length cp) ps ps wf hvq (SG.ZtX (HPOS.out.below hbkf)))
      rw [decide_eq_true rfl] at HSI
      have HBF:=Lib.hid hbkf
      obtain ⟨q2,r2,rfl,_⟩:=hvq.shape
      have f1:=(hbkf.cell (p:=⟨bt,ot+k*2,none⟩) HBT.out).trans HD.out.1
      have f2:=(hbkf.cell (p:=⟨bt,ot+k*2+1,none⟩) HBT.out).trans HD.out.2
      have hsome:(some ps:Option (List Int)).isSome=true:=rfl
      rw [hsome]
      clear hvq hbq hbkf HF e1 e2 HBp hsome
      go_wp2_with fail
      refine HSI.out.mono ?_
      rintro e wg ⟨rfl,hbg⟩
      have HBG:=Lib.hid (ZcK HBF.out hbg)
      have g1:=(HBG.out.cell (p:=⟨bt,ot+k*2,none⟩) HBT.out).trans HD.out.1
      have hmy:=Zoj (some ⟨g,0,none⟩) L x wg (HS4.out.below (ZcK HB.out HBG.out)) (fun _=>HXL.out)
      have hne:(!L.isEmpty)=true:=by have:=HOK.out.2;cases L with | nil=>exact absurd rfl this | cons=>rfl
      rw [HMYx.out,hne] at hmy
      have HMY:=Lib.hid hmy
      clear hbg hmy hne HSI f1 f2 HBF
      go_wp2_with fail
      refine HMY.out.mono ?_
      rintro e wh ⟨rfl,hbh⟩
      have hbkh:=ZcK HBG.out hbh
      have HB9:=Lib.hid (ZcK HB.out hbkh)
      have HT9:=Lib.hid (HT.out.below hbkh)
      clear hbh hbkh g1 HBG HMY HB HT
      go_wp2_with fail
      have hkl:=HKL.out
      go_roundw
      case rel=>exact ⟨k+1,by omega,by go_num,HB9,HT9⟩
      case measure=>simp [intOf];omega
     ·obtain rfl:k=T.length:=by omega
      have s1:decide ((T.length:Int)<(T.length:Int))=false:=by simp
      go_wp2_with fail
      go_loopw [14] (fun jv wr=>∃ j:Nat,j≤ask.length∧j≤20∧jv=.int .i64 j∧Hid (Below w4.heap.size w4 wr)∧Hid (RAny trmC wr (.slice pt T.length ct) T)) (fun jv _=>20 - (intOf jv).toNat)
      case atStart=>exact ⟨0,by omega,by omega,by go_simp,HB,HT⟩
      case round =>
       obtain ⟨j,hj,hj20,rfl,HBJ,HTJ⟩:=hrel
       obtain ⟨wj,hwj⟩:∃ wj,wj=wr:=⟨_,rfl⟩
       subst hwj
       clear HB HT
       by_cases hgo:j<ask.length∧j<20
       ·obtain ⟨hja,hj2⟩:=hgo
        have a1:decide ((j:Int)<(ask.length:Int))=true:=by rw [decide_eq_true_eq];omega
        have a2:decide ((j:Int)<20)=true:=by rw [decide_eq_true_eq];omega
        have a3:(j:Int)<(ask.length:Int):=by omega
        obtain ⟨ba,oa,rfl,hba,hca⟩:=TIn.at_ (HV4.out) hja
        have hca2:=(HBJ.out.cell (p:=⟨ba,oa+j,none⟩) hba).trans hca
        obtain ⟨x,hx⟩:∃ x,ask[j]=x:=⟨_,rfl⟩
        rw [hx] at hca hca2
        have HCA:=Lib.hid hca2
        have HBA:=Lib.hid (Nat.lt_of_lt_of_le hba HBJ.out.size)
        have HJA:=Lib.hid hja
        clear hca hca2 hx hba hja
        go_wp2_with fail
        go_loopw [15,16] (fun bv mv wr=>∃ m:Nat,m≤T.length∧mv=.int .i64 m∧bv=.bool (decide (x∈(T.take m).map (·.1)))∧Hid (Below wj.heap.size wj wr)) (fun _ mv _=>T.length - (intOf mv).toNat)
        case atStart=>exact ⟨0,by omega,by go_simp,by simp,Lib.hid (Below.refl _ _)⟩
        case round =>
         obtain ⟨m,hm,rfl,rfl,HBM⟩:=hrel
         by_cases hml:m<T.length
         ·have m1:decide ((m:Int)<(T.length:Int))=true:=by rw [decide_eq_true_eq];omega
          have m2:(m:Int)<(T.length:Int):=by omega
          obtain ⟨bt,ot,vt,rfl,hbt,_,d1,_,_⟩:=Zx1 (HTJ.out.below HBM.out) hml
          have c9:=(HBM.out.cell (p:=⟨ba,oa+j,none⟩) HBA.out).trans HCA.out
          obtain ⟨y,hy⟩:∃ y,(T[m]).1=y:=⟨_,rfl⟩
          have hsl:=Zvq y x
          have hnx:decide (x∈(T.take (m+1)).map (·.1))=(decide (x∈(T.take m).map (·.1))||decide (y=x)):=by
           rw [List.take_succ_eq_append_getElem hml,List.map_append,List.map_singleton,hy,Bool.eq_iff_iff]
           simp only [List.mem_append,List.mem_singleton,decide_eq_true_eq,Bool.or_eq_true]
           exact or_congr Iff.rfl eq_comm
          have HNX:=Lib.hid hnx
          have HML:=Lib.hid hml
          obtain ⟨B,hB⟩:∃ B,decide (x∈(T.take m).map (·.1))=B:=⟨_,rfl⟩
          rw [hB] at HNX ⊢
          rw [hy] at d1
          obtain ⟨D,hD⟩:∃ D,decide (y=x)=D:=⟨_,rfl⟩
          rw [hD] at HNX hsl
          have HDD:=Lib.hid hD
          clear hnx hB hy hD
          cases B with
          | true =>
            go_wp2_with fail
            go_quiet (fail)
            go_wp2_with fail
            have hml:=HML.out
            go_roundw
            case rel=>exact ⟨m+1,by omega,by go_num,by rw [HNX.out];rfl,Lib.hid (MM.ZcN HBM.out _)⟩
            case measure=>simp [intOf];omega
          | false =>
            go_wp2_with fail
            go_quiet (fail)
            go_wp2_with fail
            have hml:=HML.out
            go_roundw
            case rel=>exact ⟨m+1,by omega,by go_num,by rw [HNX.out,← HDD.out,Bool.false_or];by_cases h:y=x<;>simp [h],Lib.hid (MM.ZcN HBM.out _)⟩
            case measure=>simp [intOf];omega
         ·obtain rfl:m=T.length:=by omega
          have m1:decide ((T.length:Int)<(T.length:Int))=false:=by simp
          rw [List.take_length]
          have c9:=(HBM.out.cell (p:=⟨ba,oa+j,none⟩) HBA.out).trans HCA.out
          have HB7:=Lib.hid (ZcK HBJ.out HBM.out)
          have HT7:=Lib.hid (HTJ.out.below HBM.out)
          have HP:=Lib.hid (ZrF _ L x wr (HS4.out.below HB7.out) HOK.out.1 HSM.out)
          have hhf:=HHF.out x
          obtain ⟨D,hD⟩:∃ D,decide (x∈T.map (·.1))=D:=⟨_,rfl⟩
          rw [hD] at hhf ⊢
          have HHX:=Lib.hid hhf
          clear hhf hD HBM HTJ HBJ
          go_wp2_with fail
          refine HP.out.mono ?_
          rintro e wp ⟨vp,rfl,hvp,hbp⟩
          have HF:=Lib.hid (PW.Zti vp (Zrf (Zuv L) x) (i:Int) wp hvp)
          obtain ⟨q1,r1,rfl,_⟩:=PW.POn.shape hvp
          have HBp:=Lib.hid hbp
          clear hvp hbp HP c9
          go_wp2_with fail
          refine HF.out.mono ?_
          rintro e wf ⟨vq,rfl,hvq,hbq⟩
          rw [HHX.out]
          have hbb:=ZcK HBp.out hbq
          have HB9:=Lib.hid (ZcK HB7.out hbb)
          have HT9:=Lib.hid (HT7.out.below hbb)
          obtain ⟨q2,r2,rfl,_⟩:=hvq.shape
          clear hvq hbq hbb HF HBp HB7 HT7
          have hja:=HJA.out
          cases D<;>(
           go_wp2_with fail
           go_roundw
           case rel=>exact ⟨j+1,by omega,by omega,by go_num,HB9,HT9⟩
           case measure=>simp [intOf];omega)
       ·have hj4:decide ((j:Int)<(ask.length:Int))=true→decide ((j:Int)<20)=false:=fun h=>by rw [decide_eq_true_eq] at h;rw [decide_eq_false_iff_not];omega
        obtain ⟨B,hB⟩:∃ B,decide ((j:Int)<(ask.length:Int))=B:=⟨_,rfl⟩
        rw [hB] at hj4
        have hlt:=HLP.out
        have hn:=HN.out
        cases B with
        | true =>
          have s2:=hj4 rfl
          clear hj4
          go_wp2_with fail
          all_goals (
           go_roundw
           case rel=>exact ⟨i+1,by omega,by go_num,HBJ⟩
           case measure=>simp [intOf];omega)
        | false =>
          clear hj4
          go_wp2_with fail
          all_goals (
           go_roundw
           case rel=>exact ⟨i+1,by omega,by go_num,HBJ⟩
           case measure=>simp [intOf];omega)
   ·obtain rfl:i=L.length:=by omega
    have t1:decide ((L.length:Int)<(L.length:Int))=false:=by simp
    have HA:=Lib.hid (ZcB wr)
    clear hlt
    go_wp2_with fail
    refine HA.out.mono ?_
    rintro e w8 ⟨rfl,hb8⟩
    have HQ:=Lib.hid (ZcK (ZcK HB4.out HB.out) hb8)
    clear hb8 HA HB
    go_wp2_with fail
    go_ret
    exact ⟨rfl,HQ.out⟩
 ·rw [if_neg hok] at hg
  rw [hg] at ho3 ⊢
  have HA:=Lib.hid (ZcB w3)
  obtain ⟨p3,c3,rfl,_⟩:=(OwnB.brow ho3).shape
  dsimp only
  clear ho3 hb3 hg hok HE HB1 HU1 HU3 HV1 HV3
  go_wp2_with fail
  refine HA.out.mono ?_
  rintro e w8 ⟨rfl,hb8⟩
  have HQ:=Lib.hid (ZcK HB3.out hb8)
  clear hb8 HA HB3
  go_wp2_with fail
  go_ret
  exact ⟨rfl,HQ.out⟩
theorem ZiI (u v:Value) (l:List Doc) (ask:List (List UInt8)) (w:World) (hu:RAny docC w u l) (hv:TRow w v ask) (hf:FitS l):Calls Tryz.prog 6 #[u,v] w (Held w):=ZiH u v l ask w hu hv hf
end Go.Proofs.YtdijhifdjbnkfaaGreat.SG
