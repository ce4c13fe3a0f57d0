import Derived.Test.YtdijhifdjbnkfaaGreatZD36
import Derived.Test.YtdijhifdjbnkfaaGreatZD44
import Derived.Test.YtdijhifdjbnkfaaGreatZD21
set_option maxRecDepth 100000
set_option maxHeartbeats 8000000
set_option linter.unusedVariables false
set_option linter.unusedSimpArgs false
namespace Go.Proofs.YtdijhifdjbnkfaaGreat.SG
open Go Go.RowKit MM
open EM (Tr Zrf)
open DM (Ent areD)
open DT (Zaw ZaF ZiB entV nilX)
open PM (Post isL)
open PW (PRow POn)
open GM (ZhC Zrw ZhN ZrH)
def Zbe (ps:List Post) (w:World) (e:Ending) (w':World):Prop:=∃ v,e=.returned v∧PRow w' v ps∧Below w.heap.size w w'
theorem ZrP (w:World):PRow w (.slice none 0 0) []:=⟨none,0,[],rfl,Nat.le_refl _,by unfold maxLen;omega,fun _=>rfl,⟨rfl,fun i h=>by simp at h⟩,.inl rfl⟩
theorem ZgZ (ps:List Post):1≤(PM.encL ps).length:=by
 have:=(VM.Zea ps.length).1
 unfold PM.encL
 simp only [List.length_append]
 omega
theorem ZrE (tp:Option Addr) (rv:Value) (fp:Value) (hfp:fp.oneCell'=true) (rows:List (Tr Post)) (u:List UInt8) (w:World) (hd:Zaw (fun _=>True) w tp (ZhC 0 rows)) (hA:areD (ZhC 0 rows)=true) (hr:BRow w rv (Zrw rows)) (hlen:(Zrw rows).length≤1000000000) (hrows:∀ r∈rows,isL r.2=true) :
  Calls Tryz.prog 60 #[.agg #[.pointer tp,rv,fp],.string ⟨u.toArray⟩] w (Zbe (Zrf rows u) w):=by
 obtain ⟨p,cap,rfl,hlc,hcm⟩:=hr.shape
 unfold maxLen at hcm
 obtain ⟨q,hq⟩:∃ q,w.heap.size=q:=⟨_,rfl⟩
 obtain ⟨wa,hwa⟩:∃ wa,w.alloc (.cells #[.pointer tp,.slice p (Zrw rows).length cap,fp] 84)=wa:=⟨_,rfl⟩
 have hba:Below w.heap.size w wa:=by rw [← hwa];exact (Below.refl _ _).alloc (Nat.le_refl _) _
 have T0:Hid (Zbz wa q 84 (.pointer tp) (.slice p (Zrw rows).length cap) fp):=Lib.hid (by rw [← hwa,← hq];exact ZxD w 84 _ _ _)
 obtain ⟨x0,x1,x2⟩:=T0.out.cells
 have HG:=Lib.hid (DT.ZkC tp (ZhC 0 rows) u wa (hd.below hba) hA)
 have HR:=Lib.hid (BRow.below hr hba)
 have HBA:=Lib.hid hba
 have HWA:=Lib.hid hwa
 rcases ZhN rows 0 u with ⟨h1,h2⟩ | ⟨k,hk,h1,h2,h3⟩
 ·rw [h1] at HG
  rw [h2]
  clear hd hr hba hwa h1 h2 hA hrows
  go_enter Tryz.func60,Tryz.ntmps60
  go_wp2_with fail
  rw [HWA.out]
  go_wp2_with fail
  refine HG.out.mono ?_
  rintro e w2 ⟨rfl,hb2⟩
  have HB2:=Lib.hid (HBA.out.trans (hb2.mono HBA.out.size))
  clear hb2 HG x0 x1 x2
  have HB3:=Lib.hid (fun o=>HB2.out.alloc HB2.out.size o)
  simp only [Option.getD_none,Option.isSome_none,entV]
  go_wp2_with fail
  go_ret
  exact ⟨_,rfl,ZrP _,HB3.out _⟩
 ·obtain ⟨hpc,hle⟩:=ZrH hk
  have hpos:=ZgZ rows[k].2
  have hL:=hrows _ (List.getElem_mem hk)
  rw [h1,Int.zero_add] at HG
  rw [h2]
  obtain ⟨ps,hps⟩:∃ ps,rows[k].2=ps:=⟨_,rfl⟩
  rw [hps] at HG hpc hle hpos hL ⊢
  have hdec:PM.decO (PM.encL ps)=some ps:=PM.Zf9 (by omega) ⟨hL,rfl⟩
  obtain ⟨E,hE⟩:∃ E,PM.encL ps=E:=⟨_,rfl⟩
  rw [hE] at HG hpc hle hpos hdec
  obtain ⟨o,ho⟩:∃ o,(Zrw (rows.take k)).length=o:=⟨_,rfl⟩
  rw [ho] at HG hpc hle
  obtain ⟨X,hX⟩:∃ X,Zrw rows=X:=⟨_,rfl⟩
  rw [hX] at hr hlen hlc T0 HR HWA x1 hwa hpc hle ⊢
  obtain ⟨b,off,rfl,_,_⟩:=BIn.at_ HR.out (k:=0) (by omega)
  have HDC:=Lib.hid (fun W v (h:BRow W v E)=>PW.Zgj v E W h (by omega))
  rw [hdec] at HDC
  have hne:¬ cap=o:=by omega
  have hP:∀ W,Below wa.heap.size wa W→BRow W (.slice (some ⟨b,off+o,none⟩) E.length (cap - o)) E:=fun W hW=>by
   have h:=((BRow.below HR.out hW).drop o (by omega)).take E.length (by omega)
   rw [if_neg hne,Option.map_some,Zb5,hpc] at h
   exact h
  have HP:=Lib.hid hP
  have i1:(o:Int)≤(o:Int)+(E.length:Int):=by omega
  have i2:(o:Int)+(E.length:Int)≤(cap:Int):=by omega
  clear hd hr hba hwa h1 h2 hA hrows hP hdec hX hE hps hpc hL
  go_enter Tryz.func60,Tryz.ntmps60
  go_wp2_with fail
  rw [HWA.out]
  go_wp2_with fail
  refine HG.out.mono ?_
  rintro e w2 ⟨rfl,hb2⟩
  simp only [Option.getD_some,Option.isSome_some,entV]
  have t2:=T0.out.below hb2 T0.out.lt
  have hbx:Below w2.heap.size w2 (w2.alloc (.cells #[.string ⟨u.toArray⟩,.int .i64 (o:Int),.int .i64 (E.length:Int),.int .i64 (ps.length:Int)] 102)):=(Below.refl _ _).alloc (Nat.le_refl _) _
  obtain ⟨y0,y1,y2⟩:=(t2.below hbx t2.lt).cells
  have HB3:=Lib.hid (hb2.trans (hbx.mono hb2.size))
  clear hb2 HG x0 x1 x2 T0 hbx t2
  go_wp2_with fail
  refine (HDC.out _ _ (HP.out _ HB3.out)).mono ?_
  rintro e w4 ⟨v4,rfl,hp4,hb4⟩
  obtain ⟨p4,c4,rfl,_⟩:=POn.shape hp4
  have HP4:=Lib.hid hp4
  have HB4:=Lib.hid (HBA.out.trans ((HB3.out.trans (hb4.mono HB3.out.size)).mono HBA.out.size))
  clear hp4 hb4
  go_wp2_with fail
  go_ret
  exact ⟨_,rfl,HP4.out,HB4.out⟩
theorem Zom (tv rv:Value) (ht:tv.oneCell'=true) (hrv:rv.oneCell'=true) (u:List UInt8) (w:World):Calls Tryz.prog 61 #[.agg #[tv,rv,.pointer none],.string ⟨u.toArray⟩] w fun e w'=>e=.returned (.bool false)∧Below w.heap.size w w':=by
 have HB:=Lib.hid ((Below.refl w.heap.size w).alloc (Nat.le_refl _) (.cells #[tv,rv,.pointer none] 84))
 go_enter Tryz.func61,Tryz.ntmps61
 go_wp2_with fail
 go_ret
 exact ⟨rfl,HB.out⟩
theorem Zon (tv rv:Value) (ht:tv.oneCell'=true) (hrv:rv.oneCell'=true) (g b cap:Nat) (L u:List UInt8) (w:World) (h:BL.FAt w g b cap L) (hu:u.length≤1000000):Calls Tryz.prog 61 #[.agg #[tv,rv,.pointer (some ⟨g,0,none⟩)],.string ⟨u.toArray⟩] w fun e w'=>e=.returned (.bool (BM.mayL L u))∧Below w.heap.size w w':=by
 obtain ⟨q,hq⟩:∃ q,w.heap.size=q:=⟨_,rfl⟩
 obtain ⟨wa,hwa⟩:∃ wa,w.alloc (.cells #[tv,rv,.pointer (some ⟨g,0,none⟩)] 84)=wa:=⟨_,rfl⟩
 have hba:Below w.heap.size w wa:=by rw [← hwa];exact (Below.refl _ _).alloc (Nat.le_refl _) _
 have T0:Hid (Zbz wa q 84 tv rv (.pointer (some ⟨g,0,none⟩))):=Lib.hid (by rw [← hwa,← hq];exact ZxD w 84 _ _ _)
 obtain ⟨x0,x1,x2⟩:=T0.out.cells
 have HM:=Lib.hid (BL.Zoi g b cap L u wa (h.below hba) hu)
 have HBA:=Lib.hid hba
 have HWA:=Lib.hid hwa
 clear h hba hwa
 go_enter Tryz.func61,Tryz.ntmps61
 go_wp2_with fail
 rw [HWA.out]
 go_wp2_with fail
 refine HM.out.mono ?_
 rintro e w2 ⟨rfl,hb2⟩
 have HB2:=Lib.hid (HBA.out.trans (hb2.mono HBA.out.size))
 clear hb2
 go_wp2_with fail
 go_ret
 exact ⟨rfl,HB2.out⟩
theorem Zxp (tp:Option Addr) (rv fp:Value) (hrv:rv.oneCell'=true) (hfp:fp.oneCell'=true) (l:List Ent) (w:World) (hd:Zaw (fun _=>True) w tp l):Calls Tryz.prog 68 #[.agg #[.pointer tp,rv,fp]] w fun e w'=>e=.returned (.int .i64 (l.length:Int))∧Below w.heap.size w w':=by
 obtain ⟨q,hq⟩:∃ q,w.heap.size=q:=⟨_,rfl⟩
 obtain ⟨wa,hwa⟩:∃ wa,w.alloc (.cells #[.pointer tp,rv,fp] 84)=wa:=⟨_,rfl⟩
 have hba:Below w.heap.size w wa:=by rw [← hwa];exact (Below.refl _ _).alloc (Nat.le_refl _) _
 have T0:Hid (Zbz wa q 84 (.pointer tp) rv fp):=Lib.hid (by rw [← hwa,← hq];exact ZxD w 84 _ _ _)
 obtain ⟨x0,x1,x2⟩:=T0.out.cells
 have HL:=Lib.hid (DT.Zni tp l wa (hd.below hba))
 have HBA:=Lib.hid hba
 have HWA:=Lib.hid hwa
 clear hd hba hwa
 go_enter Tryz.func68,Tryz.ntmps68
 go_wp2_with fail
 rw [HWA.out]
 go_wp2_with fail
 refine HL.out.mono ?_
 rintro e w2 ⟨rfl,rfl⟩
 go_wp2_with fail
 go_ret
 exact ⟨rfl,HBA.out⟩
end Go.Proofs.YtdijhifdjbnkfaaGreat.SG
namespace Go.Proofs.YtdijhifdjbnkfaaGreat.SG
open Go Go.RowKit MM
open EV (docC fldC)
open SM (Doc isS)
open DT (Zaw)
open GM (ZhC Zrw Zuv Zjt Ziw Foot)
structure SegD (S:Nat→Prop) (w:World) (l:List Doc) (ev:Value) (tp:Option Addr) (rv:Value) (fp:Option Addr):Prop where
 docs:ROn docC S w ev l
 dict:Zaw S w tp (ZhC 0 (Zuv l))
 rws:ROn cU8 S w rv (Zrw (Zuv l))
 fil:(l=[]∧fp=none)∨(l≠[]∧∃ g b cap,fp=some ⟨g,0,none⟩∧BL.FAt w g b cap (Ziw (Zuv l))∧S g∧S b)
theorem SegD.keep {S T:Nat→Prop} {w w':World} {l:List Doc} {ev:Value} {tp:Option Addr} {rv:Value} {fp:Option Addr} (h:SegD S w l ev tp rv fp) (hk:Kep S w w') (hT:∀ b,S b→T b):SegD T w' l ev tp rv fp:=by
 refine ⟨h.docs.keep hk fun b _ hb=>hT b hb,h.dict.keep hk fun b _ hb=>hT b hb,h.rws.keep hk fun b _ hb=>hT b hb,?_⟩
 rcases h.fil with h0 | ⟨h0,g,b,cap,e,h1,h2,h3⟩
 ·exact .inl h0
 ·exact .inr ⟨h0,g,b,cap,e,h1.keep hk h2 h3,hT g h2,hT b h3⟩
theorem SegD.below {w w':World} {l:List Doc} {ev:Value} {tp:Option Addr} {rv:Value} {fp:Option Addr} (h:SegD (fun _=>True) w l ev tp rv fp) (hb:Below w.heap.size w w'):SegD (fun _=>True) w' l ev tp rv fp:=h.keep (ZmT _ hb) fun _ h=>h
theorem SegD.nobody (S:Nat→Prop) (w:World):SegD S w [] (.slice none 0 0) none (.slice none 0 0) none:=⟨ROn.nil_ _ _,.inl ⟨rfl,rfl⟩,ROn.nil_ _ _,.inl ⟨rfl,rfl⟩⟩
def segA (ev:Value) (tp:Option Addr) (rv:Value) (fp:Option Addr) (F:Foot):Array Value :=
 #[ev,.pointer tp,rv,.pointer fp,.int .i64 0,.int .i64 0,.int .i64 F.1,.int .i64 F.2.1,.int .i64 F.2.2.1,.int .i64 F.2.2.2.1,.int .i64 (F.2.2.2.2:Int)]
def SegP (S:Nat→Prop) (w:World) (p:Option Addr) (l:List Doc):Prop :=
 (p=none∧l=[])∨∃ g ev tp rv fp,p=some ⟨g,0,none⟩∧S g∧w.heap[g]? = some (.cells (segA ev tp rv fp (Zjt l)) 88 (0,0))∧SegD S w l ev tp rv fp
theorem SegP.keep {S T:Nat→Prop} {w w':World} {p:Option Addr} {l:List Doc} (h:SegP S w p l) (hk:Kep S w w') (hT:∀ b,S b→T b):SegP T w' p l:=by
 rcases h with h | ⟨g,ev,tp,rv,fp,h1,h2,h3,h4⟩
 ·exact .inl h
 ·exact .inr ⟨g,ev,tp,rv,fp,h1,hT g h2,(hk.block g (Array.getElem?_eq_some_iff.1 h3).1 h2).trans h3,h4.keep hk hT⟩
theorem SegP.any {S:Nat→Prop} {w:World} {p:Option Addr} {l:List Doc} (h:SegP S w p l):SegP (fun _=>True) w p l:=h.keep (Kep.refl _ _) fun _ _=>trivial
theorem SegP.below {w w':World} {p:Option Addr} {l:List Doc} (h:SegP (fun _=>True) w p l) (hb:Below w.heap.size w w'):SegP (fun _=>True) w' p l:=h.keep (ZmT _ hb) fun _ h=>h
def Zbq (l:List Doc) (w:World) (e:Ending) (w':World):Prop :=
 ∃ ev tp rv fp,e=.returned (.agg #[ev,.pointer tp,rv,.pointer fp,.int .i64 0,.int .i64 0,.int .i64 (Zjt l).1,.int .i64 (Zjt l).2.1,.int .i64 (Zjt l).2.2.1,.int .i64 (Zjt l).2.2.2.1,.int .i64 ((Zjt l).2.2.2.2:Int)])∧SegD (fun _=>True) w' l ev tp rv fp∧Below w.heap.size w w'
theorem Zma:(Tryz.prog.info? 88).map (·.size)=some 11:=by kernel_rfl
theorem ZpZ (p:Option Addr) (l:List Doc) (w:World) (h:SegP (fun _=>True) w p l):Calls Tryz.prog 57 #[.pointer p] w (Zbq l w):=by
 rcases h with ⟨rfl,rfl⟩ | ⟨g,ev,tp,rv,fp,rfl,_,hg,hD⟩
 ·obtain ⟨q,hq⟩:∃ q,w.heap.size=q:=⟨_,rfl⟩
  obtain ⟨wa,hwa⟩:∃ wa,w.alloc (.cells #[.slice none 0 0,.pointer none,.slice none 0 0,.pointer none,.int .i64 0,.int .i64 0,.int .i64 0,.int .i64 0,.int .i64 0,.int .i64 0,.int .i64 0] 88)=wa:=⟨_,rfl⟩
  have HB:=Lib.hid (show Below w.heap.size w wa by rw [← hwa];exact (Below.refl _ _).alloc (Nat.le_refl _) _)
  have HG:Hid (wa.heap[q]? = some (.cells #[.slice none 0 0,.pointer none,.slice none 0 0,.pointer none,.int .i64 0,.int .i64 0,.int .i64 0,.int .i64 0,.int .i64 0,.int .i64 0,.int .i64 0] 88 (0,0))):=Lib.hid (by rw [← hwa,← hq];exact heap_alloc_new _ _)
  have HWA:=Lib.hid hwa
  clear hwa
  go_enter Tryz.func57,Tryz.ntmps57
  go_wp2_with fail
  rw [HWA.out]
  refine bodyPost_ret (Ztc (p:=2) rfl Tryz.underlying88 rfl _ (by exact Zma) _ _ q rfl HG.out) rfl ⟨_,_,_,_,rfl,SegD.nobody _ _,HB.out⟩
 ·obtain ⟨pe,ce,rfl,_⟩:=hD.docs.shape
  obtain ⟨pr,cr,rfl,_⟩:=hD.rws.shape
  unfold Zbq
  obtain ⟨⟨f0,f1,f2,f3,f4⟩,hF⟩:∃ F,Zjt l=F:=⟨_,rfl⟩
  rw [hF] at hg ⊢
  have hbz:Below w.heap.size w (w.alloc (.cells #[.slice none 0 0,.pointer none,.slice none 0 0,.pointer none,.int .i64 0,.int .i64 0,.int .i64 0,.int .i64 0,.int .i64 0,.int .i64 0,.int .i64 0] 88)):=(Below.refl _ _).alloc (Nat.le_refl _) _
  have hg2:=(hbz.block g (Array.getElem?_eq_some_iff.1 hg).1).trans hg
  have c0:(w.alloc (.cells #[.slice none 0 0,.pointer none,.slice none 0 0,.pointer none,.int .i64 0,.int .i64 0,.int .i64 0,.int .i64 0,.int .i64 0,.int .i64 0,.int .i64 0] 88)).cell? ⟨g,0,none⟩=some (.slice pe l.length ce):=Zud hg2 0
  have c1:(w.alloc (.cells #[.slice none 0 0,.pointer none,.slice none 0 0,.pointer none,.int .i64 0,.int .i64 0,.int .i64 0,.int .i64 0,.int .i64 0,.int .i64 0,.int .i64 0] 88)).cell? ⟨g,1,none⟩=some (.pointer tp):=Zud hg2 1
  have c2:(w.alloc (.cells #[.slice none 0 0,.pointer none,.slice none 0 0,.pointer none,.int .i64 0,.int .i64 0,.int .i64 0,.int .i64 0,.int .i64 0,.int .i64 0,.int .i64 0] 88)).cell? ⟨g,2,none⟩=some (.slice pr (Zrw (Zuv l)).length cr):=Zud hg2 2
  have c3:(w.alloc (.cells #[.slice none 0 0,.pointer none,.slice none 0 0,.pointer none,.int .i64 0,.int .i64 0,.int .i64 0,.int .i64 0,.int .i64 0,.int .i64 0,.int .i64 0] 88)).cell? ⟨g,3,none⟩=some (.pointer fp):=Zud hg2 3
  have c4:(w.alloc (.cells #[.slice none 0 0,.pointer none,.slice none 0 0,.pointer none,.int .i64 0,.int .i64 0,.int .i64 0,.int .i64 0,.int .i64 0,.int .i64 0,.int .i64 0] 88)).cell? ⟨g,4,none⟩=some (.int .i64 0):=Zud hg2 4
  have c5:(w.alloc (.cells #[.slice none 0 0,.pointer none,.slice none 0 0,.pointer none,.int .i64 0,.int .i64 0,.int .i64 0,.int .i64 0,.int .i64 0,.int .i64 0,.int .i64 0] 88)).cell? ⟨g,5,none⟩=some (.int .i64 0):=Zud hg2 5
  have c6:(w.alloc (.cells #[.slice none 0 0,.pointer none,.slice none 0 0,.pointer none,.int .i64 0,.int .i64 0,.int .i64 0,.int .i64 0,.int .i64 0,.int .i64 0,.int .i64 0] 88)).cell? ⟨g,6,none⟩=some (.int .i64 f0):=Zud hg2 6
  have c7:(w.alloc (.cells #[.slice none 0 0,.pointer none,.slice none 0 0,.pointer none,.int .i64 0,.int .i64 0,.int .i64 0,.int .i64 0,.int .i64 0,.int .i64 0,.int .i64 0] 88)).cell? ⟨g,7,none⟩=some (.int .i64 f1):=Zud hg2 7
  have c8:(w.alloc (.cells #[.slice none 0 0,.pointer none,.slice none 0 0,.pointer none,.int .i64 0,.int .i64 0,.int .i64 0,.int .i64 0,.int .i64 0,.int .i64 0,.int .i64 0] 88)).cell? ⟨g,8,none⟩=some (.int .i64 f2):=Zud hg2 8
  have c9:(w.alloc (.cells #[.slice none 0 0,.pointer none,.slice none 0 0,.pointer none,.int .i64 0,.int .i64 0,.int .i64 0,.int .i64 0,.int .i64 0,.int .i64 0,.int .i64 0] 88)).cell? ⟨g,9,none⟩=some (.int .i64 f3):=Zud hg2 9
  have c10:(w.alloc (.cells #[.slice none 0 0,.pointer none,.slice none 0 0,.pointer none,.int .i64 0,.int .i64 0,.int .i64 0,.int .i64 0,.int .i64 0,.int .i64 0,.int .i64 0] 88)).cell? ⟨g,10,none⟩=some (.int .i64 (f4:Int)):=Zud hg2 10
  obtain ⟨X,hX⟩:∃ X:Array Value,#[.slice pe l.length ce,.pointer tp,.slice pr (Zrw (Zuv l)).length cr,.pointer fp,.int .i64 0,.int .i64 0,.int .i64 f0,.int .i64 f1,.int .i64 f2,.int .i64 f3,.int .i64 (f4:Int)]=X:=⟨_,rfl⟩
  have hxs:X.size=11:=by rw [← hX];rfl
  have hx1:X.all (·.oneCell')=true:=by rw [← hX];simp [Value.oneCell']
  have hz:(w.alloc (.cells #[.slice none 0 0,.pointer none,.slice none 0 0,.pointer none,.int .i64 0,.int .i64 0,.int .i64 0,.int .i64 0,.int .i64 0,.int .i64 0,.int .i64 0] 88)).heap[w.heap.size]? = some (.cells #[.slice none 0 0,.pointer none,.slice none 0 0,.pointer none,.int .i64 0,.int .i64 0,.int .i64 0,.int .i64 0,.int .i64 0,.int .i64 0,.int .i64 0] 88 (0,0)):=heap_alloc_new _ _
  have hi:(Tryz.prog.info? 88).map (·.size)=some X.size:=by rw [hxs];exact Zma
  have HG:=Lib.hid (setRow_heap (w.alloc (.cells #[.slice none 0 0,.pointer none,.slice none 0 0,.pointer none,.int .i64 0,.int .i64 0,.int .i64 0,.int .i64 0,.int .i64 0,.int .i64 0,.int .i64 0] 88)) w.heap.size _ X _ _ hz)
  have hba:Below w.heap.size w ((w.alloc (.cells #[.slice none 0 0,.pointer none,.slice none 0 0,.pointer none,.int .i64 0,.int .i64 0,.int .i64 0,.int .i64 0,.int .i64 0,.int .i64 0,.int .i64 0] 88)).setRow w.heap.size X):=hbz.trans ⟨rfl,rfl,rfl,by simp [World.setRow],fun k hk=>setRow_other _ _ k X (by omega)⟩
  have HD:=Lib.hid (hD.below hba)
  have HB:=Lib.hid hba
  have HI:=Lib.hid hi
  have HXS:Hid ((#[.slice none 0 0,.pointer none,.slice none 0 0,.pointer none,.int .i64 0,.int .i64 0,.int .i64 0,.int .i64 0,.int .i64 0,.int .i64 0,.int .i64 0]:Array Value).size=X.size):=Lib.hid (by rw [hxs];rfl)
  have HX1:=Lib.hid hx1
  have HZ:=Lib.hid hz
  have HX:=Lib.hid hX
  clear hba hbz hg hg2 hD hF hX hz hi hx1 hxs
  go_enter Tryz.func57,Tryz.ntmps57
  go_wp2_with (go_loud (refine wpList_store_row rfl 88 (.tmp 2) (.tmp 8) rfl w.heap.size X rfl (by rw [← HX.out];rfl) 88 #[.slice none 0 0,.pointer none,.slice none 0 0,.pointer none,.int .i64 0,.int .i64 0,.int .i64 0,.int .i64 0,.int .i64 0,.int .i64 0,.int .i64 0] HZ.out HI.out HXS.out HX1.out ?_))
  refine bodyPost_ret (v:=.agg X) (results_cell_row rfl _ _ w.heap.size 88 X (0,0) _ rfl HG.out Tryz.underlying88 rfl HI.out) rfl ⟨_,_,_,_,by rw [← HX.out],HD.out,HB.out⟩
end Go.Proofs.YtdijhifdjbnkfaaGreat.SG
