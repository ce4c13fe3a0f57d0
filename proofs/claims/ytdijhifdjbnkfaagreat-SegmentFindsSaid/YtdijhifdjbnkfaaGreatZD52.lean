import Derived.Lib.ConvBytes
import Derived.Test.YtdijhifdjbnkfaaGreatZD36
import Derived.Test.YtdijhifdjbnkfaaGreatZD47
set_option maxRecDepth 100000
set_option maxHeartbeats 8000000
set_option linter.unusedVariables false
set_option linter.unusedSimpArgs false
namespace Go.Proofs.YtdijhifdjbnkfaaGreat.MM
open Go Go.RowKit
theorem ZfG (w:World) (l:List UInt8) (h:l.length≤1000000000000) :
  ∃ cap W,(convert 9 23 (.string ⟨l.toArray⟩)).run Tryz.prog w=.ok (.slice (some ⟨w.heap.size,0,none⟩) l.length cap) W∧ROn cU8 (fun b=>b=w.heap.size) W (.slice (some ⟨w.heap.size,0,none⟩) l.length cap) l∧Below w.heap.size w W∧W.heap.size=w.heap.size+1∧∃ cur fr,W.heap[w.heap.size]? = some (.cells cur 5 fr):=by
 have hsz:(⟨l.toArray⟩:ByteArray).size=l.length:=by rw [Lib.size_eq]
 have hge:=grownCap_ge w l.length 0 5
 have hle:=grownCap_le_maxLen w l.length 0 5 (by unfold maxLen;omega)
 have hrun:=Lib.run_convert_string_bytes w 9 23 5 ⟨l.toArray⟩ Tryz.underlying9 Tryz.underlying23 Tryz.underlying5
 rw [hsz] at hrun
 refine ⟨_,_,hrun,?_,⟨rfl,rfl,rfl,by rw [Lib.bytesWorld_size];omega,fun k hk=>Lib.bytesWorld_at_old w 5 _ k hk⟩,Lib.bytesWorld_size _ _ _,_,_,Lib.bytesWorld_at_new _ _ _⟩
 refine ⟨some ⟨w.heap.size,0,none⟩,_,l.map fun c=>[.int .u8 (c.toNat:Int)],rfl,hge,hle,fun h=>(Option.some_ne_none _ h).elim,⟨by simp,fun i hi hi'=>by simp [cU8,cOne]⟩,.inr ⟨w.heap.size,0,rfl,by rw [Lib.bytesWorld_size];omega,rfl,fun j u hj => ?_⟩⟩
 rw [Zi3] at hj
 have hlt:j<l.length:=by have:=(List.getElem?_eq_some_iff.1 hj).1;simpa using this
 rw [Nat.zero_add,Lib.bytesWorld_cell w 5 ⟨l.toArray⟩ j (by rw [hsz];exact hlt)]
 rw [List.getElem?_map,List.getElem?_eq_getElem hlt] at hj
 simp at hj
 rw [← hj]
 simp [hlt]
end Go.Proofs.YtdijhifdjbnkfaaGreat.MM
namespace Go.Proofs.YtdijhifdjbnkfaaGreat.DT
open Go Go.RowKit MM DM VM
theorem blkE:Elem blkC Tryz.prog 168 176 40:=⟨Tryz.underlying168,by
 have h:(Tryz.prog.info? 176).map (fun i=>(i.zero,i.size,i.bytes))=some (some (.agg #[.string ⟨#[]⟩,.slice none 0 0]),2,40):=by kernel_rfl
 obtain ⟨i,h1,h2,h3,h4⟩:=info_parts h
 exact ⟨i,_,h1,h2,h3,h4,rfl⟩⟩
theorem Zfd {f n a:Nat} {t L:List UInt8} {cs:List (List Ent)} {o:Bool} (h:a<n) (hf:0<f):Ze9 f n a t cs L o =
  if ZcZ n a t (ZhI 16 [] [] (Zyg L.length L o).1 false)=true then Ze9 (f - 1) n (a+16) (Znc t (ZhI 16 [] [] (Zyg L.length L o).1 false).1) (cs++[(ZhI 16 [] [] (Zyg L.length L o).1 false).1]) (Zyg L.length L o).2.1 (Zyg L.length L o).2.2 else none:=by
 obtain ⟨f,rfl⟩:∃ g,f=g+1:=⟨f - 1,by omega⟩
 rw [Ze9,if_pos h]
 rfl
theorem Zfb {f n a:Nat} {t L:List UInt8} {cs:List (List Ent)} {o:Bool} (h:¬ a<n):Ze9 f n a t cs L o=some (cs,L,o):=by
 cases f with
 | zero=>rfl
 | succ f=>rw [Ze9,if_neg h]
def finO (n:Nat):Option (List (List Ent)×List UInt8×Bool)→Option (Nat×List (List Ent))
 | none=>none
 | some (cs,l,o)=>if o=true∨l≠[] then none else some (n,cs)
theorem ZpN (b:List UInt8):ZpM b=finO (Zo4 262144 b false).1 (Ze9 16384 (Zo4 262144 b false).1 0 [] [] (Zo4 262144 b false).2.1 (Zo4 262144 b false).2.2):=by
 unfold ZpM finO
 split<;>rename_i h<;>rw [h]
theorem Znf {l:List Ent} {t:List UInt8} {m:Nat} (hm:l.length=m) (h:0<m):Znc t l=(l[m - 1]'(by omega)).1:=by
 subst hm
 unfold Znc
 rw [List.getLast?_eq_getElem?,List.getElem?_eq_getElem (by omega)]
 rfl
theorem Zyn (m:Int) (l:List UInt8) (o:Bool):(Zyg m l o).2.1.length≤l.length:=by
 unfold Zyg VG.Zs7
 dsimp only
 split
 ·rw [List.length_drop];omega
 ·simp
theorem Zpi (m:Nat) (l:List UInt8) (o:Bool):(Zo4 m l o).2.1.length≤l.length:=by
 unfold Zo4 VG.Zs0
 split
 ·dsimp only
  split
  ·rw [List.length_drop];omega
  ·simp
 ·simp
def Opn (B R0 R1:Nat) (w:World) (u:Value) (bl:List Blk):Prop :=
 ∃ S:Nat→Prop,(∀ b,S b→b<w.heap.size∧B≤b∧b≠R0∧b≠R1∧∃ cur fr,w.heap[b]? = some (.cells cur 5 fr))∧OwnX blkC 176 B S w u bl∧∀ g,u.ownBlock=some g→g≠R0∧g≠R1
theorem Opn.keep {B R0 R1:Nat} {T:Nat→Prop} {w w':World} {u:Value} {bl:List Blk} (h:Opn B R0 R1 w u bl) (hk:Kep T w w') (hT:∀ b,B≤b→b≠R0→b≠R1→T b):Opn B R0 R1 w' u bl:=by
 obtain ⟨S,h1,h2,h3⟩:=h
 refine ⟨S,fun b hb => ?_,h2.keep hk (fun b _ hb=>hT b (h1 b hb).2.1 (h1 b hb).2.2.1 (h1 b hb).2.2.2.1) (fun g hg=>hT g (h2.cells hg).1 (h3 g hg).1 (h3 g hg).2),h3⟩
 obtain ⟨a1,a2,a3,a4,cur,fr,a5⟩:=h1 b hb
 exact ⟨Nat.lt_of_lt_of_le a1 hk.size,a2,a3,a4,cur,fr,(hk.block b a1 (hT b a2 a3 a4)).trans a5⟩
theorem Opn.ron {B R0 R1:Nat} {w:World} {u:Value} {bl:List Blk} (h:Opn B R0 R1 w u bl):ROn blkC (fun b=>B≤b) w u bl:=by
 obtain ⟨S,h1,h2,h3⟩:=h
 exact h2.ron (fun g hg=>(h2.cells hg).1) (fun b _ hb=>(h1 b hb).2.1)
def Za9 (o:Option (List Ent)) (w:World) (e:Ending) (w':World):Prop :=
 ∃ p,e=.returned (.tuple #[.pointer p,.int .i64 (if o.isSome then 0 else 110)])∧(o=none→p=none)∧(∀ l,o=some l→∃ g,p=some ⟨g,0,none⟩∧Zav (fun b=>w.heap.size≤b) w' g l)∧Below w.heap.size w w'
theorem ZpO (v:Value) (bs:List UInt8) (w:World) (hr:BRow w v bs) (hlen:bs.length≤1000000000000):Calls Tryz.prog 51 #[v] w (Za9 (decD bs) w):=by
 have hmx:Tryz.prog.follows .mixedOrders=true:=by kernel_rfl
 obtain ⟨R,hR⟩:∃ R,w.heap.size=R:=⟨_,rfl⟩
 obtain ⟨p0,c0,rfl,_⟩:=hr.shape
 obtain ⟨wa,hwa⟩:∃ wa,w.alloc (.cells #[.slice p0 bs.length c0,.bool false] 166)=wa:=⟨_,rfl⟩
 have hba:Below w.heap.size w wa:=by rw [← hwa];exact (Below.refl _ _).alloc (Nat.le_refl _) _
 have hsa:wa.heap.size=R+1:=by rw [← hwa,← hR];simp
 have hra:Rd w.heap.size wa R bs false:=by
  refine ⟨.slice p0 bs.length c0,?_,BIn.below hr hba⟩
  rw [← hwa,← hR]
  exact heap_alloc_new _ _
 have HNUM:=Lib.hid (Zpj w.heap.size R 262144 bs false wa (by omega) hra (by omega))
 have hle:=Zpd 262144 bs false
 have hl0:=Zpi 262144 bs false
 have hop:=ZpN bs
 rw [ZpQ] at hop
 obtain ⟨⟨n,L0,o0⟩,hn⟩:∃ s,Zo4 262144 bs false=s:=⟨_,rfl⟩
 rw [hn] at HNUM hle hop hl0
 dsimp only at HNUM hle hop hl0
 obtain ⟨D,hD⟩:∃ D,decD bs=D:=⟨_,rfl⟩
 rw [hD] at hop ⊢
 have HOP:Hid (∀ f,Ze9 16384 n 0 [] [] L0 o0=f→D.map (fun l=>(l.length,Ze4 l))=finO n f):=Lib.hid (fun f hf=>by rw [hop,hf])
 obtain ⟨FIN,hFIN⟩:∃ f,Ze9 16384 n 0 [] [] L0 o0=f:=⟨_,rfl⟩
 have HFIN:=Lib.hid (HOP.out FIN hFIN)
 have HF0:Hid (Ze9 (16384 - 0) n (16*0) [] [] L0 o0=FIN):=Lib.hid hFIN
 have HBA:=Lib.hid hba
 have HWA:=Lib.hid hwa
 have HTXT:=Lib.hid (fun (L:List UInt8) o W (h:Rd w.heap.size W R L o) (hl:(L.length:Int)≤9223372036854775807)=>Zxx w.heap.size R (L.length:Int) L o W (by omega) hl h (by omega))
 clear hwa hba hra hn hop hD hFIN HOP hr
 go_enter Tryz.func51,Tryz.ntmps51
 go_wp2_with fail
 rw [HWA.out]
 refine HNUM.out.mono ?_
 rintro e w1 ⟨rfl,h1,k1⟩
 have hs1:=k1.size
 obtain ⟨R1,hR1⟩:∃ R,w1.heap.size=R:=⟨_,rfl⟩
 obtain ⟨w2,hw2⟩:∃ W,w1.alloc (.cells #[.int .i64 (n:Int),.slice none 0 0] 170)=W:=⟨_,rfl⟩
 have hb2:Below w1.heap.size w1 w2:=by rw [← hw2];exact (Below.refl _ _).alloc (Nat.le_refl _) _
 have HRD2:Hid (Rd w.heap.size w2 R L0 o0):=Lib.hid (h1.keep (S:=fun _=>True) (ZmT _ hb2) trivial (fun _ _=>trivial) (by omega))
 have HT2:Hid (Two w2 R1 170 (.int .i64 (n:Int)) (.slice none 0 0)):=Lib.hid (by rw [← hw2,← hR1];exact Zyf w1 170 _ _)
 have HO2:Hid (Opn w.heap.size R R1 w2 (.slice none 0 0) (([]:List (List Ent)).map ZcY)):=Lib.hid ⟨fun _=>False,fun _ h=>h.elim,OwnX.nil_ _ _ _ _,fun g hg=>by cases hg⟩
 have HB2:Hid (Below w.heap.size w w2):=Lib.hid ((HBA.out.trans (k1.below (B:=w.heap.size) (by omega) (fun b hb=>by omega))).trans (hb2.mono (by omega)))
 have HS2:Hid (R1<w2.heap.size):=Lib.hid HT2.out.lt
 have hRR:R<R1:=by omega
 have HW2:=Lib.hid hw2
 clear hw2 hb2 h1 k1 HNUM HBA HWA hs1
 go_wp2_with fail
 rw [HW2.out]
 go_loopw [6,7] (fun tv av wr=>∃ (j:Nat) (t L:List UInt8) (o:Bool) (cs:List (List Ent)) (u:Value),tv=.string ⟨t.toArray⟩∧av=.int .i64 ((16*j:Nat):Int)∧j≤16384∧cs.length=j∧L.length≤1000000000000∧Hid (Ze9 (16384 - j) n (16*j) t cs L o=FIN)∧Hid (Rd w.heap.size wr R L o)∧Hid (Two wr R1 170 (.int .i64 (n:Int)) u)∧Hid (Opn w.heap.size R R1 wr u (cs.map ZcY))∧Hid (Below w.heap.size w wr)) (fun _ av _=>n+16 - (intOf av).toNat)
 case atStart=>exact ⟨0,[],L0,o0,[],_,rfl,rfl,by omega,rfl,by omega,HF0,HRD2,HT2,HO2,HB2⟩
 case round =>
  obtain ⟨j,t,L,o,cs,u,rfl,rfl,hj,hcs,hLl,HF,HRD,HT,HO,HB⟩:=hrel
  clear HF0 HRD2 HT2 HO2 HB2 HS2 HW2
  obtain ⟨a,ha⟩:∃ a,16*j=a:=⟨_,rfl⟩
  rw [ha] at HF ⊢
  have t0:=HT.out.c0
  by_cases hlt:a<n
  ·have q1:decide ((a:Int)<(n:Int))=true:=by rw [decide_eq_true_eq];omega
   have q2:decide (a<n)=true:=by rw [decide_eq_true_eq];omega
   obtain ⟨vL,hcL,hvL⟩:=HRD.out
   obtain ⟨pL,cL,rfl,hL1,hL2⟩:=hvL.shape
   unfold maxLen at hL2
   have f0:wr.cell? ⟨R,0,none⟩=some (.slice pL L.length cL):=by rw [cell_of_row wr R 0 _ _ _ hcL];rfl
   have hfin:=HF.out
   rw [Zfd hlt (by omega)] at hfin
   have htx:=HTXT.out L o wr HRD.out (by omega)
   have hsl:=Zyi (L.length:Int) L o
   have hrl:=Zyn (L.length:Int) L o
   obtain ⟨⟨s1,L1,o1⟩,htxt⟩:∃ s,Zyg (L.length:Int) L o=s:=⟨_,rfl⟩
   rw [htxt] at hfin htx hsl hrl
   dsimp only at hfin htx hsl hrl
   obtain ⟨E,hE⟩:∃ E,ZhI 16 [] [] s1 false=E:=⟨_,rfl⟩
   rw [hE] at hfin
   have HFI:=Lib.hid hfin
   have HTX:=Lib.hid htx
   have HE:=Lib.hid hE
   clear hfin htx htxt hE hcL hvL HF HRD
   go_wp2_with fail
   refine HTX.out.mono ?_
   rintro e w3 ⟨rfl,h3,k3⟩
   have hs3:=k3.size
   have hsR1:=HT.out.lt
   obtain ⟨q,hq⟩:∃ q,w3.heap.size=q:=⟨_,rfl⟩
   obtain ⟨cap4,w4,hconv,hrow4,hb4,hs4,cur4,fr4,hcell4⟩:=ZfG w3 s1 (by omega)
   rw [hq] at hconv hrow4 hs4 hcell4
   have hB3:Below w.heap.size w w3:=HB.out.trans (k3.below (B:=w.heap.size) (by have:=HB.out.size;omega) (fun b hb=>by omega))
   have hwq:w.heap.size≤q:=by have:=hB3.size;omega
   have hrd4:Rd w.heap.size w4 R L1 o1:=h3.keep (S:=fun _=>True) (ZmT _ hb4) trivial (fun _ _=>trivial) (by omega)
   have ht4:Two w4 R1 170 (.int .i64 (n:Int)) u:=(HT.out.keep k3 (by omega)).below hb4 (by omega)
   have ho4:Opn w.heap.size R R1 w4 u (cs.map ZcY):=(HO.out.keep k3 (fun b _ h _=>h)).keep (ZmT (fun _=>True) hb4) (fun _ _ _ _=>trivial)
   have hB4:Below w.heap.size w w4:=hB3.trans (hb4.mono (by omega))
   have hent:=ZhS w4.heap.size _ s1 w4 (Zed hrow4.any) (Nat.le_refl _)
   rw [HE.out] at hent
   have HENT:=Lib.hid hent
   have HRD4:=Lib.hid hrd4
   have HT4:=Lib.hid ht4
   have HT4L:=ht4.lt
   have HO4:=Lib.hid ho4
   have HB4:=Lib.hid hB4
   have HR4:=Lib.hid hrow4
   have HC4:=Lib.hid hcell4
   clear hent hrd4 ht4 ho4 hB4 hB3 hrow4 hcell4 h3 k3 hb4 HT HO HB HTX HTXT t0 f0
   go_wp2_with fail
   refine HENT.out.mono ?_
   rintro e w5 ⟨v5,rfl,ho5,hb5⟩
   have hs5:=hb5.size
   obtain ⟨w5rd,w5t,w5o,w5b,w5r⟩:Rd w.heap.size w5 R L1 o1∧Two w5 R1 170 (.int .i64 (n:Int)) u∧Opn w.heap.size R R1 w5 u (cs.map ZcY)∧Below w.heap.size w w5∧ROn cU8 (fun b=>b=q) w5 (.slice (some ⟨q,0,none⟩) s1.length cap4) s1 :=
    ⟨HRD4.out.keep (S:=fun _=>True) (ZmT _ hb5) trivial (fun _ _=>trivial) (by have:=HB4.out.size;omega),HT4.out.below hb5 HT4.out.lt,HO4.out.keep (ZmT (fun _=>True) hb5) (fun _ _ _ _=>trivial),HB4.out.trans (hb5.mono HB4.out.size),HR4.out.keep (ZmT _ hb5) (fun _ _ h=>h)⟩
   have w5c:=(hb5.block q (by omega)).trans HC4.out
   obtain ⟨p5,c5,rfl,hl5,hm5,_⟩:=ho5.any.shape
   have HL5:=Lib.hid (ho5.ron (T:=fun b=>w4.heap.size≤b) (fun g hg=>(ho5.cells hg).1) (fun b _ h=>h.elim))
   have HUG:Hid (∀ g,u.ownBlock=some g→w.heap.size≤g∧g<w4.heap.size∧g≠R∧g≠R1):=Lib.hid (fun g hg=>by
    obtain ⟨S,h1,h2,h3⟩:=HO4.out
    exact ⟨(h2.cells hg).1,(h2.cells hg).2.1,h3 g hg⟩)
   have HS4:Hid (w4.heap.size=q+1):=Lib.hid hs4
   have HRIS:=Lib.hid (Zty _ E.1 t w5 ho5.any)
   have t5:=w5t.c0
   have HRD5:=Lib.hid w5rd
   have HT5:=Lib.hid w5t
   have HO5:=Lib.hid w5o
   have HB5:=Lib.hid w5b
   have HR5:=Lib.hid w5r
   have HC5:=Lib.hid w5c
   obtain ⟨m,hm⟩:∃ m,min 16 (n - a)=m:=⟨_,rfl⟩
   have hsub1:(n:Int) - (a:Int)=((n - a:Nat):Int):=by omega
   have hmin1:min (16:Int) ((n:Int) - (a:Int))=(m:Int):=by omega
   have hmin2:min (16:Int) ((n - a:Nat):Int)=(m:Int):=by omega
   have hmin3:(if n - a<16 then ((n - a:Nat):Int) else 16)=(m:Int):=by split<;>omega
   have hbko:ZcZ n a t E=(!E.2.2&&(decide (E.2.1=[])&&(decide (E.1.length=m)&&Ztt t E.1))):=by unfold ZcZ;rw [hm]
   obtain ⟨okb,hokb⟩:∃ b,(!E.2.2&&decide (E.2.1=[]))=b:=⟨_,rfl⟩
   rw [← Bool.and_assoc,hokb] at hbko
   have HOK:=Lib.hid hokb
   obtain ⟨ris,hris⟩:∃ b,Ztt t E.1=b:=⟨_,rfl⟩
   rw [hris] at hbko HRIS
   have hfin:=HFI.out
   rw [hbko] at hfin
   have HFN:=Lib.hid hfin
   rw [hokb]
   have HMM:Hid (0<m∧m≤16∧min 16 (n - a)=m):=Lib.hid (by omega)
   have HDn:Hid (FIN=none→D=none):=Lib.hid (fun h=>by
    have:=HFIN.out
    rw [h] at this
    cases D with
    | none=>rfl
    | some l=>cases this)
   clear w5rd w5t w5o w5b w5r w5c ho5 hb5 HRD4 HT4 HO4 HB4 HR4 HC4 HENT hm hbko hokb hris hfin HFI hs5
   cases okb with
   | false =>
     have hf:=HFN.out
     rw [Bool.false_and,if_neg (by simp)] at hf
     obtain rfl:=HDn.out hf.symm
     clear hf HFN HFIN HDn
     go_wp2_with fail
     go_ret2
     exact ⟨none,rfl,fun _=>rfl,fun l h=>(by cases h),HB5.out⟩
   | true =>
     by_cases hEm:E.1.length=m
     ·have z1:(((E.1.length:Int)) != (m:Int))=false:=by simp [hEm]
      cases ris with
      | false =>
        have hf:=HFN.out
        rw [Bool.and_false,Bool.and_false,if_neg (by simp)] at hf
        obtain rfl:=HDn.out hf.symm
        clear hf HFN HFIN HDn hEm
        go_wp2_with fail
        refine HRIS.out.mono ?_
        rintro e w6 ⟨rfl,hb6⟩
        have HB6:=Lib.hid (HB5.out.trans (hb6.mono HB5.out.size))
        clear hb6 HRIS HB5
        go_wp2_with fail
        go_ret2
        exact ⟨none,rfl,fun _=>rfl,fun l h=>(by cases h),HB6.out⟩
      | true =>
        have HEM:=Lib.hid hEm
        clear hEm HDn
        go_wp2_with fail
        refine HRIS.out.mono ?_
        rintro e w6 ⟨rfl,hb6⟩
        have hs6:=hb6.size
        have hmm:=HMM.out
        have hem:=HEM.out
        have hf:=HFN.out
        rw [decide_eq_true hem,Bool.true_and,Bool.true_and,if_pos rfl] at hf
        obtain ⟨ok1,ok2⟩:E.2.2=false∧E.2.1=[]:=by have:=HOK.out;simpa using this
        obtain ⟨_,mE,e1,e2,_,_⟩:=ZhL 16 [] [] s1 false (by simp) (by rw [HE.out];exact ok2) (by rw [HE.out];exact ok1)
        rw [HE.out,List.nil_append] at e1
        rw [← e1] at e2
        have hblk:ZcY E.1=(E.1[0].1,s1):=by
         unfold ZcY
         rw [e2]
         congr 2
         obtain ⟨c,hc⟩:∃ c,E.1=c:=⟨_,rfl⟩
         simp only [hc] at hem ⊢
         cases c with
         | nil=>simp at hem;omega
         | cons x r=>rfl
        have hlast:Znc t E.1=(E.1[m - 1]'(by omega)).1:=Znf hem (by omega)
        rw [hlast] at hf
        have HF7:=Lib.hid hf
        obtain ⟨wd,hwd⟩:∃ wd,w6.drew=wd:=⟨_,rfl⟩
        have hbd:Below w5.heap.size w5 wd:=by rw [← hwd];exact hb6.drew
        have hsd:=hbd.size
        have HRD7:=Lib.hid (HRD5.out.keep (S:=fun _=>True) (ZmT _ hbd) trivial (fun _ _=>trivial) (by have:=HB5.out.size;omega))
        have t7:=HT5.out.below hbd HT5.out.lt
        have HT7:=Lib.hid t7
        have HO7:=Lib.hid (HO5.out.keep (ZmT (fun _=>True) hbd) (fun _ _ _ _=>trivial))
        have HB7:=Lib.hid (HB5.out.trans (hbd.mono HB5.out.size))
        have HR7:=Lib.hid (HR5.out.keep (ZmT _ hbd) (fun _ _ h=>h))
        have HC7:=Lib.hid ((hbd.block q (by have:=(Array.getElem?_eq_some_iff.1 HC5.out).1;omega)).trans HC5.out)
        have hL7:=ROn.keep HL5.out (ZmT _ hbd) (fun _ _ h=>h)
        obtain ⟨b5,off5,rfl,hb5l,hb5s,x0,_⟩:=Zht hL7 (k:=0) (by omega)
        obtain ⟨b5',off5',hb5e,_,_,x1,_⟩:=Zht hL7 (k:=m - 1) (by omega)
        simp only [Option.some.injEq,Addr.mk.injEq,and_true] at hb5e
        obtain ⟨rfl,rfl⟩:=hb5e
        rw [Nat.zero_mul,Nat.add_zero] at x0
        obtain ⟨X0,hX0⟩:∃ x,E.1[0].1=x:=⟨_,rfl⟩
        obtain ⟨X1,hX1⟩:∃ x,(E.1[m - 1]'(by omega)).1=x:=⟨_,rfl⟩
        rw [hX0] at x0 hblk
        rw [hX1] at x1 HF7
        have HBK:=Lib.hid hblk
        obtain ⟨K,hK⟩:∃ K,m - 1=K:=⟨_,rfl⟩
        rw [hK] at x1
        have hKm:(m:Int) - 1=(K:Int):=by omega
        have HX1:Hid (wd.cell? ⟨b5,off5+K*4,none⟩=some (.string ⟨X1.toArray⟩)):=Lib.hid x1
        have HUD:Hid (Two wd R1 170 (.int .i64 (n:Int)) u):=HT7
        obtain ⟨NE,hNE⟩:∃ k,E.1.length=k:=⟨_,rfl⟩
        have hNEm:NE=m:=by omega
        subst hNEm
        rw [hNE]
        have hub5:u.ownBlock≠some b5:=fun e=>by have:=(HUG.out _ e).2.1;omega
        have huR1:u.ownBlock≠some R1:=fun e=>(HUG.out _ e).2.2.2 rfl
        have hb5R1:b5≠R1:=fun e=>by have:=HT4L;omega
        have f1:=fun W (hW:Kep (fun b=>u.ownBlock≠some b) wd W)=>(hW.cell t7.lt huR1 1).trans t7.c1
        have f2:=fun W (hW:Kep (fun b=>u.ownBlock≠some b) wd W)=>(hW.cell hb5l hub5 off5).trans x0
        have HWD:=Lib.hid hwd
        clear hwd hbd hb6 hL7 x0 x1 hblk hX0 hX1 hlast hf e1 e2 t5 HRD5 HT5 HO5 HB5 HR5 HC5 HRIS HL5 hK ok1 ok2
        go_wp2_with fail
        refine RS.ZcJ (T:=fun b=>u.ownBlock≠some b) [(0,true),(1,true),(2,true),(3,true),(4,true),(5,true),(6,true),(7,true),(8,true),(9,true),(10,true),(11,false),(12,false),(13,true),(14,true)] hmx (by kernel_rfl) (fun _ _ d _ _ h=>by cases d<;>exact h) ?_
        simp only [RS.ZpY,List.map_cons,List.map_nil,List.getElem?_toArray,List.getElem?_cons_succ,List.getElem?_cons_zero]
        rw [HWD.out]
        repeat (refine RS.take (by rfl) (by intro W hW;go_simp;with_reducible rfl) ?_;simp only [Act.put,List.setIfInBounds_toArray,List.set_cons_zero,List.set_cons_succ])
        refine RS.alone (by rfl) (fun K hK => ?_)
        go_simp
        refine hK.out _ _ (ZmS _ _ _) ?_
        clear hK K
        refine RS.alone (by rfl) (fun K hK => ?_)
        obtain ⟨S,hS1,hS2,hS3⟩:=HO7.out
        have hqd:q<wd.heap.size:=(Array.getElem?_eq_some_iff.1 HC7.out).1
        have hSd:∀ b,(S b∨b=q)→b<wd.heap.size∧w.heap.size≤b∧b≠R∧b≠R1∧∃ cur fr,wd.heap[b]? = some (.cells cur 5 fr):=fun b hb=>by
         rcases hb with hb | rfl
         ·exact hS1 b hb
         ·exact ⟨hqd,hwq,by omega,by omega,_,_,HC7.out⟩
        have hO:=hS2.weak (T:=fun b=>S b∨b=q) fun b _ h=>.inl h
        have hbase:w.heap.size≤wd.heap.size:=HB7.out.size
        refine ZzB blkE _ _ rfl w.heap.size u (cs.map ZcY) wd [.string ⟨X0.toArray⟩,.slice (some ⟨q,0,none⟩) s1.length cap4] (X0,s1) rfl rfl hO (fun b _ hb=>.inr fun cur fr hc=>by
          obtain ⟨_,_,_,_,cur',fr',hc'⟩:=hSd b hb
          rw [hc] at hc'
          simp only [Option.some.injEq,Obj.cells.injEq] at hc'
          exact absurd hc'.2.1 (by decide)) (Zdb.2 ⟨_,rfl,HR7.out.weak fun b _ h=>.inr h⟩) rfl (by rw [List.length_map,hcs];unfold maxLen;omega) (by rw [List.length_map,hcs];omega) hbase ?_
        intro v8 w8 ho8 hb8 hk8 hv8
        obtain ⟨g8,c8,rfl⟩:=hv8
        refine hK.out _ _ hk8 ?_
        clear hK K
        have hka:Kep (fun b=>u.ownBlock≠some b) wd w8:=(ZmS _ _ _).trans hk8
        have hs8:=hka.size
        have huR:u.ownBlock≠some R:=fun e=>(HUG.out _ e).2.2.1 rfl
        have hRd:R<wd.heap.size:=HRD7.out.lt
        have T8:Two w8 R1 170 (.int .i64 (n:Int)) u:=(hka.block R1 t7.lt huR1).trans t7
        have hcR:∃ vv,w8.heap[R]? = some (.cells #[vv,.bool o1] 166 (0,0)):=by
         obtain ⟨vv,h1,_⟩:=HRD7.out
         exact ⟨vv,(hka.block R hRd huR).trans h1⟩
        have hg8:g8≠R∧g8≠R1:=by
         obtain ⟨_,_,cur,fr,hc⟩:=ho8.cells (g:=g8) rfl
         refine ⟨fun e => ?_,fun e => ?_⟩
         ·obtain ⟨vv,hc'⟩:=hcR
          rw [e,hc'] at hc
          simp only [Option.some.injEq,Obj.cells.injEq] at hc
          exact absurd hc.2.1 (by decide)
         ·rw [e] at hc
          have hc':=T8
          unfold Two at hc'
          rw [hc'] at hc
          simp only [Option.some.injEq,Obj.cells.injEq] at hc
          exact absurd hc.2.1 (by decide)
        have hOp:Opn w.heap.size R R1 w8 (.slice (some ⟨g8,0,none⟩) ((cs.map ZcY).length+1) c8) ((cs.map ZcY)++[(X0,s1)]):=⟨fun b=>S b∨b=q,fun b hb=>by
          obtain ⟨a1,a2,a3,a4,cur,fr,a5⟩:=hSd b hb
          have hne:u.ownBlock≠some b:=fun e=>by
           obtain ⟨_,_,cur',fr',hc⟩:=hS2.cells e
           rw [a5] at hc
           simp only [Option.some.injEq,Obj.cells.injEq] at hc
           exact absurd hc.2.1 (by decide)
          exact ⟨by omega,a2,a3,a4,cur,fr,(hka.block b a1 hne).trans a5⟩,ho8,fun g hg=>by cases hg;exact hg8⟩
        have hR8:Rd w.heap.size w8 R L1 o1:=HRD7.out.keep hka huR (fun k hk e=>by have:=(HUG.out k e).1;omega) (by omega)
        have x8:w8.cell? ⟨b5,off5+K*4,none⟩=some (.string ⟨X1.toArray⟩):=(hka.cell hb5l hub5 _).trans HX1.out
        have hB8:Below w.heap.size w w8:=HB7.out.trans hb8
        rw [← HBK.out,show cs.map ZcY++[ZcY E.1]=(cs++[E.1]).map ZcY by simp] at hOp
        obtain ⟨NB,hNB⟩:∃ k,(cs.map ZcY).length=k:=⟨_,rfl⟩
        rw [hNB] at hOp ⊢
        repeat (refine RS.take (by rfl) (by intro W hW;go_simp;with_reducible rfl) ?_;simp only [Act.put,List.setIfInBounds_toArray,List.set_cons_zero,List.set_cons_succ])
        refine RS.done ?_
        simp only [List.length_cons,List.length_nil,List.drop_succ_cons,List.drop_zero,Nat.zero_add,Nat.reduceAdd]
        have c81:=T8.c1
        have f81:=T8.f1
        have hk9:Kep (fun b=>b≠R1) w8 (w8.setCell ⟨R1,1,none⟩ (.slice (some ⟨g8,0,none⟩) (NB+1) c8)):=Zm0 _
        have HT9:=Lib.hid (T8.s1 (.slice (some ⟨g8,0,none⟩) (NB+1) c8))
        have HO9:=Lib.hid (hOp.keep hk9 (fun b _ _ h=>h))
        have HRD9:=Lib.hid (hR8.keep hk9 (by omega) (fun k hk=>by omega) (by omega))
        have HB9:=Lib.hid (hB8.trans (hk9.below (B:=w.heap.size) (by omega) (fun b hb=>by omega)))
        have x9:(w8.setCell ⟨R1,1,none⟩ (.slice (some ⟨g8,0,none⟩) (NB+1) c8)).cell? ⟨b5,off5+K*4,none⟩=some (.string ⟨X1.toArray⟩):=(hk9.cell (by omega) hb5R1 _).trans x8
        have hKN:(K:Int)<(NE:Int):=by omega
        clear hk9 hOp hR8 x8 hB8 T8 hka ho8 hb8 hk8 hO hS1 hS2 hS3 hSd HT7 HO7 HB7 HR7 HC7 HRD7 f1 f2 t7 HX1 HUD hcR
        go_wp2_with fail
        have HFL:Hid (Ze9 (16384 - (j+1)) n (16*(j+1)) X1 (cs++[E.1]) L1 o1=FIN):=Lib.hid (by
         have:=HF7.out
         rw [show 16384 - j - 1=16384 - (j+1) by omega,show a+16=16*(j+1) by omega] at this
         exact this)
        go_roundw
        case rel=>exact ⟨j+1,X1,L1,o1,cs++[E.1],_,rfl,by rw [show ((16*(j+1):Nat):Int)=(a:Int)+16 by omega],by omega,by rw [List.length_append,hcs];rfl,by omega,HFL,HRD9,HT9,HO9,HB9⟩
        case measure=>simp [intOf];omega
     ·have z1:(((E.1.length:Int)) != (m:Int))=true:=by rw [bne_iff_ne];omega
      have hf:=HFN.out
      rw [decide_eq_false hEm,Bool.false_and,Bool.and_false,if_neg (by simp)] at hf
      obtain rfl:=HDn.out hf.symm
      clear hf HFN HFIN HDn hEm
      go_wp2_with fail
      go_ret2
      exact ⟨none,rfl,fun _=>rfl,fun l h=>(by cases h),HB5.out⟩
  ·have q1:decide ((a:Int)<(n:Int))=false:=by rw [decide_eq_false_iff_not];omega
   have q2:decide (a<n)=false:=by rw [decide_eq_false_iff_not];omega
   have hfin:=HF.out
   rw [Zfb hlt] at hfin
   have hd:=HFIN.out
   rw [← hfin] at hd
   unfold finO at hd
   dsimp only at hd
   obtain ⟨vL,hcL,hvL⟩:=HRD.out
   obtain ⟨pL,cL,rfl,hL1,hL2⟩:=hvL.shape
   have f0:wr.cell? ⟨R,0,none⟩=some (.slice pL L.length cL):=by rw [cell_of_row wr R 0 _ _ _ hcL];rfl
   have f1:wr.cell? ⟨R,1,none⟩=some (.bool o):=by rw [cell_of_row wr R 1 _ _ _ hcL];rfl
   obtain ⟨NL,hNL⟩:∃ k,L.length=k:=⟨_,rfl⟩
   rw [hNL] at f0
   cases o with
   | true =>
     rw [if_pos (.inl rfl)] at hd
     obtain rfl:D=none:=by cases D with
      | none=>rfl
      | some l=>cases hd
     clear hd hfin HFIN HF hcL hvL HRD HT HO
     go_wp2_with fail
     go_ret2
     exact ⟨none,rfl,fun _=>rfl,fun l h=>(by cases h),HB.out⟩
   | false =>
     by_cases hL0:NL=0
     ·have hLe:L=[]:=List.eq_nil_of_length_eq_zero (by omega)
      have z1:decide ((NL:Int)>0)=false:=by rw [decide_eq_false_iff_not];omega
      have z2:decide (0<NL)=false:=by rw [decide_eq_false_iff_not];omega
      rw [if_neg (by rw [hLe];simp)] at hd
      cases D with
      | none=>cases hd
      | some l =>
        simp only [Option.map_some,Option.some.injEq,Prod.mk.injEq] at hd
        obtain ⟨hd1,hd2⟩:=hd
        have HDA:Hid (Zav (fun b=>w.heap.size≤b) wr R1 l):=Lib.hid ⟨u,by rw [hd1];exact HT.out,by omega,by unfold Zdf;rw [hd2];exact HO.out.ron⟩
        clear hd1 hd2 hfin HFIN HF hcL hvL HRD HT HO hLe hL0 hNL
        go_wp2_with fail
        go_ret2
        exact ⟨some ⟨R1,0,none⟩,rfl,fun h=>(by cases h),fun l' h=>(by cases h;exact ⟨R1,rfl,HDA.out⟩),HB.out⟩
     ·have z1:decide ((NL:Int)>0)=true:=by rw [decide_eq_true_eq];omega
      have z2:decide (0<NL)=true:=by rw [decide_eq_true_eq];omega
      rw [if_pos (.inr (fun e=>hL0 (by rw [← hNL,e];rfl)))] at hd
      obtain rfl:D=none:=by cases D with
       | none=>rfl
       | some l=>cases hd
      clear hd hfin HFIN HF hcL hvL HRD HT HO hL0 hNL
      go_wp2_with fail
      go_ret2
      exact ⟨none,rfl,fun _=>rfl,fun l h=>(by cases h),HB.out⟩
end Go.Proofs.YtdijhifdjbnkfaaGreat.DT
namespace Go.Proofs.YtdijhifdjbnkfaaGreat.DT
open Go Go.RowKit MM DM
open EM (Znl Znt)
end Go.Proofs.YtdijhifdjbnkfaaGreat.DT
namespace Go.Proofs.YtdijhifdjbnkfaaGreat.DT
open Go Go.RowKit MM DM
open EM (Znl Znt)
end Go.Proofs.YtdijhifdjbnkfaaGreat.DT
namespace Go.Proofs.YtdijhifdjbnkfaaGreat.SG
open Go Go.RowKit MM
open EM (Tr)
open DM (Ent areD Zct)
open DT (Zaw entC Zht)
open PM (Post)
open GM (ZhC)
end Go.Proofs.YtdijhifdjbnkfaaGreat.SG
