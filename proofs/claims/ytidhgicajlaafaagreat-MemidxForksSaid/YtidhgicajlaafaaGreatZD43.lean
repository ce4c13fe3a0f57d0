import Derived.Test.YtidhgicajlaafaaGreatZD16
import Derived.Test.YtidhgicajlaafaaGreatZD11
set_option maxRecDepth 100000
set_option maxHeartbeats 8000000
set_option linter.unusedVariables false
set_option linter.unusedSimpArgs false
namespace Go.Proofs.YtidhgicajlaafaaGreat.EV
open Go Go.RowKit MM EM
theorem rtermE:Elem trmC Tryz.prog 79 83 40:=⟨Tryz.underlying79,by
 have h:(Tryz.prog.info? 83).map (fun i=>(i.zero,i.size,i.bytes))=some (some (.agg #[.string ⟨#[]⟩,.slice none 0 0]),2,40):=by kernel_rfl
 obtain ⟨i,h1,h2,h3,h4⟩:=info_parts h
 exact ⟨i,_,h1,h2,h3,h4,rfl⟩⟩
def Few (T:List Trm):Prop:=T.length≤100000∧∀ t∈T,t.1.length≤10000∧t.2.length≤100000
theorem ints_apt {B:Nat} {S:Nat→Prop} {w:World} {v:Value} {zs:List Int} (h:OwnX cInt 3 B S w v zs) {b:Nat} (hb:v.ownBlock=some b):Apt 83 B w b:=.inr fun cur fr hc=>by
 obtain ⟨_,_,c2,f2,h2⟩:=h.cells hb
 rw [h2] at hc
 simp only [Option.some.injEq,Obj.cells.injEq] at hc
 exact absurd hc.2.1 (by decide)
theorem rows_ne {B:Nat} {S S':Nat→Prop} {w:World} {u v:Value} {zs:List Int} {ts:List Trm} (h:OwnX cInt 3 B S w v zs) (k:OwnX trmC 83 B S' w u ts) {g:Nat} (hg:u.ownBlock=some g):v.ownBlock≠some g:=fun e=>by
 obtain ⟨_,_,c1,f1,h1⟩:=h.cells e
 obtain ⟨_,_,c2,f2,h2⟩:=k.cells hg
 rw [h1] at h2
 simp only [Option.some.injEq,Obj.cells.injEq] at h2
 exact absurd h2.2.1 (by decide)
theorem SrcX.weak {α:Type} {C:Codec α} {S S':Nat→Prop} {w:World} {v:Value} {ds:List α} (h:SrcX C S w v ds) (hS:∀ b,b<w.heap.size→S b→S' b):SrcX C S' w v ds:=by
 obtain ⟨p,cap,raw,hv,h1,h3,hm,hc⟩:=h
 exact ⟨p,cap,raw,hv,h1,h3,hm.keep (Kep.refl _ _) hS,hc⟩
theorem ints_lit1 (w:World) (z:Int):ROn cInt (fun b=>b=w.heap.size) (w.alloc (.cells #[.int .i64 z] 3)) (.slice (some ⟨w.heap.size,0,none⟩) 1 1) [z]:=by
 have:=ron_lit (C:=cInt) (S:=fun _=>False) (e:=3) w [[.int .i64 z]] [z] (by unfold maxLen;simp) ⟨rfl,fun i hi hi'=>by obtain rfl:i=0:=(by simpa using hi);rfl⟩
 exact this.weak fun b _ h=>h.resolve_left id
theorem lit_int (w:World) (z:Int):IntsOf (w.alloc (.cells #[.int .i64 z] 3)) w.heap.size:=⟨_,_,heap_alloc_new w _⟩
theorem ints_not {B b:Nat} {w:World} (h:IntsOf w b):Apt 83 B w b:=.inr fun cur fr hc=>by
 obtain ⟨c2,f2,h2⟩:=h
 rw [h2] at hc
 simp only [Option.some.injEq,Obj.cells.injEq] at hc
 exact absurd hc.2.1 (by decide)
theorem IntsOf.kep {S:Nat→Prop} {w w':World} {b:Nat} (h:IntsOf w b) (hk:Kep S w w') (hS:S b):IntsOf w' b:=by
 obtain ⟨c2,f2,h2⟩:=h
 exact ⟨c2,f2,(hk.block b (Array.getElem?_eq_some_iff.1 h2).1 hS).trans h2⟩
theorem IntsOf.alloc {w:World} {b:Nat} (h:IntsOf w b) (o:Obj):IntsOf (w.alloc o) b:=h.kep (kep_alloc (fun _=>True) w o) trivial
theorem lit_apt {S:Nat→Prop} {B:Nat} (w4:World) (p:Int) (o:Obj):∀ b,b<((w4.alloc (.cells #[.int .i64 p] 3)).alloc o).heap.size→((S b∧b<B)∨b=w4.heap.size)→Apt 83 B ((w4.alloc (.cells #[.int .i64 p] 3)).alloc o) b:=fun b _ h=>by
 rcases h with h | h
 ·exact .inl h.2
 ·rw [h];exact ints_not ((lit_int w4 p).alloc o)
theorem trm_drop {S:Nat→Prop} {w:World} {b off n cap:Nat} {T:List Trm} (h:ROn trmC S w (.slice (some ⟨b,off,none⟩) n cap) T) {k:Nat} (hk:k≤n) (hc:k<cap):ROn trmC S w (.slice (some ⟨b,off+k*2,none⟩) (n - k) (cap - k)) (T.drop k):=by
 have:=h.drop k hk
 rw [if_neg (by omega),Option.map_some,add_at] at this
 exact this
theorem trm_lit1 (S:Nat→Prop) (W:World) (s:List UInt8) (p:Int):trmC.on (fun b=>S b∨b=W.heap.size) (W.alloc (.cells #[.int .i64 p] 3)) [.string ⟨s.toArray⟩,.slice (some ⟨W.heap.size,0,none⟩) 1 1] (s,[p]) :=
 trm_on.2 ⟨_,rfl,(ints_lit1 W p).weak fun b _ hb=>.inr hb⟩
theorem src_lit1 (S:Nat→Prop) (W:World) (s:List UInt8) (p:Int):SrcX trmC (fun b=>S b∨b=W.heap.size) ((W.alloc (.cells #[.int .i64 p] 3)).alloc (.cells #[.string ⟨s.toArray⟩,.slice (some ⟨W.heap.size,0,none⟩) 1 1] 83)) (.slice (some ⟨W.heap.size+1,0,none⟩) 1 1) [(s,[p])]:=by
 have:=src_lit 83 (trm_lit1 S W s p)
 rw [World.size_alloc] at this
 exact this
theorem one_apt {S:Nat→Prop} {B g:Nat} {w:World} (h:IntsOf w g):∀ b,b<w.heap.size→((S b∧b<B)∨b=g)→Apt 83 B w b:=fun b _ hb=>by
 rcases hb with hb | rfl
 ·exact .inl hb.2
 ·exact ints_not h
def AddOn (S:Nat→Prop) (T:List Trm) (w:World) (e:Ending) (w':World):Prop:=∃ u,e=.returned u∧ROn trmC (fun b=>S b∨w.heap.size≤b) w' u T∧Below w.heap.size w w'
def AddLeft (T:List Trm) (w:World) (e:Ending) (w':World):Prop:=∃ u,e=.returned u∧RAny trmC w' u T∧Below w.heap.size w w'
def RSB {α:Type} (C:Codec α) (S:Nat→Prop) (B:Nat) (w:World) (v:Value) (es:List α):Prop:=ROn C (fun b=>S b∧b<B) w v es
theorem RSB.below {α:Type} {C:Codec α} {S:Nat→Prop} {B:Nat} {w w':World} {v:Value} {es:List α} (h:RSB C S B w v es) (hb:Below B w w'):RSB C S B w' v es :=
 ROn.keep h ⟨hb.os,hb.tape,hb.output,hb.size,fun k _ hk=>hb.block k hk.2⟩ fun _ _ h=>h
theorem ron_sb {α:Type} {C:Codec α} {S:Nat→Prop} {w:World} {v:Value} {es:List α} (h:ROn C S w v es):RSB C S w.heap.size w v es:=ROn.weak h fun _ hb hs=>⟨hs,hb⟩
theorem add_fin {S X:Nat→Prop} {B:Nat} {w:World} {v:Value} {T:List Trm} (h:OwnX trmC 83 B (fun b=>(S b∧b<B)∨X b) w v T) (hX:∀ b,X b→B≤b):ROn trmC (fun b=>S b∨B≤b) w v T :=
 h.ron (fun g hg=>.inr (h.cells hg).1) (fun b _ hb=>hb.elim (fun h=>.inl h.1) fun h=>.inr (hX b h))
theorem trm_dropX {S:Nat→Prop} {w:World} {a:Addr} {n cap:Nat} {T:List Trm} (h:ROn trmC S w (.slice (some a) n cap) T) {k:Nat} (hk:k≤n) (hc:k<cap):ROn trmC S w (.slice (some (a.add (k*2))) (n - k) (cap - k)) (T.drop k):=by
 have:=h.drop k hk
 rw [if_neg (by omega),Option.map_some] at this
 exact this
theorem trm_dropL {S:Nat→Prop} {w:World} {a:Addr} {k cap:Nat} {T:List Trm} (h:ROn trmC S w (.slice (some a) k cap) T) (hc:k<cap):ROn trmC S w (.slice (some (a.add (k*2))) 0 (cap - k)) (T.drop k):=by
 have:=trm_dropX h (Nat.le_refl k) hc
 rw [Nat.sub_self] at this
 exact this
theorem trm_dropE {S:Nat→Prop} {w:World} {a:Option Addr} {n:Nat} {T:List Trm} (h:ROn trmC S w (.slice a n n) T):ROn trmC S w (.slice a 0 0) (T.drop n):=by
 have:=h.drop n (Nat.le_refl _)
 rw [if_pos rfl,Nat.sub_self] at this
 exact this
theorem radd_none (S:Nat→Prop) (s:List UInt8) (p:Int) (w:World) (hs:s.length≤10000) :
  Calls Tryz.prog 61 #[.slice none 0 0,.string ⟨s.toArray⟩,.int .i64 p] w (AddOn S (addP [] s p) w):=by
 obtain ⟨n,hn⟩:∃ n,n=0:=⟨_,rfl⟩
 obtain ⟨T,hT⟩:∃ T:List Trm,T=[]:=⟨_,rfl⟩
 go_enter Tryz.func61,Tryz.ntmps61
 go_wp2_with fail
 go_loopw [7] (fun iv wr=>iv=.int .i64 0∧Hid (Below w.heap.size w wr)) (fun iv _=>1)
 case atStart=>exact ⟨rfl,Lib.hid (Below.refl _ _)⟩
 case round =>
  obtain ⟨rfl,HB⟩:=hrel
  have hs2:=HB.out.size
  have HB2:=HB
  have HO0:=Lib.hid (OwnX.lit0 (C:=trmC) 83 (fun b=>S b∧b<w.heap.size) wr hs2)
  have HT0:Hid (ROn trmC (fun b=>S b∧b<w.heap.size) (wr.alloc (.cells #[] 83)) (.slice none 0 0) (T.take n)):=Lib.hid (by rw [hT,List.take_nil];exact ROn.nil_ _ _)
  have HTK:Hid ((T.take n).length=0):=Lib.hid (by rw [hT];simp)
  have HTK1:Hid ((T.take n++[(s,[p])]).length=1):=Lib.hid (by rw [hT];simp)
  have HRR:Hid (T.take n++[(s,[p])]++T.drop n=addP [] s p):=Lib.hid (by rw [hT];simp [addP])
  have HCZ:=Lib.hid (fun W=>src_lit1 (fun b=>S b∧b<w.heap.size) W s p)
  have hTl:T.length=0:=by rw [hT];rfl
  have HDR:=Lib.hid (fun W (hW:Below w.heap.size w W)=>(by rw [hT,List.drop_nil];exact ROn.nil_ _ _:ROn trmC (fun b=>S b∧b<w.heap.size) W (.slice none 0 0) (T.drop n)))
  go_wp2_with (first | (at_builtin;go_loud (refine wpList_append_x rtermE rfl _ _ rfl w.heap.size _ [] rfl HO0.out (fun b _ hb=>.inl hb.2) _ (T.take n) rfl (ROn.src HT0.out) (by simp only [List.length_append,List.length_take,List.length_drop,List.length_nil,List.length_cons];unfold maxLen;omega) (by simp only [List.length_append,List.length_take,List.length_drop,List.length_nil,List.length_cons];omega) (by simp;omega) ?_;intro vo w4 ho4 hb4 hk4;rw [List.nil_append] at ho4;obtain ⟨po,co,rfl,_⟩:=ho4.any.shape;rw [HTK.out] at ho4;try rw [HTK.out];have HO4:=Lib.hid ho4;have hb40:=(HB2.out.alloc hs2 (.cells #[] 83)).trans hb4;have HB4:=Lib.hid hb40;have hs4:=hb40.size;skip;clear ho4 hb4 hk4 hb40 HO0 HT0)) | (at_builtin;go_loud (refine wpList_append_x rtermE (S:=fun b=>(S b∧b<w.heap.size)∨b=w4.heap.size) rfl _ _ rfl w.heap.size _ (T.take n) rfl (((HO4.out.alloc (.cells #[.int .i64 p] 3)).weak fun b _ hb=>.inl hb).alloc _) (lit_apt (S:=S) (B:=w.heap.size) w4 p _) _ [(s,[p])] rfl (HCZ.out w4) (by simp only [List.length_append,List.length_take,List.length_drop,List.length_nil,List.length_cons];unfold maxLen;omega) (by simp only [List.length_append,List.length_take,List.length_drop,List.length_nil,List.length_cons];omega) (by simp;omega) ?_;intro v7 w7 ho7 hb7 hk7;obtain ⟨p7,c7,rfl,_⟩:=ho7.any.shape;rw [HTK1.out] at ho7;try rw [HTK1.out];have HO7:=Lib.hid ho7;have hb70:Below w.heap.size w w7:=((HB4.out.alloc hs4 _).alloc (by simp;omega) _).trans hb7;have HB7:=Lib.hid hb70;have hs7:=hb70.size;have HD7:=Lib.hid (HDR.out w7 hb70);have hi7:IntsOf w7 w4.heap.size:=((lit_int w4 p).alloc _).kep hk7 (fun e=>absurd (HO4.out.cells e).2.1 (Nat.lt_irrefl _));have hap7:=Lib.hid (one_apt (S:=S) (B:=w.heap.size) hi7);clear ho7 hb7 hk7 hb70 hi7)) | (at_builtin;go_loud (refine wpList_append_x rtermE (S:=fun b=>(S b∧b<w.heap.size)∨b=w4.heap.size) rfl _ _ rfl w.heap.size _ _ rfl HO7.out hap7.out _ (T.drop n) rfl (SrcX.weak (ROn.src HD7.out) fun b _ hb=>.inl hb) (by simp only [List.length_append,List.length_take,List.length_drop,List.length_nil,List.length_cons];unfold maxLen;omega) (by simp only [List.length_append,List.length_take,List.length_drop,List.length_nil,List.length_cons];omega) hs7 ?_;intro v9 w9 ho9 hb9 hk9;rw [HRR.out] at ho9;obtain ⟨p9,c9,rfl,_⟩:=ho9.any.shape;have HO9:=Lib.hid ho9;have HB9:=Lib.hid (HB7.out.trans hb9);clear ho9 hb9 hk9)))
  go_ret
  exact ⟨_,rfl,add_fin HO9.out (fun b h=>by subst h;exact hs4),HB9.out⟩
theorem radd_on (S:Nat→Prop) (u:Value) (T:List Trm) (s:List UInt8) (p:Int) (w:World) (hu:ROn trmC S w u T) (hF:Few T) (hs:s.length≤10000) :
  Calls Tryz.prog 61 #[u,.string ⟨s.toArray⟩,.int .i64 p] w (AddOn S (addP T s p) w):=by
 obtain ⟨pu,cu,rfl,hlc,hcm,hpn⟩:=hu.shape
 unfold maxLen at hcm
 cases pu with
 | none =>
   have h0:=hpn rfl
   subst h0
   obtain rfl:T=[]:=List.eq_nil_of_length_eq_zero (by omega)
   exact radd_none S s p w hs
 | some ad =>
 have HU:=Lib.hid (ron_sb hu)
 have HFT:=Lib.hid hF.2
 have hTl:=hF.1
 have H0:Hid (∀ j (hj:j<T.length),j<0→lessL T[j].1 s=true):=Lib.hid fun j hj h=>absurd h (by omega)
 obtain ⟨n,hn⟩:∃ n,T.length=n:=⟨_,rfl⟩
 have HN:=Lib.hid hn
 rw [hn] at hlc hTl HU ⊢
 clear hu hF hpn hn
 go_enter Tryz.func61,Tryz.ntmps61
 go_wp2_with fail
 go_loopw [7] (fun iv wr=>∃ k:Nat,k≤n∧iv=.int .i64 k∧Hid (∀ j (hj:j<T.length),j<k→lessL T[j].1 s=true)∧Hid (Below w.heap.size w wr)) (fun iv _=>n - (intOf iv).toNat)
 case atStart=>exact ⟨0,by omega,rfl,H0,Lib.hid (Below.refl _ _)⟩
 case round =>
  obtain ⟨k,hk,rfl,HA,HB⟩:=hrel
  clear H0
  have hsz:=HB.out.size
  by_cases hlt:k<n
  ·have q1:decide ((k:Int)<(n:Int))=true:=by rw [decide_eq_true_eq];omega
   have q2:decide (k<n)=true:=by rw [decide_eq_true_eq];omega
   have hlT:k<T.length:=by rw [HN.out];exact hlt
   obtain ⟨b,off,v,hpp,hbl,hbB,c1,c2,hv⟩:=trm_at (HU.out.below HB.out) hlT
   obtain rfl:=Option.some.inj hpp
   have hft:=HFT.out T[k] (List.getElem_mem hlT)
   obtain ⟨t,ht⟩:∃ t,T[k]=t:=⟨_,rfl⟩
   rw [ht] at c1 hv hft
   have HL:=Lib.hid (rless_any t.1 s wr (by omega) (by omega))
   have HT:Hid (∀ hj:k<T.length,T[k]=t):=Lib.hid fun _=>ht
   have HLT:=Lib.hid hlt
   have HLT2:=Lib.hid hlT
   clear ht hlt hlT hpp
   cases hless:lessL t.1 s with
   | true =>
     rw [hless] at HL
     have HA2:Hid (∀ j (hj:j<T.length),j<k+1→lessL T[j].1 s=true):=Lib.hid fun j hj hjk=>by
      by_cases e:j=k
      ·subst e;rw [HT.out hj];exact hless
      ·exact HA.out j hj (by omega)
     clear HA hless hv c2
     go_wp2_with fail
     refine HL.out.mono ?_
     rintro e w2 ⟨rfl,m,rfl⟩
     go_wp2_with fail
     have hlt:=HLT.out
     go_roundw
     case rel=>exact ⟨k+1,by omega,by go_num,HA2,Lib.hid (MM.below_drewN HB.out _)⟩
     case measure=>simp [intOf];omega
   | false =>
     rw [hless] at HL
     have HLS:=Lib.hid hless
     have HV:=Lib.hid hv
     have hwd:∀ m,Below w.heap.size w (wr.drewN m):=fun m=>MM.below_drewN HB.out m
     have HWD:=Lib.hid hwd
     clear hless hwd hv
     obtain ⟨pv,cv,rfl,_,hcv,_⟩:=HV.out.shape
     go_wp2_with fail
     refine HL.out.mono ?_
     rintro e w2 ⟨rfl,m,hm⟩
     have hb2:=HWD.out m
     have d1:w2.cell? ⟨b,off+k*2,none⟩=some (.string ⟨t.1.toArray⟩):=by rw [hm];exact c1
     have d2:w2.cell? ⟨b,off+k*2+1,none⟩=some (.slice pv t.2.length cv):=by rw [hm];exact c2
     have hv2:RSB cInt S w.heap.size w2 (.slice pv t.2.length cv) t.2:=by rw [hm];exact (show RSB cInt S w.heap.size wr (.slice pv t.2.length cv) t.2 from HV.out).below (MM.below_drewN (Below.refl _ wr) m)
     rw [← hm] at hb2
     have HB2:=Lib.hid hb2
     have hs2:=hb2.size
     have HO0:=Lib.hid (OwnX.lit0 (C:=trmC) 83 (fun b=>S b∧b<w.heap.size) w2 hs2)
     have hb20:Below w.heap.size w (w2.alloc (.cells #[] 83)):=hb2.alloc hs2 _
     have HT0:=Lib.hid ((HU.out.below hb20).take k hk)
     have hb4c1:Hid (∀ W,Below w.heap.size (w2.alloc (.cells #[] 83)) W→W.cell? ⟨b,off+k*2,none⟩=some (.string ⟨t.1.toArray⟩)):=Lib.hid fun W hW=>(hW.cell (p:=⟨b,off+k*2,none⟩) hbB.2).trans ((((Below.refl w2.heap.size w2).alloc (Nat.le_refl _) (.cells #[] 83)).cell (p:=⟨b,off+k*2,none⟩) (show b<w2.heap.size by omega)).trans d1)
     have hb4c2:Hid (∀ W,Below w.heap.size (w2.alloc (.cells #[] 83)) W→W.cell? ⟨b,off+k*2+1,none⟩=some (.slice pv t.2.length cv)):=Lib.hid fun W hW=>(hW.cell (p:=⟨b,off+k*2+1,none⟩) hbB.2).trans ((((Below.refl w2.heap.size w2).alloc (Nat.le_refl _) (.cells #[] 83)).cell (p:=⟨b,off+k*2+1,none⟩) (show b<w2.heap.size by omega)).trans d2)
     have HVW:Hid (∀ W,Below w.heap.size (w2.alloc (.cells #[] 83)) W→RSB cInt S w.heap.size W (.slice pv t.2.length cv) t.2):=Lib.hid fun W hW=>(hv2.below ((Below.refl _ w2).alloc hs2 _)).below hW
     clear hm hb2 c1 c2 hb20 HL d1 d2 hv2
     have hcu:k<cu:=by have:=HLT.out;omega
     have HTK:Hid ((T.take k).length=k):=Lib.hid (by rw [List.length_take,HN.out];omega)
     have hTl2:T.length≤100000:=by rw [HN.out];exact hTl
     by_cases hts:t.1=s
     ·have t2:(t.1 == s)=true:=by rw [beq_iff_eq];exact hts
      have hres:addP T s p=T.take k++(s,(T[k]'HLT2.out).2++[p])::T.drop (k+1):=addP_hit p HLT2.out HA.out (by rw [HT.out HLT2.out];exact hts)
      rw [HT.out HLT2.out] at hres
      have HRR:Hid (T.take k++[(s,t.2++[p])]++T.drop (k+1)=addP T s p):=Lib.hid (by rw [hres];simp)
      have HTK1:Hid ((T.take k++[(s,t.2++[p])]).length=k+1):=Lib.hid (by rw [List.length_append,HTK.out];rfl)
      have HTP:Hid ((t.2++[p]).length=t.2.length+1):=Lib.hid (by rw [List.length_append];rfl)
      clear hres hts HA HLS
      by_cases hce:k+1<cu
      ·have hkn:=HLT.out
       have HDR:=Lib.hid (fun W (hW:Below w.heap.size w W)=>trm_dropX (HU.out.below hW) (show k+1≤n from hkn) hce)
       go_wp2_with (first | (at_builtin;go_loud (refine wpList_append_x rtermE rfl _ _ rfl w.heap.size _ [] rfl HO0.out (fun b _ hb=>.inl hb.2) _ (T.take k) rfl (ROn.src HT0.out) (by simp only [List.length_append,List.length_take,List.length_drop,List.length_nil,List.length_cons];unfold maxLen;omega) (by simp only [List.length_append,List.length_take,List.length_drop,List.length_nil,List.length_cons];omega) (by simp;omega) ?_;intro vo w4 ho4 hb4 hk4;rw [List.nil_append] at ho4;obtain ⟨po,co,rfl,_⟩:=ho4.any.shape;rw [HTK.out] at ho4;try rw [HTK.out];have HO4:=Lib.hid ho4;have hb40:=(HB2.out.alloc hs2 (.cells #[] 83)).trans hb4;have HB4:=Lib.hid hb40;have hs4:=hb40.size;have e1:=hb4c1.out _ hb4;have e2:=hb4c2.out _ (hb4.alloc hs4 (.cells #[] 3));have HV4:=Lib.hid (HVW.out _ (hb4.alloc hs4 (.cells #[] 3)));clear ho4 hb4 hk4 hb40 HO0 HT0)) | (at_builtin;go_loud (refine wpList_append_x intE (S:=fun b=>S b∧b<w.heap.size) rfl _ _ rfl w.heap.size _ [] rfl (OwnX.lit0 (C:=cInt) 3 (fun b=>S b∧b<w.heap.size) w4 hs4) (fun b _ hb=>.inl hb.2) _ t.2 rfl (ROn.src HV4.out) (by simp only [List.length_append,List.length_take,List.length_drop,List.length_nil,List.length_cons];unfold maxLen;omega) (by simp only [List.length_append,List.length_take,List.length_drop,List.length_nil,List.length_cons];omega) (by simp;omega) ?_;intro v6 w6 ho6 hb6 hk6;rw [List.nil_append] at ho6;have HO6:=Lib.hid ho6;have HO46:=Lib.hid ((HO4.out.alloc (.cells #[] 3)).keep hk6 (fun b _ hS e=>by have e:w4.heap.size=b:=Option.some.inj e;have hS:b<w.heap.size:=hS.2;omega) (fun g hg e=>by have h1:=(HO4.out.cells hg).2.1;have e:w4.heap.size=g:=Option.some.inj e;omega));have hb60:=(HB4.out.alloc hs4 (.cells #[] 3)).trans hb6;have HB6:=Lib.hid hb60;have hs6:=hb60.size;clear ho6 hb6 hk6 hb60 HO4 HV4)) | (at_builtin;go_loud (refine wpList_append_x intE (S:=fun b=>S b∧b<w.heap.size) rfl _ _ rfl w.heap.size _ t.2 rfl (HO6.out.alloc _) (fun b _ hb=>.inl hb.2) _ [p] rfl (src_lit (C:=cInt) (d:=p) 3 (vs:=[.int .i64 p]) rfl) (by simp only [List.length_append,List.length_take,List.length_drop,List.length_nil,List.length_cons];unfold maxLen;omega) (by simp only [List.length_append,List.length_take,List.length_drop,List.length_nil,List.length_cons];omega) (by simp;omega) ?_;intro v8 w8 ho8 hb8 hk8;obtain ⟨p8,c8,rfl,_⟩:=ho8.any.shape;rw [HTP.out] at ho8;try rw [HTP.out];have HO8:=Lib.hid ho8;have HO48:=Lib.hid ((HO46.out.alloc (.cells #[.int .i64 p] 3)).keep hk8 (fun b _ hS e=>by have:=(HO6.out.cells e).1;omega) (fun g hg e=>rows_ne HO6.out HO46.out hg e));have hb80:=(HB6.out.alloc hs6 (.cells #[.int .i64 p] 3)).trans hb8;have HB8:=Lib.hid hb80;have hs8:=hb80.size;clear ho8 hb8 hk8 hb80 HO46 HO6)) | (at_builtin;go_loud (refine wpList_append_x rtermE (S:=fun b=>(S b∧b<w.heap.size)∨(Value.slice p8 (t.2.length+1) c8).ownBlock=some b) rfl _ _ rfl w.heap.size _ (T.take k) rfl ((HO48.out.weak fun b _ hb=>.inl hb).alloc _) (fun b _ hb=>hb.elim (fun h=>.inl h.2) fun h=>ints_apt (HO8.out.alloc _) h) _ [(s,t.2++[p])] rfl (src_lit (C:=trmC) (d:=(s,t.2++[p])) 83 (vs:=[.string ⟨s.toArray⟩,.slice p8 (t.2.length+1) c8]) (trm_on.2 ⟨.slice p8 (t.2.length+1) c8,rfl,HO8.out.ron (fun g hg=>.inr hg) (fun b _ hb=>.inl hb)⟩)) (by simp only [List.length_append,List.length_take,List.length_drop,List.length_nil,List.length_cons];unfold maxLen;omega) (by simp only [List.length_append,List.length_take,List.length_drop,List.length_nil,List.length_cons];omega) (by simp;omega) ?_;intro v7 w7 ho7 hb7 hk7;obtain ⟨p7,c7,rfl,_⟩:=ho7.any.shape;rw [HTK1.out] at ho7;try rw [HTK1.out];have HO7:=Lib.hid ho7;have hb70:Below w.heap.size w w7:=(HB8.out.alloc hs8 _).trans hb7;have HB7:=Lib.hid hb70;have hs7:=hb70.size;have HD7:=Lib.hid (HDR.out w7 hb70);have hap7:=Lib.hid (show ∀ b,b<w7.heap.size→((S b∧b<w.heap.size)∨(Value.slice p8 (t.2.length+1) c8).ownBlock=some b)→Apt 83 w.heap.size w7 b from fun b _ hb=>hb.elim (fun h=>.inl h.2) fun h=>ints_apt ((HO8.out.alloc _).keep hk7 (fun b _ hS e=>by have:=(HO48.out.cells e).1;omega) (fun g hg e=>rows_ne HO8.out HO48.out e hg)) h);clear ho7 hb7 hk7 hb70 HO48)) | (at_builtin;go_loud (refine wpList_append_x rtermE (S:=fun b=>(S b∧b<w.heap.size)∨(Value.slice p8 (t.2.length+1) c8).ownBlock=some b) rfl _ _ rfl w.heap.size _ _ rfl HO7.out hap7.out _ (T.drop (k+1)) rfl (SrcX.weak (ROn.src HD7.out) fun b _ hb=>.inl hb) (by simp only [List.length_append,List.length_take,List.length_drop,List.length_nil,List.length_cons];unfold maxLen;omega) (by simp only [List.length_append,List.length_take,List.length_drop,List.length_nil,List.length_cons];omega) hs7 ?_;intro v9 w9 ho9 hb9 hk9;rw [HRR.out] at ho9;obtain ⟨p9,c9,rfl,_⟩:=ho9.any.shape;have HO9:=Lib.hid ho9;have HB9:=Lib.hid (HB7.out.trans hb9);clear ho9 hb9 hk9)))
       go_ret
       exact ⟨_,rfl,add_fin HO9.out (fun b h=>(HO8.out.cells h).1),HB9.out⟩
      ·obtain rfl:cu=k+1:=by omega
       obtain rfl:n=k+1:=by have:=HLT.out;omega
       have HDR:=Lib.hid (fun W (hW:Below w.heap.size w W)=>trm_dropE (HU.out.below hW))
       go_wp2_with (first | (at_builtin;go_loud (refine wpList_append_x rtermE rfl _ _ rfl w.heap.size _ [] rfl HO0.out (fun b _ hb=>.inl hb.2) _ (T.take k) rfl (ROn.src HT0.out) (by simp only [List.length_append,List.length_take,List.length_drop,List.length_nil,List.length_cons];unfold maxLen;omega) (by simp only [List.length_append,List.length_take,List.length_drop,List.length_nil,List.length_cons];omega) (by simp;omega) ?_;intro vo w4 ho4 hb4 hk4;rw [List.nil_append] at ho4;obtain ⟨po,co,rfl,_⟩:=ho4.any.shape;rw [HTK.out] at ho4;try rw [HTK.out];have HO4:=Lib.hid ho4;have hb40:=(HB2.out.alloc hs2 (.cells #[] 83)).trans hb4;have HB4:=Lib.hid hb40;have hs4:=hb40.size;have e1:=hb4c1.out _ hb4;have e2:=hb4c2.out _ (hb4.alloc hs4 (.cells #[] 3));have HV4:=Lib.hid (HVW.out _ (hb4.alloc hs4 (.cells #[] 3)));clear ho4 hb4 hk4 hb40 HO0 HT0)) | (at_builtin;go_loud (refine wpList_append_x intE (S:=fun b=>S b∧b<w.heap.size) rfl _ _ rfl w.heap.size _ [] rfl (OwnX.lit0 (C:=cInt) 3 (fun b=>S b∧b<w.heap.size) w4 hs4) (fun b _ hb=>.inl hb.2) _ t.2 rfl (ROn.src HV4.out) (by simp only [List.length_append,List.length_take,List.length_drop,List.length_nil,List.length_cons];unfold maxLen;omega) (by simp only [List.length_append,List.length_take,List.length_drop,List.length_nil,List.length_cons];omega) (by simp;omega) ?_;intro v6 w6 ho6 hb6 hk6;rw [List.nil_append] at ho6;have HO6:=Lib.hid ho6;have HO46:=Lib.hid ((HO4.out.alloc (.cells #[] 3)).keep hk6 (fun b _ hS e=>by have e:w4.heap.size=b:=Option.some.inj e;have hS:b<w.heap.size:=hS.2;omega) (fun g hg e=>by have h1:=(HO4.out.cells hg).2.1;have e:w4.heap.size=g:=Option.some.inj e;omega));have hb60:=(HB4.out.alloc hs4 (.cells #[] 3)).trans hb6;have HB6:=Lib.hid hb60;have hs6:=hb60.size;clear ho6 hb6 hk6 hb60 HO4 HV4)) | (at_builtin;go_loud (refine wpList_append_x intE (S:=fun b=>S b∧b<w.heap.size) rfl _ _ rfl w.heap.size _ t.2 rfl (HO6.out.alloc _) (fun b _ hb=>.inl hb.2) _ [p] rfl (src_lit (C:=cInt) (d:=p) 3 (vs:=[.int .i64 p]) rfl) (by simp only [List.length_append,List.length_take,List.length_drop,List.length_nil,List.length_cons];unfold maxLen;omega) (by simp only [List.length_append,List.length_take,List.length_drop,List.length_nil,List.length_cons];omega) (by simp;omega) ?_;intro v8 w8 ho8 hb8 hk8;obtain ⟨p8,c8,rfl,_⟩:=ho8.any.shape;rw [HTP.out] at ho8;try rw [HTP.out];have HO8:=Lib.hid ho8;have HO48:=Lib.hid ((HO46.out.alloc (.cells #[.int .i64 p] 3)).keep hk8 (fun b _ hS e=>by have:=(HO6.out.cells e).1;omega) (fun g hg e=>rows_ne HO6.out HO46.out hg e));have hb80:=(HB6.out.alloc hs6 (.cells #[.int .i64 p] 3)).trans hb8;have HB8:=Lib.hid hb80;have hs8:=hb80.size;clear ho8 hb8 hk8 hb80 HO46 HO6)) | (at_builtin;go_loud (refine wpList_append_x rtermE (S:=fun b=>(S b∧b<w.heap.size)∨(Value.slice p8 (t.2.length+1) c8).ownBlock=some b) rfl _ _ rfl w.heap.size _ (T.take k) rfl ((HO48.out.weak fun b _ hb=>.inl hb).alloc _) (fun b _ hb=>hb.elim (fun h=>.inl h.2) fun h=>ints_apt (HO8.out.alloc _) h) _ [(s,t.2++[p])] rfl (src_lit (C:=trmC) (d:=(s,t.2++[p])) 83 (vs:=[.string ⟨s.toArray⟩,.slice p8 (t.2.length+1) c8]) (trm_on.2 ⟨.slice p8 (t.2.length+1) c8,rfl,HO8.out.ron (fun g hg=>.inr hg) (fun b _ hb=>.inl hb)⟩)) (by simp only [List.length_append,List.length_take,List.length_drop,List.length_nil,List.length_cons];unfold maxLen;omega) (by simp only [List.length_append,List.length_take,List.length_drop,List.length_nil,List.length_cons];omega) (by simp;omega) ?_;intro v7 w7 ho7 hb7 hk7;obtain ⟨p7,c7,rfl,_⟩:=ho7.any.shape;rw [HTK1.out] at ho7;try rw [HTK1.out];have HO7:=Lib.hid ho7;have hb70:Below w.heap.size w w7:=(HB8.out.alloc hs8 _).trans hb7;have HB7:=Lib.hid hb70;have hs7:=hb70.size;have HD7:=Lib.hid (HDR.out w7 hb70);have hap7:=Lib.hid (show ∀ b,b<w7.heap.size→((S b∧b<w.heap.size)∨(Value.slice p8 (t.2.length+1) c8).ownBlock=some b)→Apt 83 w.heap.size w7 b from fun b _ hb=>hb.elim (fun h=>.inl h.2) fun h=>ints_apt ((HO8.out.alloc _).keep hk7 (fun b _ hS e=>by have:=(HO48.out.cells e).1;omega) (fun g hg e=>rows_ne HO8.out HO48.out e hg)) h);clear ho7 hb7 hk7 hb70 HO48)) | (at_builtin;go_loud (refine wpList_append_x rtermE (S:=fun b=>(S b∧b<w.heap.size)∨(Value.slice p8 (t.2.length+1) c8).ownBlock=some b) rfl _ _ rfl w.heap.size _ _ rfl HO7.out hap7.out _ (T.drop (k+1)) rfl (SrcX.weak (ROn.src HD7.out) fun b _ hb=>.inl hb) (by simp only [List.length_append,List.length_take,List.length_drop,List.length_nil,List.length_cons];unfold maxLen;omega) (by simp only [List.length_append,List.length_take,List.length_drop,List.length_nil,List.length_cons];omega) hs7 ?_;intro v9 w9 ho9 hb9 hk9;rw [HRR.out] at ho9;obtain ⟨p9,c9,rfl,_⟩:=ho9.any.shape;have HO9:=Lib.hid ho9;have HB9:=Lib.hid (HB7.out.trans hb9);clear ho9 hb9 hk9)))
       go_ret
       exact ⟨_,rfl,add_fin HO9.out (fun b h=>(HO8.out.cells h).1),HB9.out⟩
     ·have t2:(t.1 == s)=false:=by rw [beq_eq_false_iff_ne];exact hts
      have hres:addP T s p=T.take k++(s,[p])::T.drop k:=addP_miss p (by rw [HN.out];exact hk) HA.out fun hj=>by rw [HT.out hj];exact ⟨HLS.out,hts⟩
      have HRR:Hid (T.take k++[(s,[p])]++T.drop k=addP T s p):=Lib.hid (by rw [hres];simp)
      clear hts hres
      have HTK1:Hid ((T.take k++[(s,[p])]).length=k+1):=Lib.hid (by rw [List.length_append,HTK.out];rfl)
      have HCZ:=Lib.hid (fun W=>src_lit1 (fun b=>S b∧b<w.heap.size) W s p)
      have HDR:=Lib.hid (fun W (hW:Below w.heap.size w W)=>trm_drop (HU.out.below hW) hk hcu)
      go_wp2_with (first | (at_builtin;go_loud (refine wpList_append_x rtermE rfl _ _ rfl w.heap.size _ [] rfl HO0.out (fun b _ hb=>.inl hb.2) _ (T.take k) rfl (ROn.src HT0.out) (by simp only [List.length_append,List.length_take,List.length_drop,List.length_nil,List.length_cons];unfold maxLen;omega) (by simp only [List.length_append,List.length_take,List.length_drop,List.length_nil,List.length_cons];omega) (by simp;omega) ?_;intro vo w4 ho4 hb4 hk4;rw [List.nil_append] at ho4;obtain ⟨po,co,rfl,_⟩:=ho4.any.shape;rw [HTK.out] at ho4;try rw [HTK.out];have HO4:=Lib.hid ho4;have hb40:=(HB2.out.alloc hs2 (.cells #[] 83)).trans hb4;have HB4:=Lib.hid hb40;have hs4:=hb40.size;have e1:=hb4c1.out _ hb4;clear ho4 hb4 hk4 hb40 HO0 HT0)) | (at_builtin;go_loud (refine wpList_append_x rtermE (S:=fun b=>(S b∧b<w.heap.size)∨b=w4.heap.size) rfl _ _ rfl w.heap.size _ (T.take k) rfl (((HO4.out.alloc (.cells #[.int .i64 p] 3)).weak fun b _ hb=>.inl hb).alloc _) (lit_apt (S:=S) (B:=w.heap.size) w4 p _) _ [(s,[p])] rfl (HCZ.out w4) (by simp only [List.length_append,List.length_take,List.length_drop,List.length_nil,List.length_cons];unfold maxLen;omega) (by simp only [List.length_append,List.length_take,List.length_drop,List.length_nil,List.length_cons];omega) (by simp;omega) ?_;intro v7 w7 ho7 hb7 hk7;obtain ⟨p7,c7,rfl,_⟩:=ho7.any.shape;rw [HTK1.out] at ho7;try rw [HTK1.out];have HO7:=Lib.hid ho7;have hb70:Below w.heap.size w w7:=((HB4.out.alloc hs4 _).alloc (by simp;omega) _).trans hb7;have HB7:=Lib.hid hb70;have hs7:=hb70.size;have HD7:=Lib.hid (HDR.out w7 hb70);have hi7:IntsOf w7 w4.heap.size:=((lit_int w4 p).alloc _).kep hk7 (fun e=>absurd (HO4.out.cells e).2.1 (Nat.lt_irrefl _));have hap7:=Lib.hid (one_apt (S:=S) (B:=w.heap.size) hi7);clear ho7 hb7 hk7 hb70 hi7)) | (at_builtin;go_loud (refine wpList_append_x rtermE (S:=fun b=>(S b∧b<w.heap.size)∨b=w4.heap.size) rfl _ _ rfl w.heap.size _ _ rfl HO7.out hap7.out _ (T.drop k) rfl (SrcX.weak (ROn.src HD7.out) fun b _ hb=>.inl hb) (by simp only [List.length_append,List.length_take,List.length_drop,List.length_nil,List.length_cons];unfold maxLen;omega) (by simp only [List.length_append,List.length_take,List.length_drop,List.length_nil,List.length_cons];omega) hs7 ?_;intro v9 w9 ho9 hb9 hk9;rw [HRR.out] at ho9;obtain ⟨p9,c9,rfl,_⟩:=ho9.any.shape;have HO9:=Lib.hid ho9;have HB9:=Lib.hid (HB7.out.trans hb9);clear ho9 hb9 hk9)))
      go_ret
      exact ⟨_,rfl,add_fin HO9.out (fun b h=>by subst h;exact hs4),HB9.out⟩
  ·obtain rfl:k=n:=by omega
   have q1:decide ((k:Int)<(k:Int))=false:=by simp
   have q2:decide (k<k)=false:=by simp
   have hTl2:T.length≤100000:=by rw [HN.out];exact hTl
   have hres:addP T s p=T.take k++(s,[p])::T.drop k:=addP_miss p (by rw [HN.out];exact Nat.le_refl _) HA.out fun hj=>absurd hj (by rw [HN.out];omega)
   have HRR:Hid (T.take k++[(s,[p])]++T.drop k=addP T s p):=Lib.hid (by rw [hres];simp)
   have hs2:=HB.out.size
   have HB2:=HB
   have HO0:=Lib.hid (OwnX.lit0 (C:=trmC) 83 (fun b=>S b∧b<w.heap.size) wr hs2)
   have HT0:=Lib.hid ((HU.out.below (HB.out.alloc hs2 (.cells #[] 83))).take k (Nat.le_refl _))
   clear hres hlt HA
   have HTK:Hid ((T.take k).length=k):=Lib.hid (by rw [List.length_take,HN.out];omega)
   have HTK1:Hid ((T.take k++[(s,[p])]).length=k+1):=Lib.hid (by rw [List.length_append,HTK.out];rfl)
   have HCZ:=Lib.hid (fun W=>src_lit1 (fun b=>S b∧b<w.heap.size) W s p)
   by_cases hce:k<cu
   ·skip
    have HDR:=Lib.hid (fun W (hW:Below w.heap.size w W)=>trm_dropL (HU.out.below hW) hce)
    go_wp2_with (first | (at_builtin;go_loud (refine wpList_append_x rtermE rfl _ _ rfl w.heap.size _ [] rfl HO0.out (fun b _ hb=>.inl hb.2) _ (T.take k) rfl (ROn.src HT0.out) (by simp only [List.length_append,List.length_take,List.length_drop,List.length_nil,List.length_cons];unfold maxLen;omega) (by simp only [List.length_append,List.length_take,List.length_drop,List.length_nil,List.length_cons];omega) (by simp;omega) ?_;intro vo w4 ho4 hb4 hk4;rw [List.nil_append] at ho4;obtain ⟨po,co,rfl,_⟩:=ho4.any.shape;rw [HTK.out] at ho4;try rw [HTK.out];have HO4:=Lib.hid ho4;have hb40:=(HB2.out.alloc hs2 (.cells #[] 83)).trans hb4;have HB4:=Lib.hid hb40;have hs4:=hb40.size;skip;clear ho4 hb4 hk4 hb40 HO0 HT0)) | (at_builtin;go_loud (refine wpList_append_x rtermE (S:=fun b=>(S b∧b<w.heap.size)∨b=w4.heap.size) rfl _ _ rfl w.heap.size _ (T.take k) rfl (((HO4.out.alloc (.cells #[.int .i64 p] 3)).weak fun b _ hb=>.inl hb).alloc _) (lit_apt (S:=S) (B:=w.heap.size) w4 p _) _ [(s,[p])] rfl (HCZ.out w4) (by simp only [List.length_append,List.length_take,List.length_drop,List.length_nil,List.length_cons];unfold maxLen;omega) (by simp only [List.length_append,List.length_take,List.length_drop,List.length_nil,List.length_cons];omega) (by simp;omega) ?_;intro v7 w7 ho7 hb7 hk7;obtain ⟨p7,c7,rfl,_⟩:=ho7.any.shape;rw [HTK1.out] at ho7;try rw [HTK1.out];have HO7:=Lib.hid ho7;have hb70:Below w.heap.size w w7:=((HB4.out.alloc hs4 _).alloc (by simp;omega) _).trans hb7;have HB7:=Lib.hid hb70;have hs7:=hb70.size;have HD7:=Lib.hid (HDR.out w7 hb70);have hi7:IntsOf w7 w4.heap.size:=((lit_int w4 p).alloc _).kep hk7 (fun e=>absurd (HO4.out.cells e).2.1 (Nat.lt_irrefl _));have hap7:=Lib.hid (one_apt (S:=S) (B:=w.heap.size) hi7);clear ho7 hb7 hk7 hb70 hi7)) | (at_builtin;go_loud (refine wpList_append_x rtermE (S:=fun b=>(S b∧b<w.heap.size)∨b=w4.heap.size) rfl _ _ rfl w.heap.size _ _ rfl HO7.out hap7.out _ (T.drop k) rfl (SrcX.weak (ROn.src HD7.out) fun b _ hb=>.inl hb) (by simp only [List.length_append,List.length_take,List.length_drop,List.length_nil,List.length_cons];unfold maxLen;omega) (by simp only [List.length_append,List.length_take,List.length_drop,List.length_nil,List.length_cons];omega) hs7 ?_;intro v9 w9 ho9 hb9 hk9;rw [HRR.out] at ho9;obtain ⟨p9,c9,rfl,_⟩:=ho9.any.shape;have HO9:=Lib.hid ho9;have HB9:=Lib.hid (HB7.out.trans hb9);clear ho9 hb9 hk9)))
    go_ret
    exact ⟨_,rfl,add_fin HO9.out (fun b h=>by subst h;exact hs4),HB9.out⟩
   ·obtain rfl:cu=k:=by omega
    have HDR:=Lib.hid (fun W (hW:Below w.heap.size w W)=>trm_dropE (HU.out.below hW))
    go_wp2_with (first | (at_builtin;go_loud (refine wpList_append_x rtermE rfl _ _ rfl w.heap.size _ [] rfl HO0.out (fun b _ hb=>.inl hb.2) _ (T.take cu) rfl (ROn.src HT0.out) (by simp only [List.length_append,List.length_take,List.length_drop,List.length_nil,List.length_cons];unfold maxLen;omega) (by simp only [List.length_append,List.length_take,List.length_drop,List.length_nil,List.length_cons];omega) (by simp;omega) ?_;intro vo w4 ho4 hb4 hk4;rw [List.nil_append] at ho4;obtain ⟨po,co,rfl,_⟩:=ho4.any.shape;rw [HTK.out] at ho4;try rw [HTK.out];have HO4:=Lib.hid ho4;have hb40:=(HB2.out.alloc hs2 (.cells #[] 83)).trans hb4;have HB4:=Lib.hid hb40;have hs4:=hb40.size;skip;clear ho4 hb4 hk4 hb40 HO0 HT0)) | (at_builtin;go_loud (refine wpList_append_x rtermE (S:=fun b=>(S b∧b<w.heap.size)∨b=w4.heap.size) rfl _ _ rfl w.heap.size _ (T.take cu) rfl (((HO4.out.alloc (.cells #[.int .i64 p] 3)).weak fun b _ hb=>.inl hb).alloc _) (lit_apt (S:=S) (B:=w.heap.size) w4 p _) _ [(s,[p])] rfl (HCZ.out w4) (by simp only [List.length_append,List.length_take,List.length_drop,List.length_nil,List.length_cons];unfold maxLen;omega) (by simp only [List.length_append,List.length_take,List.length_drop,List.length_nil,List.length_cons];omega) (by simp;omega) ?_;intro v7 w7 ho7 hb7 hk7;obtain ⟨p7,c7,rfl,_⟩:=ho7.any.shape;rw [HTK1.out] at ho7;try rw [HTK1.out];have HO7:=Lib.hid ho7;have hb70:Below w.heap.size w w7:=((HB4.out.alloc hs4 _).alloc (by simp;omega) _).trans hb7;have HB7:=Lib.hid hb70;have hs7:=hb70.size;have HD7:=Lib.hid (HDR.out w7 hb70);have hi7:IntsOf w7 w4.heap.size:=((lit_int w4 p).alloc _).kep hk7 (fun e=>absurd (HO4.out.cells e).2.1 (Nat.lt_irrefl _));have hap7:=Lib.hid (one_apt (S:=S) (B:=w.heap.size) hi7);clear ho7 hb7 hk7 hb70 hi7)) | (at_builtin;go_loud (refine wpList_append_x rtermE (S:=fun b=>(S b∧b<w.heap.size)∨b=w4.heap.size) rfl _ _ rfl w.heap.size _ _ rfl HO7.out hap7.out _ (T.drop cu) rfl (SrcX.weak (ROn.src HD7.out) fun b _ hb=>.inl hb) (by simp only [List.length_append,List.length_take,List.length_drop,List.length_nil,List.length_cons];unfold maxLen;omega) (by simp only [List.length_append,List.length_take,List.length_drop,List.length_nil,List.length_cons];omega) hs7 ?_;intro v9 w9 ho9 hb9 hk9;rw [HRR.out] at ho9;obtain ⟨p9,c9,rfl,_⟩:=ho9.any.shape;have HO9:=Lib.hid ho9;have HB9:=Lib.hid (HB7.out.trans hb9);clear ho9 hb9 hk9)))
    go_ret
    exact ⟨_,rfl,add_fin HO9.out (fun b h=>by subst h;exact hs4),HB9.out⟩
theorem radd_any (u:Value) (T:List Trm) (s:List UInt8) (p:Int) (w:World) (hu:RAny trmC w u T) (hF:Few T) (hs:s.length≤10000) :
  Calls Tryz.prog 61 #[u,.string ⟨s.toArray⟩,.int .i64 p] w (AddLeft (addP T s p) w) :=
 (radd_on (fun _=>True) u T s p w hu hF hs).mono fun e w' ⟨v,he,h,hb⟩=>⟨v,he,h.any,hb⟩
end Go.Proofs.YtidhgicajlaafaaGreat.EV
