import Derived.Test.YtidhgicajlaafaaGreatZC22
import Derived.Test.YtidhgicajlaafaaGreatZC10
import Derived.Test.YtidhgicajlaafaaGreatZC4
set_option maxRecDepth 100000
set_option maxHeartbeats 8000000
set_option linter.unusedVariables false
set_option linter.unusedSimpArgs false
namespace Go.Proofs.YtidhgicajlaafaaGreat.MX
open Go Go.RowKit MM EM
theorem strE:Elem cStr Tryz.prog 36 9 16:=⟨Tryz.underlying36,by
 obtain ⟨i,h1,h2,h3,h4⟩:=info_parts infoStr
 exact ⟨i,_,h1,h2,h3,h4,rfl⟩⟩
theorem txt_at {S:Nat→Prop} {w:World} {p:Option Addr} {n cap:Nat} {xs:List (List UInt8)} (h:ROn cStr S w (.slice p n cap) xs) {k:Nat} (hk:k<xs.length) :
  ∃ b off,p=some ⟨b,off,none⟩∧b<w.heap.size∧S b∧w.cell? ⟨b,off+k,none⟩=some (.string ⟨xs[k].toArray⟩):=by
 obtain ⟨b,off,vs,hp,hlt,hS,hon,hc⟩:=h.at_ hk
 have hon':vs=[.string ⟨xs[k].toArray⟩]:=hon
 subst hon'
 have:=hc 0 _ rfl
 rw [show cStr.size=1 from rfl,Nat.mul_one,Nat.add_zero] at this
 exact ⟨b,off,hp,hlt,hS,this⟩
theorem txt_dropX {S:Nat→Prop} {w:World} {a:Addr} {n cap:Nat} {T:List (List UInt8)} (h:ROn cStr S w (.slice (some a) n cap) T) {k:Nat} (hk:k≤n) (hc:k<cap):ROn cStr S w (.slice (some (a.add k)) (n - k) (cap - k)) (T.drop k):=by
 have:=h.drop k hk
 rw [if_neg (by omega),Option.map_some,show cStr.size=1 from rfl,Nat.mul_one] at this
 exact this
theorem txt_drop {S:Nat→Prop} {w:World} {b off n cap:Nat} {T:List (List UInt8)} (h:ROn cStr S w (.slice (some ⟨b,off,none⟩) n cap) T) {k:Nat} (hk:k≤n) (hc:k<cap):ROn cStr S w (.slice (some ⟨b,off+k,none⟩) (n - k) (cap - k)) (T.drop k):=by
 have:=txt_dropX h hk hc
 rw [add_at] at this
 exact this
theorem txt_dropL {S:Nat→Prop} {w:World} {a:Addr} {k cap:Nat} {T:List (List UInt8)} (h:ROn cStr S w (.slice (some a) k cap) T) (hc:k<cap):ROn cStr S w (.slice (some (a.add k)) 0 (cap - k)) (T.drop k):=by
 have:=txt_dropX h (Nat.le_refl k) hc
 rw [Nat.sub_self] at this
 exact this
theorem txt_dropE {S:Nat→Prop} {w:World} {a:Option Addr} {n:Nat} {T:List (List UInt8)} (h:ROn cStr S w (.slice a n n) T):ROn cStr S w (.slice a 0 0) (T.drop n):=by
 have:=h.drop n (Nat.le_refl _)
 rw [if_pos rfl,Nat.sub_self] at this
 exact this
def TxtD (T:List (List UInt8)) (w:World) (e:Ending) (w':World):Prop:=∃ u,e=.returned u∧RAny cStr w' u T∧Below w.heap.size w w'
theorem with_none (s:List UInt8) (w:World):Calls Tryz.prog 36 #[.slice none 0 0,.string ⟨s.toArray⟩] w (TxtD (withL [] s) w):=by
 obtain ⟨n,hn⟩:∃ n,n=0:=⟨_,rfl⟩
 obtain ⟨T,hT⟩:∃ T:List (List UInt8),T=[]:=⟨_,rfl⟩
 go_enter Tryz.func36,Tryz.ntmps36
 go_wp2_with fail
 go_loopw [5] (fun iv wr=>iv=.int .i64 0∧Hid (Below w.heap.size w wr)) (fun iv _=>1)
 case atStart=>exact ⟨rfl,Lib.hid (Below.refl _ _)⟩
 case round =>
  obtain ⟨rfl,HB⟩:=hrel
  have hs2:=HB.out.size
  have HB2:=HB
  have HO0:=Lib.hid (OwnX.lit0 (C:=cStr) 9 (fun b=>b<w.heap.size) wr hs2)
  have HT0:Hid (ROn cStr (fun b=>b<w.heap.size) (wr.alloc (.cells #[] 9)) (.slice none 0 0) (T.take n)):=Lib.hid (by rw [hT,List.take_nil];exact ROn.nil_ _ _)
  have HTK:Hid ((T.take n).length=0):=Lib.hid (by rw [hT];simp)
  have HTK1:Hid ((T.take n++[s]).length=1):=Lib.hid (by rw [hT];simp)
  have HRR:Hid (T.take n++[s]++T.drop n=withL [] s):=Lib.hid (by rw [hT];simp [withL])
  have hTl:T.length=0:=by rw [hT];rfl
  have HDR:=Lib.hid (fun W (hW:Below w.heap.size w W)=>(by rw [hT,List.drop_nil];exact ROn.nil_ _ _:ROn cStr (fun b=>b<w.heap.size) W (.slice none 0 0) (T.drop n)))
  go_wp2_with (first | (at_builtin;go_loud (refine wpList_append_x strE rfl _ _ rfl w.heap.size _ [] rfl HO0.out (fun b _ hb=>.inl hb) _ (T.take n) rfl (ROn.src HT0.out) (by simp only [List.length_append,List.length_take,List.length_drop,List.length_nil,List.length_cons];unfold maxLen;omega) (by simp only [List.length_append,List.length_take,List.length_drop,List.length_nil,List.length_cons];omega) (by simp;omega) ?_;intro vo w4 ho4 hb4 hk4;rw [List.nil_append] at ho4;obtain ⟨po,co,rfl,_⟩:=ho4.any.shape;rw [HTK.out] at ho4;try rw [HTK.out];have HO4:=Lib.hid ho4;have hb40:=(HB2.out.alloc hs2 (.cells #[] 9)).trans hb4;have HB4:=Lib.hid hb40;have hs4:=hb40.size;clear ho4 hb4 hk4 hb40 HO0 HT0)) | (at_builtin;go_loud (refine wpList_append_x strE (S:=fun b=>b<w.heap.size) rfl _ _ rfl w.heap.size _ (T.take n) rfl (HO4.out.alloc _) (fun b _ hb=>.inl hb) _ [s] rfl (src_lit (C:=cStr) (d:=s) 9 (vs:=[.string ⟨s.toArray⟩]) rfl) (by simp only [List.length_append,List.length_take,List.length_drop,List.length_nil,List.length_cons];unfold maxLen;omega) (by simp only [List.length_append,List.length_take,List.length_drop,List.length_nil,List.length_cons];omega) (by simp;omega) ?_;intro v7 w7 ho7 hb7 hk7;obtain ⟨p7,c7,rfl,_⟩:=ho7.any.shape;rw [HTK1.out] at ho7;try rw [HTK1.out];have HO7:=Lib.hid ho7;have hb70:Below w.heap.size w w7:=(HB4.out.alloc hs4 _).trans hb7;have HB7:=Lib.hid hb70;have hs7:=hb70.size;have HD7:=Lib.hid (HDR.out w7 hb70);clear ho7 hb7 hk7 hb70)) | (at_builtin;go_loud (refine wpList_append_x strE (S:=fun b=>b<w.heap.size) rfl _ _ rfl w.heap.size _ _ rfl HO7.out (fun b _ hb=>.inl hb) _ (T.drop n) rfl (ROn.src HD7.out) (by simp only [List.length_append,List.length_take,List.length_drop,List.length_nil,List.length_cons];unfold maxLen;omega) (by simp only [List.length_append,List.length_take,List.length_drop,List.length_nil,List.length_cons];omega) hs7 ?_;intro v9 w9 ho9 hb9 hk9;rw [HRR.out] at ho9;obtain ⟨p9,c9,rfl,_⟩:=ho9.any.shape;have HO9:=Lib.hid ho9;have HB9:=Lib.hid (HB7.out.trans hb9);clear ho9 hb9 hk9)))
  go_ret
  exact ⟨_,rfl,HO9.out.any,HB9.out⟩
theorem with_any (u:Value) (T:List (List UInt8)) (s:List UInt8) (w:World) (hu:RAny cStr w u T) (hTl:T.length≤100000000000) (hT:∀ t∈T,t.length≤1000000000000) (hs:s.length≤1000000000000) :
  Calls Tryz.prog 36 #[u,.string ⟨s.toArray⟩] w (TxtD (withL T s) w):=by
 obtain ⟨pu,cu,rfl,hlc,hcm,hpn⟩:=hu.shape
 unfold maxLen at hcm
 cases pu with
 | none =>
   have h0:=hpn rfl
   subst h0
   obtain rfl:T=[]:=List.eq_nil_of_length_eq_zero (by omega)
   exact with_none s w
 | some ad =>
 have HU:=Lib.hid (RAny.bel hu)
 have HFT:=Lib.hid hT
 have H0:Hid (∀ j (hj:j<T.length),j<0→lessL T[j] s=true):=Lib.hid fun j hj h=>absurd h (by omega)
 obtain ⟨n,hn⟩:∃ n,T.length=n:=⟨_,rfl⟩
 have HN:=Lib.hid hn
 rw [hn] at hlc hTl HU ⊢
 clear hu hT hpn hn
 go_enter Tryz.func36,Tryz.ntmps36
 go_wp2_with fail
 go_loopw [5] (fun iv wr=>∃ k:Nat,k≤n∧iv=.int .i64 k∧Hid (∀ j (hj:j<T.length),j<k→lessL T[j] s=true)∧Hid (Below w.heap.size w wr)) (fun iv _=>n - (intOf iv).toNat)
 case atStart=>exact ⟨0,by omega,rfl,H0,Lib.hid (Below.refl _ _)⟩
 case round =>
  obtain ⟨k,hk,rfl,HA,HB⟩:=hrel
  clear H0
  have hsz:=HB.out.size
  by_cases hlt:k<n
  ·have q1:decide ((k:Int)<(n:Int))=true:=by rw [decide_eq_true_eq];omega
   have q2:decide (k<n)=true:=by rw [decide_eq_true_eq];omega
   have hlT:k<T.length:=by rw [HN.out];exact hlt
   obtain ⟨b,off,hpp,hbl,hbB,c1⟩:=txt_at (RBel.below HU.out HB.out) hlT
   obtain rfl:=Option.some.inj hpp
   have hft:=HFT.out T[k] (List.getElem_mem hlT)
   obtain ⟨t,ht⟩:∃ t,T[k]=t:=⟨_,rfl⟩
   rw [ht] at c1 hft
   have HL:=Lib.hid (rlessm_any t s wr (by omega) (by omega))
   have HT:Hid (∀ hj:k<T.length,T[k]=t):=Lib.hid fun _=>ht
   have HLT:=Lib.hid hlt
   have HLT2:=Lib.hid hlT
   clear ht hlt hlT hpp
   cases hless:lessL t s with
   | true =>
     rw [hless] at HL
     have HA2:Hid (∀ j (hj:j<T.length),j<k+1→lessL T[j] s=true):=Lib.hid fun j hj hjk=>by
      by_cases e:j=k
      ·subst e;rw [HT.out hj];exact hless
      ·exact HA.out j hj (by omega)
     clear HA hless
     go_wp2_with fail
     refine HL.out.mono ?_
     rintro e w2 ⟨rfl,m,rfl⟩
     go_wp2_with fail
     have hlt:=HLT.out
     go_roundw
     case rel=>exact ⟨k+1,by omega,by go_num,HA2,Lib.hid (MM.below_drewN HB.out _)⟩
     case measure=>simp [intOf];omega
   | false =>
     rw [hless] at HL
     have HLS:=Lib.hid hless
     have hwd:∀ m,Below w.heap.size w (wr.drewN m):=fun m=>MM.below_drewN HB.out m
     have HWD:=Lib.hid hwd
     clear hless hwd
     go_wp2_with fail
     refine HL.out.mono ?_
     rintro e w2 ⟨rfl,m,hm⟩
     have hb2:=HWD.out m
     have d1:w2.cell? ⟨b,off+k,none⟩=some (.string ⟨t.toArray⟩):=by rw [hm];exact c1
     rw [← hm] at hb2
     have HB2:=Lib.hid hb2
     have hs2:=hb2.size
     have HO0:=Lib.hid (OwnX.lit0 (C:=cStr) 9 (fun b=>b<w.heap.size) w2 hs2)
     have hb20:Below w.heap.size w (w2.alloc (.cells #[] 9)):=hb2.alloc hs2 _
     have HT0:=Lib.hid ((RBel.below HU.out hb20).take k hk)
     clear hm hb2 c1 hb20 HL
     have hcu:k<cu:=by have:=HLT.out;omega
     have HTK:Hid ((T.take k).length=k):=Lib.hid (by rw [List.length_take,HN.out];omega)
     have hTl2:T.length≤100000000000:=by rw [HN.out];exact hTl
     have hsl:=same_list t s
     by_cases hts:t=s
     ·have t2:(t == s)=true:=by rw [beq_iff_eq];exact hts
      have r1:decide (t=s)=true:=decide_eq_true hts
      rw [r1] at hsl
      have hres:withL T s=T:=withL_hit HLT2.out HA.out (by rw [HT.out HLT2.out];exact hts)
      have HRES:=Lib.hid hres
      clear hres hts HA HLS HO0 HT0 HTK hTl2
      go_wp2_with fail
      go_ret
      exact ⟨_,rfl,by rw [HRES.out];exact ROn.weak (RBel.below HU.out HB2.out) fun _ _ _=>trivial,HB2.out⟩
     ·have t2:(t == s)=false:=by rw [beq_eq_false_iff_ne];exact hts
      have r1:decide (t=s)=false:=decide_eq_false hts
      rw [r1] at hsl
      have hres:withL T s=T.take k++s::T.drop k:=withL_miss (by rw [HN.out];exact hk) HA.out fun hj=>by rw [HT.out hj];exact ⟨HLS.out,hts⟩
      have HRR:Hid (T.take k++[s]++T.drop k=withL T s):=Lib.hid (by rw [hres];simp)
      clear hts hres
      have HTK1:Hid ((T.take k++[s]).length=k+1):=Lib.hid (by rw [List.length_append,HTK.out];rfl)
      have HDR:=Lib.hid (fun W (hW:Below w.heap.size w W)=>txt_drop (RBel.below HU.out hW) hk hcu)
      go_wp2_with (first | (at_builtin;go_loud (refine wpList_append_x strE rfl _ _ rfl w.heap.size _ [] rfl HO0.out (fun b _ hb=>.inl hb) _ (T.take k) rfl (ROn.src HT0.out) (by simp only [List.length_append,List.length_take,List.length_drop,List.length_nil,List.length_cons];unfold maxLen;omega) (by simp only [List.length_append,List.length_take,List.length_drop,List.length_nil,List.length_cons];omega) (by simp;omega) ?_;intro vo w4 ho4 hb4 hk4;rw [List.nil_append] at ho4;obtain ⟨po,co,rfl,_⟩:=ho4.any.shape;rw [HTK.out] at ho4;try rw [HTK.out];have HO4:=Lib.hid ho4;have hb40:=(HB2.out.alloc hs2 (.cells #[] 9)).trans hb4;have HB4:=Lib.hid hb40;have hs4:=hb40.size;clear ho4 hb4 hk4 hb40 HO0 HT0)) | (at_builtin;go_loud (refine wpList_append_x strE (S:=fun b=>b<w.heap.size) rfl _ _ rfl w.heap.size _ (T.take k) rfl (HO4.out.alloc _) (fun b _ hb=>.inl hb) _ [s] rfl (src_lit (C:=cStr) (d:=s) 9 (vs:=[.string ⟨s.toArray⟩]) rfl) (by simp only [List.length_append,List.length_take,List.length_drop,List.length_nil,List.length_cons];unfold maxLen;omega) (by simp only [List.length_append,List.length_take,List.length_drop,List.length_nil,List.length_cons];omega) (by simp;omega) ?_;intro v7 w7 ho7 hb7 hk7;obtain ⟨p7,c7,rfl,_⟩:=ho7.any.shape;rw [HTK1.out] at ho7;try rw [HTK1.out];have HO7:=Lib.hid ho7;have hb70:Below w.heap.size w w7:=(HB4.out.alloc hs4 _).trans hb7;have HB7:=Lib.hid hb70;have hs7:=hb70.size;have HD7:=Lib.hid (HDR.out w7 hb70);clear ho7 hb7 hk7 hb70)) | (at_builtin;go_loud (refine wpList_append_x strE (S:=fun b=>b<w.heap.size) rfl _ _ rfl w.heap.size _ _ rfl HO7.out (fun b _ hb=>.inl hb) _ (T.drop k) rfl (ROn.src HD7.out) (by simp only [List.length_append,List.length_take,List.length_drop,List.length_nil,List.length_cons];unfold maxLen;omega) (by simp only [List.length_append,List.length_take,List.length_drop,List.length_nil,List.length_cons];omega) hs7 ?_;intro v9 w9 ho9 hb9 hk9;rw [HRR.out] at ho9;obtain ⟨p9,c9,rfl,_⟩:=ho9.any.shape;have HO9:=Lib.hid ho9;have HB9:=Lib.hid (HB7.out.trans hb9);clear ho9 hb9 hk9)))
      go_ret
      exact ⟨_,rfl,HO9.out.any,HB9.out⟩
  ·obtain rfl:k=n:=by omega
   have q1:decide ((k:Int)<(k:Int))=false:=by simp
   have q2:decide (k<k)=false:=by simp
   have hTl2:T.length≤100000000000:=by rw [HN.out];exact hTl
   have hres:withL T s=T.take k++s::T.drop k:=withL_miss (by rw [HN.out];exact Nat.le_refl _) HA.out fun hj=>absurd hj (by rw [HN.out];omega)
   have HRR:Hid (T.take k++[s]++T.drop k=withL T s):=Lib.hid (by rw [hres];simp)
   have hs2:=HB.out.size
   have HB2:=HB
   have HO0:=Lib.hid (OwnX.lit0 (C:=cStr) 9 (fun b=>b<w.heap.size) wr hs2)
   have HT0:=Lib.hid ((RBel.below HU.out (HB.out.alloc hs2 (.cells #[] 9))).take k (Nat.le_refl _))
   clear hres hlt HA
   have HTK:Hid ((T.take k).length=k):=Lib.hid (by rw [List.length_take,HN.out];omega)
   have HTK1:Hid ((T.take k++[s]).length=k+1):=Lib.hid (by rw [List.length_append,HTK.out];rfl)
   by_cases hce:k<cu
   ·have HDR:=Lib.hid (fun W (hW:Below w.heap.size w W)=>txt_dropL (RBel.below HU.out hW) hce)
    go_wp2_with (first | (at_builtin;go_loud (refine wpList_append_x strE rfl _ _ rfl w.heap.size _ [] rfl HO0.out (fun b _ hb=>.inl hb) _ (T.take k) rfl (ROn.src HT0.out) (by simp only [List.length_append,List.length_take,List.length_drop,List.length_nil,List.length_cons];unfold maxLen;omega) (by simp only [List.length_append,List.length_take,List.length_drop,List.length_nil,List.length_cons];omega) (by simp;omega) ?_;intro vo w4 ho4 hb4 hk4;rw [List.nil_append] at ho4;obtain ⟨po,co,rfl,_⟩:=ho4.any.shape;rw [HTK.out] at ho4;try rw [HTK.out];have HO4:=Lib.hid ho4;have hb40:=(HB2.out.alloc hs2 (.cells #[] 9)).trans hb4;have HB4:=Lib.hid hb40;have hs4:=hb40.size;clear ho4 hb4 hk4 hb40 HO0 HT0)) | (at_builtin;go_loud (refine wpList_append_x strE (S:=fun b=>b<w.heap.size) rfl _ _ rfl w.heap.size _ (T.take k) rfl (HO4.out.alloc _) (fun b _ hb=>.inl hb) _ [s] rfl (src_lit (C:=cStr) (d:=s) 9 (vs:=[.string ⟨s.toArray⟩]) rfl) (by simp only [List.length_append,List.length_take,List.length_drop,List.length_nil,List.length_cons];unfold maxLen;omega) (by simp only [List.length_append,List.length_take,List.length_drop,List.length_nil,List.length_cons];omega) (by simp;omega) ?_;intro v7 w7 ho7 hb7 hk7;obtain ⟨p7,c7,rfl,_⟩:=ho7.any.shape;rw [HTK1.out] at ho7;try rw [HTK1.out];have HO7:=Lib.hid ho7;have hb70:Below w.heap.size w w7:=(HB4.out.alloc hs4 _).trans hb7;have HB7:=Lib.hid hb70;have hs7:=hb70.size;have HD7:=Lib.hid (HDR.out w7 hb70);clear ho7 hb7 hk7 hb70)) | (at_builtin;go_loud (refine wpList_append_x strE (S:=fun b=>b<w.heap.size) rfl _ _ rfl w.heap.size _ _ rfl HO7.out (fun b _ hb=>.inl hb) _ (T.drop k) rfl (ROn.src HD7.out) (by simp only [List.length_append,List.length_take,List.length_drop,List.length_nil,List.length_cons];unfold maxLen;omega) (by simp only [List.length_append,List.length_take,List.length_drop,List.length_nil,List.length_cons];omega) hs7 ?_;intro v9 w9 ho9 hb9 hk9;rw [HRR.out] at ho9;obtain ⟨p9,c9,rfl,_⟩:=ho9.any.shape;have HO9:=Lib.hid ho9;have HB9:=Lib.hid (HB7.out.trans hb9);clear ho9 hb9 hk9)))
    go_ret
    exact ⟨_,rfl,HO9.out.any,HB9.out⟩
   ·obtain rfl:cu=k:=by omega
    have HDR:=Lib.hid (fun W (hW:Below w.heap.size w W)=>txt_dropE (RBel.below HU.out hW))
    go_wp2_with (first | (at_builtin;go_loud (refine wpList_append_x strE rfl _ _ rfl w.heap.size _ [] rfl HO0.out (fun b _ hb=>.inl hb) _ (T.take cu) rfl (ROn.src HT0.out) (by simp only [List.length_append,List.length_take,List.length_drop,List.length_nil,List.length_cons];unfold maxLen;omega) (by simp only [List.length_append,List.length_take,List.length_drop,List.length_nil,List.length_cons];omega) (by simp;omega) ?_;intro vo w4 ho4 hb4 hk4;rw [List.nil_append] at ho4;obtain ⟨po,co,rfl,_⟩:=ho4.any.shape;rw [HTK.out] at ho4;try rw [HTK.out];have HO4:=Lib.hid ho4;have hb40:=(HB2.out.alloc hs2 (.cells #[] 9)).trans hb4;have HB4:=Lib.hid hb40;have hs4:=hb40.size;clear ho4 hb4 hk4 hb40 HO0 HT0)) | (at_builtin;go_loud (refine wpList_append_x strE (S:=fun b=>b<w.heap.size) rfl _ _ rfl w.heap.size _ (T.take cu) rfl (HO4.out.alloc _) (fun b _ hb=>.inl hb) _ [s] rfl (src_lit (C:=cStr) (d:=s) 9 (vs:=[.string ⟨s.toArray⟩]) rfl) (by simp only [List.length_append,List.length_take,List.length_drop,List.length_nil,List.length_cons];unfold maxLen;omega) (by simp only [List.length_append,List.length_take,List.length_drop,List.length_nil,List.length_cons];omega) (by simp;omega) ?_;intro v7 w7 ho7 hb7 hk7;obtain ⟨p7,c7,rfl,_⟩:=ho7.any.shape;rw [HTK1.out] at ho7;try rw [HTK1.out];have HO7:=Lib.hid ho7;have hb70:Below w.heap.size w w7:=(HB4.out.alloc hs4 _).trans hb7;have HB7:=Lib.hid hb70;have hs7:=hb70.size;have HD7:=Lib.hid (HDR.out w7 hb70);clear ho7 hb7 hk7 hb70)) | (at_builtin;go_loud (refine wpList_append_x strE (S:=fun b=>b<w.heap.size) rfl _ _ rfl w.heap.size _ _ rfl HO7.out (fun b _ hb=>.inl hb) _ (T.drop cu) rfl (ROn.src HD7.out) (by simp only [List.length_append,List.length_take,List.length_drop,List.length_nil,List.length_cons];unfold maxLen;omega) (by simp only [List.length_append,List.length_take,List.length_drop,List.length_nil,List.length_cons];omega) hs7 ?_;intro v9 w9 ho9 hb9 hk9;rw [HRR.out] at ho9;obtain ⟨p9,c9,rfl,_⟩:=ho9.any.shape;have HO9:=Lib.hid ho9;have HB9:=Lib.hid (HB7.out.trans hb9);clear ho9 hb9 hk9)))
    go_ret
    exact ⟨_,rfl,HO9.out.any,HB9.out⟩
end Go.Proofs.YtidhgicajlaafaaGreat.MX
