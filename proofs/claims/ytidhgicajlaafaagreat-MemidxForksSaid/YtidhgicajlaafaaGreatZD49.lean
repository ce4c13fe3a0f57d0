import Derived.Test.YtidhgicajlaafaaGreatZD48
set_option maxRecDepth 100000
set_option maxHeartbeats 8000000
set_option linter.unusedVariables false
set_option linter.unusedSimpArgs false
namespace Go.Proofs.YtidhgicajlaafaaGreat.MX
open Go Go.RowKit MM Go.Maps EM SM
open SG (PostD postC postE post_on Tab found)
open RM (rowsE)
open IM (MapI InI wp_mapI_store)
theorem pref_any (n s:List UInt8) (w:World):Calls Tryz.prog 53 #[.string ⟨n.toArray⟩,.string ⟨s.toArray⟩] w fun e w'=>e=.returned (.bool (selM s false n))∧w=w':=by
 refine (Tryz.strings_HasPrefix ⟨n.toArray⟩ ⟨s.toArray⟩ w).mono ?_
 rintro e w' ⟨rfl,rfl⟩
 refine ⟨?_,rfl⟩
 have h:=hasPrefix_sel n s
 simp only [Ending.returned.injEq,Value.bool.injEq]
 simpa using h
theorem post_at {S:Nat→Prop} {w:World} {p:Option Addr} {n cap:Nat} {ps:List PostD} (h:ROn postC S w (.slice p n cap) ps) {k:Nat} (hk:k<ps.length) :
  ∃ b off v,p=some ⟨b,off,none⟩∧b<w.heap.size∧S b∧w.cell? ⟨b,off+k*2,none⟩=some (.int .i64 ps[k].1)∧w.cell? ⟨b,off+k*2+1,none⟩=some v∧ROn cInt S w v ps[k].2:=by
 obtain ⟨b,off,vs,hp,hlt,hS,hon,hc⟩:=h.at_ hk
 rw [post_on] at hon
 obtain ⟨v,rfl,hr⟩:=hon
 exact ⟨b,off,v,hp,hlt,hS,hc 0 _ rfl,hc 1 _ rfl,hr⟩
def Beg (n0 mb K:Nat) (G:Int→List Int) (w:World):Prop:=∃ c F,c≤K∧PlT n0 mb c G F w∧∀ d,(F d).isSome=true→G d≠[]
theorem Beg.keep {n0 mb K:Nat} {G:Int→List Int} {S:Nat→Prop} {w w':World} (h:Beg n0 mb K G w) (hk:Kep S w w') (hm:S mb) (hS:∀ b,n0≤b→S b):Beg n0 mb K G w':=by
 obtain ⟨c,F,h1,h2,h3⟩:=h
 exact ⟨c,F,h1,h2.keep hk hm hS,h3⟩
theorem Beg.below {n0 mb K:Nat} {G:Int→List Int} {w w':World} (h:Beg n0 mb K G w) (hb:Below w.heap.size w w'):Beg n0 mb K G w':=h.keep (kep_below (fun _=>True) hb) trivial fun _ _=>trivial
theorem own_ints_ron {e:TypeId} {B:Nat} {S:Nat→Prop} {w:World} {v:Value} {zs:List Int} (h:OwnC cInt e B w v zs) (hS:∀ g,v.ownBlock=some g→S g):ROn cInt S w v zs:=by
 obtain ⟨raw,h1,h2⟩:=h
 exact OwnX.ron (C:=cInt) (e:=e) (B:=B) (S:=S) ⟨raw,h1,⟨h2.1,fun i hi hi'=>h2.2 i hi hi'⟩⟩ hS fun _ _ h=>h
theorem own_some {e:TypeId} {B:Nat} {w:World} {v:Value} {zs:List Int} (h:OwnC cInt e B w v zs) (hne:zs≠[]):∃ g cap,v=.slice (some ⟨g,0,none⟩) zs.length cap:=by
 rcases (own_introw h).2 with ⟨_,h0⟩ | ⟨g,cap,cur,hv,_⟩
 ·exact absurd (List.eq_nil_of_length_eq_zero h0) hne
 ·exact ⟨g,cap,hv⟩
theorem mapi_small {w:World} {mb m:Nat} {F:Int→Option Value} (h:MapI w mb m F) (hb:∀ d,(F d).isSome=true → -1<d∧d<1048576):m≤1048576:=by
 obtain ⟨D,hD,hs,hF⟩:=h
 obtain ⟨h1,h2⟩:=ikeys_sorted hD (List.Perm.refl _)
 have h3:PM.riseL 1048576 (sortI (intKeys D))=true:=RM.riseF_of (fun z hz=>hb z (by rw [← (hF z).1];exact (h2 z).1 hz)) h1
 have h4:=PM.riseL_len h3
 rw [sortI_len] at h4
 obtain ⟨es,rfl,_⟩:=hD.entries IM.intKeyed
 have h5:(intKeys (.map es)).length=es.length:=by show (es.map _).length=_;rw [List.length_map]
 have h6:Maps.size (DataW.map es)=es.length:=rfl
 omega
theorem tot_bounds {es:List Ev} (hel:es.length≤65536) {rs:List RowP} {s:List UInt8} (hrs:rs.Perm (rowsE es)) {d:Int} (h:totM rs s d≠[]) : -1<d∧d<1048576:=by
 obtain ⟨k,hk,rfl,_⟩:=tot_none hrs h
 exact ⟨by omega,by omega⟩
theorem gath_put {rs:List RowP} {s:List UInt8} {n:List UInt8} {ps:List PostD} {j:Nat} (hj:j<ps.length) (d:Int) (zs:List Int) (hp:ps[j]=(d,zs)) :
  (fun k=>if k=d then (totM rs s k++posAt (n,ps.take j) k)++zs else totM rs s k++posAt (n,ps.take j) k)=fun k=>totM rs s k++posAt (n,ps.take (j+1)) k:=by
 funext k
 rw [posAt_next n hj k,hp]
 by_cases e:k=d
 ·rw [if_pos e,if_pos e,List.append_assoc]
 ·rw [if_neg e,if_neg e,List.append_nil]
theorem turn_next (G:Int→List Int) {ks:List Int} {i:Nat} (hi:i<ks.length) :
  (fun k=>if k=ks[i] then sortI (G ks[i]) else if k∈ks.take i then sortI (G k) else G k)=fun k=>if k∈ks.take (i+1) then sortI (G k) else G k:=by
 funext k
 rw [List.take_succ_eq_append_getElem hi]
 by_cases e:k=ks[i]
 ·subst e
  rw [if_pos rfl,if_pos (List.mem_append_right _ (List.mem_singleton_self _))]
 ·rw [if_neg e]
  by_cases h:k∈ks.take i
  ·rw [if_pos h,if_pos (List.mem_append_left _ h)]
  ·rw [if_neg h,if_neg (fun hm=>(List.mem_append.1 hm).elim h fun hm=>e (List.mem_singleton.1 hm))]
theorem take_fresh {ks:List Int} (h:ks.Pairwise (·<·)) {i:Nat} (hi:i<ks.length):ks[i]∉ks.take i:=fun hm=>by
 obtain ⟨j,hj,e⟩:=List.getElem_of_mem hm
 rw [List.length_take] at hj
 rw [List.getElem_take] at e
 have:=List.pairwise_iff_getElem.1 h j i (by omega) hi (by omega)
 omega
theorem PlT.stay {S:Nat→Prop} {B mb c:Nat} {G:Int→List Int} {F:Int→Option Value} {w w':World} (h:PlT B mb c G F w) (hk:Kep S w w') (hSm:S mb) (hS:∀ d v g,F d=some v→v.ownBlock=some g→S g):PlT B mb c G F w':=by
 obtain ⟨m,hm,hv⟩:=h.map
 exact ⟨⟨m,hm,hv.kep hk hSm⟩,h.none,fun d v hf=>⟨own_int_kep (h.own d v hf).1 hk fun g hg=>hS d v g hf hg,(h.own d v hf).2⟩,h.apart⟩
theorem kep_below9 {q:Nat} {w w':World} (h:Below q w w'):Kep (fun k=>k<q) w w':=⟨h.os,h.tape,h.output,h.size,fun k _ hq=>h.block k hq⟩
def SI (F:Int→Option Value) (ks:List Int) (i:Nat):Nat→Prop:=fun b=>∃ d v,d∈ks.take i∧F d=some v∧v.ownBlock=some b
theorem SI.next {F:Int→Option Value} {ks:List Int} {i b:Nat} (h:SI F ks i b):SI F ks (i+1) b:=by
 obtain ⟨d,v,h1,h2,h3⟩:=h
 refine ⟨d,v,?_,h2,h3⟩
 by_cases hi:i<ks.length
 ·rw [List.take_succ_eq_append_getElem hi]
  exact List.mem_append_left _ h1
 ·rw [List.take_of_length_le (by omega)]
  exact List.mem_of_mem_take h1
theorem map_next (f:Int→PostD) {ks:List Int} {i:Nat} (hi:i<ks.length):(ks.take i).map f++[f ks[i]]=(ks.take (i+1)).map f:=by
 rw [List.take_succ_eq_append_getElem hi,List.map_append]
 rfl
theorem types_ne:3≠75:=by decide
theorem ints_not {B B':Nat} {w:World} {v u:Value} {zs:List Int} {ps:List PostD} {S:Nat→Prop} (h:OwnC cInt 3 B w v zs) (h':OwnX postC 75 B' S w u ps):∀ g,v.ownBlock=some g→u.ownBlock≠some g:=fun g hg hu=>by
 obtain ⟨_,_,cur,fr,h1⟩:=h'.cells hu
 rcases (own_introw h).2 with ⟨h0,_⟩ | ⟨g2,cap,cur2,hv,_,h2,_⟩
 ·rw [h0] at hg;cases hg
 ·rw [hv] at hg
  have:g2=g:=Option.some.inj hg
  subst this
  rw [h1] at h2
  simp only [Option.some.injEq,Obj.cells.injEq] at h2
  exact types_ne h2.2.1.symm
theorem rbegun_any (mb:Nat) (X:Nat→Prop) (l:List Doc) (F:List UInt8→Option Value) (s:List UInt8) (w:World) (h:Tab 0 mb X (rowsE (evM l)) F w) (hB:BigM l) :
  Calls Tryz.prog 33 #[.map (some mb),.string ⟨s.toArray⟩] w (PostsBack (postsM (evM l) s false) w):=by
 have hTl:=rows_big hB
 obtain ⟨es,hes⟩:∃ es,evM l=es:=⟨_,rfl⟩
 have hel:es.length≤65536:=by rw [← hes,evM_len];exact hB.1
 rw [hes] at h hTl ⊢
 have hpc:∀ r∈rowsE es,r.2.length≤65536:=fun r hr=>RM.rowsE_count hel hr
 have hpp:∀ r∈rowsE es,∀ p∈r.2,∃ k:Nat,k<es.length∧p.1=(k:Int)∧p.2≠[]:=fun r hr p hp=>row_post hr hp
 obtain ⟨R,hR⟩:∃ R,rowsE es=R:=⟨_,rfl⟩
 have hbe:∀ (rs:List RowP) (ks:List Int),rs.Perm R→ks.Pairwise (·<·)→(∀ d,d∈ks↔totM rs s d≠[])→ks.map (fun d=>(d,sortI (totM rs s d)))=postsM es s false:=fun rs ks hrs hks hm=>by rw [← hR] at hrs;exact beg_end hrs hks hm
 have htb:∀ (rs:List RowP),rs.Perm R→∀ d,totM rs s d≠[] → -1<d∧d<1048576:=fun rs hrs d hd=>by rw [← hR] at hrs;exact tot_bounds hel hrs hd
 have htp:∀ (rs rest:List RowP) (r:RowP),((rs++[r])++rest).Perm R→selM s false r.1=true→∀ j d,(totM rs s d++posAt (r.1,r.2.take j) d).length≤1048576:=fun rs rest r hp hs j d=>by rw [← hR] at hp;exact tot_part hp hs j d
 have hts:∀ (rs:List RowP),rs.Perm R→∀ d,(totM rs s d).length≤1048576:=fun rs hp d=>by rw [← hR] at hp;exact tot_small (rest:=[]) (by rw [List.append_nil];exact hp) s d
 rw [hR] at h hTl hpc hpp
 obtain ⟨Z,hZ⟩:∃ Z,postsM es s false=Z:=⟨_,rfl⟩
 rw [hZ] at hbe ⊢
 have hmm:=@run_makeMap Tryz.prog
 obtain ⟨W3,hW3⟩:∃ W,w.alloc (.map #[] 0)=W:=⟨_,rfl⟩
 have b13:Below w.heap.size w W3:=by rw [← hW3];exact (Below.refl _ _).alloc (Nat.le_refl _) _
 have s3:W3.heap.size=w.heap.size+1:=by rw [← hW3];simp
 have m3:Beg (w.heap.size+2) w.heap.size 0 (fun d=>totM [] s d) W3:=⟨0,fun _=>none,Nat.le_refl _,by rw [← hW3];exact PlT.made w _,fun d h=>by cases h⟩
 have hmbl:=h.map.lt
 have HM:=Lib.hid (h.below b13).map
 have HG:=Lib.hid m3
 have HB:=Lib.hid b13
 have HH:=Lib.hid h
 have HW3:=Lib.hid hW3
 have HS3:=Lib.hid s3
 have HRI:=Lib.hid h.rise
 have HPC:=Lib.hid hpc
 have HPP:=Lib.hid hpp
 have HBE:=Lib.hid hbe
 have HTB:=Lib.hid htb
 have HTP:=Lib.hid htp
 have HTS:=Lib.hid hts
 clear h m3 b13 hW3 s3 hpc hpp hbe htb htp hts hR hes hB hZ
 go_enter Tryz.func33,Tryz.ntmps33
 go_wp2_with (at_range;go_loud (rw [HW3.out];refine wpList_range_map Tryz.underlying58 rfl _ rfl mb _ _ rfl HM.out ?_;intro w0 cnt0 hrg0 hb0 hs0))
 have HG0:=Lib.hid (HG.out.below hb0)
 have HP0:Hid ((([]:List RowP)++restR R fun n=>(F n).isSome).Perm R):=Lib.hid (rest_start fun r hr=>by
  rw [tab_iff HH.out]
  exact List.mem_map.2 ⟨r,hr,rfl⟩)
 have HB0:=Lib.hid (HB.out.trans (hb0.mono HB.out.size))
 have HR0:=Lib.hid hrg0
 have HW0:Hid (w.heap.size+2≤w0.heap.size):=Lib.hid (by have:=HS3.out;omega)
 clear hrg0 hb0 hs0 HG HB HM hmm
 go_frame
 go_loopw [6] (fun v wr=>∃ (left:List UInt8→Bool) (cnt:Nat) (rs:List RowP),Hid (RangeV wr mb W3.heap.size R.length F left cnt)∧Hid ((rs++restR R left).Perm R)∧Hid (Beg (w.heap.size+2) w.heap.size (rs.length*65536) (fun d=>totM rs s d) wr)∧Hid (Below w.heap.size w wr)∧Hid (w.heap.size+2≤wr.heap.size)) (fun _ wr=>wr.rangeLeft mb W3.heap.size)
 case atStart=>exact ⟨_,cnt0,[],HR0,HP0,HG0,HB0,HW0⟩
 case round =>
  obtain ⟨left,cnt,rs,HRG,HP,HG,HB,HW⟩:=hrel
  clear HR0 HP0 HG0 HB0 HW0
  go_wp2_with (at_next;go_loud (refine wpList_next_map rfl _ rfl mb W3.heap.size _ _ left cnt rfl HRG.out ?_ ?_))
  ·intro hl0
   obtain ⟨wq,hwq⟩:∃ wq,wq=wr:=⟨_,rfl⟩
   subst hwq
   have hrs:=rest_end HP.out hl0
   obtain ⟨c,F',hc,hP,hne⟩:=HG.out
   have hsome:∀ d,(F' d).isSome=true↔totM rs s d≠[]:=fun d=>⟨hne d,fun h=>by
    cases hF:F' d with
    | none=>exact absurd (hP.none d hF) h
    | some v=>rfl⟩
   obtain ⟨m,hm,hmv⟩:=hP.map
   have hms:=mapi_small hmv fun d hd=>HTB.out rs hrs d ((hsome d).1 hd)
   have hlm:=MapI.len Tryz.underlying98 hmv
   have hlow:∀ d v g,F' d=some v→v.ownBlock=some g→w.heap.size+2≤g∧g<wq.heap.size:=fun d v g hf hg=>(OwnC.lt (hP.own d v hf).1 g hg)
   obtain ⟨iP,hiP,hz0,hz1,hz2⟩:=info_parts (show (Tryz.prog.info? 75).map (fun i=>(i.zero,i.size,i.bytes))=some (some (.agg #[.int .i64 0,.slice none 0 0]),2,32) by kernel_rfl)
   have HRS:=Lib.hid hrs
   have HSM:=Lib.hid hsome
   have HPL:=Lib.hid hP
   have HLOW:=Lib.hid hlow
   have HMV:=Lib.hid hmv
   have hwq:w.heap.size+2≤wq.heap.size:=HW.out
   clear hrs hsome hP hne hlow hmv HRG HP HG HW hc hm hl0
   go_wp2_with (at_make;go_loud (refine wpList_make_own wq rfl _ _ 33 rfl wq.heap.size 75 iP (.agg #[.int .i64 0,.slice none 0 0]) 2 Tryz.underlying33 hiP hz0 hz1 .i64 .i64 _ m rfl rfl rfl (by rw [hz2];omega) (by unfold maxLen;omega) (Nat.le_refl _) ?_;intro w5 ho5 hg5))
   have hb5:=(Below.refl wq.heap.size wq).grown hg5 (Nat.le_refl _) (fun k h=>by cases h)
   have hP5:=HPL.out.below hb5
   obtain ⟨D,hD,hDs,hDF⟩:=HMV.out.below hb5
   have HK:=Lib.hid (callsIn_wide.1 (Tryz.maps_Keys_55 (some w.heap.size) w5))
   have HS:=Lib.hid (callsIn_wide.1 (Tryz.slices_Sorted_keys_54_55 w.heap.size m D IM.R0 w5 hD (by rw [hDs];unfold maxLen;omega) (by rw [hDs];omega)))
   have HIK:=Lib.hid (fun (ss:List Int) (hp:ss.Perm (intKeys D))=>ikeys_sorted hD hp)
   have HDF:=Lib.hid hDF
   have HP5:=Lib.hid hP5
   have HO5:=Lib.hid ho5
   have HB5:=Lib.hid (HB.out.trans (hb5.mono HB.out.size))
   have hs5:=hb5.size
   have hg5':wq.heap.size<w5.heap.size:=(World.ownsRow.lt ho5 wq.heap.size rfl).2
   clear hb5 hP5 hD hDF ho5 hg5 HMV HPL HB hlm hz0 hz1 hz2 hiP
   refine HK.out.mono ?_
   rintro e w6 ⟨rfl,hw6⟩
   subst hw6
   go_wp2_with fail
   refine HS.out.mono ?_
   rintro e w7 ⟨kv,ss,rfl,hp,hrow,_,hb7⟩
   obtain ⟨hks,hkm⟩:=HIK.out ss hp
   have hsl:=sortI_len ss
   have hk7:OwnC cInt 3 (w5.heap.size+1) w7 kv (sortI ss):=introw_own (by
    rw [hsl]
    have e:(w5.alloc (.cells #[.map (some w.heap.size)] 98)).heap.size=w5.heap.size+1:=by simp
    rw [← e]
    exact hrow)
   obtain ⟨ks,hkse⟩:∃ ks,sortI ss=ks:=⟨_,rfl⟩
   rw [hkse] at hks hkm hk7
   obtain ⟨pk,ck,rfl,_⟩:=(OwnC.any hk7).shape
   have hmem:∀ d,d∈ks↔totM rs s d≠[]:=fun d=>by rw [hkm,(HDF.out d).1,HSM.out]
   have hz:=HBE.out rs ks HRS.out hks hmem
   have hb57:Below w5.heap.size w5 w7:=((Below.refl _ _).alloc (Nat.le_refl _) _).trans (hb7.mono (by simp))
   have HO7:Hid (OwnX postC 75 wq.heap.size (SI F' ks 0) w7 (.slice (some ⟨wq.heap.size,0,none⟩) 0 m) ((ks.take 0).map fun d=>(d,sortI (totM rs s d)))):=Lib.hid (OwnX.keep (T:=fun _=>True) ⟨[],HO5.out,Mean.nil_ _ _⟩ (kep_below _ hb57) (fun _ _ _=>trivial) fun _ _=>trivial)
   have HP7:Hid (PlT (w.heap.size+2) w.heap.size c (fun k=>if k∈ks.take 0 then sortI (totM rs s k) else totM rs s k) F' w7):=Lib.hid (by
    have e:(fun k=>if k∈ks.take 0 then sortI (totM rs s k) else totM rs s k)=fun d=>totM rs s d:=by
     funext k
     rw [if_neg (by simp)]
    rw [e]
    exact HP5.out.below hb57)
   have HK7:=Lib.hid hk7
   have HB7:=Lib.hid (HB5.out.trans (hb57.mono HB5.out.size))
   have HKS:=Lib.hid hks
   have HMM:=Lib.hid hmem
   have HZ:=Lib.hid hz
   have hkl:ks.length≤1048576:=by
    have h3:PM.riseL 1048576 ks=true:=RM.riseF_of (fun z hz=>HTB.out rs HRS.out z ((hmem z).1 hz)) hks
    exact PM.riseL_len h3
   clear hks hkm hk7 hmem hz hb57 hb7 hrow hp HK HS HIK HDF HP5 HO5 HB5 hsl hkse
   go_wp2_with fail
   go_loopw [10,49] (fun pv iv wk=>∃ i:Nat,i≤ks.length∧iv=.int .i64 i∧Hid (OwnX postC 75 wq.heap.size (SI F' ks i) wk pv ((ks.take i).map fun d=>(d,sortI (totM rs s d))))∧Hid (PlT (w.heap.size+2) w.heap.size c (fun k=>if k∈ks.take i then sortI (totM rs s k) else totM rs s k) F' wk)∧Hid (OwnC cInt 3 (w5.heap.size+1) wk (.slice pk ks.length ck) ks)∧Hid (Below w.heap.size w wk)) (fun _ iv _=>ks.length - (intOf iv).toNat)
   case atStart=>exact ⟨0,Nat.zero_le _,rfl,HO7,HP7,HK7,HB7⟩
   case round =>
    obtain ⟨i,hi,rfl,HO,HP,HK,HB⟩:=hrel
    clear HO7 HP7 HK7 HB7
    obtain ⟨pp,pc,rfl,_⟩:=(OwnX.any HO.out).shape
    have hpl:((ks.take i).map fun d=>(d,sortI (totM rs s d))).length=i:=by rw [List.length_map,List.length_take];omega
    rw [hpl] at HO ⊢
    have HPLN:=Lib.hid hpl
    clear hpl
    by_cases hlt:i<ks.length
    ·have q1:decide ((i:Int)<(ks.length:Int))=true:=by rw [decide_eq_true_eq];omega
     have q2:decide (i<ks.length)=true:=by rw [decide_eq_true_eq];omega
     have q3:(i:Int)<(ks.length:Int):=by omega
     obtain ⟨b,off,rfl,hbl,_,k0⟩:=MM.int_at (OwnC.any HK.out) hlt
     have hne:=(HMM.out _).1 (List.getElem_mem hlt)
     have hfr:=take_fresh HKS.out hlt
     have htn:=turn_next (fun d=>totM rs s d) hlt
     have hmn:=map_next (fun d=>(d,sortI (totM rs s d))) hlt
     have hbd:=HTB.out rs HRS.out _ hne
     have hts:=HTS.out rs HRS.out ks[i]
     have hin:InI ks[i]:=by unfold InI;omega
     have hmt:ks[i]∈ks.take (i+1):=by
      rw [List.take_succ_eq_append_getElem hlt]
      exact List.mem_append_right _ (List.mem_singleton_self _)
     obtain ⟨d,hd⟩:∃ d,ks[i]=d:=⟨_,rfl⟩
     rw [hd] at k0 hne hfr htn hmn hbd hts hin hmt
     try dsimp only at htn
     try dsimp only at hmn
     obtain ⟨v,hv⟩:∃ v,F' d=some v:=Option.isSome_iff_exists.1 ((HSM.out d).2 hne)
     have hfv:foundI F' d=v:=by unfold foundI;rw [hv];rfl
     have hown:=(HP.out.own d v hv).1
     rw [if_neg hfr] at hown
     obtain ⟨g,cap,rfl⟩:=own_some hown hne
     have hgl:=HLOW.out d _ g hv rfl
     have hlk:=HP.out.look d hin
     rw [hfv] at hlk
     have HSO:=Lib.hid (sort_own hown (by omega))
     have HLT:=Lib.hid hlt
     have HNE:=Lib.hid hne
     have HFR:=Lib.hid hfr
     have HTN:=Lib.hid htn
     have HMN:=Lib.hid hmn
     have HIN:=Lib.hid hin
     have HMT:=Lib.hid hmt
     have HV:=Lib.hid hv
     have HFV:=Lib.hid hfv
     have htl:(sortI (totM rs s d)).length=(totM rs s d).length:=sortI_len _
     obtain ⟨tl,htl2⟩:∃ tl,(totM rs s d).length=tl:=⟨_,rfl⟩
     rw [htl2] at HSO htl hlk hts HV HFV
     clear hlt hne hfr htn hmn hin hmt hv hfv hown hbl hd htl2
     go_wp2_with fail
     refine HSO.out.mono ?_
     rintro e w8 ⟨rfl,ho8,hk8⟩
     have hp8:=HP.out.turn HV.out (hk8.mono fun b hb=>fun e=>hb (by rw [e];rfl)) ho8
     rw [HTN.out] at hp8
     have hlk8:=hp8.look d HIN.out
     rw [HFV.out] at hlk8
     have hox8:=(HO.out.keep hk8 (fun b _ hb=>fun e=>by
      subst e
      obtain ⟨d',v',h1,h2,h3⟩:=hb
      exact HFR.out (by rw [← HP.out.apart d' d v' _ b h2 HV.out h3 rfl];exact h1)) fun g' hg'=>by have:=(HO.out.cells hg').1;omega).weak (T:=SI F' ks (i+1)) fun b _ hb=>hb.next
     have hkk8:=own_int_kep HK.out hk8 fun g' hg'=>by have:=(OwnC.lt HK.out g' hg').1;omega
     have hb8:Below w.heap.size w w8:=HB.out.trans (hk8.below HB.out.size fun k hk=>by omega)
     have hs8:=hk8.size
     have HP8:=Lib.hid hp8
     have HOX8:=Lib.hid hox8
     have HKK8:=Lib.hid hkk8
     have HB8:=Lib.hid hb8
     have hq8:wq.heap.size≤w8.heap.size:=by
      have h1:=(OwnC.lt HKK8.out b rfl)
      omega
     have hon:postC.on (SI F' ks (i+1)) w8 [.int .i64 d,.slice (some ⟨g,0,none⟩) tl cap] (d,sortI (totM rs s d)):=post_on.2 ⟨_,rfl,own_ints_ron ho8 fun g' hg'=>⟨d,_,HMT.out,HV.out,hg'⟩⟩
     have HSRC:=Lib.hid (src_lit 75 hon)
     have hwa:Below w8.heap.size w8 (w8.alloc (.cells #[.int .i64 d,.slice (some ⟨g,0,none⟩) tl cap] 75)):=(Below.refl _ _).alloc (Nat.le_refl _) _
     have hsa:(w8.alloc (.cells #[.int .i64 d,.slice (some ⟨g,0,none⟩) tl cap] 75)).heap.size=w8.heap.size+1:=by simp
     have HWA:=Lib.hid hwa
     clear hon hp8 hox8 hkk8 hb8 ho8 hk8 HSO HO HP HK HB hlk hwa
     go_wp2_with (at_builtin;go_loud (refine wpList_append_x postE (S:=SI F' ks (i+1)) rfl _ _ rfl wq.heap.size (.slice pp i pc) _ rfl (HOX8.out.alloc _) (fun b _ hb=>by obtain ⟨d',v',_,h2,h3⟩:=hb;exact .inl (HLOW.out d' v' b h2 h3).2) _ [(d,sortI (totM rs s d))] rfl HSRC.out (by rw [HPLN.out];unfold maxLen;simp;omega) (by rw [HPLN.out];simp;omega) (by omega) ?_))
     intro v' w9 ho9 hb9 hk9
     rw [← List.map_take,HMN.out] at ho9
     have hp9:=(HP8.out.below HWA.out).stay (kep_below9 hb9) (by omega) fun d' v' g' h1 h2=>(HLOW.out d' v' g' h1 h2).2
     have hkk9:=own_int_kep (own_int_kep HKK8.out (kep_below (fun _=>True) HWA.out) fun _ _=>trivial) hk9 (ints_not (own_int_kep HKK8.out (kep_below (fun _=>True) HWA.out) fun _ _=>trivial) (HOX8.out.alloc _))
     have hb92:Below w.heap.size w w9:=(HB8.out.trans (HWA.out.mono HB8.out.size)).trans (hb9.mono (by omega))
     have HO9:=Lib.hid ho9
     have HP9:=Lib.hid hp9
     have HK9:=Lib.hid hkk9
     have HB9:=Lib.hid hb92
     have hlt:=HLT.out
     clear ho9 hp9 hkk9 hb9 hb92 hk9 hlk8 HSRC
     go_wp2_with fail
     go_roundw
     case rel=>exact ⟨i+1,by omega,by go_num,HO9,HP9,HK9,HB9⟩
     case measure=>simp [intOf];omega
    ·obtain rfl:i=ks.length:=by omega
     have q1:decide ((ks.length:Int)<(ks.length:Int))=false:=by simp
     have q2:decide (ks.length<ks.length)=false:=by simp
     have hron:=HO.out.ron (T:=fun b=>w.heap.size≤b) (fun g hg=>by have:=(HO.out.cells hg).1;omega) fun b _ hb=>by
      obtain ⟨d',v',_,h2,h3⟩:=hb
      have:=(HLOW.out d' v' b h2 h3).1
      omega
     rw [List.take_length,HZ.out] at hron
     have HRON:=Lib.hid hron
     clear hlt hron HO HP HK
     go_wp2_with fail
     go_ret
     exact ⟨⟨_,rfl,HRON.out⟩,HB.out⟩
  ·intro n v w1 cnt1 hn hl hFn hrg1 hlt hk1 hsz hen
   have hle0:=HB.out.size
   have s3:=HS3.out
   have hbw1:Below w.heap.size w w1:=HB.out.trans (hk1.below hle0 (fun k hk e=>by omega))
   have hg1:Beg (w.heap.size+2) w.heap.size (rs.length*65536) (fun d=>totM rs s d) w1:=HG.out.keep hk1 (by omega) fun b hb=>by omega
   have hfd:=(HH.out.below hbw1).own n v hFn
   have hr:=RM.posOf_some hfd.2.1
   have hpq:=rest_next HRI.out HP.out hr hl
   have hpc:=HPC.out _ hr
   have hpp:=HPP.out _ hr
   have htp:=fun hs=>HTP.out _ _ _ hpq hs
   obtain ⟨ps,hps⟩:∃ ps,posOf R n=ps:=⟨_,rfl⟩
   obtain ⟨pf,cf,rfl,_⟩:=(OwnS.any hfd.1).shape
   rw [hps] at hpq hpc hpp htp hr
   dsimp only at hpc hpp htp
   have HROW:=Lib.hid (fun W (hb:Below w.heap.size w W)=>(show RAny postC W (.slice pf ps.length cf) ps by
    have h5:=(HH.out.below hb).own n _ hFn
    rw [hps] at h5
    exact OwnS.any h5.1))
   rw [hps] at hen hFn ⊢
   have HPRE:=Lib.hid (pref_any n s w1)
   have HRL:=Lib.hid HRG.out.left_eq
   have HG1:=Lib.hid hg1
   have HB1:=Lib.hid hbw1
   have HR1:=Lib.hid hrg1
   have HPQ:=Lib.hid hpq
   have HCN:=Lib.hid hlt
   have HPC1:=Lib.hid hpc
   have HPP1:=Lib.hid hpp
   have HTP1:=Lib.hid htp
   have HRS:Hid (rs.length≤1000000000000):=Lib.hid (by have:=hpq.length_eq;rw [List.length_append,List.length_append] at this;omega)
   have hws:w.heap.size+2≤w1.heap.size:=by have:=HW.out;omega
   have HW1:=Lib.hid hws
   clear s3 hg1 hfd hbw1 hrg1 hn hFn hlt hk1 hsz HG HB HRG HW HP hl hps hr hpq hpc hpp htp hws
   go_wp2_with fail
   refine HPRE.out.mono ?_
   rintro e w2 ⟨rfl,rfl⟩
   cases hsel:selM s false n with
   | false =>
     have HG2:Hid (Beg (w.heap.size+2) w.heap.size ((rs++[(n,ps)]).length*65536) (fun d=>totM (rs++[(n,ps)]) s d) w1):=Lib.hid (by
      obtain ⟨c,F',h1,h2,h3⟩:=HG1.out
      have e:(fun d=>totM (rs++[(n,ps)]) s d)=fun d=>totM rs s d:=by
       funext d
       rw [totM_next,if_neg (by rw [hsel];decide),List.append_nil]
      rw [e]
      exact ⟨c,F',Nat.le_trans h1 (Nat.mul_le_mul_right _ (by rw [List.length_append];exact Nat.le_add_right _ _)),h2,h3⟩)
     clear HG1 hen hle0
     go_wp2_with fail
     go_roundw
     case rel=>exact ⟨_,cnt1,rs++[(n,ps)],HR1,HPQ,HG2,HB1,HW1⟩
     case measure =>
      rw [HRL.out,HR1.out.left_eq]
      exact HCN.out
   | true =>
     obtain ⟨K0,hK0⟩:∃ K0,rs.length*65536=K0:=⟨_,rfl⟩
     rw [hK0] at HG1
     have HG2:Hid (Beg (w.heap.size+2) w.heap.size (K0+0) (fun d=>totM rs s d++posAt (n,ps.take 0) d) w1):=Lib.hid (by
      have e:(fun d=>totM rs s d++posAt (n,ps.take 0) d)=fun d=>totM rs s d:=by
       funext d
       rw [posAt_zero,List.append_nil]
      rw [e]
      exact HG1.out)
     have hK1:K0≤70000000000000000:=by have:=HRS.out;omega
     have HK1:=Lib.hid hK1
     have HSEL:=Lib.hid hsel
     have HK0:=Lib.hid hK0
     clear HG1 hen hle0 hsel hK0 hK1
     go_wp2_with fail
     go_loopw [27] (fun jv wr=>∃ j:Nat,j≤ps.length∧jv=.int .i64 j∧Hid (RangeV wr mb W3.heap.size R.length F (fun k=>left k && !decide (k=n)) cnt1)∧Hid (Beg (w.heap.size+2) w.heap.size (K0+j) (fun d=>totM rs s d++posAt (n,ps.take j) d) wr)∧Hid (Below w.heap.size w wr)∧Hid (w.heap.size+2≤wr.heap.size)) (fun jv _=>ps.length - (intOf jv).toNat)
     case atStart=>exact ⟨0,Nat.zero_le _,rfl,HR1,HG2,HB1,HW1⟩
     case round =>
      obtain ⟨j,hj,rfl,HR2,HG3,HB2,HW2⟩:=hrel
      clear HR1 HG2 HB1 HW1
      by_cases hlj:j<ps.length
      ·have q1:decide ((j:Int)<(ps.length:Int))=true:=by rw [decide_eq_true_eq];omega
       have q2:decide (j<ps.length)=true:=by rw [decide_eq_true_eq];omega
       have q3:(j:Int)<(ps.length:Int):=by omega
       obtain ⟨b,off,pv,rfl,hbl,_,d0,d1,hzs⟩:=post_at (HROW.out wr HB2.out) hlj
       obtain ⟨kd,hkd,hke,hzne⟩:=HPP1.out ps[j] (List.getElem_mem hlj)
       have hlen:=HTP1.out (HSEL.out) (j+1) ((ps[j]).1)
       rw [posAt_next n hlj,if_pos rfl,← List.append_assoc,List.length_append] at hlen
       obtain ⟨⟨dk,zs⟩,hts⟩:∃ x,ps[j]=x:=⟨_,rfl⟩
       have hgp:=gath_put (rs:=rs) (s:=s) (n:=n) hlj dk zs hts
       rw [hts] at d0 hzs hke hzne hlen
       dsimp only at d0 hzs hke hzne hlen
       obtain ⟨pz,cz,rfl,_⟩:=hzs.shape
       have hin:InI dk:=by unfold InI;omega
       obtain ⟨c,F',hc,hP,hne⟩:=HG3.out
       obtain ⟨wd,hwd⟩:∃ wd,(wr.alloc (.cells #[.int .i64 dk,.slice pz zs.length cz] 75)).drew=wd:=⟨_,rfl⟩
       have hkw:Below wr.heap.size wr wd:=by rw [← hwd];exact ((Below.refl _ _).alloc (Nat.le_refl _) _).drew
       have hbt:Two wd wr.heap.size 75 (.int .i64 dk) (.slice pz zs.length cz):=by rw [← hwd];exact (two_new wr 75 _ _).keep (kep_draw (fun _=>True) _) trivial
       have hPd:=hP.below hkw
       have hfd:=hPd.found dk
       have hfw:=hP.found dk
       have hmx:Tryz.prog.follows .mixedOrders=true:=by kernel_rfl
       have hlt:=hP.lt
       have HGC:=Lib.hid (fun W' (hW:Kep (fun b=>b≠w.heap.size∧(foundI F' dk).ownBlock≠some b) wd W') =>
        have h:=hbt.keep hW ⟨by omega,fun e=>by have:=(hfw.2 _ e).2.2;omega⟩
        (⟨h.c0,h.c1⟩:W'.cell? ⟨wr.heap.size,0,none⟩=some (.int .i64 dk)∧W'.cell? ⟨wr.heap.size,1,none⟩=some (.slice pz zs.length cz)))
       have hrest:∀ W',Kep (fun b=>b≠w.heap.size∧(foundI F' dk).ownBlock≠some b) wd W'→RangeV W' mb W3.heap.size R.length F (fun k=>left k && !decide (k=n)) cnt1∧Below w.heap.size w W':=fun W' hW=>by
        have s3:=HS3.out
        have hfb:∀ g,(foundI F' dk).ownBlock=some g→w.heap.size+2≤g:=fun g hg=>(hfd.2 g hg).1
        refine ⟨(HR2.out.kep (kep_below (fun _=>True) hkw) trivial trivial).kep hW ⟨by omega,fun e=>by have:=hfb _ e;omega⟩ ⟨by omega,fun e=>by have:=hfb _ e;omega⟩,(HB2.out.trans (hkw.mono (by omega))).trans (hW.below (by have:=hkw.size;omega) fun k hk=>⟨by omega,fun e=>by have:=hfb _ e;omega⟩)⟩
       have HREST:=Lib.hid hrest
       have HPD:=Lib.hid hPd
       have HFD:=Lib.hid hfd
       have HZS:Hid (RAny cInt wd (.slice pz zs.length cz) zs):=Lib.hid (ROn.keep hzs.any (kep_below _ hkw) fun _ _ h=>h)
       have HWD:=Lib.hid hwd
       have HGP:=Lib.hid hgp
       have HNE:=Lib.hid hne
       have HC0:=Lib.hid hc
       have HLN:=Lib.hid hlen
       have HZN:=Lib.hid hzne
       have HLJ:=Lib.hid hlj
       have hwz:w.heap.size+2≤wd.heap.size:=by have:=HW2.out;have:=hkw.size;omega
       have HWZ:=Lib.hid hwz
       have HIN:=Lib.hid hin
       clear hts hgp hlen hke hzne hne hc hwd hkw hbt hPd hfd hfw hlt hrest hlj hkd HR2 HG3 HB2 HW2 hP hzs hwz hin
       go_wp2_with fail
       refine RT.begin_ (T:=fun b=>b≠w.heap.size∧(foundI F' dk).ownBlock≠some b) (.take 0<|.take 1<|.take 2<|.take 3<|.take 4<|.take 5<|.take 7<|.take 8<|.alone 6<|.alone 9<|.alone 10<|.done) hmx (by kernel_rfl) rfl (by kernel_rfl) (fun _ _ d _ _ h=>by cases d<;>exact h) ?_
       simp only [RT.ordered,List.getElem?_toArray,List.getElem?_cons_succ,List.getElem?_cons_zero]
       rw [HWD.out]
       repeat (refine RT.take (by rfl) (by intro W' hW;obtain ⟨g0,g1⟩:=HGC.out W' hW;go_simp;with_reducible rfl) ?_;simp only [Act.put,List.setIfInBounds_toArray,List.set_cons_zero,List.set_cons_succ])
       refine RT.alone (RT.step (by rfl) (fun K hK => ?_))
       have hlk:=HPD.out.look dk HIN.out
       go_simp
       refine hK.out _ _ (Kep.refl _ _) ?_
       clear hK K hlk
       try simp only [Act.put,List.setIfInBounds_toArray,List.set_cons_zero,List.set_cons_succ]
       refine RT.alone (RT.step (by rfl) (fun K hK => ?_))
       have hln:=HLN.out
       refine wp_append_ci _ _ rfl (w.heap.size+2) (foundI F' dk) _ rfl HFD.out.1 (.slice pz zs.length cz) zs rfl HZS.out HZN.out (by omega) HWZ.out ?_
       intro v' w3 ho3 hk3 hg3
       refine hK.out _ _ (hk3.mono fun b hb=>hb.2) ?_
       clear hK K hln
       try simp only [Act.put,List.setIfInBounds_toArray,List.set_cons_zero,List.set_cons_succ]
       refine RT.alone (RT.step (by rfl) (fun K hK => ?_))
       obtain ⟨m,hm,hmv⟩:=HPD.out.map
       have hc0:=HC0.out
       have hrs:=HK1.out
       have hjp:=HPC1.out
       refine wp_mapI_store Tryz.underlying98 _ _ _ rfl w.heap.size m F' rfl (hmv.kep hk3 fun e=>(HFD.out.2 _ e).2.1 rfl) (by unfold maxLen;omega) dk v' rfl rfl HIN.out ?_
       intro w4 hm4 hk4
       refine hK.out _ _ (hk4.mono fun b hb=>hb.1) ?_
       clear hK K
       have hput:=HPD.out.put hk3 ho3 hg3 ⟨_,by split<;>omega,hm4⟩ hk4
       rw [HGP.out] at hput
       obtain ⟨hr5,hb5⟩:=HREST.out w4 ((hk3.mono fun b hb=>hb.2).trans (hk4.mono fun b hb=>hb.1))
       have HG5:Hid (Beg (w.heap.size+2) w.heap.size (K0+(j+1)) (fun d=>totM rs s d++posAt (n,ps.take (j+1)) d) w4):=Lib.hid ⟨c+1,_,by omega,hput,fun d hd=>by
        have e:(if d=dk then (totM rs s d++posAt (n,ps.take j) d)++zs else totM rs s d++posAt (n,ps.take j) d)=totM rs s d++posAt (n,ps.take (j+1)) d:=congrFun HGP.out d
        show totM rs s d++posAt (n,ps.take (j+1)) d≠[]
        rw [← e]
        by_cases q:d=dk
        ·rw [if_pos q];exact fun h=>HZN.out (List.append_eq_nil_iff.1 h).2
        ·rw [if_neg q] at hd ⊢
         exact HNE.out d hd⟩
       have HR5:=Lib.hid hr5
       have HB5:=Lib.hid hb5
       have HW5:Hid (w.heap.size+2≤w4.heap.size):=Lib.hid (Nat.le_trans HWZ.out (Nat.le_trans hk3.size hk4.size))
       clear hput hr5 hb5 hm4 hk4 hmv ho3 hk3 hg3 hm hc0 hrs hjp
       refine RT.done ?_
       have hlj:=HLJ.out
       have hpl:=HPC1.out
       go_wp2_with fail
       go_roundw
       case rel=>exact ⟨j+1,by omega,by go_num,HR5,HG5,HB5,HW5⟩
       case measure=>simp [intOf];omega
      ·obtain rfl:j=ps.length:=by omega
       have q1:decide ((ps.length:Int)<(ps.length:Int))=false:=by simp
       have q2:decide (ps.length<ps.length)=false:=by simp
       have HG4:Hid (Beg (w.heap.size+2) w.heap.size ((rs++[(n,ps)]).length*65536) (fun d=>totM (rs++[(n,ps)]) s d) wr):=Lib.hid (by
        obtain ⟨c,F',h1,h2,h3⟩:=HG3.out
        have e:(fun d=>totM (rs++[(n,ps)]) s d)=fun d=>totM rs s d++posAt (n,ps.take ps.length) d:=by
         funext d
         rw [totM_next,if_pos HSEL.out,posAt_all]
        rw [e]
        refine ⟨c,F',Nat.le_trans h1 ?_,h2,h3⟩
        rw [List.length_append,Nat.add_mul,HK0.out]
        exact Nat.add_le_add_left (by rw [List.length_singleton,Nat.one_mul];exact HPC1.out) _)
       clear hlj HG3
       go_wp2_with fail
       go_roundw
       case rel=>exact ⟨_,cnt1,rs++[(n,ps)],HR2,HPQ,HG4,HB2,HW2⟩
       case measure =>
        rw [HRL.out,HR2.out.left_eq]
        exact HCN.out
end Go.Proofs.YtidhgicajlaafaaGreat.MX
