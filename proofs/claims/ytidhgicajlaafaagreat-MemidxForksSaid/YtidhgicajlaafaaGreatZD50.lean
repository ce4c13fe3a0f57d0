import Derived.Test.YtidhgicajlaafaaGreatZD49
set_option maxRecDepth 100000
set_option maxHeartbeats 8000000
set_option linter.unusedVariables false
set_option linter.unusedSimpArgs false
namespace Go.Proofs.YtidhgicajlaafaaGreat.MX
open Go Go.RowKit MM Go.Maps EM SM
open SG (PostD postC postE post_on Tab found)
open RM (rowsE)
open IM (MapI)
theorem rbegun_nil (s:List UInt8) (w:World):Calls Tryz.prog 33 #[.map none,.string ⟨s.toArray⟩] w (PostsBack [] w):=by
 have hmm:=@run_makeMap Tryz.prog
 obtain ⟨W3,hW3⟩:∃ W,w.alloc (.map #[] 0)=W:=⟨_,rfl⟩
 have hrg:=run_range_nilMap (P:=Tryz.prog) W3 58 _ _ Tryz.underlying58
 have hnx:∀ ty,(Instr.next (.pointer (some ⟨W3.heap.size,0,none⟩)) false ty).run Tryz.prog (W3.alloc (.mapIter none 0 #[] 0))=_:=fun ty=>run_next_nilMap W3 ty 0 0 #[]
 obtain ⟨W4,hW4⟩:∃ W,W3.alloc (.mapIter none 0 #[] 0)=W:=⟨_,rfl⟩
 have b3:Below w.heap.size w W3:=by rw [← hW3];exact (Below.refl _ _).alloc (Nat.le_refl _) _
 have b4:Below W3.heap.size W3 W4:=by rw [← hW4];exact (Below.refl _ _).alloc (Nat.le_refl _) _
 have hmi:MapI W4 w.heap.size 0 (fun _=>none):=by
  have:=MapI.made w
  rw [hW3] at this
  exact this.below b4
 have hlm:=MapI.len Tryz.underlying98 hmi
 have HMI:=Lib.hid hmi
 have HB4:=Lib.hid (b3.trans (b4.mono b3.size))
 have HW3:=Lib.hid hW3
 have HW4:=Lib.hid hW4
 rw [hW4] at hnx hrg
 obtain ⟨iP,hiP,hz0,hz1,hz2⟩:=info_parts (show (Tryz.prog.info? 75).map (fun i=>(i.zero,i.size,i.bytes))=some (some (.agg #[.int .i64 0,.slice none 0 0]),2,32) by kernel_rfl)
 clear b3 b4 hW3 hW4 hmi
 go_enter Tryz.func33,Tryz.ntmps33
 go_wp2_with (rw [HW3.out])
 refine wp_loop_rounds 1 ?_
 rw [rounds_succ]
 go_wp2_with (at_make;go_loud (refine wpList_make_own W4 rfl _ _ 33 rfl W4.heap.size 75 iP (.agg #[.int .i64 0,.slice none 0 0]) 2 Tryz.underlying33 hiP hz0 hz1 .i64 .i64 _ 0 rfl rfl rfl (by rw [hz2];omega) (by unfold maxLen;omega) (Nat.le_refl _) ?_;intro w5 ho5 hg5))
 have hb5:=(Below.refl W4.heap.size W4).grown hg5 (Nat.le_refl _) (fun k h=>by cases h)
 obtain ⟨D,hD,hDs,hDF⟩:=HMI.out.below hb5
 have HK:=Lib.hid (callsIn_wide.1 (Tryz.maps_Keys_55 (some w.heap.size) w5))
 have HS:=Lib.hid (callsIn_wide.1 (Tryz.slices_Sorted_keys_54_55 w.heap.size 0 D IM.R0 w5 hD (by rw [hDs];unfold maxLen;omega) (by rw [hDs];omega)))
 have HIK:=Lib.hid (fun (ss:List Int) (hp:ss.Perm (intKeys D))=>(show ss=[] by
  have h1:=(ikeys_sorted hD hp).2
  refine List.eq_nil_iff_forall_not_mem.2 fun z hz => ?_
  have h2:=(h1 z).1 ((sortI_perm ss).mem_iff.2 hz)
  rw [(hDF z).1] at h2
  cases h2))
 have HO5:=Lib.hid (show OwnX postC 75 W4.heap.size (fun _=>False) w5 (.slice (some ⟨W4.heap.size,0,none⟩) 0 0) [] from ⟨[],ho5,Mean.nil_ _ _⟩)
 have HB5:=Lib.hid (HB4.out.trans (hb5.mono HB4.out.size))
 clear hb5 hD hDF ho5 hg5 hlm hz0 hz1 hz2 hiP HMI hrg hnx
 refine HK.out.mono ?_
 rintro e w6 ⟨rfl,hw6⟩
 subst hw6
 go_wp2_with fail
 refine HS.out.mono ?_
 rintro e w7 ⟨kv,ss,rfl,hp,_,hkv,hb7⟩
 obtain rfl:=hkv.2 (HIK.out ss hp)
 have hb57:Below w5.heap.size w5 w7:=((Below.refl _ _).alloc (Nat.le_refl _) _).trans (hb7.mono (by simp))
 have ho7:=HO5.out.keep (kep_below (fun _=>True) hb57) (fun _ _ h=>h.elim) fun _ _=>trivial
 have HQ:=Lib.hid (show PostsBack [] w (.returned (.slice (some ⟨W4.heap.size,0,none⟩) 0 0)) w7 from ⟨⟨_,rfl,ho7.ron (fun g hg=>by
  have:=(ho7.cells hg).1
  have:=HB4.out.size
  omega) (fun _ _ hb=>hb.elim)⟩,HB5.out.trans (hb57.mono HB5.out.size)⟩)
 clear hb57 hb7 hp hkv ho7 HK HS HIK HO5
 go_wp2_with fail
 refine wp_loop_rounds 1 ?_
 rw [rounds_succ]
 go_wp2_with fail
 go_ret
 exact HQ.out
theorem prefix_idx {A:Nat→Prop} {w:World} {g:Nat} {l:List Doc} (h:Idx A w g l) (s:List UInt8):Calls Tryz.prog 10 #[.pointer (some ⟨g,0,none⟩),.string ⟨s.toArray⟩] w (PostsBack (postsM (evM l) s false) w):=by
 have hbg:=h.big
 obtain ⟨dp,dc,mb,X,F,hp,_,hr⟩:=h.cellp
 have HO:=Lib.hid (ornone_p hp)
 have HC:=Lib.hid (fun W (hb:Below w.heap.size w W)=>rbegun_any mb X l F s W (hr.tab.below hb) hbg)
 clear h hp hr hbg
 go_enter Tryz.func10,Tryz.ntmps10
 go_wp2_with fail
 refine HO.out.mono ?_
 rintro e w1 ⟨rfl,hb⟩
 have HB:=Lib.hid hb
 have HC1:=Lib.hid (HC.out w1 hb)
 unfold ixA
 have f1:=ix_f2 (.int .i64 (l.length:Int)) (.int .i64 (sizeM l:Int)) (.int .i64 (timesM l).1) (.int .i64 (timesM l).2.1) (.int .i64 (seqsM l).1) (.int .i64 (seqsM l).2) (.slice dp l.length dc) (.map (some mb)) w1
 clear hb HO HC
 go_wp2_with fail
 refine HC1.out.mono ?_
 rintro e w2 ⟨⟨u,rfl,hu⟩,hb2⟩
 obtain ⟨pu,cu,rfl,_⟩:=hu.shape
 have HQ:=Lib.hid (show PostsBack (postsM (evM l) s false) w (.returned (.slice pu (postsM (evM l) s false).length cu)) w2 from ⟨⟨_,rfl,hu.weak fun b _ h=>Nat.le_trans HB.out.size h⟩,HB.out.trans (hb2.mono HB.out.size)⟩)
 clear hu hb2 HC1
 go_wp2_with fail
 go_ret
 exact HQ.out
theorem prefix_nob {w:World} {p:Option Addr} (h:NobP w p) (s:List UInt8):Calls Tryz.prog 10 #[.pointer p,.string ⟨s.toArray⟩] w (PostsBack [] w):=by
 have HO:=Lib.hid (ornone_nob h)
 have HC:=Lib.hid (fun W=>rbegun_nil s W)
 clear h
 go_enter Tryz.func10,Tryz.ntmps10
 go_wp2_with fail
 refine HO.out.mono ?_
 rintro e w1 ⟨rfl,hb⟩
 have HB:=Lib.hid hb
 have HC1:=Lib.hid (HC.out w1)
 unfold zero8
 have f1:=ix_f2 (.int .i64 0) (.int .i64 0) (.int .i64 0) (.int .i64 0) (.int .i64 0) (.int .i64 0) (.slice none 0 0) (.map none) w1
 clear hb HO HC
 go_wp2_with fail
 refine HC1.out.mono ?_
 rintro e w2 ⟨⟨u,rfl,hu⟩,hb2⟩
 have HQ:=Lib.hid (show PostsBack [] w (.returned u) w2 from ⟨⟨_,rfl,hu.weak fun b _ h=>Nat.le_trans HB.out.size h⟩,HB.out.trans (hb2.mono HB.out.size)⟩)
 clear hu hb2 HC1
 go_wp2_with fail
 go_ret
 exact HQ.out
end Go.Proofs.YtidhgicajlaafaaGreat.MX
