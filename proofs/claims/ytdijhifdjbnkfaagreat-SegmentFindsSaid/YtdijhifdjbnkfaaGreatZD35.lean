import Derived.Test.YtdijhifdjbnkfaaGreatZD22
import Derived.Test.YtdijhifdjbnkfaaGreatZD34
import Derived.Test.YtdijhifdjbnkfaaGreatZD19
set_option maxRecDepth 100000
set_option maxHeartbeats 8000000
set_option linter.unusedVariables false
set_option linter.unusedSimpArgs false
namespace Go.Proofs.YtdijhifdjbnkfaaGreat.SG
open Go Go.RowKit MM EM GB TR
open GM (Zrw Zrz ZrA ZhC ZhG ZhF)
open DT (entC Zhx entE)
open PM (isL)
def Zbo (rows:List (EM.Tr Zbd)) (w:World) (e:Ending) (w':World):Prop:=∃ u x,e=.returned (.tuple #[u,x])∧OwnB w.heap.size w' u (Zrw rows)∧RAny entC w' x (ZhC 0 rows)∧Below w.heap.size w w'
theorem Zhv (S:Nat→Prop) (w:World) (x:DM.Ent):SrcX entC S (w.alloc (.cells #[.string ⟨x.1.toArray⟩,.int .i64 x.2.1,.int .i64 x.2.2.1,.int .i64 x.2.2.2] 102)) (.slice (some ⟨w.heap.size,0,none⟩) 1 1) [x]:=Zwe 102 (Zhx.2 rfl)
theorem ZhJ {B C:Nat} {S:Nat→Prop} {w:World} {u x:Value} {L:List UInt8} {es:List DM.Ent} (h:OwnB C w u L) (k:OwnX entC 102 B S w x es) {g:Nat} (hg:x.ownBlock=some g):u.ownBlock≠some g:=fun e=>by
 obtain ⟨_,_,c1,f1,h1⟩:=k.cells hg
 obtain ⟨_,c2,f2,h2⟩:=Zp8 h e
 rw [h1] at h2
 simp only [Option.some.injEq,Obj.cells.injEq] at h2
 exact absurd h2.2.1 (by decide)
theorem ZuF (tv:Value) (B mb:Nat) (X:Nat→Prop) (F:List UInt8→Option Value) (rows:List (EM.Tr Zbd)) (w:World) (ht:TRow w tv (rows.map (·.1))) (hT:Tab B mb X rows F w)
  (hrow:∀ r∈rows,r.2.length≤65536∧PM.sumL r.2≤600000∧r.1.length≤65∧isL r.2=true∧r.2≠[]) (hl:rows.length≤100000) (hp:(Zrw rows).length≤6000000) :
  Calls Tryz.prog 78 #[tv,.map (some mb)] w (Zbo rows w):=by
 obtain ⟨M,hM⟩:∃ M:List (List UInt8),rows.map (·.1)=M:=⟨_,rfl⟩
 have hml:M.length=rows.length:=by rw [← hM,List.length_map]
 have HMA:=Lib.hid (fun (k:Nat) (hk:k<rows.length)=>(show ∃ h:k<M.length,M[k]=rows[k].1 by subst hM;exact ⟨by simpa using hk,by rw [List.getElem_map]⟩))
 rw [hM] at ht
 obtain ⟨p,cap,rfl,hlc,hcm⟩:=TIn.shape ht
 rw [hml] at hlc ht ⊢
 unfold maxLen at hcm
 have HT:=Lib.hid hT
 have HTM:=Lib.hid (TIn.mono ht (Nat.le_refl _))
 have HROW:=Lib.hid hrow
 have HPOS:=Lib.hid (fun (k:Nat) (hk:k<rows.length)=>RM.Zrl hT.rise (List.getElem_mem hk))
 have HPN:=Lib.hid (fun (k:Nat) (hk:k<rows.length)=>Zrz hk)
 have HEN:=Lib.hid (fun (k:Nat) (hk:k<rows.length)=>ZhG hk)
 have HPT:=Lib.hid (fun k=>Nat.le_trans (ZrA rows k) hp)
 have HEND:Hid (rows.take rows.length=rows):=Lib.hid (by rw [List.take_length])
 have HU0:Hid (OwnB w.heap.size w (.slice none 0 0) (Zrw (rows.take 0))):=Lib.hid (World.ownsRow_nil _ _ _ _)
 have HX0:Hid (OwnX entC 102 w.heap.size (fun _=>False) w (.slice none 0 0) (ZhC 0 (rows.take 0))):=Lib.hid (OwnX.nil_ _ _ _ _)
 clear hM hml ht hT hrow hp
 go_enter Tryz.func78,Tryz.ntmps78
 go_wp2_with fail
 go_loopw [4,5,12] (fun uv xv iv wr=>∃ k:Nat,k≤rows.length∧iv=.int .i64 k∧Hid (OwnB w.heap.size wr uv (Zrw (rows.take k)))∧Hid (OwnX entC 102 w.heap.size (fun _=>False) wr xv (ZhC 0 (rows.take k)))∧Hid (Below w.heap.size w wr)) (fun _ _ iv _=>rows.length - (intOf iv).toNat)
 case atStart=>exact ⟨0,by omega,rfl,HU0,HX0,Lib.hid (Below.refl _ _)⟩
 case round =>
  obtain ⟨k,hk,rfl,HU,HX,HB⟩:=hrel
  clear HU0 HX0
  by_cases hlt:k<rows.length
  ·have t1:decide ((k:Int)<(rows.length:Int))=true:=by simp;omega
   have t2:decide (k<rows.length)=true:=decide_eq_true hlt
   have t3:(k:Int)<(rows.length:Int):=by omega
   obtain ⟨hkM,hMk⟩:=HMA.out k hlt
   obtain ⟨b,off,rfl,hbl,c0⟩:=TIn.at_ (TIn.below HTM.out HB.out) hkM
   rw [hMk] at c0
   obtain ⟨h1,h2,h3,h4,h5⟩:=HROW.out _ (List.getElem_mem hlt)
   have hpos:=HPOS.out k hlt
   have hpn:=HPN.out k hlt
   have hen:=HEN.out k hlt
   have hpt:=HPT.out (k+1)
   have hpt0:=HPT.out k
   have hel:=ZhF (rows.take k) 0
   rw [List.length_take,Nat.min_eq_left (by omega)] at hel
   obtain ⟨⟨s,ps⟩,hr⟩:∃ r,rows[k]=r:=⟨_,rfl⟩
   rw [hr] at c0 h1 h2 h3 h4 h5 hpos hpn hen
   dsimp only at c0 h1 h2 h3 h4 h5 hpos hpn hen
   have hsl:s.length≤maxLen:=by unfold maxLen;omega
   have hTr:=HT.out.below HB.out
   have hff:=hTr.found s
   rw [hpos] at hff
   obtain ⟨fv,hfv⟩:∃ fv,found F s=fv:=⟨_,rfl⟩
   have lk:=hTr.look s hsl
   have HLK:=Lib.hid (fun W (hW:Below wr.heap.size wr W)=>(hTr.below hW).look s hsl)
   rw [hfv] at hff lk HLK
   obtain ⟨pf,cf,rfl,_⟩:=(OwnS.any hff.1).shape
   have HC:=Lib.hid (PW.Zg1 _ ps wr (ZtZ (OwnS.any hff.1)) (by omega) (by omega))
   have he:PW.encR ps=(PM.encL ps,0):=by unfold PW.encR;rw [if_pos h4]
   rw [he] at HC
   have hne:PM.encL ps≠[]:=fun e=>by
    have h:=(VM.Zea ps.length).1
    have h':=congrArg List.length e
    unfold PM.encL at h'
    simp only [List.length_append,List.length_nil] at h'
    omega
   obtain ⟨E,hE⟩:∃ E,PM.encL ps=E:=⟨_,rfl⟩
   rw [hE] at HC hpn hen hne
   rw [hpn,List.length_append] at hpt
   obtain ⟨L0,hL0⟩:∃ L,Zrw (rows.take k)=L:=⟨_,rfl⟩
   obtain ⟨E0,hE0⟩:∃ L,ZhC 0 (rows.take k)=L:=⟨_,rfl⟩
   have hu:=HU.out
   have hx:=HX.out
   rw [hL0] at hu hpn hen hpt hpt0
   rw [hE0] at hx hen hel
   obtain ⟨pu,cu,rfl,_⟩:=(OwnB.brow hu).shape
   obtain ⟨px,cx,hxv,_⟩:=hx.any.shape
   rw [hel] at hxv
   subst hxv
   have HUr:=Lib.hid hu
   have HXr:=Lib.hid hx
   have HPNN:=Lib.hid hpn
   have HENN:=Lib.hid hen
   have HNE:=Lib.hid hne
   have HBS:Hid (w.heap.size≤wr.heap.size):=Lib.hid HB.out.size
   have HLT:=Lib.hid hlt
   clear hu hx hTr hff hfv hpos hpn hen hne hE hL0 hE0 he hr hkM hMk h2 h3 h4 h5 HU HX hlt
   go_wp2_with fail
   refine HC.out.mono ?_
   rintro e w2 ⟨v2,rfl,ho2,hb2⟩
   have ho2:OwnB wr.heap.size w2 v2 E:=ho2
   obtain ⟨p2,c2,rfl,_⟩:=(OwnB.brow ho2).shape
   have lk2:=HLK.out w2 hb2
   have hb3:Below w2.heap.size w2 (w2.alloc (.cells #[.string ⟨s.toArray⟩,.int .i64 (L0.length:Int),.int .i64 (E.length:Int),.int .i64 (ps.length:Int)] 102)):=(Below.refl _ _).alloc (Nat.le_refl _) _
   have hBs:=HBS.out
   have HX3:=Lib.hid ((HXr.out.keep (ZmT (fun _=>True) hb2) (fun _ _ _=>trivial) (fun _ _=>trivial)).alloc (.cells #[.string ⟨s.toArray⟩,.int .i64 (L0.length:Int),.int .i64 (E.length:Int),.int .i64 (ps.length:Int)] 102))
   have HU3:=Lib.hid ((HUr.out.keep hb2).keep hb3)
   have HV3:=Lib.hid (ho2.keep hb3)
   have HB3:=Lib.hid ((HB.out.trans (hb2.mono hBs)).trans (hb3.mono (by have:=hb2.size;omega)))
   have HLIT:=Lib.hid (Zhv (fun _=>False) w2 (s,((L0.length:Int),((E.length:Int),(ps.length:Int)))))
   have HS3:Hid (w.heap.size≤(w2.alloc (.cells #[.string ⟨s.toArray⟩,.int .i64 (L0.length:Int),.int .i64 (E.length:Int),.int .i64 (ps.length:Int)] 102)).heap.size):=Lib.hid HB3.out.size
   clear ho2 hb2 hb3 HC HLK HXr HUr lk HB
   go_wp2_with (first | (at_builtin;go_loud (refine Zzv entE rfl _ _ rfl w.heap.size _ E0 rfl HX3.out (fun b _ hb=>hb.elim) _ [(s,((L0.length:Int),((E.length:Int),(ps.length:Int))))] rfl HLIT.out (by unfold maxLen;simp only [List.length_singleton];omega) (by simp only [List.length_singleton];omega) HS3.out ?_;intro v4 w4 ho4 hb4 hk4;rw [← HENN.out] at ho4;have HX4:=Lib.hid ho4;have HU4:=Lib.hid (OwnB.kepOwn HU3.out hk4 fun g hg e=>ZhJ HU3.out HX3.out e hg);have HV4:=Lib.hid (OwnB.brow (OwnB.kepOwn HV3.out hk4 fun g hg e=>ZhJ HV3.out HX3.out e hg));have HB4:=Lib.hid (HB3.out.trans hb4);clear ho4 hb4 hk4)) | (at_builtin;go_loud (refine Zzp rfl _ _ rfl _ L0 rfl (OwnB.zero HU4.out) _ E rfl HV4.out HNE.out (by omega) ?_;intro v5 w5 ho5 hg5;obtain ⟨ho6,hb6⟩:=ZkT HB4.out.size HU4.out hg5 ho5;rw [← HPNN.out] at ho6;have HU5:=Lib.hid ho6;have HX5:=Lib.hid (HX4.out.keep hg5.kep (fun _ _ h=>h.elim) fun g hg e=>ZhJ HU4.out HX4.out hg e);have HB5:=Lib.hid (HB4.out.trans hb6);clear ho5 hg5 ho6 hb6)))
   have hlt:=HLT.out
   go_roundw
   case rel=>exact ⟨k+1,by omega,by go_num,HU5,HX5,HB5⟩
   case measure=>simp [intOf];omega
  ·obtain rfl:k=rows.length:=by omega
   have t1:decide ((rows.length:Int)<(rows.length:Int))=false:=by simp
   have hu:=HU.out
   have hx:=HX.out
   rw [HEND.out] at hu hx
   have HU9:=Lib.hid hu
   have HX9:=Lib.hid hx.any
   clear HU HX hu hx hlt
   go_wp2_with fail
   go_ret2
   exact ⟨_,_,rfl,HU9.out,HX9.out,HB.out⟩
end Go.Proofs.YtdijhifdjbnkfaaGreat.SG
