import Derived.Test.YtidhgicajlaafaaGreatZD11
import Derived.Test.YtidhgicajlaafaaGreatZD18
set_option maxRecDepth 100000
set_option maxHeartbeats 8000000
set_option linter.unusedVariables false
set_option linter.unusedSimpArgs false
namespace Go.Proofs.YtidhgicajlaafaaGreat.MX
open Go Go.RowKit MM
open EV (intE)
theorem int_at {S:Nat→Prop} {w:World} {p:Option Addr} {n cap:Nat} {zs:List Int} (h:ROn cInt S w (.slice p n cap) zs) {k:Nat} (hk:k<zs.length) :
  ∃ b off,p=some ⟨b,off,none⟩∧b<w.heap.size∧S b∧w.cell? ⟨b,off+k,none⟩=some (.int .i64 zs[k]):=by
 obtain ⟨b,off,vs,hp,hlt,hS,hon,hc⟩:=h.at_ hk
 have hon':vs=[.int .i64 zs[k]]:=hon
 subst hon'
 have:=hc 0 _ rfl
 rw [show cInt.size=1 from rfl,Nat.mul_one,Nat.add_zero] at this
 exact ⟨b,off,hp,hlt,hS,this⟩
theorem merge_more {cur M:List Int} {x:Int} {r s:List Int} (h:cur++r=M) (e:r=x::s):(cur++[x])++s=M:=by rw [← h,e,List.append_assoc];rfl
def MergeD (B:Nat) (M:List Int) (w:World) (e:Ending) (w':World):Prop:=(∃ u,e=.returned u∧OwnC cInt 3 B w' u M)∧Below B w w'
theorem rmerge_any (av bv:Value) (a b:List Int) (w:World) (ha:RAny cInt w av a) (hb:RAny cInt w bv b) (hl:a.length+b.length≤1000000000000) :
  Calls Tryz.prog 64 #[av,bv] w (MergeD w.heap.size (mergeL a b) w):=by
 obtain ⟨p,cp,rfl,hp1,hp2,_⟩:=ha.shape
 obtain ⟨q,cq,rfl,hq1,hq2,_⟩:=hb.shape
 unfold maxLen at hp2 hq2
 have HP:=Lib.hid ha
 have HQ:=Lib.hid hb
 have HL:=Lib.hid (fun (i k:Nat) (hi:i<a.length) (h:b.length≤k∨∃ hk:k<b.length,a[i]<b[k])=>mergeL_left hi h)
 have HR:=Lib.hid (fun (i k:Nat) (hk:k<b.length) (h:a.length≤i∨∃ hi:i<a.length,¬ a[i]<b[k])=>mergeL_right hk h)
 have HE:Hid (mergeL (a.drop a.length) (b.drop b.length)=[]):=Lib.hid (by rw [List.drop_length,List.drop_length,mergeL_nil])
 obtain ⟨M,hM⟩:∃ M,mergeL a b=M:=⟨_,rfl⟩
 rw [hM]
 have H0:Hid ([]++mergeL (a.drop 0) (b.drop 0)=M):=Lib.hid hM
 have HO0:Hid (OwnC cInt 3 w.heap.size w (.slice none 0 0) []):=Lib.hid (OwnC.nil_ _ _ _)
 clear ha hb hM
 go_enter Tryz.func64,Tryz.ntmps64
 go_wp2_with fail
 go_loopw [5,6,7] (fun lv iv kv wr=>∃ (i k:Nat) (cur:List Int),i≤a.length∧k≤b.length∧cur.length=i+k∧iv=.int .i64 i∧kv=.int .i64 k∧Hid (cur++mergeL (a.drop i) (b.drop k)=M)∧Hid (OwnC cInt 3 w.heap.size wr lv cur)∧Hid (Below w.heap.size w wr)) (fun _ iv kv _=>(a.length - (intOf iv).toNat)+(b.length - (intOf kv).toNat))
 case atStart=>exact ⟨0,0,[],Nat.zero_le _,Nat.zero_le _,rfl,rfl,rfl,H0,HO0,Lib.hid (Below.refl _ _)⟩
 case round =>
  obtain ⟨i,k,cur,hi,hk,hc,rfl,rfl,HA,HO,HB⟩:=hrel
  clear H0 HO0
  obtain ⟨pu,cu,rfl,_,_⟩:=OwnC.shape HO.out
  have hsz:=HB.out.size
  have HX:=Lib.hid (fun (h:i<a.length)=>int_at (RAny.below HP.out HB.out) h)
  have HY:=Lib.hid (fun (h:k<b.length)=>int_at (RAny.below HQ.out HB.out) h)
  by_cases hil:i<a.length
  ·have q1:decide ((i:Int)<(a.length:Int))=true:=by rw [decide_eq_true_eq];omega
   obtain ⟨c1,o1,rfl,hc1,_,e1⟩:=HX.out hil
   obtain ⟨x,hx⟩:∃ r,a[i]=r:=⟨_,rfl⟩
   by_cases hkl:k<b.length
   ·have q2:decide ((k:Int)<(b.length:Int))=true:=by rw [decide_eq_true_eq];omega
    have q3:((k:Int) == (b.length:Int))=false:=by rw [beq_eq_false_iff_ne];omega
    obtain ⟨c2,o2,rfl,hc2,_,e2⟩:=HY.out hkl
    obtain ⟨y,hy⟩:∃ r,b[k]=r:=⟨_,rfl⟩
    by_cases hlt:x<y
    ·have q4:decide (x<y)=true:=decide_eq_true hlt
     have hnx:=merge_more HA.out (HL.out i k hil (.inr ⟨hkl,by rw [hx,hy];exact hlt⟩))
     rw [hx] at hnx e1
     rw [hy] at e2
     clear hx hy hlt
     have HN:=Lib.hid hnx
     clear hnx HA HX HY
     go_wp2_with fail
     go_quiet (fail)
     go_wp2_with (at_builtin;go_loud (refine wpList_append_c intE rfl _ _ rfl w.heap.size _ cur _ [.int .i64 x] x rfl rfl HO.out rfl rfl (by unfold maxLen;omega) (by omega) hsz ?_))
     intro v3 w3 ho3 hb3 hk3
     have HO3:=Lib.hid ho3
     have HB3:=Lib.hid (HB.out.trans ((below_drewN (Below.refl _ _) _).trans hb3))
     clear ho3 hb3 hk3
     go_wp2_with fail
     go_roundw
     case rel=>exact ⟨i+1,k,cur++[x],by omega,by omega,by rw [List.length_append,hc];simp;omega,by go_num,rfl,HN,HO3,HB3⟩
     case measure=>simp [intOf];omega
    ·have q4:decide (x<y)=false:=decide_eq_false hlt
     have hlt2:¬ a[i]<b[k]:=by rw [hx,hy];exact hlt
     have hnx:=merge_more HA.out (HR.out i k hkl (.inr ⟨hil,Int.not_lt.1 hlt2⟩))
     rw [hx] at e1
     rw [hy] at hnx e2
     clear hx hy hlt hlt2
     have HN:=Lib.hid hnx
     clear hnx HA HX HY
     go_wp2_with fail
     go_quiet (fail)
     go_wp2_with (at_builtin;go_loud (refine wpList_append_c intE rfl _ _ rfl w.heap.size _ cur _ [.int .i64 y] y rfl rfl HO.out rfl rfl (by unfold maxLen;omega) (by omega) hsz ?_))
     intro v3 w3 ho3 hb3 hk3
     have HO3:=Lib.hid ho3
     have HB3:=Lib.hid (HB.out.trans ((below_drewN (Below.refl _ _) _).trans hb3))
     clear ho3 hb3 hk3
     go_wp2_with fail
     go_roundw
     case rel=>exact ⟨i,k+1,cur++[y],by omega,by omega,by rw [List.length_append,hc];rfl,rfl,by go_num,HN,HO3,HB3⟩
     case measure=>simp [intOf];omega
   ·have q2:decide ((k:Int)<(b.length:Int))=false:=by rw [decide_eq_false_iff_not];omega
    have q3:((k:Int) == (b.length:Int))=true:=by rw [beq_iff_eq];omega
    have hnx:=merge_more HA.out (HL.out i k hil (.inl (by omega)))
    rw [hx] at hnx e1
    clear hx
    have HN:=Lib.hid hnx
    clear hnx HA HX HY
    go_wp2_with fail
    go_quiet (fail)
    go_wp2_with (at_builtin;go_loud (refine wpList_append_c intE rfl _ _ rfl w.heap.size _ cur _ [.int .i64 x] x rfl rfl HO.out rfl rfl (by unfold maxLen;omega) (by omega) hsz ?_))
    intro v3 w3 ho3 hb3 hk3
    have HO3:=Lib.hid ho3
    have HB3:=Lib.hid (HB.out.trans ((below_drewN (Below.refl _ _) _).trans hb3))
    clear ho3 hb3 hk3
    go_wp2_with fail
    go_roundw
    case rel=>exact ⟨i+1,k,cur++[x],by omega,by omega,by rw [List.length_append,hc];simp;omega,by go_num,rfl,HN,HO3,HB3⟩
    case measure=>simp [intOf];omega
  ·have q1:decide ((i:Int)<(a.length:Int))=false:=by rw [decide_eq_false_iff_not];omega
   by_cases hkl:k<b.length
   ·have q2:decide ((k:Int)<(b.length:Int))=true:=by rw [decide_eq_true_eq];omega
    have q3:((k:Int) == (b.length:Int))=false:=by rw [beq_eq_false_iff_ne];omega
    obtain ⟨c2,o2,rfl,hc2,_,e2⟩:=HY.out hkl
    obtain ⟨y,hy⟩:∃ r,b[k]=r:=⟨_,rfl⟩
    have hnx:=merge_more HA.out (HR.out i k hkl (.inl (by omega)))
    rw [hy] at hnx e2
    clear hy
    have HN:=Lib.hid hnx
    clear hnx HA HX HY
    go_wp2_with fail
    go_quiet (fail)
    go_wp2_with (at_builtin;go_loud (refine wpList_append_c intE rfl _ _ rfl w.heap.size _ cur _ [.int .i64 y] y rfl rfl HO.out rfl rfl (by unfold maxLen;omega) (by omega) hsz ?_))
    intro v3 w3 ho3 hb3 hk3
    have HO3:=Lib.hid ho3
    have HB3:=Lib.hid (HB.out.trans ((below_drewN (Below.refl _ _) _).trans hb3))
    clear ho3 hb3 hk3
    go_wp2_with fail
    go_roundw
    case rel=>exact ⟨i,k+1,cur++[y],by omega,by omega,by rw [List.length_append,hc];rfl,rfl,by go_num,HN,HO3,HB3⟩
    case measure=>simp [intOf];omega
   ·have q2:decide ((k:Int)<(b.length:Int))=false:=by rw [decide_eq_false_iff_not];omega
    have q3:((k:Int) == (b.length:Int))=true:=by rw [beq_iff_eq];omega
    obtain rfl:i=a.length:=by omega
    obtain rfl:k=b.length:=by omega
    have hm:=HA.out
    rw [HE.out,List.append_nil] at hm
    subst hm
    clear hil hkl HA HX HY
    go_wp2_with fail
    go_ret
    exact ⟨⟨_,rfl,HO.out⟩,HB.out⟩
end Go.Proofs.YtidhgicajlaafaaGreat.MX
