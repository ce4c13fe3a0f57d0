import Derived.Test.YtdfibahafilklaaGreatDoorZB25
set_option maxRecDepth 100000
set_option maxHeartbeats 8000000
set_option linter.unusedVariables false
set_option linter.unusedSimpArgs false
namespace Go.Proofs.YtdfibahafilklaaGreatDoor.VG
open Go.RowKit MM VM
theorem ref_val (n k c:Nat) (hf:n+c%128*2^(7*k)<18446744073709551616) :
  IntKind.u64.wrap ((n:Int)+IntKind.u64.wrap ((c:Int)%128*2^(7*k)))=((n+c%128*2^(7*k):Nat):Int):=by
 have e3:(c:Int)%128*2^(7*k)=((c%128*2^(7*k):Nat):Int):=by
  rw [Int.natCast_mul,Int.natCast_pow];rfl
 have hf2:c%128*2^(7*k)<18446744073709551616:=by omega
 rw [e3,IntKind.wrap_u64,IntKind.wrap_u64]
 omega
theorem rget_in (B:Nat) (v:Value) (l:List UInt8) (w:World) (hr:BIn B w v l) (hB:B≤w.heap.size) :
  Calls Tryz.prog 95 #[v] w (GotIn B (.int .u64 (getL l).1) (getL l).2.2 (restL l) w):=by
 obtain ⟨p,cap,rfl,hlc,hcm⟩:=hr.shape
 unfold maxLen at hcm
 unfold restL
 obtain ⟨res,hres⟩:∃ res,getL l=res:=⟨_,rfl⟩
 have HG0:Hid (getF 0 0 (l.drop 0)=res):=Lib.hid hres
 rw [hres]
 obtain ⟨R,hR⟩:∃ R,(if res.2.2=0 then l.drop res.2.1 else [])=R:=⟨_,rfl⟩
 rw [hR]
 have HR:=Lib.hid hr
 have HE:=Lib.hid hR
 clear hr hres hR
 go_enter Tryz.func95,Tryz.ntmps95
 go_wp2_with fail
 go_loopw [5,6] (fun acc i wr=>∃ (k n:Nat),k≤l.length∧i=.int .i64 k∧acc=.int .u64 n∧n<2^(7*k)∧k≤9∧Below w.heap.size w wr∧Hid (getF k n (l.drop k)=res)) (fun _ i _=>l.length - (intOf i).toNat)
 case atStart=>exact ⟨0,0,by omega,rfl,rfl,by omega,by omega,Below.refl _ _,HG0⟩
 case round =>
  obtain ⟨k,n,hk,rfl,rfl,hn,hk9,hbw,hG⟩:=hrel
  clear HG0
  by_cases hlt:k<l.length
  ·obtain ⟨b,off,rfl,hbl,hcell⟩:=((HR.out).below (hbw.mono hB)).at_ hlt
   have hg:=hG.out
   have hrow:=(HR.out.below (hbw.mono hB)).drop2 (k+1) (by omega)
   rw [drop_cons hlt] at hg
   obtain ⟨c,hc⟩:∃ c,l[k]=c:=⟨_,rfl⟩
   rw [hc] at hg hcell
   have hcb:=c.toNat_lt
   clear hc hG
   have hlt':(k:Int)<(l.length:Int):=by omega
   by_cases hbad:(k=9∧1<c.toNat)∨(0<k∧c.toNat=0)
   ·rw [getF_bad hbad] at hg
    subst hg
    have hRn:R=[]:=by rw [← HE.out];rfl
    subst hRn
    clear HE hrow
    by_cases h9:k=9∧1<c.toNat
    ·obtain ⟨h9,h1⟩:=h9
     have t1:((k:Int) == 9)=true:=by simp;omega
     have t2:decide ((c.toNat:Int)>1)=true:=by simp;omega
     clear hbad h9
     go_wp2_with fail
     go_ret3
     exact ⟨_,rfl,BIn.nil_ _ wr,hbw⟩
    ·have h0:0<k:=by omega
     have t0:((c.toNat:Int) == 0)=true:=by simp;omega
     have t2:decide ((c.toNat:Int)>1)=false:=by simp;omega
     have t3:0<(k:Int):=by omega
     clear hbad h9
     by_cases h9:k=9
     ·have t1:((k:Int) == 9)=true:=by simp;omega
      clear h9
      go_wp2_with fail
      go_ret3
      exact ⟨_,rfl,BIn.nil_ _ wr,hbw⟩
     ·have t1:((k:Int) == 9)=false:=by simp;omega
      clear h9
      go_wp2_with fail
      go_ret3
      exact ⟨_,rfl,BIn.nil_ _ wr,hbw⟩
   ·have hfit:=gather_fits hn hk9 hbad
    have hval:=ref_val n k c.toNat hfit
    obtain ⟨V,hV⟩:∃ V,n+c.toNat%128*2^(7*k)=V:=⟨_,rfl⟩
    rw [hV] at hval
    by_cases hend:c.toNat<128
    ·rw [getF_end hbad hend,hV] at hg
     subst hg
     obtain rfl:l.drop (k+1)=R:=by rw [← HE.out];rfl
     have hi1:(k:Int)+1≤(l.length:Int):=by omega
     have hi2:(l.length:Int)≤(cap:Int):=by omega
     have HRow:=Lib.hid hrow
     clear hrow hV HE hn hfit
     by_cases h9:k=9
     ·have t1:((k:Int) == 9)=true:=by simp;omega
      have t2:decide ((c.toNat:Int)>1)=false:=by simp;omega
      have t3:0<(k:Int):=by omega
      have t4:((c.toNat:Int) == 0)=false:=by simp;omega
      clear hbad h9
      go_wp2_with fail
      go_quiet (fail)
      go_wp2_with fail
      ·go_ret3
       exact ⟨_,rfl,(HRow.out.1 (by assumption)).drewN nq,MM.below_drewN hbw nq⟩
      ·go_ret3
       exact ⟨_,rfl,(HRow.out.2 (by assumption)).drewN nq,MM.below_drewN hbw nq⟩
     ·have t1:((k:Int) == 9)=false:=by simp;omega
      by_cases h0:0<k
      ·have t3:0<(k:Int):=by omega
       have t4:((c.toNat:Int) == 0)=false:=by simp;omega
       clear hbad h9
       go_wp2_with fail
       go_quiet (fail)
       go_wp2_with fail
       ·go_ret3
        exact ⟨_,rfl,(HRow.out.1 (by assumption)).drewN nq,MM.below_drewN hbw nq⟩
       ·go_ret3
        exact ⟨_,rfl,(HRow.out.2 (by assumption)).drewN nq,MM.below_drewN hbw nq⟩
      ·clear hbad h9
       go_wp2_with fail
       go_quiet (fail)
       go_wp2_with fail
       ·go_ret3
        exact ⟨_,rfl,(HRow.out.1 (by assumption)).drewN nq,MM.below_drewN hbw nq⟩
       ·go_ret3
        exact ⟨_,rfl,(HRow.out.2 (by assumption)).drewN nq,MM.below_drewN hbw nq⟩
    ·rw [getF_more hbad hend,hV] at hg
     have hn2:=gather_lt hn c.toNat
     rw [hV] at hn2
     have hk2:=gather_next hk9 hbad hend
     have HG2:=Lib.hid hg
     clear hg hV hrow hn hfit
     have h9:¬ k=9:=by omega
     have t1:((k:Int) == 9)=false:=by simp;omega
     by_cases h0:0<k
     ·have t3:0<(k:Int):=by omega
      have t4:((c.toNat:Int) == 0)=false:=by simp;omega
      clear hbad h9
      go_wp2_with fail
      go_roundw
      case rel=>exact ⟨k+1,V,by omega,by go_num,rfl,hn2,hk2,hbw,HG2⟩
      case measure=>simp [intOf];omega
     ·clear hbad h9
      go_wp2_with fail
      go_roundw
      case rel=>exact ⟨k+1,V,by omega,by go_num,rfl,hn2,hk2,hbw,HG2⟩
      case measure=>simp [intOf];omega
  ·obtain rfl:k=l.length:=by omega
   have hg:=hG.out
   rw [List.drop_length,getF_nil] at hg
   subst hg
   have hRn:R=[]:=by rw [← HE.out];rfl
   subst hRn
   clear HE hG
   go_wp2_with fail
   go_ret3
   exact ⟨_,rfl,BIn.nil_ _ wr,hbw⟩
end Go.Proofs.YtdfibahafilklaaGreatDoor.VG
