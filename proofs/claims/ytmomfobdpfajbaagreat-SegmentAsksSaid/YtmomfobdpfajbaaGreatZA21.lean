import Derived.Test.YtmomfobdpfajbaaGreatZA2
import Derived.Shelf.Abstract
set_option maxRecDepth 100000
set_option maxHeartbeats 0
set_option linter.unusedVariables false
set_option linter.unusedSimpArgs false
namespace Go.Proofs.YtmomfobdpfajbaaGreat
open Tryz
namespace MM
open RowKit
def Zcr (p:Nat->Bool) (n r:Nat):Prop:=r<=n/\(0<r->p (r - 1)=false)/\(r<n->p r=true)
theorem Zm5 (g:Nat) (u:Array Value) (n:Nat) (p:Nat->Bool) (w:World) (eg:∀args w,(callFunc g args).run prog w=.ok (.enter g args) w) (hn:n<4611686018427387904)
  (hf:∀(W:World) (i:Nat),i<n->Below w.heap.size w W->Calls prog g (#[.int .i64 (i:Int)]++u) W fun e w'=>e=.returned (.bool (p i))/\Below W.heap.size W w') :
  Calls prog 216 #[.int .i64 (n:Int),.func (.func g) #[] u] w fun e w'=>∃r:Nat,e=.returned (.int .i64 (r:Int))/\Zcr p n r/\Below w.heap.size w w':=by
 have y:=Y4 hf;clear hf;go_enter func216,ntmps216;go_wp2_with fail
 go_loopw [5,6] (fun o q wr=>∃lo hi:Nat,o=.int .i64 (lo:Int)/\q=.int .i64 (hi:Int)/\lo<=hi/\hi<=n/\Y5 (0<lo->p (lo - 1)=false)/\Y5 (hi<n->p hi=true)/\Y5 (Below w.heap.size w wr)) (fun o q _=>(intOf q).toNat - (intOf o).toNat)
 case atStart=>exact ⟨0,n,rfl,rfl,by omega,by omega,Y4 (fun h=>by omega),Y4 (fun h=>by omega),Y4 (Below.refl _ _)⟩
 case round =>
  obtain ⟨lo,hi,rfl,rfl,l,d,HL,v,c⟩:=hrel
  by_cases s:lo<hi
  ·have k:=y.z wr ((lo+hi) / 2) (by omega) c.z;rw [show (((lo+hi) / 2:Nat):Int)=((lo:Int)+(hi:Int)) / 2 by omega] at k;obtain ⟨b,m⟩:=Xn (p ((lo+hi) / 2));rw [m] at k;have t:=Y4 m;have j:=Y4 k;clear m k;cases b with
   | false =>
     go_wp2_with (go_at_fn g;refine j.z.mono ?_;rintro e x ⟨rfl,f⟩;have a:=Y4 (c.z.trans (f.mono c.z.size));clear f j)
     go_roundw
     case rel=>exact ⟨(lo+hi) / 2+1,hi,by rw [show ((lo:Int)+(hi:Int)) / 2+1=(((lo+hi) / 2+1:Nat):Int) by omega],rfl,by omega,d,Y4 (fun _=>by simpa using t.z),v,a⟩
     case measure=>simp [intOf];omega
   | true =>
     go_wp2_with (go_at_fn g;refine j.z.mono ?_;rintro e x ⟨rfl,f⟩;have a:=Y4 (c.z.trans (f.mono c.z.size));clear f j)
     go_roundw
     case rel=>exact ⟨lo,(lo+hi) / 2,rfl,by rw [show ((lo:Int)+(hi:Int)) / 2=(((lo+hi) / 2:Nat):Int) by omega],by omega,by omega,HL,Y4 (fun _=>t.z),a⟩
     case measure=>simp [intOf];omega
  ·obtain rfl:hi=lo:=by omega
   clear s l;go_wp2_with fail;go_ret;exact ⟨hi,rfl,⟨d,HL.z,v.z⟩,c.z⟩
