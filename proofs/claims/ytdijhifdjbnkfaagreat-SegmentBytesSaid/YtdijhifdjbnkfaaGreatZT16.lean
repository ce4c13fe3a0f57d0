import Derived.Test.YtdijhifdjbnkfaaGreatZT2
import Derived.Shelf.Abstract
set_option maxRecDepth 100000
set_option maxHeartbeats 0
set_option linter.unusedVariables false
set_option linter.unusedSimpArgs false
namespace Go.Proofs.YtdijhifdjbnkfaaGreat
open Lib (hid)
open Tryz
namespace MM
open RowKit
def Zc9 (p:Nat->Bool) (n r:Nat):Prop:=r<=n/\(0<r->p (r - 1)=false)/\(r<n->p r=true)
theorem ZmZ (g:Nat) (v:Array Value) (n:Nat) (p:Nat->Bool) (w:World) (eg:∀args w,(callFunc g args).run prog w=.ok (.enter g args) w) (hn:n<4611686018427387904)
  (x:∀(W:World) (i:Nat),i<n->Below w.heap.size w W->Calls prog g (#[.int .i64 (i:Int)]++v) W fun e w'=>e=.returned (.bool (p i))/\Below W.heap.size W w') :
  Calls prog 216 #[.int .i64 (n:Int),.func (.func g) #[] v] w fun e w'=>∃r:Nat,e=.returned (.int .i64 (r:Int))/\Zc9 p n r/\Below w.heap.size w w':=by
 have y:=hid x;clear x;go_enter func216,ntmps216;go_wp2_with fail
 go_loopw [5,6] (fun q m wr=>∃lo hi:Nat,q=.int .i64 (lo:Int)/\m=.int .i64 (hi:Int)/\lo<=hi/\hi<=n/\Hid (0<lo->p (lo - 1)=false)/\Hid (hi<n->p hi=true)/\Hid (Below w.heap.size w wr)) (fun q m _=>(intOf m).toNat - (intOf q).toNat)
 case atStart=>exact ⟨0,n,rfl,rfl,by omega,by omega,hid (fun h=>by omega),hid (fun h=>by omega),hid (Below.refl _ _)⟩
 case round =>
  obtain ⟨lo,hi,rfl,rfl,o,f,HL,t,c⟩:=hrel
  by_cases l:lo<hi
  ·have j:=y.out wr ((lo+hi) / 2) (by omega) c.out;rw [show (((lo+hi) / 2:Nat):Int)=((lo:Int)+(hi:Int)) / 2 by omega] at j;obtain ⟨b,s⟩:=Xn (p ((lo+hi) / 2));rw [s] at j;have u:=hid s;have k:=hid j;clear s j;cases b with
   | false =>
     go_wp2_with (go_at_fn g;refine k.out.mono ?_;rintro e z ⟨rfl,d⟩;have a:=hid (c.out.trans (d.mono c.out.size));clear d k)
     go_roundw
     case rel=>exact ⟨(lo+hi) / 2+1,hi,by rw [show ((lo:Int)+(hi:Int)) / 2+1=(((lo+hi) / 2+1:Nat):Int) by omega],rfl,by omega,f,hid (fun _=>by simpa using u.out),t,a⟩
     case measure=>simp [intOf];omega
   | true =>
     go_wp2_with (go_at_fn g;refine k.out.mono ?_;rintro e z ⟨rfl,d⟩;have a:=hid (c.out.trans (d.mono c.out.size));clear d k)
     go_roundw
     case rel=>exact ⟨lo,(lo+hi) / 2,rfl,by rw [show ((lo:Int)+(hi:Int)) / 2=(((lo+hi) / 2:Nat):Int) by omega],by omega,by omega,HL,hid (fun _=>u.out),a⟩
     case measure=>simp [intOf];omega
  ·obtain rfl:hi=lo:=by omega
   clear l o;go_wp2_with fail;go_ret;exact ⟨hi,rfl,⟨f,HL.out,t.out⟩,c.out⟩
