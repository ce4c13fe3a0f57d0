import Derived.Test.YtdijhifdjbnkfaaGreatZT6
import Derived.Lib.AppendZeros
set_option maxRecDepth 100000
set_option maxHeartbeats 0
set_option linter.unusedVariables false
set_option linter.unusedSimpArgs false
namespace Go.Proofs.YtdijhifdjbnkfaaGreat
open Lib (hid)
open Tryz
namespace MM
open RowKit VP
variable {w:World} {v:Value} {ls:List Xu} {k:Nat}
def Zlu (w:World) (v:Value) (ls:List Xu):Prop:=∃a,Row w v a/\a.length=ls.length/\∀i (h:i<ls.length),∃x,a[i]? = some x/\Zq w x ls[i]
theorem Zlu.below {w':World} (h:Zlu w v ls) (a:Below w.heap.size w w'):Zlu w' v ls:=by
 obtain ⟨f,b,g,e⟩:=h;refine ⟨f,Row.below (B:=0) b a,g,fun i hi => ?_⟩;obtain ⟨x,d,c⟩:=e i hi;exact ⟨x,d,c.below a⟩
theorem Zlu.shape (h:Zlu w v ls):∃p a,v=.slice p ls.length a/\ls.length<=a/\a<=maxLen:=by
 obtain ⟨xs,⟨p,a,c,b,d,_,_⟩,e,_⟩:=h;rw [e] at c b;exact ⟨p,a,c,b,d⟩
theorem Zlu.at_ {p:Option Addr} {n c:Nat} (h:Zlu w (.slice p n c) ls) (i:k<ls.length) :
  ∃b off x,p=some ⟨b,off,none⟩/\w.cell? ⟨b,off+k,none⟩=some x/\Zq w x ls[k]:=by
 obtain ⟨xs,⟨p',cap',d,_,_,_,h⟩,hl,g⟩:=h;simp only [Value.slice.injEq] at d;obtain ⟨rfl,_,_⟩:=d;obtain ⟨x,a,f⟩:=g k i;rcases h with h|⟨b,off,l,j,e⟩
 ·rw [h] at a;simp at a
 ·exact ⟨b,off,x,l,e k _ a,f⟩
theorem Zyd (a:List Value) (ls:List Xu) (f:a.length=ls.length) (b:a.length<=maxLen) (h:∀i (h:i<ls.length),∃x,a[i]? = some x/\Zq w x ls[i]) :
  Zlu (w.alloc (.cells a.toArray 23)) (.slice (some ⟨w.heap.size,0,none⟩) a.length a.length) ls:=by
 have e:Below w.heap.size w (w.alloc (.cells a.toArray 23)):=(Below.refl _ _).alloc (Xc _) _;refine ⟨a,⟨some ⟨w.heap.size,0,none⟩,a.length,rfl,Xc _,b,(fun h=>by cases h),.inr ⟨w.heap.size,0,rfl,by simp,fun i u hi => ?_⟩⟩,f,fun i hi => ?_⟩
 ·rw [cell_of_row _ w.heap.size _ _ _ _ (heap_alloc_new _ _)];simpa using hi
 ·obtain ⟨x,d,c⟩:=h i hi;exact ⟨x,d,c.below e⟩
theorem Zye {u:Value} {l m:Xu} (h:Zq w v l) (k:Zq w u m):Zlu (w.alloc (.cells #[v,u] 23)) (.slice (some ⟨w.heap.size,0,none⟩) 2 2) [l,m] :=
 Zyd [v,u] [l,m] rfl (by unfold maxLen;simp) (fun i hi=>by
  match i,hi with
  | 0,_=>exact ⟨v,rfl,h⟩
  | 1,_=>exact ⟨u,rfl,k⟩)
theorem ZnX (a:k<ls.length):(ls.take (k+1)).flatten=(ls.take k).flatten++ls[k]:=by
 rw [XG a,XaO];simp
theorem Zo6 (ls:List Xu) (k:Nat):(ls.take k).flatten.length<=ls.flatten.length:=by
 have h:ls.flatten=(ls.take k).flatten++(ls.drop k).flatten:=by rw [<- XaO,X6]
 rw [h,Xd];omega
theorem ZuO (n:Nat) (w:World) (hn:n<=1000000000000):Calls prog 264 #[.slice none 0 0,.int .i64 n] w (ZS w.heap.size [] w):=by
 have q1:decide ((n:Int)<0)=false:=XB (by omega);have q2:IntKind.i64.wrap ((n:Int) - 0)=(n:Int):=by rw [IntKind.wrap_i64];omega
 have q3:wrap64 (n:Int)=(n:Int):=by unfold wrap64;omega
 by_cases p:n=0
 ·subst p;have i:=hid (show ZS w.heap.size [] w (.returned (.slice none 0 0)) w from ⟨_,rfl,World.ownsRow_nil _ _ _ _,Below.refl _ _⟩);go_enter func264,ntmps264;go_wp2_with fail;go_ret;exact i.out
 ·have q4:decide ((n:Int)>0)=true:=Xw (by omega);obtain ⟨i0,hi,d,h,c⟩:=info_parts ZaJ;have f:=fun m=>Lib.run_append_nil_zeros (P:=prog) w 23 3 m 5 i0 (.int .u8 0) .i64 .i64 underlying23 underlying3 hi d n (by omega) (by omega) (by omega) (by rw [c];omega);obtain ⟨G,g⟩:=Xn (grownCap w n 0 5);have q:n<=G:=by rw [<- g];exact grownCap_ge w _ _ _
  have e:G<=maxLen:=by rw [<- g];exact grownCap_le_maxLen w n 0 5 (by unfold maxLen;omega)
  rw [g] at f;obtain ⟨j,a⟩:=Xn (w.drew.alloc (.cells (Builtin.zeroCells (Value.int .u8 0).cells n++Builtin.zeroCells (Value.int .u8 0).cells (G - n)) 5));rw [a] at f;have l:Below w.heap.size w j:=by rw [<- a];exact ((Below.refl _ w).drew).alloc (Xc _) _
  have b:Zd w.heap.size j (.slice (some ⟨w.heap.size,0,none⟩) 0 G) []:=by
   refine ⟨rfl,.inr ⟨w.heap.size,G,Builtin.zeroCells (Value.int .u8 0).cells n++Builtin.zeroCells (Value.int .u8 0).cells (G - n),rfl,Xc _,?_,XU _,e,?_,rfl⟩⟩
   ·rw [<- a];exact heap_alloc_new _ _
   ·simp [Builtin.zeroCells,Value.cells];omega
  have i:=hid (show ZS w.heap.size [] w (.returned (.slice (some ⟨w.heap.size,0,none⟩) 0 G)) j from ⟨_,rfl,b,l⟩);have o:=hid f;unfold maxLen at e;have q5:(0:Int)<=(G:Int):=by omega
  clear b l f a g hi d h c;go_enter func264,ntmps264;go_wp2_with (at_builtin;go_loud (refine Lib.wpList_append_run w rfl _ _ _ _ rfl _ _ rfl rfl _ _ (o.out _) ?_))
  go_ret;exact i.out
theorem ZrS (v:Value) (ls:List Xu) (w:World) (h:Zlu w v ls) (q:ls.flatten.length<=1000000000000) :
  Calls prog 243 #[v] w (ZS w.heap.size ls.flatten w):=by
 obtain ⟨p,S,rfl,T,B⟩:=h.shape;unfold maxLen at B;have N:=hid h;have HL:=hid (Zo6 ls);obtain ⟨F,A⟩:∃F:Nat->Nat,∀k,F k=(ls.take k).flatten.length:=⟨fun k=>(ls.take k).flatten.length,fun _=>rfl⟩;have z:=hid A;have D:F 0=0:=by rw [A];simp
 clear h A;go_enter func243,ntmps243;go_wp2_with fail
 go_loopw [3,11] (fun U f wr=>∃k:Nat,k<=ls.length/\f=.int .i64 k/\U=.int .i64 (F k)/\w=wr) (fun _ f _=>ls.length - (intOf f).toNat)
 case atStart=>exact ⟨0,by omega,rfl,by rw [D];rfl,rfl⟩
 case round =>
  obtain ⟨k,hk,rfl,rfl,rfl⟩:=hrel
  by_cases a:k<ls.length
  ·have G:decide ((k:Int)<(ls.length:Int))=true:=Xt;have I:decide (k<ls.length)=true:=Xt;have Z:(k:Int)<(ls.length:Int):=by omega
   obtain ⟨b,off,x,rfl,M,n⟩:=N.out.at_ a;obtain ⟨px,cx,rfl,_⟩:=n.shape;have c:=Xp List.length (ZnX a);rw [Xd,<- z.out,<- z.out] at c;have g:=HL.out (k+1);rw [<- z.out] at g;obtain ⟨m,t⟩:=Xn (ls[k].length);rw [t] at c M;have X:wrap64 ((F k:Int)+(m:Int))=(F (k+1):Int):=by rw [IntWalk.wrap64_in _ ⟨by omega,by omega⟩];omega
   have q5:decide ((F (k+1):Int)<0)=false:=XB (Int.not_lt.2 (Int.natCast_nonneg _));have i:=hid a;clear n c t;go_wp2_with fail;have a:=i.out;go_roundw
   case rel=>exact ⟨k+1,by omega,by go_num,by first|trivial|rfl|rw [X],by first|trivial|rfl⟩
   case measure=>simp [intOf];omega
  ·obtain rfl:k=ls.length:=by omega
   have G:decide ((ls.length:Int)<(ls.length:Int))=false:=by simp
   have I:decide (ls.length<ls.length)=false:=by simp
   have j:=z.out ls.length;rw [XC] at j;have R:=hid (ZuO (F ls.length) w (by rw [j];exact q));clear j;clear a;go_wp2_with fail;refine R.out.mono ?_;rintro e V ⟨v1,rfl,s,r⟩;have o:Hid (Zd w.heap.size V v1 (ls.take 0).flatten):=hid (by simpa using s);have u:=hid r;clear s r R;go_wp2_with fail
   go_loopw [6,27] (fun Y f O=>∃k:Nat,k<=ls.length/\f=.int .i64 k/\Hid (Zd w.heap.size O Y (ls.take k).flatten)/\Hid (Below w.heap.size w O)) (fun _ f _=>ls.length - (intOf f).toNat)
   case atStart=>exact ⟨0,by omega,rfl,o,u⟩
   case round =>
    obtain ⟨k,hk,rfl,HOk,d⟩:=hrel;clear o u
    by_cases a:k<ls.length
    ·have G:decide ((k:Int)<(ls.length:Int))=true:=Xt;have I:decide (k<ls.length)=true:=Xt;have Z:(k:Int)<(ls.length:Int):=by omega
     obtain ⟨b,off,x,rfl,M,n⟩:=(Zlu.below N.out d.out).at_ a;have c:=ZnX a;obtain ⟨m,t⟩:=Xn (ls[k]);rw [t] at c n;have g:=HL.out (k+1);rw [c,Xd] at g;have J:=hid c;have W:=hid n;have i:=hid a;clear n c t;go_wp2_with (at_builtin;go_loud (refine Zg rfl _ _ rfl w.heap.size _ (ls.take k).flatten rfl HOk.out _ m rfl W.out (by omega) d.out.size ?_;intro v4 w4 l y;rw [<- J.out] at l;have L:=hid l;have H:=hid (d.out.trans y);clear l y))
     have a:=i.out;go_roundw
     case rel=>exact ⟨k+1,by omega,by go_num,L,H⟩
     case measure=>simp [intOf];omega
    ·obtain rfl:k=ls.length:=by omega
     have G:decide ((ls.length:Int)<(ls.length:Int))=false:=by simp
     have I:decide (ls.length<ls.length)=false:=by simp
     have C:=HOk.out;rw [XC] at C;have E:=hid C;clear a C;go_wp2_with fail;go_ret;exact ⟨_,rfl,E.out,d.out⟩
