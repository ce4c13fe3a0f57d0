import Derived.Test.YtmomfobdpfajbaaGreatZA10
import Derived.Lib.AppendZeros
set_option maxRecDepth 100000
set_option maxHeartbeats 0
set_option linter.unusedVariables false
set_option linter.unusedSimpArgs false
namespace Go.Proofs.YtmomfobdpfajbaaGreat
open Tryz
namespace MM
open RowKit VP
variable {w:World} {v:Value} {ls:List Xu} {k:Nat}
def Zlu (w:World) (v:Value) (ls:List Xu):Prop:=∃a,Row w v a/\a.length=ls.length/\∀i (h:i<ls.length),∃x,a[i]? = some x/\Zv w x ls[i]
theorem Zlu.below {w':World} (h:Zlu w v ls) (a:Below w.heap.size w w'):Zlu w' v ls:=by
 obtain ⟨f,b,d,e⟩:=h;refine ⟨f,Row.below (B:=0) b a,d,fun i hi => ?_⟩;obtain ⟨x,c,g⟩:=e i hi;exact ⟨x,c,g.below a⟩
theorem Zlu.shape (h:Zlu w v ls):∃p a,v=.slice p ls.length a/\ls.length<=a/\a<=maxLen:=by
 obtain ⟨xs,⟨p,a,b,c,e,_,_⟩,d,_⟩:=h;rw [d] at b c;exact ⟨p,a,b,c,e⟩
theorem Zlu.at_ {p:Option Addr} {n a:Nat} (h:Zlu w (.slice p n a) ls) (e:k<ls.length) :
  ∃b off x,p=some ⟨b,off,none⟩/\w.cell? ⟨b,off+k,none⟩=some x/\Zv w x ls[k]:=by
 obtain ⟨xs,⟨p',cap',d,_,_,_,h⟩,hl,j⟩:=h;simp only [Value.slice.injEq] at d;obtain ⟨rfl,_,_⟩:=d;obtain ⟨x,c,l⟩:=j k e;rcases h with h|⟨b,off,g,i,f⟩
 ·rw [h] at c;simp at c
 ·exact ⟨b,off,x,g,f k _ c,l⟩
theorem ZyG (a:List Value) (ls:List Xu) (c:a.length=ls.length) (d:a.length<=maxLen) (h:∀i (h:i<ls.length),∃x,a[i]? = some x/\Zv w x ls[i]) :
  Zlu (w.alloc (.cells a.toArray 23)) (.slice (some ⟨w.heap.size,0,none⟩) a.length a.length) ls:=by
 have b:Below w.heap.size w (w.alloc (.cells a.toArray 23)):=(Below.refl _ _).alloc (Xa _) _;refine ⟨a,⟨some ⟨w.heap.size,0,none⟩,a.length,rfl,Xa _,d,(fun h=>by cases h),.inr ⟨w.heap.size,0,rfl,by simp,fun i u hi => ?_⟩⟩,c,fun i hi => ?_⟩
 ·rw [cell_of_row _ w.heap.size _ _ _ _ (heap_alloc_new _ _)];simpa using hi
 ·obtain ⟨x,e,f⟩:=h i hi;exact ⟨x,e,f.below b⟩
theorem ZyH {u:Value} {l m:Xu} (h:Zv w v l) (k:Zv w u m):Zlu (w.alloc (.cells #[v,u] 23)) (.slice (some ⟨w.heap.size,0,none⟩) 2 2) [l,m] :=
 ZyG [v,u] [l,m] rfl (by unfold maxLen;simp) (fun i hi=>by
  match i,hi with
  | 0,_=>exact ⟨v,rfl,h⟩
  | 1,_=>exact ⟨u,rfl,k⟩)
theorem Zn4 (a:k<ls.length):(ls.take (k+1)).flatten=(ls.take k).flatten++ls[k]:=by
 rw [XG a,XaN];simp
theorem Zph (ls:List Xu) (k:Nat):(ls.take k).flatten.length<=ls.flatten.length:=by
 have h:ls.flatten=(ls.take k).flatten++(ls.drop k).flatten:=by rw [<- XaN,X8]
 rw [h,Xd];omega
theorem Zvn (n:Nat) (w:World) (hn:n<=1000000000000):Calls prog 264 #[.slice none 0 0,.int .i64 n] w (ZV w.heap.size [] w):=by
 have q1:decide ((n:Int)<0)=false:=Xz (by omega);have q2:IntKind.i64.wrap ((n:Int) - 0)=(n:Int):=by rw [IntKind.wrap_i64];omega
 have q3:wrap64 (n:Int)=(n:Int):=by unfold wrap64;omega
 by_cases o:n=0
 ·subst o;have j:=Y4 (show ZV w.heap.size [] w (.returned (.slice none 0 0)) w from ⟨_,rfl,World.ownsRow_nil _ _ _ _,Below.refl _ _⟩);go_enter func264,ntmps264;go_wp2_with fail;go_ret;exact j.z
 ·have q4:decide ((n:Int)>0)=true:=Xs (by omega);obtain ⟨i0,hi,d,h,e⟩:=info_parts ZaI;have g:=fun p=>Lib.run_append_nil_zeros (P:=prog) w 23 3 p 5 i0 (.int .u8 0) .i64 .i64 underlying23 underlying3 hi d n (by omega) (by omega) (by omega) (by rw [e];omega);obtain ⟨G,f⟩:=Xn (grownCap w n 0 5);have m:n<=G:=by rw [<- f];exact grownCap_ge w _ _ _
  have c:G<=maxLen:=by rw [<- f];exact grownCap_le_maxLen w n 0 5 (by unfold maxLen;omega)
  rw [f] at g;obtain ⟨i,a⟩:=Xn (w.drew.alloc (.cells (Builtin.zeroCells (Value.int .u8 0).cells n++Builtin.zeroCells (Value.int .u8 0).cells (G - n)) 5));rw [a] at g;have l:Below w.heap.size w i:=by rw [<- a];exact ((Below.refl _ w).drew).alloc (Xa _) _
  have b:Zd w.heap.size i (.slice (some ⟨w.heap.size,0,none⟩) 0 G) []:=by
   refine ⟨rfl,.inr ⟨w.heap.size,G,Builtin.zeroCells (Value.int .u8 0).cells n++Builtin.zeroCells (Value.int .u8 0).cells (G - n),rfl,Xa _,?_,XX _,c,?_,rfl⟩⟩
   ·rw [<- a];exact heap_alloc_new _ _
   ·simp [Builtin.zeroCells,Value.cells];omega
  have j:=Y4 (show ZV w.heap.size [] w (.returned (.slice (some ⟨w.heap.size,0,none⟩) 0 G)) i from ⟨_,rfl,b,l⟩);have q:=Y4 g;unfold maxLen at c;have q5:(0:Int)<=(G:Int):=by omega
  clear b l g a f hi d h e;go_enter func264,ntmps264;go_wp2_with (at_builtin;go_loud (refine Lib.wpList_append_run w rfl _ _ _ _ rfl _ _ rfl rfl _ _ (q.z _) ?_))
  go_ret;exact j.z
theorem Zsm (v:Value) (ls:List Xu) (w:World) (h:Zlu w v ls) (o:ls.flatten.length<=1000000000000) :
  Calls prog 243 #[v] w (ZV w.heap.size ls.flatten w):=by
 obtain ⟨p,aa,rfl,S,I⟩:=h.shape;unfold maxLen at I;have R:=Y4 h;have HL:=Y4 (Zph ls);obtain ⟨F,B⟩:∃F:Nat->Nat,∀k,F k=(ls.take k).flatten.length:=⟨fun k=>(ls.take k).flatten.length,fun _=>rfl⟩;have z:=Y4 B;have D:F 0=0:=by rw [B];simp
 clear h B;go_enter func243,ntmps243;go_wp2_with fail
 go_loopw [3,11] (fun Z i wr=>∃k:Nat,k<=ls.length/\i=.int .i64 k/\Z=.int .i64 (F k)/\w=wr) (fun _ i _=>ls.length - (intOf i).toNat)
 case atStart=>exact ⟨0,by omega,rfl,by rw [D];rfl,rfl⟩
 case round =>
  obtain ⟨k,hk,rfl,rfl,rfl⟩:=hrel
  by_cases a:k<ls.length
  ·have G:decide ((k:Int)<(ls.length:Int))=true:=Xt;have A:decide (k<ls.length)=true:=Xt;have X:(k:Int)<(ls.length:Int):=by omega
   obtain ⟨b,off,x,rfl,M,n⟩:=R.z.at_ a;obtain ⟨px,cx,rfl,_⟩:=n.shape;have c:=Xr List.length (Zn4 a);rw [Xd,<- z.z,<- z.z] at c;have j:=HL.z (k+1);rw [<- z.z] at j;obtain ⟨m,y⟩:=Xn (ls[k].length);rw [y] at c M;have T:wrap64 ((F k:Int)+(m:Int))=(F (k+1):Int):=by rw [IntWalk.wrap64_in _ ⟨by omega,by omega⟩];omega
   have q5:decide ((F (k+1):Int)<0)=false:=Xz (Int.not_lt.2 (Int.natCast_nonneg _));have l:=Y4 a;clear n c y;go_wp2_with fail;have a:=l.z;go_roundw
   case rel=>exact ⟨k+1,by omega,by go_num,by first|trivial|rfl|rw [T],by first|trivial|rfl⟩
   case measure=>simp [intOf];omega
  ·obtain rfl:k=ls.length:=by omega
   have G:decide ((ls.length:Int)<(ls.length:Int))=false:=by simp
   have A:decide (ls.length<ls.length)=false:=by simp
   have f:=z.z ls.length;rw [XB] at f;have O:=Y4 (Zvn (F ls.length) w (by rw [f];exact o));clear f;clear a;go_wp2_with fail;refine O.z.mono ?_;rintro e Y ⟨U,rfl,s,u⟩;have r:Y5 (Zd w.heap.size Y U (ls.take 0).flatten):=Y4 (by simpa using s);have q:=Y4 u;clear s u O;go_wp2_with fail
   go_loopw [6,27] (fun W i N=>∃k:Nat,k<=ls.length/\i=.int .i64 k/\Y5 (Zd w.heap.size N W (ls.take k).flatten)/\Y5 (Below w.heap.size w N)) (fun _ i _=>ls.length - (intOf i).toNat)
   case atStart=>exact ⟨0,by omega,rfl,r,q⟩
   case round =>
    obtain ⟨k,hk,rfl,HOk,d⟩:=hrel;clear r q
    by_cases a:k<ls.length
    ·have G:decide ((k:Int)<(ls.length:Int))=true:=Xt;have A:decide (k<ls.length)=true:=Xt;have X:(k:Int)<(ls.length:Int):=by omega
     obtain ⟨b,off,x,rfl,M,n⟩:=(Zlu.below R.z d.z).at_ a;have c:=Zn4 a;obtain ⟨m,y⟩:=Xn (ls[k]);rw [y] at c n;have j:=HL.z (k+1);rw [c,Xd] at j;have L:=Y4 c;have V:=Y4 n;have l:=Y4 a;clear n c y;go_wp2_with (at_builtin;go_loud (refine Zh rfl _ _ rfl w.heap.size _ (ls.take k).flatten rfl HOk.z _ m rfl V.z (by omega) d.z.size ?_;intro v4 w4 g t;rw [<- L.z] at g;have J:=Y4 g;have H:=Y4 (d.z.trans t);clear g t))
     have a:=l.z;go_roundw
     case rel=>exact ⟨k+1,by omega,by go_num,J,H⟩
     case measure=>simp [intOf];omega
    ·obtain rfl:k=ls.length:=by omega
     have G:decide ((ls.length:Int)<(ls.length:Int))=false:=by simp
     have A:decide (ls.length<ls.length)=false:=by simp
     have C:=HOk.z;rw [XB] at C;have E:=Y4 C;clear a C;go_wp2_with fail;go_ret;exact ⟨_,rfl,E.z,d.z⟩
