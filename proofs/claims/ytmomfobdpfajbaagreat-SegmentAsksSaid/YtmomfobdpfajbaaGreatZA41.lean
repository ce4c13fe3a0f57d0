import Derived.Test.YtmomfobdpfajbaaGreatZA15
import Derived.Test.YtmomfobdpfajbaaGreatZA10
set_option maxRecDepth 100000
set_option maxHeartbeats 0
set_option linter.unusedVariables false
set_option linter.unusedSimpArgs false
namespace Go.Proofs.YtmomfobdpfajbaaGreat
open Tryz
namespace PW
open RowKit MM PM VM
variable {B g:Nat} {w w1:World} {l:Xu} {o:Bool}
def Rd (B:Nat) (w:World) (g:Nat) (l:Xu) (o:Bool):Prop:=∃v,w.heap[g]? = some (.cells #[v,.bool o] 247 (0,0))/\BIn B w v l
theorem Rd.lt (h:Rd B w g l o):g<w.heap.size:=by obtain ⟨v,h,_⟩:=h;exact (Xq.1 h).1
theorem Rd.keep {S:Nat->Prop} {w':World} (h:Rd B w g l o) (b:Kep S w w') (f:S g) (e:∀k,k<B->S k) (a:B<=w.heap.size):Rd B w' g l o:=by
 have d:=h.lt;obtain ⟨v,h,c⟩:=h;exact ⟨v,(b.block g d f).trans h,c.below (b.below a e)⟩
theorem Zx8 (l:Xu):(∃n r,Zmh l=some (n,r)/\(Zs l).1=n/\(Zs l).2.2=0/\VG.Zau l=r/\n<18446744073709551616)\/(Zmh l=none/\(Zs l).2.2≠0/\VG.Zau l=[]/\(Zs l).1=0):=by
 have a:=Zba l
 by_cases h:(Zs l).2.2=0
 ·refine .inl ⟨(Zs l).1,l.drop (Zs l).2.1,by unfold Zmh;rw [Xe h],rfl,h,by unfold VG.Zau;rw [Xe h],a.1⟩
 ·refine .inr ⟨by unfold Zmh;rw [Xc h],h,by unfold VG.Zau;rw [Xc h],?_⟩;rcases a.2.2.1 with e|e|e
  ·exact absurd e h
  ·rw [e]
  ·rw [e]
def ZiV (B g:Nat) (r:Nat×Xu×Bool) (w:World) (e:Ending) (w':World):Prop:=e=.returned (.int .i64 r.1)/\Rd B w' g r.2.1 r.2.2/\Kep (fun b=>b≠g) w w'
theorem Zgr {m:Xu} {v:Value} (h:Rd B w g l o) (d:Below w.heap.size w w1) (c:B<=g) (e:BIn B w1 v m):Rd B (w1.setCell ⟨g,0,none⟩ v) g m o:=by
 obtain ⟨v0,h,_⟩:=h;have a:=(Xq.1 h).1;have b:=heap_setCell_same w1 g 0 _ _ v ((d.block g a).trans h);exact ⟨v,b,e.below ((Below.refl B w1).setCell (p:=⟨g,0,none⟩) c v)⟩
theorem Zzl (h:Rd B w g l o) (c:Below w.heap.size w w1):Rd B ((w1.setCell ⟨g,0,none⟩ (.slice none 0 0)).setCell ⟨g,1,none⟩ (.bool true)) g [] true:=by
 obtain ⟨v0,h,_⟩:=h;have a:=(Xq.1 h).1;have b:=heap_setCell_same w1 g 0 _ _ (.slice none 0 0) ((c.block g a).trans h);have d:=heap_setCell_same _ g 1 _ _ (.bool true) b;exact ⟨.slice none 0 0,d,BIn.nil_ _ _⟩
theorem ZaQ (B g:Nat) (l:Xu) (o:Bool) (lo hi:Int) (w:World) (h:Rd B w g l o) (U:B<=g) (h0:0<=lo) (h1:hi<=9223372036854775807) :
  Calls prog 167 #[.pointer (some ⟨g,0,none⟩),.int .i64 lo,.int .i64 hi] w (ZiV B g (Ze lo hi l o) w):=by
 have HR:=Y4 h;have E:=h.lt;obtain ⟨v,y,F⟩:=h;have f0:w.cell? ⟨g,0,none⟩=some v:=by rw [cell_of_row w g 0 _ _ _ y];rfl
 have HC:=Y4 y;have m:=Y4 (VG.Zj4 B v l w F (Xal (Xbl U E)))
 have C:∀w1,Below w.heap.size w w1->w1.cell? ⟨g,0,none⟩=some v/\w1.cell? ⟨g,1,none⟩=some (.bool o)/\w1.frozen? ⟨g,0,none⟩=false/\w1.frozen? ⟨g,1,none⟩=false:=fun w1 t=>by
  have:=(t.block g E).trans y;exact ⟨by rw [cell_of_row w1 g 0 _ _ _ this];rfl,by rw [cell_of_row w1 g 1 _ _ _ this];rfl,frozen_of_row w1 g 0 _ _ this,frozen_of_row w1 g 1 _ _ this⟩
 have I:=Y4 C;have T:Y5 (∀w1,Below w.heap.size w w1->Kep (fun b=>b≠g) w w1):=Y4 (fun w1 t=>Za _ t)
 have k:∀w1,Below w.heap.size w w1->ZiV B g (0,[],true) w (.returned (.int .i64 ((0:Nat):Int))) ((w1.setCell ⟨g,0,none⟩ (.slice none 0 0)).setCell ⟨g,1,none⟩ (.bool true)):=fun w1 t =>
  ⟨rfl,Zzl HR.z t,((T.z w1 t).trans (Zy (by simp) _)).trans (Zy (by simp) _)⟩
 have i:=Y4 k;rcases Zx8 l with ⟨n,r,hs,u,s,A,hn⟩|⟨hs,s,A,u⟩
 ·rw [u,s,A] at m;obtain ⟨W,Y⟩:=Xn (IntKind.i64.wrap (n:Int))
  have z:((n:Int)<9223372036854775808/\W=(n:Int))\/(¬(n:Int)<9223372036854775808/\W<0):=by
   rw [<- Y,IntKind.wrap_i64];omega
  by_cases j:lo<=(n:Int)/\(n:Int)<=hi
  ·have d:ZaL lo hi l=some (n,r):=by unfold ZaL;rw [hs];exact Xe j
   rw [ZbR d];have D:W=(n:Int):=by omega
   have R:decide (W<lo)=false:=Xz (by omega);have t2:decide (W>hi)=false:=Xz (by omega);rw [D] at Y R t2;have Z:=Y4 (fun w1 x (t:Below w.heap.size w w1) (f:BIn B w1 x r)=>Zgr HR.z t U f);clear F y C k i hs u s A z j d D;go_enter func167,ntmps167;go_wp2_with fail;refine m.z.mono ?_;rintro e w1 ⟨x,rfl,f,a⟩;obtain ⟨N,O,J,S⟩:=I.z w1 a;have M:=Y4 a;have L:=Y4 (Z.z w1 x a f);have X:x.oneCell'=true:=by obtain ⟨p,c,rfl,_⟩:=f;rfl
   obtain ⟨p1,c1,rfl,_⟩:=BIn.shape f;clear f a Z m;go_wp2_with fail;go_ret;exact ⟨rfl,L.z,(T.z w1 M.z).trans (Zy (by simp) _)⟩
  ·have d:ZaL lo hi l=none:=by unfold ZaL;rw [hs];exact Xc j
   rw [Zav d]
   by_cases q:W<lo
   ·have R:decide (W<lo)=true:=Xs q;clear F y C k hs u s A z j d q;go_enter func167,ntmps167;go_wp2_with fail;refine m.z.mono ?_;rintro e w1 ⟨x,rfl,f,a⟩;obtain ⟨N,O,J,S⟩:=I.z w1 a;have G:=Y4 (i.z w1 a);clear f a m i;go_wp2_with fail;go_ret;exact G.z
   ·have R:decide (W<lo)=false:=Xz q;have t2:decide (W>hi)=true:=Xs (by omega);clear F y C k hs u s A z j d q;go_enter func167,ntmps167;go_wp2_with fail;refine m.z.mono ?_;rintro e w1 ⟨x,rfl,f,a⟩;obtain ⟨N,O,J,S⟩:=I.z w1 a;have G:=Y4 (i.z w1 a);clear f a m i;go_wp2_with fail;go_ret;exact G.z
 ·have d:ZaL lo hi l=none:=by unfold ZaL;rw [hs]
  rw [Zav d];rw [u,A] at m;obtain ⟨V,H⟩:=Xn ((Zs l).2.2);rw [H] at m s;have t0:(V != 0)=true:=by rw [Xah];exact s
  have aa:(V == 0)=false:=by rw [X6];exact s
  clear F y C k hs u s A d H;go_enter func167,ntmps167;go_wp2_with fail;refine m.z.mono ?_;rintro e w1 ⟨x,rfl,f,a⟩;obtain ⟨N,O,J,S⟩:=I.z w1 a;have G:=Y4 (i.z w1 a);clear f a m i;go_wp2_with fail;go_ret;exact G.z
theorem Zk0 (B g:Nat) (l:Xu) (o:Bool) (N a:Int) (w:World) (h:Rd B w g l o) (p:B<=g) (h0:0<=N) (h1:N<=1099511627776) (h2:0<=a) (h3:a<=1099511627776) :
  Calls prog 214 #[.pointer (some ⟨g,0,none⟩),.int .i64 N,.int .i64 a] w fun e w'=>e=.returned (.int .i64 (N+(Ze 0 (a - 1 - N) l o).1))/\Rd B w' g (Ze 0 (a - 1 - N) l o).2.1 (Ze 0 (a - 1 - N) l o).2.2/\Kep (fun b=>b≠g) w w':=by
 have c:=Y4 (ZaQ B g l o 0 (a - 1 - N) w h p (by omega) (by omega));have d:=(Zc1 0 (a - 1 - N) l o).1;obtain ⟨R,i⟩:=Xn (Ze 0 (a - 1 - N) l o);rw [i] at c d ⊢;unfold ZiV at c;obtain ⟨n,l1,o1⟩:=R;dsimp only at c d ⊢;have q:(n:Int)<=1099511627776:=by omega
 clear h i d;go_enter func214,ntmps214;go_wp2_with fail;refine c.z.mono ?_;rintro e w1 ⟨rfl,j,f⟩;have k:=Y4 j;have m:=Y4 f;clear j f c;go_wp2_with fail;go_ret;exact ⟨rfl,k.z,m.z⟩
end PW
namespace PW
open RowKit MM PM VM
variable {e:TypeId} {w:World} {g n k:Nat} {zs:List Int}
theorem Zyj:(prog.info? 256).map (fun i=>(i.zero,i.size,i.bytes))=some (some (.agg #[.int .i64 0,.int .i64 0]),2,16):=by kernel_rfl
def ZeD (e:TypeId) (w:World) (g N:Nat) (zs:List Int):Prop:=g<w.heap.size/\∃a,w.heap[g]? = some (.cells a e)/\a.size=N/\zs.length<=N/\a.toList.take zs.length=zs.map (Value.int .i64)
theorem ZeD.next (h:ZeD e w g n zs) (hk:zs.length<n) (z:Int):ZeD e (w.setCell ⟨g,zs.length,none⟩ (.int .i64 z)) g n (zs++[z]):=by
 obtain ⟨d,a,f,c,h4,b⟩:=h;have:=heap_setCell_same w g zs.length _ _ (.int .i64 z) f;refine ⟨by simpa using d,_,this,by simp [c],by simp;omega,?_⟩;rw [Xd,Xai,XG (by simp;omega)];simp only [Array.toList_setIfInBounds,XM,Xbu];rw [List.take_set_of_le (by omega),b];simp
theorem ZeD.cell (h:ZeD e w g n zs) (hk:k<n):(∃u,w.cell? ⟨g,k,none⟩=some u)/\w.frozen? ⟨g,k,none⟩=false:=by
 obtain ⟨h1,b,a,h3,h4,h5⟩:=h;exact ⟨by rw [cell_of_row w g k _ _ _ a];exact ⟨_,Array.getElem?_eq_getElem (by omega)⟩,frozen_of_row w g k _ _ a⟩
theorem ZeD.get (h:ZeD e w g n zs) {z:Int} (c:zs[k]? = some z):w.cell? ⟨g,k,none⟩=some (.int .i64 z):=by
 obtain ⟨h1,b,f,h3,h4,d⟩:=h;obtain ⟨a,rfl⟩:=Xak.1 c;rw [cell_of_row w g k _ _ _ f];have:=Xr (fun l=>l[k]?) d;simp only [List.getElem?_take,a,if_true,Xa1,XZ a,Xae] at this;simpa using this
theorem ZeD.keep {S:Nat->Prop} {w':World} (h:ZeD e w g n zs) (b:Kep S w w') (d:S g):ZeD e w' g n zs:=by
 obtain ⟨c,a,i,f⟩:=h;exact ⟨XJ c b.size,a,by rw [b.block g c d];exact i,f⟩
theorem ZqL {B:Nat} {f:List Value} (h:w.ownsRow B 256 2 (.slice (some ⟨g,0,none⟩) n n) n f):ZeD 256 w g (n*2) []:=by
 rcases h.2 with ⟨a,_⟩|⟨g',d,b,a,hb,c,hn,hm,hs,ht⟩
 ·cases a
 ·simp only [Value.slice.injEq,Xx,Addr.mk.injEq] at a;obtain ⟨⟨rfl,_⟩,_,rfl⟩:=a;exact ⟨(Xq.1 c).1,b,c,hs,by simp,by simp⟩
def ZeL (hs:List (Nat×Nat)):List Int:=hs.flatMap fun h=>[(h.1:Int),(h.2:Int)]
theorem Zvh (hs:List (Nat×Nat)):(ZeL hs).length=hs.length*2:=by
 induction hs with
 | nil=>rfl
 | cons t a ih =>
   have e:ZeL (t::a)=[(t.1:Int),(t.2:Int)]++ZeL a:=rfl;rw [e,Xd,ih,Xh];simp;omega
theorem ZsC (hs:List (Nat×Nat)) (x y:Nat):ZeL (hs++[(x,y)])=ZeL hs++[(x:Int)]++[(y:Int)]:=by simp [ZeL]
theorem Zn2:∀(hs:List (Nat×Nat)) (i:Nat) (x y:Nat),hs[i]? = some (x,y)->(ZeL hs)[i*2]? = some (x:Int)/\(ZeL hs)[i*2+1]? = some (y:Int)
 | [],i,x,y,h=>by simp at h
 | t::ts,0,x,y,h=>by
   simp only [XS,Xx] at h;subst h;exact ⟨rfl,rfl⟩
 | t::ts,i+1,x,y,h=>by
   have:=Zn2 ts i x y (by simpa using h);have e:ZeL (t::ts)=(t.1:Int)::(t.2:Int)::ZeL ts:=rfl;rw [e,show (i+1)*2=i*2+1+1 by omega];simpa using this
def ZhA (B g:Nat) (b:Xu) (n:Nat) (d o:Bool) (c:Xu) (w:World) (e:Ending) (w':World):Prop :=
 ∃hs l a H,e=.returned (.slice (some ⟨H,0,none⟩) (cnt n) (cnt n))/\w.heap.size<=H/\ZeD 256 w' H (cnt n*2) (ZeL hs)/\HSt b n o c (cnt n) hs l a/\(d=true->a=true)/\Rd B w' g l a/\Kep (fun b=>b≠g) w w'
theorem Zj6 (B g:Nat) (b l:Xu) (n:Nat) (Z o:Bool) (w:World) (h:Rd B w g l o) (hB:B<=g) (hb:b.length<4611686018427387904) (hn:n<=1000000) (hc:HSt b n Z l 0 [] l o) :
  Calls prog 169 #[.pointer (some ⟨g,0,none⟩),.int .i64 (cnt n)] w (ZhA B g b n o Z l w):=by
 obtain ⟨i0,hi,W,M,ab⟩:=info_parts Zyj;have ah:cnt n<=1000000:=by unfold cnt;omega
 have N:=Y4 (fun i hs p j (h:HSt b n Z l i hs p j) (hi:i<cnt n)=>Zyg hb h hi);have ai:=h.lt;have HR:=Y4 h;have O:Y5 (HSt b n Z l 0 [] l o):=Y4 hc;obtain ⟨c,H⟩:=Xn (cnt n);unfold ZhA;rw [H] at ah ⊢;simp only [H] at N;clear h hc hb hn H;go_enter func169,ntmps169;go_wp2_with (at_make;refine wpList_make_full w rfl _ _ 251 rfl w.heap.size 256 i0 (.agg #[.int .i64 0,.int .i64 0]) 2 underlying251 hi W M .i64 .i64 _ _ c rfl rfl rfl rfl (by rw [ab];omega) (by unfold maxLen;omega) (Xa _) ?_)
 intro w2 q S;have b2:=(Below.refl w.heap.size w).grown S (Xa _) (fun k h=>by cases h);have V:Y5 (ZeD 256 w2 w.heap.size (c*2) (ZeL [])):=Y4 (ZqL q);have X:=Y4 (HR.z.keep (Za (fun _=>True) b2) trivial (fun _ _=>trivial) (by omega));have T:=Y4 (Za (fun b=>b≠g) b2);have HG:=Y4 (show w.heap.size≠g by omega);clear q S b2 hi W M ab HR;go_wp2_with fail
 go_loopw [11] (fun iv wr=>∃(i:Nat) (hs:List (Nat×Nat)) (p:Xu) (j:Bool),i<=c/\iv=.int .i64 i/\Y5 (HSt b n Z l i hs p j)/\Y5 (o=true->j=true)/\Y5 (ZeD 256 wr w.heap.size (c*2) (ZeL hs))/\Y5 (Rd B wr g p j)/\Y5 (Kep (fun b=>b≠g) w wr)) (fun iv _=>c - (intOf iv).toNat)
 case atStart=>exact ⟨0,[],l,o,by omega,rfl,O,Y4 (fun e=>e),V,X,T⟩
 case round =>
  obtain ⟨i,hs,p,j,hi,rfl,HC,aa,HH,t,HK⟩:=hrel;clear O V X T
  by_cases ae:i<c
  ·have t1:decide ((i:Int)<(c:Int))=true:=by simp;omega
   have F:=N.z i hs p j HC.z ae;have a:=ZaQ B g p j 0 9223372036854775807 wr t.z hB (by omega) (by omega);have J:=HC.z.1;have d:Y5 (o=true->(Ze 0 9223372036854775807 (Ze 0 9223372036854775807 p j).2.1 (Ze 0 9223372036854775807 p j).2.2).2.2=true):=Y4 (fun e=>Zop (Zop (aa.z e)));obtain ⟨R,hR⟩:=Xn (Ze 0 9223372036854775807 p j);rw [hR] at a F d;have s:=Y4 a;have f:=Y4 F;have Y:(ZeL hs).length=i*2:=by rw [Zvh,J]
   have G:=Y4 Y;clear a F hR J Y;go_wp2_with fail;refine s.z.mono ?_;rintro e w3 ⟨rfl,h3,k3⟩;obtain ⟨x,l2,o2⟩:=R;dsimp only at h3 f d ⊢;have z:=HH.z.keep k3 HG.z;obtain ⟨⟨u0,f0⟩,f1⟩:=z.cell (k:=i*2) (by omega);have A:=z.next (by rw [G.z];omega) (x:Int);rw [G.z] at A;have E:Kep (fun b=>b≠w.heap.size) w3 (w3.setCell ⟨w.heap.size,i*2,none⟩ (.int .i64 (x:Int))):=Zy (by simp) _;have I:Rd B (w3.setCell ⟨w.heap.size,i*2,none⟩ (.int .i64 (x:Int))) g l2 o2:=h3.keep E (Ne.symm HG.z) (fun k hk=>by omega) (by have:=h3.lt;omega);have a:=ZaQ B g l2 o2 0 9223372036854775807 _ I hB (by omega) (by omega);obtain ⟨R2,ac⟩:=Xn (Ze 0 9223372036854775807 l2 o2);rw [ac] at a f d;have m:=Y4 a;have L:=Y4 A;have aj:w.heap.size<=w3.heap.size:=Xy HK.z.size k3.size;have U:=Y4 ((HK.z.trans k3).andThen E (fun k hk _=>by omega));clear h3 k3 z A E I a ac s HH t HK;go_wp2_with fail;refine m.z.mono ?_;rintro e w5 ⟨rfl,h5,k5⟩;obtain ⟨y,l3,o3⟩:=R2;dsimp only at h5 f d ⊢;have r:=L.z.keep k5 HG.z;have D:(ZeL hs++[(x:Int)]).length=i*2+1:=by rw [Xd,G.z];rfl
   have g0:∃u,w5.cell? ⟨w.heap.size,i*2+1,none⟩=some u:=(r.cell (k:=i*2+1) (by omega)).1;obtain ⟨u1,g0⟩:=g0;have g1:=(r.cell (k:=i*2+1) (by omega)).2;have v:=r.next (by rw [D];omega) (y:Int);rw [D,<- ZsC] at v;have C:Kep (fun b=>b≠w.heap.size) w5 (w5.setCell ⟨w.heap.size,i*2+1,none⟩ (.int .i64 (y:Int))):=Zy (by simp) _;have ag:Y5 (Rd B (w5.setCell ⟨w.heap.size,i*2+1,none⟩ (.int .i64 (y:Int))) g l3 o3):=Y4 (h5.keep C (Ne.symm HG.z) (fun k hk=>by omega) (by have:=h5.lt;omega));have af:=Y4 v;have ad:=Y4 ((U.z.trans k5).andThen C (fun k hk _=>by omega));clear h5 k5 r D v C m L U;go_wp2_with fail;go_roundw
   case rel=>exact ⟨i+1,_,_,_,by omega,by go_num,f,d,af,ag,ad⟩
   case measure=>simp [intOf];omega
  ·obtain rfl:i=c:=by omega
   have t1:decide ((i:Int)<(i:Int))=false:=by simp
   go_wp2_with fail;go_ret;exact ⟨hs,p,j,w.heap.size,rfl,Xa _,HH.z,HC.z,aa.z,t.z,HK.z⟩
end PW
namespace PW
open RowKit MM PM VM
theorem ZpP {P:Program} (w:World) {o:Oper} {a:Act} {K:Act->World->Prop} {Q:Exit->Act->World->Prop} (l c:Operand) (t:TypeId) (d:o.op=Op.makeSlice t l c)
  (base:Nat) (e:TypeId) (i:TypeInfo) (z:Value) (size:Nat) (x:P.underlying t=some (.slice e)) (y:P.info? e=some i) (p:i.zero=some z) (q:i.size=size)
  (g f:IntKind) (n:Nat) (r:a.eval l=.int g n) (m:a.eval c=.int f n) (j:i.bytes*n<=281474976710656) (s:n<=maxLen) (h:base<=w.heap.size)
  (k:∀w',w'.ownsRow base e size (.slice (some ⟨w.heap.size,0,none⟩) n n) n (madeCells z.cells (n*size)).toList->w.grownBy w' none->K (a.put o.dst (.slice (some ⟨w.heap.size,0,none⟩) n n)) w'):o.wp P a w K Q:=by
 obtain ⟨w',b,u,v⟩:=run_make_full (P:=P) w base t e i z size x y p q g f n j s h;unfold Oper.wp;simp [execOp,d,r,m,b,Result.andThen];exact k w' u v
theorem Zvu:(prog.info? 125).map (·.size)=some 2:=by kernel_rfl
def ZwZ (B g q:Nat) (N:Int) (l:Xu) (o:Bool) (w:World) (e:Ending) (w':World):Prop :=
 ∃d qs c f a,e=.returned (.agg #[.int .i64 d,a])/\PSt N l o d qs c f/\Rd B w' g c f/\w'.heap[q]? = some (.cells #[.int .i64 (d+1)] 3 (0,0))/\ZbU w.heap.size w' a qs/\Kep (fun b=>b≠g/\b≠q) w w'
theorem ZyO (B g c q:Nat) (l:Xu) (o:Bool) (N:Int) (w:World) (h:Rd B w g l o) (hB:B<=g) (ht:w.heap[c]? = some (.cells #[.pointer (some ⟨g,0,none⟩)] 287 (0,0))) (bf:c≠g) (hq:w.heap[q]? = some (.cells #[.int .i64 N] 3 (0,0))) (bo:q≠g) (aV:q≠c) (ce:B<=q) (h0:0<=N) (h1:N<=1000000) (hl:l.length<=1000000000) :
  Calls prog 213 #[.pointer (some ⟨c,0,none⟩),.pointer (some ⟨q,0,none⟩)] w (ZwZ B g q N l o w):=by
 obtain ⟨i0,hi,bb,bm,bE⟩:=info_parts Zgd;have au:=(Xq.1 ht).1;have aL:=(Xq.1 hq).1;have aY:=h.lt;have F:Below w.heap.size w (w.alloc (.cells #[.int .i64 0,.slice none 0 0] 125)):=(Below.refl _ _).alloc (Xa _) _;obtain ⟨X,Y⟩:=Xn (w.alloc (.cells #[.int .i64 0,.slice none 0 0] 125));have aW:X.heap[w.heap.size]? = some (.cells #[.int .i64 0,.slice none 0 0] 125):=by rw [<- Y];exact heap_alloc_new _ _
 have a8:w.heap.size+1=X.heap.size:=by rw [<- Y];simp
 rw [Y] at F;have bg:=h.keep (Za (fun _=>True) F) trivial (fun _ _=>trivial) (by omega);have aG:=(F.block c au).trans ht;have aN:=(F.block q aL).trans hq;have a:=Zk0 B g l o N 65536 X bg hB h0 (by omega) (by omega) (by omega);rw [show (65536:Int) - 1 - N=65535 - N by omega] at a;obtain ⟨V,hr⟩:=Xn (Ze 0 (65535 - N) l o);have M:=Zv0 h0 l o V _ hr rfl;rw [hr] at a;have t:=(Zc1 0 (65535 - N) l o).2;rw [hr] at t;obtain ⟨r2,bi⟩:=Xn (Ze 1 (min 1048576 (V.2.1.length:Int)) V.2.1 V.2.2);have i:=Y4 (fun W (hW:Rd B W g V.2.1 V.2.2)=>ZaQ B g V.2.1 V.2.2 1 (min 1048576 (V.2.1.length:Int)) W hW hB (by omega) (by omega));rw [bi] at i M;obtain ⟨x,l1,o1⟩:=V;obtain ⟨m,l2,o2⟩:=r2;dsimp only at a M t i;unfold ZiV at i;dsimp only at i;obtain ⟨aH,hz,hm,aC⟩:=M;obtain ⟨d,hd⟩:=Xn (N+(x:Int));rw [hd] at a aH aC;have bA:N<=d:=by omega
 have aX:=Y4 aH;have HZ:=Y4 hz;have n:=Y4 a;have bP:=Y4 aC;have bM:=Y4 bA;have cb:d<=1000000:=by omega
 have ca:0<=d:=by omega
 have f0:X.cell? ⟨c,0,none⟩=some (.pointer (some ⟨g,0,none⟩)):=by rw [cell_of_row X c 0 _ _ _ aG];rfl
 have f1:X.cell? ⟨q,0,none⟩=some (.int .i64 N):=by rw [cell_of_row X q 0 _ _ _ aN];rfl
 have bS:=Y4 aG;have bO:=Y4 aN;have b6:=Y4 aW;have aZ:=Y4 F;have ag:=Y4 bf;have ad:=Y4 bo;have bX:=Y4 aV;have bs:=Y4 au;have ae:=Y4 aL;have z:=Y4 aY;have aA:=Y4 a8;have cc:=Y4 Y;have bJ:l1.length<=1000000000:=by omega
 clear h ht hq bg aG aN aW F aH hz a hr bi aC hd bA bf bo aV au aL aY a8 t;go_enter func213,ntmps213;go_wp2_with fail;refine n.z.mono ?_;rintro e w2 ⟨rfl,E,I⟩;have aB:=(I.block c (by have:=bs.z;have:=aA.z;omega) ag.z).trans bS.z;have ab:=(I.block q (by have:=ae.z;have:=aA.z;omega) ad.z).trans bO.z;have ao:=(I.block w.heap.size (by have:=aA.z;omega) (by have:=z.z;omega)).trans b6.z;have g0:w2.cell? ⟨q,0,none⟩=some (.int .i64 N):=by rw [cell_of_row w2 q 0 _ _ _ ab];rfl
 have g1:w2.frozen? ⟨q,0,none⟩=false:=frozen_of_row w2 q 0 _ _ ab;have aP:=heap_setCell_same w2 q 0 _ _ (.int .i64 (d+1)) ab;have C:Kep (fun b=>b≠q) w2 (w2.setCell ⟨q,0,none⟩ (.int .i64 (d+1))):=Zy (by simp) _;obtain ⟨W3,aq⟩:=Xn (w2.setCell ⟨q,0,none⟩ (.int .i64 (d+1)));rw [aq] at aP C;have aT:=(C.block c (Xq.1 aB).1 (Ne.symm bX.z)).trans aB;have bp:=(C.block w.heap.size (Xq.1 ao).1 (by have:=ae.z;omega)).trans ao;have bq:=E.keep C (Ne.symm ad.z) (fun k hk=>by omega) (by have:=E.lt;omega);have ah:Kep (fun b=>b≠g/\b≠q) X W3:=(I.mono (fun k hk=>hk.1)).andThen C (fun k _ hk=>hk.2);have bQ:=Y4 aq;have aI:=Y4 aP;have ac:=Y4 aT;have aF:=Y4 bp;have ar:=Y4 bq;have an:=Y4 ah;clear E I aB ab ao aP C aT bp bq ah f0 f1 n;have g2:W3.cell? ⟨c,0,none⟩=some (.pointer (some ⟨g,0,none⟩)):=by rw [cell_of_row W3 c 0 _ _ _ ac.z];rfl
 go_wp2_with fail;refine RK.Zal (T:=fun b=>b≠g) [(0,true),(1,true),(2,true),(3,true),(4,false),(5,true),(6,true),(7,false),(8,false),(9,true)] (by kernel_rfl) (by kernel_rfl) rfl (by kernel_rfl) (fun _ _ d _ _ h=>by cases d<;>exact h) ?_;simp only [RK.Zt,XC,XN,XU,XV,XS];obtain ⟨WD,ax⟩:=Xn W3.drew;rw [ax];have y:Kep (fun _=>True) W3 WD:=by rw [<- ax];exact Zcg _ _
 have bt:=(y.block c (Xq.1 ac.z).1 trivial).trans ac.z;have aS:=(y.block q (Xq.1 aI.z).1 trivial).trans aI.z;have a5:=(y.block w.heap.size (Xq.1 aF.z).1 trivial).trans aF.z;have a9:=ar.z.keep y trivial (fun _ _=>trivial) (by have:=ar.z.lt;omega);have bc:=an.z.andThen (T:=fun _=>True) y (fun _ _ _=>trivial);have Z:=Y4 bt;have ay:=Y4 aS;have aK:=Y4 a5;have bv:=Y4 a9;have aw:=Y4 bc;clear ax y bt aS a5 bc g2 g0 g1 ac aI aF ar an;have G:=(Xq.1 Z.z).1;have f1:=fun W (hW:Kep (fun b=>b≠g) WD W)=>(hW.cell (b:=c) G ag.z 0).trans (show WD.cell? ⟨c,0,none⟩=some (.pointer (some ⟨g,0,none⟩)) by rw [cell_of_row WD c 0 _ _ _ Z.z];rfl);obtain ⟨vr,a0,aU⟩:=a9;have f2:WD.cell? ⟨g,0,none⟩=some vr:=by rw [cell_of_row WD g 0 _ _ _ a0];rfl
 obtain ⟨pr,cr,rfl,b8,bj⟩:=aU.shape;unfold maxLen at bj;have ak:(if (l1.length:Int)<1048576 then (l1.length:Int) else 1048576)=min 1048576 (l1.length:Int):=by split<;>omega
 have J:(if 1048576<(l1.length:Int) then 1048576 else (l1.length:Int))=min 1048576 (l1.length:Int):=by split<;>omega
 obtain ⟨MN,bn⟩:=Xn (min 1048576 (l1.length:Int));rw [bn] at ak J i;clear a0 aU;repeat ((first|(refine RK.take (by rfl) (by intro W hW;go_simp;with_reducible rfl) ?_)|(refine RK.skip (by rfl) ?_)|(refine RK.Zab (by rfl) ?_));simp only [Act.put,Xm,Xo,Xl])
 refine RK.alone (by rfl) (fun K hK => ?_);go_simp;refine hK.z _ _ (Kep.refl _ _) ?_;clear hK K;repeat ((first|(refine RK.take (by rfl) (by intro W hW;go_simp;with_reducible rfl) ?_)|(refine RK.skip (by rfl) ?_)|(refine RK.Zab (by rfl) ?_));simp only [Act.put,Xm,Xo,Xl])
 refine RK.alone (by rfl) (fun K hK => ?_);go_simp;refine (i.z WD bv.z).mono ?_;rintro e U ⟨rfl,bD,aa⟩;go_simp;refine hK.z _ _ aa ?_;have am:w.heap.size<=U.heap.size:=by have h1:=aZ.z.size;have h2:=aw.z.size;have h3:=aa.size;omega
 have ap:=Y4 bD;have f:=Y4 aa;clear hK K f1 f2 bD aa i;refine RK.alone (by rfl) (fun K hK => ?_);refine ZpP U _ _ 69 rfl w.heap.size 3 i0 (.int .i64 0) 1 underlying69 hi bb bm .i64 .i64 m rfl rfl (by rw [bE];omega) (by unfold maxLen;omega) am ?_;intro W6 L a2;have s:Below U.heap.size U W6:=(Below.refl _ _).grown a2 (Xa _) (fun k h=>by cases h);go_simp;refine hK.z _ _ (Za _ s) ?_;have a6:ZeC W6 U.heap.size m []:=ZkJ L;have bC:=(s.block c (by have:=f.z.size;omega)).trans ((f.z.block c G ag.z).trans Z.z);have al:=(Xq.1 ay.z).1;have ai:=(Xq.1 aK.z).1;have ba:=(s.block q (by have:=f.z.size;omega)).trans ((f.z.block q al ad.z).trans ay.z);have bx:=(s.block w.heap.size (by have:=f.z.size;omega)).trans ((f.z.block w.heap.size ai (by have:=z.z;omega)).trans aK.z);have a4:=ap.z.keep (Za (fun _=>True) s) trivial (fun _ _=>trivial) (by have:=ap.z.lt;omega);have aj:Kep (fun b=>b≠g/\b≠q) X W6:=(aw.z.trans (f.z.mono (fun k hk=>hk.1))).trans (Za _ s);have bN:w.heap.size<U.heap.size:=by have:=f.z.size;omega
 have bw:=Y4 bC;have bl:=Y4 ba;have br:=Y4 bx;have bd:=Y4 a4;have az:=Y4 a6;have a1:=Y4 aj;have bW:q<U.heap.size:=by have:=ae.z;omega
 have bG:c<U.heap.size:=by have:=bs.z;omega
 have bF:g<U.heap.size:=by have:=z.z;omega
 clear hK K L a2 s bC ba bx a4 a6 aj ap f Z ay aK bv aw G al ai hi bb bm bE ak J bn b8 bj bJ;repeat ((first|(refine RK.take (by rfl) (by intro W hW;go_simp;with_reducible rfl) ?_)|(refine RK.skip (by rfl) ?_)|(refine RK.Zab (by rfl) ?_));simp only [Act.put,Xm,Xo,Xl])
 refine RK.done ?_;clear aq bQ;have bB:Y5 (ZaR 0 []=0):=Y4 rfl;have S:Y5 (Kep (fun b=>b≠g/\b≠U.heap.size) W6 W6):=Y4 (Kep.refl _ _);obtain ⟨P,hP⟩:=Xn U.heap.size;rw [hP] at bN az bW bG bF S ⊢;clear hP am;go_wp2_with fail
 go_loopw [5,23] (fun av iv wr=>∃(k:Nat) (A:Int) (qs:List Int) (lk:Xu) (ok:Bool),k<=m/\iv=.int .i64 k/\av=.int .i64 A/\0<=A/\A<=1048576+k/\Y5 (ZaR 0 qs=A)/\Y5 (QSt N l o d m k qs lk ok)/\Y5 (m=0->ok=true/\lk=[]/\∀p r,¬Zca N l p r)/\Y5 (Rd B wr g lk ok)/\Y5 (ZeC wr P m qs)/\Y5 (Kep (fun b=>b≠g/\b≠P) W6 wr)) (fun _ iv _=>m - (intOf iv).toNat)
 case atStart=>exact ⟨0,0,[],l2,o2,by omega,rfl,rfl,by omega,by omega,bB,aX,HZ,bd,az,S⟩
 case round =>
  obtain ⟨k,A,qs,lk,ok,hk,rfl,rfl,b7,cd,HL,HQ,bZ,HR,HH,HK⟩:=hrel;clear bB aX bd az S;have a7:=(HK.z.block c (Xq.1 bw.z).1 ⟨ag.z,by omega⟩).trans bw.z
  by_cases aD:k<m
  ·have t1:decide ((k:Int)<(m:Int))=true:=by simp;omega
   have f0:wr.cell? ⟨c,0,none⟩=some (.pointer (some ⟨g,0,none⟩)):=by rw [cell_of_row wr c 0 _ _ _ a7];rfl
   have a:=Zk0 B g lk ok A 1048576 wr HR.z hB b7 (by omega) (by omega) (by omega);rw [show (1048576:Int) - 1 - A=1048575 - A by omega] at a;have O:=Zzh HQ.z aD;rw [HL.z] at O;have aQ:=(Zc1 0 (1048575 - A) lk ok).1;obtain ⟨⟨x2,l3,o3⟩,E⟩:∃R,Ze 0 (1048575 - A) lk ok=R:=⟨_,rfl⟩;rw [E] at a O aQ;dsimp only at a O aQ;have bL:A+(x2:Int)+1<=1048576+(k+1:Nat):=by omega
   have cf:A+(x2:Int)<=3000000:=by omega
   have n:=Y4 a;have bY:=Y4 O;have u:=Y4 HQ.z.1;clear a O aQ E a7;go_wp2_with fail;refine n.z.mono ?_;rintro e w7 ⟨rfl,aM,aE⟩;have aJ:=HH.z.keep aE (show P≠g by omega);obtain ⟨⟨u0,c0⟩,c1⟩:=aJ.cell aD;have af:=aJ.next (by rw [u.z];exact aD) (A+(x2:Int));rw [u.z] at af;have aO:Kep (fun b=>b≠P) w7 (w7.setCell ⟨P,k,none⟩ (.int .i64 (A+(x2:Int)))):=Zy (by simp) _;have be:=aM.keep aO (show g≠P by omega) (fun j hj=>by omega) (by have:=aM.lt;omega);have c2:(w7.setCell ⟨P,k,none⟩ (.int .i64 (A+(x2:Int)))).cell? ⟨P,k,none⟩=some (.int .i64 (A+(x2:Int))):=ZeD.get (e:=3) af (by rw [Xbw (by rw [u.z];omega),u.z,Xaw];rfl);have bk:=(HK.z.trans (aE.mono (T:=fun b=>b≠g/\b≠P) (fun j hj=>hj.1))).trans (aO.mono (T:=fun b=>b≠g/\b≠P) (fun j hj=>hj.2));have bU:=Y4 af;have bI:=Y4 be;have bK:=Y4 bk;have b9:Y5 (ZaR 0 (qs++[A+(x2:Int)])=A+(x2:Int)+1):=Y4 (Zgf _ _ _);clear aM aE aJ af aO be bk n HL HQ HR HH HK f0;go_wp2_with fail;go_roundw
   case rel=>exact ⟨k+1,A+(x2:Int)+1,_,_,_,by omega,by go_num,rfl,by omega,bL,b9,bY,Y4 (fun e=>by omega),bI,bU,bK⟩
   case measure=>simp [intOf];omega
  ·obtain rfl:k=m:=by omega
   have t1:decide ((k:Int)<(k:Int))=false:=by simp
   have D:=(HK.z.block w.heap.size (Xq.1 br.z).1 ⟨by have:=z.z;omega,by omega⟩).trans br.z;have aR:=(HK.z.block q (Xq.1 bl.z).1 ⟨ad.z,by omega⟩).trans bl.z;have b0:wr.cell? ⟨w.heap.size,0,none⟩=some (.int .i64 0):=by rw [cell_of_row wr _ 0 _ _ _ D];rfl
   have b1:wr.cell? ⟨w.heap.size,1,none⟩=some (.slice none 0 0):=by rw [cell_of_row wr _ 1 _ _ _ D];rfl
   have b2:wr.frozen? ⟨w.heap.size,0,none⟩=false:=frozen_of_row wr _ 0 _ _ D;have b3:wr.frozen? ⟨w.heap.size,1,none⟩=false:=frozen_of_row wr _ 1 _ _ D;have n1:=heap_setCell_same wr w.heap.size 0 _ _ (.int .i64 d) D;have b4:(wr.setCell ⟨w.heap.size,0,none⟩ (.int .i64 d)).cell? ⟨w.heap.size,1,none⟩=some (.slice none 0 0):=by rw [cell_of_row _ _ 1 _ _ _ n1];rfl
   have b5:(wr.setCell ⟨w.heap.size,0,none⟩ (.int .i64 d)).frozen? ⟨w.heap.size,1,none⟩=false:=frozen_of_row _ _ 1 _ _ n1;have n2:=heap_setCell_same _ w.heap.size 1 _ _ (.slice (some ⟨P,0,none⟩) k k) n1;have H:Kep (fun b=>b≠w.heap.size) wr ((wr.setCell ⟨w.heap.size,0,none⟩ (.int .i64 d)).setCell ⟨w.heap.size,1,none⟩ (.slice (some ⟨P,0,none⟩) k k)):=(Zy (by simp) _).trans (Zy (by simp) _);have a3:=HR.z.keep H (by have:=z.z;omega) (fun j hj=>by have:=z.z;omega) (by have:=HR.z.lt;omega);have bh:=(H.block q (Xq.1 aR).1 (by have:=ae.z;omega)).trans aR;have bz:=HH.z.keep H (show P≠w.heap.size by omega);have bu:=bz.own HQ.z.1 (by unfold maxLen;omega) (B:=w.heap.size) (by omega);have hp:=ZBA HQ.z bM.z bP.z bZ.z;have i:=Y4 n2;have bV:=Y4 a3;have bH:=Y4 bh;have bT:=Y4 bu;have HP:=Y4 hp
   have bR:Y5 (Kep (fun b=>b≠g/\b≠q) w ((wr.setCell ⟨w.heap.size,0,none⟩ (.int .i64 d)).setCell ⟨w.heap.size,1,none⟩ (.slice (some ⟨P,0,none⟩) k k))):=Y4 (by
    have h1:=(Za (fun b=>b≠g/\b≠q) aZ.z).trans a1.z;have h2:=h1.andThen HK.z (fun j hj hs=>⟨hs.1,by omega⟩);exact h2.andThen H (fun j hj _=>by omega))
   clear D aR n1 n2 H a3 bh bz bu hp HQ HR HH HK HL;go_wp2_with fail;refine bodyPost_ret (v:=.agg #[.int .i64 d,.slice (some ⟨P,0,none⟩) k k]) (results_cell_row rfl _ _ w.heap.size 125 _ (0,0) _ rfl i.z underlying125 rfl Zvu) rfl ⟨d,qs,lk,ok,_,rfl,HP.z,bV.z,bH.z,bT.z,bR.z⟩
variable {S:Nat->Prop} {w:World} {g n k:Nat}
theorem Zk7 (w:World) (a b:Obj):((w.alloc a).alloc b).heap[w.heap.size]? = some a/\((w.alloc a).alloc b).heap[w.heap.size+1]? = some b:=by
 have d:(w.alloc a).heap[w.heap.size]? = some a:=heap_alloc_new w a;have c:=heap_alloc_new (w.alloc a) b;have hs:(w.alloc a).heap.size=w.heap.size+1:=by simp
 rw [hs] at c;exact ⟨(((Below.refl _ (w.alloc a)).alloc (Xa _) b).block w.heap.size (by omega)).trans d,c⟩
theorem Zkg (g:Nat) (w:World):Calls prog 170 #[.pointer (some ⟨g,0,none⟩)] w fun e w'=>e=.returned (.func (.func 213) #[] #[.pointer (some ⟨w.heap.size,0,none⟩),.pointer (some ⟨w.heap.size+1,0,none⟩)]) /\
  w'.heap[w.heap.size]? = some (.cells #[.pointer (some ⟨g,0,none⟩)] 287 (0,0))/\w'.heap[w.heap.size+1]? = some (.cells #[.int .i64 0] 3 (0,0))/\Below w.heap.size w w':=by
 have f:∀(fn:Fn) (first a:Array Value) (w:World),(Instr.makeFunc fn first a).run prog w=.ok (.func fn first a) w:=fun _ _ _ _=>rfl;have d:=Zk7 w (.cells #[.pointer (some ⟨g,0,none⟩)] 287) (.cells #[.int .i64 0] 3);have b:Below w.heap.size w ((w.alloc (.cells #[.pointer (some ⟨g,0,none⟩)] 287)).alloc (.cells #[.int .i64 0] 3)):=((Below.refl _ _).alloc (Xa _) _).alloc (by simp) _;have c:=Y4 d;have h:=Y4 b;clear d b;go_enter func170,ntmps170;go_wp2_with fail;go_ret;exact ⟨rfl,c.z.1,c.z.2,h.z⟩
theorem Ze3.prow {b:List (Int×Value)} {ps:List Zk} (h:Ze3 w g n b) (l:b.length=n) (m:n<=maxLen) (d:Zd7 S w b ps):Za7 w (.slice (some ⟨g,0,none⟩) n n) ps:=by
 obtain ⟨o,h3,c⟩:=h;have e:=d.1;refine ⟨some ⟨g,0,none⟩,n,b,by rw [<- e,l],by omega,m,(fun h=>by cases h),d.keep (Kep.refl _ _) (fun _ _ _=>trivial),.inr ⟨g,0,rfl,o,trivial,fun i hi => ?_⟩⟩;have a:=ZmV b i hi;have j:=c _ _ a.1;have f:=c _ _ a.2;rw [<- Xat] at f;exact ⟨j,f⟩
theorem Ze3.get {b:List (Int×Value)} {ps:List Zk} (h:Ze3 w g n b) (c:Zd7 S w b ps) (d:k<ps.length):w.cell? ⟨g,k*2,none⟩=some (.int .i64 ps[k].1):=by
 obtain ⟨h2,h3,f⟩:=h;have e:=c.1;have a:=ZmV b k (by omega);have:=f _ _ a.1;rw [XL] at this;rw [this,(c.2 k (by omega) d).1]
def ZAz (r:Option (List Zk)):List Zk×Int:=match r with
 | some ps=>(ps,0)
 | none=>([],80)
def ZAh (r:List Zk×Int) (w:World) (e:Ending) (w':World):Prop:=∃v,e=.returned (.tuple #[v,.int .i64 r.2])/\Za7 w' v r.1/\Below w.heap.size w w'
theorem Zyt {ps:List Zk} (hk:ps.length=k+1):ZI 0 ps=(ps[k]'(by omega)).1+1:=by
 have e:ps=ps.take k++[ps[k]'(by omega)]:=by
  rw [<- XG (by omega),XO (by omega)]
 conv=>lhs;rw [e]
 exact Zgi _ _
theorem Zsp (v:Value) (b:Xu) (w:World) (hr:Zv w v b) (hb:b.length<=1000000000):Calls prog 112 #[v] w (ZAh (ZAz (Zpa b)) w):=by
 obtain ⟨i0,hi,bv,bD,a7⟩:=info_parts Zyk;have ar:b.length<4611686018427387904:=by omega
 have aw:Y5 (ZgN b->ZAz (Zpa b)=([],80)):=Y4 (fun h=>by rw [Zu1 h];rfl);have aI:Y5 (∀ps,Dec b ps->ZAz (Zpa b)=(ps,0)):=Y4 (fun ps h=>by rw [ZnQ ar h];rfl);obtain ⟨cP,aF⟩:=Xn (ZAz (Zpa b));rw [aF] at aw aI ⊢;obtain ⟨r,F⟩:=Xn (Ze 0 (min 65536 ((b.length / 3:Nat):Int)) b false);have aJ:=Zvr ar r F;obtain ⟨p,ay,rfl,b3,cj⟩:=BIn.shape hr;unfold maxLen at cj;have an:Below w.heap.size w (w.alloc (.cells #[.slice p b.length ay,.bool false] 247)):=(Below.refl _ _).alloc (Xa _) _;have aA:Rd w.heap.size (w.alloc (.cells #[.slice p b.length ay,.bool false] 247)) w.heap.size b false:=⟨_,heap_alloc_new _ _,BIn.below hr an⟩;have av:(w.alloc (.cells #[.slice p b.length ay,.bool false] 247)).heap.size=w.heap.size+1:=by simp
 obtain ⟨nb,a2⟩:=Xn b.length;have cF:=Y4 a2;rw [a2] at an aA av F hb b3 ⊢;obtain ⟨W1,aR⟩:=Xn (w.alloc (.cells #[.slice p nb ay,.bool false] 247));rw [aR] at an aA av;have hN:=ZaQ w.heap.size w.heap.size b false 0 (min 65536 ((nb / 3:Nat):Int)) W1 aA (Xa _) (by omega) (by omega);rw [F] at hN;obtain ⟨n,l1,o1⟩:=r;unfold ZiV at hN;dsimp only at hN aJ;obtain ⟨bk,hn,ca,bl⟩:=aJ;obtain ⟨n3,bx⟩:∃k:Nat,nb / 3=k:=⟨_,rfl⟩;rw [bx] at hN;have bz:(nb:Int) / 3=(n3:Int):=by omega
 have cy:Int.tdiv (nb:Int) 3=(n3:Int):=by rw [Int.tdiv_eq_ediv_of_nonneg (by omega)];exact bz
 have aK:(if (n3:Int)<65536 then (n3:Int) else 65536)=min 65536 (n3:Int):=by split<;>omega
 have Y:(if 65536<(n3:Int) then 65536 else (n3:Int))=min 65536 (n3:Int):=by split<;>omega
 obtain ⟨MN,bE⟩:=Xn (min 65536 (n3:Int));rw [bE] at hN aK Y;have HN:=Y4 hN;have be:=Y4 an;have cD:=Y4 bk;have ch:=Y4 bl;have bB:=Y4 av;have ce:=Y4 ar;have bA:=Y4 aR;clear hN an aA bk bl av aF F hr a2 ar bx aR;go_enter func112,ntmps112;go_wp2_with fail;rw [bA.z];refine HN.z.mono ?_;rintro e w2 ⟨rfl,bM,aY⟩;have cg:w.heap.size<w2.heap.size:=by have:=bB.z;have:=aY.size;omega
 have ah:Below w.heap.size w w2:=be.z.trans (aY.below (by have:=bB.z;omega) (fun k hk=>by omega));have bc:=Y4 bM;have ad:=Y4 ah;clear bM aY ah HN be bA aK Y bE bz cy;go_wp2_with (at_make;refine wpList_make_full w2 rfl _ _ 47 rfl w2.heap.size 125 i0 (.agg #[.int .i64 0,.slice none 0 0]) 2 underlying47 hi bv bD .i64 .i64 _ _ n rfl rfl rfl rfl (by rw [a7];omega) (by unfold maxLen;omega) (Xa _) ?_)
 intro w3 aj bZ;have a1:=(Below.refl w2.heap.size w2).grown bZ (Xa _) (fun k h=>by cases h);have aN:Ze3 w3 w2.heap.size n []:=ZqK aj;have bF:=bc.z.keep (Za (fun _=>True) a1) trivial (fun _ _=>trivial) (by omega);have aO:=Y4 aN;have bf:=Y4 bF;have al:=Y4 (ad.z.trans (a1.mono (by omega)));have b9:w2.heap.size<w3.heap.size:=aN.1;obtain ⟨L,hL⟩:=Xn w2.heap.size;rw [hL] at cg aO b9 ⊢;clear aj bZ a1 aN bF bc ad hi bv bD a7 hL;have bP:=Y4 (ZlK L 0 n n (some ⟨L,0,none⟩) w3 (fun _=>rfl) (Xa _) (by unfold maxLen;omega) (by omega));go_wp2_with fail;refine bP.z.mono ?_;rintro e w4 ⟨vk,rfl,ac,ai⟩;obtain ⟨pk,ck,rfl,bR,cs⟩:=ac.shape;rw [ZjN] at bR ac ⊢;have b0:=bf.z.keep (Za (fun _=>True) ai) trivial (fun _ _=>trivial) (by omega);have bi:=Y4 (aO.z.keep (Za (fun _=>True) ai) trivial);have bg:=Y4 ac;have ak:=Y4 (al.z.trans (ai.mono (by omega)));have cM:=ai.size;have bV:∀g,(Value.slice pk (cnt n) ck).ownBlock=some g->g<w4.heap.size:=fun g hg=>(World.ownsRow.lt ac g hg).2;have bL:=Y4 (Zj6 w.heap.size w.heap.size b l1 n false o1 w4 b0 (Xa _) ce.z (by omega) cD.z);clear ac ai b0 aO bf al bP bR cs;go_wp2_with fail;refine bL.z.mono ?_;rintro e w5 ⟨hs,l0,o0,H,rfl,hH,a0,aM,bd,bY,U⟩;have bJ:=Y4 (bi.z.keep U (show L≠w.heap.size by omega))
 have bC:Y5 (ZjI w3.heap.size w5 (.slice pk (cnt n) ck) (ZeF L 0 n n (cnt n))):=Y4 (by
  have h:=bg.z;refine ⟨h.1,?_⟩;rcases h.2 with h0|⟨g,cap',cn,hv,hg,hh,rest⟩
  ·exact .inl h0
  ·exact .inr ⟨g,cap',cn,hv,hg,by rw [U.block g (Xq.1 hh).1 (by omega)];exact hh,rest⟩)
 have cw:=U.size;have ab:=Y4 (ak.z.trans (U.below (by omega) (fun k hk=>by omega)));have bm:=Y4 a0;have E:=Y4 aM;have bS:=Y4 bd;have ba:=Y4 bY;have b8:=a0.1;clear U bg bi ak bL a0 aM bY;go_wp2_with fail;refine (Zkg _ w5).mono ?_;rintro e w6 ⟨rfl,bX,aV,J⟩;have a3:=Y4 bX;have aB:=Y4 aV;have bI:=Y4 (bJ.z.keep (Za (fun _=>True) J) trivial);have ct:=Y4 (bm.z.keep (Za (fun _=>True) J) trivial);have cq:Y5 (ZjI w3.heap.size w6 (.slice pk (cnt n) ck) (ZeF L 0 n n (cnt n))):=Y4 (Zdc (B:=0) bC.z J);have bw:=Y4 (ba.z.keep (Za (fun _=>True) J) trivial (fun _ _=>trivial) (by omega));have D:=Y4 (ab.z.trans (J.mono (by omega)));obtain ⟨tb,aU⟩:=Xn w5.heap.size;have b5:tb+1<w6.heap.size:=by rw [<- aU];exact (Xq.1 aV).1
 rw [aU] at a3 aB cw b8 ⊢;obtain ⟨q,hq⟩:=Xn (tb+1);rw [hq] at aB b5 ⊢;have cH:tb<q:=by omega
 clear bX aV J bJ bC bm ba ab aU hq;have c4:L<tb:=by omega
 have bT:Y5 (Zd7 (fun c=>c≠L/\c≠w.heap.size/\c≠q) w6 [] []):=Y4 ⟨rfl,fun i h=>by simp at h⟩;have bn:Y5 (DSt b n o0 l0 (min n (32*0)) [] l0 o0):=Y4 (by rw [XaY,Nat.min_zero];exact Zu4 E.z);have bb:Y5 (w6.heap[q]? = some (.cells #[.int .i64 (ZI 0 [])] 3 (0,0))):=aB;have br:Y5 (Kep (fun c=>c≠w.heap.size/\c≠q/\c≠L) w6 w6):=Y4 (Kep.refl _ _);have aG:Y5 (o0=false->HOk hs [] 0):=Y4 (fun _ k hk=>by omega);have aW:Y5 (l0.length<=1000000000):=Y4 (by have h1:=ZAZ E.z;have:=cF.z;omega);have cz:=Y4 (Xq.1 a3.z).1;have cQ:H<w6.heap.size:=by omega
 have cZ:cnt n<=65536:=by unfold cnt;omega
 clear ca;go_wp2_with fail
 go_loopw [29] (fun iv wr=>∃(i:Nat) (N:List (Int×Value)) (ps:List Zk) (l:Xu) (o:Bool),i<=cnt n/\iv=.int .i64 i/\Y5 (DSt b n o0 l0 (min n (32*i)) ps l o)/\Y5 (Rd w.heap.size wr w.heap.size l o)/\Y5 (wr.heap[q]? = some (.cells #[.int .i64 (ZI 0 ps)] 3 (0,0)))/\Y5 (Ze3 wr L n N)/\Y5 (Zd7 (fun c=>c≠L/\c≠w.heap.size/\c≠q) wr N ps)/\Y5 (Kep (fun c=>c≠w.heap.size/\c≠q/\c≠L) w6 wr)/\Y5 (o=false->HOk hs ps i)) (fun iv _=>cnt n - (intOf iv).toNat)
 case atStart=>exact ⟨0,[],[],l0,o0,by omega,rfl,bn,bw,bb,bI,bT,br,aG⟩
 case round =>
  obtain ⟨i,N,ps,l,o,hi,rfl,HD,HR,HQ,HP,HM,HK,I⟩:=hrel;clear bn bw bb bI bT br aG aB;have c6:w.heap.size≠q:=by omega
  have cU:w.heap.size≠L:=by omega
  by_cases af:i<cnt n
  ·have t1:decide ((i:Int)<(cnt n:Int))=true:=by simp;omega
   obtain ⟨gk,rfl,cS,b2,ag,_⟩:=cq.z.at_ (Zp5 L 0 n n (cnt n) i af);have cu:gk≠w.heap.size/\gk≠q/\gk≠L:=⟨by omega,fun e=>by have:=bV gk rfl;omega,by omega⟩;have a:=(HK.z.cell b2 cu i).trans ag;unfold ZuJ at a;rw [XL] at a;obtain ⟨mb,bu⟩:=Xn (min 32 (n - 32*i));obtain ⟨cc,bK⟩:=Xn (n - 32*i);rw [bu,bK] at a;have cV:32*i<n:=by unfold cnt at af;omega
   have cR:0<mb:=by omega
   have cT:32*i+mb<=n:=by omega
   have c5:mb<=cc:=by omega
   have bU:32*i+mb=min n (32*(i+1)):=by omega
   have A:=Zvy HD.z af I.z;obtain ⟨v0,s,t⟩:=HR.z;have f0:wr.cell? ⟨w.heap.size,0,none⟩=some v0:=by rw [cell_of_row wr _ 0 _ _ _ s];rfl
   obtain ⟨pv,cv,rfl,_,_⟩:=t.shape;obtain ⟨S0,bt⟩:=Xn l.length;rw [bt] at A f0;have cG:S0<=1000000000:=by have h1:=Zpe HD.z;have:=aW.z;omega
   have a6:Y5 (ISt b n o0 l0 hs i S0 0 ps l o):=Y4 A;have cB:=Y4 bU;clear A s t ag bK bu bU HD I bt;go_wp2_with fail
   go_loopw [39] (fun jv wr=>∃(j:Nat) (N:List (Int×Value)) (ps:List Zk) (l:Xu) (o:Bool),j<=mb/\jv=.int .i64 j/\Y5 (ISt b n o0 l0 hs i S0 j ps l o)/\Y5 (Rd w.heap.size wr w.heap.size l o)/\Y5 (wr.heap[q]? = some (.cells #[.int .i64 (ZI 0 ps)] 3 (0,0)))/\Y5 (Ze3 wr L n N)/\Y5 (Zd7 (fun c=>c≠L/\c≠w.heap.size/\c≠q) wr N ps)/\Y5 (Kep (fun c=>c≠w.heap.size/\c≠q/\c≠L) w6 wr)) (fun jv _=>mb - (intOf jv).toNat)
   case atStart=>exact ⟨0,N,ps,l,o,by omega,rfl,a6,HR,HQ,HP,HM,HK⟩
   case round =>
    obtain ⟨j,N,ps,l,o,hj,rfl,O,HR,HQ,HP,HM,HK⟩:=hrel;clear a6
    by_cases cX:j<mb
    ·have t2:decide ((j:Int)<(mb:Int))=true:=by simp;omega
     have M:=O.z.1.2.1;have bj:N.length=32*i+j:=by rw [HM.z.1];exact M
     have bO:=O.z.1.2.2.1;have co:=O.z.1.2.2.2.1;have C:=Zpe O.z.1;have bs:=(HK.z.block tb cz.z ⟨by omega,by omega,by omega⟩).trans a3.z;have bH:=ZyO w.heap.size w.heap.size tb q l o (ZI 0 ps) wr HR.z (Xa _) bs (by omega) HQ.z (by omega) (by omega) (by omega) bO (by omega) (by have:=aW.z;omega);have bN:=Y4 bH;have bo:=Y4 bj;clear bH bj M bO co C bs a f0;go_wp2_with fail;refine bN.z.mono ?_;rintro e w8 ⟨d,qs,l',o',cA,rfl,bQ,aZ,a4,ap,az⟩;have A:=Zys O.z (by omega) bQ;have aX:=HP.z.keep az (show L≠w.heap.size/\L≠q from ⟨by omega,by omega⟩);have aT:N.length<n:=by rw [bo.z];omega
     have Z:=aX.next aT d cA;rw [bo.z] at Z;obtain ⟨pp,cp,rfl,_,_⟩:=(ZbU.irow ap).shape;have W:Kep (fun c=>c≠L) w8 (w8.setCells L ((32*i+j)*2) [.int .i64 d,.slice pp qs.length cp]):=Zvz (by simp) _ _
     have a5:IOn (fun c=>c≠L/\c≠w.heap.size/\c≠q) w8 (.slice pp qs.length cp) qs:=by
      rcases ap.2 with ⟨hv,h0⟩|⟨g8,cK,cJ,hv,cN,_⟩
      ·have:qs=[]:=XP h0;subst this;rw [hv];exact IOn.nil_ _ _
      ·have a8:=ZbU.ion ap;obtain ⟨p',c',ao,i1,i2,i3,i4⟩:=a8;refine ⟨p',c',ao,i1,i2,i3,?_⟩;rcases i4 with i4|⟨b',bW,a9,b1,_,cC⟩
       ·exact .inl i4
       ·refine .inr ⟨b',bW,a9,b1,?_,cC⟩;rw [hv] at ao;simp only [Value.slice.injEq] at ao;obtain ⟨e1,_,_⟩:=ao;rw [a9] at e1;simp only [Xx,Addr.mk.injEq] at e1;have c7:=HP.z.1;have cY:=(Xq.1 HQ.z).1;have cO:=HR.z.lt;rw [<- e1.1];exact ⟨by omega,by omega,by omega⟩
     have bG:=(HM.z.keep (T:=fun c=>c≠L/\c≠w.heap.size/\c≠q) (az.mono (fun c hc=>⟨hc.2.1,hc.2.2⟩)) (fun _ _ h=>h)).snoc (z:=d) a5;have aC:=bG.keep (T:=fun c=>c≠L/\c≠w.heap.size/\c≠q) (W.mono (fun c hc=>hc.1)) (fun _ _ h=>h);have ax:=(W.block q (Xq.1 a4).1 (by omega)).trans a4;have aq:=aZ.keep W (show w.heap.size≠L by omega) (fun k hk=>by omega) (by have:=aZ.lt;omega);have aD:=(HK.z.trans (az.mono (T:=fun c=>c≠w.heap.size/\c≠q/\c≠L) (fun c hc=>⟨hc.1,hc.2.1⟩))).trans (W.mono (T:=fun c=>c≠w.heap.size/\c≠q/\c≠L) (fun c hc=>hc.2.2));have au:=aX.2.1;obtain ⟨u0,c0⟩:=Xbt.1 (au ((32*i+j)*2) (by omega)).1;have c1:=(au ((32*i+j)*2) (by omega)).2;have R:=World.there_setCells au L ((32*i+j)*2) [.int .i64 d];obtain ⟨u1,c2⟩:=Xbt.1 (R ((32*i+j)*2+1) (by omega)).1;have c3:=(R ((32*i+j)*2+1) (by omega)).2;have e2:w8.setCells L ((32*i+j)*2) [.int .i64 d]=w8.setCell ⟨L,(32*i+j)*2,none⟩ (.int .i64 d):=rfl;have e3:w8.setCells L ((32*i+j)*2) [.int .i64 d,.slice pp qs.length cp]=(w8.setCell ⟨L,(32*i+j)*2,none⟩ (.int .i64 d)).setCell ⟨L,(32*i+j)*2+1,none⟩ (.slice pp qs.length cp):=rfl;rw [e2] at c2 c3;rw [e3] at Z aC ax aq aD;rw [XL] at c0 c1 c2 c3;have e4:(32*i+j)*2=64*i+j*2:=by omega
     rw [e4] at c0 c1 c2 c3 Z aC ax aq aD;have aH:((w8.setCell ⟨L,64*i+j*2,none⟩ (.int .i64 d)).setCell ⟨L,64*i+j*2+1,none⟩ (.slice pp qs.length cp)).heap[q]? = some (.cells #[.int .i64 (ZI 0 (ps++[(d,qs)]))] 3 (0,0)):=by rw [Zgi];exact ax
     have cf:=Y4 Z;have cl:=Y4 aC;have b7:=Y4 aH;have cx:=Y4 aq;have cr:=Y4 aD;have cd:=Y4 A;generalize qs.length=cL at *;clear bQ aZ a4 ap az A aX Z W a5 bG aC ax aH aq aD au R e2 e3 e4 O HR HQ HP HM HK bN;go_wp2_with fail;go_roundw
     case rel=>exact ⟨j+1,_,_,_,_,by omega,by go_num,cd,cx,b7,cf,cl,cr⟩
     case measure=>simp [intOf];omega
    ·obtain rfl:j=mb:=by omega
     have t2:decide ((j:Int)<(j:Int))=false:=by simp
     have X:=E.z;obtain ⟨⟨x,y⟩,hx⟩:∃h,hs[i]? = some h:=⟨_,XZ (by rw [X.1];exact af)⟩;obtain ⟨k1,k2⟩:=Zn2 hs i x y hx;have am:=ct.z.keep HK.z ⟨by omega,by omega,by omega⟩;have z0:=am.get k1;have z1:=am.get k2;obtain ⟨m1,aQ⟩:∃m,j=m+1:=⟨j - 1,by omega⟩;have M:=O.z.1.2.1;have aE:ps.length=(32*i+m1)+1:=by omega
     have ae:=Zyt aE;have c0:=HP.z.get HM.z (show 32*i+m1<ps.length by omega);obtain ⟨d,hd⟩:=Xn ((ps[32*i+m1]'(by omega)).1);rw [hd] at ae c0;rw [show (32*i+m1)*2=64*i+m1*2 by omega] at c0;have G:=ZA4 O.z X af cB.z hx ae;obtain ⟨v0,s,t⟩:=HR.z;have f1:wr.cell? ⟨w.heap.size,0,none⟩=some v0:=by rw [cell_of_row wr _ 0 _ _ _ s];rfl
     obtain ⟨cE,cb,rfl,_,_⟩:=t.shape;have C:=Zpe O.z.1;have cW:=aW.z;have e1:(j:Int) - 1=(m1:Int):=by omega
     have e2:IntKind.i64.wrap (m1:Int)=(m1:Int):=by rw [IntKind.wrap_i64];omega
     have cI:m1<j:=by omega
     obtain ⟨ln,u⟩:=Xn l.length;rw [u] at G f1 C;have e3:IntKind.i64.wrap ((S0:Int) - (ln:Int))=(S0:Int) - (ln:Int):=by rw [IntKind.wrap_i64];omega
     by_cases hm:(x:Int)=d/\(y:Int)=(S0:Int) - (ln:Int)
     ·obtain ⟨bp,bh⟩:=G.1 hm;have q1:((x:Int) == d)=true:=by rw [Xaj];exact hm.1
      have q2:((y:Int) == (S0:Int) - (ln:Int))=true:=by rw [Xaj];exact hm.2
      have ci:=Y4 bp;have b4:=Y4 bh;clear hm G bp bh s t X hx k1 k2 am M aE ae hd aQ u O C a f0;go_wp2_with fail;go_quiet (fail)
      go_wp2_with fail;go_roundw
      case rel=>exact ⟨i+1,N,ps,l,o,by omega,by go_num,ci,Y4 HR.z,Y4 HQ.z,Y4 HP.z,Y4 HM.z,Y4 (HK.z.drewN _),b4⟩
      case measure=>simp [intOf];omega
     ·have aP:=aw.z (G.2 hm);have HN:=Y4 aP;have f:=Y4 (D.z.trans (HK.z.below (by have:=D.z.size;omega) (fun k hk=>⟨by omega,by omega,by omega⟩)))
      by_cases aa:(x:Int)=d
      ·have q1:((x:Int) == d)=true:=by rw [Xaj];exact aa
       have q2:((y:Int) == (S0:Int) - (ln:Int))=false:=by rw [X6];exact fun e=>hm ⟨aa,e⟩
       clear hm G s t X hx k1 k2 am M aE ae hd aQ u O C a f0 aP aa;go_wp2_with fail;go_quiet (fail)
       go_wp2_with fail;go_ret2;rw [HN.z];exact ⟨_,rfl,POn.nil_ _ _,MM.below_drewN f.z _⟩
      ·have q1:((x:Int) == d)=false:=by rw [X6];exact aa
       clear hm G s t X hx k1 k2 am M aE ae hd aQ u O C a f0 aP aa;go_wp2_with fail;go_quiet (fail)
       go_wp2_with fail;go_ret2;rw [HN.z];exact ⟨_,rfl,POn.nil_ _ _,MM.below_drewN f.z _⟩
  ·obtain rfl:i=cnt n:=by omega
   have t1:decide ((cnt n:Int)<(cnt n:Int))=false:=by simp
   have hD:=HD.z;rw [show min n (32*cnt n)=n by unfold cnt;omega] at hD;have f:=Y4 (D.z.trans (HK.z.below (by have:=D.z.size;omega) (fun k hk=>⟨by omega,by omega,by omega⟩)));obtain ⟨v0,s,t⟩:=HR.z;have f0:wr.cell? ⟨w.heap.size,0,none⟩=some v0:=by rw [cell_of_row wr _ 0 _ _ _ s];rfl
   have f1:wr.cell? ⟨w.heap.size,1,none⟩=some (.bool o):=by rw [cell_of_row wr _ 1 _ _ _ s];rfl
   obtain ⟨cE,cb,rfl,_,_⟩:=t.shape;obtain ⟨ln,u⟩:=Xn l.length;rw [u] at f0;cases o with
   | true =>
     have HN:=Y4 (aw.z (ZtS hD (.inl rfl)));clear hD s t u HD I;go_wp2_with fail;go_ret2;rw [HN.z];exact ⟨_,rfl,POn.nil_ _ _,f.z⟩
   | false =>
     by_cases aS:ln=0
     ·have V:l=[]:=XP (by omega);have bq:=I.z rfl;rw [V] at hD
      have cm:o1=false:=by
       cases ho1:o1 with
       | false=>rfl
       | true =>
         have h0:=hD.1 (bS.z ho1);cases h0
      have aL:Dec b ps:=by
       rcases ch.z with e|e
       ·rw [cm] at e;cases e
       ·exact ZxD e E.z hD bq
      have HY:=Y4 (aI.z ps aL);have aT:N.length=n:=by rw [HM.z.1];exact hD.2.1
      have b6:=Y4 (HP.z.prow aT (by unfold maxLen;omega) HM.z);subst aS;clear hD s t u HD I aL bq V;go_wp2_with fail;go_ret2;rw [HY.z];exact ⟨_,rfl,b6.z,f.z⟩
     ·have HN:=Y4 (aw.z (ZtS hD (.inr (fun e=>aS (by rw [<- u,e];rfl)))));have s1:decide ((ln:Int)>0)=true:=Xt;have s2:0<ln:=by omega
      clear hD s t u HD I aS;go_wp2_with fail;go_ret2;rw [HN.z];exact ⟨_,rfl,POn.nil_ _ _,f.z⟩
