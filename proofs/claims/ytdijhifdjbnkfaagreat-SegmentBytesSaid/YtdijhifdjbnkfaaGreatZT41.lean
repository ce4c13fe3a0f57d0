import Derived.Test.YtdijhifdjbnkfaaGreatZT20
import Derived.Test.YtdijhifdjbnkfaaGreatZT6
set_option maxRecDepth 100000
set_option maxHeartbeats 0
set_option linter.unusedVariables false
set_option linter.unusedSimpArgs false
namespace Go.Proofs.YtdijhifdjbnkfaaGreat
open Lib (hid)
open Tryz
namespace PW
open RowKit MM PM VM
variable {B g:Nat} {w w1:World} {l:Xu} {o:Bool}
def Rd (B:Nat) (w:World) (g:Nat) (l:Xu) (o:Bool):Prop:=∃v,w.heap[g]? = some (.cells #[v,.bool o] 247 (0,0))/\Z3 B w v l
theorem Rd.lt (h:Rd B w g l o):g<w.heap.size:=by obtain ⟨v,h,_⟩:=h;exact (Xo.1 h).1
theorem Rd.keep {S:Nat->Prop} {w':World} (h:Rd B w g l o) (b:Kep S w w') (c:S g) (f:∀k,k<B->S k) (a:B<=w.heap.size):Rd B w' g l o:=by
 have d:=h.lt;obtain ⟨v,h,e⟩:=h;exact ⟨v,(b.block g d c).trans h,e.below (b.below a f)⟩
theorem ZxH (l:Xu):(∃n r,Zmh l=some (n,r)/\(Zk l).1=n/\(Zk l).2.2=0/\VG.Zab l=r/\n<18446744073709551616)\/(Zmh l=none/\(Zk l).2.2≠0/\VG.Zab l=[]/\(Zk l).1=0):=by
 have a:=ZaN l
 by_cases h:(Zk l).2.2=0
 ·refine .inl ⟨(Zk l).1,l.drop (Zk l).2.1,by unfold Zmh;rw [Xe h],rfl,h,by unfold VG.Zab;rw [Xe h],a.1⟩
 ·refine .inr ⟨by unfold Zmh;rw [Xa h],h,by unfold VG.Zab;rw [Xa h],?_⟩;rcases a.2.2.1 with e|e|e
  ·exact absurd e h
  ·rw [e]
  ·rw [e]
def ZiO (B g:Nat) (r:Nat×Xu×Bool) (w:World) (e:Ending) (w':World):Prop:=e=.returned (.int .i64 r.1)/\Rd B w' g r.2.1 r.2.2/\Kep (fun b=>b≠g) w w'
theorem Zgw {m:Xu} {v:Value} (h:Rd B w g l o) (b:Below w.heap.size w w1) (d:B<=g) (c:Z3 B w1 v m):Rd B (w1.setCell ⟨g,0,none⟩ v) g m o:=by
 obtain ⟨v0,h,_⟩:=h;have a:=(Xo.1 h).1;have e:=heap_setCell_same w1 g 0 _ _ v ((b.block g a).trans h);exact ⟨v,e,c.below ((Below.refl B w1).setCell (p:=⟨g,0,none⟩) d v)⟩
theorem ZyU (h:Rd B w g l o) (c:Below w.heap.size w w1):Rd B ((w1.setCell ⟨g,0,none⟩ (.slice none 0 0)).setCell ⟨g,1,none⟩ (.bool true)) g [] true:=by
 obtain ⟨v0,h,_⟩:=h;have a:=(Xo.1 h).1;have d:=heap_setCell_same w1 g 0 _ _ (.slice none 0 0) ((c.block g a).trans h);have b:=heap_setCell_same _ g 1 _ _ (.bool true) d;exact ⟨.slice none 0 0,b,Z3.nil_ _ _⟩
theorem ZaT (B g:Nat) (l:Xu) (o:Bool) (lo hi:Int) (w:World) (h:Rd B w g l o) (Z:B<=g) (h0:0<=lo) (h1:hi<=9223372036854775807) :
  Calls prog 167 #[.pointer (some ⟨g,0,none⟩),.int .i64 lo,.int .i64 hi] w (ZiO B g (Ze lo hi l o) w):=by
 have T:=hid h;have E:=h.lt;obtain ⟨v,u,G⟩:=h;have f0:w.cell? ⟨g,0,none⟩=some v:=by rw [cell_of_row w g 0 _ _ _ u];rfl
 have HC:=hid u;have k:=hid (VG.Zj0 B v l w G (Xam (Xbj Z E)))
 have C:∀w1,Below w.heap.size w w1->w1.cell? ⟨g,0,none⟩=some v/\w1.cell? ⟨g,1,none⟩=some (.bool o)/\w1.frozen? ⟨g,0,none⟩=false/\w1.frozen? ⟨g,1,none⟩=false:=fun w1 t=>by
  have:=(t.block g E).trans u;exact ⟨by rw [cell_of_row w1 g 0 _ _ _ this];rfl,by rw [cell_of_row w1 g 1 _ _ _ this];rfl,frozen_of_row w1 g 0 _ _ this,frozen_of_row w1 g 1 _ _ this⟩
 have I:=hid C;have X:Hid (∀w1,Below w.heap.size w w1->Kep (fun b=>b≠g) w w1):=hid (fun w1 t=>Za _ t)
 have m:∀w1,Below w.heap.size w w1->ZiO B g (0,[],true) w (.returned (.int .i64 ((0:Nat):Int))) ((w1.setCell ⟨g,0,none⟩ (.slice none 0 0)).setCell ⟨g,1,none⟩ (.bool true)):=fun w1 t =>
  ⟨rfl,ZyU T.out t,((X.out w1 t).trans (Zx (by simp) _)).trans (Zx (by simp) _)⟩
 have i:=hid m;rcases ZxH l with ⟨n,r,hs,z,q,y,hn⟩|⟨hs,q,y,z⟩
 ·rw [z,q,y] at k;obtain ⟨W,hW⟩:=Xn (IntKind.i64.wrap (n:Int))
  have x:((n:Int)<9223372036854775808/\W=(n:Int))\/(¬(n:Int)<9223372036854775808/\W<0):=by
   rw [<- hW,IntKind.wrap_i64];omega
  by_cases j:lo<=(n:Int)/\(n:Int)<=hi
  ·have d:ZaM lo hi l=some (n,r):=by unfold ZaM;rw [hs];exact Xe j
   rw [ZbV d];have F:W=(n:Int):=by omega
   have M:decide (W<lo)=false:=XB (by omega);have U:decide (W>hi)=false:=XB (by omega);rw [F] at hW M U;have HV:=hid (fun w1 A (t:Below w.heap.size w w1) (f:Z3 B w1 A r)=>Zgw T.out t Z f);clear G u C m i hs z q y x j d F;go_enter func167,ntmps167;go_wp2_with fail;refine k.out.mono ?_;rintro e w1 ⟨A,rfl,f,a⟩;obtain ⟨O,N,J,S⟩:=I.out w1 a;have R:=hid a;have L:=hid (HV.out w1 A a f);have Y:A.oneCell'=true:=by obtain ⟨p,c,rfl,_⟩:=f;rfl
   obtain ⟨p1,c1,rfl,_⟩:=Z3.shape f;clear f a HV k;go_wp2_with fail;go_ret;exact ⟨rfl,L.out,(X.out w1 R.out).trans (Zx (by simp) _)⟩
  ·have d:ZaM lo hi l=none:=by unfold ZaM;rw [hs];exact Xa j
   rw [Zav d]
   by_cases s:W<lo
   ·have M:decide (W<lo)=true:=Xw s;clear G u C m hs z q y x j d s;go_enter func167,ntmps167;go_wp2_with fail;refine k.out.mono ?_;rintro e w1 ⟨A,rfl,f,a⟩;obtain ⟨O,N,J,S⟩:=I.out w1 a;have D:=hid (i.out w1 a);clear f a k i;go_wp2_with fail;go_ret;exact D.out
   ·have M:decide (W<lo)=false:=XB s;have U:decide (W>hi)=true:=Xw (by omega);clear G u C m hs z q y x j d s;go_enter func167,ntmps167;go_wp2_with fail;refine k.out.mono ?_;rintro e w1 ⟨A,rfl,f,a⟩;obtain ⟨O,N,J,S⟩:=I.out w1 a;have D:=hid (i.out w1 a);clear f a k i;go_wp2_with fail;go_ret;exact D.out
 ·have d:ZaM lo hi l=none:=by unfold ZaM;rw [hs]
  rw [Zav d];rw [z,y] at k;obtain ⟨V,H⟩:=Xn ((Zk l).2.2);rw [H] at k q;have t0:(V != 0)=true:=by rw [Xaa];exact q
  have aa:(V == 0)=false:=by rw [Xab];exact q
  clear G u C m hs z q y d H;go_enter func167,ntmps167;go_wp2_with fail;refine k.out.mono ?_;rintro e w1 ⟨A,rfl,f,a⟩;obtain ⟨O,N,J,S⟩:=I.out w1 a;have D:=hid (i.out w1 a);clear f a k i;go_wp2_with fail;go_ret;exact D.out
theorem ZkT (B g:Nat) (l:Xu) (o:Bool) (N a:Int) (w:World) (h:Rd B w g l o) (q:B<=g) (h0:0<=N) (h1:N<=1099511627776) (h2:0<=a) (h3:a<=1099511627776) :
  Calls prog 214 #[.pointer (some ⟨g,0,none⟩),.int .i64 N,.int .i64 a] w fun e w'=>e=.returned (.int .i64 (N+(Ze 0 (a - 1 - N) l o).1))/\Rd B w' g (Ze 0 (a - 1 - N) l o).2.1 (Ze 0 (a - 1 - N) l o).2.2/\Kep (fun b=>b≠g) w w':=by
 have c:=hid (ZaT B g l o 0 (a - 1 - N) w h q (by omega) (by omega));have d:=(Zc5 0 (a - 1 - N) l o).1;obtain ⟨R,f⟩:=Xn (Ze 0 (a - 1 - N) l o);rw [f] at c d ⊢;unfold ZiO at c;obtain ⟨n,l1,o1⟩:=R;dsimp only at c d ⊢;have m:(n:Int)<=1099511627776:=by omega
 clear h f d;go_enter func214,ntmps214;go_wp2_with fail;refine c.out.mono ?_;rintro e w1 ⟨rfl,j,i⟩;have k:=hid j;have p:=hid i;clear j i c;go_wp2_with fail;go_ret;exact ⟨rfl,k.out,p.out⟩
variable {e:TypeId} {w:World} {g n k:Nat} {zs:List Int}
theorem ZxR:(prog.info? 256).map (fun i=>(i.zero,i.size,i.bytes))=some (some (.agg #[.int .i64 0,.int .i64 0]),2,16):=by kernel_rfl
def ZeD (e:TypeId) (w:World) (g N:Nat) (zs:List Int):Prop:=g<w.heap.size/\∃a,w.heap[g]? = some (.cells a e)/\a.size=N/\zs.length<=N/\a.toList.take zs.length=zs.map (Value.int .i64)
theorem ZeD.next (h:ZeD e w g n zs) (hk:zs.length<n) (z:Int):ZeD e (w.setCell ⟨g,zs.length,none⟩ (.int .i64 z)) g n (zs++[z]):=by
 obtain ⟨f,a,b,d,h4,c⟩:=h;have:=heap_setCell_same w g zs.length _ _ (.int .i64 z) b;refine ⟨by simpa using f,_,this,by simp [d],by simp;omega,?_⟩;rw [Xd,Xaf,XG (by simp;omega)];simp only [Array.toList_setIfInBounds,XN,Xbs];rw [List.take_set_of_le (by omega),c];simp
theorem ZeD.cell (h:ZeD e w g n zs) (hk:k<n):(∃u,w.cell? ⟨g,k,none⟩=some u)/\w.frozen? ⟨g,k,none⟩=false:=by
 obtain ⟨h1,b,a,h3,h4,h5⟩:=h;exact ⟨by rw [cell_of_row w g k _ _ _ a];exact ⟨_,Array.getElem?_eq_getElem (by omega)⟩,frozen_of_row w g k _ _ a⟩
theorem ZeD.get (h:ZeD e w g n zs) {z:Int} (f:zs[k]? = some z):w.cell? ⟨g,k,none⟩=some (.int .i64 z):=by
 obtain ⟨h1,b,c,h3,h4,d⟩:=h;obtain ⟨a,rfl⟩:=Xal.1 f;rw [cell_of_row w g k _ _ _ c];have:=Xp (fun l=>l[k]?) d;simp only [List.getElem?_take,a,if_true,Xa1,XW a,Xai] at this;simpa using this
theorem ZeD.keep {S:Nat->Prop} {w':World} (h:ZeD e w g n zs) (c:Kep S w w') (d:S g):ZeD e w' g n zs:=by
 obtain ⟨b,a,i,f⟩:=h;exact ⟨XK b c.size,a,by rw [c.block g b d];exact i,f⟩
theorem Zqq {B:Nat} {d:List Value} (h:w.ownsRow B 256 2 (.slice (some ⟨g,0,none⟩) n n) n d):ZeD 256 w g (n*2) []:=by
 rcases h.2 with ⟨a,_⟩|⟨g',f,b,a,hb,c,hn,hm,hs,ht⟩
 ·cases a
 ·simp only [Value.slice.injEq,Xv,Addr.mk.injEq] at a;obtain ⟨⟨rfl,_⟩,_,rfl⟩:=a;exact ⟨(Xo.1 c).1,b,c,hs,by simp,by simp⟩
def ZeP (hs:List (Nat×Nat)):List Int:=hs.flatMap fun h=>[(h.1:Int),(h.2:Int)]
theorem ZuG (hs:List (Nat×Nat)):(ZeP hs).length=hs.length*2:=by
 induction hs with
 | nil=>rfl
 | cons t a ih =>
   have e:ZeP (t::a)=[(t.1:Int),(t.2:Int)]++ZeP a:=rfl;rw [e,Xd,ih,Xh];simp;omega
theorem Zr7 (hs:List (Nat×Nat)) (x y:Nat):ZeP (hs++[(x,y)])=ZeP hs++[(x:Int)]++[(y:Int)]:=by simp [ZeP]
theorem ZnV:∀(hs:List (Nat×Nat)) (i:Nat) (x y:Nat),hs[i]? = some (x,y)->(ZeP hs)[i*2]? = some (x:Int)/\(ZeP hs)[i*2+1]? = some (y:Int)
 | [],i,x,y,h=>by simp at h
 | t::ts,0,x,y,h=>by
   simp only [XX,Xv] at h;subst h;exact ⟨rfl,rfl⟩
 | t::ts,i+1,x,y,h=>by
   have:=ZnV ts i x y (by simpa using h);have e:ZeP (t::ts)=(t.1:Int)::(t.2:Int)::ZeP ts:=rfl;rw [e,show (i+1)*2=i*2+1+1 by omega];simpa using this
def ZhA (B g:Nat) (b:Xu) (n:Nat) (d o:Bool) (c:Xu) (w:World) (e:Ending) (w':World):Prop :=
 ∃hs l a H,e=.returned (.slice (some ⟨H,0,none⟩) (cnt n) (cnt n))/\w.heap.size<=H/\ZeD 256 w' H (cnt n*2) (ZeP hs)/\HSt b n o c (cnt n) hs l a/\(d=true->a=true)/\Rd B w' g l a/\Kep (fun b=>b≠g) w w'
theorem Zj1 (B g:Nat) (b l:Xu) (n:Nat) (W o:Bool) (w:World) (h:Rd B w g l o) (hB:B<=g) (hb:b.length<4611686018427387904) (hn:n<=1000000) (hc:HSt b n W l 0 [] l o) :
  Calls prog 169 #[.pointer (some ⟨g,0,none⟩),.int .i64 (cnt n)] w (ZhA B g b n o W l w):=by
 obtain ⟨i0,hi,V,S,N⟩:=info_parts ZxR;have ag:cnt n<=1000000:=by unfold cnt;omega
 have O:=hid (fun i hs p j (h:HSt b n W l i hs p j) (hi:i<cnt n)=>ZxO hb h hi);have ai:=h.lt;have HR:=hid h;have Y:Hid (HSt b n W l 0 [] l o):=hid hc;obtain ⟨c,H⟩:=Xn (cnt n);unfold ZhA;rw [H] at ag ⊢;simp only [H] at O;clear h hc hb hn H;go_enter func169,ntmps169;go_wp2_with (at_make;refine wpList_make_full w rfl _ _ 251 rfl w.heap.size 256 i0 (.agg #[.int .i64 0,.int .i64 0]) 2 underlying251 hi V S .i64 .i64 _ _ c rfl rfl rfl rfl (by rw [N];omega) (by unfold maxLen;omega) (Xc _) ?_)
 intro w2 m aa;have b2:=(Below.refl w.heap.size w).grown aa (Xc _) (fun k h=>by cases h);have T:Hid (ZeD 256 w2 w.heap.size (c*2) (ZeP [])):=hid (Zqq m);have X:=hid (HR.out.keep (Za (fun _=>True) b2) trivial (fun _ _=>trivial) (by omega));have ab:=hid (Za (fun b=>b≠g) b2);have HG:=hid (show w.heap.size≠g by omega);clear m aa b2 hi V S N HR;go_wp2_with fail
 go_loopw [11] (fun iv wr=>∃(i:Nat) (hs:List (Nat×Nat)) (p:Xu) (j:Bool),i<=c/\iv=.int .i64 i/\Hid (HSt b n W l i hs p j)/\Hid (o=true->j=true)/\Hid (ZeD 256 wr w.heap.size (c*2) (ZeP hs))/\Hid (Rd B wr g p j)/\Hid (Kep (fun b=>b≠g) w wr)) (fun iv _=>c - (intOf iv).toNat)
 case atStart=>exact ⟨0,[],l,o,by omega,rfl,Y,hid (fun e=>e),T,X,ab⟩
 case round =>
  obtain ⟨i,hs,p,j,hi,rfl,HC,M,HH,F,HK⟩:=hrel;clear Y T X ab
  by_cases ad:i<c
  ·have t1:decide ((i:Int)<(c:Int))=true:=by simp;omega
   have A:=O.out i hs p j HC.out ad;have a:=ZaT B g p j 0 9223372036854775807 wr F.out hB (by omega) (by omega);have L:=HC.out.1;have d:Hid (o=true->(Ze 0 9223372036854775807 (Ze 0 9223372036854775807 p j).2.1 (Ze 0 9223372036854775807 p j).2.2).2.2=true):=hid (fun e=>Zoh (Zoh (M.out e)));obtain ⟨R,hR⟩:=Xn (Ze 0 9223372036854775807 p j);rw [hR] at a A d;have s:=hid a;have f:=hid A;have U:(ZeP hs).length=i*2:=by rw [ZuG,L]
   have C:=hid U;clear a A hR L U;go_wp2_with fail;refine s.out.mono ?_;rintro e w3 ⟨rfl,h3,k3⟩;obtain ⟨x,l2,o2⟩:=R;dsimp only at h3 f d ⊢;have v:=HH.out.keep k3 HG.out;obtain ⟨⟨u0,f0⟩,f1⟩:=v.cell (k:=i*2) (by omega);have t:=v.next (by rw [C.out];omega) (x:Int);rw [C.out] at t;have G:Kep (fun b=>b≠w.heap.size) w3 (w3.setCell ⟨w.heap.size,i*2,none⟩ (.int .i64 (x:Int))):=Zx (by simp) _;have ac:Rd B (w3.setCell ⟨w.heap.size,i*2,none⟩ (.int .i64 (x:Int))) g l2 o2:=h3.keep G (Ne.symm HG.out) (fun k hk=>by omega) (by have:=h3.lt;omega);have a:=ZaT B g l2 o2 0 9223372036854775807 _ ac hB (by omega) (by omega);obtain ⟨R2,I⟩:=Xn (Ze 0 9223372036854775807 l2 o2);rw [I] at a f d;have q:=hid a;have Z:=hid t;have aj:w.heap.size<=w3.heap.size:=Xx HK.out.size k3.size;have J:=hid ((HK.out.trans k3).andThen G (fun k hk _=>by omega));clear h3 k3 v t G ac a I s HH F HK;go_wp2_with fail;refine q.out.mono ?_;rintro e w5 ⟨rfl,h5,k5⟩;obtain ⟨y,l3,o3⟩:=R2;dsimp only at h5 f d ⊢;have r:=Z.out.keep k5 HG.out;have D:(ZeP hs++[(x:Int)]).length=i*2+1:=by rw [Xd,C.out];rfl
   have g0:∃u,w5.cell? ⟨w.heap.size,i*2+1,none⟩=some u:=(r.cell (k:=i*2+1) (by omega)).1;obtain ⟨u1,g0⟩:=g0;have g1:=(r.cell (k:=i*2+1) (by omega)).2;have E:=r.next (by rw [D];omega) (y:Int);rw [D,<- Zr7] at E;have z:Kep (fun b=>b≠w.heap.size) w5 (w5.setCell ⟨w.heap.size,i*2+1,none⟩ (.int .i64 (y:Int))):=Zx (by simp) _;have ae:Hid (Rd B (w5.setCell ⟨w.heap.size,i*2+1,none⟩ (.int .i64 (y:Int))) g l3 o3):=hid (h5.keep z (Ne.symm HG.out) (fun k hk=>by omega) (by have:=h5.lt;omega));have ah:=hid E;have af:=hid ((J.out.trans k5).andThen z (fun k hk _=>by omega));clear h5 k5 r D E z q Z J;go_wp2_with fail;go_roundw
   case rel=>exact ⟨i+1,_,_,_,by omega,by go_num,f,d,ah,ae,af⟩
   case measure=>simp [intOf];omega
  ·obtain rfl:i=c:=by omega
   have t1:decide ((i:Int)<(i:Int))=false:=by simp
   go_wp2_with fail;go_ret;exact ⟨hs,p,j,w.heap.size,rfl,Xc _,HH.out,HC.out,M.out,F.out,HK.out⟩
theorem Zpw {P:Program} (w:World) {o:Oper} {a:Act} {K:Act->World->Prop} {Q:Exit->Act->World->Prop} (l c:Operand) (t:TypeId) (d:o.op=Op.makeSlice t l c)
  (base:Nat) (e:TypeId) (i:TypeInfo) (z:Value) (size:Nat) (y:P.underlying t=some (.slice e)) (j:P.info? e=some i) (u:i.zero=some z) (p:i.size=size)
  (f g:IntKind) (n:Nat) (m:a.eval l=.int f n) (h:a.eval c=.int g n) (v:i.bytes*n<=281474976710656) (k:n<=maxLen) (s:base<=w.heap.size)
  (r:∀w',w'.ownsRow base e size (.slice (some ⟨w.heap.size,0,none⟩) n n) n (madeCells z.cells (n*size)).toList->w.grownBy w' none->K (a.put o.dst (.slice (some ⟨w.heap.size,0,none⟩) n n)) w'):o.wp P a w K Q:=by
 obtain ⟨w',b,x,q⟩:=run_make_full (P:=P) w base t e i z size y j u p f g n v k s;unfold Oper.wp;simp [execOp,d,m,h,b,Result.andThen];exact r w' x q
theorem ZuV:(prog.info? 125).map (·.size)=some 2:=by kernel_rfl
def Zww (B g q:Nat) (N:Int) (l:Xu) (o:Bool) (w:World) (e:Ending) (w':World):Prop :=
 ∃d qs a c f,e=.returned (.agg #[.int .i64 d,f])/\PSt N l o d qs a c/\Rd B w' g a c/\w'.heap[q]? = some (.cells #[.int .i64 (d+1)] 3 (0,0))/\Ze3 w.heap.size w' f qs/\Kep (fun b=>b≠g/\b≠q) w w'
theorem Zyl (B g c q:Nat) (l:Xu) (o:Bool) (N:Int) (w:World) (h:Rd B w g l o) (hB:B<=g) (ht:w.heap[c]? = some (.cells #[.pointer (some ⟨g,0,none⟩)] 287 (0,0))) (bD:c≠g) (hq:w.heap[q]? = some (.cells #[.int .i64 N] 3 (0,0))) (br:q≠g) (a7:q≠c) (cd:B<=q) (h0:0<=N) (h1:N<=1000000) (hl:l.length<=1000000000) :
  Calls prog 213 #[.pointer (some ⟨c,0,none⟩),.pointer (some ⟨q,0,none⟩)] w (Zww B g q N l o w):=by
 obtain ⟨i0,hi,aY,a9,a8⟩:=info_parts Zgi;have aI:=(Xo.1 ht).1;have aF:=(Xo.1 hq).1;have bn:=h.lt;have D:Below w.heap.size w (w.alloc (.cells #[.int .i64 0,.slice none 0 0] 125)):=(Below.refl _ _).alloc (Xc _) _;obtain ⟨W1,ac⟩:=Xn (w.alloc (.cells #[.int .i64 0,.slice none 0 0] 125));have a2:W1.heap[w.heap.size]? = some (.cells #[.int .i64 0,.slice none 0 0] 125):=by rw [<- ac];exact heap_alloc_new _ _
 have bl:w.heap.size+1=W1.heap.size:=by rw [<- ac];simp
 rw [ac] at D;have bi:=h.keep (Za (fun _=>True) D) trivial (fun _ _=>trivial) (by omega);have aq:=(D.block c aI).trans ht;have aN:=(D.block q aF).trans hq;have a:=ZkT B g l o N 65536 W1 bi hB h0 (by omega) (by omega) (by omega);rw [show (65536:Int) - 1 - N=65535 - N by omega] at a;obtain ⟨V,hr⟩:=Xn (Ze 0 (65535 - N) l o);have I:=Zvq h0 l o V _ hr rfl;rw [hr] at a;have t:=(Zc5 0 (65535 - N) l o).2;rw [hr] at t;obtain ⟨r2,a3⟩:=Xn (Ze 1 (min 1048576 (V.2.1.length:Int)) V.2.1 V.2.2);have i:=hid (fun W (hW:Rd B W g V.2.1 V.2.2)=>ZaT B g V.2.1 V.2.2 1 (min 1048576 (V.2.1.length:Int)) W hW hB (by omega) (by omega));rw [a3] at i I;obtain ⟨x,l1,o1⟩:=V;obtain ⟨m,l2,o2⟩:=r2;dsimp only at a I t i;unfold ZiO at i;dsimp only at i;obtain ⟨ap,hz,hm,ay⟩:=I;obtain ⟨d,hd⟩:=Xn (N+(x:Int));rw [hd] at a ap ay;have ba:N<=d:=by omega
 have bq:=hid ap;have HZ:=hid hz;have n:=hid a;have bJ:=hid ay;have bL:=hid ba;have cc:d<=1000000:=by omega
 have b9:0<=d:=by omega
 have f0:W1.cell? ⟨c,0,none⟩=some (.pointer (some ⟨g,0,none⟩)):=by rw [cell_of_row W1 c 0 _ _ _ aq];rfl
 have f1:W1.cell? ⟨q,0,none⟩=some (.int .i64 N):=by rw [cell_of_row W1 q 0 _ _ _ aN];rfl
 have bR:=hid aq;have bU:=hid aN;have bF:=hid a2;have bo:=hid D;have Z:=hid bD;have ab:=hid br;have bP:=hid a7;have a5:=hid aI;have aa:=hid aF;have C:=hid bn;have au:=hid bl;have ce:=hid ac;have bH:l1.length<=1000000000:=by omega
 clear h ht hq bi aq aN a2 D ap hz a hr a3 ay hd ba bD br a7 aI aF bn bl t;go_enter func213,ntmps213;go_wp2_with fail;refine n.out.mono ?_;rintro e w2 ⟨rfl,F,L⟩;have aO:=(L.block c (by have:=a5.out;have:=au.out;omega) Z.out).trans bR.out;have ae:=(L.block q (by have:=aa.out;have:=au.out;omega) ab.out).trans bU.out;have az:=(L.block w.heap.size (by have:=au.out;omega) (by have:=C.out;omega)).trans bF.out;have g0:w2.cell? ⟨q,0,none⟩=some (.int .i64 N):=by rw [cell_of_row w2 q 0 _ _ _ ae];rfl
 have g1:w2.frozen? ⟨q,0,none⟩=false:=frozen_of_row w2 q 0 _ _ ae;have aL:=heap_setCell_same w2 q 0 _ _ (.int .i64 (d+1)) ae;have y:Kep (fun b=>b≠q) w2 (w2.setCell ⟨q,0,none⟩ (.int .i64 (d+1))):=Zx (by simp) _;obtain ⟨W3,ar⟩:=Xn (w2.setCell ⟨q,0,none⟩ (.int .i64 (d+1)));rw [ar] at aL y;have bp:=(y.block c (Xo.1 aO).1 (Ne.symm bP.out)).trans aO;have bs:=(y.block w.heap.size (Xo.1 az).1 (by have:=aa.out;omega)).trans az;have bA:=F.keep y (Ne.symm ab.out) (fun k hk=>by omega) (by have:=F.lt;omega);have ah:Kep (fun b=>b≠g/\b≠q) W1 W3:=(L.mono (fun k hk=>hk.1)).andThen y (fun k _ hk=>hk.2);have bN:=hid ar;have aM:=hid aL;have Y:=hid bp;have ax:=hid bs;have aQ:=hid bA;have ak:=hid ah;clear F L aO ae az aL y bp bs bA ah f0 f1 n;have g2:W3.cell? ⟨c,0,none⟩=some (.pointer (some ⟨g,0,none⟩)):=by rw [cell_of_row W3 c 0 _ _ _ Y.out];rfl
 go_wp2_with fail;refine RK.ZaF (T:=fun b=>b≠g) [(0,true),(1,true),(2,true),(3,true),(4,false),(5,true),(6,true),(7,false),(8,false),(9,true)] (by kernel_rfl) (by kernel_rfl) rfl (by kernel_rfl) (fun _ _ d _ _ h=>by cases d<;>exact h) ?_;simp only [RK.Zy,XF,XV,XZ,X4,XX];obtain ⟨WD,aA⟩:=Xn W3.drew;rw [aA];have E:Kep (fun _=>True) W3 WD:=by rw [<- aA];exact Zcl _ _
 have aT:=(E.block c (Xo.1 Y.out).1 trivial).trans Y.out;have bw:=(E.block q (Xo.1 aM.out).1 trivial).trans aM.out;have aS:=(E.block w.heap.size (Xo.1 ax.out).1 trivial).trans ax.out;have bf:=aQ.out.keep E trivial (fun _ _=>trivial) (by have:=aQ.out.lt;omega);have aU:=ak.out.andThen (T:=fun _=>True) E (fun _ _ _=>trivial);have X:=hid aT;have aC:=hid bw;have aD:=hid aS;have aZ:=hid bf;have aE:=hid aU;clear aA E aT bw aS aU g2 g0 g1 Y aM ax aQ ak;have O:=(Xo.1 X.out).1;have f1:=fun W (hW:Kep (fun b=>b≠g) WD W)=>(hW.cell (b:=c) O Z.out 0).trans (show WD.cell? ⟨c,0,none⟩=some (.pointer (some ⟨g,0,none⟩)) by rw [cell_of_row WD c 0 _ _ _ X.out];rfl);obtain ⟨vr,bB,bg⟩:=bf;have f2:WD.cell? ⟨g,0,none⟩=some vr:=by rw [cell_of_row WD g 0 _ _ _ bB];rfl
 obtain ⟨pr,cr,rfl,b7,bb⟩:=bg.shape;unfold maxLen at bb;have al:(if (l1.length:Int)<1048576 then (l1.length:Int) else 1048576)=min 1048576 (l1.length:Int):=by split<;>omega
 have G:(if 1048576<(l1.length:Int) then 1048576 else (l1.length:Int))=min 1048576 (l1.length:Int):=by split<;>omega
 obtain ⟨MN,bv⟩:=Xn (min 1048576 (l1.length:Int));rw [bv] at al G i;clear bB bg;repeat ((first|(refine RK.take (by rfl) (by intro W hW;go_simp;with_reducible rfl) ?_)|(refine RK.skip (by rfl) ?_)|(refine RK.Zap (by rfl) ?_));simp only [Act.put,Xr,Xs,Xq])
 refine RK.alone (by rfl) (fun K hK => ?_);go_simp;refine hK.out _ _ (Kep.refl _ _) ?_;clear hK K;repeat ((first|(refine RK.take (by rfl) (by intro W hW;go_simp;with_reducible rfl) ?_)|(refine RK.skip (by rfl) ?_)|(refine RK.Zap (by rfl) ?_));simp only [Act.put,Xr,Xs,Xq])
 refine RK.alone (by rfl) (fun K hK => ?_);go_simp;refine (i.out WD aZ.out).mono ?_;rintro e H ⟨rfl,bu,af⟩;go_simp;refine hK.out _ _ af ?_;have aj:w.heap.size<=H.heap.size:=by have h1:=bo.out.size;have h2:=aE.out.size;have h3:=af.size;omega
 have aB:=hid bu;have f:=hid af;clear hK K f1 f2 bu af i;refine RK.alone (by rfl) (fun K hK => ?_);refine Zpw H _ _ 69 rfl w.heap.size 3 i0 (.int .i64 0) 1 underlying69 hi aY a9 .i64 .i64 m rfl rfl (by rw [a8];omega) (by unfold maxLen;omega) aj ?_;intro W6 U a1;have s:Below H.heap.size H W6:=(Below.refl _ _).grown a1 (Xc _) (fun k h=>by cases h);go_simp;refine hK.out _ _ (Za _ s) ?_;have aR:ZeC W6 H.heap.size m []:=ZkC U;have bt:=(s.block c (by have:=f.out.size;omega)).trans ((f.out.block c O Z.out).trans X.out);have ag:=(Xo.1 aC.out).1;have am:=(Xo.1 aD.out).1;have bC:=(s.block q (by have:=f.out.size;omega)).trans ((f.out.block q ag ab.out).trans aC.out);have bh:=(s.block w.heap.size (by have:=f.out.size;omega)).trans ((f.out.block w.heap.size am (by have:=C.out;omega)).trans aD.out);have a0:=aB.out.keep (Za (fun _=>True) s) trivial (fun _ _=>trivial) (by have:=aB.out.lt;omega);have ai:Kep (fun b=>b≠g/\b≠q) W1 W6:=(aE.out.trans (f.out.mono (fun k hk=>hk.1))).trans (Za _ s);have bY:w.heap.size<H.heap.size:=by have:=f.out.size;omega
 have a4:=hid bt;have bc:=hid bC;have bz:=hid bh;have bm:=hid a0;have aP:=hid aR;have a6:=hid ai;have bI:q<H.heap.size:=by have:=aa.out;omega
 have bQ:c<H.heap.size:=by have:=a5.out;omega
 have b6:g<H.heap.size:=by have:=C.out;omega
 clear hK K U a1 s bt bC bh a0 aR ai aB f X aC aD aZ aE O ag am hi aY a9 a8 al G bv b7 bb bH;repeat ((first|(refine RK.take (by rfl) (by intro W hW;go_simp;with_reducible rfl) ?_)|(refine RK.skip (by rfl) ?_)|(refine RK.Zap (by rfl) ?_));simp only [Act.put,Xr,Xs,Xq])
 refine RK.done ?_;clear ar bN;have bx:Hid (ZaV 0 []=0):=hid rfl;have J:Hid (Kep (fun b=>b≠g/\b≠H.heap.size) W6 W6):=hid (Kep.refl _ _);obtain ⟨P,hP⟩:=Xn H.heap.size;rw [hP] at bY aP bI bQ b6 J ⊢;clear hP aj;go_wp2_with fail
 go_loopw [5,23] (fun av iv wr=>∃(k:Nat) (A:Int) (qs:List Int) (lk:Xu) (ok:Bool),k<=m/\iv=.int .i64 k/\av=.int .i64 A/\0<=A/\A<=1048576+k/\Hid (ZaV 0 qs=A)/\Hid (QSt N l o d m k qs lk ok)/\Hid (m=0->ok=true/\lk=[]/\∀p r,¬Zcc N l p r)/\Hid (Rd B wr g lk ok)/\Hid (ZeC wr P m qs)/\Hid (Kep (fun b=>b≠g/\b≠P) W6 wr)) (fun _ iv _=>m - (intOf iv).toNat)
 case atStart=>exact ⟨0,0,[],l2,o2,by omega,rfl,rfl,by omega,by omega,bx,bq,HZ,bm,aP,J⟩
 case round =>
  obtain ⟨k,A,qs,lk,ok,hk,rfl,rfl,bG,cb,HL,HQ,bZ,HR,HH,HK⟩:=hrel;clear bx bq bm aP J;have bd:=(HK.out.block c (Xo.1 a4.out).1 ⟨Z.out,by omega⟩).trans a4.out
  by_cases an:k<m
  ·have t1:decide ((k:Int)<(m:Int))=true:=by simp;omega
   have f0:wr.cell? ⟨c,0,none⟩=some (.pointer (some ⟨g,0,none⟩)):=by rw [cell_of_row wr c 0 _ _ _ bd];rfl
   have a:=ZkT B g lk ok A 1048576 wr HR.out hB bG (by omega) (by omega) (by omega);rw [show (1048576:Int) - 1 - A=1048575 - A by omega] at a;have S:=ZyP HQ.out an;rw [HL.out] at S;have aH:=(Zc5 0 (1048575 - A) lk ok).1;obtain ⟨⟨x2,l3,o3⟩,F⟩:∃R,Ze 0 (1048575 - A) lk ok=R:=⟨_,rfl⟩;rw [F] at a S aH;dsimp only at a S aH;have b8:A+(x2:Int)+1<=1048576+(k+1:Nat):=by omega
   have ca:A+(x2:Int)<=3000000:=by omega
   have n:=hid a;have bW:=hid S;have u:=hid HQ.out.1;clear a S aH F bd;go_wp2_with fail;refine n.out.mono ?_;rintro e w7 ⟨rfl,aJ,ao⟩;have aG:=HH.out.keep ao (show P≠g by omega);obtain ⟨⟨u0,c0⟩,c1⟩:=aG.cell an;have ad:=aG.next (by rw [u.out];exact an) (A+(x2:Int));rw [u.out] at ad;have aK:Kep (fun b=>b≠P) w7 (w7.setCell ⟨P,k,none⟩ (.int .i64 (A+(x2:Int)))):=Zx (by simp) _;have bk:=aJ.keep aK (show g≠P by omega) (fun j hj=>by omega) (by have:=aJ.lt;omega);have c2:(w7.setCell ⟨P,k,none⟩ (.int .i64 (A+(x2:Int)))).cell? ⟨P,k,none⟩=some (.int .i64 (A+(x2:Int))):=ZeD.get (e:=3) ad (by rw [Xbt (by rw [u.out];omega),u.out,Xas];rfl);have aX:=(HK.out.trans (ao.mono (T:=fun b=>b≠g/\b≠P) (fun j hj=>hj.1))).trans (aK.mono (T:=fun b=>b≠g/\b≠P) (fun j hj=>hj.2));have bM:=hid ad;have bO:=hid bk;have bE:=hid aX;have bS:Hid (ZaV 0 (qs++[A+(x2:Int)])=A+(x2:Int)+1):=hid (Zgl _ _ _);clear aJ ao aG ad aK bk aX n HL HQ HR HH HK f0;go_wp2_with fail;go_roundw
   case rel=>exact ⟨k+1,A+(x2:Int)+1,_,_,_,by omega,by go_num,rfl,by omega,b8,bS,bW,hid (fun e=>by omega),bO,bM,bE⟩
   case measure=>simp [intOf];omega
  ·obtain rfl:k=m:=by omega
   have t1:decide ((k:Int)<(k:Int))=false:=by simp
   have z:=(HK.out.block w.heap.size (Xo.1 bz.out).1 ⟨by have:=C.out;omega,by omega⟩).trans bz.out;have aw:=(HK.out.block q (Xo.1 bc.out).1 ⟨ab.out,by omega⟩).trans bc.out;have b0:wr.cell? ⟨w.heap.size,0,none⟩=some (.int .i64 0):=by rw [cell_of_row wr _ 0 _ _ _ z];rfl
   have b1:wr.cell? ⟨w.heap.size,1,none⟩=some (.slice none 0 0):=by rw [cell_of_row wr _ 1 _ _ _ z];rfl
   have b2:wr.frozen? ⟨w.heap.size,0,none⟩=false:=frozen_of_row wr _ 0 _ _ z;have b3:wr.frozen? ⟨w.heap.size,1,none⟩=false:=frozen_of_row wr _ 1 _ _ z;have n1:=heap_setCell_same wr w.heap.size 0 _ _ (.int .i64 d) z;have b4:(wr.setCell ⟨w.heap.size,0,none⟩ (.int .i64 d)).cell? ⟨w.heap.size,1,none⟩=some (.slice none 0 0):=by rw [cell_of_row _ _ 1 _ _ _ n1];rfl
   have b5:(wr.setCell ⟨w.heap.size,0,none⟩ (.int .i64 d)).frozen? ⟨w.heap.size,1,none⟩=false:=frozen_of_row _ _ 1 _ _ n1;have n2:=heap_setCell_same _ w.heap.size 1 _ _ (.slice (some ⟨P,0,none⟩) k k) n1;have M:Kep (fun b=>b≠w.heap.size) wr ((wr.setCell ⟨w.heap.size,0,none⟩ (.int .i64 d)).setCell ⟨w.heap.size,1,none⟩ (.slice (some ⟨P,0,none⟩) k k)):=(Zx (by simp) _).trans (Zx (by simp) _);have be:=HR.out.keep M (by have:=C.out;omega) (fun j hj=>by have:=C.out;omega) (by have:=HR.out.lt;omega);have aW:=(M.block q (Xo.1 aw).1 (by have:=aa.out;omega)).trans aw;have bj:=HH.out.keep M (show P≠w.heap.size by omega);have aV:=bj.own HQ.out.1 (by unfold maxLen;omega) (B:=w.heap.size) (by omega);have hp:=ZBd HQ.out bL.out bJ.out bZ.out;have i:=hid n2;have bK:=hid be;have bT:=hid aW;have bX:=hid aV;have HP:=hid hp
   have bV:Hid (Kep (fun b=>b≠g/\b≠q) w ((wr.setCell ⟨w.heap.size,0,none⟩ (.int .i64 d)).setCell ⟨w.heap.size,1,none⟩ (.slice (some ⟨P,0,none⟩) k k))):=hid (by
    have h1:=(Za (fun b=>b≠g/\b≠q) bo.out).trans a6.out;have h2:=h1.andThen HK.out (fun j hj hs=>⟨hs.1,by omega⟩);exact h2.andThen M (fun j hj _=>by omega))
   clear z aw n1 n2 M be aW bj aV hp HQ HR HH HK HL;go_wp2_with fail;refine bodyPost_ret (v:=.agg #[.int .i64 d,.slice (some ⟨P,0,none⟩) k k]) (results_cell_row rfl _ _ w.heap.size 125 _ (0,0) _ rfl i.out underlying125 rfl ZuV) rfl ⟨d,qs,lk,ok,_,rfl,HP.out,bK.out,bT.out,bX.out,bV.out⟩
variable {S:Nat->Prop} {w:World} {g n k:Nat}
theorem Zk2 (w:World) (a b:Obj):((w.alloc a).alloc b).heap[w.heap.size]? = some a/\((w.alloc a).alloc b).heap[w.heap.size+1]? = some b:=by
 have d:(w.alloc a).heap[w.heap.size]? = some a:=heap_alloc_new w a;have c:=heap_alloc_new (w.alloc a) b;have hs:(w.alloc a).heap.size=w.heap.size+1:=by simp
 rw [hs] at c;exact ⟨(((Below.refl _ (w.alloc a)).alloc (Xc _) b).block w.heap.size (by omega)).trans d,c⟩
theorem Zka (g:Nat) (w:World):Calls prog 170 #[.pointer (some ⟨g,0,none⟩)] w fun e w'=>e=.returned (.func (.func 213) #[] #[.pointer (some ⟨w.heap.size,0,none⟩),.pointer (some ⟨w.heap.size+1,0,none⟩)]) /\
  w'.heap[w.heap.size]? = some (.cells #[.pointer (some ⟨g,0,none⟩)] 287 (0,0))/\w'.heap[w.heap.size+1]? = some (.cells #[.int .i64 0] 3 (0,0))/\Below w.heap.size w w':=by
 have f:∀(fn:Fn) (first a:Array Value) (w:World),(Instr.makeFunc fn first a).run prog w=.ok (.func fn first a) w:=fun _ _ _ _=>rfl;have d:=Zk2 w (.cells #[.pointer (some ⟨g,0,none⟩)] 287) (.cells #[.int .i64 0] 3);have b:Below w.heap.size w ((w.alloc (.cells #[.pointer (some ⟨g,0,none⟩)] 287)).alloc (.cells #[.int .i64 0] 3)):=((Below.refl _ _).alloc (Xc _) _).alloc (by simp) _;have c:=hid d;have h:=hid b;clear d b;go_enter func170,ntmps170;go_wp2_with fail;go_ret;exact ⟨rfl,c.out.1,c.out.2,h.out⟩
theorem Ze7.prow {b:List (Int×Value)} {ps:List Zm} (h:Ze7 w g n b) (m:b.length=n) (l:n<=maxLen) (f:Zd9 S w b ps):Zbp w (.slice (some ⟨g,0,none⟩) n n) ps:=by
 obtain ⟨o,h3,c⟩:=h;have e:=f.1;refine ⟨some ⟨g,0,none⟩,n,b,by rw [<- e,m],by omega,l,(fun h=>by cases h),f.keep (Kep.refl _ _) (fun _ _ _=>trivial),.inr ⟨g,0,rfl,o,trivial,fun i hi => ?_⟩⟩;have a:=ZmQ b i hi;have j:=c _ _ a.1;have d:=c _ _ a.2;rw [<- Xav] at d;exact ⟨j,d⟩
theorem Ze7.get {b:List (Int×Value)} {ps:List Zm} (h:Ze7 w g n b) (c:Zd9 S w b ps) (f:k<ps.length):w.cell? ⟨g,k*2,none⟩=some (.int .i64 ps[k].1):=by
 obtain ⟨h2,h3,d⟩:=h;have e:=c.1;have a:=ZmQ b k (by omega);have:=d _ _ a.1;rw [XL] at this;rw [this,(c.2 k (by omega) f).1]
def ZAg (r:Option (List Zm)):List Zm×Int:=match r with
 | some ps=>(ps,0)
 | none=>([],80)
def ZzW (r:List Zm×Int) (w:World) (e:Ending) (w':World):Prop:=∃v,e=.returned (.tuple #[v,.int .i64 r.2])/\Zbp w' v r.1/\Below w.heap.size w w'
theorem Zx0 {ps:List Zm} (hk:ps.length=k+1):ZI 0 ps=(ps[k]'(by omega)).1+1:=by
 have e:ps=ps.take k++[ps[k]'(by omega)]:=by
  rw [<- XG (by omega),XM (by omega)]
 conv=>lhs;rw [e]
 exact Zgo _ _
theorem ZrV (v:Value) (b:Xu) (w:World) (hr:Zq w v b) (hb:b.length<=1000000000):Calls prog 112 #[v] w (ZzW (ZAg (ZoZ b)) w):=by
 obtain ⟨i0,hi,bc,bl,bk⟩:=info_parts ZxS;have ao:b.length<4611686018427387904:=by omega
 have av:Hid (ZgR b->ZAg (ZoZ b)=([],80)):=hid (fun h=>by rw [Zuo h];rfl);have aL:Hid (∀ps,Dec b ps->ZAg (ZoZ b)=(ps,0)):=hid (fun ps h=>by rw [ZnL ao h];rfl);obtain ⟨cX,aI⟩:=Xn (ZAg (ZoZ b));rw [aI] at av aL ⊢;obtain ⟨r,E⟩:=Xn (Ze 0 (min 65536 ((b.length / 3:Nat):Int)) b false);have aG:=ZuS ao r E;obtain ⟨p,aw,rfl,ch,cs⟩:=Z3.shape hr;unfold maxLen at cs;have ak:Below w.heap.size w (w.alloc (.cells #[.slice p b.length aw,.bool false] 247)):=(Below.refl _ _).alloc (Xc _) _;have aE:Rd w.heap.size (w.alloc (.cells #[.slice p b.length aw,.bool false] 247)) w.heap.size b false:=⟨_,heap_alloc_new _ _,Z3.below hr ak⟩;have aB:(w.alloc (.cells #[.slice p b.length aw,.bool false] 247)).heap.size=w.heap.size+1:=by simp
 obtain ⟨nb,aR⟩:=Xn b.length;have cw:=hid aR;rw [aR] at ak aE aB E hb ch ⊢;obtain ⟨W1,a0⟩:=Xn (w.alloc (.cells #[.slice p nb aw,.bool false] 247));rw [a0] at ak aE aB;have hN:=ZaT w.heap.size w.heap.size b false 0 (min 65536 ((nb / 3:Nat):Int)) W1 aE (Xc _) (by omega) (by omega);rw [E] at hN;obtain ⟨n,l1,o1⟩:=r;unfold ZiO at hN;dsimp only at hN aG;obtain ⟨bB,hn,ca,bF⟩:=aG;obtain ⟨n3,bd⟩:∃k:Nat,nb / 3=k:=⟨_,rfl⟩;rw [bd] at hN;have bI:(nb:Int) / 3=(n3:Int):=by omega
 have cD:Int.tdiv (nb:Int) 3=(n3:Int):=by rw [Int.tdiv_eq_ediv_of_nonneg (by omega)];exact bI
 have aM:(if (n3:Int)<65536 then (n3:Int) else 65536)=min 65536 (n3:Int):=by split<;>omega
 have W:(if 65536<(n3:Int) then 65536 else (n3:Int))=min 65536 (n3:Int):=by split<;>omega
 obtain ⟨MN,bN⟩:=Xn (min 65536 (n3:Int));rw [bN] at hN aM W;have HN:=hid hN;have bA:=hid ak;have b8:=hid bB;have cj:=hid bF;have bg:=hid aB;have b3:=hid ao;have bZ:=hid a0;clear hN ak aE bB bF aB aI E hr aR ao bd a0;go_enter func112,ntmps112;go_wp2_with fail;rw [bZ.out];refine HN.out.mono ?_;rintro e w2 ⟨rfl,bY,aU⟩;have cC:w.heap.size<w2.heap.size:=by have:=bg.out;have:=aU.size;omega
 have af:Below w.heap.size w w2:=bA.out.trans (aU.below (by have:=bg.out;omega) (fun k hk=>by omega));have bq:=hid bY;have ad:=hid af;clear bY aU af HN bA bZ aM W bN bI cD;go_wp2_with (at_make;refine wpList_make_full w2 rfl _ _ 47 rfl w2.heap.size 125 i0 (.agg #[.int .i64 0,.slice none 0 0]) 2 underlying47 hi bc bl .i64 .i64 _ _ n rfl rfl rfl rfl (by rw [bk];omega) (by unfold maxLen;omega) (Xc _) ?_)
 intro w3 an bX;have a2:=(Below.refl w2.heap.size w2).grown bX (Xc _) (fun k h=>by cases h);have a1:Ze7 w3 w2.heap.size n []:=Zqp an;have bT:=bq.out.keep (Za (fun _=>True) a2) trivial (fun _ _=>trivial) (by omega);have a3:=hid a1;have bV:=hid bT;have V:=hid (ad.out.trans (a2.mono (by omega)));have b7:w2.heap.size<w3.heap.size:=a1.1;obtain ⟨L,hL⟩:=Xn w2.heap.size;rw [hL] at cC a3 b7 ⊢;clear an bX a2 a1 bT bq ad hi bc bl bk hL;have bP:=hid (ZlM L 0 n n (some ⟨L,0,none⟩) w3 (fun _=>rfl) (Xc _) (by unfold maxLen;omega) (by omega));go_wp2_with fail;refine bP.out.mono ?_;rintro e w4 ⟨vk,rfl,Y,ae⟩;obtain ⟨pk,ck,rfl,bf,b1⟩:=Y.shape;rw [ZjL] at bf Y ⊢;have bj:=bV.out.keep (Za (fun _=>True) ae) trivial (fun _ _=>trivial) (by omega);have bz:=hid (a3.out.keep (Za (fun _=>True) ae) trivial);have bG:=hid Y;have al:=hid (V.out.trans (ae.mono (by omega)));have cL:=ae.size;have ba:∀g,(Value.slice pk (cnt n) ck).ownBlock=some g->g<w4.heap.size:=fun g hg=>(World.ownsRow.lt Y g hg).2;have a9:=hid (Zj1 w.heap.size w.heap.size b l1 n false o1 w4 bj (Xc _) b3.out (by omega) b8.out);clear Y ae bj a3 bV V bP bf b1;go_wp2_with fail;refine a9.out.mono ?_;rintro e w5 ⟨hs,l0,o0,H,rfl,hH,aY,aK,b0,bM,am⟩;have a7:=hid (bz.out.keep am (show L≠w.heap.size by omega))
 have a8:Hid (ZjG w3.heap.size w5 (.slice pk (cnt n) ck) (ZeH L 0 n n (cnt n))):=hid (by
  have h:=bG.out;refine ⟨h.1,?_⟩;rcases h.2 with h0|⟨g,cap',cx,hv,hg,hh,rest⟩
  ·exact .inl h0
  ·exact .inr ⟨g,cap',cx,hv,hg,by rw [am.block g (Xo.1 hh).1 (by omega)];exact hh,rest⟩)
 have b6:=am.size;have ab:=hid (al.out.trans (am.below (by omega) (fun k hk=>by omega)));have bv:=hid aY;have F:=hid aK;have bt:=hid b0;have bu:=hid bM;have cg:=aY.1;clear am bG bz al a9 aY aK bM;go_wp2_with fail;refine (Zka _ w5).mono ?_;rintro e w6 ⟨rfl,bJ,a4,G⟩;have aQ:=hid bJ;have ay:=hid a4;have a5:=hid (a7.out.keep (Za (fun _=>True) G) trivial);have cq:=hid (bv.out.keep (Za (fun _=>True) G) trivial);have b2:Hid (ZjG w3.heap.size w6 (.slice pk (cnt n) ck) (ZeH L 0 n n (cnt n))):=hid (Zdf (B:=0) a8.out G);have bx:=hid (bu.out.keep (Za (fun _=>True) G) trivial (fun _ _=>trivial) (by omega));have D:=hid (ab.out.trans (G.mono (by omega)));obtain ⟨tb,aZ⟩:=Xn w5.heap.size;have cz:tb+1<w6.heap.size:=by rw [<- aZ];exact (Xo.1 a4).1
 rw [aZ] at aQ ay b6 cg ⊢;obtain ⟨q,hq⟩:=Xn (tb+1);rw [hq] at ay cz ⊢;have cJ:tb<q:=by omega
 clear bJ a4 G a7 a8 bv bu ab aZ hq;have cS:L<tb:=by omega
 have bC:Hid (Zd9 (fun c=>c≠L/\c≠w.heap.size/\c≠q) w6 [] []):=hid ⟨rfl,fun i h=>by simp at h⟩;have bi:Hid (DSt b n o0 l0 (min n (32*0)) [] l0 o0):=hid (by rw [XaY,Nat.min_zero];exact Zus F.out);have bD:Hid (w6.heap[q]? = some (.cells #[.int .i64 (ZI 0 [])] 3 (0,0))):=ay;have bn:Hid (Kep (fun c=>c≠w.heap.size/\c≠q/\c≠L) w6 w6):=hid (Kep.refl _ _);have aJ:Hid (o0=false->HOk hs [] 0):=hid (fun _ k hk=>by omega);have aS:Hid (l0.length<=1000000000):=hid (by have h1:=ZAC F.out;have:=cw.out;omega);have cd:=hid (Xo.1 aQ.out).1;have cY:H<w6.heap.size:=by omega
 have c4:cnt n<=65536:=by unfold cnt;omega
 clear ca;go_wp2_with fail
 go_loopw [29] (fun iv wr=>∃(i:Nat) (N:List (Int×Value)) (ps:List Zm) (l:Xu) (o:Bool),i<=cnt n/\iv=.int .i64 i/\Hid (DSt b n o0 l0 (min n (32*i)) ps l o)/\Hid (Rd w.heap.size wr w.heap.size l o)/\Hid (wr.heap[q]? = some (.cells #[.int .i64 (ZI 0 ps)] 3 (0,0)))/\Hid (Ze7 wr L n N)/\Hid (Zd9 (fun c=>c≠L/\c≠w.heap.size/\c≠q) wr N ps)/\Hid (Kep (fun c=>c≠w.heap.size/\c≠q/\c≠L) w6 wr)/\Hid (o=false->HOk hs ps i)) (fun iv _=>cnt n - (intOf iv).toNat)
 case atStart=>exact ⟨0,[],[],l0,o0,by omega,rfl,bi,bx,bD,a5,bC,bn,aJ⟩
 case round =>
  obtain ⟨i,N,ps,l,o,hi,rfl,HD,HR,HQ,HP,HM,HK,M⟩:=hrel;clear bi bx bD a5 bC bn aJ ay;have c7:w.heap.size≠q:=by omega
  have cP:w.heap.size≠L:=by omega
  by_cases U:i<cnt n
  ·have t1:decide ((i:Int)<(cnt n:Int))=true:=by simp;omega
   obtain ⟨gk,rfl,cR,cB,ag,_⟩:=b2.out.at_ (ZpL L 0 n n (cnt n) i U);have b4:gk≠w.heap.size/\gk≠q/\gk≠L:=⟨by omega,fun e=>by have:=ba gk rfl;omega,by omega⟩;have a:=(HK.out.cell cB b4 i).trans ag;unfold Zt8 at a;rw [XL] at a;obtain ⟨mb,bR⟩:=Xn (min 32 (n - 32*i));obtain ⟨cc,bs⟩:=Xn (n - 32*i);rw [bR,bs] at a;have cW:32*i<n:=by unfold cnt at U;omega
   have cM:0<mb:=by omega
   have c6:32*i+mb<=n:=by omega
   have cU:mb<=cc:=by omega
   have be:32*i+mb=min n (32*(i+1)):=by omega
   have C:=ZuY HD.out U M.out;obtain ⟨v0,s,t⟩:=HR.out;have f0:wr.cell? ⟨w.heap.size,0,none⟩=some v0:=by rw [cell_of_row wr _ 0 _ _ _ s];rfl
   obtain ⟨pv,cv,rfl,_,_⟩:=t.shape;obtain ⟨S0,bU⟩:=Xn l.length;rw [bU] at C f0;have cH:S0<=1000000000:=by have h1:=Zo3 HD.out;have:=aS.out;omega
   have bm:Hid (ISt b n o0 l0 hs i S0 0 ps l o):=hid C;have cE:=hid be;clear C s t ag bs bR be HD M bU;go_wp2_with fail
   go_loopw [39] (fun jv wr=>∃(j:Nat) (N:List (Int×Value)) (ps:List Zm) (l:Xu) (o:Bool),j<=mb/\jv=.int .i64 j/\Hid (ISt b n o0 l0 hs i S0 j ps l o)/\Hid (Rd w.heap.size wr w.heap.size l o)/\Hid (wr.heap[q]? = some (.cells #[.int .i64 (ZI 0 ps)] 3 (0,0)))/\Hid (Ze7 wr L n N)/\Hid (Zd9 (fun c=>c≠L/\c≠w.heap.size/\c≠q) wr N ps)/\Hid (Kep (fun c=>c≠w.heap.size/\c≠q/\c≠L) w6 wr)) (fun jv _=>mb - (intOf jv).toNat)
   case atStart=>exact ⟨0,N,ps,l,o,by omega,rfl,bm,HR,HQ,HP,HM,HK⟩
   case round =>
    obtain ⟨j,N,ps,l,o,hj,rfl,O,HR,HQ,HP,HM,HK⟩:=hrel;clear bm
    by_cases c5:j<mb
    ·have t2:decide ((j:Int)<(mb:Int))=true:=by simp;omega
     have J:=O.out.1.2.1;have bS:N.length=32*i+j:=by rw [HM.out.1];exact J
     have bw:=O.out.1.2.2.1;have cF:=O.out.1.2.2.2.1;have A:=Zo3 O.out.1;have bp:=(HK.out.block tb cd.out ⟨by omega,by omega,by omega⟩).trans aQ.out;have a6:=Zyl w.heap.size w.heap.size tb q l o (ZI 0 ps) wr HR.out (Xc _) bp (by omega) HQ.out (by omega) (by omega) (by omega) bw (by omega) (by have:=aS.out;omega);have bE:=hid a6;have bQ:=hid bS;clear a6 bS J bw cF A bp a f0;go_wp2_with fail;refine bE.out.mono ?_;rintro e w8 ⟨d,qs,l',o',ce,rfl,bo,aW,aN,ar,au⟩;have C:=ZxY O.out (by omega) bo;have aT:=HP.out.keep au (show L≠w.heap.size/\L≠q from ⟨by omega,by omega⟩);have aV:N.length<n:=by rw [bQ.out];omega
     have aa:=aT.next aV d ce;rw [bQ.out] at aa;obtain ⟨pp,cp,rfl,_,_⟩:=(Ze3.irow ar).shape;have ah:Kep (fun c=>c≠L) w8 (w8.setCells L ((32*i+j)*2) [.int .i64 d,.slice pp qs.length cp]):=ZuZ (by simp) _ _
     have br:IOn (fun c=>c≠L/\c≠w.heap.size/\c≠q) w8 (.slice pp qs.length cp) qs:=by
      rcases ar.2 with ⟨hv,h0⟩|⟨g8,cI,cG,hv,cV,_⟩
      ·have:qs=[]:=XO h0;subst this;rw [hv];exact IOn.nil_ _ _
      ·have bH:=Ze3.ion ar;obtain ⟨p',c',aD,i1,i2,i3,i4⟩:=bH;refine ⟨p',c',aD,i1,i2,i3,?_⟩;rcases i4 with i4|⟨b',bO,bW,cm,_,cl⟩
       ·exact .inl i4
       ·refine .inr ⟨b',bO,bW,cm,?_,cl⟩;rw [hv] at aD;simp only [Value.slice.injEq] at aD;obtain ⟨e1,_,_⟩:=aD;rw [bW] at e1;simp only [Xv,Addr.mk.injEq] at e1;have cO:=HP.out.1;have cN:=(Xo.1 HQ.out).1;have cT:=HR.out.lt;rw [<- e1.1];exact ⟨by omega,by omega,by omega⟩
     have bK:=(HM.out.keep (T:=fun c=>c≠L/\c≠w.heap.size/\c≠q) (au.mono (fun c hc=>⟨hc.2.1,hc.2.2⟩)) (fun _ _ h=>h)).snoc (z:=d) br;have az:=bK.keep (T:=fun c=>c≠L/\c≠w.heap.size/\c≠q) (ah.mono (fun c hc=>hc.1)) (fun _ _ h=>h);have aq:=(ah.block q (Xo.1 aN).1 (by omega)).trans aN;have aA:=aW.keep ah (show w.heap.size≠L by omega) (fun k hk=>by omega) (by have:=aW.lt;omega);have ap:=(HK.out.trans (au.mono (T:=fun c=>c≠w.heap.size/\c≠q/\c≠L) (fun c hc=>⟨hc.1,hc.2.1⟩))).trans (ah.mono (T:=fun c=>c≠w.heap.size/\c≠q/\c≠L) (fun c hc=>hc.2.2));have aC:=aT.2.1;obtain ⟨u0,c0⟩:=Xbr.1 (aC ((32*i+j)*2) (by omega)).1;have c1:=(aC ((32*i+j)*2) (by omega)).2;have Z:=World.there_setCells aC L ((32*i+j)*2) [.int .i64 d];obtain ⟨u1,c2⟩:=Xbr.1 (Z ((32*i+j)*2+1) (by omega)).1;have c3:=(Z ((32*i+j)*2+1) (by omega)).2;have e2:w8.setCells L ((32*i+j)*2) [.int .i64 d]=w8.setCell ⟨L,(32*i+j)*2,none⟩ (.int .i64 d):=rfl;have e3:w8.setCells L ((32*i+j)*2) [.int .i64 d,.slice pp qs.length cp]=(w8.setCell ⟨L,(32*i+j)*2,none⟩ (.int .i64 d)).setCell ⟨L,(32*i+j)*2+1,none⟩ (.slice pp qs.length cp):=rfl;rw [e2] at c2 c3;rw [e3] at aa az aq aA ap;rw [XL] at c0 c1 c2 c3;have e4:(32*i+j)*2=64*i+j*2:=by omega
     rw [e4] at c0 c1 c2 c3 aa az aq aA ap;have aF:((w8.setCell ⟨L,64*i+j*2,none⟩ (.int .i64 d)).setCell ⟨L,64*i+j*2+1,none⟩ (.slice pp qs.length cp)).heap[q]? = some (.cells #[.int .i64 (ZI 0 (ps++[(d,qs)]))] 3 (0,0)):=by rw [Zgo];exact aq
     have ci:=hid aa;have co:=hid az;have cn:=hid aF;have cb:=hid aA;have cr:=hid ap;have b5:=hid C;generalize qs.length=cZ at *;clear bo aW aN ar au C aT aa ah br bK az aq aF aA ap aC Z e2 e3 e4 O HR HQ HP HM HK bE;go_wp2_with fail;go_roundw
     case rel=>exact ⟨j+1,_,_,_,_,by omega,by go_num,b5,cb,cn,ci,co,cr⟩
     case measure=>simp [intOf];omega
    ·obtain rfl:j=mb:=by omega
     have t2:decide ((j:Int)<(j:Int))=false:=by simp
     have ai:=F.out;obtain ⟨⟨x,y⟩,hx⟩:∃h,hs[i]? = some h:=⟨_,XW (by rw [ai.1];exact U)⟩;obtain ⟨k1,k2⟩:=ZnV hs i x y hx;have X:=cq.out.keep HK.out ⟨by omega,by omega,by omega⟩;have z0:=X.get k1;have z1:=X.get k2;obtain ⟨m1,aX⟩:∃m,j=m+1:=⟨j - 1,by omega⟩;have J:=O.out.1.2.1;have ax:ps.length=(32*i+m1)+1:=by omega
     have aj:=Zx0 ax;have c0:=HP.out.get HM.out (show 32*i+m1<ps.length by omega);obtain ⟨d,hd⟩:=Xn ((ps[32*i+m1]'(by omega)).1);rw [hd] at aj c0;rw [show (32*i+m1)*2=64*i+m1*2 by omega] at c0;have I:=ZAH O.out ai U cE.out hx aj;obtain ⟨v0,s,t⟩:=HR.out;have f1:wr.cell? ⟨w.heap.size,0,none⟩=some v0:=by rw [cell_of_row wr _ 0 _ _ _ s];rfl
     obtain ⟨b9,cy,rfl,_,_⟩:=t.shape;have A:=Zo3 O.out.1;have cQ:=aS.out;have e1:(j:Int) - 1=(m1:Int):=by omega
     have e2:IntKind.i64.wrap (m1:Int)=(m1:Int):=by rw [IntKind.wrap_i64];omega
     have cK:m1<j:=by omega
     obtain ⟨ln,u⟩:=Xn l.length;rw [u] at I f1 A;have e3:IntKind.i64.wrap ((S0:Int) - (ln:Int))=(S0:Int) - (ln:Int):=by rw [IntKind.wrap_i64];omega
     by_cases hm:(x:Int)=d/\(y:Int)=(S0:Int) - (ln:Int)
     ·obtain ⟨bb,bh⟩:=I.1 hm;have q1:((x:Int) == d)=true:=by rw [Xan];exact hm.1
      have q2:((y:Int) == (S0:Int) - (ln:Int))=true:=by rw [Xan];exact hm.2
      have cf:=hid bb;have ct:=hid bh;clear hm I bb bh s t ai hx k1 k2 X J ax aj hd aX u O A a f0;go_wp2_with fail;go_quiet (fail)
      go_wp2_with fail;go_roundw
      case rel=>exact ⟨i+1,N,ps,l,o,by omega,by go_num,cf,hid HR.out,hid HQ.out,hid HP.out,hid HM.out,hid (HK.out.drewN _),ct⟩
      case measure=>simp [intOf];omega
     ·have aO:=av.out (I.2 hm);have HN:=hid aO;have f:=hid (D.out.trans (HK.out.below (by have:=D.out.size;omega) (fun k hk=>⟨by omega,by omega,by omega⟩)))
      by_cases ac:(x:Int)=d
      ·have q1:((x:Int) == d)=true:=by rw [Xan];exact ac
       have q2:((y:Int) == (S0:Int) - (ln:Int))=false:=by rw [Xab];exact fun e=>hm ⟨ac,e⟩
       clear hm I s t ai hx k1 k2 X J ax aj hd aX u O A a f0 aO ac;go_wp2_with fail;go_quiet (fail)
       go_wp2_with fail;go_ret2;rw [HN.out];exact ⟨_,rfl,POn.nil_ _ _,MM.below_drewN f.out _⟩
      ·have q1:((x:Int) == d)=false:=by rw [Xab];exact ac
       clear hm I s t ai hx k1 k2 X J ax aj hd aX u O A a f0 aO ac;go_wp2_with fail;go_quiet (fail)
       go_wp2_with fail;go_ret2;rw [HN.out];exact ⟨_,rfl,POn.nil_ _ _,MM.below_drewN f.out _⟩
  ·obtain rfl:i=cnt n:=by omega
   have t1:decide ((cnt n:Int)<(cnt n:Int))=false:=by simp
   have hD:=HD.out;rw [show min n (32*cnt n)=n by unfold cnt;omega] at hD;have f:=hid (D.out.trans (HK.out.below (by have:=D.out.size;omega) (fun k hk=>⟨by omega,by omega,by omega⟩)));obtain ⟨v0,s,t⟩:=HR.out;have f0:wr.cell? ⟨w.heap.size,0,none⟩=some v0:=by rw [cell_of_row wr _ 0 _ _ _ s];rfl
   have f1:wr.cell? ⟨w.heap.size,1,none⟩=some (.bool o):=by rw [cell_of_row wr _ 1 _ _ _ s];rfl
   obtain ⟨b9,cy,rfl,_,_⟩:=t.shape;obtain ⟨ln,u⟩:=Xn l.length;rw [u] at f0;cases o with
   | true =>
     have HN:=hid (av.out (Zth hD (.inl rfl)));clear hD s t u HD M;go_wp2_with fail;go_ret2;rw [HN.out];exact ⟨_,rfl,POn.nil_ _ _,f.out⟩
   | false =>
     by_cases aP:ln=0
     ·have R:l=[]:=XO (by omega);have bL:=M.out rfl;rw [R] at hD
      have cA:o1=false:=by
       cases ho1:o1 with
       | false=>rfl
       | true =>
         have h0:=hD.1 (bt.out ho1);cases h0
      have aH:Dec b ps:=by
       rcases cj.out with e|e
       ·rw [cA] at e;cases e
       ·exact Zw9 e F.out hD bL
      have HY:=hid (aL.out ps aH);have aV:N.length=n:=by rw [HM.out.1];exact hD.2.1
      have cu:=hid (HP.out.prow aV (by unfold maxLen;omega) HM.out);subst aP;clear hD s t u HD M aH bL R;go_wp2_with fail;go_ret2;rw [HY.out];exact ⟨_,rfl,cu.out,f.out⟩
     ·have HN:=hid (av.out (Zth hD (.inr (fun e=>aP (by rw [<- u,e];rfl)))));have s1:decide ((ln:Int)>0)=true:=Xt;have s2:0<ln:=by omega
      clear hD s t u HD M aP;go_wp2_with fail;go_ret2;rw [HN.out];exact ⟨_,rfl,POn.nil_ _ _,f.out⟩
