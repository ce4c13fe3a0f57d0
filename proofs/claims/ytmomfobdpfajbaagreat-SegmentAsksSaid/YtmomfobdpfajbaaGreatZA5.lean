import Derived.Test.YtmomfobdpfajbaaGreatZA2
set_option maxRecDepth 100000
set_option maxHeartbeats 0
set_option linter.unusedVariables false
set_option linter.unusedSimpArgs false
namespace Go.Proofs.YtmomfobdpfajbaaGreat
open Tryz
namespace SG
open RowKit MM
def ZpR (b:Bool) (w:World) (e:Ending) (w':World):Prop:=e=.returned (.bool b)/\w=w'
theorem ZnZ (u v:Value) (b a:Xu) (w:World) (d:Zv w u b) (e:Zv w v a):Calls prog 50 #[u,v] w (ZpR (decide (b=a)) w):=by
 have h1:=BIn.conv d;have h2:=BIn.conv e;have c:=Zc3 b a;obtain ⟨p1,c1,rfl,_⟩:=d.shape;obtain ⟨p2,c2,rfl,_⟩:=e.shape;clear d e;cases hd:decide (b=a) with
 | true =>
   rw [hd] at c;have f:(b == a)=true:=by rw [Xaj];exact of_decide_eq_true hd
   clear hd;go_enter func50,ntmps50;go_wp2_with fail;go_ret;exact ⟨rfl,rfl⟩
 | false =>
   rw [hd] at c;have f:(b == a)=false:=by rw [X6];exact of_decide_eq_false hd
   clear hd;go_enter func50,ntmps50;go_wp2_with fail;go_ret;exact ⟨rfl,rfl⟩
theorem Zyd (u v:Value) (b a:Xu) (w:World) (d:Zv w u b) (c:Zv w v a):Calls prog 152 #[u,v] w (ZpR (decide (b.take a.length=a)) w):=by
 obtain ⟨p1,c1,rfl,o,f⟩:=d.shape;obtain ⟨p2,c2,rfl,_⟩:=c.shape;unfold maxLen at f
 by_cases h:a.length<=b.length
 ·have j:=ZnZ _ _ _ a w (BIn.take d a.length h) c;have n:decide ((b.length:Int)>=(a.length:Int))=true:=Xt;have k:decide ((a.length:Int)<=(b.length:Int))=true:=Xt;have l:decide (a.length<=b.length)=true:=Xs h;have i1:(a.length:Int)<=(c1:Int):=by omega
  have g:=Y4 j;obtain ⟨B,i⟩:=Xn (decide (b.take a.length=a));rw [i] at g ⊢;clear d c j h i;go_enter func152,ntmps152;go_wp2_with fail;refine g.z.mono ?_;rintro e w1 ⟨rfl,rfl⟩;go_wp2_with fail;go_ret;exact ⟨rfl,rfl⟩
 ·have e:decide (b.take a.length=a)=false:=by
   rw [Xj];intro m;have:=Xr List.length m;rw [Xi] at this;omega
  have n:decide ((b.length:Int)>=(a.length:Int))=false:=Xf;have k:decide ((a.length:Int)<=(b.length:Int))=false:=Xf;have l:decide (a.length<=b.length)=false:=Xz h;rw [e];clear d c h e;go_enter func152,ntmps152;go_wp2_with fail;go_ret;exact ⟨rfl,rfl⟩
def ZtG (B:Nat) (b a:Xu) (w:World) (e:Ending) (w':World):Prop:=∃u,e=.returned (.tuple #[u,.bool (decide (b.take a.length=a))])/\(b.take a.length=a->BIn B w' u (b.drop a.length))/\u.oneCell'=true/\w=w'
theorem Zxu (B:Nat) (u v:Value) (b a:Xu) (w:World) (d:BIn B w u b) (o:B<=w.heap.size) (f:Zv w v a):Calls prog 99 #[u,v] w (ZtG B b a w):=by
 have c:=Zyd u v b a w (d.row o) f;obtain ⟨p1,c1,rfl,p,i⟩:=d.shape;obtain ⟨p2,c2,rfl,_⟩:=f.shape;unfold maxLen at i;unfold ZtG
 by_cases h:b.take a.length=a
 ·rw [Xs h] at c ⊢
  have n:a.length<=b.length:=by
   have:=Xr List.length h;rw [Xi] at this;omega
  have g:=Y4 c;have k:=Y4 (BIn.drop3 d a.length n);have i1:(a.length:Int)<=(b.length:Int):=by omega
  have i2:(b.length:Int)<=(c1:Int):=by omega
  clear d f h c
  by_cases j:c1=a.length
  ·subst j;go_enter func99,ntmps99;go_wp2_with fail;refine g.z.mono ?_;rintro e l ⟨rfl,rfl⟩;go_wp2_with fail;go_ret2;exact ⟨_,rfl,fun _=>(by have h:=k.z.1 trivial;rw [show b.length - a.length=0 by omega] at h;exact h),rfl,rfl⟩
  ·go_enter func99,ntmps99;go_wp2_with fail;refine g.z.mono ?_;rintro e l ⟨rfl,rfl⟩;go_wp2_with fail;go_ret2;exact ⟨_,rfl,fun _=>k.z.2 j,rfl,rfl⟩
 ·rw [Xz h] at c ⊢;have g:=Y4 c;have m:=Y4 h;clear d f h c;go_enter func99,ntmps99;go_wp2_with fail;refine g.z.mono ?_;rintro e l ⟨rfl,rfl⟩;go_wp2_with fail;go_ret2;exact ⟨_,rfl,fun h=>absurd h m.z,rfl,rfl⟩
end SG
namespace CR
open RowKit MM CM
def Told (n:Nat) (w:World) (e:Ending) (w':World):Prop:=e=.returned (.int .u32 n)/\Below w.heap.size w w'
theorem Zut (v:Value) (a:List Xu) (w:World) (b:Za7 w v a):Calls prog 155 #[v] w (Told (ZaU a.flatten) w):=by
 have h:=Zbs 0 v a w (by omega) b;unfold ZaU Told;generalize ZI 0 a.flatten=F at *;have H:=Y4 h;clear h b;go_enter func155,ntmps155;go_wp2_with fail;refine H.z.mono ?_;rintro e w1 ⟨rfl,c⟩;go_wp2_with fail;go_ret;exact ⟨rfl,c⟩
theorem Zwa (s:Nat) (v:Value) (l:Xu) (w:World) (hs:s<4294967296) (x:Zv w v l) :
  Calls prog 162 #[.int .u32 s,v] w fun e w'=>e=.returned (.int .u32 (ZI s l))/\w=w':=by
 obtain ⟨p,M,rfl,H,A⟩:=x.shape;unfold maxLen at A;obtain ⟨r,d⟩:=Xn (run (Zkb s) l);have b:Y5 (ZI s l=Zkb r):=Y4 (by unfold ZI;rw [d]);have h:Y5 (run (Zkb s) (l.drop 0++[])=r):=Y4 (by rw [XH];exact d);obtain ⟨F,k⟩:=Xn (ZI s l);rw [k];rw [k] at b;have J:=Y4 x;clear d x k;have hu:=ZjD;have D:=Zjm hs;have o:=Zpn s;go_enter func162,ntmps162;go_wp2_with fail
 go_loop [0,5] (fun s i=>∃j m:Nat,j<=l.length/\i=.int .i64 j/\s=.int .u32 m/\m<4294967296/\Y5 (run m (l.drop j++[])=r)) (fun _ i=>l.length - (intOf i).toNat)
 case atStart=>exact ⟨0,Zkb s,by omega,rfl,rfl,o,h⟩
 case round =>
  obtain ⟨j,n,hj,rfl,rfl,f,u⟩:=hrel;clear h D o hs
  by_cases t:j<l.length
  ·obtain ⟨b2,C,rfl,B,a⟩:=J.z.at_ t;have g:=ZrB t u.z;generalize l[j]=c at g a;have q:=ZCF n c w f;have y:=ZyV f c.toNat_lt;generalize onB n c.toNat=I at *;have E:=Y4 g;have z:=Y4 q;have G:=c.toNat_lt;clear g u q;go_wp2_with fail;refine z.z.mono ?_;rintro e w1 ⟨rfl,rfl⟩;go_wp2_with fail
   go_round
   case rel=>exact ⟨j+1,I,by omega,by go_num,rfl,y,E⟩
   case measure=>simp [intOf];omega
  ·obtain rfl:j=l.length:=by omega
   have g:=u.z;rw [Xaf] at g;have L:n=r:=g;subst L;have D:=Zjm f;clear g u;go_wp2_with fail;have k:=b.z;subst k;go_ret;exact ⟨rfl,rfl⟩
theorem Zlm (v:Value) (l:Xu) (w:World) (a:Zv w v l):Calls prog 108 #[v] w fun e w'=>e=.returned (.int .u32 (ZaU l))/\w=w':=by
 have h:=Zwa 0 v l w (by omega) a;unfold ZaU;generalize ZI 0 l=F at *;have H:=Y4 h;clear h a;go_enter func108,ntmps108;go_wp2_with fail;refine H.z.mono ?_;rintro e w1 ⟨rfl,rfl⟩;go_wp2_with fail;go_ret;exact ⟨rfl,rfl⟩
end CR
namespace MM
open RowKit
variable {B n cap:Nat} {w w':World} {v:Value} {zs:List Int} {p:Option Addr}
theorem Zgd:(prog.info? 3).map (fun i=>(i.zero,i.size,i.bytes))=some (some (.int .i64 0),1,8):=by kernel_rfl
def Zc6 (w:World) (v:Value) (zs:List Int):Prop:=Row w v (zs.map (Value.int .i64))
def ZbU (B:Nat) (w:World) (v:Value) (zs:List Int):Prop:=w.ownsRow B 3 1 v zs.length (zs.map (Value.int .i64))
theorem ZbU.irow (h:ZbU B w v zs):Zc6 w v zs:=Row.of_own h
theorem ZbU.keep (h:ZbU B w v zs) (a:Below w.heap.size w w'):ZbU B w' v zs:=Zdc (B:=0) h a
theorem ZbU.nil_ (B:Nat) (w:World):ZbU B w (.slice none 0 0) []:=World.ownsRow_nil _ _ _ _
theorem Zc6.below (h:Zc6 w v zs) (a:Below w.heap.size w w'):Zc6 w' v zs:=Row.below (B:=0) h a
theorem Zc6.shape (h:Zc6 w v zs):∃p cap,v=.slice p zs.length cap/\zs.length<=cap/\cap<=maxLen:=by
 obtain ⟨p,cap,b,a,c,_,_⟩:=h;rw [XF] at b a;exact ⟨p,cap,b,a,c⟩
theorem Zc6.at_ (h:Zc6 w (.slice p n cap) zs) {k:Nat} (c:k<zs.length) :
  ∃b off,p=some ⟨b,off,none⟩/\b<w.heap.size/\w.cell? ⟨b,off+k,none⟩=some (.int .i64 (zs.getD k 0)):=by
 obtain ⟨p',cap',d,_,_,_,h⟩:=h;simp only [Value.slice.injEq] at d;obtain ⟨rfl,_,_⟩:=d;rcases h with h|⟨b,off,f,a,e⟩
 ·have:zs=[]:=Xbf.1 h;subst this;simp at c
 ·exact ⟨b,off,f,a,e k _ (by simp [List.getD,c])⟩
theorem Zc6.take (h:Zc6 w (.slice p n cap) zs) (k:Nat) (a:k<=n):Zc6 w (.slice p k cap) (zs.take k):=by
 have:=ZaY.take h k a;rw [<- List.map_take] at this;exact this
theorem Zdj {ops:Array Oper} {rest:List Oper} {o:Oper} {a:Act} {Q:Exit->Act->World->Prop} (g:o.guard=none) (s x:Operand)
  (q:o.op=.call { callee:=.builtin .append,args:=#[s,x],argTypes:=#[69,69] }) (B:Nat) (v:Value) (zs:List Int) (d:World) (z:Int) (u:w=d.alloc (.cells #[.int .i64 z] 3)) (hs:a.eval s=v) (b:ZbU B d v zs)
  (t:a.eval x=.slice (some ⟨d.heap.size,0,none⟩) 1 1) (l:zs.length<=4398046511104) (c:B<=d.heap.size)
  (h:∀v' w',ZbU B w' v' (zs++[z])->Below B d w'->wpList prog ops Q rest (a.put o.dst v') w'):wpList prog ops Q (o::rest) a w:=by
 subst u;obtain ⟨i0,hi,e,f,i⟩:=info_parts Zgd;have j:∀k,v.ownBlock=some k->B<=k:=fun k m=>(World.ownsRow.lt b k m).1
 refine wpList_append_own _ g s x 69 q B 3 i0 (.int .i64 0) 1 8 underlying69 hi e f i rfl (by decide) v zs.length _ hs (World.ownsRow.alloc b _) ⟨d.heap.size,0,none⟩ 1 1 [.int .i64 z] t rfl (Zdw _ _ _) (ZhL _ _)
  (by unfold maxLen;omega) (by omega) (by simp;omega) (fun v' w' r y _=>h v' w' ?_ (ZbZ (Below.refl B d) c j y))
 unfold ZbU;rw [Xd,XM];exact r
end MM
namespace MM
open RowKit
variable {w w':World} {g:Nat} {a b:Value}
def Two (w:World) (g:Nat) (t:TypeId) (a b:Value):Prop:=w.heap[g]? = some (.cells #[a,b] t (0,0))
theorem Two.lt {t:TypeId} (h:Two w g t a b):g<w.heap.size:=(Xq.1 h).1
theorem Two.c0 {t:TypeId} (h:Two w g t a b):w.cell? ⟨g,0,none⟩=some a:=by rw [cell_of_row w g 0 _ _ _ h];rfl
theorem Two.c1 {t:TypeId} (h:Two w g t a b):w.cell? ⟨g,1,none⟩=some b:=by rw [cell_of_row w g 1 _ _ _ h];rfl
theorem Two.f0 {t:TypeId} (h:Two w g t a b):w.frozen? ⟨g,0,none⟩=false:=frozen_of_row w g 0 _ _ h
theorem Two.f1 {t:TypeId} (h:Two w g t a b):w.frozen? ⟨g,1,none⟩=false:=frozen_of_row w g 1 _ _ h
theorem Two.s0 {t:TypeId} (h:Two w g t a b) (x:Value):Two (w.setCell ⟨g,0,none⟩ x) g t x b:=heap_setCell_same w g 0 _ _ x h
theorem Two.s1 {t:TypeId} (h:Two w g t a b) (x:Value):Two (w.setCell ⟨g,1,none⟩ x) g t a x:=heap_setCell_same w g 1 _ _ x h
theorem Two.s01 {t:TypeId} (h:Two w g t a b) (x y:Value):Two ((w.setCell ⟨g,0,none⟩ x).setCell ⟨g,1,none⟩ y) g t x y:=(h.s0 x).s1 y
theorem Two.keep {S:Nat->Prop} {t:TypeId} (h:Two w g t a b) (c:Kep S w w') (e:S g):Two w' g t a b:=(c.block g h.lt e).trans h
theorem Two.below {B:Nat} {t:TypeId} (h:Two w g t a b) (c:Below B w w') (e:g<B):Two w' g t a b:=(c.block g e).trans h
theorem ZgA (w:World) (t:TypeId) (a b:Value):Two (w.alloc (.cells #[a,b] t)) w.heap.size t a b:=heap_alloc_new _ _
theorem Two.all {t:TypeId} (h:Two w g t a b) (x:Value) :
  w.cell? ⟨g,0,none⟩=some a/\w.cell? ⟨g,1,none⟩=some b/\w.frozen? ⟨g,0,none⟩=false/\w.frozen? ⟨g,1,none⟩=false/\(w.setCell ⟨g,0,none⟩ x).cell? ⟨g,1,none⟩=some b/\(w.setCell ⟨g,0,none⟩ x).frozen? ⟨g,1,none⟩=false :=
 ⟨h.c0,h.c1,h.f0,h.f1,(h.s0 x).c1,(h.s0 x).f1⟩
theorem ZbY {i:Nat} (x:Value):Kep (fun b=>b≠g) w (w.setCell ⟨g,i,none⟩ x):=Zy (fun h=>h rfl) x
theorem ZfP (x y:Value):Kep (fun b=>b≠g) w ((w.setCell ⟨g,0,none⟩ x).setCell ⟨g,1,none⟩ y):=(ZbY x).trans (ZbY y)
section
variable {P : Program} {fn : Func} {t : TypeId} {d : TypeDesc}
theorem Zjv {p:Tmp} (h:fn.results=#[.cell p t]) (i:P.underlying t=some d) (e:(match d with | .struct _ | .array _ _=>true|_=>false)=true) (hi:(P.info? t).map (·.size)=some 2) (tmps:Array Value) (w:World) (g:Nat) (a b:Value)
  (f:tmps.getD p undef=.pointer (some ⟨g,0,none⟩)) (k:Two w g t a b):(results fn tmps).run P w=.ok (.agg #[a,b]) w:=by
 have c:tmps[p]?.getD undef=.pointer (some ⟨g,0,none⟩):=by simpa using f
 have j:=run_loadVar_row (P:=P) w g t t _ (0,0) d k i e hi;simp [results,h,c,asAddr,j]
theorem Zgs {p u v:Tmp} (h:fn.results=#[.cell p t,.tmp u,.tmp v]) (i:P.underlying t=some d) (e:(match d with | .struct _ | .array _ _=>true|_=>false)=true) (hi:(P.info? t).map (·.size)=some 2) (tmps:Array Value) (w:World) (g:Nat) (a b:Value)
  (f:tmps.getD p undef=.pointer (some ⟨g,0,none⟩)) (k:Two w g t a b):(results fn tmps).run P w=.ok (.tuple #[.agg #[a,b],tmps.getD u undef,tmps.getD v undef]) w:=by
 have c:tmps[p]?.getD undef=.pointer (some ⟨g,0,none⟩):=by simpa using f
 have j:=run_loadVar_row (P:=P) w g t t _ (0,0) d k i e hi;simp [results,h,c,asAddr,j]
end
end MM
namespace BL
open RowKit MM BM
theorem ZoP (h:Int) (c:UInt8):IntKind.u64.wrap (bits .xor .u64 h (IntKind.u64.wrap (c.toNat:Int))*1099511628211)=ZrI h c:=by
 have:=c.toNat_lt;unfold ZrI;rw [show IntKind.u64.wrap (c.toNat:Int)=(c.toNat:Int) by rw [wrap_u64];omega]
theorem Zd1 (s:Xu) (w:World) (hs:s.length<=1000000000000):Calls prog 114 #[.string ⟨s.toArray⟩] w fun e w'=>e=.returned (.int .u64 (ZaL s))/\w=w':=by
 obtain ⟨R,b⟩:=Xn (ZaL s);rw [b];have f:=Y4 b;clear b;go_enter func114,ntmps114;go_wp2_with fail
 go_loopw [3,4] (fun h i wr=>∃k:Nat,k<=s.length/\h=.int .u64 (ZaL (s.take k))/\i=.int .i64 k/\wr=w) (fun _ i _=>s.length - (intOf i).toNat)
 case atStart=>exact ⟨0,by omega,rfl,rfl,rfl⟩
 case round =>
  obtain ⟨k,hk,rfl,rfl,rfl⟩:=hrel
  by_cases a:k<s.length
  ·have g:decide ((k:Int)<(s.length:Int))=true:=by simp;omega
   have c:=Y4 (Zoo a);obtain ⟨h,d⟩:=Xn (ZaL (s.take k));rw [d] at c ⊢;clear d;go_wp2_with fail;go_roundw
   case rel=>exact ⟨k+1,by omega,by rw [c.z];exact Xr (Value.int .u64) (ZoP h s[k]),by go_num,trivial⟩
   case measure=>simp [intOf];omega
  ·obtain rfl:k=s.length:=by omega
   rw [XB,f.z];have g:decide ((s.length:Int)<(s.length:Int))=false:=by simp
   go_wp2_with fail;go_ret;exact ⟨rfl,rfl⟩
theorem Zxn (s:Xu) (w:World) (hs:s.length<=1000000000000):Calls prog 215 #[.string ⟨s.toArray⟩] w fun e w'=>e=.returned (.int .u64 (ZaL s))/\w=w':=by
 obtain ⟨R,b⟩:=Xn (ZaL s);rw [b];have f:=Y4 b;clear b;go_enter func215,ntmps215;go_wp2_with fail
 go_loopw [3,7] (fun h i wr=>∃k:Nat,k<=s.length/\h=.int .u64 (ZaL (s.take k))/\i=.int .i64 k/\wr=w) (fun _ i _=>s.length - (intOf i).toNat)
 case atStart=>exact ⟨0,by omega,rfl,rfl,rfl⟩
 case round =>
  obtain ⟨k,hk,rfl,rfl,rfl⟩:=hrel
  by_cases a:k<s.length
  ·have g:decide ((k:Int)<(s.length:Int))=true:=by simp;omega
   have c:=Y4 (Zoo a);obtain ⟨h,d⟩:=Xn (ZaL (s.take k));rw [d] at c ⊢;clear d;go_wp2_with fail;go_roundw
   case rel=>exact ⟨k+1,by omega,by rw [c.z];exact Xr (Value.int .u64) (ZoP h s[k]),by go_num,trivial⟩
   case measure=>simp [intOf];omega
  ·obtain rfl:k=s.length:=by omega
   rw [XB,f.z];have g:decide ((s.length:Int)<(s.length:Int))=false:=by simp
   go_wp2_with fail;go_ret;exact ⟨rfl,rfl⟩
theorem Zke (a b i n:Nat) (ha:a<4294967296) (f:b<=4294967296) (hi:i<4) (h:8<=n) (c:n<=131072) :
  wrap64 ((IntKind.u64.wrap ((a:Int)+IntKind.u64.wrap ((i:Int)*(b:Int)))).tmod (8*(n:Int)))=(((a+i*b)%(8*n):Nat):Int):=by
 have hm:i*b<=4*4294967296:=Nat.mul_le_mul (by omega) f;have d:(i:Int)*(b:Int)=((i*b:Nat):Int):=by simp
 rw [d];generalize i*b=X at *;have g:IntKind.u64.wrap (X:Int)=(X:Int):=by rw [wrap_u64];omega
 rw [g];have e:IntKind.u64.wrap ((a:Int)+(X:Int))=((a+X:Nat):Int):=by rw [wrap_u64];omega
 rw [e,show (8*(n:Int))=((8*n:Nat):Int) by omega,<- Int.ofNat_tmod];have hl:(a+X)%(8*n)<8*n:=XaM _ (by omega);generalize (a+X)%(8*n)=Z at *;unfold wrap64;omega
theorem Zs2 (s:Xu) (N i n:Nat) (c:ZaL s=(N:Int)) (e:N<18446744073709551616) (hi:i<4) (b:8<=n) (a:n<=131072) (h:(N:Int) / 4294967296%2=0) :
  wrap64 ((IntKind.u64.wrap ((N:Int)%4294967296+IntKind.u64.wrap ((i:Int)*((N:Int) / 4294967296+1)))).tmod (8*(n:Int)))=((ZT (8*n) s i:Nat):Int):=by
 have d:Zeb s=N%4294967296:=by unfold Zeb;rw [c];omega
 have f:ZcQ s=N / 4294967296+1:=by unfold ZcQ Zjd;rw [c,Xe (by omega)];omega
 unfold ZT;rw [d,f,<- Zke (N%4294967296) (N / 4294967296+1) i n (by omega) (by omega) hi b a];congr 1
theorem ZvW (s:Xu) (N i n:Nat) (c:ZaL s=(N:Int)) (e:N<18446744073709551616) (hi:i<4) (b:8<=n) (a:n<=131072) (h:¬(N:Int) / 4294967296%2=0) :
  wrap64 ((IntKind.u64.wrap ((N:Int)%4294967296+IntKind.u64.wrap ((i:Int)*((N:Int) / 4294967296)))).tmod (8*(n:Int)))=((ZT (8*n) s i:Nat):Int):=by
 have d:Zeb s=N%4294967296:=by unfold Zeb;rw [c];omega
 have f:ZcQ s=N / 4294967296:=by unfold ZcQ Zjd;rw [c,Xc (by omega)];omega
 unfold ZT;rw [d,f,<- Zke (N%4294967296) (N / 4294967296) i n (by omega) (by omega) hi b a];congr 1
theorem Zrn (p:Option Addr) (n m:Nat) (s:Xu) (i:Nat) (w:World) (hs:s.length<=1000000000000) (c:8<=n) (a:n<=131072) (hi:i<4) :
  Calls prog 63 #[.agg #[.slice p n m],.string ⟨s.toArray⟩,.int .i64 i] w fun e w'=>e=.returned (.int .i64 (ZT (8*n) s i:Nat))/\Below w.heap.size w w':=by
 have k:=Y4 (fun W=>Zd1 s W hs);obtain ⟨N,f⟩:∃N:Nat,ZaL s=(N:Int):=⟨(ZaL s).toNat,by have:=(ZeU s).1;omega⟩;rw [f] at k;have q:=(ZeU s).2;rw [f] at q;have d:N<18446744073709551616:=by omega
 clear q;have g:=Y4 (Zs2 s N i n f d hi c a);have j:=Y4 (ZvW s N i n f d hi c a);obtain ⟨R,r⟩:=Xn (ZT (8*n) s i);rw [r] at g j ⊢;clear f r;have t:=Y4 (fun o=>(Below.refl w.heap.size w).alloc (Xa _) o)
 by_cases h:(N:Int) / 4294967296%2=0
 ·have b:=g.z h;have v:((N:Int) / 4294967296%2 == 0)=true:=by rw [Xaj];exact h
  have l:=Y4 b;clear g j h b;go_enter func63,ntmps63;go_wp2_with fail;refine (k.z _).mono ?_;rintro e u ⟨rfl,rfl⟩;go_wp2_with fail;go_ret;exact ⟨Xr (fun z=>Ending.returned (.int .i64 z)) l.z,t.z _⟩
 ·have b:=j.z h;have v:((N:Int) / 4294967296%2 == 0)=false:=by rw [X6];exact h
  have l:=Y4 b;clear g j h b;go_enter func63,ntmps63;go_wp2_with fail;refine (k.z _).mono ?_;rintro e u ⟨rfl,rfl⟩;go_wp2_with fail;go_ret;exact ⟨Xr (fun z=>Ending.returned (.int .i64 z)) l.z,t.z _⟩
theorem ZAt:∀c:Fin 256,∀j:Fin 8,((c.val:Int) / ((2:Int)^j.val%256)%2 == 1)=Zo5 (UInt8.ofNat c.val) j.val:=by decide +kernel
theorem ZAu (c:UInt8) {j:Nat} (a:j<8):((c.toNat:Int) / ((2:Int)^j%256)%2 == 1)=Zo5 c j:=by
 have:=ZAt ⟨c.toNat,c.toNat_lt⟩ ⟨j,a⟩;have e:UInt8.ofNat c.toNat=c:=by simp
 dsimp only at this;rw [e] at this;exact this
theorem ZzO:∀j:Fin 8,¬(2:Int)^j.val%256=0:=by decide +kernel
theorem ZsF {L:Xu} {k:Nat} (a:k / 8<L.length):Zh1 L k=Zo5 L[k / 8] (k%8):=by
 unfold Zh1;simp [List.getD,a]
theorem Zru (v:Value) (L:Xu) (k:Nat) (w:World) (h:Zv w v L) (i:L.length<=131072) (hk:k<8*L.length) :
  Calls prog 62 #[.agg #[v],.int .i64 k] w fun e w'=>e=.returned (.bool (Zh1 L k))/\Below w.heap.size w w':=by
 have f:Below w.heap.size w (w.alloc (.cells #[v] 44)):=(Below.refl _ _).alloc (Xa _) _;have s:=h.below f;obtain ⟨p,r,rfl,q,l⟩:=h.shape;obtain ⟨b,off,rfl,d,a⟩:=h.at_ (show k / 8<L.length by omega);have m:=fun o=>(((Below.refl w.heap.size w).alloc (Xa _) o).cell (p:=⟨b,off+k / 8,none⟩) d).trans a;have g:=ZzO ⟨k%8,XaM _ (by decide)⟩;dsimp only at g;have c:=ZAu L[k / 8] (j:=k%8) (XaM _ (by decide));rw [<- ZsF] at c;have n:=Y4 c;have t:=Y4 (fun o=>(Below.refl w.heap.size w).alloc (Xa _) o);clear a f s h c;go_enter func62,ntmps62;go_wp2_with fail;go_ret;exact ⟨Xr (fun z=>Ending.returned (.bool z)) n.z,t.z _⟩
variable {m B n:Nat} {s:Xu} {w:World}
def Pl (m:Nat) (s:Xu) (B n:Nat) (w:World):Prop:=∃a:Array Value,w.heap[B]? = some (.cells a 257 (0,0))/\a.size=4/\∀k,k<n->a[k]? = some (.int .i64 (ZT m s k:Nat))
theorem Pl.there (h:Pl m s B n w) {k:Nat} (c:k<4):∃v,w.cell? ⟨B,k,none⟩=some v:=by
 obtain ⟨a,b,hs,_⟩:=h;exact ⟨a[k],by rw [cell_of_row w B k a _ _ b];simp [hs,c]⟩
theorem Pl.free (h:Pl m s B n w) (k:Nat):w.frozen? ⟨B,k,none⟩=false:=by
 obtain ⟨a,b,_,_⟩:=h;exact frozen_of_row w B k a _ b
theorem Pl.put (h:Pl m s B n w) (d:n<4):Pl m s B (n+1) (w.setCell ⟨B,n,none⟩ (.int .i64 (ZT m s n:Nat))):=by
 obtain ⟨a,e,hs,c⟩:=h;refine ⟨_,heap_setCell_same w B n a _ _ e,by simp [hs],fun k hk => ?_⟩
 by_cases b:k=n
 ·subst b;simp [hs,d]
 ·rw [Array.getElem?_setIfInBounds_ne (by omega)];exact c k (by omega)
def plA (m:Nat) (s:Xu):Array Value:=#[.int .i64 (ZT m s 0:Nat),.int .i64 (ZT m s 1:Nat),.int .i64 (ZT m s 2:Nat),.int .i64 (ZT m s 3:Nat)]
theorem Pl.all (h:Pl m s B 4 w):w.heap[B]? = some (.cells (plA m s) 257 (0,0)):=by
 obtain ⟨a,c,hs,d⟩:=h
 have:a=plA m s:=by
  apply Array.ext_getElem?;intro k
  by_cases b:k<4
  ·rw [d k b]
   match k,b with
   | 0,_=>rfl
   | 1,_=>rfl
   | 2,_=>rfl
   | 3,_=>rfl
  ·rw [Xau (by omega),Xau (by simp [plA];omega)]
 rw [<- this];exact c
theorem ZBv (m:Nat) (s:Xu):(plA m s).all (·.oneCell')=true:=by
 simp only [plA,List.all_toArray,List.all_cons,List.all_nil];rfl
theorem Zyi:(prog.info? 257).map (·.size)=some 4:=by kernel_rfl
theorem ZwO:∃Z:Array Value,Z.size=4/\∀W,Sem.run prog (zeroValue 257) W=.ok (.agg Z) W :=
 ⟨#[.int .i64 0,.int .i64 0,.int .i64 0,.int .i64 0],rfl,fun W=>by kernel_rfl⟩
theorem below_setRow {g:Nat} {a:World} (b:Array Value) (h:Below B a w) (hg:B<=g):Below B a (w.setRow g b) :=
 ⟨h.os,h.tape,h.output,by rw [setRow_size];exact h.size,fun i hi=>by rw [setRow_other w g i b (by omega)];exact h.block i hi⟩
theorem ZAp (N:Nat) (a:N<18446744073709551616):bits .and .u64 (N:Int) 4294967295=(N:Int)%4294967296:=by
 have:=bits_and_u64_nat N 4294967295 a (by decide);rw [show (4294967295:Int)=((4294967295:Nat):Int) from rfl,this];have e:N &&& 4294967295=N%4294967296:=Nat.and_two_pow_sub_one_eq_mod N 32;rw [e];omega
theorem or_one (Q:Nat) (hQ:Q<4294967296):bits .or .u64 (Q:Int) 1=((if Q%2=0 then Q+1 else Q:Nat):Int):=by
 have:=bits_or_u64_nat Q 1 (by omega) (by decide);rw [show (1:Int)=((1:Nat):Int) from rfl,this];congr 1
 apply Nat.eq_of_testBit_eq;intro i;rw [Nat.testBit_or]
 by_cases h:Q%2=0
 ·rw [Xe h];cases i with
  | zero=>simp [Nat.testBit_zero];omega
  | succ i =>
    simp only [Nat.testBit_succ];rw [show (Q+1) / 2=Q / 2 by omega];simp
 ·rw [Xc h];cases i with
  | zero=>simp [Nat.testBit_zero];omega
  | succ i=>simp [Nat.testBit_succ]
theorem ZmO (s:Xu) (n:Nat) (w:World) (hs:s.length<=1000000000000) (U:8<=n) (F:n<=131072) :
  Calls prog 171 #[.string ⟨s.toArray⟩,.int .i64 (8*(n:Int))] w fun e w'=>e=.returned (.agg (plA (8*n) s))/\Below w.heap.size w w':=by
 have L:=Y4 (fun W=>Zxn s W hs);obtain ⟨N,E⟩:∃N:Nat,ZaL s=(N:Int):=⟨(ZaL s).toNat,by have:=(ZeU s).1;omega⟩;rw [E] at L;have Y:=(ZeU s).2;rw [E] at Y;have G:N<18446744073709551616:=by omega
 clear Y;have j:=ZAp N G;have l:=or_one (N / 4294967296) (by omega);have e1:Zeb s=N%4294967296:=by unfold Zeb;rw [E];omega
 have e2:ZcQ s=if N / 4294967296%2=0 then N / 4294967296+1 else N / 4294967296:=by
  have eh:Zjd s=N / 4294967296:=by unfold Zjd;rw [E];omega
  unfold ZcQ;rw [eh]
 rw [<- e2,show ((N / 4294967296:Nat):Int)=(N:Int) / 4294967296 by omega] at l;have hf:=Zve s;have ab:=Ztk s;have M:=Y4 (fun i (hi:i<4)=>Zke (Zeb s) (ZcQ s) i n hf (by omega) hi U F);have S:Y5 (∀i,(Zeb s+i*ZcQ s)%(8*n)=ZT (8*n) s i):=Y4 (fun i=>rfl);have c:bits .and .u64 (N:Int) 4294967295=(Zeb s:Int):=by rw [j,e1];omega
 obtain ⟨P,u⟩:=Xn (plA (8*n) s);have A:=Y4 (fun W (h:Pl (8*n) s w.heap.size 4 W)=>u▸h.all);have T:Y5 (P.size=4):=Y4 (u▸rfl);have R:Y5 (P.all (·.oneCell')=true):=Y4 (u▸ZBv _ _);rw [u];clear u j e1 e2 E;generalize Zeb s=a at *;generalize ZcQ s=b at *;obtain ⟨Z,V,hz⟩:=ZwO;have t:Pl (8*n) s w.heap.size 0 (w.alloc (.cells Z 257)):=⟨Z,heap_alloc_new _ _,V,fun k hk=>by omega⟩;have y:Below w.heap.size w (w.alloc (.cells Z 257)):=(Below.refl _ _).alloc (Xa _) _;have C:=Y4 t;have z:=Y4 y;clear t y V;have g:=Y4 c;have r:=Y4 l;clear c l;go_enter func171,ntmps171;go_wp2_with fail;refine (L.z _).mono ?_;rintro e w1 ⟨rfl,rfl⟩;go_wp2_with fail;rw [g.z,r.z];clear g r L hz
 go_loopw [16] (fun H wr=>∃i:Nat,i<=4/\H=.int .i64 i/\Y5 (Pl (8*n) s w.heap.size i wr)/\Y5 (Below w.heap.size w wr)) (fun H _=>4 - (intOf H).toNat)
 case atStart=>exact ⟨0,by omega,rfl,C,z⟩
 case round =>
  obtain ⟨i,hi,rfl,D,I⟩:=hrel;clear C z
  by_cases o:i<4
  ·have t1:decide ((i:Int)<4)=true:=by simp;omega
   have ac:=D.z.free i;obtain ⟨old,aa⟩:=D.z.there o;have d:=M.z i o;rw [S.z] at d;have q:=Y4 (D.z.put o);have f:=Y4 (I.z.setCell (p:=⟨w.heap.size,i,none⟩) (Xa _) (.int .i64 (ZT (8*n) s i:Nat)));obtain ⟨X,hX⟩:=Xn (ZT (8*n) s i);rw [hX] at q f d;have HX:=Y4 d;clear hX D I d;go_wp2_with fail;rw [HX.z];go_roundw
   case rel=>exact ⟨i+1,by omega,by go_num,q,f⟩
   case measure=>simp [intOf];omega
  ·obtain rfl:i=4:=by omega
   have t1:decide ((4:Int)<4)=false:=by simp
   have O:=A.z _ D.z;have hs:=T.z;have hi:(prog.info? 257).map (·.size)=some P.size:=by rw [hs];exact Zyi
   have x:=setRow_heap wr w.heap.size P P _ _ O;have J:=Y4 x;have f:=Y4 (below_setRow P I.z (Xa _));clear x hs;go_wp2_with (first|refine wpList_load_row rfl 257 (.tmp 4) rfl w.heap.size rfl 257 P (0,0) (.array 4 3) O underlying257 rfl hi ?_|refine wpList_store_row rfl 257 (.tmp 4) (.tmp 32) rfl w.heap.size P rfl rfl 257 P O hi rfl R.z ?_)
   refine bodyPost_ret (v:=.agg P) (results_cell_row rfl _ _ w.heap.size 257 P (0,0) (.array 4 3) rfl J.z underlying257 rfl hi) rfl ⟨rfl,f.z⟩
end BL
namespace PM
open VM
variable {lo hi N d:Int} {l r b l0 l1 lk l' lz:Xu} {n i x j S:Nat} {o ok oh o':Bool} {qs:List Int}
def Ze (lo hi:Int) (l:Xu) (o:Bool):Nat×Xu×Bool:=match ZaL lo hi l with
 | some (n,r)=>(n,r,o)
 | none=>(0,[],true)
theorem ZbR (h:ZaL lo hi l=some (n,r)) (o:Bool):Ze lo hi l o=(n,r,o):=by unfold Ze;rw [h]
theorem Zav (h:ZaL lo hi l=none) (o:Bool):Ze lo hi l o=(0,[],true):=by unfold Ze;rw [h]
theorem Zch (lo hi:Int) (l:Xu):(∃n r,ZaL lo hi l=some (n,r))\/ZaL lo hi l=none:=by
 cases h:ZaL lo hi l with
 | none=>exact .inr rfl
 | some p=>exact .inl ⟨p.1,p.2,rfl⟩
theorem Zc1 (lo hi:Int) (l:Xu) (o:Bool):((Ze lo hi l o).1:Int)<=max 0 hi/\(Ze lo hi l o).2.1.length<=l.length:=by
 rcases Zch lo hi l with ⟨n,r,h⟩|h
 ·rw [ZbR h];have:=Zbz h;exact ⟨by show (n:Int)<=_;omega,by show r.length<=_;omega⟩
 ·rw [Zav h];exact ⟨by show ((0:Nat):Int)<=_;omega,by simp⟩
theorem Zop (h:o=true):(Ze lo hi l o).2.2=true:=by
 rcases Zch lo hi l with ⟨n,r,e⟩|e
 ·rw [ZbR e];exact h
 ·rw [Zav e]
def hby (hs:List (Nat×Nat)):Xu:=hs.flatMap fun h=>Zb h.1++Zb h.2
theorem Zye (hs:List (Nat×Nat)) (x y:Nat):hby (hs++[(x,y)])=hby hs++(Zb x++Zb y):=by simp [hby]
def HSt (b:Xu) (n:Nat) (o:Bool) (l0:Xu) (i:Nat) (hs:List (Nat×Nat)) (l:Xu) (a:Bool):Prop :=
 hs.length=i/\((a=o/\Zlq b n i hs l/\l0=hby hs++l)\/(a=true/\l=[]/\ZgN b))
theorem Zvs {m:Int} (a:b.length<4611686018427387904) (h:ZaL 0 m b=some (n,l)):HSt b n o l 0 [] l o:=⟨rfl,.inl ⟨rfl,Zql a h,rfl⟩⟩
theorem Zyg {a:Bool} {hs:List (Nat×Nat)} (g:b.length<4611686018427387904) (h:HSt b n o l0 i hs l a) (hi:i<cnt n) :
  HSt b n o l0 (i+1) (hs++[((Ze 0 9223372036854775807 l a).1,(Ze 0 9223372036854775807 (Ze 0 9223372036854775807 l a).2.1 (Ze 0 9223372036854775807 l a).2.2).1)])
   (Ze 0 9223372036854775807 (Ze 0 9223372036854775807 l a).2.1 (Ze 0 9223372036854775807 l a).2.2).2.1 (Ze 0 9223372036854775807 (Ze 0 9223372036854775807 l a).2.1 (Ze 0 9223372036854775807 l a).2.2).2.2:=by
 obtain ⟨p,h⟩:=h;refine ⟨by simp [p],?_⟩;rcases h with ⟨rfl,f,k⟩|⟨rfl,rfl,m⟩
 ·rcases Zch 0 9223372036854775807 l with ⟨x,l1,c⟩|c
  ·rw [ZbR c];dsimp only;rcases Zch 0 9223372036854775807 l1 with ⟨y,l2,e⟩|e
   ·rw [ZbR e];refine .inl ⟨rfl,Zsk g f hi c e,?_⟩;rw [k,(Zbz c).1,(Zbz e).1,Zye];simp only [Xk]
   ·rw [Zav e];exact .inr ⟨rfl,rfl,Zqk g f hi c e⟩
  ·rw [Zav c];dsimp only;rw [Zav (Zhc _ _)];exact .inr ⟨rfl,rfl,Zqj g f hi c⟩
 ·rw [Zav (Zhc _ _)];dsimp only;rw [Zav (Zhc _ _)];exact .inr ⟨rfl,rfl,m⟩
def ZCZ (N:Int) (l:Xu) (d:Int) (m k:Nat) (qs:List Int) (lk:Xu):Prop:=∀p r,Zca N l p r->p.1=d/\p.2.length=m/\qs=p.2.take k/\lk=ZaB (ZaR 0 qs) (p.2.drop k)++r
def QSt (N:Int) (l:Xu) (o:Bool) (d:Int) (m k:Nat) (qs:List Int) (lk:Xu) (ok:Bool):Prop :=
 qs.length=k/\((ok=o/\ZCZ N l d m k qs lk/\l=Zb (d - N).toNat++(Zb m++(ZaB 0 qs++lk))/\N<=d/\d<65536/\ZcM 1048576 qs=true)\/(ok=true/\lk=[]/\∀p r,¬Zca N l p r))
theorem ZiF {p:Zk} (hN:0<=N) (h:Zca N l p r):ZaL 0 (65535 - N) l=some ((p.1 - N).toNat,Zb p.2.length++(ZaB 0 p.2++r)):=by
 obtain ⟨a,rfl⟩:=h;unfold okP at a;unfold ZeW;rw [Xk,Xk];exact ZeT (by omega) (by omega) (by omega) _
theorem ZmP {p:Zk} (h:Zca N l p r) (e:l1=Zb p.2.length++(ZaB 0 p.2++r)):ZaL 1 (min 1048576 (l1.length:Int)) l1=some (p.2.length,ZaB 0 p.2++r):=by
 obtain ⟨a,_⟩:=h;unfold okP at a;have hl:=ZfT a.2.2.2;have h0:=Xaa.2 a.2.2.1;have hg:=(ZfJ p.2 0).1;have c:p.2.length<=l1.length:=by rw [e,Xd,Xd];omega
 rw [e] at c ⊢;exact ZeT (by omega) (by omega) (by omega) _
theorem Zv1 {f:Xu} {m:Nat} (s:0<=N) (g:ZaL 0 (65535 - N) l=some (x,l1)) (h:ZaL 1 (min 1048576 (l1.length:Int)) l1=some (m,f)):QSt N l o (N+x) m 0 [] f o:=by
 have k:=Zbz g;have q:=Zbz h;refine ⟨rfl,.inl ⟨rfl,fun p r e => ?_,?_,by omega,by omega,rfl⟩⟩
 ·have c:=ZiF s e;rw [g] at c;simp only [Xx,X9] at c;have a:=ZmP e c.2;rw [h] at a;simp only [Xx,X9] at a;have:=e.1.1;exact ⟨by omega,a.1.symm,rfl,a.2⟩
 ·rw [ZaB,XE,<- q.1,show (N+(x:Int) - N).toNat=x by omega];exact k.1
theorem Zow (e:0<=N) (a:ZaL 0 (65535 - N) l=none):∀p r,¬Zca N l p r:=fun p r c=>by
 rw [ZiF e c] at a;cases a
theorem Zox (g:0<=N) (f:ZaL 0 (65535 - N) l=some (x,l1)) (e:ZaL 1 (min 1048576 (l1.length:Int)) l1=none):∀p r,¬Zca N l p r:=fun p r c=>by
 have a:=ZiF g c;rw [f] at a;simp only [Xx,X9] at a;rw [ZmP c a.2] at e;cases e
theorem Zzh {m k:Nat} (h:QSt N l o d m k qs lk ok) (hk:k<m) :
  QSt N l o d m (k+1) (qs++[ZaR 0 qs+(Ze 0 (1048575 - ZaR 0 qs) lk ok).1]) (Ze 0 (1048575 - ZaR 0 qs) lk ok).2.1 (Ze 0 (1048575 - ZaR 0 qs) lk ok).2.2:=by
 obtain ⟨J,h⟩:=h;refine ⟨by simp [J],?_⟩;rcases h with ⟨rfl,D,G,A,w,C⟩|⟨rfl,rfl,L⟩
 ·have t:∀p r,Zca N l p r->∃(c:k<p.2.length),ZaR 0 qs<=p.2[k]/\p.2[k]<1048576/\lk=Zb (p.2[k] - ZaR 0 qs).toNat++(ZaB (p.2[k]+1) (p.2.drop (k+1))++r):=by
   intro p r q;obtain ⟨g,F,y,s⟩:=D p r q;have c:k<p.2.length:=by omega
   have u:=q.1.2.2.2;rw [X7 c,ZaB,Xk] at s
   have e:p.2=(qs++[p.2[k]])++p.2.drop (k+1):=by
    rw [y,<- XG c,X8]
   have f:Za1 1048576 (0 - 1) (qs++[p.2[k]])=true:=by
    have:∀(a b:List Int) (n:Int),Za1 1048576 n (a++b)=true->Za1 1048576 n a=true:=by
     intro a
     induction a with
     | nil=>intro b n _;rfl
     | cons z a ih =>
       intro b n v;rw [XK,Za1,Xw] at v;rw [Za1,Xw];exact ⟨v.1,ih b z v.2⟩
    rw [e] at u;exact this _ _ _ u
   rw [Zgt,Xw,Xw,Xg,Xg] at f;exact ⟨c,f.2.1,f.2.2,s⟩
  have hA:=(Zhb 1048576 qs 0 (by omega) C).1;rcases Zch 0 (1048575 - ZaR 0 qs) lk with ⟨x,l1,g⟩|g
  ·rw [ZbR g];have B:=Zbz g;refine .inl ⟨rfl,fun p r q => ?_,?_,A,w,?_⟩
   ·obtain ⟨H,O,M,e4⟩:=D p r q;obtain ⟨c,F,y,s⟩:=t p r q;rw [B.1] at s;obtain ⟨h5,I⟩:=Zb0 B.2.1 (by omega) s;have E:ZaR 0 qs+(x:Int)=p.2[k]:=by omega
    refine ⟨H,O,?_,?_⟩
    ·rw [XG c,<- M]
     show qs++[ZaR 0 qs+(x:Int)]=_
     rw [E]
    ·show l1=_
     rw [Zgf,I]
     show _=ZaB (ZaR 0 qs+(x:Int)+1) _++r
     rw [E]
   ·show l=_
    rw [G,B.1,Ziw]
    show _=Zb (d - N).toNat++(Zb m++(ZaB 0 qs++Zb (ZaR 0 qs+(x:Int) - ZaR 0 qs).toNat++l1))
    rw [show (ZaR 0 qs+(x:Int) - ZaR 0 qs).toNat=x by omega];simp only [Xk]
   ·show Za1 1048576 (0 - 1) (qs++[ZaR 0 qs+(x:Int)])=true
    rw [Zgt,Xw,Xw,Xg,Xg];exact ⟨C,by omega,by omega⟩
  ·rw [Zav g];refine .inr ⟨rfl,rfl,fun p r q => ?_⟩;obtain ⟨c,F,y,s⟩:=t p r q;rw [s,ZeT (by omega) (by omega) (by omega)] at g;cases g
 ·rw [Zav (Zhc _ _)];exact .inr ⟨rfl,rfl,L⟩
def PSt (N:Int) (l:Xu) (o:Bool) (d:Int) (qs:List Int) (l':Xu) (o':Bool):Prop:=N<=d/\d<=max N 65535/\((o'=o/\Zca N l (d,qs) l')\/(o'=true/\l'=[]/\∀p r,¬Zca N l p r))
theorem ZBA {m:Nat} (h:QSt N l o d m m qs lk ok) (k:N<=d) (f:d<=max N 65535) (s:m=0->ok=true/\lk=[]/\∀p r,¬Zca N l p r):PSt N l o d qs lk ok:=by
 refine ⟨k,f,?_⟩;obtain ⟨c,h⟩:=h
 by_cases u:m=0
 ·exact .inr (s u)
 ·rcases h with ⟨rfl,hc,q,g,a,t⟩|h
  ·refine .inl ⟨rfl,⟨g,a,?_,t⟩,?_⟩
   ·intro e;have:qs=[]:=e;rw [this] at c;simp at c;omega
   ·rw [q];unfold ZeW;simp only [Xk];rw [c]
  ·exact .inr h
theorem Zv0 (s:0<=N) (l:Xu) (o:Bool):∀c a,Ze 0 (65535 - N) l o=c->Ze 1 (min 1048576 (c.2.1.length:Int)) c.2.1 c.2.2=a ->
  QSt N l o (N+c.1) a.1 0 [] a.2.1 a.2.2/\(a.1=0->a.2.2=true/\a.2.1=[]/\∀p r,¬Zca N l p r)/\a.1<=1048576/\N+(c.1:Int)<=max N 65535:=by
 intro c a q e;have t:=(Zc1 0 (65535 - N) l o).1;have u:=(Zc1 1 (min 1048576 (c.2.1.length:Int)) c.2.1 c.2.2).1;rw [q] at t;rw [e] at u
 have k:QSt N l o (N+c.1) a.1 0 [] a.2.1 a.2.2/\(a.1=0->a.2.2=true/\a.2.1=[]/\∀p r,¬Zca N l p r):=by
  rcases Zch 0 (65535 - N) l with ⟨x,l1,f⟩|f
  ·rw [ZbR f] at q;subst q;dsimp only at e ⊢;rcases Zch 1 (min 1048576 (l1.length:Int)) l1 with ⟨m,l2,g⟩|g
   ·rw [ZbR g] at e;subst e;refine ⟨Zv1 s f g,fun h => ?_⟩;have:=(Zbz g).2.2.2.1;dsimp only at h;omega
   ·rw [Zav g] at e;subst e;exact ⟨⟨rfl,.inr ⟨rfl,rfl,Zox s f g⟩⟩,fun _=>⟨rfl,rfl,Zox s f g⟩⟩
  ·rw [Zav f] at q;subst q;dsimp only at e ⊢;rw [Zav (Zhc _ _)] at e;subst e;exact ⟨⟨rfl,.inr ⟨rfl,rfl,Zow s f⟩⟩,fun _=>⟨rfl,rfl,Zow s f⟩⟩
 exact ⟨k.1,k.2,by omega,by omega⟩
def DSt (b:Xu) (n:Nat) (oh:Bool) (l0:Xu) (j:Nat) (ps:List Zk) (l:Xu) (o:Bool):Prop :=
 (oh=true->o=true)/\ps.length=j/\0<=ZI 0 ps/\ZI 0 ps<=65536+j/\((o=false/\Zr0 b n j ps l/\l0=ZE 0 ps++l/\okL 0 ps)\/(o=true/\l=[]/\ZgN b))
theorem Zu4 {hs:List (Nat×Nat)} (h:HSt b n false l0 (cnt n) hs l o):DSt b n o l 0 [] l o:=by
 refine ⟨fun h=>h,rfl,by simp [ZI],by simp [ZI],?_⟩;obtain ⟨_,h⟩:=h;rcases h with ⟨rfl,a,_⟩|⟨rfl,rfl,c⟩
 ·exact .inl ⟨rfl,Zsl a,rfl,trivial⟩
 ·exact .inr ⟨rfl,rfl,c⟩
theorem Zgi (ps:List Zk) (p:Zk):ZI 0 (ps++[p])=p.1+1:=by rw [Zdb];rfl
theorem ZxF {ps:List Zk} (h:DSt b n oh l0 j ps l o) (g:j<n) (a:PSt (ZI 0 ps) l o d qs l' o'):DSt b n oh l0 (j+1) (ps++[(d,qs)]) l' o':=by
 obtain ⟨f,t,v,p,h⟩:=h;obtain ⟨w,u,a⟩:=a;refine ⟨fun e => ?_,by simp [t],by rw [Zgi];show 0<=d+1;omega,by rw [Zgi];show d+1<=_;omega,?_⟩
 ·have:=f e;rcases a with ⟨rfl,_⟩|⟨rfl,_⟩
  ·exact this
  ·rfl
 rcases h with ⟨rfl,k,m,c⟩|⟨rfl,rfl,q⟩
 ·rcases a with ⟨rfl,a⟩|⟨rfl,rfl,a⟩
  ·refine .inl ⟨rfl,ZuV k g c a,?_,?_⟩
   ·rw [ZbN,ZE,ZE,XH,Xk,<- a.2];exact m
   ·rw [Zgj];exact ⟨c,a.1,trivial⟩
  ·exact .inr ⟨rfl,rfl,ZuU k g a⟩
 ·refine .inr ⟨?_,?_,q⟩
  ·rcases a with ⟨rfl,_⟩|⟨rfl,_⟩<;>rfl
  ·rcases a with ⟨rfl,a⟩|⟨rfl,rfl,a⟩
   ·have:=a.2;have h2:=(Zkf (ZI 0 ps) (d,qs)).1;have s:=Xr List.length this;rw [Xd,Xv] at s;omega
   ·rfl
def HOk (hs:List (Nat×Nat)) (ps:List Zk) (i:Nat):Prop:=∀k,k<i->hs[k]? = some (h1L ps k,h2L ps k)
theorem ZAX (ps:List Zk) (q:List Zk) (k:Nat) (c:32*(k+1)<=ps.length):h1L (ps++q) k=h1L ps k/\h2L (ps++q) k=h2L ps k/\Zby (ps++q) k=Zby ps k:=by
 have e:(ps++q).take (32*(k+1))=ps.take (32*(k+1)):=Xbx c;have a:(ps++q).take (32*k)=ps.take (32*k):=Xbx (by omega);unfold h1L h2L Zby;rw [e,a];exact ⟨rfl,rfl,rfl⟩
theorem ZxE {ps:List Zk} {hs:List (Nat×Nat)} {G:Xu} {q:Bool} (h:DSt b n q l0 j ps l o) (R:HSt b n false lz (cnt n) hs G oh) (L:j=min n (32*(i+1))) (hi:i<cnt n) (x y:Nat) (p:hs[i]? = some (x,y))
  (S:Nat) (C:o=false->S+Zby ps i=l0.length) (d:Int) (T:ZI 0 ps=d+1) :
  (o=false->(x:Int)=d->(y:Int)=(S:Int) - (l.length:Int)->(x,y)=(h1L ps i,h2L ps i))/\(¬((x:Int)=d/\(y:Int)=(S:Int) - (l.length:Int))->ZgN b):=by
 obtain ⟨_,hl,Y,F,h⟩:=h;have W:32*i<n:=by unfold cnt at hi;omega
 have a:ps.take (32*(i+1))=ps:=XO (by omega)
 have f:o=false->(Zr0 b n j ps l/\l0=ZE 0 ps++l/\okL 0 ps)->h1L ps i=d.toNat/\(h2L ps i:Int)=(S:Int) - (l.length:Int)/\0<=d:=by
  rintro e ⟨k,J,u⟩;have C:=C e;have M:=ZbH ps 0 u;have s:Zby ps (i+1)=(ZE 0 ps).length:=by unfold Zby;rw [a]
  have D:l0.length=(ZE 0 ps).length+l.length:=by rw [J,Xd]
  have e3:Zby ps i<=Zby ps (i+1):=by
   rw [s];exact ZnX i
  have e4:1<=ZI 0 ps:=by omega
  refine ⟨by unfold h1L;rw [a,T];congr 1;omega,by unfold h2L;omega,by omega⟩
 constructor
 ·intro e X U;rcases h with ⟨_,k⟩|⟨g,_⟩
  ·obtain ⟨z,E,I⟩:=f e k;rw [z];exact XaL (by show x=d.toNat;omega) (by show y=h2L ps i;omega)
  ·rw [e] at g;cases g
 ·intro t;rcases h with ⟨e,k⟩|⟨_,_,A⟩
  ·obtain ⟨z,E,I⟩:=f e k;rcases R.2 with ⟨_,w,_⟩|⟨_,_,A⟩
   ·intro PS m;obtain ⟨V,O,p3⟩:=k.1 PS m;obtain ⟨q1,H,q3⟩:=w PS m;rw [H,Xa1,List.getElem?_range hi] at p;simp only [Xae,Xx,X9] at p
    have c:ps.take (32*(i+1))=PS.take (32*(i+1)):=by
     rw [a,O,L]
     by_cases B:n<=32*(i+1)
     ·rw [Xan B,<- V,XB,XO (by omega)]
     ·rw [Xbi (by omega)]
    have v:ps.take (32*i)=PS.take (32*i):=by
     have:=Xr (List.take (32*i)) c;rw [List.take_take,List.take_take,Xan (by omega)] at this;exact this
    have s:h1L PS i=h1L ps i:=by unfold h1L;rw [c]
    have D:h2L PS i=h2L ps i:=by unfold h2L Zby;rw [c,v]
    apply t;rw [<- p.1,<- p.2,s,D,z];exact ⟨by omega,E⟩
   ·exact A
  ·exact A
theorem Zyf {ps:List Zk} {hs:List (Nat×Nat)}:∀(c i:Nat),(∀k,k<c->hs[k]? = some (h1L ps (i+k),h2L ps (i+k)))->hs.length=c->hby hs=Z7 ps i c:=by
 intro c
 induction c generalizing hs with
 | zero=>intro i h a;have:hs=[]:=XP a;subst this;rfl
 | succ c ih =>
   intro i h a;cases hs with
   | nil=>simp at a
   | cons x hs =>
     have e:=h 0 (by omega);simp at e;subst e;rw [Z7,<- ih (i+1) (fun k hk=>by have:=h (k+1) (by omega);simpa [Xat,Nat.add_comm 1 k] using this) (by simpa using a)];simp [hby,ZgE]
theorem ZxD {ps:List Zk} {hs:List (Nat×Nat)} {m:Int} (A:ZaL 0 m b=some (n,lz)) (p:HSt b n false lz (cnt n) hs l0 oh) (h:DSt b n oh l0 n ps [] false) (f:HOk hs ps (cnt n)):Dec b ps:=by
 obtain ⟨c,z,B,s,h⟩:=h;rcases h with ⟨_,hc,q,a⟩|⟨e,_⟩
 ·rcases p.2 with ⟨_,w,t⟩|⟨g,_,_⟩
  ·refine ⟨(Zed ps).2 a,?_⟩;have v:=Zyf (ps:=ps) (hs:=hs) (cnt n) 0 (fun k u=>by rw [XL];exact f k u) p.1;have y:=Zbz A;unfold ZY;rw [z,<- v,Xk,y.1,t,q,XH]
  ·have:=c g;cases this
 ·cases e
theorem ZtS {ps:List Zk} (h:DSt b n oh l0 n ps l o) (a:o=true\/l≠[]):ZgN b:=by
 obtain ⟨f,hl,q,g,h⟩:=h;rcases h with ⟨k,m,he,e⟩|⟨_,_,p⟩
 ·intro PS c;have:=(Zxq m c).2;rcases a with a|a
  ·rw [k] at a;cases a
  ·exact a this
 ·exact p
theorem Zpe {ps:List Zk} (h:DSt b n oh l0 j ps l o):l.length<=l0.length:=by
 rcases h.2.2.2.2 with ⟨_,_,a,_⟩|⟨_,rfl,_⟩
 ·rw [a,Xd];omega
 ·simp
theorem ZAZ {hs:List (Nat×Nat)} (h:HSt b n o lz i hs l0 oh):l0.length<=lz.length:=by
 rcases h.2 with ⟨_,_,a⟩|⟨_,rfl,_⟩
 ·rw [a,Xd];omega
 ·simp
theorem Zvr (e:b.length<4611686018427387904):∀r,Ze 0 (min 65536 ((b.length / 3:Nat):Int)) b false=r->HSt b r.1 false r.2.1 0 [] r.2.1 r.2.2/\r.1<=65536/\r.2.1.length<=b.length/\(r.2.2=true\/ZaL 0 (min 65536 ((b.length / 3:Nat):Int)) b=some (r.1,r.2.1)):=by
 intro r c;have a:=Zc1 0 (min 65536 ((b.length / 3:Nat):Int)) b false;rw [c] at a;rcases Zch 0 (min 65536 ((b.length / 3:Nat):Int)) b with ⟨n,l,h⟩|h
 ·rw [ZbR h] at c;subst c;exact ⟨Zvs e h,by dsimp only at a ⊢;omega,a.2,.inr h⟩
 ·rw [Zav h] at c;subst c;exact ⟨⟨rfl,.inr ⟨rfl,rfl,Zsj rfl h⟩⟩,by simp,by simp,.inl rfl⟩
def ISt (b:Xu) (n:Nat) (oh:Bool) (l0:Xu) (hs:List (Nat×Nat)) (i S j:Nat) (ps:List Zk) (l:Xu) (o:Bool):Prop:=DSt b n oh l0 (32*i+j) ps l o/\(o=false->HOk hs ps i/\S+Zby ps i=l0.length)
theorem Zvy {hs:List (Nat×Nat)} {ps:List Zk} (h:DSt b n oh l0 (min n (32*i)) ps l o) (hi:i<cnt n) (k:o=false->HOk hs ps i):ISt b n oh l0 hs i l.length 0 ps l o:=by
 have e:min n (32*i)=32*i+0:=by unfold cnt at hi;omega
 rw [e] at h;refine ⟨h,fun c=>⟨k c,?_⟩⟩;obtain ⟨_,hl,_,_,h⟩:=h;rcases h with ⟨_,hc,f,g⟩|⟨a,_⟩
 ·unfold Zby;rw [XO (by omega),f,Xd];omega
 ·rw [c] at a;cases a
theorem Zys {hs:List (Nat×Nat)} {ps:List Zk} (h:ISt b n oh l0 hs i S j ps l o) (s:32*i+j<n) (g:PSt (ZI 0 ps) l o d qs l' o'):ISt b n oh l0 hs i S (j+1) (ps++[(d,qs)]) l' o':=by
 refine ⟨ZxF h.1 s g,fun f => ?_⟩;have hl:=h.1.2.1
 have c:o=false:=by
  rcases g.2.2 with ⟨e,_⟩|⟨e,_⟩
  ·rw [<- e];exact f
  ·rw [f] at e;cases e
 obtain ⟨t,m⟩:=h.2 c;constructor
 ·intro k p;obtain ⟨q,a,_⟩:=ZAX ps [(d,qs)] k (by omega);rw [q,a];exact t k p
 ·have a:(ps++[(d,qs)]).take (32*i)=ps.take (32*i):=Xbx (by omega);unfold Zby at m ⊢;rw [a];exact m
theorem ZA4 {f:Bool} {hs:List (Nat×Nat)} {ps:List Zk} (h:ISt b n oh l0 hs i S j ps l o) (s:HSt b n false lz (cnt n) hs l0 f) (hi:i<cnt n) (g:32*i+j=min n (32*(i+1))) {y:Nat} (m:hs[i]? = some (x,y)) (q:ZI 0 ps=d+1) :
  ((x:Int)=d/\(y:Int)=(S:Int) - (l.length:Int)->DSt b n oh l0 (min n (32*(i+1))) ps l o/\(o=false->HOk hs ps (i+1)))/\(¬((x:Int)=d/\(y:Int)=(S:Int) - (l.length:Int))->ZgN b):=by
 have a:=ZxE h.1 s g hi x y m S (fun c=>(h.2 c).2) d q;refine ⟨fun p=>⟨g▸h.1,fun c k hk => ?_⟩,a.2⟩
 by_cases e:k=i
 ·subst e;rw [m,a.1 c p.1 p.2]
 ·exact (h.2 c).1 k (by omega)
theorem Zog (p q:List Zk) (a:∀k,h1L p k<18446744073709551616/\h2L p k<18446744073709551616) (e:∀k,h1L q k<18446744073709551616/\h2L q k<18446744073709551616):∀(c i:Nat) (l m:Xu),Z7 p i c++l=Z7 q i c++m->l=m
 | 0,i,l,m,h=>h
 | c+1,i,l,m,h=>by
   rw [Z7,Z7,ZgE,ZgE] at h;simp only [Xk] at h;obtain ⟨_,h⟩:=Zb0 (a i).1 (e i).1 h;obtain ⟨_,h⟩:=Zb0 (a i).2 (e i).2 h;exact Zog p q a e c (i+1) l m h
theorem Zp6:∀(p q:List Zk) (n:Int),0<=n->okL n p->okL n q->p.length=q.length->ZE n p=ZE n q->p=q
 | [],[],_,_,_,_,_,_=>rfl
 | [],_::_,_,_,_,_,h,_=>by simp at h
 | _::_,[],_,_,_,_,h,_=>by simp at h
 | a::p,c::q,n,hn,hp,hq,hl,h=>by
   rw [okL] at hp hq;rw [ZE,ZE] at h;obtain ⟨f,e⟩:=ZmQ (l:=ZeW n a++ZE (a.1+1) p) hn ⟨hp.1,rfl⟩ ⟨hq.1,h⟩;subst f;rw [Zp6 p q (a.1+1) (by have:=hp.1.1;omega) hp.2 hq.2 (by simpa using hl) e]
theorem ZAB {p q:List Zk} (hb:b.length<4611686018427387904) (a:Dec b p) (c:Dec b q):p=q:=by
 have a1:=Zlg a;have a2:=Zlg c;have e:=a.2.trans c.2.symm;unfold ZY at e;simp only [Xk] at e;obtain ⟨f,g⟩:=Zb0 (by omega) (by omega) e;rw [<- f] at g;have s1:=fun k=>Zjc a k;have s2:=fun k=>Zjc c k;have h:=Zog p q (fun k=>by have:=s1 k;omega) (fun k=>by have:=s2 k;omega) _ _ _ _ g;exact Zp6 p q 0 (Xa7 _) ((Zed p).1 a.1) ((Zed q).1 c.1) f h
open Classical in
noncomputable def Zpa (b:Xu):Option (List Zk):=if h:∃ps,Dec b ps then some (Classical.choose h) else none
theorem ZnQ {ps:List Zk} (c:b.length<4611686018427387904) (h:Dec b ps):Zpa b=some ps:=by
 have a:∃ps,Dec b ps:=⟨ps,h⟩;unfold Zpa;rw [dif_pos a];exact Xr some (ZAB c (Classical.choose_spec a) h)
theorem Zu1 (h:ZgN b):Zpa b=none:=by
 unfold Zpa;rw [dif_neg (fun c=>by obtain ⟨ps,a⟩:=c;exact h ps a)]
