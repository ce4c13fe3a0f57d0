import Derived.Test.YtmomfobdpfajbaaGreatZA5
import Derived.Test.YtmomfobdpfajbaaGreatZA27
set_option maxRecDepth 100000
set_option maxHeartbeats 0
set_option linter.unusedVariables false
set_option linter.unusedSimpArgs false
namespace Go.Proofs.YtmomfobdpfajbaaGreat
open Tryz
namespace TK
open RowKit MM
open UM (ZQ ZU ZY runesL)
variable {row:List Int} {n:Nat}
theorem Zj9 {w:World} {v:Value} {d:List Int} (h:Zc6 w v d):UM.Zr3 w v d:=by
 obtain ⟨p,c,e,_,_,_,h⟩:=h;rw [XF] at e;refine ⟨p,c,e,?_⟩;rcases h with h|⟨b,off,g,a,f⟩
 ·exact .inl (Xbf.1 h)
 ·exact .inr ⟨b,off,g,a,fun i hi=>f i _ (by simp [List.getD,hi])⟩
def Big (row:List Int) (n:Nat):Prop:=∀m,n<m->m<=row.length->m<=32->32<(Zdk (row.take m)).length
theorem ZAs (c:n<=row.length) (a:n<=32) (b:Big row n) (hs:(Zdk (row.take n)).length<=32):Zfs row=Zdk (row.take n):=by
 refine ZnO row n c hs ?_
 by_cases d:n=row.length
 ·exact .inl d
 ·right
  by_cases h2:n<32
  ·exact b (n+1) (by omega) (by omega) (by omega)
  ·have:=(Zyw (row.take (n+1))).1;rw [Xi] at this;omega
theorem ZuH (row:List Int):Big row (min row.length 32):=fun m h1 h2 h3=>by omega
theorem Zxb (a:Big row (n+1)) (h:32<(Zdk (row.take (n+1))).length):Big row n:=fun m h1 c b=>by
 by_cases e:m=n+1
 ·subst e;exact h
 ·exact a m (by omega) c b
def ZsM:Value->Nat
 | .slice _ n _=>n
 | _=>0
theorem Zc5 (l:Xu):(⟨l.toArray⟩:ByteArray).size=l.length:=by rw [Lib.size_eq]
def Zo3 (l:Xu) (w:World) (e:Ending) (w':World):Prop:=e=.returned (.string ⟨l.toArray⟩)/\Below w.heap.size w w'
theorem ZtB (v:Value) (row:List Int) (w:World) (hr:Zc6 w v row) (hl:row.length<=1000000):Calls prog 280 #[v] w (Zo3 (Zfs row) w):=by
 obtain ⟨i0,hi,R,J,I⟩:=info_parts Zgd;obtain ⟨p,ap,rfl,av,ao⟩:=hr.shape;unfold maxLen at ao;obtain ⟨N,hN⟩:=Xn (min row.length 32);obtain ⟨L,hL⟩:=Xn (row.map ZQ);have X:L.length=row.length:=by rw [<- hL,XF]
 have Z:=Y4 X;have aa:=Y4 hL;clear hL X;have G:min (row.length:Int) 32=(N:Int):=by omega
 have i1:(N:Int)<=(ap:Int):=by omega
 have HR:=Y4 hr;have HN:=Y4 hN;clear hr hN;go_enter func280,ntmps280;go_wp2_with (at_make;refine wpList_make_own w rfl _ _ 69 rfl w.heap.size 3 i0 (.int .i64 0) 1 underlying69 hi R J .i64 .i64 32 32 rfl rfl rfl (by rw [I];omega) (by unfold maxLen;omega) (Xa _) ?_)
 intro w1 l ac;have b1:=(Below.refl w.heap.size w).grown ac (Xa _) (fun k h=>by cases h);have ad:Y5 (ZbU w.heap.size w1 _ (L.take 0)):=Y4 l;have ah:=Y4 b1;clear l ac b1;go_wp2_with fail
 go_loopw [3,14] (fun u i wr=>∃k:Nat,k<=N/\i=.int .i64 k/\Y5 (ZbU w.heap.size wr u (L.take k))/\Y5 (Below w.heap.size w wr)) (fun _ i _=>N - (intOf i).toNat)
 case atStart=>exact ⟨0,by omega,rfl,ad,ah⟩
 case round =>
  obtain ⟨k,hk,rfl,HO,D⟩:=hrel;clear ad ah;have aA:N<=row.length:=by have:=HN.z;omega
  have B:=D.z.size
  by_cases ak:k<N
  ·have t1:decide ((k:Int)<(N:Int))=true:=by simp;omega
   have T:k<row.length:=by omega
   obtain ⟨b,off,rfl,aq,z⟩:=HR.z.at_ T;have C:=(D.z.cell (p:=⟨b,off+k,none⟩) aq).trans z
   have O:L.take (k+1)=L.take k++[ZQ (row.getD k 0)]:=by
    rw [<- aa.z,XG (by rw [XF];exact T)];simp [List.getD,T]
   have a:=fun W=>UM.ZvE (row.getD k 0) W;have ax:(L.take k).length<=32:=by rw [Xi];have:=HN.z;omega
   obtain ⟨r,M⟩:=Xn (row.getD k 0);rw [M] at C O;simp only [M] at a;have ar:=Y4 O;have HL:=Y4 a;clear z O a M G hi R J I;go_wp2_with fail;refine (HL.z _).mono ?_;rintro e w2 ⟨rfl,c⟩;have al:=Y4 (HO.z.keep c);have s:=Y4 (D.z.trans (c.mono B));have ab:=s.z.size;clear c;go_wp2_with (at_builtin;refine Zdj rfl _ _ rfl w.heap.size _ _ w2 (ZQ r) rfl rfl al.z rfl (by omega) ab ?_)
   intro v3 w3 d j;rw [<- ar.z] at d;have ai:=Y4 d;have S:=Y4 (s.z.trans j);clear d j;go_wp2_with fail;go_roundw
   case rel=>exact ⟨k+1,by omega,by go_num,ai,S⟩
   case measure=>simp [intOf];omega
  ·obtain rfl:k=N:=by omega
   have x:=HO.z.irow;obtain ⟨q,A,rfl,an,au⟩:=x.shape;have f:(L.take k).length=k:=by rw [Xi,Z.z];omega
   rw [f] at x an ⊢;have ag:=UM.Ze5 _ _ wr (Zj9 x) (by rw [f];omega);have o:=Y4 ag;have U:=Y4 x;have aw:=Y4 f;clear ag x f HO hi R J I;have t1:decide ((k:Int)<(k:Int))=false:=by simp
   go_wp2_with fail;refine (o.z).mono ?_;rintro e w2 ⟨rfl,c⟩;have s:=Y4 (D.z.trans (c.mono B));have af:=Y4 (U.z.below c);clear o c D U G ak t1 au;go_wp2_with fail;have ae:Y5 (Big row k):=Y4 (by have:=ZuH row;rw [HN.z] at this;exact this)
   go_loopw [3,6] (fun u t wr=>∃n:Nat,n<=k/\u=.slice q n A/\t=.string ⟨(ZY (L.take n)).toArray⟩/\Y5 (Big row n)/\Y5 (Zc6 wr (.slice q n A) (L.take n))/\Y5 (Below w.heap.size w wr)) (fun u _ _=>ZsM u)
   case atStart=>exact ⟨k,Xa _,rfl,rfl,ae,af,s⟩
   case round =>
    obtain ⟨n,az,rfl,rfl,HG,U,D⟩:=hrel;clear ae af s;have B:=D.z.size;have a:ZY (L.take n)=Zdk (row.take n):=by rw [<- aa.z,<- List.map_take];rfl
    rw [a];have E:=Zc5 (Zdk (row.take n))
    by_cases g:32<(Zdk (row.take n)).length
    ·have ay:n≠0:=by intro h;subst h;simp [ZeS] at g
     obtain ⟨m,rfl⟩:∃m,n=m+1:=⟨n - 1,by omega⟩;have aj:=Y4 (Zxb HG.z g);have F:=Y4 (Zc6.take U.z m (by omega));have Y:(L.take (m+1)).take m=L.take m:=by rw [List.take_take,Xan (by omega)]
     rw [Y] at F;have H:(L.take m).length=m:=by rw [Xi,Z.z];omega
     have o:=Y4 (UM.Ze5 _ _ wr (Zj9 F.z) (by rw [H];omega));obtain ⟨y,V⟩:∃y:ByteArray,y=⟨(Zdk (row.take (m+1))).toArray⟩:=⟨_,rfl⟩;rw [<- V] at E ⊢;have t1:decide ((y.size:Int)>32)=true:=by simp;omega
     have e1:((m+1:Nat):Int) - 1=(m:Int):=by omega
     have i2:(m:Int)<=(A:Int):=by omega
     clear E V HG U a g Y;go_wp2_with fail;refine (o.z).mono ?_;rintro e w3 ⟨rfl,j⟩;have S:=Y4 (D.z.trans (j.mono B));have am:=Y4 (F.z.below j);clear j F o;go_wp2;go_roundw
     case rel=>exact ⟨m,by omega,rfl,rfl,aj,am,S⟩
     case measure=>simp [ZsM]
    ·have HF:=Y4 (ZAs (row:=row) (n:=n) (by omega) (by have:=HN.z;omega) HG.z (by omega));obtain ⟨y,V⟩:∃y:ByteArray,y=⟨(Zdk (row.take n)).toArray⟩:=⟨_,rfl⟩;rw [<- V] at E ⊢;have t1:decide ((y.size:Int)>32)=false:=by simp;omega
     have HY:=Y4 V;clear E V HG U a g;go_wp2_with fail;go_ret;unfold Zo3;rw [HF.z,HY.z];exact ⟨rfl,D.z⟩
theorem Zrp (v:Value) (row:List Int) (w:World) (J:Zc6 w v row) (hl:row.length<=1000000):Calls prog 121 #[v] w (Zo3 (Zfs row) w):=by
 obtain ⟨p,ab,rfl,U,M⟩:=J.shape;unfold maxLen at M;have HR:=Y4 J;have z:Y5 (Below w.heap.size w w):=Y4 (Below.refl _ _);have B:Y5 (([]:Xu)++ZeI (32 - ([]:Xu).length) (row.drop 0)=Zfs row/\([]:Xu).length<=32):=Y4 ⟨rfl,by simp⟩;clear J;go_enter func121,ntmps121;go_wp2_with fail
 go_loopw [3,4] (fun t i wr=>∃(k:Nat) (x:Xu),k<=row.length/\i=.int .i64 k/\t=.string ⟨x.toArray⟩/\Y5 (x++ZeI (32 - x.length) (row.drop k)=Zfs row/\x.length<=32)/\Y5 (Below w.heap.size w wr)) (fun _ i _=>row.length - (intOf i).toNat)
 case atStart=>exact ⟨0,[],by omega,rfl,rfl,B,z⟩
 case round =>
  obtain ⟨k,x,hk,rfl,rfl,F,E⟩:=hrel;clear B z;have H:=E.z.size
  by_cases m:k<row.length
  ·have t1:decide ((k:Int)<(row.length:Int))=true:=by simp;omega
   obtain ⟨b,off,rfl,O,f⟩:=HR.z.at_ m;have g:=(E.z.cell (p:=⟨b,off+k,none⟩) O).trans f;have q:row.drop k=row.getD k 0::row.drop (k+1):=by rw [X7 m];simp [List.getD,m]
   have hs:=F.z;rw [q,ZeI] at hs;have d:=fun W=>UM.Ztb (row.getD k 0) W;obtain ⟨r,j⟩:=Xn (row.getD k 0);rw [j] at g hs;simp only [j] at d;have HL:=Y4 d;have l:=Y4 hs;clear f d j q hs F;go_wp2_with fail;refine (HL.z _).mono ?_;rintro e w2 ⟨rfl,rfl⟩;have h:Zc6 (wr.alloc (.cells #[.int .i64 (ZQ r)] 3)) (.slice (some ⟨wr.heap.size,0,none⟩) 1 1) [ZQ r]:=Row.of_own (ZdO wr [.int .i64 (ZQ r)] 3 0 (XX _) (by unfold maxLen;simp));have o:=Y4 (UM.Zd0 _ _ _ (Zj9 h) (by simp));have T:Below wr.heap.size wr (wr.alloc (.cells #[.int .i64 (ZQ r)] 3)):=(Below.refl _ _).alloc (Xa _) _;have C:=Y4 (E.z.trans (T.mono H));clear h T;go_wp2_with fail;refine (o.z).mono ?_;rintro e w3 ⟨rfl,s⟩;rw [show ZY [ZQ r]=Zfu r by simp [ZY,Zfu]];have A:=Y4 (C.z.trans (s.mono (by simp;omega)));clear C s o HL;have I:=Zc5 x;have L:=Zc5 (Zfu r);have a:=ZfE x (Zfu r);obtain ⟨X,G⟩:∃y:ByteArray,y=⟨x.toArray⟩:=⟨_,rfl⟩;obtain ⟨Y,N⟩:∃y:ByteArray,y=⟨(Zfu r).toArray⟩:=⟨_,rfl⟩;obtain ⟨Z,D⟩:∃y:ByteArray,y=⟨(x++Zfu r).toArray⟩:=⟨_,rfl⟩;rw [<- G] at I a ⊢;rw [<- N] at L a ⊢;rw [<- D] at a;have hs:=l.z;have aa:=(Zjh r).2;have S:=hs.2
   by_cases c:(Zfu r).length<=32 - x.length
   ·rw [Xe c] at hs;have t2:decide (32<(x.length:Int)+((Zfu r).length:Int))=false:=by simp;omega
    have u:Y5 ((x++Zfu r)++ZeI (32 - (x++Zfu r).length) (row.drop (k+1))=Zfs row/\(x++Zfu r).length<=32):=Y4 ⟨by rw [<- hs.1,Xk,Xd,Nat.sub_sub],by rw [Xd];omega⟩;have V:=Y4 D;have HC:=Y4 a;clear hs l c G N D a;go_wp2_with fail;rw [HC.z,V.z];go_roundw
    case rel=>exact ⟨k+1,_,by omega,by go_num,rfl,u,A⟩
    case measure=>simp [intOf];omega
   ·rw [Xc c] at hs;have t2:decide (32<(x.length:Int)+((Zfu r).length:Int))=true:=by simp;omega
    have u:Y5 (x=Zfs row):=Y4 (by rw [<- hs.1,XH]);have R:=Y4 G;clear hs l c G N D a;go_wp2_with fail;go_ret;rw [R.z,u.z];exact ⟨rfl,A.z⟩
  ·obtain rfl:k=row.length:=by omega
   have t1:decide ((row.length:Int)<(row.length:Int))=false:=by simp
   have hs:=F.z.1;rw [Xaf,ZeI,XH] at hs;have u:=Y4 hs;clear hs F;go_wp2_with fail;go_ret;rw [u.z];exact ⟨rfl,E.z⟩
end TK
namespace TK
open RowKit MM
open UM (ZQ ZU ZY runesL)
variable {B n cap k b off:Nat} {w:World} {v:Value} {zs all rest:List Int} {p:Option Addr} {ss:List Xu}
def IIn (B:Nat) (w:World) (v:Value) (zs:List Int):Prop:=ZaY B w v (zs.map (Value.int .i64))
theorem IIn.below {w':World} (h:IIn B w v zs) (a:Below B w w'):IIn B w' v zs:=ZaY.below h a
theorem IIn.row (h:IIn B w v zs) (a:B<=w.heap.size):Zc6 w v zs:=ZaY.mono h a
theorem IIn.shape (h:IIn B w v zs):∃p cap,v=.slice p zs.length cap/\zs.length<=cap/\cap<=maxLen:=by
 obtain ⟨p,cap,c,a,d,_,_⟩:=h;rw [XF] at c a;exact ⟨p,cap,c,a,d⟩
theorem IIn.at_ (h:IIn B w (.slice p n cap) zs) (c:k<zs.length) :
  ∃b off,p=some ⟨b,off,none⟩/\b<B/\w.cell? ⟨b,off+k,none⟩=some (.int .i64 (zs.getD k 0)):=by
 obtain ⟨p',cap',d,_,_,_,h⟩:=h;simp only [Value.slice.injEq] at d;obtain ⟨rfl,_,_⟩:=d;rcases h with h|⟨b,off,f,a,e⟩
 ·have:zs=[]:=Xbf.1 h;subst this;simp at c
 ·exact ⟨b,off,f,a,e k _ (by simp [List.getD,c])⟩
theorem IIn.take (h:IIn B w (.slice p n cap) zs) (k:Nat) (a:k<=n):IIn B w (.slice p k cap) (zs.take k):=by
 have:=ZaY.take h k a;rw [<- List.map_take] at this;exact this
theorem IIn.drop2 (h:IIn B w (.slice (some ⟨b,off,none⟩) n cap) zs) (k:Nat) (d:k<=n) :
  (cap=k->IIn B w (.slice (some ⟨b,off,none⟩) (n - k) 0) (zs.drop k))/\(¬cap=k->IIn B w (.slice (some ⟨b,off+k,none⟩) (n - k) (cap - k)) (zs.drop k)):=by
 have a:=ZaY.drop h k d;rw [<- List.map_drop] at a;constructor
 ·intro c;rw [Xe c,c,Xaw] at a;exact a
 ·intro c;rw [Xc c,Xae,ZZ] at a;exact a
theorem IIn.drop3 (h:IIn B w (.slice (some ⟨b,off,none⟩) n cap) zs) (k:Nat) (c:k<=n) :
  IIn B w (.slice (if cap=k then some ⟨b,off,none⟩ else some ⟨b,off+k,none⟩) (n - k) (cap - k)) (zs.drop k):=by
 have a:=ZaY.drop h k c;rw [<- List.map_drop,Xae,ZZ] at a;exact a
def Zw7 (B:Nat) (ss:List Xu) (w:World) (e:Ending) (w':World):Prop:=∃v,e=.returned v/\ZbL B w' v ss/\Below B w w'
theorem ZrS (B:Nat) (u:Value) (ss:List Xu) (v:Value) (zs:List Int) (w:World) (s:B<=w.heap.size) (a:ZbL B w u ss) (j:Zc6 w v zs) (x:zs.length<=1000000) (hs:ss.length<=1000000) :
  Calls prog 271 #[u,v] w (Zw7 B (ss++(one zs).map Zfs) w):=by
 obtain ⟨p,cap,rfl,t,z⟩:=j.shape
 by_cases i:zs=[]
 ·subst i;rw [Zps,XN,XH];have m:=Y4 a;clear a j;go_enter func271,ntmps271;go_wp2_with fail;go_ret;exact ⟨_,rfl,m.z,Below.refl _ _⟩
 ·have r:=Y4 (ZtB _ _ _ j x);have A:=Xaa.2 i;have t1:((zs.length:Int) == 0)=false:=by simp;omega
  rw [Zpr i,Xbu];have m:=Y4 a;clear a j i;go_enter func271,ntmps271;go_wp2_with fail;refine r.z.mono ?_;rintro e y ⟨rfl,d⟩;have o:=Y4 (m.z.keep d);have h:=Y4 (d.mono s);have f:=h.z.size;clear d r;go_wp2_with (at_builtin;refine Zb8 rfl _ _ rfl B u ss y (Zfs zs) rfl rfl o.z rfl (by omega) (Xy s f) ?_)
  intro v3 w3 c g;have l:=Y4 c;have q:=Y4 (h.z.trans g);clear c g;go_wp2_with fail;go_ret;exact ⟨_,rfl,l.z,q.z⟩
def ZuC (ss:List Xu) (w:World) (e:Ending) (w':World):Prop:=∃v,e=.returned v/\ZbL w.heap.size w' v ss/\Below w.heap.size w w'
def Far (all rest:List Int) (ss:List Xu):Prop:=ss++Zbl rest=Zbl all/\ss.length+rest.length<=all.length
theorem Zqx (h:Far all rest ss) (c:k<rest.length) (f:∀r∈rest.take k,ZU r=true) (d:ZU (rest.getD k 0)=false):Far all (rest.drop (k+1)) (ss++(one (rest.take k)).map Zfs):=by
 have e:rest=rest.take k++rest.getD k 0::rest.drop (k+1):=by
  have a:=X8 k rest;rw [X7 c] at a;rw [<- a];simp [List.getD,c]
 have a:Zbl rest=(one (rest.take k)).map Zfs++Zbl (rest.drop (k+1)):=by
  conv=>lhs;rw [e]
  unfold Zbl;rw [ZiL f d,XM]
 refine ⟨by rw [Xk,<- a];exact h.1,?_⟩;have h2:=h.2;have h3:(one (rest.take k)).length<=1:=by unfold one;split<;>simp
 rw [Xd,XF,Xp];omega
theorem ZAO (h:Far all rest ss) (a:∀r∈rest,ZU r=true):ss++(one rest).map Zfs=Zbl all:=by
 rw [<- h.1];congr 1
 unfold Zbl;rw [Zkl a]
theorem ZoS (a:k<rest.length) (c:∀r∈rest.take k,ZU r=true) (d:ZU (rest.getD k 0)=true):∀r∈rest.take (k+1),ZU r=true:=by
 intro r h;rw [XG a,Xam] at h;rcases h with h|h
 ·exact c r h
 ·simp at h;subst h;simpa [List.getD,a] using d
theorem ZwL (s:ByteArray) (w:World) (hs:s.size<=1000000):Calls prog 249 #[.string s] w (ZuC (Z4 s.data.toList) w):=by
 have j:=UM.Zwd s w hs;have y:=UM.Zfy s.data.toList;rw [<- Lib.size_eq] at y;unfold UM.Zeo at j;unfold Z4;obtain ⟨zs,A⟩:=Xn (runesL s.data.toList);rw [A] at j y ⊢;have HR:=Y4 j;have ak:zs.length<=1000000:=by omega
 clear j A y;go_enter func249,ntmps249;go_wp2_with fail
 go_step3
 go_wp2_with fail;refine HR.z.mono ?_;rintro e f ⟨v,rfl,F,S⟩;have aa:IIn f.heap.size f v zs:=ZbU.irow F;have U:=Y4 aa;have X:=Y4 S;have h:=S.size;have Y:Y5 (ZbL f.heap.size f (.slice none 0 0) []):=Y4 (ZbL.nil_ _ _);have ac:Y5 (Far zs zs []):=Y4 ⟨rfl,by simp⟩;have ab:Y5 (Below f.heap.size f f):=Y4 (Below.refl _ _);clear aa F S HR;go_wp2_with fail
 go_step3
 go_wp2_with fail
 go_loopw [3,4] (fun u t wr=>∃(rest:List Int) (ss:List Xu),Y5 (Far zs rest ss)/\Y5 (IIn f.heap.size wr t rest)/\Y5 (ZbL f.heap.size wr u ss)/\Y5 (Below f.heap.size f wr)) (fun _ t _=>ZsM t)
 case atStart=>exact ⟨zs,[],ac,U,Y,ab⟩
 case round =>
  obtain ⟨rest,ss,HF,G,J,L⟩:=hrel;clear ac U Y ab;obtain ⟨p,cap,rfl,al,ah⟩:=G.z.shape;unfold maxLen at ah;have ai:=HF.z.2
  by_cases O:rest=[]
  ·subst O;have hf:=HF.z.1;have e0:Zbl []=[]:=rfl;rw [e0,XH] at hf;subst hf;have af:=Y4 (J.z.weaken h);have ag:=Y4 (X.z.trans (L.z.mono h));clear J G HF ai;go_wp2_with fail;go_ret;exact ⟨_,rfl,af.z,ag.z⟩
  ·have am:=Xaa.2 O;have t1:decide ((rest.length:Int)>0)=true:=by simp;omega
   have Z:Y5 (∀r∈rest.take 0,ZU r=true):=Y4 (by simp);clear O;go_wp2_with fail
   go_loopw [3,4,14] (fun u t i wr=>∃k:Nat,k<=rest.length/\i=.int .i64 k/\t=.slice p rest.length cap/\Y5 (∀r∈rest.take k,ZU r=true)/\Y5 (IIn f.heap.size wr (.slice p rest.length cap) rest)/\Y5 (ZbL f.heap.size wr u ss)/\Y5 (Below f.heap.size f wr)) (fun _ _ i _=>rest.length - (intOf i).toNat)
   case atStart=>exact ⟨0,by omega,rfl,rfl,Z,G,J,L⟩
   case round =>
    obtain ⟨k,hk,rfl,rfl,T,G,J,L⟩:=hrel;clear Z;have l:=L.z.size
    by_cases N:k<rest.length
    ·have t2:decide ((k:Int)<(rest.length:Int))=true:=by simp;omega
     obtain ⟨b,off,rfl,an,g⟩:=G.z.at_ N;have a:=fun W=>UM.Zz2 (rest.getD k 0) W;obtain ⟨r,m⟩:=Xn (rest.getD k 0);rw [m] at g;simp only [m] at a;cases A:ZU r with
     | true =>
       simp only [A] at a;have aj:=Y4 (ZoS N T.z (by rw [m];exact A));have z:=Y4 a;clear a A m T;go_wp2_with fail;refine (z.z _).mono ?_;rintro e w2 ⟨rfl,d⟩;have D:=Y4 (L.z.trans (d.mono l));have M:=Y4 (J.z.keep d);have C:=Y4 (G.z.below (d.mono l));clear d z g;go_wp2_with fail;go_roundw
       case rel=>exact ⟨k+1,by omega,by go_num,rfl,aj,C,M,D⟩
       case measure=>simp [intOf];omega
     | false =>
       simp only [A] at a;have ae:=Y4 (Zqx HF.z N T.z (by rw [m];exact A));have z:=Y4 a;have i1:(k:Int)<=(cap:Int):=by omega
       have i2:(k:Int)+1<=(rest.length:Int):=by omega
       have i3:(rest.length:Int)<=(cap:Int):=by omega
       clear a A m T;go_wp2_with fail;refine (z.z _).mono ?_;rintro e w2 ⟨rfl,d⟩;have D:=Y4 (L.z.trans (d.mono l));have M:=Y4 (J.z.keep d);have C:=Y4 (G.z.below (d.mono l));have E:=D.z.size;clear d z g;have q:=ZrS f.heap.size _ ss _ _ w2 E M.z ((C.z.take k (by omega)).row E) (by rw [Xi];omega) (by omega);have x:=Y4 q;clear q;go_wp2_with fail;refine x.z.mono ?_;rintro e w3 ⟨v3,rfl,c,o⟩;have I:=Y4 c;have R:=Y4 (D.z.trans o);have ad:=Y4 ((C.z.below o).drop3 (k+1) (by omega));clear c o x;go_wp2_with fail;go_roundw
       case rel=>exact ⟨_,_,ae,ad,I,R⟩
       case measure=>simp [ZsM];omega
    ·obtain rfl:k=rest.length:=by omega
     have t2:decide ((rest.length:Int)<(rest.length:Int))=false:=by simp
     have H:=T.z;rw [XB] at H;have V:=ZAO HF.z H;have q:=ZrS f.heap.size _ ss _ _ wr l J.z (G.z.row l) (by omega) (by omega);rw [V] at q;have x:=Y4 q;clear q H V;go_wp2_with fail;refine x.z.mono ?_;rintro e w3 ⟨v3,rfl,c,o⟩;have I:=Y4 (c.weaken h);have R:=Y4 (X.z.trans ((L.z.trans o).mono h));clear c o x;go_wp2_with fail;go_ret;exact ⟨_,rfl,I.z,R.z⟩
